/- The ratio turned round: both texts. -/
import Derived.Test.YtmidobhfahpkcaaRg
set_option linter.unusedVariables false
set_option linter.unusedSimpArgs false
namespace Go.Proofs.Ytmidobhfahpkcaa
open Go.RowKit

def turnP (p : Dt) : Dt := if ratB p = true then (p.2, p.1) else (0, 0)

set_option maxHeartbeats 1000000 in
theorem specTurn_any (y d : Int) (w : World) : Calls Try.prog 32 #[.agg #[.int .i64 y, .int .i64 d]] w (RetPB (turnP (y, d)) (ratB (y, d)) w) := by
  have HW0 := Lib.hid (((Below.refl w.heap.size w).alloc (Nat.le_refl _) (.cells #[.int .i64 y, .int .i64 d] 25)).alloc (by simp) (.cells #[.int .i64 0, .int .i64 0] 25))
  have HA0 := fun w => raGood_any y d w
  cases hg : ratB (y, d) with
  | false =>
    rw [show turnP (y, d) = (0, 0) by unfold turnP; rw [hg]; rfl]
    rw [hg] at HA0
    have HA := Lib.hid HA0
    clear HA0 hg
    go_enter Try.func32, Try.ntmps32
    go_wp2_with (first | (go_at_call_of 49 (Value.int IntKind.i64 y); refine (HA.out _).mono ?_; rintro e w' ⟨rfl, hcall⟩; have hbw : Below w.heap.size w w' := (by first | exact Below.trans (by assumption) (Below.mono hcall (Below.size (by assumption))) | exact Below.trans (Below.drew (by assumption)) (Below.mono hcall (Below.size (Below.drew (by assumption)))) | exact HW0.out.trans (hcall.mono (by simp <;> omega)) | exact HW0.out.drew.trans (hcall.mono (by simp <;> omega))); have q1 : w'.cell? ⟨w.heap.size, 0, none⟩ = some (.int .i64 y) := below_cell2 hcall (by first | assumption | (simp; done) | (simp [go_sem]; done) | simp [*]); have q2 : w'.cell? ⟨w.heap.size, 1, none⟩ = some (.int .i64 d) := below_cell2 hcall (by first | assumption | (simp; done) | (simp [go_sem]; done) | simp [*]); have r0 : w'.cell? ⟨w.heap.size + 1, 0, none⟩ = some (.int .i64 0) := below_cell2 hcall (by first | assumption | (simp; done) | (simp [go_sem]; done) | simp [*]); have r1 : w'.cell? ⟨w.heap.size + 1, 1, none⟩ = some (.int .i64 0) := below_cell2 hcall (by first | assumption | (simp; done) | (simp [go_sem]; done) | simp [*]); have z0 : w'.frozen? ⟨w.heap.size + 1, 0, none⟩ = false := (hcall.frozen (p := ⟨w.heap.size + 1, 0, none⟩) (by first | (simp; done) | exact World.block_lt_of_cell? _ ⟨w.heap.size + 1, 0, none⟩ (by assumption))).trans (by first | (simp; done) | assumption | (simp [go_sem]; done) | (simp [*]; done)); have z1 : w'.frozen? ⟨w.heap.size + 1, 1, none⟩ = false := (hcall.frozen (p := ⟨w.heap.size + 1, 1, none⟩) (by first | (simp; done) | exact World.block_lt_of_cell? _ ⟨w.heap.size + 1, 0, none⟩ (by assumption))).trans (by first | (simp; done) | assumption | (simp [go_sem]; done) | (simp [*]; done)); clear hcall))
    obtain ⟨s0, s1⟩ := two_cells r0 r1
    refine bodyPost_ret (v := .tuple #[.agg #[.int .i64 0, .int .i64 0], .bool false]) (by simp [results, Try.results32, go_sem, s0, s1]) rfl ?_
    exact ⟨rfl, (hbw.setCell (by simp <;> omega) _).setCell (by simp <;> omega) _⟩
  | true =>
    rw [show turnP (y, d) = (d, y) by unfold turnP; rw [hg]; rfl]
    rw [hg] at HA0
    have HA := Lib.hid HA0
    clear HA0 hg
    go_enter Try.func32, Try.ntmps32
    go_wp2_with (first | (go_at_call_of 49 (Value.int IntKind.i64 y); refine (HA.out _).mono ?_; rintro e w' ⟨rfl, hcall⟩; have hbw : Below w.heap.size w w' := (by first | exact Below.trans (by assumption) (Below.mono hcall (Below.size (by assumption))) | exact Below.trans (Below.drew (by assumption)) (Below.mono hcall (Below.size (Below.drew (by assumption)))) | exact HW0.out.trans (hcall.mono (by simp <;> omega)) | exact HW0.out.drew.trans (hcall.mono (by simp <;> omega))); have q1 : w'.cell? ⟨w.heap.size, 0, none⟩ = some (.int .i64 y) := below_cell2 hcall (by first | assumption | (simp; done) | (simp [go_sem]; done) | simp [*]); have q2 : w'.cell? ⟨w.heap.size, 1, none⟩ = some (.int .i64 d) := below_cell2 hcall (by first | assumption | (simp; done) | (simp [go_sem]; done) | simp [*]); have r0 : w'.cell? ⟨w.heap.size + 1, 0, none⟩ = some (.int .i64 0) := below_cell2 hcall (by first | assumption | (simp; done) | (simp [go_sem]; done) | simp [*]); have r1 : w'.cell? ⟨w.heap.size + 1, 1, none⟩ = some (.int .i64 0) := below_cell2 hcall (by first | assumption | (simp; done) | (simp [go_sem]; done) | simp [*]); have z0 : w'.frozen? ⟨w.heap.size + 1, 0, none⟩ = false := (hcall.frozen (p := ⟨w.heap.size + 1, 0, none⟩) (by first | (simp; done) | exact World.block_lt_of_cell? _ ⟨w.heap.size + 1, 0, none⟩ (by assumption))).trans (by first | (simp; done) | assumption | (simp [go_sem]; done) | (simp [*]; done)); have z1 : w'.frozen? ⟨w.heap.size + 1, 1, none⟩ = false := (hcall.frozen (p := ⟨w.heap.size + 1, 1, none⟩) (by first | (simp; done) | exact World.block_lt_of_cell? _ ⟨w.heap.size + 1, 0, none⟩ (by assumption))).trans (by first | (simp; done) | assumption | (simp [go_sem]; done) | (simp [*]; done)); clear hcall))
    obtain ⟨s0, s1⟩ := two_cells r0 r1
    refine bodyPost_ret (v := .tuple #[.agg #[.int .i64 d, .int .i64 y], .bool true]) (by simp [results, Try.results32, go_sem, s0, s1]) rfl ?_
    exact ⟨rfl, (hbw.setCell (by simp <;> omega) _).setCell (by simp <;> omega) _⟩

set_option maxHeartbeats 1000000 in
theorem turn_any (y d : Int) (w : World) : Calls Try.prog 33 #[.agg #[.int .i64 y, .int .i64 d]] w (RetPB (turnP (y, d)) (ratB (y, d)) w) := by
  have HW0 := Lib.hid (((Below.refl w.heap.size w).alloc (Nat.le_refl _) (.cells #[.int .i64 y, .int .i64 d] 25)).alloc (by simp) (.cells #[.int .i64 0, .int .i64 0] 25))
  have HA0 := fun w => isRatio_any y d w
  cases hg : ratB (y, d) with
  | false =>
    rw [show turnP (y, d) = (0, 0) by unfold turnP; rw [hg]; rfl]
    rw [hg] at HA0
    have HA := Lib.hid HA0
    clear HA0 hg
    go_enter Try.func33, Try.ntmps33
    go_wp2_with (first | (go_at_call_of 17 (Value.int IntKind.i64 y); refine (HA.out _).mono ?_; rintro e w' ⟨rfl, hcall⟩; have hbw : Below w.heap.size w w' := (by first | exact Below.trans (by assumption) (Below.mono hcall (Below.size (by assumption))) | exact Below.trans (Below.drew (by assumption)) (Below.mono hcall (Below.size (Below.drew (by assumption)))) | exact HW0.out.trans (hcall.mono (by simp <;> omega)) | exact HW0.out.drew.trans (hcall.mono (by simp <;> omega))); have q1 : w'.cell? ⟨w.heap.size, 0, none⟩ = some (.int .i64 y) := below_cell2 hcall (by first | assumption | (simp; done) | (simp [go_sem]; done) | simp [*]); have q2 : w'.cell? ⟨w.heap.size, 1, none⟩ = some (.int .i64 d) := below_cell2 hcall (by first | assumption | (simp; done) | (simp [go_sem]; done) | simp [*]); have r0 : w'.cell? ⟨w.heap.size + 1, 0, none⟩ = some (.int .i64 0) := below_cell2 hcall (by first | assumption | (simp; done) | (simp [go_sem]; done) | simp [*]); have r1 : w'.cell? ⟨w.heap.size + 1, 1, none⟩ = some (.int .i64 0) := below_cell2 hcall (by first | assumption | (simp; done) | (simp [go_sem]; done) | simp [*]); have z0 : w'.frozen? ⟨w.heap.size + 1, 0, none⟩ = false := (hcall.frozen (p := ⟨w.heap.size + 1, 0, none⟩) (by first | (simp; done) | exact World.block_lt_of_cell? _ ⟨w.heap.size + 1, 0, none⟩ (by assumption))).trans (by first | (simp; done) | assumption | (simp [go_sem]; done) | (simp [*]; done)); have z1 : w'.frozen? ⟨w.heap.size + 1, 1, none⟩ = false := (hcall.frozen (p := ⟨w.heap.size + 1, 1, none⟩) (by first | (simp; done) | exact World.block_lt_of_cell? _ ⟨w.heap.size + 1, 0, none⟩ (by assumption))).trans (by first | (simp; done) | assumption | (simp [go_sem]; done) | (simp [*]; done)); clear hcall))
    obtain ⟨s0, s1⟩ := two_cells r0 r1
    refine bodyPost_ret (v := .tuple #[.agg #[.int .i64 0, .int .i64 0], .bool false]) (by simp [results, Try.results33, go_sem, s0, s1]) rfl ?_
    exact ⟨rfl, (hbw.setCell (by simp <;> omega) _).setCell (by simp <;> omega) _⟩
  | true =>
    rw [show turnP (y, d) = (d, y) by unfold turnP; rw [hg]; rfl]
    rw [hg] at HA0
    have HA := Lib.hid HA0
    clear HA0 hg
    go_enter Try.func33, Try.ntmps33
    go_wp2_with (first | (go_at_call_of 17 (Value.int IntKind.i64 y); refine (HA.out _).mono ?_; rintro e w' ⟨rfl, hcall⟩; have hbw : Below w.heap.size w w' := (by first | exact Below.trans (by assumption) (Below.mono hcall (Below.size (by assumption))) | exact Below.trans (Below.drew (by assumption)) (Below.mono hcall (Below.size (Below.drew (by assumption)))) | exact HW0.out.trans (hcall.mono (by simp <;> omega)) | exact HW0.out.drew.trans (hcall.mono (by simp <;> omega))); have q1 : w'.cell? ⟨w.heap.size, 0, none⟩ = some (.int .i64 y) := below_cell2 hcall (by first | assumption | (simp; done) | (simp [go_sem]; done) | simp [*]); have q2 : w'.cell? ⟨w.heap.size, 1, none⟩ = some (.int .i64 d) := below_cell2 hcall (by first | assumption | (simp; done) | (simp [go_sem]; done) | simp [*]); have r0 : w'.cell? ⟨w.heap.size + 1, 0, none⟩ = some (.int .i64 0) := below_cell2 hcall (by first | assumption | (simp; done) | (simp [go_sem]; done) | simp [*]); have r1 : w'.cell? ⟨w.heap.size + 1, 1, none⟩ = some (.int .i64 0) := below_cell2 hcall (by first | assumption | (simp; done) | (simp [go_sem]; done) | simp [*]); have z0 : w'.frozen? ⟨w.heap.size + 1, 0, none⟩ = false := (hcall.frozen (p := ⟨w.heap.size + 1, 0, none⟩) (by first | (simp; done) | exact World.block_lt_of_cell? _ ⟨w.heap.size + 1, 0, none⟩ (by assumption))).trans (by first | (simp; done) | assumption | (simp [go_sem]; done) | (simp [*]; done)); have z1 : w'.frozen? ⟨w.heap.size + 1, 1, none⟩ = false := (hcall.frozen (p := ⟨w.heap.size + 1, 1, none⟩) (by first | (simp; done) | exact World.block_lt_of_cell? _ ⟨w.heap.size + 1, 0, none⟩ (by assumption))).trans (by first | (simp; done) | assumption | (simp [go_sem]; done) | (simp [*]; done)); clear hcall))
    obtain ⟨s0, s1⟩ := two_cells r0 r1
    refine bodyPost_ret (v := .tuple #[.agg #[.int .i64 d, .int .i64 y], .bool true]) (by simp [results, Try.results33, go_sem, s0, s1]) rfl ?_
    exact ⟨rfl, (hbw.setCell (by simp <;> omega) _).setCell (by simp <;> omega) _⟩

theorem turn_both (y d : Int) : ∃ (p : Dt) (ok : Bool), (∀ w, Calls Try.prog 32 #[.agg #[.int .i64 y, .int .i64 d]] w (RetPB p ok w)) ∧ ∀ w, Calls Try.prog 33 #[.agg #[.int .i64 y, .int .i64 d]] w (RetPB p ok w) :=
  ⟨_, _, fun w => specTurn_any y d w, fun w => turn_any y d w⟩
end Go.Proofs.Ytmidobhfahpkcaa
