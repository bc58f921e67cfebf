/- Dates so many days later, of the model. -/
import Derived.Test.YtbhceokapbnhhabBi4
set_option linter.unusedVariables false
set_option linter.unusedSimpArgs false
namespace Go.Proofs.Ytbhceokapbnhhab
open Go.RowKit

def addD (p : Dt) (n : Int) : Bool := dateB p && inB n (-2000000) 2000000
def addP (p : Dt) (n : Int) : Dt := if addD p n = true then backD (dys p + n) else (0, 0)
def addB (p : Dt) (n : Int) : Bool := addD p n && backOk (dys p + n)
set_option maxHeartbeats 4000000 in
set_option maxRecDepth 100000 in
theorem specAddDays_any (y d n : Int) (w : World) : Calls Try.prog 21 #[.agg #[.int .i64 y, .int .i64 d], .int .i64 n] w (RetPB (addP (y, d) n) (addB (y, d) n) w) := by
  have HW0 := Lib.hid (((Below.refl w.heap.size w).alloc (Nat.le_refl _) (.cells #[.int .i64 y, .int .i64 d] 25)).alloc (by simp) (.cells #[.int .i64 0, .int .i64 0] 25))
  have HA0 := fun w => biDate_any y d w
  cases h1 : dateB (y, d) with
  | false =>
    rw [show addB (y, d) n = false by unfold addB addD; rw [h1]; rfl, show addP (y, d) n = (0, 0) by unfold addP addD; rw [h1]; rfl]
    rw [h1] at HA0
    have HA := Lib.hid HA0
    clear HA0 h1
    go_enter Try.func21, Try.ntmps21
    go_wp2_with (first | (go_at_call_of 32 (Value.int IntKind.i64 y); refine (HA.out _).mono ?_; rintro e w' ⟨rfl, hcall⟩; have hbw : Below w.heap.size w w' := (by first | exact Below.trans (by assumption) (Below.mono hcall (Below.size (by assumption))) | exact Below.trans (Below.drew (by assumption)) (Below.mono hcall (Below.size (Below.drew (by assumption)))) | exact HW0.out.trans (hcall.mono (by simp; omega)) | exact HW0.out.drew.trans (hcall.mono (by simp; omega))); have q1 : w'.cell? ⟨w.heap.size, 0, none⟩ = some (.int .i64 y) := below_cell2 hcall (by first | assumption | simp | simp [*]); have q2 : w'.cell? ⟨w.heap.size, 1, none⟩ = some (.int .i64 d) := below_cell2 hcall (by first | assumption | simp | simp [*]); obtain ⟨x0, r0⟩ : ∃ u, w'.cell? ⟨w.heap.size + 1, 0, none⟩ = some u := (by first | exact ⟨_, below_cell2 hcall (by assumption)⟩ | exact ⟨_, below_cell2 hcall (by simp; rfl)⟩); obtain ⟨x1, r1⟩ : ∃ u, w'.cell? ⟨w.heap.size + 1, 1, none⟩ = some u := (by first | exact ⟨_, below_cell2 hcall (by assumption)⟩ | exact ⟨_, below_cell2 hcall (by simp; rfl)⟩); have fz : ∀ j, w'.frozen? ⟨w.heap.size + 1, j, none⟩ = false := (by intro j; refine (hcall.frozen (p := ⟨w.heap.size + 1, j, none⟩) (by first | (simp; done) | exact World.block_lt_of_cell? _ ⟨w.heap.size + 1, 0, none⟩ (by assumption))).trans ?_; first | (simp; done) | simp [*]); clear hcall))
    obtain ⟨s0, s1⟩ := two_cells r0 r1
    refine bodyPost_ret (v := .tuple #[.agg #[.int .i64 0, .int .i64 0], .bool false]) (by simp [results, Try.results21, go_sem, s0, s1]) rfl ?_
    exact ⟨rfl, (hbw.setCell (by simp) _).setCell (by simp) _⟩
  | true =>
  cases h2 : inB n (-2000000) 2000000 with
  | false =>
    rw [show addB (y, d) n = false by unfold addB addD; rw [h1, h2]; rfl, show addP (y, d) n = (0, 0) by unfold addP addD; rw [h1, h2]; rfl]
    rw [h1] at HA0
    have HA := Lib.hid HA0
    have HI := Lib.hid (fun w => (show Calls Try.prog 40 #[.int .i64 n, .int .i64 (-2000000), .int .i64 2000000] w (RetSame (.bool false) w) from by rw [← h2]; exact l1InD_any n (-2000000) 2000000 w))
    clear HA0 h1 h2
    go_enter Try.func21, Try.ntmps21
    go_wp2_with (first | (go_at_call_of 32 (Value.int IntKind.i64 y); refine (HA.out _).mono ?_; rintro e w' ⟨rfl, hcall⟩; have hbw : Below w.heap.size w w' := (by first | exact Below.trans (by assumption) (Below.mono hcall (Below.size (by assumption))) | exact Below.trans (Below.drew (by assumption)) (Below.mono hcall (Below.size (Below.drew (by assumption)))) | exact HW0.out.trans (hcall.mono (by simp; omega)) | exact HW0.out.drew.trans (hcall.mono (by simp; omega))); have q1 : w'.cell? ⟨w.heap.size, 0, none⟩ = some (.int .i64 y) := below_cell2 hcall (by first | assumption | simp | simp [*]); have q2 : w'.cell? ⟨w.heap.size, 1, none⟩ = some (.int .i64 d) := below_cell2 hcall (by first | assumption | simp | simp [*]); obtain ⟨x0, r0⟩ : ∃ u, w'.cell? ⟨w.heap.size + 1, 0, none⟩ = some u := (by first | exact ⟨_, below_cell2 hcall (by assumption)⟩ | exact ⟨_, below_cell2 hcall (by simp; rfl)⟩); obtain ⟨x1, r1⟩ : ∃ u, w'.cell? ⟨w.heap.size + 1, 1, none⟩ = some u := (by first | exact ⟨_, below_cell2 hcall (by assumption)⟩ | exact ⟨_, below_cell2 hcall (by simp; rfl)⟩); have fz : ∀ j, w'.frozen? ⟨w.heap.size + 1, j, none⟩ = false := (by intro j; refine (hcall.frozen (p := ⟨w.heap.size + 1, j, none⟩) (by first | (simp; done) | exact World.block_lt_of_cell? _ ⟨w.heap.size + 1, 0, none⟩ (by assumption))).trans ?_; first | (simp; done) | simp [*]); clear hcall) | (go_at_call 40; refine (HI.out _).mono ?_; rintro e w' ⟨rfl, rfl⟩))
    obtain ⟨s0, s1⟩ := two_cells r0 r1
    refine bodyPost_ret (v := .tuple #[.agg #[.int .i64 0, .int .i64 0], .bool false]) (by simp [results, Try.results21, go_sem, s0, s1]) rfl ?_
    exact ⟨rfl, (hbw.setCell (by simp) _).setCell (by simp) _⟩
  | true =>
    have hn := inB_iff.1 h2
    have hc1 := dys_bounds h1
    have HC := Lib.hid (fun w => biDays_any y d w h1)
    rw [show addB (y, d) n = backOk (dys (y, d) + n) by unfold addB addD; rw [h1, h2]; rfl, show addP (y, d) n = backD (dys (y, d) + n) by unfold addP addD; rw [h1, h2]; rfl]
    rw [h1] at HA0
    have HA := Lib.hid HA0
    have HI := Lib.hid (fun w => (show Calls Try.prog 40 #[.int .i64 n, .int .i64 (-2000000), .int .i64 2000000] w (RetSame (.bool true) w) from by rw [← h2]; exact l1InD_any n (-2000000) 2000000 w))
    clear HA0 h1 h2
    generalize dys (y, d) = p at HC hc1 ⊢
    have HX := Lib.hid (fun w => biBack_any (p + n) w)
    generalize backOk (p + n) = ok at HX ⊢
    generalize backD (p + n) = r at HX ⊢
    obtain ⟨r1', r2'⟩ := r
    go_enter Try.func21, Try.ntmps21
    go_wp2_with (first | (go_at_call_of 32 (Value.int IntKind.i64 y); refine (HA.out _).mono ?_; rintro e w' ⟨rfl, hcall⟩; have hbw : Below w.heap.size w w' := (by first | exact Below.trans (by assumption) (Below.mono hcall (Below.size (by assumption))) | exact Below.trans (Below.drew (by assumption)) (Below.mono hcall (Below.size (Below.drew (by assumption)))) | exact HW0.out.trans (hcall.mono (by simp; omega)) | exact HW0.out.drew.trans (hcall.mono (by simp; omega))); have q1 : w'.cell? ⟨w.heap.size, 0, none⟩ = some (.int .i64 y) := below_cell2 hcall (by first | assumption | simp | simp [*]); have q2 : w'.cell? ⟨w.heap.size, 1, none⟩ = some (.int .i64 d) := below_cell2 hcall (by first | assumption | simp | simp [*]); obtain ⟨x0, r0⟩ : ∃ u, w'.cell? ⟨w.heap.size + 1, 0, none⟩ = some u := (by first | exact ⟨_, below_cell2 hcall (by assumption)⟩ | exact ⟨_, below_cell2 hcall (by simp; rfl)⟩); obtain ⟨x1, r1⟩ : ∃ u, w'.cell? ⟨w.heap.size + 1, 1, none⟩ = some u := (by first | exact ⟨_, below_cell2 hcall (by assumption)⟩ | exact ⟨_, below_cell2 hcall (by simp; rfl)⟩); have fz : ∀ j, w'.frozen? ⟨w.heap.size + 1, j, none⟩ = false := (by intro j; refine (hcall.frozen (p := ⟨w.heap.size + 1, j, none⟩) (by first | (simp; done) | exact World.block_lt_of_cell? _ ⟨w.heap.size + 1, 0, none⟩ (by assumption))).trans ?_; first | (simp; done) | simp [*]); clear hcall) | (go_at_call 40; refine (HI.out _).mono ?_; rintro e w' ⟨rfl, rfl⟩) | (go_at_call_of 36 (Value.int IntKind.i64 y); refine (HC.out _).mono ?_; rintro e w' ⟨rfl, hcall⟩; have hbw : Below w.heap.size w w' := (by first | exact Below.trans (by assumption) (Below.mono hcall (Below.size (by assumption))) | exact Below.trans (Below.drew (by assumption)) (Below.mono hcall (Below.size (Below.drew (by assumption)))) | exact HW0.out.trans (hcall.mono (by simp; omega)) | exact HW0.out.drew.trans (hcall.mono (by simp; omega))); have q1 : w'.cell? ⟨w.heap.size, 0, none⟩ = some (.int .i64 y) := below_cell2 hcall (by first | assumption | simp | simp [*]); have q2 : w'.cell? ⟨w.heap.size, 1, none⟩ = some (.int .i64 d) := below_cell2 hcall (by first | assumption | simp | simp [*]); obtain ⟨x0, r0⟩ : ∃ u, w'.cell? ⟨w.heap.size + 1, 0, none⟩ = some u := (by first | exact ⟨_, below_cell2 hcall (by assumption)⟩ | exact ⟨_, below_cell2 hcall (by simp; rfl)⟩); obtain ⟨x1, r1⟩ : ∃ u, w'.cell? ⟨w.heap.size + 1, 1, none⟩ = some u := (by first | exact ⟨_, below_cell2 hcall (by assumption)⟩ | exact ⟨_, below_cell2 hcall (by simp; rfl)⟩); have fz : ∀ j, w'.frozen? ⟨w.heap.size + 1, j, none⟩ = false := (by intro j; refine (hcall.frozen (p := ⟨w.heap.size + 1, j, none⟩) (by first | (simp; done) | exact World.block_lt_of_cell? _ ⟨w.heap.size + 1, 0, none⟩ (by assumption))).trans ?_; first | (simp; done) | simp [*]); clear hcall) | (go_at_call 41; refine (HX.out _).mono ?_; rintro e w' ⟨rfl, hcall⟩; have hbw : Below w.heap.size w w' := (by first | exact Below.trans (by assumption) (Below.mono hcall (Below.size (by assumption))) | exact Below.trans (Below.drew (by assumption)) (Below.mono hcall (Below.size (Below.drew (by assumption)))) | exact HW0.out.trans (hcall.mono (by simp; omega)) | exact HW0.out.drew.trans (hcall.mono (by simp; omega))); have q1 : w'.cell? ⟨w.heap.size, 0, none⟩ = some (.int .i64 y) := below_cell2 hcall (by first | assumption | simp | simp [*]); have q2 : w'.cell? ⟨w.heap.size, 1, none⟩ = some (.int .i64 d) := below_cell2 hcall (by first | assumption | simp | simp [*]); obtain ⟨x0, r0⟩ : ∃ u, w'.cell? ⟨w.heap.size + 1, 0, none⟩ = some u := (by first | exact ⟨_, below_cell2 hcall (by assumption)⟩ | exact ⟨_, below_cell2 hcall (by simp; rfl)⟩); obtain ⟨x1, r1⟩ : ∃ u, w'.cell? ⟨w.heap.size + 1, 1, none⟩ = some u := (by first | exact ⟨_, below_cell2 hcall (by assumption)⟩ | exact ⟨_, below_cell2 hcall (by simp; rfl)⟩); have fz : ∀ j, w'.frozen? ⟨w.heap.size + 1, j, none⟩ = false := (by intro j; refine (hcall.frozen (p := ⟨w.heap.size + 1, j, none⟩) (by first | (simp; done) | exact World.block_lt_of_cell? _ ⟨w.heap.size + 1, 0, none⟩ (by assumption))).trans ?_; first | (simp; done) | simp [*]); clear hcall))
    obtain ⟨s0, s1⟩ := two_cells r0 r1
    refine bodyPost_ret (v := .tuple #[.agg #[.int .i64 r1', .int .i64 r2'], .bool ok]) (by simp [results, Try.results21, go_sem, s0, s1]) rfl ?_
    exact ⟨rfl, (hbw.setCell (by simp) _).setCell (by simp) _⟩

end Go.Proofs.Ytbhceokapbnhhab
