/- Births, and who is born, of the model. -/
import Derived.Test.YtbhceokapbnhhabBi1
import Derived.Deep.QuietTactic
import Derived.BigQuiet
set_option linter.unusedVariables false
set_option linter.unusedSimpArgs false
namespace Go.Proofs.Ytbhceokapbnhhab
open Go.RowKit

theorem pair_eta (ds : List Dt) (k : Nat) : at2 ds k = ((at2 ds k).1, (at2 ds k).2) := rfl
set_option maxHeartbeats 2000000 in
set_option maxRecDepth 100000 in
theorem biBorn_any (y d y2 d2 : Int) (w : World) : Calls Try.prog 34 #[.agg #[.int .i64 y, .int .i64 d], .agg #[.int .i64 y2, .int .i64 d2]] w (Ret (.bool (bornD (y, d) (y2, d2))) w) := by
  have HW0 := Lib.hid (((Below.refl w.heap.size w).alloc (Nat.le_refl _) (.cells #[.int .i64 y, .int .i64 d] 25)).alloc (by simp) (.cells #[.int .i64 y2, .int .i64 d2] 25))
  have HA0 := fun w => biDate_any y d w
  have HB0 := fun w => biDate_any y2 d2 w
  cases h1 : dateB (y, d) with
  | false =>
    rw [show bornD (y, d) (y2, d2) = false by unfold bornD; rw [h1]; rfl]
    rw [h1] at HA0
    have HA := Lib.hid HA0
    clear HA0 HB0 h1
    go_enter Try.func34, Try.ntmps34
    go_wp2_with fail
    go_region_with (first | (go_at_call_of 32 (Value.int IntKind.i64 y); refine (HA.out _).mono ?_; rintro e w' ⟨rfl, hcall⟩; have hbw : Below w.heap.size w w' := (by first | exact HW0.out.drew.trans (hcall.mono (by simp; omega)) | exact Below.trans (by assumption) (Below.mono hcall (Below.size (by assumption)))); have q1 : w'.cell? ⟨w.heap.size, 0, none⟩ = some (.int .i64 y) := below_cell2 hcall (by first | assumption | simp); have q2 : w'.cell? ⟨w.heap.size, 1, none⟩ = some (.int .i64 d) := below_cell2 hcall (by first | assumption | simp); have q3 : w'.cell? ⟨w.heap.size + 1, 0, none⟩ = some (.int .i64 y2) := below_cell2 hcall (by first | assumption | simp); have q4 : w'.cell? ⟨w.heap.size + 1, 1, none⟩ = some (.int .i64 d2) := below_cell2 hcall (by first | assumption | simp); clear hcall))
    all_goals
      go_wp2_with fail
      go_ret
      exact ⟨rfl, by assumption⟩
  | true =>
  cases h2 : dateB (y2, d2) with
  | false =>
    rw [show bornD (y, d) (y2, d2) = false by unfold bornD; rw [h1, h2]; rfl]
    rw [h1] at HA0
    rw [h2] at HB0
    have HA := Lib.hid HA0
    have HB := Lib.hid HB0
    clear HA0 HB0 h1 h2
    go_enter Try.func34, Try.ntmps34
    go_wp2_with fail
    go_region_with (first | (go_at_call_of 32 (Value.int IntKind.i64 y); refine (HA.out _).mono ?_; rintro e w' ⟨rfl, hcall⟩; have hbw : Below w.heap.size w w' := (by first | exact HW0.out.drew.trans (hcall.mono (by simp; omega)) | exact Below.trans (by assumption) (Below.mono hcall (Below.size (by assumption)))); have q1 : w'.cell? ⟨w.heap.size, 0, none⟩ = some (.int .i64 y) := below_cell2 hcall (by first | assumption | simp); have q2 : w'.cell? ⟨w.heap.size, 1, none⟩ = some (.int .i64 d) := below_cell2 hcall (by first | assumption | simp); have q3 : w'.cell? ⟨w.heap.size + 1, 0, none⟩ = some (.int .i64 y2) := below_cell2 hcall (by first | assumption | simp); have q4 : w'.cell? ⟨w.heap.size + 1, 1, none⟩ = some (.int .i64 d2) := below_cell2 hcall (by first | assumption | simp); clear hcall) | (go_at_call_of 32 (Value.int IntKind.i64 y2); refine (HB.out _).mono ?_; rintro e w' ⟨rfl, hcall⟩; have hbw : Below w.heap.size w w' := (by first | exact HW0.out.drew.trans (hcall.mono (by simp; omega)) | exact Below.trans (by assumption) (Below.mono hcall (Below.size (by assumption)))); have q1 : w'.cell? ⟨w.heap.size, 0, none⟩ = some (.int .i64 y) := below_cell2 hcall (by first | assumption | simp); have q2 : w'.cell? ⟨w.heap.size, 1, none⟩ = some (.int .i64 d) := below_cell2 hcall (by first | assumption | simp); have q3 : w'.cell? ⟨w.heap.size + 1, 0, none⟩ = some (.int .i64 y2) := below_cell2 hcall (by first | assumption | simp); have q4 : w'.cell? ⟨w.heap.size + 1, 1, none⟩ = some (.int .i64 d2) := below_cell2 hcall (by first | assumption | simp); clear hcall))
    all_goals
      go_wp2_with fail
      go_ret
      exact ⟨rfl, by assumption⟩
  | true =>
    have HC := Lib.hid (fun w => biDays_any y d w h1)
    have HD := Lib.hid (fun w => biDays_any y2 d2 w h2)
    have hb1 := dys_bounds h1
    have hb2 := dys_bounds h2
    rw [show bornD (y, d) (y2, d2) = decide (dys (y, d) ≤ dys (y2, d2)) by unfold bornD; rw [h1, h2]; rfl]
    rw [h1] at HA0
    rw [h2] at HB0
    have HA := Lib.hid HA0
    have HB := Lib.hid HB0
    clear HA0 HB0 h1 h2
    generalize dys (y, d) = p at HC hb1 ⊢
    generalize dys (y2, d2) = q at HD hb2 ⊢
    go_enter Try.func34, Try.ntmps34
    go_wp2_with fail
    go_region_with (first | (go_at_call_of 32 (Value.int IntKind.i64 y); refine (HA.out _).mono ?_; rintro e w' ⟨rfl, hcall⟩; have hbw : Below w.heap.size w w' := (by first | exact HW0.out.drew.trans (hcall.mono (by simp; omega)) | exact Below.trans (by assumption) (Below.mono hcall (Below.size (by assumption)))); have q1 : w'.cell? ⟨w.heap.size, 0, none⟩ = some (.int .i64 y) := below_cell2 hcall (by first | assumption | simp); have q2 : w'.cell? ⟨w.heap.size, 1, none⟩ = some (.int .i64 d) := below_cell2 hcall (by first | assumption | simp); have q3 : w'.cell? ⟨w.heap.size + 1, 0, none⟩ = some (.int .i64 y2) := below_cell2 hcall (by first | assumption | simp); have q4 : w'.cell? ⟨w.heap.size + 1, 1, none⟩ = some (.int .i64 d2) := below_cell2 hcall (by first | assumption | simp); clear hcall) | (go_at_call_of 32 (Value.int IntKind.i64 y2); refine (HB.out _).mono ?_; rintro e w' ⟨rfl, hcall⟩; have hbw : Below w.heap.size w w' := (by first | exact HW0.out.drew.trans (hcall.mono (by simp; omega)) | exact Below.trans (by assumption) (Below.mono hcall (Below.size (by assumption)))); have q1 : w'.cell? ⟨w.heap.size, 0, none⟩ = some (.int .i64 y) := below_cell2 hcall (by first | assumption | simp); have q2 : w'.cell? ⟨w.heap.size, 1, none⟩ = some (.int .i64 d) := below_cell2 hcall (by first | assumption | simp); have q3 : w'.cell? ⟨w.heap.size + 1, 0, none⟩ = some (.int .i64 y2) := below_cell2 hcall (by first | assumption | simp); have q4 : w'.cell? ⟨w.heap.size + 1, 1, none⟩ = some (.int .i64 d2) := below_cell2 hcall (by first | assumption | simp); clear hcall) | (go_at_call_of 36 (Value.int IntKind.i64 y); refine (HC.out _).mono ?_; rintro e w' ⟨rfl, hcall⟩; have hbw : Below w.heap.size w w' := (by first | exact HW0.out.drew.trans (hcall.mono (by simp; omega)) | exact Below.trans (by assumption) (Below.mono hcall (Below.size (by assumption)))); have q1 : w'.cell? ⟨w.heap.size, 0, none⟩ = some (.int .i64 y) := below_cell2 hcall (by first | assumption | simp); have q2 : w'.cell? ⟨w.heap.size, 1, none⟩ = some (.int .i64 d) := below_cell2 hcall (by first | assumption | simp); have q3 : w'.cell? ⟨w.heap.size + 1, 0, none⟩ = some (.int .i64 y2) := below_cell2 hcall (by first | assumption | simp); have q4 : w'.cell? ⟨w.heap.size + 1, 1, none⟩ = some (.int .i64 d2) := below_cell2 hcall (by first | assumption | simp); clear hcall) | (go_at_call_of 36 (Value.int IntKind.i64 y2); refine (HD.out _).mono ?_; rintro e w' ⟨rfl, hcall⟩; have hbw : Below w.heap.size w w' := (by first | exact HW0.out.drew.trans (hcall.mono (by simp; omega)) | exact Below.trans (by assumption) (Below.mono hcall (Below.size (by assumption)))); have q1 : w'.cell? ⟨w.heap.size, 0, none⟩ = some (.int .i64 y) := below_cell2 hcall (by first | assumption | simp); have q2 : w'.cell? ⟨w.heap.size, 1, none⟩ = some (.int .i64 d) := below_cell2 hcall (by first | assumption | simp); have q3 : w'.cell? ⟨w.heap.size + 1, 0, none⟩ = some (.int .i64 y2) := below_cell2 hcall (by first | assumption | simp); have q4 : w'.cell? ⟨w.heap.size + 1, 1, none⟩ = some (.int .i64 d2) := below_cell2 hcall (by first | assumption | simp); clear hcall))
    all_goals
      go_wp2_with fail
      go_ret
      exact ⟨rfl, by assumption⟩
end Go.Proofs.Ytbhceokapbnhhab
