/- Questions about one date or two, of the model. -/
import Derived.Test.YtbhceokapbnhhabBi2
set_option linter.unusedVariables false
set_option linter.unusedSimpArgs false
namespace Go.Proofs.Ytbhceokapbnhhab
open Go.RowKit

theorem bornD_parts {b o : Dt} (h : bornD b o = true) : dateB b = true ∧ dateB o = true ∧ dys b ≤ dys o := by
  unfold bornD at h
  rw [Bool.and_eq_true, Bool.and_eq_true] at h
  exact ⟨h.1.1, h.1.2, of_decide_eq_true h.2⟩
set_option maxHeartbeats 1000000 in
theorem specIsDate_any (y d : Int) (w : World) : Calls Try.prog 12 #[.agg #[.int .i64 y, .int .i64 d]] w (Ret (.bool (dateB (y, d))) w) := by
  have HA := Lib.hid (fun w => biDate_any y d w)
  have HW0 := Lib.hid ((Below.refl w.heap.size w).alloc (Nat.le_refl _) (.cells #[.int .i64 y, .int .i64 d] 25))
  generalize dateB (y, d) = t at HA ⊢
  go_enter Try.func12, Try.ntmps12
  go_wp2_with (first | (go_at_call_of 32 (Value.int IntKind.i64 y); refine (HA.out _).mono ?_; rintro e w' ⟨rfl, hcall⟩; have hbw : Below w.heap.size w w' := (by first | exact Below.trans (by assumption) (Below.mono hcall (Below.size (by assumption))) | exact Below.trans (Below.drew (by assumption)) (Below.mono hcall (Below.size (Below.drew (by assumption)))) | exact HW0.out.trans (hcall.mono (by simp <;> omega)) | exact HW0.out.drew.trans (hcall.mono (by simp <;> omega))); clear hcall))
  go_ret
  exact ⟨rfl, hbw⟩

def ageOnR (b o : Dt) : Int := if bornD b o = true then ageD b o else 0
set_option maxHeartbeats 2000000 in
set_option maxRecDepth 100000 in
theorem specAgeOn_any (y d y2 d2 : Int) (w : World) : Calls Try.prog 15 #[.agg #[.int .i64 y, .int .i64 d], .agg #[.int .i64 y2, .int .i64 d2]] w (RetIB (ageOnR (y, d) (y2, d2)) (bornD (y, d) (y2, d2)) w) := by
  have HW0 := Lib.hid (((Below.refl w.heap.size w).alloc (Nat.le_refl _) (.cells #[.int .i64 y, .int .i64 d] 25)).alloc (by simp) (.cells #[.int .i64 y2, .int .i64 d2] 25))
  have HB0 := fun w => biBorn_any y d y2 d2 w
  cases h : bornD (y, d) (y2, d2) with
  | false =>
    rw [h] at HB0
    rw [show ageOnR (y, d) (y2, d2) = 0 by unfold ageOnR; rw [h]; rfl]
    have HB := Lib.hid HB0
    clear HB0 h
    go_enter Try.func15, Try.ntmps15
    go_wp2_with (first | (go_at_call 34; refine (HB.out _).mono ?_; rintro e w' ⟨rfl, hcall⟩; have hbw : Below w.heap.size w w' := (by first | exact Below.trans (by assumption) (Below.mono hcall (Below.size (by assumption))) | exact Below.trans (Below.drew (by assumption)) (Below.mono hcall (Below.size (Below.drew (by assumption)))) | exact HW0.out.trans (hcall.mono (by simp <;> omega)) | exact HW0.out.drew.trans (hcall.mono (by simp <;> omega))); have q1 : w'.cell? ⟨w.heap.size, 0, none⟩ = some (.int .i64 y) := below_cell2 hcall (by first | assumption | (simp; done) | (simp [go_sem]; done) | simp [*]); have q2 : w'.cell? ⟨w.heap.size, 1, none⟩ = some (.int .i64 d) := below_cell2 hcall (by first | assumption | (simp; done) | (simp [go_sem]; done) | simp [*]); have q3 : w'.cell? ⟨w.heap.size + 1, 0, none⟩ = some (.int .i64 y2) := below_cell2 hcall (by first | assumption | (simp; done) | (simp [go_sem]; done) | simp [*]); have q4 : w'.cell? ⟨w.heap.size + 1, 1, none⟩ = some (.int .i64 d2) := below_cell2 hcall (by first | assumption | (simp; done) | (simp [go_sem]; done) | simp [*]); clear hcall))
    go_ret2
    exact ⟨rfl, hbw⟩
  | true =>
    obtain ⟨h1, h2, _⟩ := bornD_parts h
    have HG := Lib.hid (fun w => biAge_any y d y2 d2 w h1 h2)
    rw [h] at HB0
    rw [show ageOnR (y, d) (y2, d2) = ageD (y, d) (y2, d2) by unfold ageOnR; rw [h]; rfl]
    have HB := Lib.hid HB0
    clear HB0 h h1 h2
    generalize ageD (y, d) (y2, d2) = r at HG ⊢
    go_enter Try.func15, Try.ntmps15
    go_wp2_with (first | (go_at_call 34; refine (HB.out _).mono ?_; rintro e w' ⟨rfl, hcall⟩; have hbw : Below w.heap.size w w' := (by first | exact Below.trans (by assumption) (Below.mono hcall (Below.size (by assumption))) | exact Below.trans (Below.drew (by assumption)) (Below.mono hcall (Below.size (Below.drew (by assumption)))) | exact HW0.out.trans (hcall.mono (by simp <;> omega)) | exact HW0.out.drew.trans (hcall.mono (by simp <;> omega))); have q1 : w'.cell? ⟨w.heap.size, 0, none⟩ = some (.int .i64 y) := below_cell2 hcall (by first | assumption | (simp; done) | (simp [go_sem]; done) | simp [*]); have q2 : w'.cell? ⟨w.heap.size, 1, none⟩ = some (.int .i64 d) := below_cell2 hcall (by first | assumption | (simp; done) | (simp [go_sem]; done) | simp [*]); have q3 : w'.cell? ⟨w.heap.size + 1, 0, none⟩ = some (.int .i64 y2) := below_cell2 hcall (by first | assumption | (simp; done) | (simp [go_sem]; done) | simp [*]); have q4 : w'.cell? ⟨w.heap.size + 1, 1, none⟩ = some (.int .i64 d2) := below_cell2 hcall (by first | assumption | (simp; done) | (simp [go_sem]; done) | simp [*]); clear hcall) | (go_at_call 35; refine (HG.out _).mono ?_; rintro e w' ⟨rfl, hcall⟩; have hbw : Below w.heap.size w w' := (by first | exact Below.trans (by assumption) (Below.mono hcall (Below.size (by assumption))) | exact Below.trans (Below.drew (by assumption)) (Below.mono hcall (Below.size (Below.drew (by assumption)))) | exact HW0.out.trans (hcall.mono (by simp <;> omega)) | exact HW0.out.drew.trans (hcall.mono (by simp <;> omega))); have q1 : w'.cell? ⟨w.heap.size, 0, none⟩ = some (.int .i64 y) := below_cell2 hcall (by first | assumption | (simp; done) | (simp [go_sem]; done) | simp [*]); have q2 : w'.cell? ⟨w.heap.size, 1, none⟩ = some (.int .i64 d) := below_cell2 hcall (by first | assumption | (simp; done) | (simp [go_sem]; done) | simp [*]); have q3 : w'.cell? ⟨w.heap.size + 1, 0, none⟩ = some (.int .i64 y2) := below_cell2 hcall (by first | assumption | (simp; done) | (simp [go_sem]; done) | simp [*]); have q4 : w'.cell? ⟨w.heap.size + 1, 1, none⟩ = some (.int .i64 d2) := below_cell2 hcall (by first | assumption | (simp; done) | (simp [go_sem]; done) | simp [*]); clear hcall))
    go_ret2
    exact ⟨rfl, hbw⟩

def daysOldR (b o : Dt) : Int := if bornD b o = true then dys o - dys b else 0
set_option maxHeartbeats 2000000 in
set_option maxRecDepth 100000 in
theorem specDaysOld_any (y d y2 d2 : Int) (w : World) : Calls Try.prog 17 #[.agg #[.int .i64 y, .int .i64 d], .agg #[.int .i64 y2, .int .i64 d2]] w (RetIB (daysOldR (y, d) (y2, d2)) (bornD (y, d) (y2, d2)) w) := by
  have HW0 := Lib.hid (((Below.refl w.heap.size w).alloc (Nat.le_refl _) (.cells #[.int .i64 y, .int .i64 d] 25)).alloc (by simp) (.cells #[.int .i64 y2, .int .i64 d2] 25))
  have HB0 := fun w => biBorn_any y d y2 d2 w
  cases h : bornD (y, d) (y2, d2) with
  | false =>
    rw [h] at HB0
    rw [show daysOldR (y, d) (y2, d2) = 0 by unfold daysOldR; rw [h]; rfl]
    have HB := Lib.hid HB0
    clear HB0 h
    go_enter Try.func17, Try.ntmps17
    go_wp2_with (first | (go_at_call 34; refine (HB.out _).mono ?_; rintro e w' ⟨rfl, hcall⟩; have hbw : Below w.heap.size w w' := (by first | exact Below.trans (by assumption) (Below.mono hcall (Below.size (by assumption))) | exact Below.trans (Below.drew (by assumption)) (Below.mono hcall (Below.size (Below.drew (by assumption)))) | exact HW0.out.trans (hcall.mono (by simp <;> omega)) | exact HW0.out.drew.trans (hcall.mono (by simp <;> omega))); have q1 : w'.cell? ⟨w.heap.size, 0, none⟩ = some (.int .i64 y) := below_cell2 hcall (by first | assumption | (simp; done) | (simp [go_sem]; done) | simp [*]); have q2 : w'.cell? ⟨w.heap.size, 1, none⟩ = some (.int .i64 d) := below_cell2 hcall (by first | assumption | (simp; done) | (simp [go_sem]; done) | simp [*]); have q3 : w'.cell? ⟨w.heap.size + 1, 0, none⟩ = some (.int .i64 y2) := below_cell2 hcall (by first | assumption | (simp; done) | (simp [go_sem]; done) | simp [*]); have q4 : w'.cell? ⟨w.heap.size + 1, 1, none⟩ = some (.int .i64 d2) := below_cell2 hcall (by first | assumption | (simp; done) | (simp [go_sem]; done) | simp [*]); clear hcall))
    go_ret2
    exact ⟨rfl, hbw⟩
  | true =>
    obtain ⟨h1, h2, _⟩ := bornD_parts h
    have hc1 := dys_bounds h1
    have hc2 := dys_bounds h2
    have HC := Lib.hid (fun w => biDays_any y d w h1)
    have HD := Lib.hid (fun w => biDays_any y2 d2 w h2)
    rw [h] at HB0
    rw [show daysOldR (y, d) (y2, d2) = dys (y2, d2) - dys (y, d) by unfold daysOldR; rw [h]; rfl]
    have HB := Lib.hid HB0
    clear HB0 h h1 h2
    generalize dys (y, d) = p at HC hc1 ⊢
    generalize dys (y2, d2) = q at HD hc2 ⊢
    have k1 : IntKind.i64.wrap (q - p) = q - p := IntWalk.i64_in _ (by omega)
    go_enter Try.func17, Try.ntmps17
    go_wp2_with (first | (go_at_call 34; refine (HB.out _).mono ?_; rintro e w' ⟨rfl, hcall⟩; have hbw : Below w.heap.size w w' := (by first | exact Below.trans (by assumption) (Below.mono hcall (Below.size (by assumption))) | exact Below.trans (Below.drew (by assumption)) (Below.mono hcall (Below.size (Below.drew (by assumption)))) | exact HW0.out.trans (hcall.mono (by simp <;> omega)) | exact HW0.out.drew.trans (hcall.mono (by simp <;> omega))); have q1 : w'.cell? ⟨w.heap.size, 0, none⟩ = some (.int .i64 y) := below_cell2 hcall (by first | assumption | (simp; done) | (simp [go_sem]; done) | simp [*]); have q2 : w'.cell? ⟨w.heap.size, 1, none⟩ = some (.int .i64 d) := below_cell2 hcall (by first | assumption | (simp; done) | (simp [go_sem]; done) | simp [*]); have q3 : w'.cell? ⟨w.heap.size + 1, 0, none⟩ = some (.int .i64 y2) := below_cell2 hcall (by first | assumption | (simp; done) | (simp [go_sem]; done) | simp [*]); have q4 : w'.cell? ⟨w.heap.size + 1, 1, none⟩ = some (.int .i64 d2) := below_cell2 hcall (by first | assumption | (simp; done) | (simp [go_sem]; done) | simp [*]); clear hcall))
    go_region_with (first | (go_at_call_of 36 (Value.int IntKind.i64 y); refine (HC.out _).mono ?_; rintro e w' ⟨rfl, hcall⟩; have hbw : Below w.heap.size w w' := (by first | exact Below.trans (by assumption) (Below.mono hcall (Below.size (by assumption))) | exact Below.trans (Below.drew (by assumption)) (Below.mono hcall (Below.size (Below.drew (by assumption)))) | exact HW0.out.trans (hcall.mono (by simp <;> omega)) | exact HW0.out.drew.trans (hcall.mono (by simp <;> omega))); have q1 : w'.cell? ⟨w.heap.size, 0, none⟩ = some (.int .i64 y) := below_cell2 hcall (by first | assumption | (simp; done) | (simp [go_sem]; done) | simp [*]); have q2 : w'.cell? ⟨w.heap.size, 1, none⟩ = some (.int .i64 d) := below_cell2 hcall (by first | assumption | (simp; done) | (simp [go_sem]; done) | simp [*]); have q3 : w'.cell? ⟨w.heap.size + 1, 0, none⟩ = some (.int .i64 y2) := below_cell2 hcall (by first | assumption | (simp; done) | (simp [go_sem]; done) | simp [*]); have q4 : w'.cell? ⟨w.heap.size + 1, 1, none⟩ = some (.int .i64 d2) := below_cell2 hcall (by first | assumption | (simp; done) | (simp [go_sem]; done) | simp [*]); clear hcall) | (go_at_call_of 36 (Value.int IntKind.i64 y2); refine (HD.out _).mono ?_; rintro e w' ⟨rfl, hcall⟩; have hbw : Below w.heap.size w w' := (by first | exact Below.trans (by assumption) (Below.mono hcall (Below.size (by assumption))) | exact Below.trans (Below.drew (by assumption)) (Below.mono hcall (Below.size (Below.drew (by assumption)))) | exact HW0.out.trans (hcall.mono (by simp <;> omega)) | exact HW0.out.drew.trans (hcall.mono (by simp <;> omega))); have q1 : w'.cell? ⟨w.heap.size, 0, none⟩ = some (.int .i64 y) := below_cell2 hcall (by first | assumption | (simp; done) | (simp [go_sem]; done) | simp [*]); have q2 : w'.cell? ⟨w.heap.size, 1, none⟩ = some (.int .i64 d) := below_cell2 hcall (by first | assumption | (simp; done) | (simp [go_sem]; done) | simp [*]); have q3 : w'.cell? ⟨w.heap.size + 1, 0, none⟩ = some (.int .i64 y2) := below_cell2 hcall (by first | assumption | (simp; done) | (simp [go_sem]; done) | simp [*]); have q4 : w'.cell? ⟨w.heap.size + 1, 1, none⟩ = some (.int .i64 d2) := below_cell2 hcall (by first | assumption | (simp; done) | (simp [go_sem]; done) | simp [*]); clear hcall))
    all_goals
      go_wp2_with fail
      go_ret2
      exact ⟨rfl, by assumption⟩

end Go.Proofs.Ytbhceokapbnhhab
