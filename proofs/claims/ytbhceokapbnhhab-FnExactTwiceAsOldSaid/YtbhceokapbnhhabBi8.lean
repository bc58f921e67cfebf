/- Gaps of ages, of the model. -/
import Derived.Test.YtbhceokapbnhhabBi4
set_option linter.unusedVariables false
set_option linter.unusedSimpArgs false
namespace Go.Proofs.Ytbhceokapbnhhab
open Go.RowKit

def gapB (a b : Dt) : Bool := twoD a b && decide (dys a ≤ dys b)
def gapLo (a b : Dt) : Int := if gapB a b = true then ageD a b else 0
def gapHi (a b : Dt) : Int := if gapB a b = true then (if a.2 = b.2 then ageD a b else ageD a b + 1) else 0
theorem gap_no {a b : Dt} (h : gapB a b = false) : gapLo a b = 0 ∧ gapHi a b = 0 := by
  unfold gapLo gapHi; rw [h]; exact ⟨rfl, rfl⟩
theorem gap_yes {a b : Dt} (h : gapB a b = true) : gapLo a b = ageD a b ∧ gapHi a b = if a.2 = b.2 then ageD a b else ageD a b + 1 := by
  unfold gapLo gapHi; rw [h]; exact ⟨rfl, rfl⟩
set_option maxHeartbeats 8000000 in
set_option maxRecDepth 100000 in
theorem specGreatestGap_any (y d y2 d2 : Int) (w : World) : Calls Try.prog 24 #[.agg #[.int .i64 y, .int .i64 d], .agg #[.int .i64 y2, .int .i64 d2]] w (RetIIB (gapLo (y, d) (y2, d2)) (gapHi (y, d) (y2, d2)) (gapB (y, d) (y2, d2)) w) := by
  have HW0 := Lib.hid (((Below.refl w.heap.size w).alloc (Nat.le_refl _) (.cells #[.int .i64 y, .int .i64 d] 25)).alloc (by simp) (.cells #[.int .i64 y2, .int .i64 d2] 25))
  have HA0 := fun w => biDate_any y d w
  have HB0 := fun w => biDate_any y2 d2 w
  cases h1 : dateB (y, d) with
  | false =>
    have e0 : gapB (y, d) (y2, d2) = false := by unfold gapB twoD; rw [h1]; rfl
    obtain ⟨e1, e2⟩ := gap_no e0
    rw [e0, e1, e2]
    clear e0 e1 e2
    rw [h1] at HA0
    have HA := Lib.hid HA0
    clear HA0 HB0 h1
    go_enter Try.func24, Try.ntmps24
    go_wp2_with fail
    go_region_with (first | (go_at_call_of 32 (Value.int IntKind.i64 y); refine (HA.out _).mono ?_; rintro e w' ⟨rfl, hcall⟩; have hbw : Below w.heap.size w w' := (by first | exact Below.trans (by assumption) (Below.mono hcall (Below.size (by assumption))) | exact Below.trans (Below.drew (by assumption)) (Below.mono hcall (Below.size (Below.drew (by assumption)))) | exact HW0.out.trans (hcall.mono (by simp <;> omega)) | exact HW0.out.drew.trans (hcall.mono (by simp <;> omega))); have q1 : w'.cell? ⟨w.heap.size, 0, none⟩ = some (.int .i64 y) := below_cell2 hcall (by first | assumption | (simp; done) | (simp [go_sem]; done) | simp [*]); have q2 : w'.cell? ⟨w.heap.size, 1, none⟩ = some (.int .i64 d) := below_cell2 hcall (by first | assumption | (simp; done) | (simp [go_sem]; done) | simp [*]); have q3 : w'.cell? ⟨w.heap.size + 1, 0, none⟩ = some (.int .i64 y2) := below_cell2 hcall (by first | assumption | (simp; done) | (simp [go_sem]; done) | simp [*]); have q4 : w'.cell? ⟨w.heap.size + 1, 1, none⟩ = some (.int .i64 d2) := below_cell2 hcall (by first | assumption | (simp; done) | (simp [go_sem]; done) | simp [*]); clear hcall))
    all_goals
      go_wp2_with fail
      go_ret3
      exact ⟨rfl, by assumption⟩
  | true =>
  cases h2 : dateB (y2, d2) with
  | false =>
    have e0 : gapB (y, d) (y2, d2) = false := by unfold gapB twoD; rw [h1, h2]; rfl
    obtain ⟨e1, e2⟩ := gap_no e0
    rw [e0, e1, e2]
    clear e0 e1 e2
    rw [h1] at HA0
    have HA := Lib.hid HA0
    rw [h2] at HB0
    have HB := Lib.hid HB0
    clear HA0 HB0 h1 h2
    go_enter Try.func24, Try.ntmps24
    go_wp2_with fail
    go_region_with (first | (go_at_call_of 32 (Value.int IntKind.i64 y); refine (HA.out _).mono ?_; rintro e w' ⟨rfl, hcall⟩; have hbw : Below w.heap.size w w' := (by first | exact Below.trans (by assumption) (Below.mono hcall (Below.size (by assumption))) | exact Below.trans (Below.drew (by assumption)) (Below.mono hcall (Below.size (Below.drew (by assumption)))) | exact HW0.out.trans (hcall.mono (by simp <;> omega)) | exact HW0.out.drew.trans (hcall.mono (by simp <;> omega))); have q1 : w'.cell? ⟨w.heap.size, 0, none⟩ = some (.int .i64 y) := below_cell2 hcall (by first | assumption | (simp; done) | (simp [go_sem]; done) | simp [*]); have q2 : w'.cell? ⟨w.heap.size, 1, none⟩ = some (.int .i64 d) := below_cell2 hcall (by first | assumption | (simp; done) | (simp [go_sem]; done) | simp [*]); have q3 : w'.cell? ⟨w.heap.size + 1, 0, none⟩ = some (.int .i64 y2) := below_cell2 hcall (by first | assumption | (simp; done) | (simp [go_sem]; done) | simp [*]); have q4 : w'.cell? ⟨w.heap.size + 1, 1, none⟩ = some (.int .i64 d2) := below_cell2 hcall (by first | assumption | (simp; done) | (simp [go_sem]; done) | simp [*]); clear hcall) | (go_at_call_of 32 (Value.int IntKind.i64 y2); refine (HB.out _).mono ?_; rintro e w' ⟨rfl, hcall⟩; have hbw : Below w.heap.size w w' := (by first | exact Below.trans (by assumption) (Below.mono hcall (Below.size (by assumption))) | exact Below.trans (Below.drew (by assumption)) (Below.mono hcall (Below.size (Below.drew (by assumption)))) | exact HW0.out.trans (hcall.mono (by simp <;> omega)) | exact HW0.out.drew.trans (hcall.mono (by simp <;> omega))); have q1 : w'.cell? ⟨w.heap.size, 0, none⟩ = some (.int .i64 y) := below_cell2 hcall (by first | assumption | (simp; done) | (simp [go_sem]; done) | simp [*]); have q2 : w'.cell? ⟨w.heap.size, 1, none⟩ = some (.int .i64 d) := below_cell2 hcall (by first | assumption | (simp; done) | (simp [go_sem]; done) | simp [*]); have q3 : w'.cell? ⟨w.heap.size + 1, 0, none⟩ = some (.int .i64 y2) := below_cell2 hcall (by first | assumption | (simp; done) | (simp [go_sem]; done) | simp [*]); have q4 : w'.cell? ⟨w.heap.size + 1, 1, none⟩ = some (.int .i64 d2) := below_cell2 hcall (by first | assumption | (simp; done) | (simp [go_sem]; done) | simp [*]); clear hcall))
    all_goals
      go_wp2_with fail
      go_ret3
      exact ⟨rfl, by assumption⟩
  | true =>
    have hc1 := dys_bounds h1
    have hc2 := dys_bounds h2
    have hdb1 := dateB_iff.1 h1
    have hdb2 := dateB_iff.1 h2
    simp only at hdb1 hdb2
    have HC := Lib.hid (fun w => biDays_any y d w h1)
    have HD := Lib.hid (fun w => biDays_any y2 d2 w h2)
    have HG := Lib.hid (fun w => biAge_any y d y2 d2 w h1 h2)
    have hag : -4000 ≤ ageD (y, d) (y2, d2) ∧ ageD (y, d) (y2, d2) ≤ 4000 := by unfold ageD; simp only; split <;> omega
    by_cases h3 : dys (y, d) ≤ dys (y2, d2)
    · have e0 : gapB (y, d) (y2, d2) = true := by unfold gapB twoD; rw [h1, h2]; exact decide_eq_true h3
      obtain ⟨e1, e2⟩ := gap_yes e0
      rw [e0, e1, e2]
      simp only
      clear e0 e1 e2
      rw [h1] at HA0
      have HA := Lib.hid HA0
      rw [h2] at HB0
      have HB := Lib.hid HB0
      clear HA0 HB0 h1 h2
      generalize dys (y, d) = p at HC hc1 h3
      generalize dys (y2, d2) = q at HD hc2 h3
      have hle : ¬ q < p := by omega
      generalize ageD (y, d) (y2, d2) = r at HG hag ⊢
      by_cases hdd : d = d2
      · rw [if_pos hdd]
        subst hdd
        go_enter Try.func24, Try.ntmps24
        go_wp2_with fail
        go_region_held3 (fun w' => Below w.heap.size w w' ∧ w'.cell? ⟨w.heap.size, 0, none⟩ = some (.int .i64 y) ∧ w'.cell? ⟨w.heap.size, 1, none⟩ = some (.int .i64 d) ∧ w'.cell? ⟨w.heap.size + 1, 0, none⟩ = some (.int .i64 y2) ∧ w'.cell? ⟨w.heap.size + 1, 1, none⟩ = some (.int .i64 d))
          (first
            | exact ⟨HW0.out.drew, by simp [go_sem], by simp [go_sem], by simp [go_sem], by simp [go_sem]⟩
            | (exact ⟨Below.drew (by assumption), by first | assumption | simp [*], by first | assumption | simp [*], by first | assumption | simp [*], by first | assumption | simp [*]⟩)
            | (go_split_ands
               refine ⟨?_, ?_, ?_, ?_, ?_⟩
               · exact Below.trans (by assumption) (Below.mono hcall (Below.size (by assumption)))
               · exact below_cell2 hcall (by assumption)
               · exact below_cell2 hcall (by assumption)
               · exact below_cell2 hcall (by assumption)
               · exact below_cell2 hcall (by assumption)))
          (first | (go_at_call_of 32 (Value.int IntKind.i64 y); refine (HA.out _).mono ?_; rintro e w' ⟨rfl, hcall⟩) | (go_at_call_of 32 (Value.int IntKind.i64 y2); refine (HB.out _).mono ?_; rintro e w' ⟨rfl, hcall⟩) | (go_at_call_of 36 (Value.int IntKind.i64 y); refine (HC.out _).mono ?_; rintro e w' ⟨rfl, hcall⟩) | (go_at_call_of 36 (Value.int IntKind.i64 y2); refine (HD.out _).mono ?_; rintro e w' ⟨rfl, hcall⟩))
        all_goals
          obtain ⟨hbw, q1, q2, q3, q4⟩ := ‹Below w.heap.size w _ ∧ _›
        all_goals
          go_wp2_with (first | (go_at_call 35; refine (HG.out _).mono ?_; rintro e w' ⟨rfl, hcall⟩; have hbw : Below w.heap.size w w' := (by first | exact Below.trans (by assumption) (Below.mono hcall (Below.size (by assumption))) | exact Below.trans (Below.drew (by assumption)) (Below.mono hcall (Below.size (Below.drew (by assumption)))) | exact HW0.out.trans (hcall.mono (by simp <;> omega)) | exact HW0.out.drew.trans (hcall.mono (by simp <;> omega))); have q1 : w'.cell? ⟨w.heap.size, 0, none⟩ = some (.int .i64 y) := below_cell2 hcall (by first | assumption | (simp; done) | (simp [go_sem]; done) | simp [*]); have q2 : w'.cell? ⟨w.heap.size, 1, none⟩ = some (.int .i64 d) := below_cell2 hcall (by first | assumption | (simp; done) | (simp [go_sem]; done) | simp [*]); have q3 : w'.cell? ⟨w.heap.size + 1, 0, none⟩ = some (.int .i64 y2) := below_cell2 hcall (by first | assumption | (simp; done) | (simp [go_sem]; done) | simp [*]); have q4 : w'.cell? ⟨w.heap.size + 1, 1, none⟩ = some (.int .i64 d) := below_cell2 hcall (by first | assumption | (simp; done) | (simp [go_sem]; done) | simp [*]); clear hcall))
          go_ret3
          exact ⟨rfl, by assumption⟩
      · rw [if_neg hdd]
        go_enter Try.func24, Try.ntmps24
        go_wp2_with fail
        go_region_held3 (fun w' => Below w.heap.size w w' ∧ w'.cell? ⟨w.heap.size, 0, none⟩ = some (.int .i64 y) ∧ w'.cell? ⟨w.heap.size, 1, none⟩ = some (.int .i64 d) ∧ w'.cell? ⟨w.heap.size + 1, 0, none⟩ = some (.int .i64 y2) ∧ w'.cell? ⟨w.heap.size + 1, 1, none⟩ = some (.int .i64 d2))
          (first
            | exact ⟨HW0.out.drew, by simp [go_sem], by simp [go_sem], by simp [go_sem], by simp [go_sem]⟩
            | (exact ⟨Below.drew (by assumption), by first | assumption | simp [*], by first | assumption | simp [*], by first | assumption | simp [*], by first | assumption | simp [*]⟩)
            | (go_split_ands
               refine ⟨?_, ?_, ?_, ?_, ?_⟩
               · exact Below.trans (by assumption) (Below.mono hcall (Below.size (by assumption)))
               · exact below_cell2 hcall (by assumption)
               · exact below_cell2 hcall (by assumption)
               · exact below_cell2 hcall (by assumption)
               · exact below_cell2 hcall (by assumption)))
          (first | (go_at_call_of 32 (Value.int IntKind.i64 y); refine (HA.out _).mono ?_; rintro e w' ⟨rfl, hcall⟩) | (go_at_call_of 32 (Value.int IntKind.i64 y2); refine (HB.out _).mono ?_; rintro e w' ⟨rfl, hcall⟩) | (go_at_call_of 36 (Value.int IntKind.i64 y); refine (HC.out _).mono ?_; rintro e w' ⟨rfl, hcall⟩) | (go_at_call_of 36 (Value.int IntKind.i64 y2); refine (HD.out _).mono ?_; rintro e w' ⟨rfl, hcall⟩))
        all_goals
          obtain ⟨hbw, q1, q2, q3, q4⟩ := ‹Below w.heap.size w _ ∧ _›
        all_goals
          go_wp2_with (first | (go_at_call 35; refine (HG.out _).mono ?_; rintro e w' ⟨rfl, hcall⟩; have hbw : Below w.heap.size w w' := (by first | exact Below.trans (by assumption) (Below.mono hcall (Below.size (by assumption))) | exact Below.trans (Below.drew (by assumption)) (Below.mono hcall (Below.size (Below.drew (by assumption)))) | exact HW0.out.trans (hcall.mono (by simp <;> omega)) | exact HW0.out.drew.trans (hcall.mono (by simp <;> omega))); have q1 : w'.cell? ⟨w.heap.size, 0, none⟩ = some (.int .i64 y) := below_cell2 hcall (by first | assumption | (simp; done) | (simp [go_sem]; done) | simp [*]); have q2 : w'.cell? ⟨w.heap.size, 1, none⟩ = some (.int .i64 d) := below_cell2 hcall (by first | assumption | (simp; done) | (simp [go_sem]; done) | simp [*]); have q3 : w'.cell? ⟨w.heap.size + 1, 0, none⟩ = some (.int .i64 y2) := below_cell2 hcall (by first | assumption | (simp; done) | (simp [go_sem]; done) | simp [*]); have q4 : w'.cell? ⟨w.heap.size + 1, 1, none⟩ = some (.int .i64 d2) := below_cell2 hcall (by first | assumption | (simp; done) | (simp [go_sem]; done) | simp [*]); clear hcall))
          go_ret3
          exact ⟨rfl, by assumption⟩
    · have e0 : gapB (y, d) (y2, d2) = false := by unfold gapB twoD; rw [h1, h2]; exact decide_eq_false h3
      obtain ⟨e1, e2⟩ := gap_no e0
      rw [e0, e1, e2]
      clear e0 e1 e2
      rw [h1] at HA0
      have HA := Lib.hid HA0
      rw [h2] at HB0
      have HB := Lib.hid HB0
      clear HA0 HB0 h1 h2
      generalize dys (y, d) = p at HC hc1 h3
      generalize dys (y2, d2) = q at HD hc2 h3
      have hle : q < p := by omega
      go_enter Try.func24, Try.ntmps24
      go_wp2_with fail
      go_region_held3 (fun w' => Below w.heap.size w w' ∧ w'.cell? ⟨w.heap.size, 0, none⟩ = some (.int .i64 y) ∧ w'.cell? ⟨w.heap.size, 1, none⟩ = some (.int .i64 d) ∧ w'.cell? ⟨w.heap.size + 1, 0, none⟩ = some (.int .i64 y2) ∧ w'.cell? ⟨w.heap.size + 1, 1, none⟩ = some (.int .i64 d2))
        (first
          | exact ⟨HW0.out.drew, by simp [go_sem], by simp [go_sem], by simp [go_sem], by simp [go_sem]⟩
          | (exact ⟨Below.drew (by assumption), by first | assumption | simp [*], by first | assumption | simp [*], by first | assumption | simp [*], by first | assumption | simp [*]⟩)
          | (go_split_ands
             refine ⟨?_, ?_, ?_, ?_, ?_⟩
             · exact Below.trans (by assumption) (Below.mono hcall (Below.size (by assumption)))
             · exact below_cell2 hcall (by assumption)
             · exact below_cell2 hcall (by assumption)
             · exact below_cell2 hcall (by assumption)
             · exact below_cell2 hcall (by assumption)))
        (first | (go_at_call_of 32 (Value.int IntKind.i64 y); refine (HA.out _).mono ?_; rintro e w' ⟨rfl, hcall⟩) | (go_at_call_of 32 (Value.int IntKind.i64 y2); refine (HB.out _).mono ?_; rintro e w' ⟨rfl, hcall⟩) | (go_at_call_of 36 (Value.int IntKind.i64 y); refine (HC.out _).mono ?_; rintro e w' ⟨rfl, hcall⟩) | (go_at_call_of 36 (Value.int IntKind.i64 y2); refine (HD.out _).mono ?_; rintro e w' ⟨rfl, hcall⟩))
      all_goals
        obtain ⟨hbw, q1, q2, q3, q4⟩ := ‹Below w.heap.size w _ ∧ _›
        go_wp2_with fail
        go_ret3
        exact ⟨rfl, by assumption⟩

end Go.Proofs.Ytbhceokapbnhhab
