/- Numbers of days and years: what the program reckons is what the model reckons. Plain lemmas, no program. -/
import Derived.Test.YtbhceokapbnhhaaDoorBi8
set_option linter.unusedVariables false
set_option linter.unusedSimpArgs false
namespace Go.Proofs.YtbhceokapbnhhaaDoor
open Go.RowKit

theorem tdiv_nn {n : Int} (h : 0 ≤ n) : n.tdiv 365 = n / 365 := Int.tdiv_eq_ediv_of_nonneg h
theorem tmod_nn {n : Int} (h : 0 ≤ n) : n.tmod 365 = n % 365 := Int.tmod_eq_emod_of_nonneg h
theorem tdivmod_neg {n : Int} (h : n < 0) : n.tdiv 365 < 0 ∨ n.tmod 365 < 0 := by
  have h1 : n.tdiv 365 = -((-n) / 365) := by
    have := Int.neg_tdiv (a := -n) (b := 365)
    rw [Int.neg_neg] at this
    rw [this, Int.tdiv_eq_ediv_of_nonneg (by omega)]
  have h2 : n.tmod 365 = -((-n) % 365) := by
    have := Int.neg_tmod (a := -n) (b := 365)
    rw [Int.neg_neg] at this
    rw [this, Int.tmod_eq_emod_of_nonneg (by omega)]
  omega
theorem tdiv_bounds {n : Int} (h : -10000000 ≤ n ∧ n ≤ 10000000) : -10000000 ≤ n.tdiv 365 ∧ n.tdiv 365 ≤ 10000000 ∧ -365 < n.tmod 365 ∧ n.tmod 365 < 365 := by
  rcases Int.lt_or_le n 0 with hn | hn
  · have h1 : n.tdiv 365 = -((-n) / 365) := by
      have := Int.neg_tdiv (a := -n) (b := 365)
      rw [Int.neg_neg] at this
      rw [this, Int.tdiv_eq_ediv_of_nonneg (by omega)]
    have h2 : n.tmod 365 = -((-n) % 365) := by
      have := Int.neg_tmod (a := -n) (b := 365)
      rw [Int.neg_neg] at this
      rw [this, Int.tmod_eq_emod_of_nonneg (by omega)]
    omega
  · rw [tdiv_nn hn, tmod_nn hn]; omega
/-- The date that a day is, if it is one. -/
def dateOf (p : Dt) : Dt := if dateB p = true then p else (0, 0)
theorem dateOf_yes {p : Dt} (h : dateB p = true) : dateOf p = p := by unfold dateOf; rw [if_pos h]
theorem dateOf_no {p : Dt} (h : dateB p = false) : dateOf p = (0, 0) := by unfold dateOf; rw [h]; rfl
theorem dateB_back (n : Int) : dateB (n.tdiv 365, n.tmod 365 + 1) = backOk n := by
  unfold dateB backOk
  simp only
  rcases Int.lt_or_le n 0 with hn | hn
  · have h := tdivmod_neg hn
    rw [show inB n 0 1095364 = false from inB_not.2 (by omega)]
    rcases h with h | h
    · rw [show inB (n.tdiv 365) 0 3000 = false from inB_not.2 (by omega)]; rfl
    · rw [show inB (n.tmod 365 + 1) 1 365 = false from inB_not.2 (by omega), Bool.and_false]
  · rw [tdiv_nn hn, tmod_nn hn, show inB (n % 365 + 1) 1 365 = true from inB_true (by omega) (by omega), Bool.and_true]
    rcases Int.lt_or_le 1095364 n with h | h
    · rw [show inB n 0 1095364 = false from inB_not.2 (by omega), show inB (n / 365) 0 3000 = false from inB_not.2 (by omega)]
    · rw [show inB n 0 1095364 = true from inB_true (by omega) (by omega), show inB (n / 365) 0 3000 = true from inB_true (by omega) (by omega)]
theorem dateOf_back (n : Int) : dateOf (n.tdiv 365, n.tmod 365 + 1) = backD n := by
  cases h : backOk n with
  | false =>
    rw [dateOf_no ((dateB_back n).trans h)]
    unfold backD; rw [h]; rfl
  | true =>
    rw [dateOf_yes ((dateB_back n).trans h)]
    have hn := inB_iff.1 (show inB n 0 1095364 = true from h)
    unfold backD; rw [h, tdiv_nn hn.1, tmod_nn hn.1]; rfl
theorem age_days {b o : Dt} (h : bornD b o = true) : (dys o - dys b).tdiv 365 = ageD b o := by
  obtain ⟨h1, h2, h3⟩ := bornD_parts h
  have k1 := dateB_iff.1 h1
  have k2 := dateB_iff.1 h2
  rw [tdiv_nn (by omega)]
  unfold dys at *
  unfold ageD
  split <;> omega
theorem ageOn_days (b o : Dt) : (daysOldR b o).tdiv 365 = ageOnR b o := by
  unfold daysOldR ageOnR
  cases h : bornD b o with
  | false => rfl
  | true => rw [if_pos rfl, if_pos rfl]; exact age_days h
theorem bornD_two (b o : Dt) : bornD b o = (twoD b o && decide (dys b ≤ dys o)) := rfl
theorem gapB_born (a b : Dt) : gapB a b = bornD a b := rfl
theorem gap_lo (a b : Dt) : (daysOldR a b).tdiv 365 = gapLo a b := by
  rw [ageOn_days]; rfl
theorem gap_hi (a b : Dt) (h : bornD a b = true) : (daysOldR a b + 364).tdiv 365 = gapHi a b := by
  obtain ⟨h1, h2, h3⟩ := bornD_parts h
  have k1 := dateB_iff.1 h1
  have k2 := dateB_iff.1 h2
  unfold daysOldR
  rw [if_pos h, (gap_yes (a := a) (b := b) h).2, tdiv_nn (by omega)]
  unfold dys at *
  unfold ageD
  split <;> split <;> omega
theorem abs_max (p q : Int) : max (p - q) (q - p) = absI (p - q) := by
  unfold absI; split <;> omega
end Go.Proofs.YtbhceokapbnhhaaDoor
