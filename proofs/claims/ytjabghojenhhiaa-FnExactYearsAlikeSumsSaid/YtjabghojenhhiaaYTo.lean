/- The years in which something holds of a household. -/
import Derived.Test.YtjabghojenhhiaaProd
set_option linter.unusedVariables false
set_option linter.unusedSimpArgs false
namespace Go.Proofs.Ytjabghojenhhiaa
open Go.RowKit

/-- Of the first k years from lo on those that meet the test. -/
def yTo (test : Int → Bool) (lo : Int) (k : Nat) : List Int := ((List.range k).map fun i => lo + ((i : Nat) : Int)).filter test
theorem yTo_zero (test : Int → Bool) (lo : Int) : yTo test lo 0 = [] := rfl
theorem yTo_yes {test : Int → Bool} {lo : Int} {k : Nat} (h : test (lo + k) = true) : yTo test lo (k + 1) = yTo test lo k ++ [lo + k] := by
  unfold yTo
  rw [List.range_succ, List.map_append, List.filter_append]
  simp [h]
theorem yTo_no {test : Int → Bool} {lo : Int} {k : Nat} (h : test (lo + k) = false) : yTo test lo (k + 1) = yTo test lo k := by
  unfold yTo
  rw [List.range_succ, List.map_append, List.filter_append]
  simp [h]
theorem yTo_len (test : Int → Bool) (lo : Int) (k : Nat) : (yTo test lo k).length ≤ k := by
  unfold yTo
  exact Nat.le_trans (List.length_filter_le _ _) (by simp)
/-- How many years are fit. -/
def nY (zs : List Int) : Nat := (hiY zs - loY zs + 1).toNat
def found (test : Int → Bool) (zs : List Int) : List Int := yTo test (loY zs) (nY zs)
theorem found_len {zs : List Int} (hg : goodB zs 120 = true) (test : Int → Bool) : (found test zs).length ≤ 241 := by
  have h1 := yTo_len test (loY zs) (nY zs)
  have h2 := loY_bd hg
  unfold found
  unfold nY at *
  omega

theorem yTo_none {test : Int → Bool} {lo : Int} : ∀ {N : Nat}, (∀ j : Nat, j < N → test (lo + j) = false) → yTo test lo N = [] := by
  intro N
  induction N with
  | zero => intro _; rfl
  | succ N ih => intro h; rw [yTo_no (h N (by omega))]; exact ih fun j hj => h j (by omega)
theorem yTo_last {test : Int → Bool} {lo : Int} {m : Nat} (hm : test (lo + m) = true) : ∀ {N : Nat}, m < N → (∀ j : Nat, m < j → j < N → test (lo + j) = false) → yTo test lo N = yTo test lo m ++ [lo + m] := by
  intro N
  induction N with
  | zero => intro h; omega
  | succ N ih =>
    intro h hj
    by_cases e : N = m
    · subst e; exact yTo_yes hm
    · rw [yTo_no (hj N (by omega) (by omega))]
      exact ih (by omega) fun j h1 h2 => hj j h1 (by omega)
theorem yTo_first {test : Int → Bool} {lo : Int} {m : Nat} (hm : test (lo + m) = true) (h0 : ∀ j : Nat, j < m → test (lo + j) = false) : ∀ {N : Nat}, m < N → ∃ r, yTo test lo N = (lo + m) :: r := by
  intro N
  induction N with
  | zero => intro h; omega
  | succ N ih =>
    intro h
    by_cases e : N = m
    · subst e; exact ⟨[], by rw [yTo_yes hm, yTo_none h0]; rfl⟩
    · obtain ⟨r, hr⟩ := ih (by omega)
      cases ht : test (lo + N) with
      | true => exact ⟨r ++ [lo + N], by rw [yTo_yes ht, hr]; rfl⟩
      | false => exact ⟨r, by rw [yTo_no ht, hr]⟩

end Go.Proofs.Ytjabghojenhhiaa
