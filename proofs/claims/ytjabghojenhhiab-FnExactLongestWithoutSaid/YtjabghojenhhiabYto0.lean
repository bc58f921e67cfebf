/- Of some numbers in a row those that meet a test. -/
import Derived.Test.YtjabghojenhhiabNum
set_option linter.unusedVariables false
set_option linter.unusedSimpArgs false
namespace Go.Proofs.Ytjabghojenhhiab
open Go.RowKit

/-- Of the first k numbers from lo on those that meet the test. -/
def yTo (test : Int → Bool) (lo : Int) (k : Nat) : List Int := ((List.range k).map fun i => lo + ((i : Nat) : Int)).filter test
theorem yTo_zero (test : Int → Bool) (lo : Int) : yTo test lo 0 = [] := rfl
theorem yTo_yes {test : Int → Bool} {lo : Int} {k : Nat} (h : test (lo + k) = true) : yTo test lo (k + 1) = yTo test lo k ++ [lo + k] := by
  unfold yTo
  rw [List.range_succ, List.map_append, List.filter_append]
  simp [h]
theorem yTo_no {test : Int → Bool} {lo : Int} {k : Nat} (h : test (lo + k) = false) : yTo test lo (k + 1) = yTo test lo k := by
  unfold yTo
  rw [List.range_succ, List.map_append, List.filter_append]
  simp [h]
theorem yTo_len (test : Int → Bool) (lo : Int) (k : Nat) : (yTo test lo k).length ≤ k := by
  unfold yTo
  exact Nat.le_trans (List.length_filter_le _ _) (by simp)
theorem yTo_congr {t1 t2 : Int → Bool} {lo : Int} : ∀ {N : Nat}, (∀ j : Nat, j < N → t1 (lo + j) = t2 (lo + j)) → yTo t1 lo N = yTo t2 lo N := by
  intro N
  induction N with
  | zero => intro _; rfl
  | succ N ih =>
    intro h
    have h1 := ih fun j hj => h j (by omega)
    have h2 := h N (by omega)
    cases e : t2 (lo + N) with
    | true => rw [yTo_yes e, yTo_yes (h2.trans e), h1]
    | false => rw [yTo_no e, yTo_no (h2.trans e), h1]
theorem yTo_add (test : Int → Bool) (lo : Int) (a : Nat) : ∀ b : Nat, yTo test lo (a + b) = yTo test lo a ++ yTo test (lo + a) b := by
  intro b
  induction b with
  | zero => rw [yTo_zero]; simp
  | succ b ih =>
    have e : lo + ((a + b : Nat) : Int) = lo + a + b := by omega
    cases h : test (lo + a + b) with
    | true => rw [← Nat.add_assoc, yTo_yes (by rw [e]; exact h), yTo_yes h, ih, e, List.append_assoc]
    | false => rw [← Nat.add_assoc, yTo_no (by rw [e]; exact h), yTo_no h, ih]
theorem yTo_none {test : Int → Bool} {lo : Int} : ∀ {N : Nat}, (∀ j : Nat, j < N → test (lo + j) = false) → yTo test lo N = [] := by
  intro N
  induction N with
  | zero => intro _; rfl
  | succ N ih => intro h; rw [yTo_no (h N (by omega))]; exact ih fun j hj => h j (by omega)
end Go.Proofs.Ytjabghojenhhiab
