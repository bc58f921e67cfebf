/- People told by number, and how many times older one is: both texts. -/
import Derived.Test.YtjabghojenhhiaaHouse
set_option linter.unusedVariables false
set_option linter.unusedSimpArgs false
namespace Go.Proofs.Ytjabghojenhhiaa
open Go.RowKit

def whoB (zs : List Int) (a : Int) : Bool := goodB zs 120 && inB a 0 ((zs.length : Int) - 1)
theorem allB_two (x y lo hi : Int) : allB [x, y] lo hi = (inB x lo hi && inB y lo hi) := by simp [allB]
theorem ints_two {W : World} {g : Nat} (x y : Int) (t : TypeId) (h : g = W.heap.size) : Ints (W.alloc (.cells #[.int .i64 x, .int .i64 y] t)) g 0 [x, y] := by
  subst h
  intro j hj
  have : j = 0 ∨ j = 1 := by simp at hj; omega
  rcases this with rfl | rfl <;> simp
theorem whoB_nat {zs : List Int} {a : Int} (h : whoB zs a = true) : ∃ A : Nat, a = (A : Int) ∧ A < zs.length := by
  unfold whoB at h
  rw [Bool.and_eq_true, inB_iff] at h
  exact ⟨a.toNat, by omega, by omega⟩
theorem whoB_good {zs : List Int} {a : Int} (h : whoB zs a = true) : goodB zs 120 = true := by
  unfold whoB at h; rw [Bool.and_eq_true] at h; exact h.1
theorem who_two {zs : List Int} {a b : Int} : (goodB zs 120 && allB [a, b] 0 ((zs.length : Int) - 1)) = (whoB zs a && whoB zs b) := by
  rw [allB_two]; unfold whoB
  cases goodB zs 120 <;> simp
end Go.Proofs.Ytjabghojenhhiaa
