/- People told by number, and how many times older one is: both texts. -/
import Derived.Test.YtonnknhmmljmaaaHouse
set_option linter.unusedVariables false
set_option linter.unusedSimpArgs false
namespace Go.Proofs.Ytonnknhmmljmaaa
open Go.RowKit

def whoB (zs : List Int) (a : Int) : Bool := goodB zs 120 && inB a 0 ((zs.length : Int) - 1)
theorem agWho_any (b off c : Nat) (a : Int) (zs : List Int) (w : World) (hn : zs.length ≤ 1048576) (hI : Ints w b off zs) :
    Calls Try.prog 68 #[.slice (some ⟨b, off, none⟩) zs.length c, .int .i64 a] w (RetSame (.bool (whoB zs a)) w) := by
  cases h : goodB zs 120 with
  | false =>
    have HF := Lib.hid (show whoB zs a = false by unfold whoB; rw [h]; rfl)
    go_enter Try.func68, Try.ntmps68
    go_wp2_with (first | (go_at_call 46; refine (agGood_any _ _ _ _ zs _ rfl hn hI).mono ?_; rintro e w' ⟨rfl, rfl⟩) | (go_at_call 63; refine (l1In_any _ _ _ _).mono ?_; rintro e w' ⟨rfl, rfl⟩))
    go_ret
    exact ⟨by rw [HF.out]; rfl, rfl⟩
  | true =>
    have HF := Lib.hid (show whoB zs a = inB a 0 ((zs.length : Int) - 1) by unfold whoB; rw [h]; rfl)
    go_enter Try.func68, Try.ntmps68
    go_wp2_with (first | (go_at_call 46; refine (agGood_any _ _ _ _ zs _ rfl hn hI).mono ?_; rintro e w' ⟨rfl, rfl⟩) | (go_at_call 63; refine (l1In_any _ _ _ _).mono ?_; rintro e w' ⟨rfl, rfl⟩))
    go_ret
    exact ⟨by rw [HF.out]; rfl, rfl⟩
theorem allB_two (x y lo hi : Int) : allB [x, y] lo hi = (inB x lo hi && inB y lo hi) := by simp [allB]
theorem ints_two {W : World} {g : Nat} (x y : Int) (t : TypeId) (h : g = W.heap.size) : Ints (W.alloc (.cells #[.int .i64 x, .int .i64 y] t)) g 0 [x, y] := by
  subst h
  intro j hj
  have : j = 0 ∨ j = 1 := by simp at hj; omega
  rcases this with rfl | rfl <;> simp
theorem whoB_nat {zs : List Int} {a : Int} (h : whoB zs a = true) : ∃ A : Nat, a = (A : Int) ∧ A < zs.length := by
  unfold whoB at h
  rw [Bool.and_eq_true, inB_iff] at h
  exact ⟨a.toNat, by omega, by omega⟩
theorem whoB_good {zs : List Int} {a : Int} (h : whoB zs a = true) : goodB zs 120 = true := by
  unfold whoB at h; rw [Bool.and_eq_true] at h; exact h.1
theorem who_two {zs : List Int} {a b : Int} : (goodB zs 120 && allB [a, b] 0 ((zs.length : Int) - 1)) = (whoB zs a && whoB zs b) := by
  rw [allB_two]; unfold whoB
  cases goodB zs 120 <;> simp
end Go.Proofs.Ytonnknhmmljmaaa
