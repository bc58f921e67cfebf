/- TurnedAge, DigitSumOf, SquareYearOf, LastDigitsYear: both texts. -/
import Derived.Test.YtjabghojenhhiaaDoorDig
set_option linter.unusedVariables false
set_option linter.unusedSimpArgs false
namespace Go.Proofs.YtjabghojenhhiaaDoor
open Go.RowKit

theorem isAge_any (n : Int) (w : World) : Calls Tryd.prog 26 #[.int .i64 n] w (RetSame (.bool (inB n 0 120)) w) := by
  go_enter Tryd.func26, Tryd.ntmps26
  go_wp2_with (first | (go_at_call 43; refine (isWithin_any _ _ _ _).mono ?_; rintro e w' ⟨rfl, rfl⟩))
  go_ret
  exact ⟨rfl, rfl⟩
theorem kiAge_any (n : Int) (w : World) : Calls Tryd.prog 24 #[.int .i64 n] w (RetSame (.bool (inB n 0 120)) w) := by
  go_enter Tryd.func24, Tryd.ntmps24
  go_wp2_with (first | (go_at_call 29; refine (l1In_any _ _ _ _).mono ?_; rintro e w' ⟨rfl, rfl⟩))
  go_ret
  exact ⟨rfl, rfl⟩
theorem retIB {a b : Int} {x y : Bool} (h1 : a = b) (h2 : x = y) : Ending.returned (.tuple #[.int .i64 a, .bool x]) = .returned (.tuple #[.int .i64 b, .bool y]) := by rw [h1, h2]
/-! Turned ages. -/
def turned (n : Int) : Int := n % 10 * 10 + n / 10
def turnR (n : Int) : Int := if inB n 10 99 then turned n else 0
theorem turnR_yes {n : Int} (h : inB n 10 99 = true) : turnR n = turned n := by unfold turnR; rw [h]; rfl
theorem turnR_no {n : Int} (h : inB n 10 99 = false) : turnR n = 0 := by unfold turnR; rw [h]; rfl
/-! DigitSumOf. -/
def dsR (n : Int) : Int := if inB n 0 120 then dsI n else 0
theorem dsR_yes {n : Int} (h : inB n 0 120 = true) : dsR n = dsI n := by unfold dsR; rw [h]; rfl
theorem dsR_no {n : Int} (h : inB n 0 120 = false) : dsR n = 0 := by unfold dsR; rw [h]; rfl
/-! LastDigitsYear. -/
def lastY (n : Int) : Int := if inB n 0 2900 then n + n % 100 else 0
theorem lastY_yes {n : Int} (h : inB n 0 2900 = true) : lastY n = n + n % 100 := by unfold lastY; rw [h]; rfl
theorem lastY_no {n : Int} (h : inB n 0 2900 = false) : lastY n = 0 := by unfold lastY; rw [h]; rfl
/-! The age at which the year is its square. -/
def SqFree (b : Int) (k : Nat) : Prop := ∀ j : Nat, j < k → ((2 : Int) + j) * (2 + j) - (2 + j) ≠ b
def sqAt (b : Int) (n : Nat) : Int :=
  match n with
  | 0 => -1
  | k + 1 => if 0 ≤ sqAt b k then sqAt b k else if ((2 : Int) + k) * (2 + k) - (2 + k) = b then 2 + k else -1
termination_by n
decreasing_by all_goals omega
theorem sqAt_zero (b : Int) : sqAt b 0 = -1 := by rw [sqAt]
theorem sqAt_succ (b : Int) (k : Nat) : sqAt b (k + 1) = if 0 ≤ sqAt b k then sqAt b k else if ((2 : Int) + k) * (2 + k) - (2 + k) = b then 2 + k else -1 := by rw [sqAt]
theorem sqAt_free {b : Int} : ∀ {k : Nat}, SqFree b k → sqAt b k = -1 := by
  intro k
  induction k with
  | zero => intro _; exact sqAt_zero b
  | succ k ih =>
    intro h
    have h1 := ih fun j hj => h j (by omega)
    have h2 := h k (by omega)
    rw [sqAt_succ, h1]
    simp [h2]
theorem sqAt_found {b : Int} {m : Nat} (hm : ((2 : Int) + m) * (2 + m) - (2 + m) = b) (h0 : SqFree b m) : ∀ {k : Nat}, m < k → sqAt b k = 2 + m := by
  intro k
  induction k with
  | zero => intro h; omega
  | succ k ih =>
    intro h
    by_cases e : k = m
    · subst e
      rw [sqAt_succ, sqAt_free h0]
      simp [hm]
    · have := ih (by omega)
      rw [sqAt_succ, this]
      simp; omega
theorem sqFree_snoc {b : Int} {k : Nat} (h : SqFree b k) (h2 : ((2 : Int) + k) * (2 + k) - (2 + k) ≠ b) : SqFree b (k + 1) := by
  intro j hj
  by_cases e : j = k
  · subst e; exact h2
  · exact h j (by omega)
def sqOf (b : Int) : Int := sqAt b 119
theorem sqOf_found {b : Int} {m : Nat} (hm : ((2 : Int) + m) * (2 + m) - (2 + m) = b) (h0 : SqFree b m) (h : m < 119) : sqOf b = 2 + m := by
  unfold sqOf
  exact sqAt_found hm h0 h
theorem sqOf_free {b : Int} (h : SqFree b 119) : sqOf b = -1 := by
  unfold sqOf
  exact sqAt_free h
theorem sqOf_bd (b : Int) : sqOf b = -1 ∨ 2 ≤ sqOf b ∧ sqOf b ≤ 120 := by
  unfold sqOf
  have : ∀ k : Nat, sqAt b k = -1 ∨ 2 ≤ sqAt b k ∧ sqAt b k ≤ 1 + k := by
    intro k
    induction k with
    | zero => exact .inl (sqAt_zero b)
    | succ k ih =>
      rw [sqAt_succ]
      rcases ih with h | h
      · rw [h]
        by_cases e : ((2 : Int) + k) * (2 + k) - (2 + k) = b
        · right; simp [e]; omega
        · left; simp [e]
      · right; rw [if_pos (by omega)]; omega
  have := this 119
  omega
theorem mul_bd {a : Int} (h0 : 2 ≤ a) (h1 : a ≤ 120) : 0 ≤ a * a ∧ a * a ≤ 14400 := by
  have h2 : 0 ≤ a * a := Int.mul_nonneg (by omega) (by omega)
  have h3 : a * a ≤ 120 * 120 := Int.mul_le_mul h1 h1 (by omega) (by omega)
  omega
def sqR (b : Int) : Int := if inB b 0 2900 && decide (0 ≤ sqOf b) then sqOf b else 0
def sqB (b : Int) : Bool := inB b 0 2900 && decide (0 ≤ sqOf b)
theorem sq_out {b : Int} (h : inB b 0 2900 = false) : sqR b = 0 ∧ sqB b = false := by unfold sqR sqB; rw [h]; simp
theorem sq_yes {b : Int} (h : inB b 0 2900 = true) (h2 : 0 ≤ sqOf b) : sqR b = sqOf b ∧ sqB b = true := by unfold sqR sqB; rw [h]; simp [h2]
theorem sq_no {b : Int} (h : inB b 0 2900 = true) (h2 : ¬ 0 ≤ sqOf b) : sqR b = 0 ∧ sqB b = false := by unfold sqR sqB; rw [h]; simp [h2]
end Go.Proofs.YtjabghojenhhiaaDoor
