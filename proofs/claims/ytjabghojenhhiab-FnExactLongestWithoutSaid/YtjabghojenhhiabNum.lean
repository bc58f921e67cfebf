/- TurnedAge, DigitSumOf, SquareYearOf, LastDigitsYear: both texts. -/
import Derived.Test.YtjabghojenhhiabDig
set_option linter.unusedVariables false
set_option linter.unusedSimpArgs false
namespace Go.Proofs.Ytjabghojenhhiab
open Go.RowKit

theorem isTwo_any (n : Int) (w : World) : Calls Try.prog 52 #[.int .i64 n] w (RetSame (.bool (inB n 10 99)) w) := by
  go_enter Try.func52, Try.ntmps52
  go_wp2_with (first | (go_at_call 53; refine (isWithin_any _ _ _ _).mono ?_; rintro e w' ⟨rfl, rfl⟩))
  go_ret
  exact ⟨rfl, rfl⟩
theorem isAge_any (n : Int) (w : World) : Calls Try.prog 46 #[.int .i64 n] w (RetSame (.bool (inB n 0 120)) w) := by
  go_enter Try.func46, Try.ntmps46
  go_wp2_with (first | (go_at_call 53; refine (isWithin_any _ _ _ _).mono ?_; rintro e w' ⟨rfl, rfl⟩))
  go_ret
  exact ⟨rfl, rfl⟩
theorem isBirth_any (n : Int) (w : World) : Calls Try.prog 58 #[.int .i64 n] w (RetSame (.bool (inB n 0 2900)) w) := by
  go_enter Try.func58, Try.ntmps58
  go_wp2_with (first | (go_at_call 53; refine (isWithin_any _ _ _ _).mono ?_; rintro e w' ⟨rfl, rfl⟩))
  go_ret
  exact ⟨rfl, rfl⟩
theorem kiAge_any (n : Int) (w : World) : Calls Try.prog 42 #[.int .i64 n] w (RetSame (.bool (inB n 0 120)) w) := by
  go_enter Try.func42, Try.ntmps42
  go_wp2_with (first | (go_at_call 50; refine (l1In_any _ _ _ _).mono ?_; rintro e w' ⟨rfl, rfl⟩))
  go_ret
  exact ⟨rfl, rfl⟩
theorem kiBirth_any (n : Int) (w : World) : Calls Try.prog 56 #[.int .i64 n] w (RetSame (.bool (inB n 0 2900)) w) := by
  go_enter Try.func56, Try.ntmps56
  go_wp2_with (first | (go_at_call 50; refine (l1In_any _ _ _ _).mono ?_; rintro e w' ⟨rfl, rfl⟩))
  go_ret
  exact ⟨rfl, rfl⟩

theorem retIB {a b : Int} {x y : Bool} (h1 : a = b) (h2 : x = y) : Ending.returned (.tuple #[.int .i64 a, .bool x]) = .returned (.tuple #[.int .i64 b, .bool y]) := by rw [h1, h2]
/-! Turned ages. -/
def turned (n : Int) : Int := n % 10 * 10 + n / 10
theorem kiTurned_any (n : Int) (w : World) (h0 : 0 ≤ n) (h1 : n ≤ 1048576) : Calls Try.prog 51 #[.int .i64 n] w (RetSame (.int .i64 (turned n)) w) := by
  go_enter Try.func51, Try.ntmps51
  go_wp2
  go_ret
  exact ⟨retInt rfl, rfl⟩
def turnR (n : Int) : Int := if inB n 10 99 then turned n else 0
theorem turnR_yes {n : Int} (h : inB n 10 99 = true) : turnR n = turned n := by unfold turnR; rw [h]; rfl
theorem turnR_no {n : Int} (h : inB n 10 99 = false) : turnR n = 0 := by unfold turnR; rw [h]; rfl
theorem specTurnedAge_any (n : Int) (w : World) : Calls Try.prog 26 #[.int .i64 n] w (RetSame (.tuple #[.int .i64 (turnR n), .bool (inB n 10 99)]) w) := by
  cases h : inB n 10 99 with
  | false =>
    rw [turnR_no h]
    go_enter Try.func26, Try.ntmps26
    go_wp2_with (first | (go_at_call 50; refine (l1In_any _ _ _ _).mono ?_; rintro e w' ⟨rfl, rfl⟩))
    go_ret2
    exact ⟨rfl, rfl⟩
  | true =>
    rw [turnR_yes h]
    have hb := inB_iff.1 h
    go_enter Try.func26, Try.ntmps26
    go_wp2_with (first | (go_at_call 50; refine (l1In_any _ _ _ _).mono ?_; rintro e w' ⟨rfl, rfl⟩) | (go_at_call 51; refine (kiTurned_any _ _ (by omega) (by omega)).mono ?_; rintro e w' ⟨rfl, rfl⟩))
    go_ret2
    exact ⟨rfl, rfl⟩
theorem turnedAge_any (n : Int) (w : World) : Calls Try.prog 27 #[.int .i64 n] w (RetSame (.tuple #[.int .i64 (turnR n), .bool (inB n 10 99)]) w) := by
  cases h : inB n 10 99 with
  | false =>
    rw [turnR_no h]
    go_enter Try.func27, Try.ntmps27
    go_wp2_with (first | (go_at_call 52; refine (isTwo_any _ _).mono ?_; rintro e w' ⟨rfl, rfl⟩))
    go_ret2
    exact ⟨rfl, rfl⟩
  | true =>
    rw [turnR_yes h]
    have hb := inB_iff.1 h
    go_enter Try.func27, Try.ntmps27
    go_wp2_with (first | (go_at_call 52; refine (isTwo_any _ _).mono ?_; rintro e w' ⟨rfl, rfl⟩))
    go_ret2
    exact ⟨rfl, rfl⟩

/-! DigitSumOf. -/
def dsR (n : Int) : Int := if inB n 0 120 then dsI n else 0
theorem dsR_yes {n : Int} (h : inB n 0 120 = true) : dsR n = dsI n := by unfold dsR; rw [h]; rfl
theorem dsR_no {n : Int} (h : inB n 0 120 = false) : dsR n = 0 := by unfold dsR; rw [h]; rfl
theorem specDigitSumOf_any (n : Int) (w : World) : Calls Try.prog 30 #[.int .i64 n] w (RetSame (.tuple #[.int .i64 (dsR n), .bool (inB n 0 120)]) w) := by
  cases h : inB n 0 120 with
  | false =>
    rw [dsR_no h]
    go_enter Try.func30, Try.ntmps30
    go_wp2_with (first | (go_at_call 42; refine (kiAge_any _ _).mono ?_; rintro e w' ⟨rfl, rfl⟩))
    go_ret2
    exact ⟨rfl, rfl⟩
  | true =>
    rw [dsR_yes h]
    have hb := inB_iff.1 h
    go_enter Try.func30, Try.ntmps30
    go_wp2_with (first | (go_at_call 42; refine (kiAge_any _ _).mono ?_; rintro e w' ⟨rfl, rfl⟩) | (go_at_call 54; refine (kiDigits_any _ _ (by omega) (by omega)).mono ?_; rintro e w' ⟨rfl, rfl⟩))
    go_ret2
    exact ⟨rfl, rfl⟩
theorem digitSumOf_any (n : Int) (w : World) : Calls Try.prog 31 #[.int .i64 n] w (RetSame (.tuple #[.int .i64 (dsR n), .bool (inB n 0 120)]) w) := by
  cases h : inB n 0 120 with
  | false =>
    rw [dsR_no h]
    go_enter Try.func31, Try.ntmps31
    go_wp2_with (first | (go_at_call 46; refine (isAge_any _ _).mono ?_; rintro e w' ⟨rfl, rfl⟩))
    go_ret2
    exact ⟨rfl, rfl⟩
  | true =>
    rw [dsR_yes h]
    have hb := inB_iff.1 h
    go_enter Try.func31, Try.ntmps31
    go_wp2_with (first | (go_at_call 46; refine (isAge_any _ _).mono ?_; rintro e w' ⟨rfl, rfl⟩) | (go_at_call 55; refine (digitSum_any _ _ (by omega) (by omega)).mono ?_; rintro e w' ⟨rfl, rfl⟩))
    go_ret2
    exact ⟨rfl, rfl⟩

/-! LastDigitsYear. -/
def lastY (n : Int) : Int := if inB n 0 2900 then n + n % 100 else 0
theorem lastY_yes {n : Int} (h : inB n 0 2900 = true) : lastY n = n + n % 100 := by unfold lastY; rw [h]; rfl
theorem lastY_no {n : Int} (h : inB n 0 2900 = false) : lastY n = 0 := by unfold lastY; rw [h]; rfl
theorem specLastDigits_any (n : Int) (w : World) : Calls Try.prog 38 #[.int .i64 n] w (RetSame (.tuple #[.int .i64 (lastY n), .bool (inB n 0 2900)]) w) := by
  cases h : inB n 0 2900 with
  | false =>
    rw [lastY_no h]
    go_enter Try.func38, Try.ntmps38
    go_wp2_with (first | (go_at_call 56; refine (kiBirth_any _ _).mono ?_; rintro e w' ⟨rfl, rfl⟩))
    go_ret2
    exact ⟨rfl, rfl⟩
  | true =>
    rw [lastY_yes h]
    have hb := inB_iff.1 h
    go_enter Try.func38, Try.ntmps38
    go_wp2_with (first | (go_at_call 56; refine (kiBirth_any _ _).mono ?_; rintro e w' ⟨rfl, rfl⟩))
    go_ret2
    exact ⟨rfl, rfl⟩
theorem lastDigits_any (n : Int) (w : World) : Calls Try.prog 39 #[.int .i64 n] w (RetSame (.tuple #[.int .i64 (lastY n), .bool (inB n 0 2900)]) w) := by
  cases h : inB n 0 2900 with
  | false =>
    rw [lastY_no h]
    go_enter Try.func39, Try.ntmps39
    go_wp2_with (first | (go_at_call 58; refine (isBirth_any _ _).mono ?_; rintro e w' ⟨rfl, rfl⟩))
    go_ret2
    exact ⟨rfl, rfl⟩
  | true =>
    rw [lastY_yes h]
    have hb := inB_iff.1 h
    go_enter Try.func39, Try.ntmps39
    go_wp2_with (first | (go_at_call 58; refine (isBirth_any _ _).mono ?_; rintro e w' ⟨rfl, rfl⟩))
    go_ret2
    exact ⟨rfl, rfl⟩

/-! The age at which the year is its square. -/
def SqFree (b : Int) (k : Nat) : Prop := ∀ j : Nat, j < k → ((2 : Int) + j) * (2 + j) - (2 + j) ≠ b
def sqAt (b : Int) (n : Nat) : Int :=
  match n with
  | 0 => -1
  | k + 1 => if 0 ≤ sqAt b k then sqAt b k else if ((2 : Int) + k) * (2 + k) - (2 + k) = b then 2 + k else -1
termination_by n
decreasing_by all_goals omega
theorem sqAt_zero (b : Int) : sqAt b 0 = -1 := by rw [sqAt]
theorem sqAt_succ (b : Int) (k : Nat) : sqAt b (k + 1) = if 0 ≤ sqAt b k then sqAt b k else if ((2 : Int) + k) * (2 + k) - (2 + k) = b then 2 + k else -1 := by rw [sqAt]
theorem sqAt_free {b : Int} : ∀ {k : Nat}, SqFree b k → sqAt b k = -1 := by
  intro k
  induction k with
  | zero => intro _; exact sqAt_zero b
  | succ k ih =>
    intro h
    have h1 := ih fun j hj => h j (by omega)
    have h2 := h k (by omega)
    rw [sqAt_succ, h1]
    simp [h2]
theorem sqAt_found {b : Int} {m : Nat} (hm : ((2 : Int) + m) * (2 + m) - (2 + m) = b) (h0 : SqFree b m) : ∀ {k : Nat}, m < k → sqAt b k = 2 + m := by
  intro k
  induction k with
  | zero => intro h; omega
  | succ k ih =>
    intro h
    by_cases e : k = m
    · subst e
      rw [sqAt_succ, sqAt_free h0]
      simp [hm]
    · have := ih (by omega)
      rw [sqAt_succ, this]
      simp; omega
theorem sqFree_snoc {b : Int} {k : Nat} (h : SqFree b k) (h2 : ((2 : Int) + k) * (2 + k) - (2 + k) ≠ b) : SqFree b (k + 1) := by
  intro j hj
  by_cases e : j = k
  · subst e; exact h2
  · exact h j (by omega)
def sqOf (b : Int) : Int := sqAt b 119
theorem sqOf_found {b : Int} {m : Nat} (hm : ((2 : Int) + m) * (2 + m) - (2 + m) = b) (h0 : SqFree b m) (h : m < 119) : sqOf b = 2 + m := by
  unfold sqOf
  exact sqAt_found hm h0 h
theorem sqOf_free {b : Int} (h : SqFree b 119) : sqOf b = -1 := by
  unfold sqOf
  exact sqAt_free h
theorem sqOf_bd (b : Int) : sqOf b = -1 ∨ 2 ≤ sqOf b ∧ sqOf b ≤ 120 := by
  unfold sqOf
  have : ∀ k : Nat, sqAt b k = -1 ∨ 2 ≤ sqAt b k ∧ sqAt b k ≤ 1 + k := by
    intro k
    induction k with
    | zero => exact .inl (sqAt_zero b)
    | succ k ih =>
      rw [sqAt_succ]
      rcases ih with h | h
      · rw [h]
        by_cases e : ((2 : Int) + k) * (2 + k) - (2 + k) = b
        · right; simp [e]; omega
        · left; simp [e]
      · right; rw [if_pos (by omega)]; omega
  have := this 119
  omega
theorem mul_bd {a : Int} (h0 : 2 ≤ a) (h1 : a ≤ 120) : 0 ≤ a * a ∧ a * a ≤ 14400 := by
  have h2 : 0 ≤ a * a := Int.mul_nonneg (by omega) (by omega)
  have h3 : a * a ≤ 120 * 120 := Int.mul_le_mul h1 h1 (by omega) (by omega)
  omega
set_option maxHeartbeats 400000 in
theorem kiSquare_any (b : Int) (w : World) (h0 : 0 ≤ b) (h1 : b ≤ 2900) : Calls Try.prog 57 #[.int .i64 b] w (RetSame (.int .i64 (sqOf b)) w) := by
  go_enter Try.func57, Try.ntmps57
  go_wp2
  go_loop [3] (fun v => ∃ k : Nat, k ≤ 119 ∧ v = .int .i64 (2 + k) ∧ SqFree b k) (fun v => (121 - intOf v).toNat)
  case atStart => exact ⟨0, by omega, rfl, fun j hj => absurd hj (by omega)⟩
  case round =>
    obtain ⟨k, hk, rfl, hf⟩ := hrel
    by_cases hlt : k < 119
    · have hm := mul_bd (a := 2 + (k : Int)) (by omega) (by omega)
      by_cases he : ((2 : Int) + k) * (2 + k) - (2 + k) = b
      · have H := Lib.hid (sqOf_found he hf hlt)
        have hd : (((2 : Int) + k) * (2 + k) - (2 + k) == b) = true := by simpa using he
        clear he hf
        go_wp2
        go_ret
        exact ⟨retInt H.out.symm, rfl⟩
      · have H := Lib.hid (sqFree_snoc hf he)
        have hd : (((2 : Int) + k) * (2 + k) - (2 + k) == b) = false := by simpa using he
        clear he hf
        go_wp2
        go_round
        case rel => exact ⟨k + 1, by omega, by go_num, H.out⟩
        case measure => simp [intOf]; omega
    · have hkn : k = 119 := by omega
      subst hkn
      have H := Lib.hid (sqOf_free hf)
      clear hf
      go_wp2
      go_ret
      exact ⟨retInt H.out.symm, rfl⟩
def sqR (b : Int) : Int := if inB b 0 2900 && decide (0 ≤ sqOf b) then sqOf b else 0
def sqB (b : Int) : Bool := inB b 0 2900 && decide (0 ≤ sqOf b)
theorem sq_out {b : Int} (h : inB b 0 2900 = false) : sqR b = 0 ∧ sqB b = false := by unfold sqR sqB; rw [h]; simp
theorem sq_yes {b : Int} (h : inB b 0 2900 = true) (h2 : 0 ≤ sqOf b) : sqR b = sqOf b ∧ sqB b = true := by unfold sqR sqB; rw [h]; simp [h2]
theorem sq_no {b : Int} (h : inB b 0 2900 = true) (h2 : ¬ 0 ≤ sqOf b) : sqR b = 0 ∧ sqB b = false := by unfold sqR sqB; rw [h]; simp [h2]
theorem specSquareYear_any (b : Int) (w : World) : Calls Try.prog 32 #[.int .i64 b] w (RetSame (.tuple #[.int .i64 (sqR b), .bool (sqB b)]) w) := by
  cases h : inB b 0 2900 with
  | false =>
    rw [(sq_out h).1, (sq_out h).2]
    go_enter Try.func32, Try.ntmps32
    go_wp2_with (first | (go_at_call 56; refine (kiBirth_any _ _).mono ?_; rintro e w' ⟨rfl, rfl⟩))
    go_ret2
    exact ⟨rfl, rfl⟩
  | true =>
    have hb := inB_iff.1 h
    have hq := sqOf_bd b
    by_cases h2 : 0 ≤ sqOf b
    · rw [(sq_yes h h2).1, (sq_yes h h2).2]
      generalize hsq : sqOf b = q at *
      have HQ := Lib.hid hsq
      clear hsq
      go_enter Try.func32, Try.ntmps32
      go_wp2_with (first | (go_at_call 56; refine (kiBirth_any _ _).mono ?_; rintro e w' ⟨rfl, rfl⟩) | (go_at_call 57; refine (kiSquare_any _ _ (by omega) (by omega)).mono ?_; rw [HQ.out]; rintro e w' ⟨rfl, rfl⟩))
      go_ret2
      exact ⟨rfl, rfl⟩
    · rw [(sq_no h h2).1, (sq_no h h2).2]
      generalize hsq : sqOf b = q at *
      have HQ := Lib.hid hsq
      clear hsq
      go_enter Try.func32, Try.ntmps32
      go_wp2_with (first | (go_at_call 56; refine (kiBirth_any _ _).mono ?_; rintro e w' ⟨rfl, rfl⟩) | (go_at_call 57; refine (kiSquare_any _ _ (by omega) (by omega)).mono ?_; rw [HQ.out]; rintro e w' ⟨rfl, rfl⟩))
      go_ret2
      exact ⟨rfl, rfl⟩
set_option maxHeartbeats 400000 in
theorem squareYear_any (b : Int) (w : World) : Calls Try.prog 33 #[.int .i64 b] w (RetSame (.tuple #[.int .i64 (sqR b), .bool (sqB b)]) w) := by
  cases h : inB b 0 2900 with
  | false =>
    rw [(sq_out h).1, (sq_out h).2]
    go_enter Try.func33, Try.ntmps33
    go_wp2_with (first | (go_at_call 58; refine (isBirth_any _ _).mono ?_; rintro e w' ⟨rfl, rfl⟩))
    go_ret2
    exact ⟨rfl, rfl⟩
  | true =>
    have hb := inB_iff.1 h
    have HB := Lib.hid h
    go_enter Try.func33, Try.ntmps33
    go_wp2_with (first | (go_at_call 58; refine (isBirth_any _ _).mono ?_; rintro e w' ⟨rfl, rfl⟩))
    clear h
    go_loop [4] (fun v => ∃ k : Nat, k ≤ 119 ∧ v = .int .i64 (2 + k) ∧ SqFree b k) (fun v => (121 - intOf v).toNat)
    case atStart => exact ⟨0, by omega, rfl, fun j hj => absurd hj (by omega)⟩
    case round =>
      obtain ⟨k, hk, rfl, hf⟩ := hrel
      by_cases hlt : k < 119
      · have hm := mul_bd (a := 2 + (k : Int)) (by omega) (by omega)
        by_cases he : ((2 : Int) + k) * (2 + k) - (2 + k) = b
        · have H := Lib.hid (sqOf_found he hf hlt)
          have H2 := Lib.hid (sq_yes HB.out (by rw [H.out]; omega))
          have hd : (((2 : Int) + k) * (2 + k) == b + (2 + k)) = true := by rw [beq_iff_eq]; omega
          clear he hf
          go_wp2
          go_ret2
          exact ⟨retIB (H2.out.1.trans H.out).symm H2.out.2.symm, rfl⟩
        · have H := Lib.hid (sqFree_snoc hf he)
          have hd : (((2 : Int) + k) * (2 + k) == b + (2 + k)) = false := by rw [beq_eq_false_iff_ne]; omega
          clear he hf
          go_wp2
          go_round
          case rel => exact ⟨k + 1, by omega, by go_num, H.out⟩
          case measure => simp [intOf]; omega
      · have hkn : k = 119 := by omega
        subst hkn
        have H := Lib.hid (sqOf_free hf)
        have H2 := Lib.hid (sq_no HB.out (by rw [H.out]; omega))
        clear hf
        go_wp2
        go_ret2
        exact ⟨retIB H2.out.1.symm H2.out.2.symm, rfl⟩
end Go.Proofs.Ytjabghojenhhiab
