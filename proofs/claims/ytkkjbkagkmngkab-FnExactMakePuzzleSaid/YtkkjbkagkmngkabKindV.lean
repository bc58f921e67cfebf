/- Primes, digits alike, and the values of kinds: both texts. -/
import Derived.Test.YtkkjbkagkmngkabKindM
import Derived.Test.YtkkjbkagkmngkabGood
set_option linter.unusedVariables false
set_option linter.unusedSimpArgs false
namespace Go.Proofs.Ytkkjbkagkmngkab
open Go.RowKit

theorem retB {a b : Bool} (h : a = b) : Ending.returned (.bool a) = .returned (.bool b) := by rw [h]
theorem retI {a b : Int} (h : a = b) : Ending.returned (.int .i64 a) = .returned (.int .i64 b) := by rw [h]
theorem two_sq {n k : Nat} (h : (2 + (k : Int)) * (2 + (k : Int)) ≤ (n : Int)) : (2 + k) * (2 + k) ≤ n := by exact_mod_cast h
theorem two_sq_not {n k : Nat} (h : ¬ (2 + (k : Int)) * (2 + (k : Int)) ≤ (n : Int)) : n < (2 + k) * (2 + k) := by
  have h2 : ¬ (2 + k) * (2 + k) ≤ n := fun h3 => h (by exact_mod_cast h3)
  omega
theorem two_le {n k : Nat} (h : (2 + k) * (2 + k) ≤ n) : 2 + k ≤ n := by
  have : (2 + k) * 1 ≤ (2 + k) * (2 + k) := Nat.mul_le_mul_left _ (by omega)
  omega
theorem mod_cast_eq {n k : Nat} (h : (n : Int) % (2 + (k : Int)) = 0) : n % (2 + k) = 0 := by exact_mod_cast h
theorem mod_cast_ne {n k : Nat} (h : ¬ (n : Int) % (2 + (k : Int)) = 0) : n % (2 + k) ≠ 0 := fun h2 => h (by exact_mod_cast h2)
set_option maxHeartbeats 1000000 in
theorem isPrime_any (n : Nat) (w : World) (hn : n ≤ 1048576) : Calls Try.prog 41 #[.int .i64 (n : Int)] w (RetSame (.bool (prB n)) w) := by
  go_enter Try.func41, Try.ntmps41
  go_wp2
  go_loop [3] (fun v => ∃ k : Nat, 2 + k ≤ n + 2 ∧ v = .int .i64 (2 + (k : Int)) ∧ NoDiv n k) (fun v => ((n : Int) + 3 - intOf v).toNat)
  case atStart => exact ⟨0, by omega, rfl, fun j hj => absurd hj (by omega)⟩
  case round =>
    obtain ⟨k, hk, rfl, hf⟩ := hrel
    have hm : 0 ≤ (2 + (k : Int)) * (2 + (k : Int)) ∧ (2 + (k : Int)) * (2 + (k : Int)) ≤ 1099520016400 := by
      refine ⟨Int.mul_nonneg (by omega) (by omega), ?_⟩
      exact Int.le_trans (Int.mul_le_mul (show 2 + (k : Int) ≤ 1048580 by omega) (show 2 + (k : Int) ≤ 1048580 by omega) (by omega) (by omega)) (by omega)
    by_cases h1 : (2 + (k : Int)) * (2 + (k : Int)) ≤ (n : Int)
    · have h1n := two_sq h1
      have h1l := two_le h1n
      by_cases h2 : (n : Int) % (2 + (k : Int)) = 0
      · have H : Hid (prB n = false) := Lib.hid (prB_false h1n (mod_cast_eq h2))
        have hd : ((n : Int) % (2 + (k : Int)) == 0) = true := by rw [beq_iff_eq]; exact h2
        clear h2 hf
        go_wp2
        go_ret
        exact ⟨retB H.out.symm, rfl⟩
      · have H := Lib.hid (noDiv_snoc hf (mod_cast_ne h2))
        have hd : ((n : Int) % (2 + (k : Int)) == 0) = false := by rw [beq_eq_false_iff_ne]; exact h2
        clear h2 hf
        go_wp2
        go_round
        case rel => exact ⟨k + 1, by omega, by go_num, H.out⟩
        case measure => simp [intOf]; omega
    · have H := Lib.hid (prB_true hf (two_sq_not h1))
      clear hf
      go_wp2
      go_ret
      exact ⟨retB (by rw [H.out]; exact decide_eq_decide.2 (by omega)), rfl⟩
set_option maxHeartbeats 1000000 in
theorem kiPrime_any (n : Nat) (w : World) (hn : n ≤ 1048576) : Calls Try.prog 48 #[.int .i64 (n : Int)] w (RetSame (.bool (prB n)) w) := by
  go_enter Try.func48, Try.ntmps48
  go_wp2
  go_loop [3] (fun v => ∃ k : Nat, 2 + k ≤ n + 2 ∧ v = .int .i64 (2 + (k : Int)) ∧ NoDiv n k) (fun v => ((n : Int) + 3 - intOf v).toNat)
  case atStart => exact ⟨0, by omega, rfl, fun j hj => absurd hj (by omega)⟩
  case round =>
    obtain ⟨k, hk, rfl, hf⟩ := hrel
    have hm : 0 ≤ (2 + (k : Int)) * (2 + (k : Int)) ∧ (2 + (k : Int)) * (2 + (k : Int)) ≤ 1099520016400 := by
      refine ⟨Int.mul_nonneg (by omega) (by omega), ?_⟩
      exact Int.le_trans (Int.mul_le_mul (show 2 + (k : Int) ≤ 1048580 by omega) (show 2 + (k : Int) ≤ 1048580 by omega) (by omega) (by omega)) (by omega)
    by_cases h1 : (2 + (k : Int)) * (2 + (k : Int)) ≤ (n : Int)
    · have h1n := two_sq h1
      have h1l := two_le h1n
      by_cases h2 : (n : Int) % (2 + (k : Int)) = 0
      · have H : Hid (prB n = false) := Lib.hid (prB_false h1n (mod_cast_eq h2))
        have hd : ((n : Int) % (2 + (k : Int)) == 0) = true := by rw [beq_iff_eq]; exact h2
        clear h2 hf
        go_wp2
        go_ret
        exact ⟨retB H.out.symm, rfl⟩
      · have H := Lib.hid (noDiv_snoc hf (mod_cast_ne h2))
        have hd : ((n : Int) % (2 + (k : Int)) == 0) = false := by rw [beq_eq_false_iff_ne]; exact h2
        clear h2 hf
        go_wp2
        go_round
        case rel => exact ⟨k + 1, by omega, by go_num, H.out⟩
        case measure => simp [intOf]; omega
    · have H := Lib.hid (prB_true hf (two_sq_not h1))
      clear hf
      go_wp2
      go_ret
      exact ⟨retB (by rw [H.out]; exact decide_eq_decide.2 (by omega)), rfl⟩

end Go.Proofs.Ytkkjbkagkmngkab
