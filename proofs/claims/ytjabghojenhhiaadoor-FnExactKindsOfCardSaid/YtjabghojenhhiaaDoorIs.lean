/- Whether a number is of a kind: the model's text. -/
import Derived.Test.YtjabghojenhhiaaDoorIsk
set_option linter.unusedVariables false
set_option linter.unusedSimpArgs false
namespace Go.Proofs.YtjabghojenhhiaaDoor
open Go.RowKit

theorem vInt {a b : Int} (h : a = b) : Value.int .i64 a = Value.int .i64 b := by rw [h]
/-- The value ahead of the k-th one. -/
def sm (g : Nat → Nat) (k : Nat) : Nat := if k = 0 then 0 else g (k - 1)
theorem sm_zero (g : Nat → Nat) : sm g 0 = 0 := rfl
theorem sm_succ (g : Nat → Nat) (k : Nat) : sm g (k + 1) = g k := by unfold sm; rw [if_neg (by omega)]; rfl
def Mono (g : Nat → Nat) : Prop := ∀ i j, i ≤ j → g i ≤ g j
theorem sqN_mono : Mono sqN := fun i j h => Nat.mul_le_mul h h
theorem cuN_mono : Mono cuN := fun i j h => Nat.mul_le_mul (Nat.mul_le_mul h h) h
theorem trN_mono : Mono trN := by
  intro i j h
  unfold trN
  exact Nat.div_le_div_right (Nat.mul_le_mul h (by omega))
theorem sm_tr (k : Nat) : sm trN k + k = trN k := by
  cases k with
  | zero => rfl
  | succ k => rw [sm_succ, trN_succ]
theorem sm_exit {g : Nat → Nat} (hg : Mono g) {K k n : Nat} (hf : ∀ j, j < k → g j ≠ n) (h : n < sm g k) : anyTo g K n = false := by
  apply anyTo_false
  intro j _
  by_cases hj : j < k
  · exact hf j hj
  · cases k with
    | zero => rw [sm_zero] at h; omega
    | succ k =>
      rw [sm_succ] at h
      have := hg k j (by omega)
      omega
theorem sm_le {g : Nat → Nat} {K k n : Nat} (hK : 961 ≤ g K) (hn : n ≤ 960) (hk : k ≤ K + 1) (h : sm g k ≤ n) : k ≤ K := by
  by_cases e : k = K + 1
  · subst e
    rw [sm_succ] at h
    omega
  · omega
theorem free_snoc {g : Nat → Nat} {k n : Nat} (h : ∀ j, j < k → g j ≠ n) (h2 : g k ≠ n) : ∀ j, j < k + 1 → g j ≠ n := by
  intro j hj
  by_cases e : j = k
  · subst e; exact h2
  · exact h j (by omega)

set_option maxHeartbeats 1000000 in
theorem kiIs_p (n : Nat) (w : World) (hn : n ≤ 960) : Calls Tryd.prog 25 #[.int .i64 (n : Int), .string sP] w (RetSame (.bool (prB n)) w) := by
  have l1 := sP_list
  go_enter Tryd.func25, Tryd.ntmps25
  go_wp2_with (first | (go_at_call 42; refine (kiPrime_any _ _ (by omega)).mono ?_; rintro e w' ⟨rfl, rfl⟩))
  go_ret
  exact ⟨rfl, rfl⟩
set_option maxHeartbeats 1000000 in
theorem kiIs_d (n : Nat) (w : World) (hn : n ≤ 960) : Calls Tryd.prog 25 #[.int .i64 (n : Int), .string sD] w (RetSame (.bool (dgB n)) w) := by
  have l1 := sD_list
  go_enter Tryd.func25, Tryd.ntmps25
  go_wp2_with fail
  go_loop [6] (fun v => ∃ r : Nat, r ≤ n ∧ v = .int .i64 (r : Int) ∧ Hid (alkL (n % 10) r = alkL (n % 10) n)) (fun v => (intOf v).toNat)
  case atStart => exact ⟨n, Nat.le_refl _, rfl, Lib.hid rfl⟩
  case round =>
    obtain ⟨r, hr, rfl, hf⟩ := hrel
    by_cases h1 : 0 < r
    · by_cases h2 : r % 10 = n % 10
      · have H := Lib.hid ((alkL_step h1 h2).symm.trans hf.out)
        have hd : ((r : Int) % 10 == (n : Int) % 10) = true := by rw [beq_iff_eq]; omega
        have hd2 : ((r : Int) % 10 != (n : Int) % 10) = false := by simp; omega
        clear h2
        go_wp2
        go_round
        case rel => exact ⟨r / 10, by omega, by go_num, H⟩
        case measure => simp [intOf]; omega
      · have H : Hid (dgB n = false) := Lib.hid (by rw [dgB_L, ← hf.out, alkL_no h1 h2]; rfl)
        have hd : ((r : Int) % 10 == (n : Int) % 10) = false := by rw [beq_eq_false_iff_ne]; omega
        have hd2 : ((r : Int) % 10 != (n : Int) % 10) = true := by simp; omega
        clear h2
        go_wp2
        go_ret
        exact ⟨retB H.out.symm, rfl⟩
    · have hr0 : r = 0 := by omega
      have H : Hid (dgB n = decide (10 < n)) := Lib.hid (by rw [dgB_L, ← hf.out, hr0, alkL_zero]; rfl)
      clear hr0
      go_wp2
      go_ret
      exact ⟨retB (by rw [H.out]; exact decide_eq_decide.2 (by omega)), rfl⟩
theorem rd_is (n : Nat) (hn : n ≤ 960) : anyTo rdN 96 n = (decide (10 ≤ n) && decide (n % 10 = 0)) := by
  by_cases h1 : 10 ≤ n
  · by_cases h2 : n % 10 = 0
    · rw [anyTo_true (j := n / 10 - 1) (by omega) (by unfold rdN; omega)]
      simp [h1, h2]
    · rw [anyTo_false (fun j _ => by unfold rdN; omega)]
      simp [h2]
  · rw [anyTo_false (fun j _ => by unfold rdN; omega)]
    simp [h1]
set_option maxHeartbeats 1000000 in
theorem kiIs_r (n : Nat) (w : World) (hn : n ≤ 960) : Calls Tryd.prog 25 #[.int .i64 (n : Int), .string sR] w (RetSame (.bool (anyTo rdN 96 n)) w) := by
  have l1 := sR_list
  rw [rd_is n hn]
  by_cases h1 : 10 ≤ n
  · by_cases h2 : n % 10 = 0
    · have hd : ((n : Int) % 10 == 0) = true := by rw [beq_iff_eq]; omega
      have e : (decide (10 ≤ n) && decide (n % 10 = 0)) = true := by simp [h1, h2]
      rw [e]
      clear e h2
      go_enter Tryd.func25, Tryd.ntmps25
      go_wp2
      go_ret
      exact ⟨rfl, rfl⟩
    · have hd : ((n : Int) % 10 == 0) = false := by rw [beq_eq_false_iff_ne]; omega
      have e : (decide (10 ≤ n) && decide (n % 10 = 0)) = false := by simp [h2]
      rw [e]
      clear e h2
      go_enter Tryd.func25, Tryd.ntmps25
      go_wp2
      go_ret
      exact ⟨rfl, rfl⟩
  · have e : (decide (10 ≤ n) && decide (n % 10 = 0)) = false := by simp [h1]
    rw [e]
    clear e
    go_enter Tryd.func25, Tryd.ntmps25
    go_wp2
    go_ret
    exact ⟨rfl, rfl⟩
set_option maxHeartbeats 1000000 in
theorem kiIs_s (n : Nat) (w : World) (hn : n ≤ 960) : Calls Tryd.prog 25 #[.int .i64 (n : Int), .string sS] w (RetSame (.bool (anyTo sqN 31 n)) w) := by
  have l1 := sS_list
  go_enter Tryd.func25, Tryd.ntmps25
  go_wp2_with fail
  go_loop [7, 8] (fun u v => ∃ k : Nat, k ≤ 31 + 1 ∧ v = .int .i64 (k : Int) ∧ u = .int .i64 ((sm sqN k : Nat) : Int) ∧ ∀ j, j < k → sqN j ≠ n) (fun _ v => (31 + 2 - intOf v).toNat)
  case atStart => exact ⟨0, by omega, rfl, rfl, fun j hj => absurd hj (by omega)⟩
  case round =>
    obtain ⟨k, hk, rfl, rfl, hf⟩ := hrel
    by_cases h1 : sm sqN k ≤ n
    · have hkK := sm_le sqN_hi hn hk h1
      have hv : (k : Int) * (k : Int) = ((sqN k : Nat) : Int) := by unfold sqN; push_cast; rfl
      have HV := Lib.hid hv
      have hm : 0 ≤ (k : Int) * (k : Int) ∧ (k : Int) * (k : Int) ≤ 1000000 := ⟨Int.mul_nonneg (by omega) (by omega), Int.le_trans (Int.mul_le_mul (show (k : Int) ≤ 1000 by omega) (show (k : Int) ≤ 1000 by omega) (by omega) (by omega)) (by omega)⟩
      by_cases h2 : sqN k = n
      · have hlt : k < 31 := by
          by_cases e : k = 31
          · have := sqN_hi
            rw [e] at h2
            omega
          · omega
        have H : Hid (anyTo sqN 31 n = true) := Lib.hid (anyTo_true hlt h2)
        have hd : ((k : Int) * (k : Int) == (n : Int)) = true := by rw [beq_iff_eq, hv, h2]
        clear hf h2 hv
        go_wp2
        go_ret
        exact ⟨retB H.out.symm, rfl⟩
      · have H := Lib.hid (free_snoc hf h2)
        have hd : ((k : Int) * (k : Int) == (n : Int)) = false := by rw [beq_eq_false_iff_ne, hv]; omega
        clear hf h2 hv
        go_wp2
        go_round
        case rel => exact ⟨k + 1, by omega, by go_num, vInt (by rw [sm_succ]; exact HV.out), H.out⟩
        case measure => simp [intOf]; omega
    · have H : Hid (anyTo sqN 31 n = false) := Lib.hid (sm_exit sqN_mono hf (by omega))
      clear hf
      go_wp2
      go_ret
      exact ⟨retB H.out.symm, rfl⟩
set_option maxHeartbeats 1000000 in
theorem kiIs_c (n : Nat) (w : World) (hn : n ≤ 960) : Calls Tryd.prog 25 #[.int .i64 (n : Int), .string sC] w (RetSame (.bool (anyTo cuN 10 n)) w) := by
  have l1 := sC_list
  go_enter Tryd.func25, Tryd.ntmps25
  go_wp2_with fail
  go_loop [7, 8] (fun u v => ∃ k : Nat, k ≤ 10 + 1 ∧ v = .int .i64 (k : Int) ∧ u = .int .i64 ((sm cuN k : Nat) : Int) ∧ ∀ j, j < k → cuN j ≠ n) (fun _ v => (10 + 2 - intOf v).toNat)
  case atStart => exact ⟨0, by omega, rfl, rfl, fun j hj => absurd hj (by omega)⟩
  case round =>
    obtain ⟨k, hk, rfl, rfl, hf⟩ := hrel
    by_cases h1 : sm cuN k ≤ n
    · have hkK := sm_le cuN_hi hn hk h1
      have hv : (k : Int) * (k : Int) * (k : Int) = ((cuN k : Nat) : Int) := by unfold cuN; push_cast; rfl
      have HV := Lib.hid hv
      have hm : 0 ≤ (k : Int) * (k : Int) ∧ (k : Int) * (k : Int) ≤ 1000000 := ⟨Int.mul_nonneg (by omega) (by omega), Int.le_trans (Int.mul_le_mul (show (k : Int) ≤ 1000 by omega) (show (k : Int) ≤ 1000 by omega) (by omega) (by omega)) (by omega)⟩
      have hm2 : 0 ≤ (k : Int) * (k : Int) * (k : Int) ∧ (k : Int) * (k : Int) * (k : Int) ≤ 1000000000 := ⟨Int.mul_nonneg hm.1 (by omega), Int.le_trans (Int.mul_le_mul hm.2 (show (k : Int) ≤ 1000 by omega) (by omega) (by omega)) (by omega)⟩
      by_cases h2 : cuN k = n
      · have hlt : k < 10 := by
          by_cases e : k = 10
          · have := cuN_hi
            rw [e] at h2
            omega
          · omega
        have H : Hid (anyTo cuN 10 n = true) := Lib.hid (anyTo_true hlt h2)
        have hd : ((k : Int) * (k : Int) * (k : Int) == (n : Int)) = true := by rw [beq_iff_eq, hv, h2]
        clear hf h2 hv
        go_wp2
        go_ret
        exact ⟨retB H.out.symm, rfl⟩
      · have H := Lib.hid (free_snoc hf h2)
        have hd : ((k : Int) * (k : Int) * (k : Int) == (n : Int)) = false := by rw [beq_eq_false_iff_ne, hv]; omega
        clear hf h2 hv
        go_wp2
        go_round
        case rel => exact ⟨k + 1, by omega, by go_num, vInt (by rw [sm_succ]; exact HV.out), H.out⟩
        case measure => simp [intOf]; omega
    · have H : Hid (anyTo cuN 10 n = false) := Lib.hid (sm_exit cuN_mono hf (by omega))
      clear hf
      go_wp2
      go_ret
      exact ⟨retB H.out.symm, rfl⟩
set_option maxHeartbeats 1000000 in
theorem kiIs_t (n : Nat) (w : World) (hn : n ≤ 960) : Calls Tryd.prog 25 #[.int .i64 (n : Int), .string sT] w (RetSame (.bool (anyTo trN 44 n)) w) := by
  have l1 := sT_list
  go_enter Tryd.func25, Tryd.ntmps25
  go_wp2_with fail
  go_loop [7, 8] (fun u v => ∃ k : Nat, k ≤ 44 + 1 ∧ v = .int .i64 (k : Int) ∧ u = .int .i64 ((sm trN k : Nat) : Int) ∧ ∀ j, j < k → trN j ≠ n) (fun _ v => (44 + 2 - intOf v).toNat)
  case atStart => exact ⟨0, by omega, rfl, rfl, fun j hj => absurd hj (by omega)⟩
  case round =>
    obtain ⟨k, hk, rfl, rfl, hf⟩ := hrel
    by_cases h1 : sm trN k ≤ n
    · have hkK := sm_le trN_hi hn hk h1
      have hv : ((sm trN k : Nat) : Int) + (k : Int) = ((trN k : Nat) : Int) := by rw [← sm_tr]; push_cast; rfl
      have HV := Lib.hid hv
      skip
      by_cases h2 : trN k = n
      · have hlt : k < 44 := by
          by_cases e : k = 44
          · have := trN_hi
            rw [e] at h2
            omega
          · omega
        have H : Hid (anyTo trN 44 n = true) := Lib.hid (anyTo_true hlt h2)
        have hd : (((sm trN k : Nat) : Int) + (k : Int) == (n : Int)) = true := by rw [beq_iff_eq, hv, h2]
        clear hf h2 hv
        go_wp2
        go_ret
        exact ⟨retB H.out.symm, rfl⟩
      · have H := Lib.hid (free_snoc hf h2)
        have hd : (((sm trN k : Nat) : Int) + (k : Int) == (n : Int)) = false := by rw [beq_eq_false_iff_ne, hv]; omega
        clear hf h2 hv
        go_wp2
        go_round
        case rel => exact ⟨k + 1, by omega, by go_num, vInt (by rw [sm_succ]; exact HV.out), H.out⟩
        case measure => simp [intOf]; omega
    · have H : Hid (anyTo trN 44 n = false) := Lib.hid (sm_exit trN_mono hf (by omega))
      clear hf
      go_wp2
      go_ret
      exact ⟨retB H.out.symm, rfl⟩

theorem kiIs_any (n : Nat) (s : ByteArray) (w : World) (hn : n ≤ 960) (h : isK s = true) : Calls Tryd.prog 25 #[.int .i64 (n : Int), .string s] w (RetSame (.bool (kOf s n)) w) := by
  rcases (isK_iff s).1 h with rfl | rfl | rfl | rfl | rfl | rfl
  · rw [kOf_p]; exact kiIs_p n w hn
  · rw [kOf_s]; exact kiIs_s n w hn
  · rw [kOf_c]; exact kiIs_c n w hn
  · rw [kOf_t]; exact kiIs_t n w hn
  · rw [kOf_d]; exact kiIs_d n w hn
  · rw [kOf_r]; exact kiIs_r n w hn
theorem kiIs_int (x : Int) (s : ByteArray) (w : World) (h0 : 0 ≤ x) (hn : x ≤ 960) (h : isK s = true) : Calls Tryd.prog 25 #[.int .i64 x, .string s] w (RetSame (.bool (kOf s x.toNat)) w) := by
  obtain ⟨n, rfl⟩ := Int.eq_ofNat_of_zero_le h0
  exact kiIs_any n s w (by omega) h
end Go.Proofs.YtjabghojenhhiaaDoor
