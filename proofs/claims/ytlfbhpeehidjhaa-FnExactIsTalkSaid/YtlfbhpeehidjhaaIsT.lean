/- Whether a text is a talk: both texts, and the statement. -/
import Derived.Test.YtlfbhpeehidjhaaTlk
set_option linter.unusedVariables false
set_option linter.unusedSimpArgs false
namespace Go.Proofs.Ytlfbhpeehidjhaa
open Go.RowKit

theorem rem2 (n : Nat) : (n : Int).tmod 2 = ((n % 2 : Nat) : Int) := by rw [Int.tmod_eq_emod_of_nonneg (by omega)]; omega
set_option maxHeartbeats 4000000 in
set_option maxRecDepth 100000 in
theorem taTalk_any (s : ByteArray) (w : World) (hs : s.size ≤ 1048576) : Calls Try.prog 15 #[.string s] w (RetSame (.bool (talkB s)) w) := by
  have hr := rem2 s.size
  rcases Nat.mod_two_eq_zero_or_one s.size with h0 | h1
  · rw [h0] at hr
    by_cases h24 : s.size ≤ 24
    · have hi24 : ¬ (24 : Int) < (s.size : Int) := by omega
      have HY := Lib.hid (fun h => talkB_yes h0 h24 h)
      have HN := Lib.hid (fun k hk h => talkB_bad (s := s) k hk h)
      have hh : s.size = 2 * (s.size / 2) := by omega
      generalize hm : s.size / 2 = m at HY HN hh
      clear hm h0
      go_enter Try.func15, Try.ntmps15
      go_wp2
      go_loop [3] (fun v => ∃ k : Nat, k ≤ m ∧ v = .int .i64 ((2 * k : Nat) : Int) ∧ Hid (∀ j, j < k → stmB s j = true)) (fun v => 2 * m - (intOf v).toNat)
      case atStart => exact ⟨0, Nat.zero_le _, rfl, Lib.hid (fun j hj => absurd hj (by omega))⟩
      case round =>
        obtain ⟨k, hk, rfl, HA⟩ := hrel
        by_cases hlt : k < m
        · have hlc : ((2 * k : Nat) : Int) < (s.size : Int) := by omega
          have hc := run_cut1 s (2 * k) (((2 * k : Nat) : Int) + 1) (by omega) (by omega)
          rw [ext1 s (2 * k) (by omega)] at hc
          have hx := run_sgn s (2 * k + 1) (((2 * k : Nat) : Int) + 1) (by omega) (by omega)
          have hw1 : IntKind.i64.wrap (((2 * k : Nat) : Int) + 1) = ((2 * k : Nat) : Int) + 1 := IntWalk.i64_in _ (by omega)
          have HS : Hid (stmB s k = (whoB (sgn s (2 * k)) && clmB (sgn s (2 * k + 1)))) := Lib.hid rfl
          have HW := Lib.hid (fun w => taWho_sgn (sgn s (2 * k)) w)
          have HN2 := Lib.hid (HN.out k hlt)
          have hm2 : Hid (((2 * k : Nat) : Int) + 2 = ((2 * (k + 1) : Nat) : Int)) := Lib.hid (by omega)
          have hk2 : Hid (k + 1 ≤ m) := Lib.hid (by omega)
          have hw2 : IntKind.i64.wrap (((2 * k : Nat) : Int) + 2) = ((2 * k : Nat) : Int) + 2 := IntWalk.i64_in _ (by omega)
          have hms : Hid (2 * m - (2 * k + 2) < 2 * m - 2 * k) := Lib.hid (by omega)
          generalize sgn s (2 * k) = a at hc HS HW
          generalize sgn s (2 * k + 1) = b at hx HS
          generalize hi : 2 * k = i at hlc hc hx hw1 hm2 hw2 hms ⊢
          have Hi := Lib.hid hi
          clear hi
          cases ha : whoB a with
          | false =>
            have HF := Lib.hid (HN2.out (by rw [HS.out, ha]; rfl))
            rw [ha] at HW
            clear ha HS hx
            go_wp2_with (first | (go_at_call 24; refine (HW.out _).mono ?_; rintro e w' ⟨rfl, rfl⟩))
            go_ret
            exact ⟨by rw [HF.out]; rfl, rfl⟩
          | true =>
            rw [ha] at HW
            cases hb : clmB b with
            | false =>
              have HF := Lib.hid (HN2.out (by rw [HS.out, ha, hb]; rfl))
              have n1 : ((b.toNat : Int) != 45) = true := bne_iff_ne.2 (nat_ne (b := 45) (fun e => by subst e; simp [clmB] at hb))
              have n2 : ((b.toNat : Int) != 43) = true := bne_iff_ne.2 (nat_ne (b := 43) (fun e => by subst e; simp [clmB] at hb))
              have n3 : ((b.toNat : Int) != 33) = true := bne_iff_ne.2 (nat_ne (b := 33) (fun e => by subst e; simp [clmB] at hb))
              clear ha HS hb
              generalize (b.toNat : Int) = z at hx n1 n2 n3
              go_wp2_with (first | (go_at_call 24; refine (HW.out _).mono ?_; rintro e w' ⟨rfl, rfl⟩))
              go_ret
              exact ⟨by rw [HF.out]; rfl, rfl⟩
            | true =>
              have HA2 : Hid (∀ j, j < k + 1 → stmB s j = true) := Lib.hid (fun j hj => by rcases Nat.lt_succ_iff_lt_or_eq.1 hj with h | rfl; exact HA.out j h; rw [HS.out, ha, hb]; rfl)
              have hb3 : b = 45 ∨ b = 43 ∨ b = 33 := by
                by_cases c1 : b = 45
                · exact .inl c1
                · by_cases c2 : b = 43
                  · exact .inr (.inl c2)
                  · exact .inr (.inr (by simpa [clmB, c1, c2] using hb))
              clear ha HS hb HN2
              rcases hb3 with rfl | rfl | rfl
              all_goals
                have hx2 : ∀ w, (Instr.index 9 (.string s) (.int .i64 ((i : Int) + 1))).run Try.prog w = .ok (.int .u8 _) w := hx
                go_wp2_with (first | (go_at_call 24; refine (HW.out _).mono ?_; rintro e w' ⟨rfl, rfl⟩))
                go_round
              case rel => exact ⟨k + 1, hk2.out, by rw [hm2.out], HA2⟩
              case measure => have := hms.out; simp [intOf]; omega
              case rel => exact ⟨k + 1, hk2.out, by rw [hm2.out], HA2⟩
              case measure => have := hms.out; simp [intOf]; omega
              case rel => exact ⟨k + 1, hk2.out, by rw [hm2.out], HA2⟩
              case measure => have := hms.out; simp [intOf]; omega
        · have hlc : ¬ ((2 * k : Nat) : Int) < (s.size : Int) := by omega
          have HF := Lib.hid (HY.out fun j hj => HA.out j (by omega))
          generalize hi : 2 * k = i at hlc ⊢
          have Hi := Lib.hid hi
          clear hi
          go_wp2
          go_ret
          exact ⟨by rw [HF.out]; rfl, rfl⟩
    · have hi24 : (24 : Int) < (s.size : Int) := by omega
      rw [talkB_long (by omega)]
      clear h24 h0
      go_enter Try.func15, Try.ntmps15
      go_wp2
      go_ret
      exact ⟨rfl, rfl⟩
  · rw [h1] at hr
    rw [talkB_odd h1]
    clear h1
    go_enter Try.func15, Try.ntmps15
    go_wp2
    go_ret
    exact ⟨rfl, rfl⟩
theorem specIsTalk_any (s : ByteArray) (w : World) (hs : s.size ≤ 1048576) : Calls Try.prog 6 #[.string s] w (RetSame (.bool (talkB s)) w) := by
  go_enter Try.func6, Try.ntmps6
  go_wp2_with (go_at_call 15; refine (taTalk_any s _ hs).mono ?_; rintro e w' ⟨rfl, rfl⟩)
  go_ret
  exact ⟨rfl, rfl⟩
set_option maxHeartbeats 4000000 in
set_option maxRecDepth 100000 in
theorem isTalk_any (s : ByteArray) (w : World) (hs : s.size ≤ 1048576) : Calls Try.prog 7 #[.string s] w (RetSame (.bool (talkB s)) w) := by
  have hr := rem2 s.size
  rcases Nat.mod_two_eq_zero_or_one s.size with h0 | h1
  · rw [h0] at hr
    by_cases h24 : s.size ≤ 24
    · have hi24 : ¬ (24 : Int) < (s.size : Int) := by omega
      have HY := Lib.hid (fun h => talkB_yes h0 h24 h)
      have HN := Lib.hid (fun k hk h => talkB_bad (s := s) k hk h)
      have hh : s.size = 2 * (s.size / 2) := by omega
      generalize hm : s.size / 2 = m at HY HN hh
      clear hm h0
      go_enter Try.func7, Try.ntmps7
      go_wp2
      go_loop [3] (fun v => ∃ k : Nat, k ≤ m ∧ v = .int .i64 ((2 * k : Nat) : Int) ∧ Hid (∀ j, j < k → stmB s j = true)) (fun v => 2 * m - (intOf v).toNat)
      case atStart => exact ⟨0, Nat.zero_le _, rfl, Lib.hid (fun j hj => absurd hj (by omega))⟩
      case round =>
        obtain ⟨k, hk, rfl, HA⟩ := hrel
        by_cases hlt : k < m
        · have hlc : ((2 * k : Nat) : Int) < (s.size : Int) := by omega
          have hx0 := run_sgn s (2 * k) ((2 * k : Nat) : Int) rfl (by omega)
          have hx := run_sgn s (2 * k + 1) (((2 * k : Nat) : Int) + 1) (by omega) (by omega)
          have hw1 : IntKind.i64.wrap (((2 * k : Nat) : Int) + 1) = ((2 * k : Nat) : Int) + 1 := IntWalk.i64_in _ (by omega)
          have HS : Hid (stmB s k = (whoB (sgn s (2 * k)) && clmB (sgn s (2 * k + 1)))) := Lib.hid rfl
          have HW := Lib.hid (fun w => idx_who (sgn s (2 * k)) w)
          have HC := Lib.hid (fun w => idx_clm (sgn s (2 * k + 1)) w)
          have HN2 := Lib.hid (HN.out k hlt)
          have hm2 : Hid (((2 * k : Nat) : Int) + 2 = ((2 * (k + 1) : Nat) : Int)) := Lib.hid (by omega)
          have hk2 : Hid (k + 1 ≤ m) := Lib.hid (by omega)
          have hw2 : IntKind.i64.wrap (((2 * k : Nat) : Int) + 2) = ((2 * k : Nat) : Int) + 2 := IntWalk.i64_in _ (by omega)
          have hms : Hid (2 * m - (2 * k + 2) < 2 * m - 2 * k) := Lib.hid (by omega)
          generalize sgn s (2 * k) = a at hx0 HS HW
          generalize sgn s (2 * k + 1) = b at hx HS HC
          generalize hi : 2 * k = i at hlc hx0 hx hw1 hm2 hw2 hms ⊢
          have Hi := Lib.hid hi
          clear hi
          cases ha : whoB a with
          | false =>
            have HF := Lib.hid (HN2.out (by rw [HS.out, ha]; rfl))
            rw [ha] at HW
            clear ha HS hx HC
            go_wp2_with (first | (go_at_call 16; refine (HW.out _).mono ?_; rintro e w' ⟨z, rfl, _, hz, rfl⟩; have hz := hz rfl))
            go_ret
            exact ⟨by rw [HF.out]; rfl, rfl⟩
          | true =>
            rw [ha] at HW
            cases hb : clmB b with
            | false =>
              have HF := Lib.hid (HN2.out (by rw [HS.out, ha, hb]; rfl))
              rw [hb] at HC
              clear ha HS hb
              go_wp2_with (first | (go_at_call_of 16 (Value.string { data := #[115, 112] }); refine (HW.out _).mono ?_; rintro e w' ⟨z, rfl, hz, _, rfl⟩; have hz := hz rfl) | (go_at_call_of 16 (Value.string { data := #[45, 43, 33] }); refine (HC.out _).mono ?_; rintro e w' ⟨z2, rfl, _, hz2, rfl⟩; have hz2 := hz2 rfl))
              go_ret
              exact ⟨by rw [HF.out]; rfl, rfl⟩
            | true =>
              have HA2 : Hid (∀ j, j < k + 1 → stmB s j = true) := Lib.hid (fun j hj => by rcases Nat.lt_succ_iff_lt_or_eq.1 hj with h | rfl; exact HA.out j h; rw [HS.out, ha, hb]; rfl)
              rw [hb] at HC
              clear ha HS hb HN2
              go_wp2_with (first | (go_at_call_of 16 (Value.string { data := #[115, 112] }); refine (HW.out _).mono ?_; rintro e w' ⟨z, rfl, hz, _, rfl⟩; have hz := hz rfl) | (go_at_call_of 16 (Value.string { data := #[45, 43, 33] }); refine (HC.out _).mono ?_; rintro e w' ⟨z2, rfl, hz2, _, rfl⟩; have hz2 := hz2 rfl))
              go_round
              case rel => exact ⟨k + 1, hk2.out, by rw [hm2.out], HA2⟩
              case measure => have := hms.out; simp [intOf]; omega
        · have hlc : ¬ ((2 * k : Nat) : Int) < (s.size : Int) := by omega
          have HF := Lib.hid (HY.out fun j hj => HA.out j (by omega))
          generalize hi : 2 * k = i at hlc ⊢
          have Hi := Lib.hid hi
          clear hi
          go_wp2
          go_ret
          exact ⟨by rw [HF.out]; rfl, rfl⟩
    · have hi24 : (24 : Int) < (s.size : Int) := by omega
      rw [talkB_long (by omega)]
      clear h24 h0
      go_enter Try.func7, Try.ntmps7
      go_wp2
      go_ret
      exact ⟨rfl, rfl⟩
  · rw [h1] at hr
    rw [talkB_odd h1]
    clear h1
    go_enter Try.func7, Try.ntmps7
    go_wp2
    go_ret
    exact ⟨rfl, rfl⟩
end Go.Proofs.Ytlfbhpeehidjhaa
