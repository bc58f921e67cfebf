/- WholeRatioYears: the model's text. -/
import Derived.Test.YtmidobhfahpkcabYf
set_option linter.unusedVariables false
set_option linter.unusedSimpArgs false
namespace Go.Proofs.Ytmidobhfahpkcab
open Go.RowKit


theorem raTwo_any (a b : Int) (w : World) : Calls Try.prog 37 #[.int .i64 a, .int .i64 b] w (RetSame (.bool (inB a 0 120 && inB b 0 120 && decide (a ≠ b))) w) := by
  have HA0 := fun w => raAge_any a w
  have HB0 := fun w => raAge_any b w
  cases h1 : inB a 0 120 with
  | false =>
    rw [h1] at HA0
    have HA := Lib.hid HA0
    clear HA0 HB0
    go_enter Try.func37, Try.ntmps37
    go_wp2_with (first | (go_at_call 43; refine (HA.out _).mono ?_; rintro e w' ⟨rfl, rfl⟩))
    go_ret
    exact ⟨rfl, rfl⟩
  | true =>
    cases h2 : inB b 0 120 with
    | false =>
      rw [h1] at HA0
      rw [h2] at HB0
      have HA := Lib.hid HA0
      have HB := Lib.hid HB0
      clear HA0 HB0
      have hab : a ≠ b := by rintro rfl; rw [h1] at h2; cases h2
      go_enter Try.func37, Try.ntmps37
      go_wp2_with (first | (go_at_call_of 43 (Value.int IntKind.i64 a); refine (HA.out _).mono ?_; rintro e w' ⟨rfl, rfl⟩) | (go_at_call_of 43 (Value.int IntKind.i64 b); refine (HB.out _).mono ?_; rintro e w' ⟨rfl, rfl⟩))
      go_ret
      exact ⟨rfl, rfl⟩
    | true =>
      by_cases hab : a = b
      · rw [show decide (a ≠ b) = false by simp [hab]]
        subst hab
        rw [h1] at HA0
        have HA := Lib.hid HA0
        clear HA0 HB0
        go_enter Try.func37, Try.ntmps37
        go_wp2_with (first | (go_at_call 43; refine (HA.out _).mono ?_; rintro e w' ⟨rfl, rfl⟩))
        go_ret
        exact ⟨rfl, rfl⟩
      · rw [show decide (a ≠ b) = true by simp [hab]]
        have hab2 : (a != b) = true := bne_iff_ne.2 hab
        rw [h1] at HA0
        rw [h2] at HB0
        have HA := Lib.hid HA0
        have HB := Lib.hid HB0
        clear HA0 HB0
        go_enter Try.func37, Try.ntmps37
        go_wp2_with (first | (go_at_call_of 43 (Value.int IntKind.i64 a); refine (HA.out _).mono ?_; rintro e w' ⟨rfl, rfl⟩) | (go_at_call_of 43 (Value.int IntKind.i64 b); refine (HB.out _).mono ?_; rintro e w' ⟨rfl, rfl⟩))
        go_ret
        exact ⟨by first | rfl | (simp [hab]; done) | (simp; done), rfl⟩

theorem differ_any (a b : Int) (w : World) : Calls Try.prog 40 #[.int .i64 a, .int .i64 b] w (RetSame (.bool (inB a 0 120 && inB b 0 120 && decide (a ≠ b))) w) := by
  have HA0 := fun w => isAge_any a w
  have HB0 := fun w => isAge_any b w
  cases h1 : inB a 0 120 with
  | false =>
    rw [h1] at HA0
    have HA := Lib.hid HA0
    clear HA0 HB0
    go_enter Try.func40, Try.ntmps40
    go_wp2_with (first | (go_at_call 49; refine (HA.out _).mono ?_; rintro e w' ⟨rfl, rfl⟩))
    go_ret
    exact ⟨rfl, rfl⟩
  | true =>
    cases h2 : inB b 0 120 with
    | false =>
      rw [h1] at HA0
      rw [h2] at HB0
      have HA := Lib.hid HA0
      have HB := Lib.hid HB0
      clear HA0 HB0
      have hab : a ≠ b := by rintro rfl; rw [h1] at h2; cases h2
      go_enter Try.func40, Try.ntmps40
      go_wp2_with (first | (go_at_call_of 49 (Value.int IntKind.i64 a); refine (HA.out _).mono ?_; rintro e w' ⟨rfl, rfl⟩) | (go_at_call_of 49 (Value.int IntKind.i64 b); refine (HB.out _).mono ?_; rintro e w' ⟨rfl, rfl⟩))
      go_ret
      exact ⟨rfl, rfl⟩
    | true =>
      by_cases hab : a = b
      · rw [show decide (a ≠ b) = false by simp [hab]]
        subst hab
        rw [h1] at HA0
        have HA := Lib.hid HA0
        clear HA0 HB0
        go_enter Try.func40, Try.ntmps40
        go_wp2_with (first | (go_at_call 49; refine (HA.out _).mono ?_; rintro e w' ⟨rfl, rfl⟩))
        go_ret
        exact ⟨rfl, rfl⟩
      · rw [show decide (a ≠ b) = true by simp [hab]]
        have hab2 : (a != b) = true := bne_iff_ne.2 hab
        rw [h1] at HA0
        rw [h2] at HB0
        have HA := Lib.hid HA0
        have HB := Lib.hid HB0
        clear HA0 HB0
        go_enter Try.func40, Try.ntmps40
        go_wp2_with (first | (go_at_call_of 49 (Value.int IntKind.i64 a); refine (HA.out _).mono ?_; rintro e w' ⟨rfl, rfl⟩) | (go_at_call_of 49 (Value.int IntKind.i64 b); refine (HB.out _).mono ?_; rintro e w' ⟨rfl, rfl⟩))
        go_ret
        exact ⟨by first | rfl | (simp [hab]; done) | (simp; done), rfl⟩

def wrP (M m : Int) (y : Int) : Bool := decide ((M + y) % (m + y) = 0)
def wrOk (a b : Int) : Bool := inB a 0 120 && inB b 0 120 && decide (a ≠ b)
def wrL (a b : Int) : List Int := if wrOk a b = true then yF (wrP (max a b) (min a b)) (1 - min a b) (120 + min a b).toNat else []

set_option maxHeartbeats 4000000 in
set_option maxRecDepth 100000 in
theorem specWry_any (a b : Int) (w : World) : Calls Try.prog 21 #[.int .i64 a, .int .i64 b] w (RetOwnB (wrL a b) (wrOk a b) w) := by
  have HT0 := fun w => raTwo_any a b w
  cases hok : wrOk a b with
  | false =>
    rw [show wrL a b = [] by simp [wrL, hok]]
    unfold wrOk at hok
    rw [hok] at HT0
    have HT := Lib.hid HT0
    clear HT0
    go_enter Try.func21, Try.ntmps21
    go_wp2_with (first | (go_at_call 37; refine (HT.out _).mono ?_; rintro e w' ⟨rfl, rfl⟩))
    go_ret2
    exact ⟨_, rfl, own_nil _ _, Below.refl _ _⟩
  | true =>
    rw [show wrL a b = yF (wrP (max a b) (min a b)) (1 - min a b) (120 + min a b).toNat by simp [wrL, hok]]
    unfold wrOk at hok
    rw [hok] at HT0
    have HT := Lib.hid HT0
    clear HT0
    rw [Bool.and_eq_true, Bool.and_eq_true] at hok
    obtain ⟨⟨h1, h2⟩, h3⟩ := hok
    have ha := inB_iff.1 h1
    have hb := inB_iff.1 h2
    have hab : a ≠ b := of_decide_eq_true h3
    have hM : 0 ≤ min a b ∧ min a b < max a b ∧ max a b ≤ 120 := by omega
    have HM1 := Lib.hid (fun w => l1Most_any a b w)
    have HM2 := Lib.hid (fun w => l1Least_any a b w)
    obtain ⟨N, hN⟩ : ∃ N : Nat, N = (120 + min a b).toNat := ⟨_, rfl⟩
    rw [← hN]
    have hN1 : (N : Int) ≤ 120 + min a b := by omega
    have hN2 : 120 + min a b ≤ (N : Int) := by omega
    clear hN h3 hab ha hb h1 h2
    generalize max a b = M at *
    generalize min a b = m at *
    obtain ⟨i0, hi, hz0, hz1, hz2⟩ := info_parts infoInt
    go_enter Try.func21, Try.ntmps21
    go_wp2_with (first | (go_at_call 37; refine (HT.out _).mono ?_; rintro e w' ⟨rfl, rfl⟩) | (go_at_call 38; refine (HM1.out _).mono ?_; rintro e w' ⟨rfl, rfl⟩) | (go_at_call 39; refine (HM2.out _).mono ?_; rintro e w' ⟨rfl, rfl⟩))
    go_loopw [8, 9] (fun v u wr => ∃ (k : Nat) (y : Int), Hid (y = (1 - m) + k) ∧ k ≤ N ∧ u = .int .i64 y ∧ Own w.heap.size wr v (yF (wrP M m) (1 - m) k) ∧ Below w.heap.size w wr) (fun _ u _ => (121 - intOf u).toNat)
    case atStart => exact ⟨0, (1 - m), Lib.hid (by simp), Nat.zero_le _, by first | rfl | simp, own_nil _ _, by first | exact Below.refl _ _ | assumption⟩
    case round =>
      obtain ⟨k, y, HY, hk, rfl, ho, hbr⟩ := hrel
      have hl1 := yF_length (wrP M m) (1 - m) k
      have hsz := hbr.size
      by_cases hlt : k < N
      · have hyb : (1 - m) ≤ y ∧ y ≤ 120 := by have := HY.out; omega
        have hq : 1 ≤ m + y := by omega
        have hq2 : (m + y == 0) = false := beq_eq_false_iff_ne.2 (by omega)
        cases ht : (wrP M m) y with
        | true =>
          have HS := Lib.hid (yF_yes (p := (wrP M m)) (a := (1 - m)) (n := k) (by rw [← HY.out]; exact ht))
          rw [← HY.out] at HS
          have hr : ((M + y) % (m + y) == 0) = true := beq_iff_eq.2 (of_decide_eq_true ht)
          go_wp2_with (first | (at_builtin; refine wpList_append_own _ rfl _ _ 32 rfl w.heap.size 3 i0 (.int .i64 0) 1 8 Try.underlying32 hi hz0 hz1 hz2 rfl (by decide) _ _ _ rfl (World.ownsRow.alloc ho _) ⟨wr.heap.size, 0, none⟩ 1 1 [.int .i64 y] rfl rfl (newCell _ _ _) (oneInt _) ?c3 ?c4 ?c5 ?_))
          case c3 => unfold maxLen; omega
          case c4 => omega
          case c5 => simp; omega
          intro v' w4 hown' hgrow _
          have hb4 := below_push hbr ho hgrow
          have ho4 := own_push hown'
          rw [← HS.out] at ho4
          clear hown' hgrow
          go_wp2
          go_roundw
          case rel => exact ⟨k + 1, y + 1, Lib.hid (by have := HY.out; omega), by omega, by go_num, ho4, hb4⟩
          case measure => simp [intOf]; omega
        | false =>
          have HS := Lib.hid (yF_no (p := (wrP M m)) (a := (1 - m)) (n := k) (by rw [← HY.out]; exact ht))
          have hr : ((M + y) % (m + y) == 0) = false := beq_eq_false_iff_ne.2 (of_decide_eq_false ht)
          go_wp2_with fail
          all_goals
            go_roundw
            case rel => exact ⟨k + 1, y + 1, Lib.hid (by have := HY.out; omega), by omega, by go_num, by rw [HS.out]; exact ho, hbr⟩
            case measure => simp [intOf]; omega
      · have hkn : k = N := by omega
        have hge : 120 < y := by have := HY.out; omega
        have HF := Lib.hid hkn
        clear hkn hlt
        go_wp2
        go_ret2
        exact ⟨_, rfl, by rw [← HF.out]; exact ho, hbr⟩

end Go.Proofs.Ytmidobhfahpkcab
