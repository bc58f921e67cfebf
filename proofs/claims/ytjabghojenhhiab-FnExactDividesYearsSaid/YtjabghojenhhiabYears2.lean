/- SquareBirths, DigitYears, DividesYears, TurnedBetween: both texts. -/
import Derived.Test.YtjabghojenhhiabYto0
set_option linter.unusedVariables false
set_option linter.unusedSimpArgs false
namespace Go.Proofs.Ytjabghojenhhiab
open Go.RowKit

def birthsB (a b : Int) : Bool := inB a 0 2900 && inB b 0 2900 && decide (a ≤ b)
theorem birthsB_iff {a b : Int} : birthsB a b = true ↔ 0 ≤ a ∧ a ≤ b ∧ b ≤ 2900 := by
  unfold birthsB
  rw [Bool.and_eq_true, Bool.and_eq_true, inB_iff, inB_iff, decide_eq_true_eq]
  omega
theorem birthsB_not {a b : Int} : birthsB a b = false ↔ ¬ (0 ≤ a ∧ a ≤ b ∧ b ≤ 2900) := by
  rw [← birthsB_iff]; simp
def spanN (a b : Int) : Nat := (b - a + 1).toNat
theorem spanN_eq {a b : Int} (h : a ≤ b) : ((spanN a b : Nat) : Int) = b - a + 1 := by unfold spanN; omega
theorem sqB_true {b : Int} (h : sqB b = true) : 0 ≤ sqOf b := by unfold sqB at h; rw [Bool.and_eq_true, decide_eq_true_eq] at h; exact h.2
theorem sqB_false {b : Int} (h0 : 0 ≤ b) (h1 : b ≤ 2900) (h : sqB b = false) : ¬ 0 ≤ sqOf b := by
  intro h2
  rw [(sq_yes (inB_true h0 h1) h2).2] at h
  cases h
set_option maxHeartbeats 1000000 in
theorem specSquareBirths_yes (a b : Int) (w : World) (h : birthsB a b = true) : Calls Try.prog 34 #[.int .i64 a, .int .i64 b] w (RetOwnB (yTo sqB a (spanN a b)) true w) := by
  obtain ⟨i0, hi, hz0, hz1, hz2⟩ := info_parts infoInt
  obtain ⟨h0, h1, h2⟩ := birthsB_iff.1 h
  have hN := spanN_eq h1
  generalize spanN a b = N at hN
  clear h
  have e1 := inB_true (n := b) (lo := 0) (hi := 2900) (by omega) h2
  have e2 := inB_true h0 h1
  go_enter Try.func34, Try.ntmps34
  go_wp2_with (first | (go_at_call 56; refine (kiBirth_any _ _).mono ?_; rintro e w' ⟨rfl, rfl⟩) | (go_at_call 50; refine (l1In_any _ _ _ _).mono ?_; rintro e w' ⟨rfl, rfl⟩))
  clear e1 e2
  go_loopw [6, 7] (fun v i wr => ∃ k : Nat, k ≤ N ∧ i = .int .i64 (a + k) ∧ Own w.heap.size wr v (yTo (sqB) (a) k) ∧ Below w.heap.size w wr) (fun _ i _ => (a + N - intOf i).toNat)
  case atStart => exact ⟨0, Nat.zero_le _, by go_num, own_nil _ _, Below.refl _ _⟩
  case round =>
    obtain ⟨k, hk, rfl, ho, hb⟩ := hrel
    have hs := yTo_len (sqB) (a) k
    have hsz := hb.size
    by_cases hlt : k < N
    · cases ht : (sqB) (a + (k : Int)) with
      | true =>
        have HT := Lib.hid (yTo_yes ht)
        have hq := sqB_true ht
        clear ht
        go_wp2_with (first | (go_at_call 57; refine (kiSquare_any _ _ (by omega) (by omega)).mono ?_; rintro e w' ⟨rfl, rfl⟩) | (at_builtin; refine wpList_append_own _ rfl _ _ 25 rfl w.heap.size 3 i0 (.int .i64 0) 1 8 Try.underlying25 hi hz0 hz1 hz2 rfl (by decide) _ _ _ rfl (World.ownsRow.alloc ho _) ⟨wr.heap.size, 0, none⟩ 1 1 [.int .i64 (a + (k : Int))] rfl rfl (newCell _ _ _) (oneInt _) ?c3 ?c4 ?c5 ?_))
        case c3 => unfold maxLen; omega
        case c4 => omega
        case c5 => simp; omega
        intro v' w1 hown' hgrow _
        have hb1 := below_push hb ho hgrow
        have ho1 := own_push hown'
        rw [← HT.out] at ho1
        clear hown' hgrow
        go_wp2
        go_roundw
        case rel => exact ⟨k + 1, by omega, by go_num, ho1, hb1⟩
        case measure => simp [intOf]; omega
      | false =>
        have HT := Lib.hid (yTo_no ht)
        have hq := sqB_false (by omega) (by omega) ht
        clear ht
        go_wp2_with (first | (go_at_call 57; refine (kiSquare_any _ _ (by omega) (by omega)).mono ?_; rintro e w' ⟨rfl, rfl⟩))
        go_roundw
        case rel => exact ⟨k + 1, by omega, by go_num, by rw [HT.out]; exact ho, hb⟩
        case measure => simp [intOf]; omega
    · have hkn : k = N := by omega
      clear hlt
      go_wp2
      go_ret2
      exact ⟨_, rfl, by rw [hkn] at ho; exact ho, hb⟩
theorem specSquareBirths_no (a b : Int) (w : World) (h : birthsB a b = false) : Calls Try.prog 34 #[.int .i64 a, .int .i64 b] w (RetOwnB [] false w) := by
  have h' := birthsB_not.1 h
  clear h
  cases e1 : inB b 0 2900 with
  | false =>
    clear h'
    go_enter Try.func34, Try.ntmps34
    go_wp2_with (first | (go_at_call 56; refine (kiBirth_any _ _).mono ?_; rintro e w' ⟨rfl, rfl⟩) | (go_at_call 50; refine (l1In_any _ _ _ _).mono ?_; rintro e w' ⟨rfl, rfl⟩))
    go_ret2
    exact ⟨_, rfl, own_nil _ _, Below.refl _ _⟩
  | true =>
    have e2 : inB a 0 b = false := by rw [inB_not]; have := inB_iff.1 e1; omega
    clear h'
    go_enter Try.func34, Try.ntmps34
    go_wp2_with (first | (go_at_call 56; refine (kiBirth_any _ _).mono ?_; rintro e w' ⟨rfl, rfl⟩) | (go_at_call 50; refine (l1In_any _ _ _ _).mono ?_; rintro e w' ⟨rfl, rfl⟩))
    go_ret2
    exact ⟨_, rfl, own_nil _ _, Below.refl _ _⟩
set_option maxHeartbeats 1000000 in
theorem squareBirths_yes (a b : Int) (w : World) (h : birthsB a b = true) : Calls Try.prog 35 #[.int .i64 a, .int .i64 b] w (RetOwnB (yTo sqB a (spanN a b)) true w) := by
  obtain ⟨i0, hi, hz0, hz1, hz2⟩ := info_parts infoInt
  obtain ⟨h0, h1, h2⟩ := birthsB_iff.1 h
  have hN := spanN_eq h1
  generalize spanN a b = N at hN
  clear h
  have e1 := inB_true (n := b) (lo := 0) (hi := 2900) (by omega) h2
  have e2 := inB_true (n := a) (lo := 0) (hi := 2900) h0 (by omega)
  go_enter Try.func35, Try.ntmps35
  go_wp2_with (first | (go_at_call 58; refine (isBirth_any _ _).mono ?_; rintro e w' ⟨rfl, rfl⟩))
  clear e1 e2
  go_loopw [6, 7] (fun v i wr => ∃ k : Nat, k ≤ N ∧ i = .int .i64 (a + k) ∧ Own w.heap.size wr v (yTo (sqB) (a) k) ∧ Below w.heap.size w wr) (fun _ i _ => (a + N - intOf i).toNat)
  case atStart => exact ⟨0, Nat.zero_le _, by go_num, own_nil _ _, Below.refl _ _⟩
  case round =>
    obtain ⟨k, hk, rfl, ho, hb⟩ := hrel
    have hs := yTo_len (sqB) (a) k
    have hsz := hb.size
    by_cases hlt : k < N
    · cases ht : (sqB) (a + (k : Int)) with
      | true =>
        have HT := Lib.hid (yTo_yes ht)
        skip
        go_wp2_with (first | (go_at_call 33; refine (squareYear_any _ _).mono ?_; rintro e w' ⟨rfl, rfl⟩) | (at_builtin; refine wpList_append_own _ rfl _ _ 25 rfl w.heap.size 3 i0 (.int .i64 0) 1 8 Try.underlying25 hi hz0 hz1 hz2 rfl (by decide) _ _ _ rfl (World.ownsRow.alloc ho _) ⟨wr.heap.size, 0, none⟩ 1 1 [.int .i64 (a + (k : Int))] rfl rfl (newCell _ _ _) (oneInt _) ?c3 ?c4 ?c5 ?_))
        case c3 => unfold maxLen; omega
        case c4 => omega
        case c5 => simp; omega
        intro v' w1 hown' hgrow _
        have hb1 := below_push hb ho hgrow
        have ho1 := own_push hown'
        rw [← HT.out] at ho1
        clear hown' hgrow
        go_wp2
        go_roundw
        case rel => exact ⟨k + 1, by omega, by go_num, ho1, hb1⟩
        case measure => simp [intOf]; omega
      | false =>
        have HT := Lib.hid (yTo_no ht)
        skip
        go_wp2_with (first | (go_at_call 33; refine (squareYear_any _ _).mono ?_; rintro e w' ⟨rfl, rfl⟩))
        go_roundw
        case rel => exact ⟨k + 1, by omega, by go_num, by rw [HT.out]; exact ho, hb⟩
        case measure => simp [intOf]; omega
    · have hkn : k = N := by omega
      clear hlt
      go_wp2
      go_ret2
      exact ⟨_, rfl, by rw [hkn] at ho; exact ho, hb⟩
theorem squareBirths_no (a b : Int) (w : World) (h : birthsB a b = false) : Calls Try.prog 35 #[.int .i64 a, .int .i64 b] w (RetOwnB [] false w) := by
  have h' := birthsB_not.1 h
  clear h
  cases e1 : inB a 0 2900 with
  | false =>
    clear h'
    go_enter Try.func35, Try.ntmps35
    go_wp2_with (first | (go_at_call 58; refine (isBirth_any _ _).mono ?_; rintro e w' ⟨rfl, rfl⟩))
    go_ret2
    exact ⟨_, rfl, own_nil _ _, Below.refl _ _⟩
  | true =>
    cases e2 : inB b 0 2900 with
    | false =>
      clear h'
      go_enter Try.func35, Try.ntmps35
      go_wp2_with (first | (go_at_call 58; refine (isBirth_any _ _).mono ?_; rintro e w' ⟨rfl, rfl⟩))
      go_ret2
      exact ⟨_, rfl, own_nil _ _, Below.refl _ _⟩
    | true =>
      have e3 : b < a := by have := inB_iff.1 e1; have := inB_iff.1 e2; omega
      clear h'
      go_enter Try.func35, Try.ntmps35
      go_wp2_with (first | (go_at_call 58; refine (isBirth_any _ _).mono ?_; rintro e w' ⟨rfl, rfl⟩))
      go_ret2
      exact ⟨_, rfl, own_nil _ _, Below.refl _ _⟩
theorem squareBirths_both (a b : Int) : ∃ rs ok, rs.length ≤ 1048576 ∧ (∀ w, Calls Try.prog 34 #[.int .i64 a, .int .i64 b] w (RetOwnB rs ok w)) ∧ (∀ w, Calls Try.prog 35 #[.int .i64 a, .int .i64 b] w (RetOwnB rs ok w)) := by
  cases h : birthsB a b with
  | false => exact ⟨[], false, by simp, fun w => specSquareBirths_no a b w h, fun w => squareBirths_no a b w h⟩
  | true =>
    have h1 := birthsB_iff.1 h
    have h2 := spanN_eq h1.2.1
    have h3 := yTo_len sqB a (spanN a b)
    exact ⟨_, true, by omega, fun w => specSquareBirths_yes a b w h, fun w => squareBirths_yes a b w h⟩

def dgT (b y : Int) : Bool := decide (dsI y = y - b)
theorem dgT_true {b y : Int} (h : dgT b y = true) : dsI y = y - b := by unfold dgT at h; exact of_decide_eq_true h
theorem dgT_false {b y : Int} (h : dgT b y = false) : dsI y ≠ y - b := by unfold dgT at h; exact of_decide_eq_false h
set_option maxHeartbeats 1000000 in
theorem specDigitYears_yes (b : Int) (w : World) (e1 : inB b 0 2900 = true) : Calls Try.prog 36 #[.int .i64 b] w (RetOwnB (yTo (dgT b) b 121) true w) := by
  obtain ⟨i0, hi, hz0, hz1, hz2⟩ := info_parts infoInt
  have h0 := inB_iff.1 e1
  go_enter Try.func36, Try.ntmps36
  go_wp2_with (first | (go_at_call 56; refine (kiBirth_any _ _).mono ?_; rintro e w' ⟨rfl, rfl⟩))
  clear e1
  go_loopw [4, 5] (fun v i wr => ∃ k : Nat, k ≤ 121 ∧ i = .int .i64 (k) ∧ Own w.heap.size wr v (yTo (dgT b) (b) k) ∧ Below w.heap.size w wr) (fun _ i _ => (0 + 121 - intOf i).toNat)
  case atStart => exact ⟨0, Nat.zero_le _, by go_num, own_nil _ _, Below.refl _ _⟩
  case round =>
    obtain ⟨k, hk, rfl, ho, hb⟩ := hrel
    have hs := yTo_len (dgT b) (b) k
    have hsz := hb.size
    by_cases hlt : k < 121
    · cases ht : (dgT b) (b + (k : Int)) with
      | true =>
        have HT := Lib.hid (yTo_yes ht)
        have hq := dgT_true ht
        clear ht
        have hd : (dsI (b + (k : Int)) == (k : Int)) = true := by rw [beq_iff_eq]; omega
        clear hq
        go_wp2_with (first | (go_at_call 54; refine (kiDigits_any _ _ (by omega) (by omega)).mono ?_; rintro e w' ⟨rfl, rfl⟩) | (at_builtin; refine wpList_append_own _ rfl _ _ 25 rfl w.heap.size 3 i0 (.int .i64 0) 1 8 Try.underlying25 hi hz0 hz1 hz2 rfl (by decide) _ _ _ rfl (World.ownsRow.alloc ho _) ⟨wr.heap.size, 0, none⟩ 1 1 [.int .i64 (b + (k : Int))] rfl rfl (newCell _ _ _) (oneInt _) ?c3 ?c4 ?c5 ?_))
        case c3 => unfold maxLen; omega
        case c4 => omega
        case c5 => simp; omega
        intro v' w1 hown' hgrow _
        have hb1 := below_push hb ho hgrow
        have ho1 := own_push hown'
        rw [← HT.out] at ho1
        clear hown' hgrow
        go_wp2
        go_roundw
        case rel => exact ⟨k + 1, by omega, by go_num, ho1, hb1⟩
        case measure => simp [intOf]; omega
      | false =>
        have HT := Lib.hid (yTo_no ht)
        have hq := dgT_false ht
        clear ht
        have hd : (dsI (b + (k : Int)) == (k : Int)) = false := by rw [beq_eq_false_iff_ne]; omega
        clear hq
        go_wp2_with (first | (go_at_call 54; refine (kiDigits_any _ _ (by omega) (by omega)).mono ?_; rintro e w' ⟨rfl, rfl⟩))
        go_roundw
        case rel => exact ⟨k + 1, by omega, by go_num, by rw [HT.out]; exact ho, hb⟩
        case measure => simp [intOf]; omega
    · have hkn : k = 121 := by omega
      clear hlt
      go_wp2
      go_ret2
      exact ⟨_, rfl, by rw [hkn] at ho; exact ho, hb⟩
theorem specDigitYears_no (b : Int) (w : World) (e1 : inB b 0 2900 = false) : Calls Try.prog 36 #[.int .i64 b] w (RetOwnB [] false w) := by
  go_enter Try.func36, Try.ntmps36
  go_wp2_with (first | (go_at_call 56; refine (kiBirth_any _ _).mono ?_; rintro e w' ⟨rfl, rfl⟩))
  go_ret2
  exact ⟨_, rfl, own_nil _ _, Below.refl _ _⟩
set_option maxHeartbeats 1000000 in
theorem digitYears_yes (b : Int) (w : World) (e1 : inB b 0 2900 = true) : Calls Try.prog 37 #[.int .i64 b] w (RetOwnB (yTo (dgT b) b 121) true w) := by
  obtain ⟨i0, hi, hz0, hz1, hz2⟩ := info_parts infoInt
  have h0 := inB_iff.1 e1
  go_enter Try.func37, Try.ntmps37
  go_wp2_with (first | (go_at_call 58; refine (isBirth_any _ _).mono ?_; rintro e w' ⟨rfl, rfl⟩))
  clear e1
  go_loopw [4, 5] (fun v i wr => ∃ k : Nat, k ≤ 121 ∧ i = .int .i64 (b + k) ∧ Own w.heap.size wr v (yTo (dgT b) (b) k) ∧ Below w.heap.size w wr) (fun _ i _ => (b + 121 - intOf i).toNat)
  case atStart => exact ⟨0, Nat.zero_le _, by go_num, own_nil _ _, Below.refl _ _⟩
  case round =>
    obtain ⟨k, hk, rfl, ho, hb⟩ := hrel
    have hs := yTo_len (dgT b) (b) k
    have hsz := hb.size
    by_cases hlt : k < 121
    · cases ht : (dgT b) (b + (k : Int)) with
      | true =>
        have HT := Lib.hid (yTo_yes ht)
        have hq := dgT_true ht
        clear ht
        have hd : (dsI (b + (k : Int)) == b + (k : Int) - b) = true := by rw [beq_iff_eq]; omega
        clear hq
        go_wp2_with (first | (go_at_call 55; refine (digitSum_any _ _ (by omega) (by omega)).mono ?_; rintro e w' ⟨rfl, rfl⟩) | (at_builtin; refine wpList_append_own _ rfl _ _ 25 rfl w.heap.size 3 i0 (.int .i64 0) 1 8 Try.underlying25 hi hz0 hz1 hz2 rfl (by decide) _ _ _ rfl (World.ownsRow.alloc ho _) ⟨wr.heap.size, 0, none⟩ 1 1 [.int .i64 (b + (k : Int))] rfl rfl (newCell _ _ _) (oneInt _) ?c3 ?c4 ?c5 ?_))
        case c3 => unfold maxLen; omega
        case c4 => omega
        case c5 => simp; omega
        intro v' w1 hown' hgrow _
        have hb1 := below_push hb ho hgrow
        have ho1 := own_push hown'
        rw [← HT.out] at ho1
        clear hown' hgrow
        go_wp2
        go_roundw
        case rel => exact ⟨k + 1, by omega, by go_num, ho1, hb1⟩
        case measure => simp [intOf]; omega
      | false =>
        have HT := Lib.hid (yTo_no ht)
        have hq := dgT_false ht
        clear ht
        have hd : (dsI (b + (k : Int)) == b + (k : Int) - b) = false := by rw [beq_eq_false_iff_ne]; omega
        clear hq
        go_wp2_with (first | (go_at_call 55; refine (digitSum_any _ _ (by omega) (by omega)).mono ?_; rintro e w' ⟨rfl, rfl⟩))
        go_roundw
        case rel => exact ⟨k + 1, by omega, by go_num, by rw [HT.out]; exact ho, hb⟩
        case measure => simp [intOf]; omega
    · have hkn : k = 121 := by omega
      clear hlt
      go_wp2
      go_ret2
      exact ⟨_, rfl, by rw [hkn] at ho; exact ho, hb⟩
theorem digitYears_no (b : Int) (w : World) (e1 : inB b 0 2900 = false) : Calls Try.prog 37 #[.int .i64 b] w (RetOwnB [] false w) := by
  go_enter Try.func37, Try.ntmps37
  go_wp2_with (first | (go_at_call 58; refine (isBirth_any _ _).mono ?_; rintro e w' ⟨rfl, rfl⟩))
  go_ret2
  exact ⟨_, rfl, own_nil _ _, Below.refl _ _⟩
theorem digitYears_both (b : Int) : ∃ rs ok, rs.length ≤ 1048576 ∧ (∀ w, Calls Try.prog 36 #[.int .i64 b] w (RetOwnB rs ok w)) ∧ (∀ w, Calls Try.prog 37 #[.int .i64 b] w (RetOwnB rs ok w)) := by
  cases h : inB b 0 2900 with
  | false => exact ⟨[], false, by simp, fun w => specDigitYears_no b w h, fun w => digitYears_no b w h⟩
  | true =>
    have h3 := yTo_len (dgT b) b 121
    exact ⟨_, true, by omega, fun w => specDigitYears_yes b w h, fun w => digitYears_yes b w h⟩
end Go.Proofs.Ytjabghojenhhiab
