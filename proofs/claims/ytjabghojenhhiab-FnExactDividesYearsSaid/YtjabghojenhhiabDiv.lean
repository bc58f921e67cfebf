/- DividesYears and TurnedBetween: both texts. -/
import Derived.Test.YtjabghojenhhiabYears2
set_option linter.unusedVariables false
set_option linter.unusedSimpArgs false
namespace Go.Proofs.Ytjabghojenhhiab
open Go.RowKit

def dvB (b f t : Int) : Bool := inB b 0 2900 && decide (0 ≤ f ∧ f ≤ t ∧ t ≤ 3000 ∧ t ≤ f + 120)
theorem dvB_iff {b f t : Int} : dvB b f t = true ↔ (0 ≤ b ∧ b ≤ 2900) ∧ 0 ≤ f ∧ f ≤ t ∧ t ≤ 3000 ∧ t ≤ f + 120 := by
  unfold dvB
  rw [Bool.and_eq_true, inB_iff, decide_eq_true_eq]
theorem dvB_not {b f t : Int} : dvB b f t = false ↔ ¬ ((0 ≤ b ∧ b ≤ 2900) ∧ 0 ≤ f ∧ f ≤ t ∧ t ≤ 3000 ∧ t ≤ f + 120) := by
  rw [← dvB_iff]; simp
def dvT (b y : Int) : Bool := inB (y - b) 1 120 && decide (y % (y - b) = 0)
theorem dvT_true {b y : Int} (h : dvT b y = true) : inB (y - b) 1 120 = true ∧ y % (y - b) = 0 := by
  unfold dvT at h
  rw [Bool.and_eq_true, decide_eq_true_eq] at h
  exact h
theorem dvT_false {b y : Int} (h : dvT b y = false) (h2 : inB (y - b) 1 120 = true) : y % (y - b) ≠ 0 := by
  intro h3
  unfold dvT at h
  rw [h2, Bool.true_and] at h
  exact of_decide_eq_false h h3
set_option maxHeartbeats 1000000 in
theorem specDividesYears_yes (b f t : Int) (w : World) (h : dvB b f t = true) : Calls Try.prog 40 #[.int .i64 b, .int .i64 f, .int .i64 t] w (RetOwnB (yTo (dvT b) f (spanN f t)) true w) := by
  obtain ⟨i0, hi, hz0, hz1, hz2⟩ := info_parts infoInt
  obtain ⟨⟨h0, h1⟩, h2, h3, h4, h5⟩ := dvB_iff.1 h
  have hN := spanN_eq h3
  generalize spanN f t = N at hN
  clear h
  have e1 := inB_true h0 h1
  have e2 := inB_true (n := t) (lo := 0) (hi := 3000) (by omega) h4
  have e3 := inB_true (n := f) (lo := 0) (hi := t) h2 h3
  have e4 : ¬ 120 < t - f := by omega
  go_enter Try.func40, Try.ntmps40
  go_wp2_with (first | (go_at_call 56; refine (kiBirth_any _ _).mono ?_; rintro e w' ⟨rfl, rfl⟩) | (go_at_call 50; refine (l1In_any _ _ _ _).mono ?_; rintro e w' ⟨rfl, rfl⟩))
  clear e1 e2 e3 e4
  go_loopw [8, 9] (fun v i wr => ∃ k : Nat, k ≤ N ∧ i = .int .i64 (f + k) ∧ Own w.heap.size wr v (yTo (dvT b) (f) k) ∧ Below w.heap.size w wr) (fun _ i _ => (f + N - intOf i).toNat)
  case atStart => exact ⟨0, Nat.zero_le _, by go_num, own_nil _ _, Below.refl _ _⟩
  case round =>
    obtain ⟨k, hk, rfl, ho, hb⟩ := hrel
    have hs := yTo_len (dvT b) (f) k
    have hsz := hb.size
    by_cases hlt : k < N
    · cases ht : (dvT b) (f + (k : Int)) with
      | true =>
        have HT := Lib.hid (yTo_yes ht)
        have hq := dvT_true ht
        clear ht
        obtain ⟨h9, h10⟩ := hq
        have h11 := inB_iff.1 h9
        have hd : ((f + (k : Int)) % (f + (k : Int) - b) == 0) = true := by rw [beq_iff_eq]; exact h10
        clear h10
        go_wp2_with (first | (go_at_call 50; refine (l1In_any _ _ _ _).mono ?_; rintro e w' ⟨rfl, rfl⟩) | (at_builtin; refine wpList_append_own _ rfl _ _ 25 rfl w.heap.size 3 i0 (.int .i64 0) 1 8 Try.underlying25 hi hz0 hz1 hz2 rfl (by decide) _ _ _ rfl (World.ownsRow.alloc ho _) ⟨wr.heap.size, 0, none⟩ 1 1 [.int .i64 (f + (k : Int))] rfl rfl (newCell _ _ _) (oneInt _) ?c3 ?c4 ?c5 ?_))
        case c3 => unfold maxLen; omega
        case c4 => omega
        case c5 => simp; omega
        intro v' w1 hown' hgrow _
        have hb1 := below_push hb ho hgrow
        have ho1 := own_push hown'
        rw [← HT.out] at ho1
        clear hown' hgrow
        go_wp2
        go_roundw
        case rel => exact ⟨k + 1, by omega, by go_num, ho1, hb1⟩
        case measure => simp [intOf]; omega
      | false =>
        have HT := Lib.hid (yTo_no ht)
        cases h9 : inB (f + (k : Int) - b) 1 120 with
        | true =>
          have hq := dvT_false ht h9
          have h11 := inB_iff.1 h9
          have hd : ((f + (k : Int)) % (f + (k : Int) - b) == 0) = false := by rw [beq_eq_false_iff_ne]; exact hq
          clear ht hq
          go_wp2_with (first | (go_at_call 50; refine (l1In_any _ _ _ _).mono ?_; rintro e w' ⟨rfl, rfl⟩))
          go_roundw
          case rel => exact ⟨k + 1, by omega, by go_num, by rw [HT.out]; exact ho, hb⟩
          case measure => simp [intOf]; omega
        | false =>
          clear ht
          go_wp2_with (first | (go_at_call 50; refine (l1In_any _ _ _ _).mono ?_; rintro e w' ⟨rfl, rfl⟩))
          go_roundw
          case rel => exact ⟨k + 1, by omega, by go_num, by rw [HT.out]; exact ho, hb⟩
          case measure => simp [intOf]; omega
    · have hkn : k = N := by omega
      clear hlt
      go_wp2
      go_ret2
      exact ⟨_, rfl, by rw [hkn] at ho; exact ho, hb⟩
set_option maxHeartbeats 1000000 in
theorem specDividesYears_no (b f t : Int) (w : World) (h : dvB b f t = false) : Calls Try.prog 40 #[.int .i64 b, .int .i64 f, .int .i64 t] w (RetOwnB [] false w) := by
  have h' := dvB_not.1 h
  clear h
  cases e1 : inB b 0 2900 with
  | false =>
    clear h'
    go_enter Try.func40, Try.ntmps40
    go_wp2_with (first | (go_at_call 56; refine (kiBirth_any _ _).mono ?_; rintro e w' ⟨rfl, rfl⟩) | (go_at_call 50; refine (l1In_any _ _ _ _).mono ?_; rintro e w' ⟨rfl, rfl⟩))
    go_ret2
    exact ⟨_, rfl, own_nil _ _, Below.refl _ _⟩
  | true =>
    have e1' := inB_iff.1 e1
    cases e2 : inB t 0 3000 with
    | false =>
      clear h'
      go_enter Try.func40, Try.ntmps40
      go_wp2_with (first | (go_at_call 56; refine (kiBirth_any _ _).mono ?_; rintro e w' ⟨rfl, rfl⟩) | (go_at_call 50; refine (l1In_any _ _ _ _).mono ?_; rintro e w' ⟨rfl, rfl⟩))
      go_ret2
      exact ⟨_, rfl, own_nil _ _, Below.refl _ _⟩
    | true =>
      have e2' := inB_iff.1 e2
      cases e3 : inB f 0 t with
      | false =>
        clear h'
        go_enter Try.func40, Try.ntmps40
        go_wp2_with (first | (go_at_call 56; refine (kiBirth_any _ _).mono ?_; rintro e w' ⟨rfl, rfl⟩) | (go_at_call 50; refine (l1In_any _ _ _ _).mono ?_; rintro e w' ⟨rfl, rfl⟩))
        go_ret2
        exact ⟨_, rfl, own_nil _ _, Below.refl _ _⟩
      | true =>
        have e3' := inB_iff.1 e3
        have e4 : 120 < t - f := by omega
        clear h'
        go_enter Try.func40, Try.ntmps40
        go_wp2_with (first | (go_at_call 56; refine (kiBirth_any _ _).mono ?_; rintro e w' ⟨rfl, rfl⟩) | (go_at_call 50; refine (l1In_any _ _ _ _).mono ?_; rintro e w' ⟨rfl, rfl⟩))
        go_ret2
        exact ⟨_, rfl, own_nil _ _, Below.refl _ _⟩
set_option maxHeartbeats 1000000 in
theorem dividesYears_yes (b f t : Int) (w : World) (h : dvB b f t = true) : Calls Try.prog 41 #[.int .i64 b, .int .i64 f, .int .i64 t] w (RetOwnB (yTo (dvT b) f (spanN f t)) true w) := by
  obtain ⟨i0, hi, hz0, hz1, hz2⟩ := info_parts infoInt
  obtain ⟨⟨h0, h1⟩, h2, h3, h4, h5⟩ := dvB_iff.1 h
  have hN := spanN_eq h3
  generalize spanN f t = N at hN
  clear h
  have e1 := inB_true h0 h1
  have e2 := inB_true (n := f) (lo := 0) (hi := 3000) h2 (by omega)
  have e3 : (3000 < f + 120 ∧ inB t f 3000 = true) ∨ (¬ 3000 < f + 120 ∧ inB t f (f + 120) = true) := by
    by_cases e4 : 3000 < f + 120
    · exact .inl ⟨e4, inB_true h3 h4⟩
    · exact .inr ⟨e4, inB_true h3 h5⟩
  rcases e3 with ⟨e4, e3⟩ | ⟨e4, e3⟩
  all_goals
    go_enter Try.func41, Try.ntmps41
    go_wp2_with (first | (go_at_call 58; refine (isBirth_any _ _).mono ?_; rintro e w' ⟨rfl, rfl⟩) | (go_at_call 53; refine (isWithin_any _ _ _ _).mono ?_; rintro e w' ⟨rfl, rfl⟩))
    clear e1 e2 e3 e4
    go_loopw [8, 9] (fun v i wr => ∃ k : Nat, k ≤ N ∧ i = .int .i64 (f + k) ∧ Own w.heap.size wr v (yTo (dvT b) (f) k) ∧ Below w.heap.size w wr) (fun _ i _ => (f + N - intOf i).toNat)
    case atStart => exact ⟨0, Nat.zero_le _, by go_num, own_nil _ _, Below.refl _ _⟩
    case round =>
      obtain ⟨k, hk, rfl, ho, hb⟩ := hrel
      have hs := yTo_len (dvT b) (f) k
      have hsz := hb.size
      by_cases hlt : k < N
      · cases ht : (dvT b) (f + (k : Int)) with
        | true =>
          have HT := Lib.hid (yTo_yes ht)
          have hq := dvT_true ht
          clear ht
          obtain ⟨h9, h10⟩ := hq
          have h11 := inB_iff.1 h9
          have hd : ((f + (k : Int)) % (f + (k : Int) - b) == 0) = true := by rw [beq_iff_eq]; exact h10
          clear h10
          go_wp2_with (first | (go_at_call 53; refine (isWithin_any _ _ _ _).mono ?_; rintro e w' ⟨rfl, rfl⟩) | (at_builtin; refine wpList_append_own _ rfl _ _ 25 rfl w.heap.size 3 i0 (.int .i64 0) 1 8 Try.underlying25 hi hz0 hz1 hz2 rfl (by decide) _ _ _ rfl (World.ownsRow.alloc ho _) ⟨wr.heap.size, 0, none⟩ 1 1 [.int .i64 (f + (k : Int))] rfl rfl (newCell _ _ _) (oneInt _) ?c3 ?c4 ?c5 ?_))
          case c3 => unfold maxLen; omega
          case c4 => omega
          case c5 => simp; omega
          intro v' w1 hown' hgrow _
          have hb1 := below_push hb ho hgrow
          have ho1 := own_push hown'
          rw [← HT.out] at ho1
          clear hown' hgrow
          go_wp2
          go_roundw
          case rel => exact ⟨k + 1, by omega, by go_num, ho1, hb1⟩
          case measure => simp [intOf]; omega
        | false =>
          have HT := Lib.hid (yTo_no ht)
          cases h9 : inB (f + (k : Int) - b) 1 120 with
          | true =>
            have hq := dvT_false ht h9
            have h11 := inB_iff.1 h9
            have hd : ((f + (k : Int)) % (f + (k : Int) - b) == 0) = false := by rw [beq_eq_false_iff_ne]; exact hq
            clear ht hq
            go_wp2_with (first | (go_at_call 53; refine (isWithin_any _ _ _ _).mono ?_; rintro e w' ⟨rfl, rfl⟩))
            go_roundw
            case rel => exact ⟨k + 1, by omega, by go_num, by rw [HT.out]; exact ho, hb⟩
            case measure => simp [intOf]; omega
          | false =>
            clear ht
            go_wp2_with (first | (go_at_call 53; refine (isWithin_any _ _ _ _).mono ?_; rintro e w' ⟨rfl, rfl⟩))
            go_roundw
            case rel => exact ⟨k + 1, by omega, by go_num, by rw [HT.out]; exact ho, hb⟩
            case measure => simp [intOf]; omega
      · have hkn : k = N := by omega
        clear hlt
        go_wp2
        go_ret2
        exact ⟨_, rfl, by rw [hkn] at ho; exact ho, hb⟩
set_option maxHeartbeats 1000000 in
theorem dividesYears_no (b f t : Int) (w : World) (h : dvB b f t = false) : Calls Try.prog 41 #[.int .i64 b, .int .i64 f, .int .i64 t] w (RetOwnB [] false w) := by
  have h' := dvB_not.1 h
  clear h
  cases e1 : inB b 0 2900 with
  | false =>
    clear h'
    go_enter Try.func41, Try.ntmps41
    go_wp2_with (first | (go_at_call 58; refine (isBirth_any _ _).mono ?_; rintro e w' ⟨rfl, rfl⟩) | (go_at_call 53; refine (isWithin_any _ _ _ _).mono ?_; rintro e w' ⟨rfl, rfl⟩))
    go_ret2
    exact ⟨_, rfl, own_nil _ _, Below.refl _ _⟩
  | true =>
    have e1' := inB_iff.1 e1
    cases e2 : inB f 0 3000 with
    | false =>
      clear h'
      go_enter Try.func41, Try.ntmps41
      go_wp2_with (first | (go_at_call 58; refine (isBirth_any _ _).mono ?_; rintro e w' ⟨rfl, rfl⟩) | (go_at_call 53; refine (isWithin_any _ _ _ _).mono ?_; rintro e w' ⟨rfl, rfl⟩))
      go_ret2
      exact ⟨_, rfl, own_nil _ _, Below.refl _ _⟩
    | true =>
      have e2' := inB_iff.1 e2
      have e3 : (3000 < f + 120 ∧ inB t f 3000 = false) ∨ (¬ 3000 < f + 120 ∧ inB t f (f + 120) = false) := by
        rw [inB_not, inB_not]; omega
      clear h'
      rcases e3 with ⟨e4, e3⟩ | ⟨e4, e3⟩
      all_goals
        go_enter Try.func41, Try.ntmps41
        go_wp2_with (first | (go_at_call 58; refine (isBirth_any _ _).mono ?_; rintro e w' ⟨rfl, rfl⟩) | (go_at_call 53; refine (isWithin_any _ _ _ _).mono ?_; rintro e w' ⟨rfl, rfl⟩))
        go_ret2
        exact ⟨_, rfl, own_nil _ _, Below.refl _ _⟩
theorem dividesYears_both (b f t : Int) : ∃ rs ok, rs.length ≤ 1048576 ∧ (∀ w, Calls Try.prog 40 #[.int .i64 b, .int .i64 f, .int .i64 t] w (RetOwnB rs ok w)) ∧ (∀ w, Calls Try.prog 41 #[.int .i64 b, .int .i64 f, .int .i64 t] w (RetOwnB rs ok w)) := by
  cases h : dvB b f t with
  | false => exact ⟨[], false, by simp, fun w => specDividesYears_no b f t w h, fun w => dividesYears_no b f t w h⟩
  | true =>
    have h1 := dvB_iff.1 h
    have h2 := spanN_eq h1.2.2.1
    have h3 := yTo_len (dvT b) f (spanN f t)
    exact ⟨_, true, by omega, fun w => specDividesYears_yes b f t w h, fun w => dividesYears_yes b f t w h⟩

/-! TurnedBetween. -/
def tbT (g a : Int) : Bool := decide (turned a = a + g)
def tbR (g a : Int) : Bool := inB a 10 99 && tbT g a
theorem tbT_true {g a : Int} (h : tbT g a = true) : turned a = a + g := of_decide_eq_true h
theorem tbT_false {g a : Int} (h : tbT g a = false) : turned a ≠ a + g := of_decide_eq_false h
theorem turned_bd {a : Int} (h0 : 10 ≤ a) (h1 : a ≤ 99) : 0 ≤ turned a ∧ turned a ≤ 99 := by unfold turned; omega
theorem tb_same (g : Int) (h0 : 1 ≤ g) (h1 : g ≤ 120) : yTo (tbR g) 0 121 = yTo (tbT g) 10 (90 - g).toNat := by
  have e : (121 : Nat) = 10 + ((90 - g).toNat + (111 - (90 - g).toNat)) := by omega
  rw [e, yTo_add, yTo_add]
  rw [yTo_none (N := 10)]
  · rw [yTo_none (N := 111 - (90 - g).toNat)]
    · rw [List.nil_append, List.append_nil]
      apply yTo_congr
      intro j hj
      show tbR g (0 + (10 : Nat) + j) = tbT g (10 + j)
      have e2 : (0 : Int) + (10 : Nat) + j = 10 + j := by omega
      rw [e2]
      unfold tbR
      rw [inB_true (by omega) (by omega)]
      rfl
    · intro j hj
      unfold tbR
      cases h : inB (0 + ((10 : Nat) : Int) + (((90 - g).toNat : Nat) : Int) + (j : Int)) 10 99 with
      | false => rfl
      | true =>
        have h2 := inB_iff.1 h
        have h3 := turned_bd h2.1 h2.2
        rw [Bool.true_and]
        unfold tbT
        rw [decide_eq_false_iff_not]
        omega
  · intro j hj
    unfold tbR
    rw [show inB (0 + (j : Int)) 10 99 = false by rw [inB_not]; omega]
    rfl
set_option maxHeartbeats 1000000 in
theorem specTurnedBetween_yes (g : Int) (w : World) (e1 : inB g 1 120 = true) : Calls Try.prog 28 #[.int .i64 g] w (RetOwnB (yTo (tbT g) 10 (90 - g).toNat) true w) := by
  obtain ⟨i0, hi, hz0, hz1, hz2⟩ := info_parts infoInt
  have h0 := inB_iff.1 e1
  have hN : (((90 - g).toNat : Nat) : Int) = 90 - g ∨ 90 ≤ g ∧ (90 - g).toNat = 0 := by omega
  generalize (90 - g).toNat = N at hN
  go_enter Try.func28, Try.ntmps28
  go_wp2_with (first | (go_at_call 50; refine (l1In_any _ _ _ _).mono ?_; rintro e w' ⟨rfl, rfl⟩))
  clear e1
  go_loopw [4, 5] (fun v i wr => ∃ k : Nat, k ≤ N ∧ i = .int .i64 (10 + k) ∧ Own w.heap.size wr v (yTo (tbT g) (10) k) ∧ Below w.heap.size w wr) (fun _ i _ => (10 + N - intOf i).toNat)
  case atStart => exact ⟨0, Nat.zero_le _, by go_num, own_nil _ _, Below.refl _ _⟩
  case round =>
    obtain ⟨k, hk, rfl, ho, hb⟩ := hrel
    have hs := yTo_len (tbT g) (10) k
    have hsz := hb.size
    by_cases hlt : k < N
    · cases ht : (tbT g) (10 + (k : Int)) with
      | true =>
        have HT := Lib.hid (yTo_yes ht)
        have hq := tbT_true ht
        clear ht
        have hd : (turned (10 + (k : Int)) == 10 + (k : Int) + g) = true := by rw [beq_iff_eq]; exact hq
        clear hq
        go_wp2_with (first | (go_at_call 51; refine (kiTurned_any _ _ (by omega) (by omega)).mono ?_; rintro e w' ⟨rfl, rfl⟩) | (at_builtin; refine wpList_append_own _ rfl _ _ 25 rfl w.heap.size 3 i0 (.int .i64 0) 1 8 Try.underlying25 hi hz0 hz1 hz2 rfl (by decide) _ _ _ rfl (World.ownsRow.alloc ho _) ⟨wr.heap.size, 0, none⟩ 1 1 [.int .i64 (10 + (k : Int))] rfl rfl (newCell _ _ _) (oneInt _) ?c3 ?c4 ?c5 ?_))
        case c3 => unfold maxLen; omega
        case c4 => omega
        case c5 => simp; omega
        intro v' w1 hown' hgrow _
        have hb1 := below_push hb ho hgrow
        have ho1 := own_push hown'
        rw [← HT.out] at ho1
        clear hown' hgrow
        go_wp2
        go_roundw
        case rel => exact ⟨k + 1, by omega, by go_num, ho1, hb1⟩
        case measure => simp [intOf]; omega
      | false =>
        have HT := Lib.hid (yTo_no ht)
        have hq := tbT_false ht
        clear ht
        have hd : (turned (10 + (k : Int)) == 10 + (k : Int) + g) = false := by rw [beq_eq_false_iff_ne]; exact hq
        clear hq
        all_goals
          go_wp2_with (first | (go_at_call 51; refine (kiTurned_any _ _ (by omega) (by omega)).mono ?_; rintro e w' ⟨rfl, rfl⟩))
          go_roundw
          case rel => exact ⟨k + 1, by omega, by go_num, by rw [HT.out]; exact ho, hb⟩
          case measure => simp [intOf]; omega
    · have hkn : k = N := by omega
      clear hlt
      go_wp2
      go_ret2
      exact ⟨_, rfl, by rw [hkn] at ho; exact ho, hb⟩
theorem specTurnedBetween_no (g : Int) (w : World) (e1 : inB g 1 120 = false) : Calls Try.prog 28 #[.int .i64 g] w (RetOwnB [] false w) := by
  go_enter Try.func28, Try.ntmps28
  go_wp2_with (first | (go_at_call 50; refine (l1In_any _ _ _ _).mono ?_; rintro e w' ⟨rfl, rfl⟩))
  go_ret2
  exact ⟨_, rfl, own_nil _ _, Below.refl _ _⟩
set_option maxRecDepth 100000 in
set_option maxHeartbeats 1000000 in
theorem turnedBetween_yes (g : Int) (w : World) (e1 : inB g 1 120 = true) : Calls Try.prog 29 #[.int .i64 g] w (RetOwnB (yTo (tbR g) 0 121) true w) := by
  obtain ⟨i0, hi, hz0, hz1, hz2⟩ := info_parts infoInt
  have h0 := inB_iff.1 e1
  go_enter Try.func29, Try.ntmps29
  go_wp2_with (first | (go_at_call 53; refine (isWithin_any _ _ _ _).mono ?_; rintro e w' ⟨rfl, rfl⟩))
  clear e1
  go_loopw [4, 11] (fun v i wr => ∃ k : Nat, k ≤ 121 ∧ i = .int .i64 (k) ∧ Own w.heap.size wr v (yTo (tbR g) (0) k) ∧ Below w.heap.size w wr) (fun _ i _ => (0 + 121 - intOf i).toNat)
  case atStart => exact ⟨0, Nat.zero_le _, by go_num, own_nil _ _, Below.refl _ _⟩
  case round =>
    obtain ⟨k, hk, rfl, ho, hb⟩ := hrel
    have hs := yTo_len (tbR g) (0) k
    have hsz := hb.size
    by_cases hlt : k < 121
    · cases ht : (tbR g) (0 + (k : Int)) with
      | true =>
        have HT := Lib.hid (yTo_yes ht)
        obtain ⟨h9, hq⟩ : inB (0 + (k : Int)) 10 99 = true ∧ turnR (0 + (k : Int)) = 0 + (k : Int) + g := by
          unfold tbR at ht
          rw [Bool.and_eq_true] at ht
          exact ⟨ht.1, (turnR_yes ht.1).trans (tbT_true ht.2)⟩
        clear ht
        rw [Int.zero_add] at h9 hq
        have hd : (turnR (k : Int) == (k : Int) + g) = true := by rw [beq_iff_eq]; exact hq
        have hd2 : decide (turnR (k : Int) = (k : Int) + g) = true := by simpa using hq
        clear hq
        go_wp2_with (first | (go_at_call 27; refine (turnedAge_any _ _).mono ?_; rintro e w' ⟨rfl, rfl⟩) | (at_builtin; refine wpList_append_own _ rfl _ _ 25 rfl w.heap.size 3 i0 (.int .i64 0) 1 8 Try.underlying25 hi hz0 hz1 hz2 rfl (by decide) _ _ _ rfl (World.ownsRow.alloc ho _) ⟨wr.heap.size, 0, none⟩ 1 1 [.int .i64 (k : Int)] rfl rfl (newCell _ _ _) (oneInt _) ?c3 ?c4 ?c5 ?_))
        case c3 => unfold maxLen; omega
        case c4 => omega
        case c5 => simp; omega
        intro v' w1 hown' hgrow _
        have hb1 := below_push hb ho hgrow
        have ho1 := own_push hown'
        rw [show (k : Int) = 0 + (k : Int) by omega, ← HT.out] at ho1
        clear hown' hgrow
        go_wp2
        go_roundw
        case rel => exact ⟨k + 1, by omega, by go_num, ho1, hb1⟩
        case measure => simp [intOf]; omega
      | false =>
        have HT := Lib.hid (yTo_no ht)
        rw [Int.zero_add] at ht
        cases h9 : inB (k : Int) 10 99 with
        | true =>
          have hq : turnR (k : Int) ≠ (k : Int) + g := by
            unfold tbR at ht
            rw [h9, Bool.true_and] at ht
            rw [turnR_yes h9]
            exact tbT_false ht
          have hd : (turnR (k : Int) == (k : Int) + g) = false := by rw [beq_eq_false_iff_ne]; exact hq
          clear ht hq
          go_wp2_with (first | (go_at_call 27; refine (turnedAge_any _ _).mono ?_; rintro e w' ⟨rfl, rfl⟩))
          go_roundw
          case rel => exact ⟨k + 1, by omega, by go_num, by rw [HT.out]; exact ho, hb⟩
          case measure => simp [intOf]; omega
        | false =>
          clear ht
          go_wp2_with (first | (go_at_call 27; refine (turnedAge_any _ _).mono ?_; rintro e w' ⟨rfl, rfl⟩))
          go_roundw
          case rel => exact ⟨k + 1, by omega, by go_num, by rw [HT.out]; exact ho, hb⟩
          case measure => simp [intOf]; omega
    · have hkn : k = 121 := by omega
      clear hlt
      go_wp2
      go_ret2
      exact ⟨_, rfl, by rw [hkn] at ho; exact ho, hb⟩
theorem turnedBetween_no (g : Int) (w : World) (e1 : inB g 1 120 = false) : Calls Try.prog 29 #[.int .i64 g] w (RetOwnB [] false w) := by
  go_enter Try.func29, Try.ntmps29
  go_wp2_with (first | (go_at_call 53; refine (isWithin_any _ _ _ _).mono ?_; rintro e w' ⟨rfl, rfl⟩))
  go_ret2
  exact ⟨_, rfl, own_nil _ _, Below.refl _ _⟩
theorem turnedBetween_both (g : Int) : ∃ rs ok, rs.length ≤ 1048576 ∧ (∀ w, Calls Try.prog 28 #[.int .i64 g] w (RetOwnB rs ok w)) ∧ (∀ w, Calls Try.prog 29 #[.int .i64 g] w (RetOwnB rs ok w)) := by
  cases h : inB g 1 120 with
  | false => exact ⟨[], false, by simp, fun w => specTurnedBetween_no g w h, fun w => turnedBetween_no g w h⟩
  | true =>
    have h1 := inB_iff.1 h
    have h3 := yTo_len (tbR g) 0 121
    exact ⟨_, true, by omega, fun w => by rw [tb_same g h1.1 h1.2]; exact specTurnedBetween_yes g w h, fun w => turnedBetween_yes g w h⟩
end Go.Proofs.Ytjabghojenhhiab
