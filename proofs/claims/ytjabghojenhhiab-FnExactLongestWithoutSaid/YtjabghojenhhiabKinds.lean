/- IsKind, AgesOfKind, NextOfKind: both texts. -/
import Derived.Test.YtjabghojenhhiabAges
set_option linter.unusedVariables false
set_option linter.unusedSimpArgs false
namespace Go.Proofs.Ytjabghojenhhiab
open Go.RowKit

theorem specIsKind_any (x : Int) (s : ByteArray) (w : World) : Calls Try.prog 15 #[.int .i64 x, .string s] w (RetBB (inB x 0 120 && isK s && kOf s x.toNat) (inB x 0 120 && isK s) w) := by
  cases hx : inB x 0 120 with
  | false =>
    go_enter Try.func15, Try.ntmps15
    go_wp2_with (first | (go_at_call 42; refine (kiAge_any _ _).mono ?_; rintro e w' ⟨rfl, rfl⟩) | (go_at_call 43; refine (kiKind_any _ _).mono ?_; rintro e w' ⟨rfl, rfl⟩))
    go_ret2
    exact ⟨rfl, Below.refl _ _⟩
  | true =>
    cases hk : isK s with
    | false =>
      go_enter Try.func15, Try.ntmps15
      go_wp2_with (first | (go_at_call 42; refine (kiAge_any _ _).mono ?_; rintro e w' ⟨rfl, rfl⟩) | (go_at_call 43; refine (kiKind_any _ _).mono ?_; rintro e w' ⟨rfl, rfl⟩))
      go_ret2
      exact ⟨rfl, Below.refl _ _⟩
    | true =>
      have hb := inB_iff.1 hx
      go_enter Try.func15, Try.ntmps15
      go_wp2_with (first | (go_at_call 42; refine (kiAge_any _ _).mono ?_; rintro e w' ⟨rfl, rfl⟩) | (go_at_call 43; refine (kiKind_any _ _).mono ?_; rintro e w' ⟨rfl, rfl⟩) | (go_at_call 44; refine (kiIs_int _ _ _ (by omega) (by omega) hk).mono ?_; rintro e w' ⟨rfl, rfl⟩))
      go_ret2
      exact ⟨rfl, Below.refl _ _⟩
set_option maxHeartbeats 4000000 in
set_option maxRecDepth 100000 in
theorem isKind_any (x : Int) (s : ByteArray) (w : World) : Calls Try.prog 16 #[.int .i64 x, .string s] w (RetBB (inB x 0 120 && isK s && kOf s x.toNat) (inB x 0 120 && isK s) w) := by
  cases hk : isK s with
  | false =>
    rw [Bool.and_false, Bool.false_and]
    have HK := Lib.hid hk
    clear hk
    go_enter Try.func16, Try.ntmps16
    go_wp2_with fail
    refine (marksFor_any _ _).mono ?_
    rw [HK.out]; rintro e w1 ⟨rfl, hb1⟩
    have HS := Lib.hid (blk_new w1 43 (pc pnone))
    have hba := hb1.alloc hb1.size (.cells (pc pnone) 43)
    have hsz1 := hb1.size
    go_wp2_with (first | (refine wpList_store_row rfl _ _ _ rfl _ 43 _ _ rfl rfl HS.out (sizeMarksOf _) (pc_sizes _ _) (pc_one _) ?_; intro w2 hV hg2 hsz2) | (go_at_call 46; refine (isAge_any _ _).mono ?_; rintro e w' ⟨rfl, rfl⟩))
    have hb2 : Below w.heap.size w w2 := hba.grown hg2 (by simp; omega) (by intro k hk; simp at hk; omega)
    go_ret2
    exact ⟨rfl, hb2⟩
  | true =>
    have HK := Lib.hid hk
    clear hk
    rw [Bool.and_true]
    cases hx : inB x 0 120 with
    | false =>
      rw [Bool.false_and]
      go_enter Try.func16, Try.ntmps16
      go_wp2_with fail
      refine (marksFor_any _ _).mono ?_
      rw [HK.out]; rintro e w1 ⟨rfl, hb1⟩
      have HS := Lib.hid (blk_new w1 43 (pc pnone))
      have hba := hb1.alloc hb1.size (.cells (pc pnone) 43)
      have hsz1 := hb1.size
      go_wp2_with (first | (refine wpList_store_row rfl _ _ _ rfl _ 43 _ _ rfl rfl HS.out (sizeMarksOf _) (pc_sizes _ _) (pc_one _) ?_; intro w2 hV hg2 hsz2) | (go_at_call 46; refine (isAge_any _ _).mono ?_; rintro e w' ⟨rfl, rfl⟩))
      have hb2 : Below w.heap.size w w2 := hba.grown hg2 (by simp; omega) (by intro k hk; simp at hk; omega)
      go_ret2
      exact ⟨rfl, hb2⟩
    | true =>
      rw [Bool.true_and]
      have hb := inB_iff.1 hx
      obtain ⟨n, rfl⟩ := Int.eq_ofNat_of_zero_le hb.1
      have hn : n < 961 := by omega
      have hq := Lib.hid (pc_get (kOf s) n hn)
      have hi0 : (0 : Int) ≤ (n : Int) := by omega
      have hi1 : (n : Int) < 961 := by omega
      generalize hr : kOf s n = r at hq
      go_enter Try.func16, Try.ntmps16
      go_wp2_with fail
      refine (marksFor_any _ _).mono ?_
      rw [HK.out]; rintro e w1 ⟨rfl, hb1⟩
      have HS := Lib.hid (blk_new w1 43 (pc pnone))
      have hba := hb1.alloc hb1.size (.cells (pc pnone) 43)
      have hsz1 := hb1.size
      go_wp2_with (first | (refine wpList_store_row rfl _ _ _ rfl _ 43 _ _ rfl rfl HS.out (sizeMarksOf _) (pc_sizes _ _) (pc_one _) ?_; intro w2 hV hg2 hsz2; have hc := (hV.cell n).trans hq.out) | (go_at_call 46; refine (isAge_any _ _).mono ?_; rintro e w' ⟨rfl, rfl⟩))
      have hb2 : Below w.heap.size w w2 := hba.grown hg2 (by simp; omega) (by intro k hk; simp at hk; omega)
      go_ret2
      exact ⟨by simp [hr], hb2⟩
theorem isKind_both (x : Int) (s : ByteArray) (_h : s.size ≤ 1048576) : ∃ r ok, (∀ w, Calls Try.prog 15 #[.int .i64 x, .string s] w (RetBB r ok w)) ∧ (∀ w, Calls Try.prog 16 #[.int .i64 x, .string s] w (RetBB r ok w)) :=
  ⟨_, _, fun w => specIsKind_any x s w, fun w => isKind_any x s w⟩

/-! AgesOfKind. -/
theorem yTo_zeroes : ∀ N : Nat, yTo (tK pnone) 0 N = [] := by
  intro N
  exact yTo_none fun j _ => rfl
set_option maxHeartbeats 4000000 in
set_option maxRecDepth 100000 in
theorem agesOfKind_any (s : ByteArray) (w : World) : Calls Try.prog 18 #[.string s] w (RetOwnB (yTo (tK (kOf s)) 0 121) (isK s) w) := by
  go_enter Try.func18, Try.ntmps18
  go_wp2_with fail
  refine (marksFor_any _ _).mono ?_
  rintro e w1 ⟨rfl, hb1⟩
  have HS := Lib.hid (blk_new w1 43 (pc pnone))
  have hba := hb1.alloc hb1.size (.cells (pc pnone) 43)
  have hsz1 := hb1.size
  go_wp2_with (first | (refine wpList_store_row rfl _ _ _ rfl _ 43 _ _ rfl rfl HS.out (sizeMarksOf _) (pc_sizes _ _) (pc_one _) ?_; intro w2 hV hg2 hsz2) | (refine wpList_load_row rfl _ _ rfl _ 43 _ rfl hV 961 _ Try.underlying43 (sizeMarksOf _) ?_))
  have hb2 : Below w.heap.size w w2 := hba.grown hg2 (by simp; omega) (by intro k hk; simp at hk; omega)
  refine (ages_any _ _).mono ?_
  rintro e w3 ⟨v, rfl, ho, hb3⟩
  have hb4 := hb2.trans (hb3.mono hb2.size)
  go_wp2_with fail
  go_ret2
  exact ⟨_, rfl, ho.mono hb2.size, hb4⟩
set_option maxRecDepth 100000 in
set_option maxHeartbeats 1000000 in
theorem kiAll_any (s : ByteArray) (w : World) (hk : isK s = true) : Calls Try.prog 47 #[.string s] w (RetOwn (yTo (tK (kOf s)) 0 121) w) := by
  obtain ⟨i0, hi, hz0, hz1, hz2⟩ := info_parts infoInt
  have HK := Lib.hid hk
  clear hk
  go_enter Try.func47, Try.ntmps47
  go_wp2
  go_loopw [3, 4] (fun v i wr => ∃ k : Nat, k ≤ 121 ∧ i = .int .i64 (k) ∧ Own w.heap.size wr v (yTo (tK (kOf s)) (0) k) ∧ Below w.heap.size w wr) (fun _ i _ => (0 + 121 - intOf i).toNat)
  case atStart => exact ⟨0, Nat.zero_le _, by go_num, own_nil _ _, Below.refl _ _⟩
  case round =>
    obtain ⟨k, hk, rfl, ho, hb⟩ := hrel
    have hs := yTo_len (tK (kOf s)) (0) k
    have hsz := hb.size
    by_cases hlt : k < 121
    · cases ht : (tK (kOf s)) (0 + (k : Int)) with
      | true =>
        have HT := Lib.hid (yTo_yes ht)
        have hq : kOf s k = true := by have := ht; unfold tK at this; rw [Int.zero_add] at this; exact this
        clear ht
        go_wp2_with (first | (go_at_call 44; refine (kiIs_int _ _ _ (by omega) (by omega) HK.out).mono ?_; rintro e w' ⟨rfl, rfl⟩) | (at_builtin; refine wpList_append_own _ rfl _ _ 25 rfl w.heap.size 3 i0 (.int .i64 0) 1 8 Try.underlying25 hi hz0 hz1 hz2 rfl (by decide) _ _ _ rfl (World.ownsRow.alloc ho _) ⟨wr.heap.size, 0, none⟩ 1 1 [.int .i64 (k : Int)] rfl rfl (newCell _ _ _) (oneInt _) ?c3 ?c4 ?c5 ?_))
        case c3 => unfold maxLen; omega
        case c4 => omega
        case c5 => simp; omega
        intro v' w1 hown' hgrow _
        have hb1 := below_push hb ho hgrow
        have ho1 := own_push hown'
        rw [show (k : Int) = 0 + (k : Int) by omega, ← HT.out] at ho1
        clear hown' hgrow
        go_wp2
        go_roundw
        case rel => exact ⟨k + 1, by omega, by go_num, ho1, hb1⟩
        case measure => simp [intOf]; omega
      | false =>
        have HT := Lib.hid (yTo_no ht)
        have hq : kOf s k = false := by have := ht; unfold tK at this; rw [Int.zero_add] at this; exact this
        clear ht
        all_goals
          go_wp2_with (first | (go_at_call 44; refine (kiIs_int _ _ _ (by omega) (by omega) HK.out).mono ?_; rintro e w' ⟨rfl, rfl⟩))
          go_roundw
          case rel => exact ⟨k + 1, by omega, by go_num, by rw [HT.out]; exact ho, hb⟩
          case measure => simp [intOf]; omega
    · have hkn : k = 121 := by omega
      clear hlt
      go_wp2
      go_ret
      exact ⟨_, rfl, by rw [hkn] at ho; exact ho, hb⟩

theorem specAgesOfKind_any (s : ByteArray) (w : World) : Calls Try.prog 17 #[.string s] w (RetOwnB (yTo (tK (kOf s)) 0 121) (isK s) w) := by
  cases hk : isK s with
  | false =>
    rw [kOf_none hk, yTo_zeroes]
    go_enter Try.func17, Try.ntmps17
    go_wp2_with (first | (go_at_call 43; refine (kiKind_any _ _).mono ?_; rintro e w' ⟨rfl, rfl⟩))
    go_ret2
    exact ⟨_, rfl, own_nil _ _, Below.refl _ _⟩
  | true =>
    go_enter Try.func17, Try.ntmps17
    go_wp2_with (first | (go_at_call 43; refine (kiKind_any _ _).mono ?_; rintro e w' ⟨rfl, rfl⟩))
    refine (kiAll_any _ _ hk).mono ?_
    rintro e w1 ⟨v, rfl, ho, hb⟩
    go_wp2_with fail
    go_ret2
    exact ⟨_, rfl, ho, hb⟩
theorem agesOfKind_both (s : ByteArray) (_h : s.size ≤ 1048576) : ∃ rs ok, rs.length ≤ 1048576 ∧ (∀ w, Calls Try.prog 17 #[.string s] w (RetOwnB rs ok w)) ∧ (∀ w, Calls Try.prog 18 #[.string s] w (RetOwnB rs ok w)) :=
  ⟨_, _, by have := yTo_len (tK (kOf s)) 0 121; omega, fun w => specAgesOfKind_any s w, fun w => agesOfKind_any s w⟩
end Go.Proofs.Ytjabghojenhhiab
