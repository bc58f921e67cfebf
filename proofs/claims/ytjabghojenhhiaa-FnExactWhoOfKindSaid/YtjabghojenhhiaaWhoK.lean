/- WhoOfKind: both texts. -/
import Derived.Test.YtjabghojenhhiaaCount
set_option linter.unusedVariables false
set_option linter.unusedSimpArgs false
namespace Go.Proofs.Ytjabghojenhhiaa
open Go.RowKit

set_option maxHeartbeats 4000000 in
set_option maxRecDepth 100000 in
theorem whoOfKind_yes (b off c : Nat) (s : ByteArray) (zs : List Int) (w : World) (hn : zs.length ≤ 1048576) (hbl : b < w.heap.size) (hI : Ints w b off zs) (hk : isK s = true) (hg : goodB zs 120 = true) :
    Calls Try.prog 29 #[.slice (some ⟨b, off, none⟩) zs.length c, .string s] w (RetOwnB (whoL (kOf s) zs) true w) := by
  have HI := Lib.hid hI
  have HK := Lib.hid hk
  have h8 := goodB_len hg
  clear hI hk
  go_enter Try.func29, Try.ntmps29
  go_wp2_with fail
  refine (marksFor_any _ _).mono ?_
  rw [HK.out]; rintro e w1 ⟨rfl, hb1⟩
  have HS := Lib.hid (blk_new w1 50 (pc pnone))
  have hba := hb1.alloc hb1.size (.cells (pc pnone) 50)
  have hsz1 := hb1.size
  go_wp2_with (first | (refine wpList_store_row rfl _ _ _ rfl _ 50 _ _ rfl rfl HS.out (sizeMarksOf _) (pc_sizes _ _) (pc_one _) ?_; intro w2 hV0 hg2 hsz2))
  have hV := Lib.hid hV0
  have hb2 : Below w.heap.size w w2 := hba.grown hg2 (by simp; omega) (by intro k hk; simp at hk; omega)
  have hVl : w1.heap.size < w2.heap.size := hV0.lt
  clear hV0 hg2 hsz2 hba
  refine (householdOf_zero _ _ _ _ zs _ rfl hn (HI.out.kept hb2 hbl) hg).mono ?_
  rintro e w3 ⟨g, hg3, rfl, hP, hgs, hb3⟩
  generalize zs.getD 0 0 = a
  have hsz2 := hb2.size
  have hsz3 := hb3.size
  have hb3' := hb2.trans (hb3.mono hsz2)
  have HV3 := Lib.hid (fun A => (hV.out.kept hb3 hVl).alloc A)
  have HP3 := Lib.hid (fun A => hP.kept ((Below.refl w3.heap.size w3).alloc (Nat.le_refl _) A) hgs)
  have HW3 := Lib.hid (fun A => hb3'.alloc hb3'.size A)
  have HG := Lib.hid (goodB_at hg)
  clear hV hP hg
  go_wp2_with (first | (refine wpList_load_row rfl _ _ rfl _ 50 _ rfl (HV3.out _) 961 _ Try.underlying50 (sizeMarksOf _) ?_))
  refine (whoIn_any _ _ _ _ _ zs.length zs _ rfl h8.2 (by simp; omega) (HP3.out _) HG.out).mono ?_
  rintro e w4 ⟨v, rfl, ho, hb4⟩
  have hb5 := (HW3.out _).trans (hb4.mono (HW3.out _).size)
  have ho5 := ho.mono (HW3.out _).size
  go_wp2_with fail
  go_ret2
  exact ⟨_, rfl, ho5, hb5⟩
set_option maxHeartbeats 4000000 in
set_option maxRecDepth 100000 in
theorem whoOfKind_nogood (b off c : Nat) (s : ByteArray) (zs : List Int) (w : World) (hn : zs.length ≤ 1048576) (hbl : b < w.heap.size) (hI : Ints w b off zs) (hg : goodB zs 120 = false) :
    Calls Try.prog 29 #[.slice (some ⟨b, off, none⟩) zs.length c, .string s] w (RetOwnB [] false w) := by
  have HI := Lib.hid hI
  have HG := Lib.hid hg
  clear hI hg
  cases hk : isK s with
  | false =>
    have HK := Lib.hid hk
    clear hk
    go_enter Try.func29, Try.ntmps29
    go_wp2_with fail
    refine (marksFor_any _ _).mono ?_
    rw [HK.out]; rintro e w1 ⟨rfl, hb1⟩
    have HS := Lib.hid (blk_new w1 50 (pc pnone))
    have hba := hb1.alloc hb1.size (.cells (pc pnone) 50)
    have hsz1 := hb1.size
    go_wp2_with (first | (refine wpList_store_row rfl _ _ _ rfl _ 50 _ _ rfl rfl HS.out (sizeMarksOf _) (pc_sizes _ _) (pc_one _) ?_; intro w2 hV0 hg2 hsz2))
    have hV := Lib.hid hV0
    have hb2 : Below w.heap.size w w2 := hba.grown hg2 (by simp; omega) (by intro k hk; simp at hk; omega)
    have hVl : w1.heap.size < w2.heap.size := hV0.lt
    clear hV0 hg2 hsz2 hba
    refine (householdOf_nozero _ _ _ _ zs _ rfl hn (HI.out.kept hb2 hbl) (Nat.lt_of_lt_of_le hbl hb2.size) HG.out).mono ?_
    rintro e w3 ⟨rfl, hb3⟩
    have hb3' := hb2.trans (hb3.mono hb2.size)
    go_wp2_with fail
    go_ret2
    exact ⟨_, rfl, own_nil _ _, hb3'.alloc hb3'.size _⟩
  | true =>
    have HK := Lib.hid hk
    clear hk
    go_enter Try.func29, Try.ntmps29
    go_wp2_with fail
    refine (marksFor_any _ _).mono ?_
    rw [HK.out]; rintro e w1 ⟨rfl, hb1⟩
    have HS := Lib.hid (blk_new w1 50 (pc pnone))
    have hba := hb1.alloc hb1.size (.cells (pc pnone) 50)
    have hsz1 := hb1.size
    go_wp2_with (first | (refine wpList_store_row rfl _ _ _ rfl _ 50 _ _ rfl rfl HS.out (sizeMarksOf _) (pc_sizes _ _) (pc_one _) ?_; intro w2 hV0 hg2 hsz2))
    have hV := Lib.hid hV0
    have hb2 : Below w.heap.size w w2 := hba.grown hg2 (by simp; omega) (by intro k hk; simp at hk; omega)
    have hVl : w1.heap.size < w2.heap.size := hV0.lt
    clear hV0 hg2 hsz2 hba
    refine (householdOf_nozero _ _ _ _ zs _ rfl hn (HI.out.kept hb2 hbl) (Nat.lt_of_lt_of_le hbl hb2.size) HG.out).mono ?_
    rintro e w3 ⟨rfl, hb3⟩
    have hb3' := hb2.trans (hb3.mono hb2.size)
    go_wp2_with fail
    go_ret2
    exact ⟨_, rfl, own_nil _ _, hb3'.alloc hb3'.size _⟩
set_option maxHeartbeats 4000000 in
set_option maxRecDepth 100000 in
theorem whoOfKind_nokind (b off c : Nat) (s : ByteArray) (zs : List Int) (w : World) (hn : zs.length ≤ 1048576) (hbl : b < w.heap.size) (hI : Ints w b off zs) (hg : goodB zs 120 = true) (hk : isK s = false) :
    Calls Try.prog 29 #[.slice (some ⟨b, off, none⟩) zs.length c, .string s] w (RetOwnB [] false w) := by
  have HI := Lib.hid hI
  have HK := Lib.hid hk
  clear hI hk
  go_enter Try.func29, Try.ntmps29
  go_wp2_with fail
  refine (marksFor_any _ _).mono ?_
  rw [HK.out]; rintro e w1 ⟨rfl, hb1⟩
  have HS := Lib.hid (blk_new w1 50 (pc pnone))
  have hba := hb1.alloc hb1.size (.cells (pc pnone) 50)
  have hsz1 := hb1.size
  go_wp2_with (first | (refine wpList_store_row rfl _ _ _ rfl _ 50 _ _ rfl rfl HS.out (sizeMarksOf _) (pc_sizes _ _) (pc_one _) ?_; intro w2 hV0 hg2 hsz2))
  have hV := Lib.hid hV0
  have hb2 : Below w.heap.size w w2 := hba.grown hg2 (by simp; omega) (by intro k hk; simp at hk; omega)
  have hVl : w1.heap.size < w2.heap.size := hV0.lt
  clear hV0 hg2 hsz2 hba
  refine (householdOf_zero _ _ _ _ zs _ rfl hn (HI.out.kept hb2 hbl) hg).mono ?_
  rintro e w3 ⟨g, hg3, rfl, hP, hgs, hb3⟩
  generalize zs.getD 0 0 = a
  have hb3' := hb2.trans (hb3.mono hb2.size)
  clear hP
  go_wp2_with fail
  go_ret2
  exact ⟨_, rfl, own_nil _ _, hb3'.alloc hb3'.size _⟩
theorem specWhoOfKind_no (b off c : Nat) (s : ByteArray) (zs : List Int) (w : World) (hn : zs.length ≤ 1048576) (hI : Ints w b off zs) (h : (goodB zs 120 && isK s) = false) :
    Calls Try.prog 28 #[.slice (some ⟨b, off, none⟩) zs.length c, .string s] w (RetOwnB [] false w) := by
  go_enter Try.func28, Try.ntmps28
  go_wp2_with (first | (go_at_call 38; refine (kiBoth_any _ _ _ zs s _ hn hI).mono ?_; rintro e w' ⟨rfl, rfl⟩))
  go_ret2
  exact ⟨_, rfl, own_nil _ _, Below.refl _ _⟩
set_option maxHeartbeats 1000000 in
theorem specWhoOfKind_yes (b off c n : Nat) (s : ByteArray) (zs : List Int) (w : World) (hl : zs.length = n) (hn' : n ≤ 1048576) (hbl : b < w.heap.size) (hI : Ints w b off zs) (hk : isK s = true) (hg : goodB zs 120 = true) :
    Calls Try.prog 28 #[.slice (some ⟨b, off, none⟩) n c, .string s] w (RetOwnB (whoL (kOf s) zs) true w) := by
  obtain ⟨i0, hi, hz0, hz1, hz2⟩ := info_parts infoInt
  have HL := Lib.hid hl
  have HI := Lib.hid hI
  have HK := Lib.hid hk
  have HZ := Lib.hid (goodB_at hg)
  have h8 := goodB_len hg
  rw [hl] at h8
  have hB : Calls Try.prog 38 #[.slice (some ⟨b, off, none⟩) n c, .string s] w (RetSame (.bool true) w) := by
    have := kiBoth_any b off c zs s w (by omega) hI
    rw [hg, hk, hl] at this
    exact this
  have HB := Lib.hid hB
  clear hl hI hk hg hB
  go_enter Try.func28, Try.ntmps28
  go_wp2_with fail
  refine HB.out.mono ?_
  rintro e w' ⟨rfl, rfl⟩
  go_wp2_with fail
  go_loopw [6, 15] (fun v i wr => ∃ k : Nat, k ≤ n ∧ i = .int .i64 (k) ∧ Own w.heap.size wr v (yTo (whoT (kOf s) zs) (0) k) ∧ Below w.heap.size w wr) (fun _ i _ => (0 + n - intOf i).toNat)
  case atStart => exact ⟨0, Nat.zero_le _, by go_num, own_nil _ _, Below.refl _ _⟩
  case round =>
    obtain ⟨k, hk, rfl, ho, hb⟩ := hrel
    have hs := yTo_len (whoT (kOf s) zs) (0) k
    have hsz := hb.size
    by_cases hlt : k < n
    · cases ht : (whoT (kOf s) zs) (0 + (k : Int)) with
      | true =>
        have HT := Lib.hid (yTo_yes ht)
        have hc := (HI.out.kept hb hbl) k (by rw [HL.out]; exact hlt)
        have hzb := HZ.out k (by rw [HL.out]; exact hlt)
        have hq : kOf s (zs.getD k 0).toNat = true := by have := ht; unfold whoT at this; rw [Int.zero_add] at this; simp only [Int.toNat_natCast] at this; exact this
        clear ht
        generalize zs.getD k 0 = z at hc hzb hq
        go_wp2_with (first | (go_at_call 50; refine (kiIs_int _ _ _ (by omega) (by omega) HK.out).mono ?_; rintro e w' ⟨rfl, rfl⟩) | (at_builtin; refine wpList_append_own _ rfl _ _ 22 rfl w.heap.size 3 i0 (.int .i64 0) 1 8 Try.underlying22 hi hz0 hz1 hz2 rfl (by decide) _ _ _ rfl (World.ownsRow.alloc ho _) ⟨wr.heap.size, 0, none⟩ 1 1 [.int .i64 (k : Int)] rfl rfl (newCell _ _ _) (oneInt _) ?c3 ?c4 ?c5 ?_))
        case c3 => unfold maxLen; omega
        case c4 => omega
        case c5 => simp; omega
        intro v' w1 hown' hgrow _
        have hb1 := below_push hb ho hgrow
        have ho1 := own_push hown'
        rw [show (k : Int) = 0 + (k : Int) by omega, ← HT.out] at ho1
        clear hown' hgrow
        go_wp2
        go_roundw
        case rel => exact ⟨k + 1, by omega, by go_num, ho1, hb1⟩
        case measure => simp [intOf]; omega
      | false =>
        have HT := Lib.hid (yTo_no ht)
        have hc := (HI.out.kept hb hbl) k (by rw [HL.out]; exact hlt)
        have hzb := HZ.out k (by rw [HL.out]; exact hlt)
        have hq : kOf s (zs.getD k 0).toNat = false := by have := ht; unfold whoT at this; rw [Int.zero_add] at this; simp only [Int.toNat_natCast] at this; exact this
        clear ht
        generalize zs.getD k 0 = z at hc hzb hq
        all_goals
          go_wp2_with (first | (go_at_call 50; refine (kiIs_int _ _ _ (by omega) (by omega) HK.out).mono ?_; rintro e w' ⟨rfl, rfl⟩))
          go_roundw
          case rel => exact ⟨k + 1, by omega, by go_num, by rw [HT.out]; exact ho, hb⟩
          case measure => simp [intOf]; omega
    · have hkn : k = n := by omega
      clear hlt
      go_wp2
      go_ret2
      exact ⟨_, rfl, by unfold whoL; rw [HL.out]; rw [hkn] at ho; exact ho, hb⟩
theorem whoOfKind_both (zs : List Int) (s : ByteArray) : ∃ rs ok, rs.length ≤ 1048576 ∧
    (∀ b c w, zs.length ≤ 1048576 → b < w.heap.size → Ints w b 0 zs → Calls Try.prog 28 #[.slice (some ⟨b, 0, none⟩) zs.length c, .string s] w (RetOwnB rs ok w)) ∧
    (∀ b c w, zs.length ≤ 1048576 → b < w.heap.size → Ints w b 0 zs → Calls Try.prog 29 #[.slice (some ⟨b, 0, none⟩) zs.length c, .string s] w (RetOwnB rs ok w)) := by
  cases hg : goodB zs 120 with
  | false => exact ⟨[], false, by simp, fun b c w hn hbl hI => specWhoOfKind_no _ _ _ _ _ _ hn hI (by rw [hg]; rfl), fun b c w hn hbl hI => whoOfKind_nogood _ _ _ _ _ _ hn hbl hI hg⟩
  | true =>
    cases hk : isK s with
    | false => exact ⟨[], false, by simp, fun b c w hn hbl hI => specWhoOfKind_no _ _ _ _ _ _ hn hI (by rw [hg, hk]; rfl), fun b c w hn hbl hI => whoOfKind_nokind _ _ _ _ _ _ hn hbl hI hg hk⟩
    | true =>
      have h1 := whoL_len (kOf s) zs
      have h2 := goodB_len hg
      exact ⟨_, true, by omega, fun b c w hn hbl hI => specWhoOfKind_yes _ _ _ _ _ _ _ rfl hn hbl hI hk hg, fun b c w hn hbl hI => whoOfKind_yes _ _ _ _ _ _ hn hbl hI hk hg⟩
end Go.Proofs.Ytjabghojenhhiaa
