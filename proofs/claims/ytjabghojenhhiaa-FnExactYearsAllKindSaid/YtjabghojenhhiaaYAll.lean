/- YearsAllKind: both texts. -/
import Derived.Test.YtjabghojenhhiaaAll
import Derived.Test.YtjabghojenhhiaaWhenYearsAllKind
set_option linter.unusedVariables false
set_option linter.unusedSimpArgs false
namespace Go.Proofs.Ytjabghojenhhiaa
open Go.RowKit

def allT (s : ByteArray) (zs : List Int) (y : Int) : Bool := cnt (kOf s) (agesIn zs y) == (zs.length : Int)
set_option maxHeartbeats 4000000 in
set_option maxRecDepth 100000 in
theorem yearsAllKind_yes (b off c : Nat) (s : ByteArray) (zs : List Int) (w : World) (hn : zs.length ≤ 1048576) (hI : Ints w b off zs) (hk : isK s = true) (hg : goodB zs 120 = true) :
    Calls Try.prog 21 #[.slice (some ⟨b, off, none⟩) zs.length c, .string s] w (RetOwnB (found (allT s zs) zs) true w) := by
  have hmf : ∀ (fn : Fn) (first cap : Array Value) (w : World), (Instr.makeFunc fn first cap).run Try.prog w = .ok (.func fn first cap) w := fun _ _ _ _ => rfl
  have h8 := goodB_len hg
  have hbl := ints_lt hI (by omega)
  have HI := Lib.hid hI
  have HK := Lib.hid hk
  have HT := Lib.hid (fun W => show TestsYearsAllKind (.agg (pc (kOf s))) 0 zs (allT s zs) W from
    fun y h1 h2 g c W' hB hgs hP => by
      have hf : fitB zs y = true := by unfold fitB; rw [hg, inB_true h1 h2]; rfl
      obtain ⟨_, _, hl, hz⟩ := fit_in hf
      exact areAllIn_any (kOf s) _ _ g c zs.length (agesIn zs y) W' hl (by omega) hgs hP hz)
  generalize allT s zs = test at HT ⊢
  have HG := Lib.hid hg
  clear hI hk
  go_enter Try.func21, Try.ntmps21
  go_wp2_with fail
  refine (marksFor_any _ _).mono ?_
  rw [HK.out]; rintro e w1 ⟨rfl, hb1⟩
  have HS := Lib.hid (blk_new w1 50 (pc pnone))
  have hba := hb1.alloc hb1.size (.cells (pc pnone) 50)
  have hsz1 := hb1.size
  go_wp2_with (first | (refine wpList_store_row rfl _ _ _ rfl _ 50 _ _ rfl rfl HS.out (sizeMarksOf _) (pc_sizes _ _) (pc_one _) ?_; intro w2 hV0 hg2 hsz2) | (go_at_call 42; refine (areAges_any _ _ _ _ zs _ rfl hn (HI.out.kept (hba.grown hg2 (by simp; omega) (by intro k hk; simp at hk; omega)) hbl)).mono ?_; rintro e w' ⟨rfl, rfl⟩) | (refine wpList_load_row rfl _ _ rfl _ 50 _ rfl hV0 961 _ Try.underlying50 (sizeMarksOf _) ?_))
  have hV := Lib.hid hV0
  have hb2 : Below w.heap.size w w2 := hba.grown hg2 (by simp; omega) (by intro k hk; simp at hk; omega)
  have hVl : w1.heap.size < w2.heap.size := hV0.lt
  clear hV0 hg2 hsz2 hba
  refine (yearsForZ_YearsAllKind _ _ _ _ test zs _ HG.out (by omega) (HI.out.kept hb2 hbl) (HT.out _)).mono ?_
  rintro e w3 ⟨v, rfl, ho, hb3⟩
  have hb4 := hb2.trans (hb3.mono hb2.size)
  go_wp2_with fail
  go_ret2
  exact ⟨_, rfl, ho.mono hb2.size, hb4⟩
set_option maxHeartbeats 4000000 in
set_option maxRecDepth 100000 in
theorem yearsAllKind_no (b off c : Nat) (s : ByteArray) (zs : List Int) (w : World) (hn : zs.length ≤ 1048576) (hbl : b < w.heap.size) (hI : Ints w b off zs) (h : (isK s && goodB zs 120) = false) :
    Calls Try.prog 21 #[.slice (some ⟨b, off, none⟩) zs.length c, .string s] w (RetOwnB [] false w) := by
  have HI := Lib.hid hI
  clear hI
  cases hk : isK s with
  | false =>
    have HK := Lib.hid hk
    clear hk h
    go_enter Try.func21, Try.ntmps21
    go_wp2_with fail
    refine (marksFor_any _ _).mono ?_
    rw [HK.out]; rintro e w1 ⟨rfl, hb1⟩
    have HS := Lib.hid (blk_new w1 50 (pc pnone))
    have hba := hb1.alloc hb1.size (.cells (pc pnone) 50)
    have hsz1 := hb1.size
    go_wp2_with (first | (refine wpList_store_row rfl _ _ _ rfl _ 50 _ _ rfl rfl HS.out (sizeMarksOf _) (pc_sizes _ _) (pc_one _) ?_; intro w2 hV0 hg2 hsz2) | (go_at_call 42; refine (areAges_any _ _ _ _ zs _ rfl hn (HI.out.kept (hba.grown hg2 (by simp; omega) (by intro k hk; simp at hk; omega)) hbl)).mono ?_; rintro e w' ⟨rfl, rfl⟩))
    have hV := Lib.hid hV0
    have hb2 : Below w.heap.size w w2 := hba.grown hg2 (by simp; omega) (by intro k hk; simp at hk; omega)
    have hVl : w1.heap.size < w2.heap.size := hV0.lt
    clear hV0 hg2 hsz2 hba
    go_ret2
    exact ⟨_, rfl, own_nil _ _, hb2⟩
  | true =>
    have HK := Lib.hid hk
    have hg : goodB zs 120 = false := by rw [hk] at h; exact h
    clear hk h
    go_enter Try.func21, Try.ntmps21
    go_wp2_with fail
    refine (marksFor_any _ _).mono ?_
    rw [HK.out]; rintro e w1 ⟨rfl, hb1⟩
    have HS := Lib.hid (blk_new w1 50 (pc pnone))
    have hba := hb1.alloc hb1.size (.cells (pc pnone) 50)
    have hsz1 := hb1.size
    go_wp2_with (first | (refine wpList_store_row rfl _ _ _ rfl _ 50 _ _ rfl rfl HS.out (sizeMarksOf _) (pc_sizes _ _) (pc_one _) ?_; intro w2 hV0 hg2 hsz2) | (go_at_call 42; refine (areAges_any _ _ _ _ zs _ rfl hn (HI.out.kept (hba.grown hg2 (by simp; omega) (by intro k hk; simp at hk; omega)) hbl)).mono ?_; rintro e w' ⟨rfl, rfl⟩))
    have hV := Lib.hid hV0
    have hb2 : Below w.heap.size w w2 := hba.grown hg2 (by simp; omega) (by intro k hk; simp at hk; omega)
    have hVl : w1.heap.size < w2.heap.size := hV0.lt
    clear hV0 hg2 hsz2 hba
    go_ret2
    exact ⟨_, rfl, own_nil _ _, hb2⟩
theorem specYearsAllKind_no (b off c : Nat) (s : ByteArray) (zs : List Int) (w : World) (hn : zs.length ≤ 1048576) (hI : Ints w b off zs) (h : (goodB zs 120 && isK s) = false) :
    Calls Try.prog 20 #[.slice (some ⟨b, off, none⟩) zs.length c, .string s] w (RetOwnB [] false w) := by
  go_enter Try.func20, Try.ntmps20
  go_wp2_with (first | (go_at_call 38; refine (kiBoth_any _ _ _ zs s _ hn hI).mono ?_; rintro e w' ⟨rfl, rfl⟩))
  go_ret2
  exact ⟨_, rfl, own_nil _ _, Below.refl _ _⟩
set_option maxHeartbeats 1000000 in
theorem specYearsAllKind_yes (b off c : Nat) (s : ByteArray) (zs : List Int) (w : World) (hn : zs.length ≤ 1048576) (hI : Ints w b off zs) (hk : isK s = true) (hg : goodB zs 120 = true) :
    Calls Try.prog 20 #[.slice (some ⟨b, off, none⟩) zs.length c, .string s] w (RetOwnB (found (allT s zs) zs) true w) := by
  obtain ⟨i0, hi, hz0, hz1, hz2⟩ := info_parts infoInt
  have h8 := goodB_len hg
  have hbl := ints_lt hI (by omega)
  have hbd := loY_bd hg
  have HNN := Lib.hid (show (nY zs : Int) = hiY zs - loY zs + 1 by unfold nY; omega)
  have hn241 : nY zs ≤ 241 := by have := HNN.out; omega
  have HI := Lib.hid hI
  have HZb := Lib.hid (goodB_at hg)
  have HF2 := Lib.hid (fun y (h1 : loY zs ≤ y) (h2 : y ≤ hiY zs) => fit_bd h1 h2)
  have HQ := Lib.hid (fun (W : World) (y : Int) (h1 : loY zs ≤ y) (h2 : y ≤ hiY zs) (hyb : -120 ≤ y ∧ y ≤ 120) (hb : Ints W b off zs) => kiCount_any b off c zs.length y zs s W rfl (by omega) hb hk (fun j hj => HF2.out y h1 h2 j hj) HZb.out hyb)
  have hB : (goodB zs 120 && isK s) = true := by rw [hg, hk]; rfl
  go_enter Try.func20, Try.ntmps20
  go_wp2_with (first | (go_at_call 38; refine (kiBoth_any _ _ _ zs s _ hn hI).mono ?_; rintro e w' ⟨rfl, rfl⟩))
  clear hB
  refine (agRange_any _ _ _ _ zs _ rfl hI hg).mono ?_
  rintro e w1 ⟨rfl, hb⟩
  clear hg hk hI
  go_wp2_with fail
  go_loopw [6, 9] (fun v u wr => ∃ (k : Nat) (y : Int), y = loY zs + k ∧ k ≤ nY zs ∧ u = .int .i64 y ∧ Own w.heap.size wr v (yTo (allT s zs) (loY zs) k) ∧ Below w.heap.size w wr) (fun _ u _ => (121 - intOf u).toNat)
  case atStart => exact ⟨0, loY zs, by simp, Nat.zero_le _, rfl, own_nil _ _, hb⟩
  case round =>
    obtain ⟨k, y, hy, hk, rfl, ho, hbr⟩ := hrel
    have hl1 := yTo_len (allT s zs) (loY zs) k
    have hsz := hbr.size
    have hNo := HNN.out
    by_cases hlt : k < nY zs
    · have hy1 : loY zs ≤ y := by omega
      have hy2 : y ≤ hiY zs := by omega
      have HY := Lib.hid hy
      have hyb : -120 ≤ y ∧ y ≤ 120 := by omega
      clear hy hNo
      skip
      cases ht : (allT s zs) y with
      | true =>
        have HS := Lib.hid (yTo_yes (test := (allT s zs)) (lo := loY zs) (k := k) (by rw [← HY.out]; exact ht))
        rw [← HY.out] at HS
        have hd : (cnt (kOf s) (agesIn zs y) == (zs.length : Int)) = true := ht
        clear ht
        go_wp2_with (first | (go_at_call 40; refine (HQ.out _ y hy1 hy2 hyb (HI.out.kept hbr hbl)).mono ?_; rintro e w' ⟨rfl, rfl⟩) | (at_builtin; refine wpList_append_own _ rfl _ _ 22 rfl w.heap.size 3 i0 (.int .i64 0) 1 8 Try.underlying22 hi hz0 hz1 hz2 rfl (by decide) _ _ _ rfl (World.ownsRow.alloc ho _) ⟨wr.heap.size, 0, none⟩ 1 1 [.int .i64 y] rfl rfl (newCell _ _ _) (oneInt _) ?c3 ?c4 ?c5 ?_))
        case c3 => unfold maxLen; omega
        case c4 => omega
        case c5 => simp; omega
        intro v' w4 hown' hgrow _
        have hb4 := below_push hbr ho hgrow
        have ho4 := own_push hown'
        rw [← HS.out] at ho4
        clear hown' hgrow
        go_wp2
        go_roundw
        case rel => exact ⟨k + 1, y + 1, by have := HY.out; omega, by omega, by go_num, ho4, hb4⟩
        case measure => simp [intOf]; omega
      | false =>
        have HS := Lib.hid (yTo_no (test := (allT s zs)) (lo := loY zs) (k := k) (by rw [← HY.out]; exact ht))
        have hd : (cnt (kOf s) (agesIn zs y) == (zs.length : Int)) = false := ht
        clear ht
        go_wp2_with (first | (go_at_call 40; refine (HQ.out _ y hy1 hy2 hyb (HI.out.kept hbr hbl)).mono ?_; rintro e w' ⟨rfl, rfl⟩))
        go_roundw
        case rel => exact ⟨k + 1, y + 1, by have := HY.out; omega, by omega, by go_num, by rw [HS.out]; exact ho, hbr⟩
        case measure => simp [intOf]; omega
    · have hkn : k = nY zs := by omega
      have hge : hiY zs < y := by omega
      have HF := Lib.hid (show found (allT s zs) zs = yTo (allT s zs) (loY zs) k by rw [hkn]; rfl)
      clear hy hkn hlt hNo
      go_wp2
      go_ret2
      exact ⟨_, rfl, by rw [HF.out]; exact ho, hbr⟩
theorem yearsAllKind_both (zs : List Int) (s : ByteArray) : ∃ rs ok, rs.length ≤ 1048576 ∧
    (∀ b c w, zs.length ≤ 1048576 → b < w.heap.size → Ints w b 0 zs → Calls Try.prog 20 #[.slice (some ⟨b, 0, none⟩) zs.length c, .string s] w (RetOwnB rs ok w)) ∧
    (∀ b c w, zs.length ≤ 1048576 → b < w.heap.size → Ints w b 0 zs → Calls Try.prog 21 #[.slice (some ⟨b, 0, none⟩) zs.length c, .string s] w (RetOwnB rs ok w)) := by
  cases hg : goodB zs 120 with
  | false => exact ⟨[], false, by simp, fun b c w hn hbl hI => specYearsAllKind_no _ _ _ _ _ _ hn hI (by rw [hg]; rfl), fun b c w hn hbl hI => yearsAllKind_no _ _ _ _ _ _ hn hbl hI (by rw [hg, Bool.and_false])⟩
  | true =>
    cases hk : isK s with
    | false => exact ⟨[], false, by simp, fun b c w hn hbl hI => specYearsAllKind_no _ _ _ _ _ _ hn hI (by rw [hg, hk]; rfl), fun b c w hn hbl hI => yearsAllKind_no _ _ _ _ _ _ hn hbl hI (by rw [hk]; rfl)⟩
    | true =>
      have h1 := found_len hg (allT s zs)
      exact ⟨_, true, by omega, fun b c w hn hbl hI => specYearsAllKind_yes _ _ _ _ _ _ hn hI hk hg, fun b c w hn hbl hI => yearsAllKind_yes _ _ _ _ _ _ hn hI hk hg⟩
end Go.Proofs.Ytjabghojenhhiaa
