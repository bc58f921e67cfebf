/- YearsSumKind: both texts. -/
import Derived.Test.YtjabghojenhhiaaAll
import Derived.Test.YtjabghojenhhiaaWhenYearsSumKind
set_option linter.unusedVariables false
set_option linter.unusedSimpArgs false
namespace Go.Proofs.Ytjabghojenhhiaa
open Go.RowKit

theorem sumTo_in (zs : List Int) (y : Int) : ∀ k : Nat, k ≤ zs.length → sumTo (agesIn zs y) k = sumTo zs k + y * k := by
  intro k
  induction k with
  | zero => intro _; rw [sumTo_zero, sumTo_zero]; simp
  | succ k ih =>
    intro hk
    rw [sumTo_succ _ _ (by rw [agesIn_length]; omega), sumTo_succ _ _ (by omega), ih (by omega), agesIn_getD _ _ _ (by omega)]
    have : y * ((k + 1 : Nat) : Int) = y * k + y := by rw [Int.natCast_add, Int.mul_add]; simp
    omega
set_option maxHeartbeats 4000000 in
theorem sumKTest (p : Nat → Bool) (q g c n : Nat) (num age : Int) (ys : List Int) (w : World) (hl : ys.length = n) (h8 : n ≤ 8) (hgs : g < w.heap.size) (hP : Ppl w g ys) (hz : ∀ j, j < ys.length → 0 ≤ ys.getD j 0 ∧ ys.getD j 0 ≤ 120)
    (hq : Blk w q 50 (pc p)) :
    Calls Try.prog 52 #[.agg #[.int .i64 num, .int .i64 age, .slice (some ⟨g, 0, none⟩) n c], .pointer (some ⟨q, 0, none⟩)] w (Ret (.bool (p (sumTo ys n).toNat)) w) := by
  have hbd := sumTo_bd hz n (by omega)
  have hql := hq.lt
  have hqA := Lib.hid (fun A => hq.alloc A)
  have HP := Lib.hid (fun A => hP.kept ((Below.refl w.heap.size w).alloc (Nat.le_refl _) A) hgs)
  have HW := Lib.hid (fun A => (Below.refl w.heap.size w).alloc (Nat.le_refl _) A)
  clear hq hP
  go_enter Try.func52, Try.ntmps52
  go_wp2_with fail
  refine (sum_len _ _ _ _ n ys _ hl h8 (by simp; omega) (HP.out _) hz).mono ?_
  rintro e w2 ⟨rfl, hb⟩
  obtain ⟨m, hm⟩ : ∃ m : Nat, sumTo ys n = (m : Int) := ⟨(sumTo ys n).toNat, by omega⟩
  have HM := Lib.hid hm
  rw [hm] at hbd ⊢
  clear hm hz hl
  have hm1 : m < 961 := by omega
  have hc := (((hqA.out _).kept hb (by simp; omega)).cell m).trans (pc_get p m hm1)
  have i0' : (0 : Int) ≤ (m : Int) := by omega
  have i1' : (m : Int) < 961 := by omega
  have hb' := (HW.out _).trans (hb.mono (by simp))
  have HR : Hid (p (sumTo ys n).toNat = p m) := Lib.hid (by rw [HM.out]; rfl)
  generalize p m = r at hc HR
  go_wp2_with fail
  go_ret
  exact ⟨retB HR.out.symm, hb'⟩
def sumKT (s : ByteArray) (zs : List Int) (y : Int) : Bool := kOf s (sumTo (agesIn zs y) zs.length).toNat
set_option maxHeartbeats 4000000 in
set_option maxRecDepth 100000 in
theorem yearsSumKind_yes (b off c : Nat) (s : ByteArray) (zs : List Int) (w : World) (hn : zs.length ≤ 1048576) (hI : Ints w b off zs) (hk : isK s = true) (hg : goodB zs 120 = true) :
    Calls Try.prog 27 #[.slice (some ⟨b, off, none⟩) zs.length c, .string s] w (RetOwnB (found (sumKT s zs) zs) true w) := by
  have hmf : ∀ (fn : Fn) (first cap : Array Value) (w : World), (Instr.makeFunc fn first cap).run Try.prog w = .ok (.func fn first cap) w := fun _ _ _ _ => rfl
  have h8 := goodB_len hg
  have hbl := ints_lt hI (by omega)
  have HI := Lib.hid hI
  have HK := Lib.hid hk
  have HT := Lib.hid (fun (q : Nat) (W0 : World) (hq : Blk W0 q 50 (pc (kOf s))) => show TestsYearsSumKind (.pointer (some ⟨q, 0, none⟩)) 0 zs (sumKT s zs) W0 from
    fun y h1 h2 g c W' hB hgs hP => by
      have hf : fitB zs y = true := by unfold fitB; rw [hg, inB_true h1 h2]; rfl
      obtain ⟨_, _, hl, hz⟩ := fit_in hf
      exact sumKTest (kOf s) q g c zs.length _ _ (agesIn zs y) W' hl (by omega) hgs hP hz (hq.kept hB hq.lt))
  generalize sumKT s zs = test at HT ⊢
  have HG := Lib.hid hg
  clear hI hk
  go_enter Try.func27, Try.ntmps27
  go_wp2_with fail
  refine (marksFor_any _ _).mono ?_
  rw [HK.out]; rintro e w1 ⟨rfl, hb1⟩
  have HS := Lib.hid (blk_new w1 50 (pc pnone))
  have hba := hb1.alloc hb1.size (.cells (pc pnone) 50)
  have hsz1 := hb1.size
  go_wp2_with (first | (refine wpList_store_row rfl _ _ _ rfl _ 50 _ _ rfl rfl HS.out (sizeMarksOf _) (pc_sizes _ _) (pc_one _) ?_; intro w2 hV0 hg2 hsz2) | (go_at_call 42; refine (areAges_any _ _ _ _ zs _ rfl hn (HI.out.kept (hba.grown hg2 (by simp; omega) (by intro k hk; simp at hk; omega)) hbl)).mono ?_; rintro e w' ⟨rfl, rfl⟩))
  have hV := Lib.hid hV0
  have hb2 : Below w.heap.size w w2 := hba.grown hg2 (by simp; omega) (by intro k hk; simp at hk; omega)
  have hVl : w1.heap.size < w2.heap.size := hV0.lt
  clear hV0 hg2 hsz2 hba
  refine (yearsForZ_YearsSumKind _ _ _ _ test zs _ HG.out (by omega) (HI.out.kept hb2 hbl) (HT.out _ _ hV.out)).mono ?_
  rintro e w3 ⟨v, rfl, ho, hb3⟩
  have hb4 := hb2.trans (hb3.mono hb2.size)
  go_wp2_with fail
  go_ret2
  exact ⟨_, rfl, ho.mono hb2.size, hb4⟩
set_option maxHeartbeats 4000000 in
set_option maxRecDepth 100000 in
theorem yearsSumKind_no (b off c : Nat) (s : ByteArray) (zs : List Int) (w : World) (hn : zs.length ≤ 1048576) (hbl : b < w.heap.size) (hI : Ints w b off zs) (h : (isK s && goodB zs 120) = false) :
    Calls Try.prog 27 #[.slice (some ⟨b, off, none⟩) zs.length c, .string s] w (RetOwnB [] false w) := by
  have HI := Lib.hid hI
  clear hI
  cases hk : isK s with
  | false =>
    have HK := Lib.hid hk
    clear hk h
    go_enter Try.func27, Try.ntmps27
    go_wp2_with fail
    refine (marksFor_any _ _).mono ?_
    rw [HK.out]; rintro e w1 ⟨rfl, hb1⟩
    have HS := Lib.hid (blk_new w1 50 (pc pnone))
    have hba := hb1.alloc hb1.size (.cells (pc pnone) 50)
    have hsz1 := hb1.size
    go_wp2_with (first | (refine wpList_store_row rfl _ _ _ rfl _ 50 _ _ rfl rfl HS.out (sizeMarksOf _) (pc_sizes _ _) (pc_one _) ?_; intro w2 hV0 hg2 hsz2) | (go_at_call 42; refine (areAges_any _ _ _ _ zs _ rfl hn (HI.out.kept (hba.grown hg2 (by simp; omega) (by intro k hk; simp at hk; omega)) hbl)).mono ?_; rintro e w' ⟨rfl, rfl⟩))
    have hV := Lib.hid hV0
    have hb2 : Below w.heap.size w w2 := hba.grown hg2 (by simp; omega) (by intro k hk; simp at hk; omega)
    have hVl : w1.heap.size < w2.heap.size := hV0.lt
    clear hV0 hg2 hsz2 hba
    go_ret2
    exact ⟨_, rfl, own_nil _ _, hb2⟩
  | true =>
    have HK := Lib.hid hk
    have hg : goodB zs 120 = false := by rw [hk] at h; exact h
    clear hk h
    go_enter Try.func27, Try.ntmps27
    go_wp2_with fail
    refine (marksFor_any _ _).mono ?_
    rw [HK.out]; rintro e w1 ⟨rfl, hb1⟩
    have HS := Lib.hid (blk_new w1 50 (pc pnone))
    have hba := hb1.alloc hb1.size (.cells (pc pnone) 50)
    have hsz1 := hb1.size
    go_wp2_with (first | (refine wpList_store_row rfl _ _ _ rfl _ 50 _ _ rfl rfl HS.out (sizeMarksOf _) (pc_sizes _ _) (pc_one _) ?_; intro w2 hV0 hg2 hsz2) | (go_at_call 42; refine (areAges_any _ _ _ _ zs _ rfl hn (HI.out.kept (hba.grown hg2 (by simp; omega) (by intro k hk; simp at hk; omega)) hbl)).mono ?_; rintro e w' ⟨rfl, rfl⟩))
    have hV := Lib.hid hV0
    have hb2 : Below w.heap.size w w2 := hba.grown hg2 (by simp; omega) (by intro k hk; simp at hk; omega)
    have hVl : w1.heap.size < w2.heap.size := hV0.lt
    clear hV0 hg2 hsz2 hba
    go_ret2
    exact ⟨_, rfl, own_nil _ _, hb2⟩
theorem specYearsSumKind_no (b off c : Nat) (s : ByteArray) (zs : List Int) (w : World) (hn : zs.length ≤ 1048576) (hI : Ints w b off zs) (h : (goodB zs 120 && isK s) = false) :
    Calls Try.prog 26 #[.slice (some ⟨b, off, none⟩) zs.length c, .string s] w (RetOwnB [] false w) := by
  go_enter Try.func26, Try.ntmps26
  go_wp2_with (first | (go_at_call 38; refine (kiBoth_any _ _ _ zs s _ hn hI).mono ?_; rintro e w' ⟨rfl, rfl⟩))
  go_ret2
  exact ⟨_, rfl, own_nil _ _, Below.refl _ _⟩
set_option maxHeartbeats 1000000 in
theorem specYearsSumKind_yes (b off c : Nat) (s : ByteArray) (zs : List Int) (w : World) (hn : zs.length ≤ 1048576) (hI : Ints w b off zs) (hk : isK s = true) (hg : goodB zs 120 = true) :
    Calls Try.prog 26 #[.slice (some ⟨b, off, none⟩) zs.length c, .string s] w (RetOwnB (found (sumKT s zs) zs) true w) := by
  obtain ⟨i0, hi, hz0, hz1, hz2⟩ := info_parts infoInt
  have h8 := goodB_len hg
  have hbl := ints_lt hI (by omega)
  have hbd := loY_bd hg
  have HNN := Lib.hid (show (nY zs : Int) = hiY zs - loY zs + 1 by unfold nY; omega)
  have hn241 : nY zs ≤ 241 := by have := HNN.out; omega
  have HI := Lib.hid hI
  have HK := Lib.hid hk
  have HZb := Lib.hid (goodB_at hg)
  have HSum := Lib.hid (fun (y : Int) (h1 : loY zs ≤ y) (h2 : y ≤ hiY zs) => (show 0 ≤ sumTo zs zs.length + y * (zs.length : Int) ∧ sumTo zs zs.length + y * (zs.length : Int) ≤ 960 ∧ sumKT s zs y = kOf s (sumTo zs zs.length + y * (zs.length : Int)).toNat by
    have hf : fitB zs y = true := by unfold fitB; rw [hg, inB_true h1 h2]; rfl
    obtain ⟨_, _, hl, hz⟩ := fit_in hf
    have h3 := sumTo_bd hz zs.length (by omega)
    have h4 := sumTo_in zs y zs.length (Nat.le_refl _)
    unfold sumKT
    rw [h4] at h3 ⊢
    exact ⟨h3.1, by omega, rfl⟩))
  have HS0 := sumTo_bd (goodB_at hg) zs.length (Nat.le_refl _)
  have hB : (goodB zs 120 && isK s) = true := by rw [hg, hk]; rfl
  go_enter Try.func26, Try.ntmps26
  go_wp2_with (first | (go_at_call 38; refine (kiBoth_any _ _ _ zs s _ hn hI).mono ?_; rintro e w' ⟨rfl, rfl⟩))
  clear hB
  refine (agRange_any _ _ _ _ zs _ rfl hI hg).mono ?_
  rintro e w1 ⟨rfl, hb⟩
  clear hg hk hI
  go_wp2_with fail
  go_loopw [6, 9] (fun v u wr => ∃ (k : Nat) (y : Int), y = loY zs + k ∧ k ≤ nY zs ∧ u = .int .i64 y ∧ Own w.heap.size wr v (yTo (sumKT s zs) (loY zs) k) ∧ Below w.heap.size w wr) (fun _ u _ => (121 - intOf u).toNat)
  case atStart => exact ⟨0, loY zs, by simp, Nat.zero_le _, rfl, own_nil _ _, hb⟩
  case round =>
    obtain ⟨k, y, hy, hk, rfl, ho, hbr⟩ := hrel
    have hl1 := yTo_len (sumKT s zs) (loY zs) k
    have hsz := hbr.size
    have hNo := HNN.out
    by_cases hlt : k < nY zs
    · have hy1 : loY zs ≤ y := by omega
      have hy2 : y ≤ hiY zs := by omega
      have HY := Lib.hid hy
      have hyb : -120 ≤ y ∧ y ≤ 120 := by omega
      clear hy hNo
      obtain ⟨k1, k2, k3⟩ := HSum.out y hy1 hy2
      have K3 := Lib.hid k3
      clear k3
      cases ht : (sumKT s zs) y with
      | true =>
        have HS := Lib.hid (yTo_yes (test := (sumKT s zs)) (lo := loY zs) (k := k) (by rw [← HY.out]; exact ht))
        rw [← HY.out] at HS
        rw [K3.out] at ht
        go_wp2_with (first | (go_at_call 51; refine (agSum_any _ _ _ zs _ (by omega) (HI.out.kept hbr hbl) HZb.out).mono ?_; rintro e w' ⟨rfl, rfl⟩) | (go_at_call 50; refine (kiIs_int _ _ _ (by omega) (by omega) HK.out).mono ?_; rintro e w' ⟨rfl, rfl⟩) | (at_builtin; refine wpList_append_own _ rfl _ _ 22 rfl w.heap.size 3 i0 (.int .i64 0) 1 8 Try.underlying22 hi hz0 hz1 hz2 rfl (by decide) _ _ _ rfl (World.ownsRow.alloc ho _) ⟨wr.heap.size, 0, none⟩ 1 1 [.int .i64 y] rfl rfl (newCell _ _ _) (oneInt _) ?c3 ?c4 ?c5 ?_))
        case c3 => unfold maxLen; omega
        case c4 => omega
        case c5 => simp; omega
        intro v' w4 hown' hgrow _
        have hb4 := below_push hbr ho hgrow
        have ho4 := own_push hown'
        rw [← HS.out] at ho4
        clear hown' hgrow
        go_wp2
        go_roundw
        case rel => exact ⟨k + 1, y + 1, by have := HY.out; omega, by omega, by go_num, ho4, hb4⟩
        case measure => simp [intOf]; omega
      | false =>
        have HS := Lib.hid (yTo_no (test := (sumKT s zs)) (lo := loY zs) (k := k) (by rw [← HY.out]; exact ht))
        rw [K3.out] at ht
        go_wp2_with (first | (go_at_call 51; refine (agSum_any _ _ _ zs _ (by omega) (HI.out.kept hbr hbl) HZb.out).mono ?_; rintro e w' ⟨rfl, rfl⟩) | (go_at_call 50; refine (kiIs_int _ _ _ (by omega) (by omega) HK.out).mono ?_; rintro e w' ⟨rfl, rfl⟩))
        go_roundw
        case rel => exact ⟨k + 1, y + 1, by have := HY.out; omega, by omega, by go_num, by rw [HS.out]; exact ho, hbr⟩
        case measure => simp [intOf]; omega
    · have hkn : k = nY zs := by omega
      have hge : hiY zs < y := by omega
      have HF := Lib.hid (show found (sumKT s zs) zs = yTo (sumKT s zs) (loY zs) k by rw [hkn]; rfl)
      clear hy hkn hlt hNo
      go_wp2
      go_ret2
      exact ⟨_, rfl, by rw [HF.out]; exact ho, hbr⟩
theorem yearsSumKind_both (zs : List Int) (s : ByteArray) : ∃ rs ok, rs.length ≤ 1048576 ∧
    (∀ b c w, zs.length ≤ 1048576 → b < w.heap.size → Ints w b 0 zs → Calls Try.prog 26 #[.slice (some ⟨b, 0, none⟩) zs.length c, .string s] w (RetOwnB rs ok w)) ∧
    (∀ b c w, zs.length ≤ 1048576 → b < w.heap.size → Ints w b 0 zs → Calls Try.prog 27 #[.slice (some ⟨b, 0, none⟩) zs.length c, .string s] w (RetOwnB rs ok w)) := by
  cases hg : goodB zs 120 with
  | false => exact ⟨[], false, by simp, fun b c w hn hbl hI => specYearsSumKind_no _ _ _ _ _ _ hn hI (by rw [hg]; rfl), fun b c w hn hbl hI => yearsSumKind_no _ _ _ _ _ _ hn hbl hI (by rw [hg, Bool.and_false])⟩
  | true =>
    cases hk : isK s with
    | false => exact ⟨[], false, by simp, fun b c w hn hbl hI => specYearsSumKind_no _ _ _ _ _ _ hn hI (by rw [hg, hk]; rfl), fun b c w hn hbl hI => yearsSumKind_no _ _ _ _ _ _ hn hbl hI (by rw [hk]; rfl)⟩
    | true =>
      have h1 := found_len hg (sumKT s zs)
      exact ⟨_, true, by omega, fun b c w hn hbl hI => specYearsSumKind_yes _ _ _ _ _ _ hn hI hk hg, fun b c w hn hbl hI => yearsSumKind_yes _ _ _ _ _ _ hn hI hk hg⟩
end Go.Proofs.Ytjabghojenhhiaa
