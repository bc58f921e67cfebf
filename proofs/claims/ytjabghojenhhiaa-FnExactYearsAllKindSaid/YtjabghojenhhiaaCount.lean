/- How many ages are of a kind, and whose: both texts. -/
import Derived.Test.YtjabghojenhhiaaWhoIn
import Derived.Test.YtjabghojenhhiaaSums
import Derived.Test.YtjabghojenhhiaaDig
set_option linter.unusedVariables false
set_option linter.unusedSimpArgs false
namespace Go.Proofs.Ytjabghojenhhiaa
open Go.RowKit

theorem kiBoth_any (b off c : Nat) (zs : List Int) (s : ByteArray) (w : World) (hn : zs.length ≤ 1048576) (hI : Ints w b off zs) :
    Calls Try.prog 38 #[.slice (some ⟨b, off, none⟩) zs.length c, .string s] w (RetSame (.bool (goodB zs 120 && isK s)) w) := by
  cases hg : goodB zs 120 with
  | false =>
    go_enter Try.func38, Try.ntmps38
    go_wp2_with (first | (go_at_call 34; refine (agGood_any _ _ _ _ zs _ rfl hn hI).mono ?_; rintro e w' ⟨rfl, rfl⟩) | (go_at_call 69; refine (kiKind_any _ _).mono ?_; rintro e w' ⟨rfl, rfl⟩))
    go_ret
    exact ⟨rfl, rfl⟩
  | true =>
    go_enter Try.func38, Try.ntmps38
    go_wp2_with (first | (go_at_call 34; refine (agGood_any _ _ _ _ zs _ rfl hn hI).mono ?_; rintro e w' ⟨rfl, rfl⟩) | (go_at_call 69; refine (kiKind_any _ _).mono ?_; rintro e w' ⟨rfl, rfl⟩))
    go_ret
    exact ⟨rfl, rfl⟩
/-- How many of the first k. -/
def cntTo (p : Nat → Bool) (zs : List Int) (k : Nat) : Int := ((yTo (whoT p zs) 0 k).length : Nat)
theorem cntTo_yes {p : Nat → Bool} {zs : List Int} {k : Nat} (h : whoT p zs (0 + (k : Int)) = true) : cntTo p zs (k + 1) = cntTo p zs k + 1 := by
  unfold cntTo; rw [yTo_yes h, List.length_append]; simp
theorem cntTo_no {p : Nat → Bool} {zs : List Int} {k : Nat} (h : whoT p zs (0 + (k : Int)) = false) : cntTo p zs (k + 1) = cntTo p zs k := by
  unfold cntTo; rw [yTo_no h]
theorem cntTo_bd (p : Nat → Bool) (zs : List Int) (k : Nat) : 0 ≤ cntTo p zs k ∧ cntTo p zs k ≤ k := by
  have := yTo_len (whoT p zs) 0 k
  unfold cntTo; omega
set_option maxHeartbeats 1000000 in
theorem kiCount_any (b off c n : Nat) (y : Int) (zs : List Int) (s : ByteArray) (w : World) (hl : zs.length = n) (h8 : n ≤ 8) (hI : Ints w b off zs) (hk : isK s = true) (hz : ∀ j, j < zs.length → 0 ≤ zs.getD j 0 + y ∧ zs.getD j 0 + y ≤ 120) (hzb : ∀ j, j < zs.length → 0 ≤ zs.getD j 0 ∧ zs.getD j 0 ≤ 120) (hyb : -120 ≤ y ∧ y ≤ 120) :
    Calls Try.prog 40 #[.slice (some ⟨b, off, none⟩) n c, .int .i64 y, .string s] w (RetSame (.int .i64 (cnt (kOf s) (agesIn zs y))) w) := by
  have HK := Lib.hid hk
  have HL := Lib.hid hl
  have HI := Lib.hid hI
  have HZ := Lib.hid hz
  have HZb := Lib.hid hzb
  clear hk hl hI hz hzb
  go_enter Try.func40, Try.ntmps40
  go_wp2_with fail
  go_loop [7, 12] (fun u v => ∃ k : Nat, k ≤ n ∧ v = .int .i64 (k : Int) ∧ u = .int .i64 (cntTo (kOf s) (agesIn zs y) k)) (fun _ v => n - (intOf v).toNat)
  case atStart => exact ⟨0, Nat.zero_le _, rfl, rfl⟩
  case round =>
    obtain ⟨k, hk, rfl, rfl⟩ := hrel
    have hcb := cntTo_bd (kOf s) (agesIn zs y) k
    by_cases hlt : k < n
    · have hc := HI.out k (by rw [HL.out]; exact hlt)
      have hz := HZ.out k (by rw [HL.out]; exact hlt)
      have hzb := HZb.out k (by rw [HL.out]; exact hlt)
      have ha := agesIn_getD zs y k (by rw [HL.out]; exact hlt)
      have hT : whoT (kOf s) (agesIn zs y) (0 + (k : Int)) = kOf s (zs.getD k 0 + y).toNat := by
        unfold whoT
        rw [Int.zero_add]
        simp only [Int.toNat_natCast]
        rw [ha]
      generalize zs.getD k 0 = z at hc hz hzb hT
      clear ha
      cases ht : whoT (kOf s) (agesIn zs y) (0 + (k : Int)) with
      | true =>
        have H := Lib.hid (cntTo_yes ht)
        have hq : kOf s (z + y).toNat = true := by rw [← hT]; exact ht
        clear hT ht
        generalize cntTo (kOf s) (agesIn zs y) k = q at *
        go_wp2_with (first | (go_at_call 50; refine (kiIs_int _ _ _ (by omega) (by omega) HK.out).mono ?_; rintro e w' ⟨rfl, rfl⟩))
        go_round
        case rel => exact ⟨k + 1, by omega, by go_num, by rw [H.out]⟩
        case measure => simp [intOf]; omega
      | false =>
        have H := Lib.hid (cntTo_no ht)
        have hq : kOf s (z + y).toNat = false := by rw [← hT]; exact ht
        clear hT ht
        generalize cntTo (kOf s) (agesIn zs y) k = q at *
        go_wp2_with (first | (go_at_call 50; refine (kiIs_int _ _ _ (by omega) (by omega) HK.out).mono ?_; rintro e w' ⟨rfl, rfl⟩))
        go_round
        case rel => exact ⟨k + 1, by omega, by go_num, by rw [H.out]⟩
        case measure => simp [intOf]; omega
    · have hkn : k = n := by omega
      have HE := Lib.hid (show cntTo (kOf s) (agesIn zs y) k = cnt (kOf s) (agesIn zs y) by unfold cntTo cnt whoL; rw [agesIn_length, HL.out, hkn])
      clear hkn
      go_wp2
      go_ret
      exact ⟨retI HE.out, rfl⟩

set_option maxHeartbeats 1000000 in
theorem tellCount_yes (p : Nat → Bool) (b off c : Nat) (y : Int) (zs : List Int) (w : World) (hn : zs.length ≤ 1048576) (hI : Ints w b off zs) (hf : fitB zs y = true) :
    Calls Try.prog 49 #[.slice (some ⟨b, off, none⟩) zs.length c, .int .i64 y, .func (.func 46) #[.agg (pc p)] #[]] w (RetIB (cnt p (agesIn zs y)) true w) := by
  obtain ⟨hg, hy, hl, hz⟩ := fit_in hf
  have HZ := Lib.hid hz
  have HL := Lib.hid hl
  have h8 := goodB_len hg
  clear hz hl
  go_enter Try.func49, Try.ntmps49
  go_wp2_with fail
  refine (householdIn_yes _ _ _ _ zs _ hn hI hf).mono ?_
  rintro e w1 ⟨g, c1, hg1, rfl, hP, hgs, hb⟩
  generalize (agesIn zs y).getD 0 0 = a
  go_wp2_with fail
  refine (countIn_any p _ _ _ _ zs.length (agesIn zs y) _ HL.out (by omega) (by simp; omega) (hP.kept ((Below.refl _ _).alloc (Nat.le_refl _) _) hgs) HZ.out).mono ?_
  rintro e w2 ⟨rfl, hb2⟩
  go_wp2_with fail
  go_ret2
  exact ⟨rfl, (hb.alloc hb.size _).trans (hb2.mono (by simp; have := hb.size; omega))⟩
theorem tellCount_no (p : Nat → Bool) (b off c : Nat) (y : Int) (zs : List Int) (w : World) (hn : zs.length ≤ 1048576) (hbl : b < w.heap.size) (hI : Ints w b off zs) (hf : fitB zs y = false) :
    Calls Try.prog 49 #[.slice (some ⟨b, off, none⟩) zs.length c, .int .i64 y, .func (.func 46) #[.agg (pc p)] #[]] w (RetIB 0 false w) := by
  go_enter Try.func49, Try.ntmps49
  go_wp2_with fail
  refine (householdIn_no _ _ _ _ zs _ hn hbl hI hf).mono ?_
  rintro e w1 ⟨rfl, hb⟩
  go_wp2_with fail
  go_ret2
  exact ⟨rfl, hb.alloc hb.size _⟩
def coR (s : ByteArray) (zs : List Int) (y : Int) : Int := if isK s && fitB zs y then cnt (kOf s) (agesIn zs y) else 0
theorem coR_yes {s : ByteArray} {zs : List Int} {y : Int} (h : isK s = true) (h2 : fitB zs y = true) : coR s zs y = cnt (kOf s) (agesIn zs y) := by unfold coR; rw [h, h2]; rfl
theorem coR_no {s : ByteArray} {zs : List Int} {y : Int} (h : (isK s && fitB zs y) = false) : coR s zs y = 0 := by unfold coR; rw [h]; rfl
set_option maxHeartbeats 4000000 in
set_option maxRecDepth 100000 in
theorem countOfKind_any (b off c : Nat) (y : Int) (s : ByteArray) (zs : List Int) (w : World) (hn : zs.length ≤ 1048576) (hbl : b < w.heap.size) (hI : Ints w b off zs) :
    Calls Try.prog 25 #[.slice (some ⟨b, off, none⟩) zs.length c, .int .i64 y, .string s] w (RetIB (coR s zs y) (isK s && fitB zs y) w) := by
  have hmf : ∀ (fn : Fn) (first cap : Array Value) (w : World), (Instr.makeFunc fn first cap).run Try.prog w = .ok (.func fn first cap) w := fun _ _ _ _ => rfl
  have HI := Lib.hid hI
  clear hI
  cases hk : isK s with
  | false =>
    rw [coR_no (by rw [hk]; rfl), Bool.false_and]
    have HK := Lib.hid hk
    clear hk
    go_enter Try.func25, Try.ntmps25
    go_wp2_with fail
    refine (marksFor_any _ _).mono ?_
    rw [HK.out]; rintro e w1 ⟨rfl, hb1⟩
    have HS := Lib.hid (blk_new w1 50 (pc pnone))
    have hba := hb1.alloc hb1.size (.cells (pc pnone) 50)
    have hsz1 := hb1.size
    go_wp2_with (first | (refine wpList_store_row rfl _ _ _ rfl _ 50 _ _ rfl rfl HS.out (sizeMarksOf _) (pc_sizes _ _) (pc_one _) ?_; intro w2 hV0 hg2 hsz2))
    have hV := Lib.hid hV0
    have hb2 : Below w.heap.size w w2 := hba.grown hg2 (by simp; omega) (by intro k hk; simp at hk; omega)
    have hVl : w1.heap.size < w2.heap.size := hV0.lt
    clear hV0 hg2 hsz2 hba
    go_ret2
    exact ⟨rfl, hb2⟩
  | true =>
    have HK := Lib.hid hk
    rw [Bool.true_and]
    cases hf : fitB zs y with
    | false =>
      rw [coR_no (by rw [hk, hf]; rfl)]
      clear hk
      have HF := Lib.hid hf
      clear hf
      go_enter Try.func25, Try.ntmps25
      go_wp2_with fail
      refine (marksFor_any _ _).mono ?_
      rw [HK.out]; rintro e w1 ⟨rfl, hb1⟩
      have HS := Lib.hid (blk_new w1 50 (pc pnone))
      have hba := hb1.alloc hb1.size (.cells (pc pnone) 50)
      have hsz1 := hb1.size
      go_wp2_with (first | (refine wpList_store_row rfl _ _ _ rfl _ 50 _ _ rfl rfl HS.out (sizeMarksOf _) (pc_sizes _ _) (pc_one _) ?_; intro w2 hV0 hg2 hsz2) | (refine wpList_load_row rfl _ _ rfl _ 50 _ rfl hV0 961 _ Try.underlying50 (sizeMarksOf _) ?_))
      have hb2 : Below w.heap.size w w2 := hba.grown hg2 (by simp; omega) (by intro k hk; simp at hk; omega)
      clear hV0 hg2 hsz2 hba
      refine (tellCount_no _ _ _ _ _ zs _ hn (Nat.lt_of_lt_of_le hbl hb2.size) (HI.out.kept hb2 hbl) HF.out).mono ?_
      rintro e w3 ⟨rfl, hb3⟩
      have hb4 := hb2.trans (hb3.mono hb2.size)
      go_wp2_with fail
      go_ret2
      exact ⟨rfl, hb4⟩
    | true =>
      rw [coR_yes hk hf]
      clear hk
      have HF := Lib.hid hf
      clear hf
      go_enter Try.func25, Try.ntmps25
      go_wp2_with fail
      refine (marksFor_any _ _).mono ?_
      rw [HK.out]; rintro e w1 ⟨rfl, hb1⟩
      have HS := Lib.hid (blk_new w1 50 (pc pnone))
      have hba := hb1.alloc hb1.size (.cells (pc pnone) 50)
      have hsz1 := hb1.size
      go_wp2_with (first | (refine wpList_store_row rfl _ _ _ rfl _ 50 _ _ rfl rfl HS.out (sizeMarksOf _) (pc_sizes _ _) (pc_one _) ?_; intro w2 hV0 hg2 hsz2) | (refine wpList_load_row rfl _ _ rfl _ 50 _ rfl hV0 961 _ Try.underlying50 (sizeMarksOf _) ?_))
      have hb2 : Below w.heap.size w w2 := hba.grown hg2 (by simp; omega) (by intro k hk; simp at hk; omega)
      clear hV0 hg2 hsz2 hba
      refine (tellCount_yes _ _ _ _ _ zs _ hn (HI.out.kept hb2 hbl) HF.out).mono ?_
      rintro e w3 ⟨rfl, hb3⟩
      have hb4 := hb2.trans (hb3.mono hb2.size)
      go_wp2_with fail
      go_ret2
      exact ⟨rfl, hb4⟩
set_option maxHeartbeats 1000000 in
theorem specCountOfKind_any (b off c : Nat) (y : Int) (s : ByteArray) (zs : List Int) (w : World) (hn : zs.length ≤ 1048576) (hbl : b < w.heap.size) (hI : Ints w b off zs) :
    Calls Try.prog 24 #[.slice (some ⟨b, off, none⟩) zs.length c, .int .i64 y, .string s] w (RetIB (coR s zs y) (isK s && fitB zs y) w) := by
  cases hB : goodB zs 120 && isK s with
  | false =>
    have e : (isK s && fitB zs y) = false := by
      cases hk : isK s with
      | false => rfl
      | true =>
        rw [hk, Bool.and_true] at hB
        unfold fitB
        rw [hB]
        rfl
    rw [coR_no e, e]
    clear e
    go_enter Try.func24, Try.ntmps24
    go_wp2_with (first | (go_at_call 38; refine (kiBoth_any _ _ _ zs s _ hn hI).mono ?_; rintro e w' ⟨rfl, rfl⟩))
    go_ret2
    exact ⟨rfl, Below.refl _ _⟩
  | true =>
    have hB2 := hB
    rw [Bool.and_eq_true] at hB2
    obtain ⟨hg, hk⟩ := hB2
    have h8 := goodB_len hg
    cases hf : fitB zs y with
    | false =>
      rw [coR_no (by rw [hk, hf]; rfl), Bool.and_false]
      clear hk hg
      go_enter Try.func24, Try.ntmps24
      go_wp2_with (first | (go_at_call 38; refine (kiBoth_any _ _ _ zs s _ hn hI).mono ?_; rintro e w' ⟨rfl, rfl⟩))
      refine (agFit_any _ _ _ _ zs _ hn hI).mono ?_
      rw [hf]
      rintro e w1 ⟨rfl, hb⟩
      clear hf
      go_wp2_with fail
      go_ret2
      exact ⟨rfl, hb⟩
    | true =>
      rw [coR_yes hk hf, hk, Bool.true_and]
      obtain ⟨_, hyb, hl, hz⟩ := fit_in hf
      have HK := Lib.hid hk
      have HZ := Lib.hid (fun j (hj : j < zs.length) => (show 0 ≤ zs.getD j 0 + y ∧ zs.getD j 0 + y ≤ 120 by have := hz j (by rw [agesIn_length]; exact hj); rw [agesIn_getD zs y j hj] at this; exact this))
      have HZb := Lib.hid (goodB_at hg)
      clear hk hg hl hz
      go_enter Try.func24, Try.ntmps24
      go_wp2_with (first | (go_at_call 38; refine (kiBoth_any _ _ _ zs s _ hn hI).mono ?_; rintro e w' ⟨rfl, rfl⟩))
      refine (agFit_any _ _ _ _ zs _ hn hI).mono ?_
      rw [hf]
      rintro e w1 ⟨rfl, hb⟩
      clear hf
      go_wp2_with fail
      refine (kiCount_any _ _ _ zs.length _ zs _ _ rfl (by omega) (hI.kept hb hbl) HK.out HZ.out HZb.out hyb).mono ?_
      rintro e w2 ⟨rfl, rfl⟩
      go_wp2_with fail
      go_ret2
      exact ⟨rfl, hb⟩
theorem countOfKind_both (zs : List Int) (y : Int) (s : ByteArray) : ∃ r ok,
    (∀ b c w, zs.length ≤ 1048576 → b < w.heap.size → Ints w b 0 zs → Calls Try.prog 24 #[.slice (some ⟨b, 0, none⟩) zs.length c, .int .i64 y, .string s] w (RetIB r ok w)) ∧
    (∀ b c w, zs.length ≤ 1048576 → b < w.heap.size → Ints w b 0 zs → Calls Try.prog 25 #[.slice (some ⟨b, 0, none⟩) zs.length c, .int .i64 y, .string s] w (RetIB r ok w)) :=
  ⟨_, _, fun b c w hn hbl hI => specCountOfKind_any _ _ _ _ _ _ _ hn hbl hI, fun b c w hn hbl hI => countOfKind_any _ _ _ _ _ _ _ hn hbl hI⟩
end Go.Proofs.Ytjabghojenhhiaa
