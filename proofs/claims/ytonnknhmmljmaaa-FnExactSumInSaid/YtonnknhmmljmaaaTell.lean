/- Sums and products in other years, both texts; the mean of the ages. -/
import Derived.Test.YtonnknhmmljmaaaSums
set_option linter.unusedVariables false
set_option linter.unusedSimpArgs false
namespace Go.Proofs.Ytonnknhmmljmaaa
open Go.RowKit

theorem fit_in {zs : List Int} {y : Int} (hf : fitB zs y = true) : (goodB zs 120 = true) ∧ (-120 ≤ y ∧ y ≤ 120) ∧ (agesIn zs y).length = zs.length ∧ ∀ j, j < (agesIn zs y).length → 0 ≤ (agesIn zs y).getD j 0 ∧ (agesIn zs y).getD j 0 ≤ 120 := by
  unfold fitB at hf
  rw [Bool.and_eq_true, inB_iff] at hf
  refine ⟨hf.1, ?_, agesIn_length _ _, fun j hj => ?_⟩
  · have := loY_bd hf.1; omega
  · rw [agesIn_length] at hj
    rw [agesIn_getD _ _ _ hj]
    exact fit_bd hf.2.1 hf.2.2 j hj

theorem sum_len (num age : Int) (g c n : Nat) (zs : List Int) (w : World) (hl : zs.length = n) (h8 : n ≤ 8) (hgs : g < w.heap.size) (hP : Ppl w g zs) (hz : ∀ j, j < zs.length → 0 ≤ zs.getD j 0 ∧ zs.getD j 0 ≤ 120) :
    Calls Try.prog 54 #[.agg #[.int .i64 num, .int .i64 age, .slice (some ⟨g, 0, none⟩) n c]] w (Ret (.int .i64 (sumTo zs n)) w) := by
  subst hl
  exact sum_any num age g c zs w h8 hgs hP hz

set_option maxHeartbeats 1000000 in
theorem tellSum_yes (b off c : Nat) (y : Int) (zs : List Int) (w : World) (hn : zs.length ≤ 1048576) (hI : Ints w b off zs) (hf : fitB zs y = true) :
    Calls Try.prog 53 #[.slice (some ⟨b, off, none⟩) zs.length c, .int .i64 y, .func (.func 54) #[] #[]] w (RetIB (sumTo (agesIn zs y) zs.length) true w) := by
  obtain ⟨hg, hy, hl, hz⟩ := fit_in hf
  have HZ := Lib.hid hz
  have HL := Lib.hid hl
  have h8 := goodB_len hg
  clear hz hl
  go_enter Try.func53, Try.ntmps53
  go_wp2_with fail
  refine (householdIn_yes _ _ _ _ zs _ hn hI hf).mono ?_
  rintro e w1 ⟨g, c1, hg1, rfl, hP, hgs, hb⟩
  generalize (agesIn zs y).getD 0 0 = a
  go_wp2_with fail
  refine (sum_len _ _ _ _ zs.length (agesIn zs y) _ HL.out (by omega) (by simp; omega) (hP.kept ((Below.refl _ _).alloc (Nat.le_refl _) _) hgs) HZ.out).mono ?_
  rintro e w2 ⟨rfl, hb2⟩
  go_wp2_with fail
  go_ret2
  exact ⟨rfl, (hb.alloc hb.size _).trans (hb2.mono (by simp; have := hb.size; omega))⟩
theorem tellSum_no (b off c : Nat) (y : Int) (zs : List Int) (w : World) (hn : zs.length ≤ 1048576) (hbl : b < w.heap.size) (hI : Ints w b off zs) (hf : fitB zs y = false) :
    Calls Try.prog 53 #[.slice (some ⟨b, off, none⟩) zs.length c, .int .i64 y, .func (.func 54) #[] #[]] w (RetIB 0 false w) := by
  go_enter Try.func53, Try.ntmps53
  go_wp2_with fail
  refine (householdIn_no _ _ _ _ zs _ hn hbl hI hf).mono ?_
  rintro e w1 ⟨rfl, hb⟩
  go_wp2_with fail
  go_ret2
  exact ⟨rfl, hb.alloc hb.size _⟩

theorem product_len (num age : Int) (g c n : Nat) (zs : List Int) (w : World) (hl : zs.length = n) (h8 : n ≤ 8) (hgs : g < w.heap.size) (hP : Ppl w g zs) (hz : ∀ j, j < zs.length → 0 ≤ zs.getD j 0 ∧ zs.getD j 0 ≤ 120) :
    Calls Try.prog 56 #[.agg #[.int .i64 num, .int .i64 age, .slice (some ⟨g, 0, none⟩) n c]] w (Ret (.int .i64 (prodTo zs n)) w) := by
  subst hl
  exact product_any num age g c zs w h8 hgs hP hz

set_option maxHeartbeats 1000000 in
theorem tellProd_yes (b off c : Nat) (y : Int) (zs : List Int) (w : World) (hn : zs.length ≤ 1048576) (hI : Ints w b off zs) (hf : fitB zs y = true) :
    Calls Try.prog 53 #[.slice (some ⟨b, off, none⟩) zs.length c, .int .i64 y, .func (.func 56) #[] #[]] w (RetIB (prodTo (agesIn zs y) zs.length) true w) := by
  obtain ⟨hg, hy, hl, hz⟩ := fit_in hf
  have HZ := Lib.hid hz
  have HL := Lib.hid hl
  have h8 := goodB_len hg
  clear hz hl
  go_enter Try.func53, Try.ntmps53
  go_wp2_with fail
  refine (householdIn_yes _ _ _ _ zs _ hn hI hf).mono ?_
  rintro e w1 ⟨g, c1, hg1, rfl, hP, hgs, hb⟩
  generalize (agesIn zs y).getD 0 0 = a
  go_wp2_with fail
  refine (product_len _ _ _ _ zs.length (agesIn zs y) _ HL.out (by omega) (by simp; omega) (hP.kept ((Below.refl _ _).alloc (Nat.le_refl _) _) hgs) HZ.out).mono ?_
  rintro e w2 ⟨rfl, hb2⟩
  go_wp2_with fail
  go_ret2
  exact ⟨rfl, (hb.alloc hb.size _).trans (hb2.mono (by simp; have := hb.size; omega))⟩
theorem tellProd_no (b off c : Nat) (y : Int) (zs : List Int) (w : World) (hn : zs.length ≤ 1048576) (hbl : b < w.heap.size) (hI : Ints w b off zs) (hf : fitB zs y = false) :
    Calls Try.prog 53 #[.slice (some ⟨b, off, none⟩) zs.length c, .int .i64 y, .func (.func 56) #[] #[]] w (RetIB 0 false w) := by
  go_enter Try.func53, Try.ntmps53
  go_wp2_with fail
  refine (householdIn_no _ _ _ _ zs _ hn hbl hI hf).mono ?_
  rintro e w1 ⟨rfl, hb⟩
  go_wp2_with fail
  go_ret2
  exact ⟨rfl, hb.alloc hb.size _⟩

theorem sumIn_yes (b off c : Nat) (y : Int) (zs : List Int) (w : World) (hn : zs.length ≤ 1048576) (hI : Ints w b off zs) (hf : fitB zs y = true) :
    Calls Try.prog 24 #[.slice (some ⟨b, off, none⟩) zs.length c, .int .i64 y] w (RetIB (sumTo (agesIn zs y) zs.length) true w) := by
  go_enter Try.func24, Try.ntmps24
  go_wp2_with fail
  refine (tellSum_yes _ _ _ _ zs _ hn hI hf).mono ?_
  rintro e w1 ⟨rfl, hb⟩
  go_wp2_with fail
  go_ret2
  exact ⟨rfl, hb⟩
theorem sumIn_no (b off c : Nat) (y : Int) (zs : List Int) (w : World) (hn : zs.length ≤ 1048576) (hbl : b < w.heap.size) (hI : Ints w b off zs) (hf : fitB zs y = false) :
    Calls Try.prog 24 #[.slice (some ⟨b, off, none⟩) zs.length c, .int .i64 y] w (RetIB 0 false w) := by
  go_enter Try.func24, Try.ntmps24
  go_wp2_with fail
  refine (tellSum_no _ _ _ _ zs _ hn hbl hI hf).mono ?_
  rintro e w1 ⟨rfl, hb⟩
  go_wp2_with fail
  go_ret2
  exact ⟨rfl, hb⟩

theorem productIn_yes (b off c : Nat) (y : Int) (zs : List Int) (w : World) (hn : zs.length ≤ 1048576) (hI : Ints w b off zs) (hf : fitB zs y = true) :
    Calls Try.prog 26 #[.slice (some ⟨b, off, none⟩) zs.length c, .int .i64 y] w (RetIB (prodTo (agesIn zs y) zs.length) true w) := by
  go_enter Try.func26, Try.ntmps26
  go_wp2_with fail
  refine (tellProd_yes _ _ _ _ zs _ hn hI hf).mono ?_
  rintro e w1 ⟨rfl, hb⟩
  go_wp2_with fail
  go_ret2
  exact ⟨rfl, hb⟩
theorem productIn_no (b off c : Nat) (y : Int) (zs : List Int) (w : World) (hn : zs.length ≤ 1048576) (hbl : b < w.heap.size) (hI : Ints w b off zs) (hf : fitB zs y = false) :
    Calls Try.prog 26 #[.slice (some ⟨b, off, none⟩) zs.length c, .int .i64 y] w (RetIB 0 false w) := by
  go_enter Try.func26, Try.ntmps26
  go_wp2_with fail
  refine (tellProd_no _ _ _ _ zs _ hn hbl hI hf).mono ?_
  rintro e w1 ⟨rfl, hb⟩
  go_wp2_with fail
  go_ret2
  exact ⟨rfl, hb⟩

set_option maxHeartbeats 400000 in
theorem agFit_any (b off c : Nat) (y : Int) (zs : List Int) (w : World) (hn : zs.length ≤ 1048576) (hI : Ints w b off zs) :
    Calls Try.prog 48 #[.slice (some ⟨b, off, none⟩) zs.length c, .int .i64 y] w (Ret (.bool (fitB zs y)) w) := by
  cases hg : goodB zs 120 with
  | false =>
    have HF := Lib.hid (show fitB zs y = false by unfold fitB; rw [hg]; rfl)
    go_enter Try.func48, Try.ntmps48
    go_wp2_with (first | (go_at_call 46; refine (agGood_any _ _ _ _ zs _ rfl hn hI).mono ?_; rintro e w' ⟨rfl, rfl⟩))
    go_ret
    exact ⟨by rw [HF.out]; rfl, Below.refl _ _⟩
  | true =>
    have HF := Lib.hid (show fitB zs y = inB y (loY zs) (hiY zs) by unfold fitB; rw [hg]; rfl)
    go_enter Try.func48, Try.ntmps48
    go_wp2_with (first | (go_at_call 46; refine (agGood_any _ _ _ _ zs _ rfl hn hI).mono ?_; rintro e w' ⟨rfl, rfl⟩))
    refine (agRange_any _ _ _ _ zs _ rfl hI hg).mono ?_
    rintro e w1 ⟨rfl, hb⟩
    generalize loY zs = lo at HF ⊢
    generalize hiY zs = hi at HF ⊢
    go_wp2_with fail
    refine (l1In_any _ _ _ _).mono ?_
    rintro e w' ⟨rfl, rfl⟩
    go_wp2_with fail
    go_ret
    exact ⟨by rw [HF.out]; rfl, hb⟩

set_option maxHeartbeats 400000 in
theorem agIn_any (b off c : Nat) (y : Int) (zs : List Int) (w : World) (hbl : b < w.heap.size) (hI : Ints w b off zs) (hg : goodB zs 120 = true) (hy : -120 ≤ y ∧ y ≤ 120) :
    Calls Try.prog 49 #[.slice (some ⟨b, off, none⟩) zs.length c, .int .i64 y] w (RetOwn (agesIn zs y) w) := by
  obtain ⟨i0, hi, hz0, hz1, hz2⟩ := info_parts infoInt
  have h8 := goodB_len hg
  go_enter Try.func49, Try.ntmps49
  have hzb := Lib.hid (goodB_at hg)
  go_wp2
  go_loopw [5, 10] (fun v i wr => ∃ k : Nat, k ≤ zs.length ∧ i = .int .i64 k ∧ Own w.heap.size wr v (mapTo (· + y) zs k) ∧ Below w.heap.size w wr) (fun _ i _ => zs.length - (intOf i).toNat)
  case atStart => exact ⟨0, Nat.zero_le _, rfl, own_nil _ _, Below.refl _ _⟩
  case round =>
    obtain ⟨k, hk, rfl, ho, hb⟩ := hrel
    by_cases hlt : k < zs.length
    · have hc := (hI.kept hb hbl) k (by omega)
      have hz := hzb.out k (by omega)
      have HT := Lib.hid (mapTo_succ (· + y) zs k (by omega))
      have hs := mapTo_len (· + y) zs k
      have hsz := hb.size
      generalize zs.getD k 0 = z at hc hz HT
      go_wp2_with (first | (at_builtin; refine wpList_append_own _ rfl _ _ 22 rfl w.heap.size 3 i0 (.int .i64 0) 1 8 Try.underlying22 hi hz0 hz1 hz2 rfl (by decide) _ _ _ rfl (World.ownsRow.alloc ho _) ⟨wr.heap.size, 0, none⟩ 1 1 [.int .i64 (z + y)] rfl rfl (newCell _ _ _) (oneInt _) ?c3 ?c4 ?c5 ?_))
      case c3 => unfold maxLen; omega
      case c4 => omega
      case c5 => simp; omega
      intro v' w1 hown' hgrow _
      have hb1 := below_push hb ho hgrow
      have ho1 := own_push hown'
      rw [← HT.out] at ho1
      clear hown' hgrow hc
      go_wp2
      go_roundw
      case rel => exact ⟨k + 1, by omega, by go_num, ho1, hb1⟩
      case measure => simp [intOf]; omega
    · have hkn : k = zs.length := by omega
      clear hlt hk
      subst hkn
      rw [mapTo_all _ _ _ (by omega)] at ho
      go_wp2
      go_ret
      exact ⟨_, rfl, ho, hb⟩

theorem ownNonempty {B : Nat} {w : World} {v : Value} {zs : List Int} (h : Own B w v zs) (h0 : 0 < zs.length) : ∃ g c, v = .slice (some ⟨g, 0, none⟩) zs.length c ∧ B ≤ g ∧ g < w.heap.size ∧ Ints w g 0 zs := by
  rcases h.cases with ⟨_, rfl⟩ | ⟨g, c, rfl, h1, h2, _, _, h3, _⟩
  · simp at h0
  · exact ⟨g, c, rfl, h1, h2, h3⟩

set_option maxHeartbeats 400000 in
theorem agSum_any (b off c : Nat) (zs : List Int) (w : World) (h8 : zs.length ≤ 8) (hI : Ints w b off zs) (hz : ∀ j, j < zs.length → 0 ≤ zs.getD j 0 ∧ zs.getD j 0 ≤ 120) :
    Calls Try.prog 52 #[.slice (some ⟨b, off, none⟩) zs.length c] w (RetSame (.int .i64 (sumTo zs zs.length)) w) := by
  have HZ := Lib.hid hz
  clear hz
  go_enter Try.func52, Try.ntmps52
  go_wp2
  go_loop [3, 8] (fun s v => ∃ k : Nat, k ≤ zs.length ∧ v = .int .i64 k ∧ s = .int .i64 (sumTo zs k)) (fun _ v => zs.length - (intOf v).toNat)
  case atStart => exact ⟨0, Nat.zero_le _, rfl, rfl⟩
  case round =>
    obtain ⟨k, hk, rfl, rfl⟩ := hrel
    by_cases hlt : k < zs.length
    · skip
      have m1 := sumTo_bd HZ.out k (by omega)
      have hz := HZ.out k hlt
      have hc := hI k hlt
      have S1 := Lib.hid (sumTo_succ zs k hlt)
      generalize sumTo zs k = x at m1 S1 ⊢
      generalize zs.getD k 0 = z at hz hc S1
      go_wp2
      go_round
      case rel => exact ⟨k + 1, by omega, by go_num, by rw [S1.out]⟩
      case measure => simp [intOf]; omega
    · have hkn : k = zs.length := by omega
      clear hlt hk
      subst hkn
      go_wp2
      go_ret
      exact ⟨rfl, rfl⟩
set_option maxHeartbeats 400000 in
theorem agProduct_any (b off c : Nat) (zs : List Int) (w : World) (h8 : zs.length ≤ 8) (hI : Ints w b off zs) (hz : ∀ j, j < zs.length → 0 ≤ zs.getD j 0 ∧ zs.getD j 0 ≤ 120) :
    Calls Try.prog 55 #[.slice (some ⟨b, off, none⟩) zs.length c] w (RetSame (.int .i64 (prodTo zs zs.length)) w) := by
  have HZ := Lib.hid hz
  clear hz
  go_enter Try.func55, Try.ntmps55
  go_wp2
  go_loop [3, 8] (fun s v => ∃ k : Nat, k ≤ zs.length ∧ v = .int .i64 k ∧ s = .int .i64 (prodTo zs k)) (fun _ v => zs.length - (intOf v).toNat)
  case atStart => exact ⟨0, Nat.zero_le _, rfl, rfl⟩
  case round =>
    obtain ⟨k, hk, rfl, rfl⟩ := hrel
    by_cases hlt : k < zs.length
    · skip
      have m2 := prod_fits h8 HZ.out (k + 1) (by omega)
      have hc := hI k hlt
      have S1 := Lib.hid (prodTo_succ zs k hlt)
      rw [prodTo_succ zs k hlt] at m2
      generalize prodTo zs k = x at m2 S1 ⊢
      generalize zs.getD k 0 = z at hc S1 m2
      go_wp2
      go_round
      case rel => exact ⟨k + 1, by omega, by go_num, by rw [S1.out]⟩
      case measure => simp [intOf]; omega
    · have hkn : k = zs.length := by omega
      clear hlt hk
      subst hkn
      go_wp2
      go_ret
      exact ⟨rfl, rfl⟩

set_option maxHeartbeats 400000 in
theorem specSumIn_yes (b off c : Nat) (y : Int) (zs : List Int) (w : World) (hn : zs.length ≤ 1048576) (hI : Ints w b off zs) (hf : fitB zs y = true) :
    Calls Try.prog 23 #[.slice (some ⟨b, off, none⟩) zs.length c, .int .i64 y] w (RetIB (sumTo (agesIn zs y) zs.length) true w) := by
  obtain ⟨hg, hy, hl, hz⟩ := fit_in hf
  have HZ := Lib.hid hz
  have HL := Lib.hid hl
  have h8 := goodB_len hg
  have hbl := ints_lt hI (by omega)
  clear hz hl
  go_enter Try.func23, Try.ntmps23
  go_wp2_with fail
  refine (agFit_any _ _ _ _ zs _ hn hI).mono ?_
  rintro e w1 ⟨rfl, hb⟩
  go_wp2_with fail
  refine (agIn_any _ _ _ _ zs _ (by have := hb.size; omega) (hI.kept hb hbl) hg hy).mono ?_
  rintro e w2 ⟨v, rfl, ho, hb2⟩
  obtain ⟨g2, c2, rfl, hg2, hgs2, hI2⟩ := ownNonempty ho (by rw [HL.out]; omega)
  go_wp2_with fail
  refine (agSum_any _ _ _ (agesIn zs y) _ (by rw [HL.out]; omega) hI2 HZ.out).mono ?_
  rintro e w3 ⟨rfl, rfl⟩
  go_wp2_with fail
  go_ret2
  exact ⟨by rw [← HL.out]; rfl, hb.trans (hb2.mono hb.size)⟩
theorem specSumIn_no (b off c : Nat) (y : Int) (zs : List Int) (w : World) (hn : zs.length ≤ 1048576) (hI : Ints w b off zs) (hf : fitB zs y = false) :
    Calls Try.prog 23 #[.slice (some ⟨b, off, none⟩) zs.length c, .int .i64 y] w (RetIB 0 false w) := by
  go_enter Try.func23, Try.ntmps23
  go_wp2_with fail
  refine (agFit_any _ _ _ _ zs _ hn hI).mono ?_
  rintro e w1 ⟨rfl, hb⟩
  go_wp2_with fail
  go_ret2
  exact ⟨rfl, hb⟩

set_option maxHeartbeats 400000 in
theorem specProductIn_yes (b off c : Nat) (y : Int) (zs : List Int) (w : World) (hn : zs.length ≤ 1048576) (hI : Ints w b off zs) (hf : fitB zs y = true) :
    Calls Try.prog 25 #[.slice (some ⟨b, off, none⟩) zs.length c, .int .i64 y] w (RetIB (prodTo (agesIn zs y) zs.length) true w) := by
  obtain ⟨hg, hy, hl, hz⟩ := fit_in hf
  have HZ := Lib.hid hz
  have HL := Lib.hid hl
  have h8 := goodB_len hg
  have hbl := ints_lt hI (by omega)
  clear hz hl
  go_enter Try.func25, Try.ntmps25
  go_wp2_with fail
  refine (agFit_any _ _ _ _ zs _ hn hI).mono ?_
  rintro e w1 ⟨rfl, hb⟩
  go_wp2_with fail
  refine (agIn_any _ _ _ _ zs _ (by have := hb.size; omega) (hI.kept hb hbl) hg hy).mono ?_
  rintro e w2 ⟨v, rfl, ho, hb2⟩
  obtain ⟨g2, c2, rfl, hg2, hgs2, hI2⟩ := ownNonempty ho (by rw [HL.out]; omega)
  go_wp2_with fail
  refine (agProduct_any _ _ _ (agesIn zs y) _ (by rw [HL.out]; omega) hI2 HZ.out).mono ?_
  rintro e w3 ⟨rfl, rfl⟩
  go_wp2_with fail
  go_ret2
  exact ⟨by rw [← HL.out]; rfl, hb.trans (hb2.mono hb.size)⟩
theorem specProductIn_no (b off c : Nat) (y : Int) (zs : List Int) (w : World) (hn : zs.length ≤ 1048576) (hI : Ints w b off zs) (hf : fitB zs y = false) :
    Calls Try.prog 25 #[.slice (some ⟨b, off, none⟩) zs.length c, .int .i64 y] w (RetIB 0 false w) := by
  go_enter Try.func25, Try.ntmps25
  go_wp2_with fail
  refine (agFit_any _ _ _ _ zs _ hn hI).mono ?_
  rintro e w1 ⟨rfl, hb⟩
  go_wp2_with fail
  go_ret2
  exact ⟨rfl, hb⟩

theorem sumIn_both (zs : List Int) (y : Int) : ∃ r ok,
    (∀ b c w, zs.length ≤ 1048576 → b < w.heap.size → Ints w b 0 zs → Calls Try.prog 23 #[.slice (some ⟨b, 0, none⟩) zs.length c, .int .i64 y] w (RetIB r ok w)) ∧
    (∀ b c w, zs.length ≤ 1048576 → b < w.heap.size → Ints w b 0 zs → Calls Try.prog 24 #[.slice (some ⟨b, 0, none⟩) zs.length c, .int .i64 y] w (RetIB r ok w)) := by
  cases h : fitB zs y with
  | false => exact ⟨0, false, fun b c w hn hbl hI => specSumIn_no _ _ _ _ _ _ hn hI h, fun b c w hn hbl hI => sumIn_no _ _ _ _ _ _ hn hbl hI h⟩
  | true => exact ⟨sumTo (agesIn zs y) zs.length, true, fun b c w hn hbl hI => specSumIn_yes _ _ _ _ _ _ hn hI h, fun b c w hn hbl hI => sumIn_yes _ _ _ _ _ _ hn hI h⟩

theorem productIn_both (zs : List Int) (y : Int) : ∃ r ok,
    (∀ b c w, zs.length ≤ 1048576 → b < w.heap.size → Ints w b 0 zs → Calls Try.prog 25 #[.slice (some ⟨b, 0, none⟩) zs.length c, .int .i64 y] w (RetIB r ok w)) ∧
    (∀ b c w, zs.length ≤ 1048576 → b < w.heap.size → Ints w b 0 zs → Calls Try.prog 26 #[.slice (some ⟨b, 0, none⟩) zs.length c, .int .i64 y] w (RetIB r ok w)) := by
  cases h : fitB zs y with
  | false => exact ⟨0, false, fun b c w hn hbl hI => specProductIn_no _ _ _ _ _ _ hn hI h, fun b c w hn hbl hI => productIn_no _ _ _ _ _ _ hn hbl hI h⟩
  | true => exact ⟨prodTo (agesIn zs y) zs.length, true, fun b c w hn hbl hI => specProductIn_yes _ _ _ _ _ _ hn hI h, fun b c w hn hbl hI => productIn_yes _ _ _ _ _ _ hn hI h⟩
end Go.Proofs.Ytonnknhmmljmaaa
