/- Sums and products in other years, both texts; the mean of the ages. -/
import Derived.Test.YtonnknhmmljmaaaSums
set_option linter.unusedVariables false
set_option linter.unusedSimpArgs false
namespace Go.Proofs.Ytonnknhmmljmaaa
open Go.RowKit

set_option maxHeartbeats 1000000 in
theorem tellSum_yes (b off c : Nat) (y : Int) (zs : List Int) (w : World) (hn : zs.length ≤ 1048576) (hI : Ints w b off zs) (hf : fitB zs y = true) :
    Calls Try.prog 53 #[.slice (some ⟨b, off, none⟩) zs.length c, .int .i64 y, .func (.func 54) #[] #[]] w (RetIB (sumTo (agesIn zs y) zs.length) true w) := by
  obtain ⟨hg, hy, hl, hz⟩ := fit_in hf
  have HZ := Lib.hid hz
  have HL := Lib.hid hl
  have h8 := goodB_len hg
  clear hz hl
  go_enter Try.func53, Try.ntmps53
  go_wp2_with fail
  refine (householdIn_yes _ _ _ _ zs _ hn hI hf).mono ?_
  rintro e w1 ⟨g, c1, hg1, rfl, hP, hgs, hb⟩
  generalize (agesIn zs y).getD 0 0 = a
  go_wp2_with fail
  refine (sum_len _ _ _ _ zs.length (agesIn zs y) _ HL.out (by omega) (by simp; omega) (hP.kept ((Below.refl _ _).alloc (Nat.le_refl _) _) hgs) HZ.out).mono ?_
  rintro e w2 ⟨rfl, hb2⟩
  go_wp2_with fail
  go_ret2
  exact ⟨rfl, (hb.alloc hb.size _).trans (hb2.mono (by simp; have := hb.size; omega))⟩
theorem tellSum_no (b off c : Nat) (y : Int) (zs : List Int) (w : World) (hn : zs.length ≤ 1048576) (hbl : b < w.heap.size) (hI : Ints w b off zs) (hf : fitB zs y = false) :
    Calls Try.prog 53 #[.slice (some ⟨b, off, none⟩) zs.length c, .int .i64 y, .func (.func 54) #[] #[]] w (RetIB 0 false w) := by
  go_enter Try.func53, Try.ntmps53
  go_wp2_with fail
  refine (householdIn_no _ _ _ _ zs _ hn hbl hI hf).mono ?_
  rintro e w1 ⟨rfl, hb⟩
  go_wp2_with fail
  go_ret2
  exact ⟨rfl, hb.alloc hb.size _⟩

set_option maxHeartbeats 1000000 in
theorem tellProd_yes (b off c : Nat) (y : Int) (zs : List Int) (w : World) (hn : zs.length ≤ 1048576) (hI : Ints w b off zs) (hf : fitB zs y = true) :
    Calls Try.prog 53 #[.slice (some ⟨b, off, none⟩) zs.length c, .int .i64 y, .func (.func 56) #[] #[]] w (RetIB (prodTo (agesIn zs y) zs.length) true w) := by
  obtain ⟨hg, hy, hl, hz⟩ := fit_in hf
  have HZ := Lib.hid hz
  have HL := Lib.hid hl
  have h8 := goodB_len hg
  clear hz hl
  go_enter Try.func53, Try.ntmps53
  go_wp2_with fail
  refine (householdIn_yes _ _ _ _ zs _ hn hI hf).mono ?_
  rintro e w1 ⟨g, c1, hg1, rfl, hP, hgs, hb⟩
  generalize (agesIn zs y).getD 0 0 = a
  go_wp2_with fail
  refine (product_len _ _ _ _ zs.length (agesIn zs y) _ HL.out (by omega) (by simp; omega) (hP.kept ((Below.refl _ _).alloc (Nat.le_refl _) _) hgs) HZ.out).mono ?_
  rintro e w2 ⟨rfl, hb2⟩
  go_wp2_with fail
  go_ret2
  exact ⟨rfl, (hb.alloc hb.size _).trans (hb2.mono (by simp; have := hb.size; omega))⟩
theorem tellProd_no (b off c : Nat) (y : Int) (zs : List Int) (w : World) (hn : zs.length ≤ 1048576) (hbl : b < w.heap.size) (hI : Ints w b off zs) (hf : fitB zs y = false) :
    Calls Try.prog 53 #[.slice (some ⟨b, off, none⟩) zs.length c, .int .i64 y, .func (.func 56) #[] #[]] w (RetIB 0 false w) := by
  go_enter Try.func53, Try.ntmps53
  go_wp2_with fail
  refine (householdIn_no _ _ _ _ zs _ hn hbl hI hf).mono ?_
  rintro e w1 ⟨rfl, hb⟩
  go_wp2_with fail
  go_ret2
  exact ⟨rfl, hb.alloc hb.size _⟩

theorem sumIn_yes (b off c : Nat) (y : Int) (zs : List Int) (w : World) (hn : zs.length ≤ 1048576) (hI : Ints w b off zs) (hf : fitB zs y = true) :
    Calls Try.prog 24 #[.slice (some ⟨b, off, none⟩) zs.length c, .int .i64 y] w (RetIB (sumTo (agesIn zs y) zs.length) true w) := by
  go_enter Try.func24, Try.ntmps24
  go_wp2_with fail
  refine (tellSum_yes _ _ _ _ zs _ hn hI hf).mono ?_
  rintro e w1 ⟨rfl, hb⟩
  go_wp2_with fail
  go_ret2
  exact ⟨rfl, hb⟩
theorem sumIn_no (b off c : Nat) (y : Int) (zs : List Int) (w : World) (hn : zs.length ≤ 1048576) (hbl : b < w.heap.size) (hI : Ints w b off zs) (hf : fitB zs y = false) :
    Calls Try.prog 24 #[.slice (some ⟨b, off, none⟩) zs.length c, .int .i64 y] w (RetIB 0 false w) := by
  go_enter Try.func24, Try.ntmps24
  go_wp2_with fail
  refine (tellSum_no _ _ _ _ zs _ hn hbl hI hf).mono ?_
  rintro e w1 ⟨rfl, hb⟩
  go_wp2_with fail
  go_ret2
  exact ⟨rfl, hb⟩

theorem productIn_yes (b off c : Nat) (y : Int) (zs : List Int) (w : World) (hn : zs.length ≤ 1048576) (hI : Ints w b off zs) (hf : fitB zs y = true) :
    Calls Try.prog 26 #[.slice (some ⟨b, off, none⟩) zs.length c, .int .i64 y] w (RetIB (prodTo (agesIn zs y) zs.length) true w) := by
  go_enter Try.func26, Try.ntmps26
  go_wp2_with fail
  refine (tellProd_yes _ _ _ _ zs _ hn hI hf).mono ?_
  rintro e w1 ⟨rfl, hb⟩
  go_wp2_with fail
  go_ret2
  exact ⟨rfl, hb⟩
theorem productIn_no (b off c : Nat) (y : Int) (zs : List Int) (w : World) (hn : zs.length ≤ 1048576) (hbl : b < w.heap.size) (hI : Ints w b off zs) (hf : fitB zs y = false) :
    Calls Try.prog 26 #[.slice (some ⟨b, off, none⟩) zs.length c, .int .i64 y] w (RetIB 0 false w) := by
  go_enter Try.func26, Try.ntmps26
  go_wp2_with fail
  refine (tellProd_no _ _ _ _ zs _ hn hbl hI hf).mono ?_
  rintro e w1 ⟨rfl, hb⟩
  go_wp2_with fail
  go_ret2
  exact ⟨rfl, hb⟩


set_option maxHeartbeats 400000 in
theorem specSumIn_yes (b off c : Nat) (y : Int) (zs : List Int) (w : World) (hn : zs.length ≤ 1048576) (hI : Ints w b off zs) (hf : fitB zs y = true) :
    Calls Try.prog 23 #[.slice (some ⟨b, off, none⟩) zs.length c, .int .i64 y] w (RetIB (sumTo (agesIn zs y) zs.length) true w) := by
  obtain ⟨hg, hy, hl, hz⟩ := fit_in hf
  have HZ := Lib.hid hz
  have HL := Lib.hid hl
  have h8 := goodB_len hg
  have hbl := ints_lt hI (by omega)
  clear hz hl
  go_enter Try.func23, Try.ntmps23
  go_wp2_with fail
  refine (agFit_any _ _ _ _ zs _ hn hI).mono ?_
  rintro e w1 ⟨rfl, hb⟩
  go_wp2_with fail
  refine (agIn_any _ _ _ _ zs _ (by have := hb.size; omega) (hI.kept hb hbl) hg hy).mono ?_
  rintro e w2 ⟨v, rfl, ho, hb2⟩
  obtain ⟨g2, c2, rfl, hg2, hgs2, hI2⟩ := ownNonempty ho (by rw [HL.out]; omega)
  go_wp2_with fail
  refine (agSum_any _ _ _ (agesIn zs y) _ (by rw [HL.out]; omega) hI2 HZ.out).mono ?_
  rintro e w3 ⟨rfl, rfl⟩
  go_wp2_with fail
  go_ret2
  exact ⟨by rw [← HL.out]; rfl, hb.trans (hb2.mono hb.size)⟩
theorem specSumIn_no (b off c : Nat) (y : Int) (zs : List Int) (w : World) (hn : zs.length ≤ 1048576) (hI : Ints w b off zs) (hf : fitB zs y = false) :
    Calls Try.prog 23 #[.slice (some ⟨b, off, none⟩) zs.length c, .int .i64 y] w (RetIB 0 false w) := by
  go_enter Try.func23, Try.ntmps23
  go_wp2_with fail
  refine (agFit_any _ _ _ _ zs _ hn hI).mono ?_
  rintro e w1 ⟨rfl, hb⟩
  go_wp2_with fail
  go_ret2
  exact ⟨rfl, hb⟩

set_option maxHeartbeats 400000 in
theorem specProductIn_yes (b off c : Nat) (y : Int) (zs : List Int) (w : World) (hn : zs.length ≤ 1048576) (hI : Ints w b off zs) (hf : fitB zs y = true) :
    Calls Try.prog 25 #[.slice (some ⟨b, off, none⟩) zs.length c, .int .i64 y] w (RetIB (prodTo (agesIn zs y) zs.length) true w) := by
  obtain ⟨hg, hy, hl, hz⟩ := fit_in hf
  have HZ := Lib.hid hz
  have HL := Lib.hid hl
  have h8 := goodB_len hg
  have hbl := ints_lt hI (by omega)
  clear hz hl
  go_enter Try.func25, Try.ntmps25
  go_wp2_with fail
  refine (agFit_any _ _ _ _ zs _ hn hI).mono ?_
  rintro e w1 ⟨rfl, hb⟩
  go_wp2_with fail
  refine (agIn_any _ _ _ _ zs _ (by have := hb.size; omega) (hI.kept hb hbl) hg hy).mono ?_
  rintro e w2 ⟨v, rfl, ho, hb2⟩
  obtain ⟨g2, c2, rfl, hg2, hgs2, hI2⟩ := ownNonempty ho (by rw [HL.out]; omega)
  go_wp2_with fail
  refine (agProduct_any _ _ _ (agesIn zs y) _ (by rw [HL.out]; omega) hI2 HZ.out).mono ?_
  rintro e w3 ⟨rfl, rfl⟩
  go_wp2_with fail
  go_ret2
  exact ⟨by rw [← HL.out]; rfl, hb.trans (hb2.mono hb.size)⟩
theorem specProductIn_no (b off c : Nat) (y : Int) (zs : List Int) (w : World) (hn : zs.length ≤ 1048576) (hI : Ints w b off zs) (hf : fitB zs y = false) :
    Calls Try.prog 25 #[.slice (some ⟨b, off, none⟩) zs.length c, .int .i64 y] w (RetIB 0 false w) := by
  go_enter Try.func25, Try.ntmps25
  go_wp2_with fail
  refine (agFit_any _ _ _ _ zs _ hn hI).mono ?_
  rintro e w1 ⟨rfl, hb⟩
  go_wp2_with fail
  go_ret2
  exact ⟨rfl, hb⟩

theorem sumIn_both (zs : List Int) (y : Int) : ∃ r ok,
    (∀ b c w, zs.length ≤ 1048576 → b < w.heap.size → Ints w b 0 zs → Calls Try.prog 23 #[.slice (some ⟨b, 0, none⟩) zs.length c, .int .i64 y] w (RetIB r ok w)) ∧
    (∀ b c w, zs.length ≤ 1048576 → b < w.heap.size → Ints w b 0 zs → Calls Try.prog 24 #[.slice (some ⟨b, 0, none⟩) zs.length c, .int .i64 y] w (RetIB r ok w)) := by
  cases h : fitB zs y with
  | false => exact ⟨0, false, fun b c w hn hbl hI => specSumIn_no _ _ _ _ _ _ hn hI h, fun b c w hn hbl hI => sumIn_no _ _ _ _ _ _ hn hbl hI h⟩
  | true => exact ⟨sumTo (agesIn zs y) zs.length, true, fun b c w hn hbl hI => specSumIn_yes _ _ _ _ _ _ hn hI h, fun b c w hn hbl hI => sumIn_yes _ _ _ _ _ _ hn hI h⟩

theorem productIn_both (zs : List Int) (y : Int) : ∃ r ok,
    (∀ b c w, zs.length ≤ 1048576 → b < w.heap.size → Ints w b 0 zs → Calls Try.prog 25 #[.slice (some ⟨b, 0, none⟩) zs.length c, .int .i64 y] w (RetIB r ok w)) ∧
    (∀ b c w, zs.length ≤ 1048576 → b < w.heap.size → Ints w b 0 zs → Calls Try.prog 26 #[.slice (some ⟨b, 0, none⟩) zs.length c, .int .i64 y] w (RetIB r ok w)) := by
  cases h : fitB zs y with
  | false => exact ⟨0, false, fun b c w hn hbl hI => specProductIn_no _ _ _ _ _ _ hn hI h, fun b c w hn hbl hI => productIn_no _ _ _ _ _ _ hn hbl hI h⟩
  | true => exact ⟨prodTo (agesIn zs y) zs.length, true, fun b c w hn hbl hI => specProductIn_yes _ _ _ _ _ _ hn hI h, fun b c w hn hbl hI => productIn_yes _ _ _ _ _ _ hn hI h⟩
end Go.Proofs.Ytonnknhmmljmaaa
