/- MeanAge: both texts. -/
import Derived.Test.YtonnknhmmljmaaaLow
import Derived.Test.YtonnknhmmljmaaaTell
set_option linter.unusedVariables false
set_option linter.unusedSimpArgs false
namespace Go.Proofs.Ytonnknhmmljmaaa
open Go.RowKit

theorem agesIn_zero (zs : List Int) : agesIn zs 0 = zs := by unfold agesIn; simp
theorem fit_zero {zs : List Int} : fitB zs 0 = goodB zs 120 := by
  unfold fitB
  cases hg : goodB zs 120 with
  | false => rfl
  | true => have := loY_bd hg; rw [inB_true (by omega) (by omega)]; rfl
def meanN (zs : List Int) : Nat := (sumTo zs zs.length).toNat
theorem mean_sum {zs : List Int} (hg : goodB zs 120 = true) : sumTo zs zs.length = (meanN zs : Int) ∧ meanN zs ≤ 1048576 := by
  have h8 := goodB_len hg
  have := sumTo_bd (goodB_at hg) zs.length (Nat.le_refl _)
  unfold meanN
  omega

set_option maxHeartbeats 1000000 in
theorem meanAge_yes (b off c : Nat) (zs : List Int) (w : World) (hn : zs.length ≤ 1048576) (hI : Ints w b off zs) (hg : goodB zs 120 = true) :
    Calls Try.prog 34 #[.slice (some ⟨b, off, none⟩) zs.length c] w (RetIIB (lowN (meanN zs) zs.length) (lowD (meanN zs) zs.length) true w) := by
  have h8 := goodB_len hg
  obtain ⟨hs, hs2⟩ := mean_sum hg
  have HS := Lib.hid hs
  clear hs
  go_enter Try.func34, Try.ntmps34
  go_wp2_with fail
  refine (sumIn_yes _ _ _ _ zs _ hn hI (by rw [fit_zero]; exact hg)).mono ?_
  rw [agesIn_zero, HS.out]
  rintro e w1 ⟨rfl, hb⟩
  go_wp2_with fail
  refine (lowestTerms_any (meanN zs) zs.length _ hs2 h8.1 (by omega)).mono ?_
  rintro e w2 ⟨rfl, hb2⟩
  go_wp2_with fail
  go_ret3
  exact ⟨rfl, hb.trans (hb2.mono hb.size)⟩
theorem meanAge_no (b off c : Nat) (zs : List Int) (w : World) (hn : zs.length ≤ 1048576) (hbl : b < w.heap.size) (hI : Ints w b off zs) (hg : goodB zs 120 = false) :
    Calls Try.prog 34 #[.slice (some ⟨b, off, none⟩) zs.length c] w (RetIIB 0 0 false w) := by
  go_enter Try.func34, Try.ntmps34
  go_wp2_with fail
  refine (sumIn_no _ _ _ _ zs _ hn hbl hI (by rw [fit_zero]; exact hg)).mono ?_
  rintro e w1 ⟨rfl, hb⟩
  go_wp2_with fail
  go_ret3
  exact ⟨rfl, hb⟩
set_option maxHeartbeats 1000000 in
theorem specMeanAge_yes (b off c : Nat) (zs : List Int) (w : World) (hn : zs.length ≤ 1048576) (hI : Ints w b off zs) (hg : goodB zs 120 = true) :
    Calls Try.prog 33 #[.slice (some ⟨b, off, none⟩) zs.length c] w (RetIIB (lowN (meanN zs) zs.length) (lowD (meanN zs) zs.length) true w) := by
  have h8 := goodB_len hg
  obtain ⟨hs, hs2⟩ := mean_sum hg
  have HS := Lib.hid hs
  clear hs
  go_enter Try.func33, Try.ntmps33
  go_wp2_with (first | (go_at_call 46; refine (agGood_any _ _ _ _ zs _ rfl hn hI).mono ?_; rintro e w' ⟨rfl, rfl⟩))
  refine (agSum_any _ _ _ zs _ (by omega) hI (goodB_at hg)).mono ?_
  rw [HS.out]
  rintro e w1 ⟨rfl, rfl⟩
  go_wp2_with fail
  refine (agLow_any (meanN zs) zs.length _ hs2 h8.1 (by omega)).mono ?_
  rintro e w2 ⟨rfl, hb2⟩
  go_wp2_with fail
  go_ret3
  exact ⟨rfl, hb2⟩
theorem specMeanAge_no (b off c : Nat) (zs : List Int) (w : World) (hn : zs.length ≤ 1048576) (hI : Ints w b off zs) (hg : goodB zs 120 = false) :
    Calls Try.prog 33 #[.slice (some ⟨b, off, none⟩) zs.length c] w (RetIIB 0 0 false w) := by
  go_enter Try.func33, Try.ntmps33
  go_wp2_with (first | (go_at_call 46; refine (agGood_any _ _ _ _ zs _ rfl hn hI).mono ?_; rintro e w' ⟨rfl, rfl⟩))
  go_ret3
  exact ⟨rfl, Below.refl _ _⟩
theorem meanAge_both (zs : List Int) : ∃ r1 r2 ok,
    (∀ b c w, zs.length ≤ 1048576 → b < w.heap.size → Ints w b 0 zs → Calls Try.prog 33 #[.slice (some ⟨b, 0, none⟩) zs.length c] w (RetIIB r1 r2 ok w)) ∧
    (∀ b c w, zs.length ≤ 1048576 → b < w.heap.size → Ints w b 0 zs → Calls Try.prog 34 #[.slice (some ⟨b, 0, none⟩) zs.length c] w (RetIIB r1 r2 ok w)) := by
  cases h : goodB zs 120 with
  | false => exact ⟨0, 0, false, fun b c w hn hbl hI => specMeanAge_no _ _ _ _ _ hn hI h, fun b c w hn hbl hI => meanAge_no _ _ _ _ _ hn hbl hI h⟩
  | true => exact ⟨_, _, true, fun b c w hn hbl hI => specMeanAge_yes _ _ _ _ _ hn hI h, fun b c w hn hbl hI => meanAge_yes _ _ _ _ _ hn hI h⟩
end Go.Proofs.Ytonnknhmmljmaaa
