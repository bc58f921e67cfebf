/- The fit years: the rest. -/
import Derived.Test.YtonnknhmmljmaaaFit
set_option linter.unusedVariables false
set_option linter.unusedSimpArgs false
namespace Go.Proofs.Ytonnknhmmljmaaa
open Go.RowKit
set_option maxHeartbeats 400000 in
theorem specYearsRange_yes (b off n c : Nat) (zs : List Int) (w : World) (hl : zs.length = n) (hn : n ≤ 1048576) (hI : Ints w b off zs) (hg : goodB zs 120 = true) :
    Calls Try.prog 27 #[.slice (some ⟨b, off, none⟩) n c] w (RetIIB (loY zs) (hiY zs) true w) := by
  go_enter Try.func27, Try.ntmps27
  go_wp2_with fail
  refine (agGood_any _ _ _ _ zs _ hl hn hI).mono ?_
  rintro e w' ⟨rfl, rfl⟩
  go_wp2_with fail
  refine (agRange_any _ _ _ _ zs _ hl hI hg).mono ?_
  rintro e w1 ⟨rfl, hb⟩
  go_wp2_with fail
  go_ret3
  exact ⟨rfl, hb⟩
theorem specYearsRange_no (b off n c : Nat) (zs : List Int) (w : World) (hl : zs.length = n) (hn : n ≤ 1048576) (hI : Ints w b off zs) (hg : goodB zs 120 = false) :
    Calls Try.prog 27 #[.slice (some ⟨b, off, none⟩) n c] w (RetIIB 0 0 false w) := by
  go_enter Try.func27, Try.ntmps27
  go_wp2_with fail
  refine (agGood_any _ _ _ _ zs _ hl hn hI).mono ?_
  rintro e w' ⟨rfl, rfl⟩
  go_wp2_with fail
  go_ret3
  exact ⟨rfl, Below.refl _ _⟩
set_option maxHeartbeats 400000 in
theorem yearsRange_yes (b off n c : Nat) (zs : List Int) (w : World) (hl : zs.length = n) (hn : n ≤ 1048576) (hI : Ints w b off zs) (hg : goodB zs 120 = true) :
    Calls Try.prog 28 #[.slice (some ⟨b, off, none⟩) n c] w (RetIIB (loY zs) (hiY zs) true w) := by
  subst hl
  have h8 := goodB_len hg
  have ha := goodB_at hg 0 (by omega)
  have HR := Lib.hid (show loY zs = -(minTo (zs.getD 0 0) zs zs.length) ∧ hiY zs = 120 - maxTo (zs.getD 0 0) zs zs.length from ⟨rfl, rfl⟩)
  go_enter Try.func28, Try.ntmps28
  go_wp2_with fail
  refine (householdOf_zero _ _ _ _ zs _ rfl hn hI hg).mono ?_
  rintro e w1 ⟨g, hg1, rfl, hP, hgs, hb⟩
  generalize zs.getD 0 0 = a at ha HR
  go_wp2_with fail
  refine (fitYears_any _ _ _ _ _ zs _ rfl hg (by simp; omega) (hP.kept ((Below.refl _ _).alloc (Nat.le_refl _) _) hgs) ha).mono ?_
  rintro e w2 ⟨rfl, hb2⟩
  rw [← HR.out.1, ← HR.out.2]
  go_wp2_with fail
  go_ret3
  exact ⟨rfl, (hb.alloc hb.size _).trans (hb2.mono (by simp; have := hb.size; omega))⟩
theorem yearsRange_no (b off n c : Nat) (zs : List Int) (w : World) (hl : zs.length = n) (hn : n ≤ 1048576) (hI : Ints w b off zs) (hbl : b < w.heap.size) (hg : goodB zs 120 = false) :
    Calls Try.prog 28 #[.slice (some ⟨b, off, none⟩) n c] w (RetIIB 0 0 false w) := by
  go_enter Try.func28, Try.ntmps28
  go_wp2_with fail
  refine (householdOf_nozero _ _ _ _ zs _ hl hn hI hbl hg).mono ?_
  rintro e w1 ⟨rfl, hb⟩
  go_wp2_with fail
  go_ret3
  exact ⟨rfl, hb.alloc hb.size _⟩
theorem yearsRange_both (zs : List Int) : ∃ r1 r2 ok,
    (∀ b c w, zs.length ≤ 1048576 → b < w.heap.size → Ints w b 0 zs → Calls Try.prog 27 #[.slice (some ⟨b, 0, none⟩) zs.length c] w (RetIIB r1 r2 ok w)) ∧
    (∀ b c w, zs.length ≤ 1048576 → b < w.heap.size → Ints w b 0 zs → Calls Try.prog 28 #[.slice (some ⟨b, 0, none⟩) zs.length c] w (RetIIB r1 r2 ok w)) := by
  cases h : goodB zs 120 with
  | false => exact ⟨0, 0, false, fun b c w hn hbl hI => specYearsRange_no _ _ _ _ _ _ rfl hn hI h, fun b c w hn hbl hI => yearsRange_no _ _ _ _ _ _ rfl hn hI hbl h⟩
  | true => exact ⟨loY zs, hiY zs, true, fun b c w hn hbl hI => specYearsRange_yes _ _ _ _ _ _ rfl hn hI h, fun b c w hn hbl hI => yearsRange_yes _ _ _ _ _ _ rfl hn hI h⟩
end Go.Proofs.Ytonnknhmmljmaaa
