/- AgesIn: both texts. -/
import Derived.Test.YtonnknhmmljmaaaAgesList
import Derived.Test.YtonnknhmmljmaaaSums
set_option linter.unusedVariables false
set_option linter.unusedSimpArgs false
namespace Go.Proofs.Ytonnknhmmljmaaa
open Go.RowKit

set_option maxHeartbeats 1000000 in
theorem agesIn_yes (b off c : Nat) (y : Int) (zs : List Int) (w : World) (hn : zs.length ≤ 1048576) (hI : Ints w b off zs) (hf : fitB zs y = true) :
    Calls Try.prog 20 #[.slice (some ⟨b, off, none⟩) zs.length c, .int .i64 y] w (RetOwnB (agesIn zs y) true w) := by
  obtain ⟨hg, hy, hl, hz⟩ := fit_in hf
  have HL := Lib.hid hl
  have h8 := goodB_len hg
  clear hz hl
  go_enter Try.func20, Try.ntmps20
  go_wp2_with fail
  refine (householdIn_yes _ _ _ _ zs _ hn hI hf).mono ?_
  rintro e w1 ⟨g, c1, hg1, rfl, hP, hgs, hb⟩
  generalize (agesIn zs y).getD 0 0 = a
  go_wp2_with fail
  refine (agesOf_any _ _ zs.length _ (agesIn zs y) _ HL.out (by omega) (by simp; omega) (hP.kept ((Below.refl _ _).alloc (Nat.le_refl _) _) hgs).prs).mono ?_
  rintro e w2 ⟨g2, hg2, rfl, ho, hb2⟩
  have hb' := hb.alloc hb.size
  go_wp2_with fail
  go_ret2
  exact ⟨_, rfl, ho.mono (hb' _).size, (hb' _).trans (hb2.mono (hb' _).size)⟩
theorem agesIn_no (b off c : Nat) (y : Int) (zs : List Int) (w : World) (hn : zs.length ≤ 1048576) (hbl : b < w.heap.size) (hI : Ints w b off zs) (hf : fitB zs y = false) :
    Calls Try.prog 20 #[.slice (some ⟨b, off, none⟩) zs.length c, .int .i64 y] w (RetOwnB [] false w) := by
  go_enter Try.func20, Try.ntmps20
  go_wp2_with fail
  refine (householdIn_no _ _ _ _ zs _ hn hbl hI hf).mono ?_
  rintro e w1 ⟨rfl, hb⟩
  go_wp2_with fail
  go_ret2
  exact ⟨_, rfl, own_nil _ _, hb.alloc hb.size _⟩
theorem specAgesIn_yes (b off c : Nat) (y : Int) (zs : List Int) (w : World) (hn : zs.length ≤ 1048576) (hI : Ints w b off zs) (hf : fitB zs y = true) :
    Calls Try.prog 19 #[.slice (some ⟨b, off, none⟩) zs.length c, .int .i64 y] w (RetOwnB (agesIn zs y) true w) := by
  obtain ⟨hg, hy, hl, hz⟩ := fit_in hf
  have h8 := goodB_len hg
  have hbl := ints_lt hI (by omega)
  clear hz hl
  go_enter Try.func19, Try.ntmps19
  go_wp2_with fail
  refine (agFit_any _ _ _ _ zs _ hn hI).mono ?_
  rintro e w1 ⟨rfl, hb⟩
  go_wp2_with fail
  refine (agIn_any _ _ _ _ zs _ (by have := hb.size; omega) (hI.kept hb hbl) hg hy).mono ?_
  rintro e w2 ⟨v, rfl, ho, hb2⟩
  go_wp2_with fail
  go_ret2
  exact ⟨_, rfl, ho.mono hb.size, hb.trans (hb2.mono hb.size)⟩
theorem specAgesIn_no (b off c : Nat) (y : Int) (zs : List Int) (w : World) (hn : zs.length ≤ 1048576) (hI : Ints w b off zs) (hf : fitB zs y = false) :
    Calls Try.prog 19 #[.slice (some ⟨b, off, none⟩) zs.length c, .int .i64 y] w (RetOwnB [] false w) := by
  go_enter Try.func19, Try.ntmps19
  go_wp2_with fail
  refine (agFit_any _ _ _ _ zs _ hn hI).mono ?_
  rintro e w1 ⟨rfl, hb⟩
  go_wp2_with fail
  go_ret2
  exact ⟨_, rfl, own_nil _ _, hb⟩
theorem agesIn_both (zs : List Int) (y : Int) : ∃ rs ok, rs.length ≤ 1048576 ∧
    (∀ b c w, zs.length ≤ 1048576 → b < w.heap.size → Ints w b 0 zs → Calls Try.prog 19 #[.slice (some ⟨b, 0, none⟩) zs.length c, .int .i64 y] w (RetOwnB rs ok w)) ∧
    (∀ b c w, zs.length ≤ 1048576 → b < w.heap.size → Ints w b 0 zs → Calls Try.prog 20 #[.slice (some ⟨b, 0, none⟩) zs.length c, .int .i64 y] w (RetOwnB rs ok w)) := by
  cases h : fitB zs y with
  | false => exact ⟨[], false, by simp, fun b c w hn hbl hI => specAgesIn_no _ _ _ _ _ _ hn hI h, fun b c w hn hbl hI => agesIn_no _ _ _ _ _ _ hn hbl hI h⟩
  | true =>
    have h8 := goodB_len (fit_in h).1
    exact ⟨agesIn zs y, true, by rw [agesIn_length]; omega, fun b c w hn hbl hI => specAgesIn_yes _ _ _ _ _ _ hn hI h, fun b c w hn hbl hI => agesIn_yes _ _ _ _ _ _ hn hI h⟩
end Go.Proofs.Ytonnknhmmljmaaa
