/- GapsOfAges: one answer of both texts. -/
import Derived.Test.YtjabghojenhhiaaGaps2
set_option linter.unusedVariables false
set_option linter.unusedSimpArgs false
namespace Go.Proofs.Ytjabghojenhhiaa
open Go.RowKit

theorem specGaps_no (b off c : Nat) (zs : List Int) (w : World) (hn : zs.length ≤ 1048576) (hI : Ints w b off zs) (hg : goodB zs 120 = false) :
    Calls Try.prog 18 #[.slice (some ⟨b, off, none⟩) zs.length c] w (RetOwnB [] false w) := by
  go_enter Try.func18, Try.ntmps18
  go_wp2_with (first | (go_at_call 34; refine (agGood_any _ _ _ _ zs _ rfl hn hI).mono ?_; rintro e w' ⟨rfl, rfl⟩))
  go_ret2
  exact ⟨_, rfl, own_nil _ _, Below.refl _ _⟩
theorem gaps_no (b off c : Nat) (zs : List Int) (w : World) (hn : zs.length ≤ 1048576) (hbl : b < w.heap.size) (hI : Ints w b off zs) (hg : goodB zs 120 = false) :
    Calls Try.prog 19 #[.slice (some ⟨b, off, none⟩) zs.length c] w (RetOwnB [] false w) := by
  go_enter Try.func19, Try.ntmps19
  go_wp2_with fail
  refine (householdOf_nozero _ _ _ _ zs _ rfl hn hI hbl hg).mono ?_
  rintro e w1 ⟨rfl, hb⟩
  go_wp2_with fail
  go_ret2
  exact ⟨_, rfl, own_nil _ _, hb.alloc hb.size _⟩
theorem gaps_pos (b off c m n : Nat) (zs : List Int) (w : World) (hl : zs.length = n) (hm : n = m + 1) (hn : n ≤ 1048576) (hI : Ints w b off zs) (hg : goodB zs 120 = true) :
    Calls Try.prog 19 #[.slice (some ⟨b, off, none⟩) n c] w (RetOwnB (gapsTo zs m) true w) := by
  subst hm
  exact gaps_yes b off c m zs w hl hn hI hg
theorem gaps_both (zs : List Int) : ∃ rs ok, rs.length ≤ 1048576 ∧
    (∀ b c w, zs.length ≤ 1048576 → b < w.heap.size → Ints w b 0 zs → Calls Try.prog 18 #[.slice (some ⟨b, 0, none⟩) zs.length c] w (RetOwnB rs ok w)) ∧
    (∀ b c w, zs.length ≤ 1048576 → b < w.heap.size → Ints w b 0 zs → Calls Try.prog 19 #[.slice (some ⟨b, 0, none⟩) zs.length c] w (RetOwnB rs ok w)) := by
  cases hg : goodB zs 120 with
  | false => exact ⟨[], false, by simp, fun b c w hn hbl hI => specGaps_no _ _ _ _ _ hn hI hg, fun b c w hn hbl hI => gaps_no _ _ _ _ _ hn hbl hI hg⟩
  | true =>
    have h8 := goodB_len hg
    obtain ⟨m, hm⟩ : ∃ m, zs.length = m + 1 := ⟨zs.length - 1, by omega⟩
    have e : zs.length - 1 = m := by omega
    exact ⟨gapsTo zs m, true, by rw [gapsTo_len]; omega, fun b c w hn hbl hI => by rw [← e]; exact specGaps_yes _ _ _ _ _ _ rfl hn hI hg, fun b c w hn hbl hI => gaps_pos _ _ _ m _ zs _ rfl hm hn hI hg⟩
end Go.Proofs.Ytjabghojenhhiaa
