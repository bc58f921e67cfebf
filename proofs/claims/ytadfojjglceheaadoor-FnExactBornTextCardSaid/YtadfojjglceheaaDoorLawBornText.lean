/- The statement on BornText, walked over the contracts of what it calls. -/
import Derived.Test.YtadfojjglceheaaDoorBTxP
set_option linter.unusedVariables false
set_option linter.unusedSimpArgs false
namespace Go.Proofs.YtadfojjglceheaaDoor
open Go.RowKit

set_option maxHeartbeats 1000000 in
theorem law_BornText_of (a : Option Addr) (n c : Nat) (zs : List Int) (r : ByteArray) (ok : Bool) (w : World) (h : Arg w a n zs)
    (E : EnvT w) (hs : ∀ b c w, EnvT w → zs.length ≤ 1048576 → b < w.heap.size → Ints w b 0 zs → Calls Tryd.prog 5 #[.slice (some ⟨b, 0, none⟩) zs.length c] w (RetSB r ok w))
    (hi : ∀ b c w, EnvT w → zs.length ≤ 1048576 → b < w.heap.size → Ints w b 0 zs → Calls Tryd.prog 7 #[.slice (some ⟨b, 0, none⟩) zs.length c] w (RetSB r ok w)) :
    Calls Tryd.prog 3 #[.slice a n c] w (Ret (.bool true) w) := by
  obtain ⟨hl, h2⟩ := h
  subst hl
  have h : Arg w a zs.length zs := ⟨rfl, h2⟩
  have HS := Lib.hid hs
  have HI := Lib.hid hi
  replace E := Lib.hid E
  clear h2 hs hi
  by_cases hn : 1048576 < zs.length
  · go_enter Tryd.func3, Tryd.ntmps3
    go_wp2
    go_ret
    exact ⟨rfl, Below.refl _ _⟩
  have hn' : zs.length ≤ 1048576 := by omega
  go_enter Tryd.func3, Tryd.ntmps3
  go_wp2_with fail
  refine (toIntS_any _ _ _ zs _ h hn').mono ?_
  rintro e w1 ⟨g1, hg1, rfl, ho1, hb1⟩
  go_wp2_with fail
  refine (HS.out _ _ _ (E.out.kept hb1) hn' ho1.shape.2.2.1 ho1.shape.2.2.2.2.1).mono ?_
  rintro e w2 ⟨rfl, hb2⟩
  have hb2' := hb1.trans (hb2.mono hb1.size)
  go_wp2_with fail
  refine (toIntS_any _ _ _ zs _ (h.kept hb2') hn').mono ?_
  rintro e w3 ⟨g3, hg3, rfl, ho3, hb3⟩
  have hb3' := hb2'.trans (hb3.mono hb2'.size)
  go_wp2_with fail
  refine (HI.out _ _ _ (E.out.kept hb3') hn' ho3.shape.2.2.1 ho3.shape.2.2.2.2.1).mono ?_
  rintro e w4 ⟨rfl, hb4⟩
  have hb4' := hb3'.trans (hb4.mono hb3'.size)
  go_wp2_with fail
  refine (toIntS_any _ _ _ zs _ (h.kept hb4') hn').mono ?_
  rintro e w5 ⟨g5, hg5, rfl, ho5, hb5⟩
  have hb5' := hb4'.trans (hb5.mono hb4'.size)
  go_wp2_with fail
  refine (eqIntS_any _ _ _ _ zs _ hn' ((ho3.kept hb4).kept hb5) ho5).mono ?_
  rintro e w6 ⟨rfl, hb6⟩
  have hb6' := hb5'.trans (hb6.mono hb5'.size)
  go_wp2_with fail
  go_ret
  exact ⟨rfl, hb6'⟩

theorem law_BornText (a : Option Addr) (n c : Nat) (zs : List Int) (w : World) (h : Arg w a n zs) (E : EnvT w) :
    Calls Tryd.prog 3 #[.slice a n c] w (Ret (.bool true) w) := by
  obtain ⟨r, ok, hs, hi⟩ := bornText_both zs 
  exact law_BornText_of a n c zs _ _ w h E hs hi
end Go.Proofs.YtadfojjglceheaaDoor
