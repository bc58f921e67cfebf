/- The statement on RatiosText, walked over the contracts of what it calls. -/
import Derived.Test.YtmidobhfahpkcabDoorRDTxP
import Derived.Test.YtmidobhfahpkcabDoorRatHelp2
set_option linter.unusedVariables false
set_option linter.unusedSimpArgs false
namespace Go.Proofs.YtmidobhfahpkcabDoor
open Go.RowKit

set_option maxHeartbeats 1000000 in
theorem law_RatiosText_of (a : Option Addr) (n c : Nat) (ds : List Dt) (r : ByteArray) (ok : Bool) (w : World) (h : ArgD w a n ds) (hm : n ≤ maxLen)
    (E : EnvT w) (hs : ∀ b c w, EnvT w → ds.length ≤ 1048576 → b < w.heap.size → Dts w b 0 ds → Calls Tryd.prog 6 #[.slice (some ⟨b, 0, none⟩) ds.length c] w (RetSB r ok w))
    (hi : ∀ b c w, EnvT w → ds.length ≤ 1048576 → b < w.heap.size → Dts w b 0 ds → Calls Tryd.prog 8 #[.slice (some ⟨b, 0, none⟩) ds.length c] w (RetSB r ok w)) :
    Calls Tryd.prog 3 #[.slice a n c] w (Ret (.bool true) w) := by
  obtain ⟨hl, h2⟩ := h
  subst hl
  have h : ArgD w a ds.length ds := ⟨rfl, h2⟩
  have HS := Lib.hid hs
  have HI := Lib.hid hi
  replace E := Lib.hid E
  clear h2 hs hi
  by_cases hn : 1048576 < ds.length
  · go_enter Tryd.func3, Tryd.ntmps3
    go_wp2_with (go_at_call 5; refine (szDateS_great _ _ _ _ hn hm).mono ?_; rintro e w' ⟨rfl, rfl⟩)
    go_ret
    exact ⟨rfl, Below.refl _ _⟩
  have hn' : ds.length ≤ 1048576 := by omega
  have hleft : ¬ (1048576 : Int) - (ds.length : Int) < 0 := by omega
  have hmark : ¬ (1 : Int) + 2 * (ds.length : Int) < 0 := by omega
  clear hm
  go_enter Tryd.func3, Tryd.ntmps3
  go_wp2_with (go_at_call 5; refine (szDateS_any _ _ _ _ hn').mono ?_; rintro e w' ⟨rfl, rfl⟩)
  refine (toDateS_any _ _ _ ds _ h hn').mono ?_
  rintro e w1 ⟨g1, hg1, rfl, ho1, hb1⟩
  go_wp2_with fail
  refine (HS.out _ _ _ (E.out.kept hb1) hn' ho1.shape.2.2.1 ho1.shape.2.2.2.2.1).mono ?_
  rintro e w2 ⟨rfl, hb2⟩
  have hb2' := hb1.trans (hb2.mono hb1.size)
  go_wp2_with fail
  refine (toDateS_any _ _ _ ds _ (h.kept hb2') hn').mono ?_
  rintro e w3 ⟨g3, hg3, rfl, ho3, hb3⟩
  have hb3' := hb2'.trans (hb3.mono hb2'.size)
  go_wp2_with fail
  refine (HI.out _ _ _ (E.out.kept hb3') hn' ho3.shape.2.2.1 ho3.shape.2.2.2.2.1).mono ?_
  rintro e w4 ⟨rfl, hb4⟩
  have hb4' := hb3'.trans (hb4.mono hb3'.size)
  go_wp2_with fail
  refine (toDateS_any _ _ _ ds _ (h.kept hb4') hn').mono ?_
  rintro e w5 ⟨g5, hg5, rfl, ho5, hb5⟩
  have hb5' := hb4'.trans (hb5.mono hb4'.size)
  go_wp2_with fail
  refine (eqDateS_any _ _ _ _ _ _ ds _ hn' ((ho3.kept hb4).kept hb5) ho5).mono ?_
  rintro e w6 ⟨rfl, hb6⟩
  have hb6' := hb5'.trans (hb6.mono hb5'.size)
  go_wp2_with fail
  go_ret
  exact ⟨rfl, hb6'⟩

theorem law_RatiosText (a : Option Addr) (n c : Nat) (ds : List Dt) (w : World) (h : ArgD w a n ds) (hm : n ≤ maxLen) (E : EnvT w) :
    Calls Tryd.prog 3 #[.slice a n c] w (Ret (.bool true) w) := by
  obtain ⟨r, ok, hs, hi⟩ := birthsText_both ds 
  exact law_RatiosText_of a n c ds _ _ w h hm E hs hi
end Go.Proofs.YtmidobhfahpkcabDoor
