/- The statement on ParseBorn, walked over the contracts of what it calls. -/
import Derived.Test.YtadfojjglceheaaDoorBPsP
set_option linter.unusedVariables false
set_option linter.unusedSimpArgs false
namespace Go.Proofs.YtadfojjglceheaaDoor
open Go.RowKit

set_option maxHeartbeats 1000000 in
theorem law_ParseBorn_of (x1 : ByteArray) (rs : List Int) (ok : Bool) (hrs : rs.length ≤ 1048576) (hx1 : x1.size ≤ 1048576) (w : World)
    (E : EnvT w) (hs : ∀ w, EnvT w → Calls Tryd.prog 9 #[.string x1] w (RetOwnB rs ok w))
    (hi : ∀ w, EnvT w → Calls Tryd.prog 10 #[.string x1] w (RetOwnB rs ok w)) :
    Calls Tryd.prog 4 #[.string x1] w (Ret (.bool true) w) := by
  have HS := Lib.hid hs
  have HI := Lib.hid hi
  replace E := Lib.hid E
  clear hs hi
  have hy1 : ¬ (1048576 : Int) < (x1.size : Int) := by omega
  go_enter Tryd.func4, Tryd.ntmps4
  go_wp2_with fail
  refine (HS.out _ E.out).mono ?_
  rintro e w2 ⟨vs, rfl, hr2, hb2⟩
  go_wp2_with fail
  refine (HI.out _ (E.out.kept hb2)).mono ?_
  rintro e w4 ⟨vi, rfl, hr4, hb4⟩
  have hb4' := hb2.trans (hb4.mono hb2.size)
  have hs4 := hr2.kept hb4
  go_wp2_with fail
  refine (eqIntS_any _ _ _ _ rs _ hrs hr4 hs4).mono ?_
  rintro e w5 ⟨rfl, hb5⟩
  have hb5' := hb4'.trans (hb5.mono hb4'.size)
  have hi5 := hr4.kept hb5
  have hs5 := hs4.kept hb5
  go_wp2_with fail
  refine (markIntS_any _ _ rs _ _ hrs (by omega) (by omega) hi5).mono ?_
  rintro e w6 ⟨rfl, hi6, hg6⟩
  have hb6' := below_ownAbove hb5' hi5 hg6 hb2.size
  go_wp2_with fail
  refine (heldIntS_any _ _ rs _ _ hrs (by omega) (by omega) hi6).mono ?_
  rintro e w7 ⟨rfl, hb7⟩
  have hb7' := hb6'.trans (hb7.mono hb6'.size)
  have hs7 := (hs5.grownV hg6 (hr2.ownNe (Nat.le_refl _) hr4)).kept hb7
  have hi7 := hi6.kept hb7
  go_wp2_with fail
  refine (HI.out _ (E.out.kept hb7')).mono ?_
  rintro e w8 ⟨vj, rfl, hr8, hb8⟩
  have hb8' := hb7'.trans (hb8.mono hb7'.size)
  go_wp2_with fail
  refine (eqIntS_any _ _ _ _ rs _ hrs hr8 (hs7.kept hb8)).mono ?_
  rintro e w9 ⟨rfl, hb9⟩
  have hb9' := hb8'.trans (hb9.mono hb8'.size)
  have hi9 := (hi7.kept hb8).kept hb9
  go_wp2_with fail
  refine (heldIntS_any _ _ rs _ _ hrs (by omega) (by omega) hi9).mono ?_
  rintro e w10 ⟨rfl, hb10⟩
  have hb10' := hb9'.trans (hb10.mono hb9'.size)
  go_wp2_with fail
  go_ret
  exact ⟨rfl, hb10'⟩

theorem law_ParseBorn (x1 : ByteArray) (w : World) (_w1 : x1.size ≤ maxLen) (E : EnvT w) :
    Calls Tryd.prog 4 #[.string x1] w (Ret (.bool true) w) := by
  by_cases hx1 : 1048576 < x1.size
  · have hy1 : (1048576 : Int) < (x1.size : Int) := by omega
    go_enter Tryd.func4, Tryd.ntmps4
    go_wp2
    go_ret
    exact ⟨rfl, Below.refl _ _⟩
  replace hx1 : x1.size ≤ 1048576 := by omega
  obtain ⟨rs, ok, hr, hs, hi⟩ := parseBorn_both x1 hx1
  exact law_ParseBorn_of x1 rs ok hr hx1 w E hs hi
end Go.Proofs.YtadfojjglceheaaDoor
