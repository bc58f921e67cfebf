/- The statement on Anniversaries, walked over the contracts of what it calls. -/
import Derived.Test.YtadfojjglceheaaAn
set_option linter.unusedVariables false
set_option linter.unusedSimpArgs false
namespace Go.Proofs.Ytadfojjglceheaa
open Go.RowKit

set_option maxHeartbeats 1000000 in
theorem law_Anniversaries_of (x1 : Int) (x2 : Int) (x3 : Int) (x4 : Int) (rs : List Int) (ok : Bool) (hrs : rs.length ≤ 1048576) (w : World)
    (hs : ∀ w, Calls Try.prog 26 #[.int .i64 x1, .int .i64 x2, .int .i64 x3, .int .i64 x4] w (RetOwnB rs ok w))
    (hi : ∀ w, Calls Try.prog 27 #[.int .i64 x1, .int .i64 x2, .int .i64 x3, .int .i64 x4] w (RetOwnB rs ok w)) :
    Calls Try.prog 8 #[.int .i64 x1, .int .i64 x2, .int .i64 x3, .int .i64 x4] w (Ret (.bool true) w) := by
  have HS := Lib.hid hs
  have HI := Lib.hid hi
  clear hs hi
  go_enter Try.func8, Try.ntmps8
  go_wp2_with fail
  refine (HS.out _).mono ?_
  rintro e w2 ⟨vs, rfl, hr2, hb2⟩
  go_wp2_with fail
  refine (HI.out _).mono ?_
  rintro e w4 ⟨vi, rfl, hr4, hb4⟩
  have hb4' := hb2.trans (hb4.mono hb2.size)
  have hs4 := hr2.kept hb4
  go_wp2_with fail
  refine (eqIntS_any _ _ _ _ rs _ hrs hr4 hs4).mono ?_
  rintro e w5 ⟨rfl, hb5⟩
  have hb5' := hb4'.trans (hb5.mono hb4'.size)
  have hi5 := hr4.kept hb5
  have hs5 := hs4.kept hb5
  go_wp2_with fail
  refine (markIntS_any _ _ rs _ _ hrs (by omega) (by omega) hi5).mono ?_
  rintro e w6 ⟨rfl, hi6, hg6⟩
  have hb6' := below_ownAbove hb5' hi5 hg6 hb2.size
  go_wp2_with fail
  refine (heldIntS_any _ _ rs _ _ hrs (by omega) (by omega) hi6).mono ?_
  rintro e w7 ⟨rfl, hb7⟩
  have hb7' := hb6'.trans (hb7.mono hb6'.size)
  have hs7 := (hs5.grownV hg6 (hr2.ownNe (Nat.le_refl _) hr4)).kept hb7
  have hi7 := hi6.kept hb7
  go_wp2_with fail
  refine (HI.out _).mono ?_
  rintro e w8 ⟨vj, rfl, hr8, hb8⟩
  have hb8' := hb7'.trans (hb8.mono hb7'.size)
  go_wp2_with fail
  refine (eqIntS_any _ _ _ _ rs _ hrs hr8 (hs7.kept hb8)).mono ?_
  rintro e w9 ⟨rfl, hb9⟩
  have hb9' := hb8'.trans (hb9.mono hb8'.size)
  have hi9 := (hi7.kept hb8).kept hb9
  go_wp2_with fail
  refine (heldIntS_any _ _ rs _ _ hrs (by omega) (by omega) hi9).mono ?_
  rintro e w10 ⟨rfl, hb10⟩
  have hb10' := hb9'.trans (hb10.mono hb9'.size)
  go_wp2_with fail
  go_ret
  exact ⟨rfl, hb10'⟩

theorem law_Anniversaries (x1 : Int) (x2 : Int) (x3 : Int) (x4 : Int) (w : World) (_w1 : (Lit.int .i64 x1).wf = true) (_w2 : (Lit.int .i64 x2).wf = true) (_w3 : (Lit.int .i64 x3).wf = true) (_w4 : (Lit.int .i64 x4).wf = true) :
    Calls Try.prog 8 #[.int .i64 x1, .int .i64 x2, .int .i64 x3, .int .i64 x4] w (Ret (.bool true) w) := by
  obtain ⟨rs, ok, hr, hs, hi⟩ := anniv_both x1 x2 x3 x4
  exact law_Anniversaries_of x1 x2 x3 x4 rs ok hr w hs hi
end Go.Proofs.Ytadfojjglceheaa
