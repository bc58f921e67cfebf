/- The statement on RatiosInYears, walked over the contracts of what it calls. -/
import Derived.Test.YtmidobhfahpkcaaRi
set_option linter.unusedVariables false
set_option linter.unusedSimpArgs false
namespace Go.Proofs.Ytmidobhfahpkcaa
open Go.RowKit

set_option maxHeartbeats 1000000 in
theorem law_RatiosInYears_of (x1 : Int) (x2 : Int) (x3 : Int) (rs : List Dt) (ok : Bool) (hrs : rs.length ≤ 1048576) (w : World)
    (hs : ∀ w, Calls Try.prog 35 #[.int .i64 x1, .int .i64 x2, .int .i64 x3] w (RetOwnDB 25 rs ok w))
    (hi : ∀ w, Calls Try.prog 36 #[.int .i64 x1, .int .i64 x2, .int .i64 x3] w (RetOwnDB 25 rs ok w)) :
    Calls Try.prog 12 #[.int .i64 x1, .int .i64 x2, .int .i64 x3] w (Ret (.bool true) w) := by
  have HS := Lib.hid hs
  have HI := Lib.hid hi
  clear hs hi
  go_enter Try.func12, Try.ntmps12
  go_wp2_with fail
  refine (HS.out _).mono ?_
  rintro e w2 ⟨vs, rfl, hr2, hb2⟩
  go_wp2_with fail
  refine (HI.out _).mono ?_
  rintro e w4 ⟨vi, rfl, hr4, hb4⟩
  have hb4' := hb2.trans (hb4.mono hb2.size)
  have hs4 := hr2.kept hb4
  go_wp2_with fail
  refine (eqDateS_any _ _ _ _ _ _ rs _ hrs hr4 hs4).mono ?_
  rintro e w5 ⟨rfl, hb5⟩
  have hb5' := hb4'.trans (hb5.mono hb4'.size)
  have hi5 := hr4.kept hb5
  have hs5 := hs4.kept hb5
  go_wp2_with fail
  refine (markDateS_any _ _ rs _ _ hrs (by omega) (by omega) hi5).mono ?_
  rintro e w6 ⟨rfl, hi6, hg6⟩
  have hb6' := below_ownDAbove hb5' hi5 hg6 hb2.size
  go_wp2_with fail
  refine (heldDateS_any _ _ rs _ _ hrs (by omega) (by omega) hi6).mono ?_
  rintro e w7 ⟨rfl, hb7⟩
  have hb7' := hb6'.trans (hb7.mono hb6'.size)
  have hs7 := (hs5.grownV hg6 (hr2.ownNe (Nat.le_refl _) hr4)).kept hb7
  have hi7 := hi6.kept hb7
  go_wp2_with fail
  refine (HI.out _).mono ?_
  rintro e w8 ⟨vj, rfl, hr8, hb8⟩
  have hb8' := hb7'.trans (hb8.mono hb7'.size)
  go_wp2_with fail
  refine (eqDateS_any _ _ _ _ _ _ rs _ hrs hr8 (hs7.kept hb8)).mono ?_
  rintro e w9 ⟨rfl, hb9⟩
  have hb9' := hb8'.trans (hb9.mono hb8'.size)
  have hi9 := (hi7.kept hb8).kept hb9
  go_wp2_with fail
  refine (heldDateS_any _ _ rs _ _ hrs (by omega) (by omega) hi9).mono ?_
  rintro e w10 ⟨rfl, hb10⟩
  have hb10' := hb9'.trans (hb10.mono hb9'.size)
  go_wp2_with fail
  go_ret
  exact ⟨rfl, hb10'⟩

theorem law_RatiosInYears (x1 : Int) (x2 : Int) (x3 : Int) (w : World) (_w1 : (Lit.int .i64 x1).wf = true) (_w2 : (Lit.int .i64 x2).wf = true) (_w3 : (Lit.int .i64 x3).wf = true) :
    Calls Try.prog 12 #[.int .i64 x1, .int .i64 x2, .int .i64 x3] w (Ret (.bool true) w) := by
  obtain ⟨rs, ok, hr, hs, hi⟩ := ri_both x1 x2 x3
  exact law_RatiosInYears_of x1 x2 x3 rs ok hr w hs hi
end Go.Proofs.Ytmidobhfahpkcaa
