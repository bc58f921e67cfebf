/- The statement on SameRatioYear, walked over the contracts of what it calls. -/
import Derived.Test.YtmidobhfahpkcaaSry2
set_option linter.unusedVariables false
set_option linter.unusedSimpArgs false
namespace Go.Proofs.Ytmidobhfahpkcaa
open Go.RowKit

set_option maxHeartbeats 1000000 in
theorem law_SameRatioYear_of (x1 : Int) (x2 : Int) (x3 : Int) (x4 : Int) (r1 r2 : Int) (ok : Bool) (w : World)
    (hs : ∀ w, Calls Try.prog 30 #[.int .i64 x1, .int .i64 x2, .int .i64 x3, .int .i64 x4] w (RetIIB r1 r2 ok w))
    (hi : ∀ w, Calls Try.prog 31 #[.int .i64 x1, .int .i64 x2, .int .i64 x3, .int .i64 x4] w (RetIIB r1 r2 ok w)) :
    Calls Try.prog 10 #[.int .i64 x1, .int .i64 x2, .int .i64 x3, .int .i64 x4] w (Ret (.bool true) w) := by
  have HS := Lib.hid hs
  have HI := Lib.hid hi
  clear hs hi
  go_enter Try.func10, Try.ntmps10
  go_wp2_with fail
  refine (HS.out _).mono ?_
  rintro e w2 ⟨rfl, hb2⟩
  go_wp2_with fail
  refine (HI.out _).mono ?_
  rintro e w4 ⟨rfl, hb4⟩
  have hb4' := hb2.trans (hb4.mono hb2.size)
  go_wp2_with fail
  go_ret
  exact ⟨rfl, hb4'⟩

theorem law_SameRatioYear (x1 : Int) (x2 : Int) (x3 : Int) (x4 : Int) (w : World) (_w1 : (Lit.int .i64 x1).wf = true) (_w2 : (Lit.int .i64 x2).wf = true) (_w3 : (Lit.int .i64 x3).wf = true) (_w4 : (Lit.int .i64 x4).wf = true) :
    Calls Try.prog 10 #[.int .i64 x1, .int .i64 x2, .int .i64 x3, .int .i64 x4] w (Ret (.bool true) w) := by
  obtain ⟨r1, r2, ok, hs, hi⟩ := sry_both x1 x2 x3 x4
  exact law_SameRatioYear_of x1 x2 x3 x4 r1 r2 ok w hs hi
end Go.Proofs.Ytmidobhfahpkcaa
