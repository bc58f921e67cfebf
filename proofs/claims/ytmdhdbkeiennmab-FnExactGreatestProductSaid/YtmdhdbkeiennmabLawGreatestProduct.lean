/- The statement on GreatestProduct, walked over the contracts of what it calls. -/
import Derived.Test.YtmdhdbkeiennmabGp1
set_option linter.unusedVariables false
set_option linter.unusedSimpArgs false
namespace Go.Proofs.Ytmdhdbkeiennmab
open Go.RowKit

set_option maxHeartbeats 1000000 in
theorem law_GreatestProduct_of (x1 : Int) (x2 : Int) (r : Int) (ok : Bool) (w : World)
    (hs : ∀ w, Calls Try.prog 27 #[.int .i64 x1, .int .i64 x2] w (RetIB r ok w))
    (hi : ∀ w, Calls Try.prog 28 #[.int .i64 x1, .int .i64 x2] w (RetIB r ok w)) :
    Calls Try.prog 8 #[.int .i64 x1, .int .i64 x2] w (Ret (.bool true) w) := by
  have HS := Lib.hid hs
  have HI := Lib.hid hi
  clear hs hi
  go_enter Try.func8, Try.ntmps8
  go_wp2_with fail
  refine (HS.out _).mono ?_
  rintro e w2 ⟨rfl, hb2⟩
  go_wp2_with fail
  refine (HI.out _).mono ?_
  rintro e w4 ⟨rfl, hb4⟩
  have hb4' := hb2.trans (hb4.mono hb2.size)
  go_wp2_with fail
  go_ret
  exact ⟨rfl, hb4'⟩

theorem law_GreatestProduct (x1 : Int) (x2 : Int) (w : World) (_w1 : (Lit.int .i64 x1).wf = true) (_w2 : (Lit.int .i64 x2).wf = true) :
    Calls Try.prog 8 #[.int .i64 x1, .int .i64 x2] w (Ret (.bool true) w) := by
  obtain ⟨r, ok, hs, hi⟩ := greatest_both x1 x2
  exact law_GreatestProduct_of x1 x2 r ok w hs hi
end Go.Proofs.Ytmdhdbkeiennmab
