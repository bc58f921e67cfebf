/- The statement on LastDigitsYear, walked over the contracts of what it calls. -/
import Derived.Test.YtjabghojenhhiabNumB
set_option linter.unusedVariables false
set_option linter.unusedSimpArgs false
namespace Go.Proofs.Ytjabghojenhhiab
open Go.RowKit

set_option maxHeartbeats 1000000 in
theorem law_LastDigitsYear_of (x1 : Int) (r : Int) (ok : Bool) (w : World)
    (hs : ∀ w, Calls Try.prog 38 #[.int .i64 x1] w (RetIB r ok w))
    (hi : ∀ w, Calls Try.prog 39 #[.int .i64 x1] w (RetIB r ok w)) :
    Calls Try.prog 13 #[.int .i64 x1] w (Ret (.bool true) w) := by
  have HS := Lib.hid hs
  have HI := Lib.hid hi
  clear hs hi
  go_enter Try.func13, Try.ntmps13
  go_wp2_with fail
  refine (HS.out _).mono ?_
  rintro e w2 ⟨rfl, hb2⟩
  go_wp2_with fail
  refine (HI.out _).mono ?_
  rintro e w4 ⟨rfl, hb4⟩
  have hb4' := hb2.trans (hb4.mono hb2.size)
  go_wp2_with fail
  go_ret
  exact ⟨rfl, hb4'⟩

theorem law_LastDigitsYear (x1 : Int) (w : World) (_w1 : (Lit.int .i64 x1).wf = true) :
    Calls Try.prog 13 #[.int .i64 x1] w (Ret (.bool true) w) := by
  obtain ⟨r, ok, hs, hi⟩ := lastDigits_both x1
  exact law_LastDigitsYear_of x1 r ok w hs hi
end Go.Proofs.Ytjabghojenhhiab
