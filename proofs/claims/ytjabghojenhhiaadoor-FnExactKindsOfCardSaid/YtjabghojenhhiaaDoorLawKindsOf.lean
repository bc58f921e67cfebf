/- The statement on KindsOf, walked over the contracts of what it calls. -/
import Derived.Test.YtjabghojenhhiaaDoorKof
set_option linter.unusedVariables false
set_option linter.unusedSimpArgs false
namespace Go.Proofs.YtjabghojenhhiaaDoor
open Go.RowKit

set_option maxHeartbeats 1000000 in
theorem law_KindsOf_of (x1 : Int) (r : ByteArray) (ok : Bool) (w : World)
    (hs : ∀ w, Calls Tryd.prog 14 #[.int .i64 x1] w (RetSB r ok w))
    (hi : ∀ w, Calls Tryd.prog 15 #[.int .i64 x1] w (RetSB r ok w)) :
    Calls Tryd.prog 5 #[.int .i64 x1] w (Ret (.bool true) w) := by
  have HS := Lib.hid hs
  have HI := Lib.hid hi
  clear hs hi
  go_enter Tryd.func5, Tryd.ntmps5
  go_wp2_with fail
  refine (HS.out _).mono ?_
  rintro e w2 ⟨rfl, hb2⟩
  go_wp2_with fail
  refine (HI.out _).mono ?_
  rintro e w4 ⟨rfl, hb4⟩
  have hb4' := hb2.trans (hb4.mono hb2.size)
  go_wp2_with fail
  go_ret
  exact ⟨rfl, hb4'⟩

theorem law_KindsOf (x1 : Int) (w : World) (_w1 : (Lit.int .i64 x1).wf = true) :
    Calls Tryd.prog 5 #[.int .i64 x1] w (Ret (.bool true) w) := by
  obtain ⟨r, ok, hs, hi⟩ := kindsOf_both x1
  exact law_KindsOf_of x1 r ok w hs hi
end Go.Proofs.YtjabghojenhhiaaDoor
