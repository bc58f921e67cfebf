/- The statement on IsTalk, walked over the contracts of what it calls. -/
import Derived.Test.YtlfbhpeehidjhaaIsT
set_option linter.unusedVariables false
set_option linter.unusedSimpArgs false
namespace Go.Proofs.Ytlfbhpeehidjhaa
open Go.RowKit

set_option maxHeartbeats 1000000 in
theorem law_IsTalk (x1 : ByteArray) (w : World) (_w1 : x1.size ≤ maxLen) :
    Calls Try.prog 3 #[.string x1] w (Ret (.bool true) w) := by
  by_cases hb : x1.size ≤ 1048576
  · have hy : ¬ (1048576 : Int) < (x1.size : Int) := by omega
    have HS := Lib.hid (fun w => specIsTalk_any x1 w hb)
    have HI := Lib.hid (fun w => isTalk_any x1 w hb)
    generalize talkB x1 = t at HS HI
    go_enter Try.func3, Try.ntmps3
    go_wp2_with (first | (go_at_call 6; refine (HS.out _).mono ?_; rintro e w' ⟨rfl, rfl⟩) | (go_at_call 7; refine (HI.out _).mono ?_; rintro e w' ⟨rfl, rfl⟩))
    go_ret
    exact ⟨rfl, Below.refl _ _⟩
  · have hy : (1048576 : Int) < (x1.size : Int) := by omega
    clear hb
    go_enter Try.func3, Try.ntmps3
    go_wp2
    go_ret
    exact ⟨rfl, Below.refl _ _⟩
end Go.Proofs.Ytlfbhpeehidjhaa
