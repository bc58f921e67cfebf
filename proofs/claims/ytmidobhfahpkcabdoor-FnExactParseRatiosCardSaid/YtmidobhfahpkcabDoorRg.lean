/- Ratios and ages: both texts. -/
import Derived.Test.YtmidobhfahpkcabDoorRl
import Derived.Test.YtmidobhfahpkcabDoorRatHelp
set_option linter.unusedVariables false
set_option linter.unusedSimpArgs false
namespace Go.Proofs.YtmidobhfahpkcabDoor
open Go.RowKit

set_option maxHeartbeats 1000000 in
theorem raGood_any (y d : Int) (w : World) : Calls Tryd.prog 25 #[.agg #[.int .i64 y, .int .i64 d]] w (Ret (.bool (ratB (y, d))) w) := by
  cases h1 : inB y 1 100 with
  | false =>
    rw [show ratB (y, d) = false by unfold ratB; simp only; rw [h1]; rfl]
    go_enter Tryd.func25, Tryd.ntmps25
    go_wp2_with (go_at_call 24; refine (l1In_any _ _ _ _).mono ?_; rintro e w' ⟨rfl, rfl⟩)
    go_ret
    exact ⟨rfl, (Below.refl w.heap.size w).alloc (Nat.le_refl _) _⟩
  | true =>
    rw [show ratB (y, d) = inB d 1 100 by unfold ratB; simp only; rw [h1]; rfl]
    go_enter Tryd.func25, Tryd.ntmps25
    go_wp2_with (go_at_call 24; refine (l1In_any _ _ _ _).mono ?_; rintro e w' ⟨rfl, rfl⟩)
    go_ret
    exact ⟨rfl, (Below.refl w.heap.size w).alloc (Nat.le_refl _) _⟩

set_option maxHeartbeats 1000000 in
theorem isRatio_any (y d : Int) (w : World) : Calls Tryd.prog 28 #[.agg #[.int .i64 y, .int .i64 d]] w (Ret (.bool (ratB (y, d))) w) := by
  cases h1 : inB y 1 100 with
  | false =>
    rw [show ratB (y, d) = false by unfold ratB; simp only; rw [h1]; rfl]
    go_enter Tryd.func28, Tryd.ntmps28
    go_wp2_with (go_at_call 27; refine (isWithin_any _ _ _ _).mono ?_; rintro e w' ⟨rfl, rfl⟩)
    go_ret
    exact ⟨rfl, (Below.refl w.heap.size w).alloc (Nat.le_refl _) _⟩
  | true =>
    rw [show ratB (y, d) = inB d 1 100 by unfold ratB; simp only; rw [h1]; rfl]
    go_enter Tryd.func28, Tryd.ntmps28
    go_wp2_with (go_at_call 27; refine (isWithin_any _ _ _ _).mono ?_; rintro e w' ⟨rfl, rfl⟩)
    go_ret
    exact ⟨rfl, (Below.refl w.heap.size w).alloc (Nat.le_refl _) _⟩

end Go.Proofs.YtmidobhfahpkcabDoor
