/- Ratios and ages: both texts. -/
import Derived.Test.YtmidobhfahpkcaaRl
import Derived.Test.YtmidobhfahpkcaaRatHelp
set_option linter.unusedVariables false
set_option linter.unusedSimpArgs false
namespace Go.Proofs.Ytmidobhfahpkcaa
open Go.RowKit

set_option maxHeartbeats 1000000 in
theorem raGood_any (y d : Int) (w : World) : Calls Try.prog 49 #[.agg #[.int .i64 y, .int .i64 d]] w (Ret (.bool (ratB (y, d))) w) := by
  cases h1 : inB y 1 100 with
  | false =>
    rw [show ratB (y, d) = false by unfold ratB; simp only; rw [h1]; rfl]
    go_enter Try.func49, Try.ntmps49
    go_wp2_with (go_at_call 56; refine (l1In_any _ _ _ _).mono ?_; rintro e w' ⟨rfl, rfl⟩)
    go_ret
    exact ⟨rfl, (Below.refl w.heap.size w).alloc (Nat.le_refl _) _⟩
  | true =>
    rw [show ratB (y, d) = inB d 1 100 by unfold ratB; simp only; rw [h1]; rfl]
    go_enter Try.func49, Try.ntmps49
    go_wp2_with (go_at_call 56; refine (l1In_any _ _ _ _).mono ?_; rintro e w' ⟨rfl, rfl⟩)
    go_ret
    exact ⟨rfl, (Below.refl w.heap.size w).alloc (Nat.le_refl _) _⟩

set_option maxHeartbeats 1000000 in
theorem isRatio_any (y d : Int) (w : World) : Calls Try.prog 17 #[.agg #[.int .i64 y, .int .i64 d]] w (Ret (.bool (ratB (y, d))) w) := by
  cases h1 : inB y 1 100 with
  | false =>
    rw [show ratB (y, d) = false by unfold ratB; simp only; rw [h1]; rfl]
    go_enter Try.func17, Try.ntmps17
    go_wp2_with (go_at_call 50; refine (isWithin_any _ _ _ _).mono ?_; rintro e w' ⟨rfl, rfl⟩)
    go_ret
    exact ⟨rfl, (Below.refl w.heap.size w).alloc (Nat.le_refl _) _⟩
  | true =>
    rw [show ratB (y, d) = inB d 1 100 by unfold ratB; simp only; rw [h1]; rfl]
    go_enter Try.func17, Try.ntmps17
    go_wp2_with (go_at_call 50; refine (isWithin_any _ _ _ _).mono ?_; rintro e w' ⟨rfl, rfl⟩)
    go_ret
    exact ⟨rfl, (Below.refl w.heap.size w).alloc (Nat.le_refl _) _⟩

set_option maxHeartbeats 1000000 in
theorem specIsRatio_any (y d : Int) (w : World) : Calls Try.prog 15 #[.agg #[.int .i64 y, .int .i64 d]] w (Ret (.bool (ratB (y, d))) w) := by
  go_enter Try.func15, Try.ntmps15
  go_wp2_with (go_at_call 49; refine (raGood_any _ _ _).mono ?_; rintro e w' ⟨rfl, hcall⟩)
  go_ret
  exact ⟨rfl, ((Below.refl w.heap.size w).alloc (Nat.le_refl _) _).trans (hcall.mono (by simp))⟩

theorem isRatio_both (y d : Int) : ∃ ok : Bool, (∀ w, Calls Try.prog 15 #[.agg #[.int .i64 y, .int .i64 d]] w (Ret (.bool ok) w)) ∧ ∀ w, Calls Try.prog 17 #[.agg #[.int .i64 y, .int .i64 d]] w (Ret (.bool ok) w) :=
  ⟨_, fun w => specIsRatio_any y d w, fun w => isRatio_any y d w⟩

theorem raAge_any (n : Int) (w : World) : Calls Try.prog 51 #[.int .i64 n] w (RetSame (.bool (inB n 0 120)) w) := by
  go_enter Try.func51, Try.ntmps51
  go_wp2_with (go_at_call 56; refine (l1In_any _ _ _ _).mono ?_; rintro e w' ⟨rfl, rfl⟩)
  go_ret
  exact ⟨rfl, rfl⟩
theorem isAge_any (n : Int) (w : World) : Calls Try.prog 54 #[.int .i64 n] w (RetSame (.bool (inB n 0 120)) w) := by
  go_enter Try.func54, Try.ntmps54
  go_wp2_with (go_at_call 50; refine (isWithin_any _ _ _ _).mono ?_; rintro e w' ⟨rfl, rfl⟩)
  go_ret
  exact ⟨rfl, rfl⟩
theorem l1Least_any (a b : Int) (w : World) : Calls Try.prog 53 #[.int .i64 a, .int .i64 b] w (RetSame (.int .i64 (min a b)) w) := by
  generalize hm : min a b = m
  have H := Lib.hid hm
  clear hm
  go_enter Try.func53, Try.ntmps53
  go_wp2
  all_goals
    go_ret
    refine ⟨?_, rfl⟩
    refine congrArg (fun x => Ending.returned (.int .i64 x)) (?_ : _ = _)
    have := H.out
    omega
theorem l1Most_any (a b : Int) (w : World) : Calls Try.prog 77 #[.int .i64 a, .int .i64 b] w (RetSame (.int .i64 (max a b)) w) := by
  generalize hm : max a b = m
  have H := Lib.hid hm
  clear hm
  go_enter Try.func77, Try.ntmps77
  go_wp2
  all_goals
    go_ret
    refine ⟨?_, rfl⟩
    refine congrArg (fun x => Ending.returned (.int .i64 x)) (?_ : _ = _)
    have := H.out
    omega
end Go.Proofs.Ytmidobhfahpkcaa
