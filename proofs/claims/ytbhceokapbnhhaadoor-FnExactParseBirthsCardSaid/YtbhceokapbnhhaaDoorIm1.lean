/- Days and dates, of the program. -/
import Derived.Test.YtbhceokapbnhhaaDoorImN
set_option linter.unusedVariables false
set_option linter.unusedSimpArgs false
namespace Go.Proofs.YtbhceokapbnhhaaDoor
open Go.RowKit

theorem imWithin_any (n lo hi : Int) (w : World) : Calls Tryd.prog 27 #[.int .i64 n, .int .i64 lo, .int .i64 hi] w (RetSame (.bool (inB n lo hi)) w) := by
  by_cases h1 : lo ≤ n
  · by_cases h2 : n ≤ hi
    · have e : inB n lo hi = true := inB_true h1 h2
      rw [e]; clear e
      go_enter Tryd.func27, Tryd.ntmps27
      go_wp2
      go_ret
      exact ⟨rfl, rfl⟩
    · have e : inB n lo hi = false := inB_not.2 (by omega)
      rw [e]; clear e
      go_enter Tryd.func27, Tryd.ntmps27
      go_wp2
      go_ret
      exact ⟨rfl, rfl⟩
  · have e : inB n lo hi = false := inB_not.2 (by omega)
    rw [e]; clear e
    go_enter Tryd.func27, Tryd.ntmps27
    go_wp2
    go_ret
    exact ⟨rfl, rfl⟩

set_option maxHeartbeats 1000000 in
theorem imIsDate_any (y d : Int) (w : World) : Calls Tryd.prog 28 #[.agg #[.int .i64 y, .int .i64 d]] w (Ret (.bool (dateB (y, d))) w) := by
  cases h1 : inB y 0 3000 with
  | false =>
    rw [show dateB (y, d) = false by unfold dateB; simp only; rw [h1]; rfl]
    go_enter Tryd.func28, Tryd.ntmps28
    go_wp2_with (go_at_call 27; refine (imWithin_any _ _ _ _).mono ?_; rintro e w' ⟨rfl, rfl⟩)
    go_ret
    exact ⟨rfl, (Below.refl w.heap.size w).alloc (Nat.le_refl _) _⟩
  | true =>
    rw [show dateB (y, d) = inB d 1 365 by unfold dateB; simp only; rw [h1]; rfl]
    go_enter Tryd.func28, Tryd.ntmps28
    go_wp2_with (go_at_call 27; refine (imWithin_any _ _ _ _).mono ?_; rintro e w' ⟨rfl, rfl⟩)
    go_ret
    exact ⟨rfl, (Below.refl w.heap.size w).alloc (Nat.le_refl _) _⟩



/-- Numbers that are no greater than the days of any date. -/
def midI (n : Int) : Prop := -10000000 ≤ n ∧ n ≤ 10000000
end Go.Proofs.YtbhceokapbnhhaaDoor
