/- The least of three numbers, as the program reckons it. -/
import Derived.Test.YtmidobhfahpkcabGood
set_option linter.unusedVariables false
set_option linter.unusedSimpArgs false
namespace Go.Proofs.Ytmidobhfahpkcab
open Go.RowKit
theorem run_min3 (P : Program) (ts : Array TypeId) (t : TypeId) (a b c m : Int) (W : World) (h : m = min a (min b c)) :
    Sem.run P (Builtin.min_ ts t #[.int .i64 a, .int .i64 b, .int .i64 c]) W = Result.ok (.int .i64 m) W := by
  unfold Builtin.min_
  simp [go_sem, Builtin.min2]
  subst h
  by_cases h1 : b < a
  · by_cases h2 : c < b
    · simp only [if_pos h1, if_pos h2]; omega
    · simp only [if_pos h1, if_neg h2]; omega
  · by_cases h2 : c < a
    · simp only [if_neg h1, if_pos h2]; omega
    · simp only [if_neg h1, if_neg h2]; omega
end Go.Proofs.Ytmidobhfahpkcab
