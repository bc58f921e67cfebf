/- Gaps of ages, of the model. -/
import Derived.Test.YtbhceokapbnhhaaDoorBi4
set_option linter.unusedVariables false
set_option linter.unusedSimpArgs false
namespace Go.Proofs.YtbhceokapbnhhaaDoor
open Go.RowKit

def gapB (a b : Dt) : Bool := twoD a b && decide (dys a ≤ dys b)
def gapLo (a b : Dt) : Int := if gapB a b = true then ageD a b else 0
def gapHi (a b : Dt) : Int := if gapB a b = true then (if a.2 = b.2 then ageD a b else ageD a b + 1) else 0
theorem gap_no {a b : Dt} (h : gapB a b = false) : gapLo a b = 0 ∧ gapHi a b = 0 := by
  unfold gapLo gapHi; rw [h]; exact ⟨rfl, rfl⟩
theorem gap_yes {a b : Dt} (h : gapB a b = true) : gapLo a b = ageD a b ∧ gapHi a b = if a.2 = b.2 then ageD a b else ageD a b + 1 := by
  unfold gapLo gapHi; rw [h]; exact ⟨rfl, rfl⟩
end Go.Proofs.YtbhceokapbnhhaaDoor
