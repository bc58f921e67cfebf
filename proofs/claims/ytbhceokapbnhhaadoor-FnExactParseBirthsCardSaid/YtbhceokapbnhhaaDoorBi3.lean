/- Questions about one date or two, of the model. -/
import Derived.Test.YtbhceokapbnhhaaDoorBi2
set_option linter.unusedVariables false
set_option linter.unusedSimpArgs false
namespace Go.Proofs.YtbhceokapbnhhaaDoor
open Go.RowKit

theorem bornD_parts {b o : Dt} (h : bornD b o = true) : dateB b = true ∧ dateB o = true ∧ dys b ≤ dys o := by
  unfold bornD at h
  rw [Bool.and_eq_true, Bool.and_eq_true] at h
  exact ⟨h.1.1, h.1.2, of_decide_eq_true h.2⟩
def ageOnR (b o : Dt) : Int := if bornD b o = true then ageD b o else 0
def daysOldR (b o : Dt) : Int := if bornD b o = true then dys o - dys b else 0
end Go.Proofs.YtbhceokapbnhhaaDoor
