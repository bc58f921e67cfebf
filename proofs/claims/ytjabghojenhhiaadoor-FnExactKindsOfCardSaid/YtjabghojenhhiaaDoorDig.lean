/- The sum of a number's digits, and turned ages: both texts. -/
import Derived.Test.YtjabghojenhhiaaDoorGood
set_option linter.unusedVariables false
set_option linter.unusedSimpArgs false
namespace Go.Proofs.YtjabghojenhhiaaDoor
open Go.RowKit

/-- The sum of the decimal digits. -/
def ds (n : Nat) : Nat := if h : n = 0 then 0 else n % 10 + ds (n / 10)
termination_by n
decreasing_by omega
theorem ds_zero : ds 0 = 0 := by rw [ds]; simp
theorem ds_step {n : Nat} (h : 0 < n) : ds n = n % 10 + ds (n / 10) := by
  rw [ds]
  rw [dif_neg (by omega)]
theorem ds_le : ∀ n, ds n ≤ n := by
  intro n
  induction n using Nat.strongRecOn with
  | _ n ih =>
    by_cases h : n = 0
    · subst h; rw [ds_zero]; omega
    · rw [ds_step (by omega)]
      have := ih (n / 10) (by omega)
      omega
def dsI (n : Int) : Int := (ds n.toNat : Nat)
theorem dsI_bd {n : Int} (h0 : 0 ≤ n) : 0 ≤ dsI n ∧ dsI n ≤ n := by
  unfold dsI
  have := ds_le n.toNat
  omega
/-- What is summed so far and what is left make the whole. -/
def SumLeft (N : Nat) (n s : Nat) : Prop := s + ds n = ds N ∧ n ≤ N
theorem sumLeft_step {N n s : Nat} (h : SumLeft N n s) (h0 : 0 < n) : SumLeft N (n / 10) (s + n % 10) := by
  obtain ⟨h1, h2⟩ := h
  rw [ds_step h0] at h1
  exact ⟨by omega, by omega⟩
theorem sumLeft_bd {N n s : Nat} (h : SumLeft N n s) : s ≤ N ∧ n ≤ N := by
  have := ds_le N
  obtain ⟨h1, h2⟩ := h
  exact ⟨by omega, h2⟩
theorem sumLeft_end {N s : Nat} (h : SumLeft N 0 s) : (s : Int) = dsI (N : Int) := by
  obtain ⟨h1, _⟩ := h
  rw [ds_zero] at h1
  unfold dsI
  simp; omega
theorem retInt {k : IntKind} {a b : Int} (h : a = b) : Ending.returned (.int k a) = .returned (.int k b) := by rw [h]

end Go.Proofs.YtjabghojenhhiaaDoor
