/- All who are born, and sums of their ages, of the model. -/
import Derived.Test.YtbhceokapbnhhaaDoorBi3
set_option linter.unusedVariables false
set_option linter.unusedSimpArgs false
namespace Go.Proofs.YtbhceokapbnhhaaDoor
open Go.RowKit

theorem allBorn_parts {ds : List Dt} {o : Dt} (h : allBorn ds o = true) : birthsB ds = true ∧ ∀ j, j < ds.length → bornD (at2 ds j) o = true := by
  unfold allBorn at h
  rw [Bool.and_eq_true] at h
  exact ⟨h.1, (all_at (t := fun b => bornD b o)).1 h.2⟩
theorem allBorn_date {ds : List Dt} {o : Dt} (h : allBorn ds o = true) : dateB o = true := by
  have hp := allBorn_parts h
  exact (bornD_parts (hp.2 0 (by have := birthsB_len hp.1; omega))).2.1
/-- The sum of the ages of the first k. -/
def sumA (ds : List Dt) (o : Dt) : Nat → Int
  | 0 => 0
  | k + 1 => sumA ds o k + ageD (at2 ds k) o
theorem ageD_bounds {b o : Dt} (h : dateB b = true) (h2 : dateB o = true) : -3001 ≤ ageD b o ∧ ageD b o ≤ 3000 := by
  have h1 := dateB_iff.1 h
  have h3 := dateB_iff.1 h2
  unfold ageD
  split <;> omega
theorem sumA_bounds {ds : List Dt} {o : Dt} (hg : birthsB ds = true) (ho : dateB o = true) : ∀ k, k ≤ ds.length → -(3001 * (k : Int)) ≤ sumA ds o k ∧ sumA ds o k ≤ 3001 * (k : Int)
  | 0, _ => by simp [sumA]
  | k + 1, hk => by
    have := sumA_bounds hg ho k (by omega)
    have := ageD_bounds (birthsB_at hg k (by omega)) ho
    unfold sumA
    omega
def sumOnR (ds : List Dt) (o : Dt) : Int := if allBorn ds o = true then sumA ds o ds.length else 0
end Go.Proofs.YtbhceokapbnhhaaDoor
