/- Days old, ages, days apart, days added, of the program. -/
import Derived.Test.YtbhceokapbnhhaaDoorIm1
import Derived.Test.YtbhceokapbnhhaaDoorBi5
set_option linter.unusedVariables false
set_option linter.unusedSimpArgs false
namespace Go.Proofs.YtbhceokapbnhhaaDoor
open Go.RowKit

theorem below_two {w a b c : World} (h : Below w.heap.size w a) (k : Below a.heap.size a b) (l : Below b.heap.size b c) : Below w.heap.size w c :=
  (h.trans (k.mono h.size)).trans (l.mono (h.trans (k.mono h.size)).size)
theorem below_twoD {w a b c : World} (h : Below w.heap.size w a) (k : Below a.drew.heap.size a.drew b) (l : Below b.heap.size b c) : Below w.heap.size w c :=
  (h.drew.trans (k.mono h.drew.size)).trans (l.mono (h.drew.trans (k.mono h.drew.size)).size)
theorem mid_date {p : Dt} (h : dateB p = true) : midI p.1 ∧ midI p.2 := by
  have := dateB_iff.1 h
  unfold midI
  omega
theorem old_no {b o : Dt} (h : bornD b o = false) : daysOldR b o = 0 := by unfold daysOldR; rw [h]; rfl
theorem old_yes {b o : Dt} (h : bornD b o = true) : daysOldR b o = dys o - dys b := by unfold daysOldR; rw [if_pos h]
theorem old_bounds (b o : Dt) : 0 ≤ daysOldR b o ∧ daysOldR b o ≤ 1095364 := by
  cases h : bornD b o with
  | false => rw [old_no h]; omega
  | true =>
    rw [old_yes h]
    obtain ⟨h1, h2, h3⟩ := bornD_parts h
    have := dys_bounds h1
    have := dys_bounds h2
    omega
theorem add_no1 {p : Dt} {n : Int} (h : addD p n = false) : addB p n = false ∧ addP p n = (0, 0) := by unfold addB addP; rw [h]; exact ⟨rfl, rfl⟩
theorem add_yes1 {p : Dt} {n : Int} (h : addD p n = true) : addB p n = backOk (dys p + n) ∧ addP p n = backD (dys p + n) := by unfold addB addP; rw [h]; exact ⟨rfl, rfl⟩
end Go.Proofs.YtbhceokapbnhhaaDoor
