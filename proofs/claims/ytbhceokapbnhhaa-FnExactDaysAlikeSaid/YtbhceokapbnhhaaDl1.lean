/- The days on which two people are of one age: by parts of a year, on each of which the ages stand still. Plain lemmas. -/
import Derived.Test.YtbhceokapbnhhaaBi14
set_option linter.unusedVariables false
set_option linter.unusedSimpArgs false
namespace Go.Proofs.Ytbhceokapbnhhaa
open Go.RowKit

theorem alikeN_run (a b : Dt) (yr : Int) (lo : Nat) : ∀ m, (∀ k, lo ≤ k → k < lo + m → ageD a (yr, (k : Int) + 1) = ageD a (yr, (lo : Int) + 1) ∧ ageD b (yr, (k : Int) + 1) = ageD b (yr, (lo : Int) + 1)) →
    alikeN a b yr (lo + m) = alikeN a b yr lo + (if ageD a (yr, (lo : Int) + 1) = ageD b (yr, (lo : Int) + 1) then (m : Int) else 0)
  | 0, _ => by simp
  | m + 1, h => by
    have h1 := alikeN_run a b yr lo m fun k hk1 hk2 => h k hk1 (by omega)
    have h2 := h (lo + m) (by omega) (by omega)
    rw [← Nat.add_assoc]
    show alikeN a b yr (lo + m) + (if ageD a (yr, ((lo + m : Nat) : Int) + 1) = ageD b (yr, ((lo + m : Nat) : Int) + 1) then 1 else 0) = _
    rw [h2.1, h2.2, h1]
    by_cases he : ageD a (yr, (lo : Int) + 1) = ageD b (yr, (lo : Int) + 1)
    · rw [if_pos he, if_pos he, if_pos he]; omega
    · rw [if_neg he, if_neg he, if_neg he]; omega
/-- The part from lo to hi counts whole, or not at all. -/
def partN (a b : Dt) (yr : Int) (lo hi : Nat) : Int := if lo < hi ∧ ageD a (yr, (lo : Int) + 1) = ageD b (yr, (lo : Int) + 1) then ((hi - lo : Nat) : Int) else 0
theorem partN_bounds (a b : Dt) (yr : Int) (lo hi : Nat) : 0 ≤ partN a b yr lo hi ∧ partN a b yr lo hi ≤ (hi : Int) := by
  unfold partN
  split <;> omega
theorem partN_none {a b : Dt} {yr : Int} {lo hi : Nat} (h : hi - lo = 0) : partN a b yr lo hi = 0 := by
  unfold partN; rw [if_neg (by omega)]
theorem partN_yes {a b : Dt} {yr : Int} {lo hi : Nat} (h : 0 < hi - lo) (he : ageD a (yr, (lo : Int) + 1) = ageD b (yr, (lo : Int) + 1)) : partN a b yr lo hi = ((hi - lo : Nat) : Int) := by
  unfold partN; rw [if_pos ⟨by omega, he⟩]
theorem partN_no {a b : Dt} {yr : Int} {lo hi : Nat} (he : ¬ ageD a (yr, (lo : Int) + 1) = ageD b (yr, (lo : Int) + 1)) : partN a b yr lo hi = 0 := by
  unfold partN; rw [if_neg (fun (x : _ ∧ _) => he x.2)]
theorem alikeN_part (a b : Dt) (yr : Int) (lo hi : Nat) (h0 : lo ≤ hi) (h : ∀ k, lo ≤ k → k < hi → ((k : Int) + 1 < a.2 ↔ (lo : Int) + 1 < a.2) ∧ ((k : Int) + 1 < b.2 ↔ (lo : Int) + 1 < b.2)) :
    alikeN a b yr hi = alikeN a b yr lo + partN a b yr lo hi := by
  have hr := alikeN_run a b yr lo (hi - lo) fun k hk1 hk2 => by
    have := h k hk1 (by omega)
    unfold ageD
    simp only
    constructor
    · split <;> split <;> first | rfl | omega
    · split <;> split <;> first | rfl | omega
  rw [show lo + (hi - lo) = hi by omega] at hr
  rw [hr]
  congr 1
  unfold partN
  by_cases hlt : lo < hi
  · by_cases he : ageD a (yr, (lo : Int) + 1) = ageD b (yr, (lo : Int) + 1)
    · rw [if_pos he, if_pos ⟨hlt, he⟩]
    · rw [if_neg he, if_neg (fun (x : _ ∧ _) => he x.2)]
  · rw [if_neg (fun (x : _ ∧ _) => hlt x.1)]
    split <;> omega
/-- The first part ends ahead of the first birthday, the second one ahead of the second. -/
theorem alikeN_parts (a b : Dt) (yr : Int) (f s : Nat) (hf : (f : Int) + 1 = min a.2 b.2) (hs : (s : Int) + 1 = max a.2 b.2) (h365 : s ≤ 365) :
    alikeN a b yr 365 = partN a b yr 0 f + partN a b yr f s + partN a b yr s 365 := by
  have hfs : f ≤ s := by omega
  have h1 := alikeN_part a b yr 0 f (by omega) (fun k _ hk => by omega)
  have h2 := alikeN_part a b yr f s hfs (fun k hk1 hk2 => by
    rcases Int.le_total a.2 b.2 with h | h
    · rw [Int.min_eq_left h] at hf; rw [Int.max_eq_right h] at hs; omega
    · rw [Int.min_eq_right h] at hf; rw [Int.max_eq_left h] at hs; omega)
  have h3 := alikeN_part a b yr s 365 h365 (fun k hk1 hk2 => by
    rcases Int.le_total a.2 b.2 with h | h
    · rw [Int.max_eq_right h] at hs; omega
    · rw [Int.max_eq_left h] at hs; omega)
  rw [h3, h2, h1]
  show alikeN a b yr 0 + _ + _ + _ = _
  rw [show alikeN a b yr 0 = 0 from rfl, Int.zero_add]
/-- Whole years between, by the days between. -/
theorem years_age {a o : Dt} (ha : dateB a = true) (ho : 1 ≤ o.2 ∧ o.2 ≤ 365) (h : a.1 < o.1) : (dys o - dys a).tdiv 365 = ageD a o := by
  have hb := dateB_iff.1 ha
  have h0 : 0 ≤ dys o - dys a := by unfold dys; omega
  rw [Int.tdiv_eq_ediv_of_nonneg h0]
  unfold dys ageD
  split <;> omega
end Go.Proofs.Ytbhceokapbnhhaa
