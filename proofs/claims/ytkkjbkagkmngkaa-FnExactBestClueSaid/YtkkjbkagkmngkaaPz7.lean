/- Hidden ages that fit clues: lists of them. No program. -/
import Derived.Test.YtkkjbkagkmngkaaPz4
import Derived.Test.YtkkjbkagkmngkaaAm0
set_option linter.unusedVariables false
set_option linter.unusedSimpArgs false
namespace Go.Proofs.Ytkkjbkagkmngkaa
open Go.RowKit

/-- Ages fit the first k clues. -/
def fitTo (cs : List Kn) (k : Nat) (l : List Int) : Bool := (List.range k).all fun j => fitI (at3 cs j) l
theorem fitTo_succ (cs : List Kn) (k : Nat) (l : List Int) : fitTo cs (k + 1) l = (fitTo cs k l && fitI (at3 cs k) l) := by
  unfold fitTo; rw [List.range_succ, List.all_append]; simp
theorem fitTo_at {cs : List Kn} {n : Nat} {l : List Int} (h : fitTo cs n l = true) (i : Nat) (hi : i < n) : fitI (at3 cs i) l = true := by
  unfold fitTo at h; rw [List.all_eq_true] at h; exact h i (List.mem_range.2 hi)
theorem fitTo_not {cs : List Kn} {n : Nat} {l : List Int} (i : Nat) (hi : i < n) (h : fitI (at3 cs i) l = false) : fitTo cs n l = false := by
  cases e : fitTo cs n l with
  | false => rfl
  | true => rw [fitTo_at e i hi] at h; exact absurd h (by simp)
/-- Ages fit all clues. -/
def fitB (cs : List Kn) (l : List Int) : Bool := fitTo cs cs.length l
/-- All hidden ages of n people, in order. -/
def ageR : List Int := (List.range 12).map fun (j : Nat) => (j : Int) + 1
def hidL : Nat → List (List Int)
  | 0 => [[]]
  | n + 1 => (hidL n).flatMap fun l => ageR.map fun a => l ++ [a]
/-- The model's gathering. -/
def lookX (q : List Int → Bool) : Nat → Nat → List Int → List (List Int)
  | 0, _, bgn => if q bgn = true then [bgn] else []
  | _ + 1, 0, _ => []
  | n + 1, k + 1, bgn => lookX q n 12 (bgn ++ [12 - (k : Int)]) ++ lookX q (n + 1) k bgn
theorem lookX_zero (q : List Int → Bool) (k : Nat) (bgn : List Int) : lookX q 0 k bgn = if q bgn = true then [bgn] else [] := by rw [lookX]
theorem lookX_none (q : List Int → Bool) (n : Nat) (bgn : List Int) : lookX q (n + 1) 0 bgn = [] := by rw [lookX]
theorem lookX_succ (q : List Int → Bool) (n k : Nat) (bgn : List Int) : lookX q (n + 1) (k + 1) bgn = lookX q n 12 (bgn ++ [12 - (k : Int)]) ++ lookX q (n + 1) k bgn := by rw [lookX]
theorem lookX_filter (q : List Int → Bool) : ∀ n k bgn, lookX q n k bgn = (lookX (fun _ => true) n k bgn).filter q
  | 0, k, bgn => by
    rw [lookX_zero, lookX_zero]
    cases h : q bgn <;> simp [h]
  | n + 1, 0, bgn => by rw [lookX_none, lookX_none]; rfl
  | n + 1, k + 1, bgn => by
    rw [lookX_succ, lookX_succ, List.filter_append, ← lookX_filter q n 12, ← lookX_filter q (n + 1) k]
def extL : Nat → List Int → List (List Int)
  | 0, b => [b]
  | n + 1, b => ageR.flatMap fun a => extL n (b ++ [a])
theorem ageR_eq : ageR = [1, 2, 3, 4, 5, 6, 7, 8, 9, 10, 11, 12] := by decide +kernel
theorem look_ext : ∀ n b, lookX (fun _ => true) n 12 b = extL n b
  | 0, b => by rw [lookX_zero]; rfl
  | n + 1, b => by
    rw [lookX_succ, lookX_succ, lookX_succ, lookX_succ, lookX_succ, lookX_succ, lookX_succ, lookX_succ, lookX_succ, lookX_succ, lookX_succ, lookX_succ, lookX_none]
    simp only [look_ext n]
    rw [extL, ageR_eq]
    simp only [List.flatMap_cons, List.flatMap_nil]
    rfl
theorem look2 : lookX (fun _ => true) 2 12 [] = hidL 2 := by rw [look_ext]; decide +kernel
set_option maxRecDepth 100000 in
theorem look3 : lookX (fun _ => true) 3 12 [] = hidL 3 := by rw [look_ext]; decide +kernel
/-- The solutions of clues. -/
def solL (n : Nat) (cs : List Kn) : List (List Int) := (hidL n).filter (fitB cs)
theorem look_sol (n : Nat) (h : n = 2 ∨ n = 3) (cs : List Kn) : lookX (fitB cs) n 12 [] = solL n cs := by
  unfold solL
  rw [lookX_filter]
  rcases h with rfl | rfl
  · rw [look2]
  · rw [look3]
theorem ageR_mem {a : Int} : a ∈ ageR ↔ 1 ≤ a ∧ a ≤ 12 := by
  unfold ageR
  rw [List.mem_map]
  constructor
  · rintro ⟨j, hj, rfl⟩
    have := List.mem_range.1 hj
    omega
  · intro h
    exact ⟨(a - 1).toNat, List.mem_range.2 (by omega), by omega⟩
theorem hidL_mem : ∀ n l, l ∈ hidL n → l.length = n ∧ ∀ x ∈ l, 1 ≤ x ∧ x ≤ 12
  | 0, l, h => by
    simp [hidL] at h
    subst h
    exact ⟨rfl, by simp⟩
  | n + 1, l, h => by
    rw [hidL, List.mem_flatMap] at h
    obtain ⟨m, hm, h2⟩ := h
    rw [List.mem_map] at h2
    obtain ⟨a, ha, rfl⟩ := h2
    obtain ⟨h3, h4⟩ := hidL_mem n m hm
    refine ⟨by simp [h3], fun x hx => ?_⟩
    rcases List.mem_append.1 hx with h | h
    · exact h4 x h
    · simp at h; subst h; exact ageR_mem.1 ha
theorem hidL_len2 : (hidL 2).length = 144 := by decide +kernel
set_option maxRecDepth 100000 in
theorem hidL_len3 : (hidL 3).length = 1728 := by decide +kernel
theorem hidL_len {n : Nat} (h : n ≤ 3) : (hidL n).length ≤ 1728 := by
  match n, h with
  | 0, _ => decide
  | 1, _ => decide
  | 2, _ => rw [hidL_len2]; omega
  | 3, _ => rw [hidL_len3]; omega
theorem hidL_hdn {n : Nat} (h : n = 2 ∨ n = 3) {l : List Int} (hl : l ∈ hidL n) : Hdn l := by
  obtain ⟨h1, h2⟩ := hidL_mem n l hl
  exact ⟨by omega, h2⟩
theorem hidL_getD (n i : Nat) (hi : i < (hidL n).length) : (hidL n).getD i [] ∈ hidL n := by
  simp only [List.getD_eq_getElem?_getD, List.getElem?_eq_getElem hi, Option.getD_some]
  exact List.getElem_mem hi
theorem famA_hid {n : Nat} (h : n = 2 ∨ n = 3) : FamA (hidL n) := by
  refine ⟨Nat.le_trans (hidL_len (by omega)) (by omega), fun i hi => ?_⟩
  have := hidL_hdn h (hidL_getD n i hi)
  exact ⟨this.kids, by have := this.1; omega⟩
theorem solL_len {n : Nat} (h : n ≤ 3) (cs : List Kn) : (solL n cs).length ≤ 1728 := Nat.le_trans (List.length_filter_le _ _) (hidL_len h)
theorem solL_hdn {n : Nat} (h : n = 2 ∨ n = 3) {cs : List Kn} {l : List Int} (hl : l ∈ solL n cs) : Hdn l ∧ l.length = n := by
  have hm := (List.mem_filter.1 hl).1
  exact ⟨hidL_hdn h hm, (hidL_mem n l hm).1⟩
theorem solL_at {n : Nat} (h : n = 2 ∨ n = 3) (cs : List Kn) (i : Nat) (hi : i < (solL n cs).length) : Hdn ((solL n cs).getD i []) ∧ ((solL n cs).getD i []).length = n := by
  refine solL_hdn h (cs := cs) ?_
  simp only [List.getD_eq_getElem?_getD, List.getElem?_eq_getElem hi, Option.getD_some]
  exact List.getElem_mem hi
theorem small_sol {n : Nat} (h : n = 2 ∨ n = 3) (cs : List Kn) : Small (solL n cs) := by
  refine ⟨Nat.le_trans (solL_len (by omega) cs) (by omega), fun i hi => ?_⟩
  have := (solL_at h cs i hi).2
  omega
end Go.Proofs.Ytkkjbkagkmngkaa
