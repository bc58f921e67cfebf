/- A search in breadth over numbers below 15, whose lines are the least ones: fewest steps, and of several lists the first one. Plain lists, no program. -/
import Derived.Test.YtmlcelleohhmcaaKit
set_option linter.unusedVariables false
set_option linter.unusedSimpArgs false
namespace Go.Proofs.Ytmlcelleohhmcaa
open Go Go.RowKit

/-- A line as a number: a shorter one is less, and of as long ones the first one. -/
def cd (l : List Nat) : Nat := l.foldl (fun a x => 16 * a + x) 1
theorem cd_nil : cd [] = 1 := rfl
theorem cd_one (a : Nat) : cd [a] = 16 + a := by unfold cd; simp
theorem cd_snoc (l : List Nat) (x : Nat) : cd (l ++ [x]) = 16 * cd l + x := by unfold cd; rw [List.foldl_append]; rfl
theorem cd_pos (l : List Nat) : 1 ≤ cd l := by
  have : ∀ (l : List Nat) (a : Nat), 1 ≤ a → 1 ≤ l.foldl (fun a x => 16 * a + x) a := by
    intro l
    induction l with
    | nil => intro a h; exact h
    | cons x l ih => intro a h; rw [List.foldl_cons]; exact ih _ (by omega)
  exact this l 1 (Nat.le_refl _)
/-- Steps lead along a list from a to its end. -/
inductive Pth (st : Nat → Nat → Bool) (N a : Nat) : List Nat → Nat → Prop
  | one : Pth st N a [a] a
  | snoc {l : List Nat} {p t : Nat} : Pth st N a l p → st p t = true → t < N → Pth st N a (l ++ [t]) t
theorem Pth.lt {st : Nat → Nat → Bool} {N a : Nat} (ha : a < N) {l : List Nat} {t : Nat} (h : Pth st N a l t) : t < N := by
  cases h with
  | one => exact ha
  | snoc _ _ h => exact h
theorem Pth.ne {st : Nat → Nat → Bool} {N a : Nat} {l : List Nat} {t : Nat} (h : Pth st N a l t) : l ≠ [] := by
  cases h <;> simp
/-- Lines (none: the empty one), the queue, and the number of the last one that was visited. -/
structure Bfs (st : Nat → Nat → Bool) (N a : Nat) (ln : Nat → List Nat) (q : List Nat) (c : Nat) : Prop where
  start : ln a ≠ []
  path : ∀ t, ln t ≠ [] → Pth st N a (ln t) t
  least : ∀ t l, ln t ≠ [] → Pth st N a l t → cd (ln t) ≤ cd l
  met : ∀ t, t ∈ q → ln t ≠ []
  band : ∀ t, t ∈ q → c < cd (ln t) ∧ cd (ln t) < 16 * c + 16
  sorted : q.Pairwise fun x y => cd (ln x) < cd (ln y)
  done : ∀ p t, ln p ≠ [] → p ∉ q → st p t = true → t < N → ln t ≠ []
  past : ∀ p, ln p ≠ [] → p ∉ q → cd (ln p) ≤ c
theorem bfs_start (st : Nat → Nat → Bool) (N a : Nat) (ha : a < N) (h15 : N ≤ 15) : Bfs st N a (fun x => if x = a then [a] else []) [a] 1 := by
  refine ⟨by simp, fun t h => ?_, fun t l h hl => ?_, fun t h => ?_, fun t h => ?_, by simp, fun p t h1 h2 _ _ => ?_, fun p h1 h2 => ?_⟩
  · by_cases e : t = a
    · subst e; simp; exact Pth.one
    · simp [e] at h
  · by_cases e : t = a
    · subst e
      simp only [if_true]
      cases hl with
      | one => exact Nat.le_refl _
      | @snoc l p _ h1 h2 h3 => rw [cd_snoc, cd_one]; have := cd_pos l; omega
    · simp [e] at h
  · simp at h; simp [h]
  · simp at h; subst h; simp only [if_true, cd_one]; omega
  · by_cases e : p = a
    · exact absurd (by simp [e]) h2
    · simp [e] at h1
  · by_cases e : p = a
    · exact absurd (by simp [e]) h2
    · simp [e] at h1
/-- A line to somebody who has not been visited is no less than that of the head of the queue. -/
theorem Bfs.front {st : Nat → Nat → Bool} {N a : Nat} {ln : Nat → List Nat} {u : Nat} {q : List Nat} {c : Nat} (h : Bfs st N a ln (u :: q) c) :
    ∀ {l : List Nat} {t : Nat}, Pth st N a l t → (ln t = [] ∨ t ∈ u :: q) → cd (ln u) ≤ cd l := by
  have hq : ∀ t, t ∈ u :: q → cd (ln u) ≤ cd (ln t) := by
    intro t ht
    rcases List.mem_cons.1 ht with rfl | ht
    · exact Nat.le_refl _
    · exact Nat.le_of_lt ((List.pairwise_cons.1 h.sorted).1 t ht)
  intro l t hl
  induction hl with
  | one =>
    intro ht
    rcases ht with ht | ht
    · exact absurd ht h.start
    · exact Nat.le_trans (hq _ ht) (h.least _ _ h.start Pth.one)
  | @snoc l p t hp hs ht ih =>
    intro hnt
    rcases hnt with hnt | hnt
    · have hpp : ln p = [] ∨ p ∈ u :: q := by
        by_cases e1 : ln p = []
        · exact .inl e1
        · by_cases e2 : p ∈ u :: q
          · exact .inr e2
          · exact absurd hnt (h.done p t e1 e2 hs ht)
      have := ih hpp
      rw [cd_snoc]; omega
    · exact Nat.le_trans (hq _ hnt) (h.least _ _ (h.met _ hnt) (Pth.snoc hp hs ht))
/-- The lines when the first k numbers have been looked at from u. -/
def vL (st : Nat → Nat → Bool) (ln : Nat → List Nat) (u k x : Nat) : List Nat := if x < k ∧ ln x = [] ∧ st u x = true then ln u ++ [x] else ln x
def vQ (st : Nat → Nat → Bool) (ln : Nat → List Nat) (u k : Nat) : List Nat := (List.range k).filter fun x => (ln x).isEmpty && st u x
theorem vL_zero (st : Nat → Nat → Bool) (ln : Nat → List Nat) (u x : Nat) : vL st ln u 0 x = ln x := by unfold vL; rw [if_neg (by omega)]
theorem vQ_zero (st : Nat → Nat → Bool) (ln : Nat → List Nat) (u : Nat) : vQ st ln u 0 = [] := rfl
theorem vL_same (st : Nat → Nat → Bool) (ln : Nat → List Nat) (u k : Nat) : vL st ln u k k = ln k := by unfold vL; rw [if_neg (by omega)]
theorem vL_take {st : Nat → Nat → Bool} {ln : Nat → List Nat} {u k : Nat} (h1 : ln k = []) (h2 : st u k = true) : (∀ x, vL st ln u (k + 1) x = if x = k then ln u ++ [k] else vL st ln u k x) ∧ vQ st ln u (k + 1) = vQ st ln u k ++ [k] := by
  constructor
  · intro x
    unfold vL
    by_cases e : x = k
    · subst e; rw [if_pos ⟨by omega, h1, h2⟩, if_pos rfl]
    · rw [if_neg e]
      by_cases h : x < k ∧ ln x = [] ∧ st u x = true
      · rw [if_pos h, if_pos ⟨by omega, h.2⟩]
      · rw [if_neg h, if_neg (fun h' => h ⟨by omega, h'.2⟩)]
  · unfold vQ; rw [List.range_succ, List.filter_append]; simp [h1, h2]
theorem vL_skip {st : Nat → Nat → Bool} {ln : Nat → List Nat} {u k : Nat} (h : ¬ (ln k = [] ∧ st u k = true)) : (∀ x, vL st ln u (k + 1) x = vL st ln u k x) ∧ vQ st ln u (k + 1) = vQ st ln u k := by
  constructor
  · intro x
    unfold vL
    by_cases e : x = k
    · subst e; rw [if_neg (fun h' => h h'.2), if_neg (by omega)]
    · by_cases h3 : x < k ∧ ln x = [] ∧ st u x = true
      · rw [if_pos h3, if_pos ⟨by omega, h3.2⟩]
      · rw [if_neg h3, if_neg (fun h' => h3 ⟨by omega, h'.2⟩)]
  · unfold vQ
    rw [List.range_succ, List.filter_append]
    have hz : ((ln k).isEmpty && st u k) = false := by
      cases h1 : (ln k).isEmpty with
      | false => rfl
      | true =>
        cases h2 : st u k with
        | false => rfl
        | true => exact absurd ⟨List.isEmpty_iff.1 h1, h2⟩ h
    simp [hz]
theorem vQ_mem {st : Nat → Nat → Bool} {ln : Nat → List Nat} {u k x : Nat} : x ∈ vQ st ln u k ↔ x < k ∧ ln x = [] ∧ st u x = true := by
  unfold vQ
  rw [List.mem_filter]
  simp
theorem vL_old {st : Nat → Nat → Bool} {ln : Nat → List Nat} {u k x : Nat} (h : ln x ≠ []) : vL st ln u k x = ln x := by unfold vL; rw [if_neg (fun h' => h h'.2.1)]
theorem vL_new {st : Nat → Nat → Bool} {ln : Nat → List Nat} {u k x : Nat} (h : x ∈ vQ st ln u k) : vL st ln u k x = ln u ++ [x] := by unfold vL; rw [if_pos (vQ_mem.1 h)]
theorem vL_cases {st : Nat → Nat → Bool} {ln : Nat → List Nat} {u k x : Nat} (h : vL st ln u k x ≠ []) : ln x ≠ [] ∨ x ∈ vQ st ln u k := by
  by_cases h1 : ln x = []
  · right
    unfold vL at h
    by_cases h2 : x < k ∧ ln x = [] ∧ st u x = true
    · exact vQ_mem.2 h2
    · rw [if_neg h2] at h; exact absurd h1 h
  · exact .inl h1
/-- All numbers have been looked at from the head of the queue. -/
theorem Bfs.visit {st : Nat → Nat → Bool} {N a : Nat} {ln : Nat → List Nat} {u : Nat} {q : List Nat} {c : Nat} (h15 : N ≤ 15) (h : Bfs st N a ln (u :: q) c) : Bfs st N a (vL st ln u N) (q ++ vQ st ln u N) (cd (ln u)) := by
  have hu : ln u ≠ [] := h.met u (by simp)
  have hc := h.band u (by simp)
  have hlt : ∀ t, t ∈ q → cd (ln u) < cd (ln t) := (List.pairwise_cons.1 h.sorted).1
  have hso := (List.pairwise_cons.1 h.sorted).2
  have hnu : u ∉ q := fun e => Nat.lt_irrefl _ (hlt u e)
  have hnew : ∀ t, t ∈ vQ st ln u N → cd (vL st ln u N t) = 16 * cd (ln u) + t ∧ t < N := fun t ht => by
    rw [vL_new ht, cd_snoc]; exact ⟨rfl, (vQ_mem.1 ht).1⟩
  refine ⟨by rw [vL_old h.start]; exact h.start, fun t ht => ?_, fun t l ht hl => ?_, fun t ht => ?_, fun t ht => ?_, ?_, fun p t h1 h2 hs ht => ?_, fun p h1 h2 => ?_⟩
  · rcases vL_cases ht with h1 | h1
    · rw [vL_old h1]; exact h.path t h1
    · rw [vL_new h1]; exact Pth.snoc (h.path u hu) (vQ_mem.1 h1).2.2 (vQ_mem.1 h1).1
  · rcases vL_cases ht with h1 | h1
    · rw [vL_old h1]; exact h.least t l h1 hl
    · rw [vL_new h1, cd_snoc]
      have h2 := vQ_mem.1 h1
      cases hl with
      | one => exact absurd h2.2.1 h.start
      | @snoc l p _ hp hs hlt' =>
        have hpp : ln p = [] ∨ p ∈ u :: q := by
          by_cases e1 : ln p = []
          · exact .inl e1
          · by_cases e2 : p ∈ u :: q
            · exact .inr e2
            · exact absurd h2.2.1 (h.done p t e1 e2 hs hlt')
        have := h.front hp hpp
        rw [cd_snoc]; omega
  · rcases List.mem_append.1 ht with ht | ht
    · rw [vL_old (h.met t (by simp [ht]))]; exact h.met t (by simp [ht])
    · rw [vL_new ht]; simp
  · rcases List.mem_append.1 ht with ht | ht
    · have h1 := h.met t (by simp [ht])
      have h2 := h.band t (by simp [ht])
      rw [vL_old h1]
      have := hlt t ht
      omega
    · obtain ⟨e1, e2⟩ := hnew t ht
      rw [e1]
      have := cd_pos (ln u)
      omega
  · rw [List.pairwise_append]
    refine ⟨?_, ?_, fun x hx y hy => ?_⟩
    · refine hso.imp_of_mem ?_
      intro x y hx hy hxy
      rw [vL_old (h.met x (by simp [hx])), vL_old (h.met y (by simp [hy]))]
      exact hxy
    · have hr : (vQ st ln u N).Pairwise (· < ·) := by unfold vQ; exact List.Pairwise.filter _ List.pairwise_lt_range
      refine hr.imp_of_mem ?_
      intro x y hx hy hxy
      rw [(hnew x hx).1, (hnew y hy).1]
      omega
    · rw [vL_old (h.met x (by simp [hx])), (hnew y hy).1]
      have := h.band x (by simp [hx])
      omega
  · have hpo : ln p ≠ [] := by
      rcases vL_cases h1 with h3 | h3
      · exact h3
      · exact absurd (List.mem_append_right q h3) h2
    by_cases hpu : p = u
    · subst hpu
      by_cases h4 : ln t = []
      · have : t ∈ vQ st ln p N := vQ_mem.2 ⟨ht, h4, hs⟩
        rw [vL_new this]; simp
      · rw [vL_old h4]; exact h4
    · have h5 : p ∉ u :: q := fun e => by
        rcases List.mem_cons.1 e with e | e
        · exact hpu e
        · exact h2 (List.mem_append_left _ e)
      have h6 := h.done p t hpo h5 hs ht
      rw [vL_old h6]; exact h6
  · rcases vL_cases h1 with h3 | h3
    · rw [vL_old h3]
      by_cases hpu : p = u
      · subst hpu; exact Nat.le_refl _
      · have h5 : p ∉ u :: q := fun e => by
          rcases List.mem_cons.1 e with e | e
          · exact hpu e
          · exact h2 (List.mem_append_left _ e)
        have := h.past p h3 h5
        omega
    · exact absurd (List.mem_append_right q h3) h2
/-- Nobody waits: all to whom steps lead have been met, by the least lines. -/
theorem Bfs.reach {st : Nat → Nat → Bool} {N a : Nat} {ln : Nat → List Nat} {c : Nat} (h : Bfs st N a ln [] c) {l : List Nat} {t : Nat} (hl : Pth st N a l t) : ln t ≠ [] := by
  induction hl with
  | one => exact h.start
  | snoc hp hs ht ih => exact h.done _ _ ih (by simp) hs ht
/-- How many have not been met. -/
def unm (ln : Nat → List Nat) (N : Nat) : Nat := ((List.range N).filter fun x => (ln x).isEmpty).length
theorem unm_visit (st : Nat → Nat → Bool) (ln : Nat → List Nat) (u N : Nat) : unm (vL st ln u N) N + (vQ st ln u N).length = unm ln N := by
  have hm : ∀ x, x < N → (vL st ln u N x).isEmpty = ((ln x).isEmpty && !(st u x)) := by
    intro x hx
    unfold vL
    by_cases h : x < N ∧ ln x = [] ∧ st u x = true
    · rw [if_pos h, h.2.1, h.2.2]; simp
    · rw [if_neg h]
      cases h1 : (ln x).isEmpty with
      | false => rfl
      | true =>
        cases h2 : st u x with
        | false => rfl
        | true => exact absurd ⟨hx, List.isEmpty_iff.1 h1, h2⟩ h
  unfold unm vQ
  have e : (List.range N).filter (fun x => (vL st ln u N x).isEmpty) = ((List.range N).filter fun x => (ln x).isEmpty).filter fun x => !(st u x) := by
    rw [List.filter_filter]
    apply List.filter_congr
    intro x hx
    rw [hm x (by simpa using hx), Bool.and_comm]
  have e2 : (List.range N).filter (fun x => (ln x).isEmpty && st u x) = ((List.range N).filter fun x => (ln x).isEmpty).filter fun x => st u x := by
    rw [List.filter_filter]
    apply List.filter_congr
    intro x _
    rw [Bool.and_comm]
  rw [e, e2]
  generalize (List.range N).filter (fun x => (ln x).isEmpty) = L
  induction L with
  | nil => rfl
  | cons x L ih =>
    simp only [List.filter_cons]
    cases st u x <;> simp <;> omega
end Go.Proofs.Ytmlcelleohhmcaa
