/- Lists of lists of numbers that a call owns, and the statements' helpers on them. -/
import Derived.Test.YtkkjbkagkmngkaaHelp
set_option linter.unusedVariables false
set_option linter.unusedSimpArgs false
namespace Go.Proofs.Ytkkjbkagkmngkaa
open Go.RowKit

/-- A slice of slices in blocks from B up to U, whose rows are the values vs with the numbers rss, no two in one block. -/
structure OwnSS (B U : Nat) (w : World) (v : Value) (vs : List Value) (rss : List (List Int)) : Prop where
  len : vs.length = rss.length
  outer : w.ownsRow B 41 1 v vs.length vs
  obl : ∀ g, v.ownBlock = some g → g < U
  row : ∀ i, i < rss.length → Own B w (vs.getD i (.slice none 0 0)) (rss.getD i [])
  rbl : ∀ i, i < rss.length → ∀ g, (vs.getD i (.slice none 0 0)).ownBlock = some g → g < U
  apart : ∀ i j, i < rss.length → j < rss.length → i ≠ j → ∀ g, (vs.getD i (.slice none 0 0)).ownBlock = some g → (vs.getD j (.slice none 0 0)).ownBlock ≠ some g

theorem own_heap {B U : Nat} {e : TypeId} {size n : Nat} {xs : List Value} {w w' : World} {v : Value} (h : w.ownsRow B e size v n xs) (hU : ∀ g, v.ownBlock = some g → g < U) (hk : ∀ k, B ≤ k → k < U → w'.heap[k]? = w.heap[k]?) : w'.ownsRow B e size v n xs := by
  refine ⟨h.1, ?_⟩
  rcases h.2 with h2 | ⟨g, cap, cur, rfl, hg, hc, r⟩
  · exact .inl h2
  · exact .inr ⟨g, cap, cur, rfl, hg, by rw [hk g hg (hU g rfl)]; exact hc, r⟩
theorem OwnSS.keep {B U : Nat} {w w' : World} {v : Value} {vs : List Value} {rss : List (List Int)} (h : OwnSS B U w v vs rss) (hk : ∀ k, B ≤ k → k < U → w'.heap[k]? = w.heap[k]?) : OwnSS B U w' v vs rss :=
  ⟨h.len, own_heap h.outer h.obl hk, h.obl, fun i hi => own_heap (h.row i hi) (h.rbl i hi) hk, h.rbl, h.apart⟩
theorem OwnSS.kept {B U : Nat} {w w' : World} {v : Value} {vs : List Value} {rss : List (List Int)} (h : OwnSS B U w v vs rss) (hU : U ≤ w.heap.size) (hb : Below w.heap.size w w') : OwnSS B U w' v vs rss :=
  h.keep fun k _ h2 => hb.block k (by omega)
/-- The outer block is no row's. -/
theorem OwnSS.outer_ne {B U : Nat} {w : World} {v : Value} {vs : List Value} {rss : List (List Int)} (h : OwnSS B U w v vs rss) (i : Nat) (hi : i < rss.length) (g : Nat) (hg : (vs.getD i (.slice none 0 0)).ownBlock = some g) : v.ownBlock ≠ some g := by
  intro e
  rcases h.outer.2 with ⟨h1, _⟩ | ⟨q, c, cur, h1, _, hc, _⟩
  · rw [h1] at e; simp [Value.ownBlock] at e
  · rw [h1] at e
    simp only [Value.ownBlock, Option.some.injEq] at e
    subst e
    rcases (h.row i hi).2 with ⟨h2, _⟩ | ⟨q', c', cur', h2, _, hc', _⟩
    · rw [h2] at hg; simp [Value.ownBlock] at hg
    · rw [h2] at hg
      simp only [Value.ownBlock, Option.some.injEq] at hg
      subst hg
      rw [hc] at hc'
      simp at hc'

def total (rss : List (List Int)) : Nat := (rss.map List.length).sum
def Small (rss : List (List Int)) : Prop := rss.length ≤ 200000 ∧ ∀ i, i < rss.length → (rss.getD i []).length ≤ 1000
theorem total_succ (rss : List (List Int)) (i : Nat) (hi : i < rss.length) : total (rss.take (i + 1)) = total (rss.take i) + (rss.getD i []).length := by
  unfold total
  rw [List.take_succ_eq_append_getElem hi, List.map_append, List.sum_append]
  simp [List.getElem?_eq_getElem hi]
theorem total_le (rss : List (List Int)) (h : Small rss) : ∀ i, i ≤ rss.length → total (rss.take i) ≤ 1000 * i := by
  intro i
  induction i with
  | zero => intro _; simp [total]
  | succ i ih => intro hi; rw [total_succ rss i (by omega)]; have := ih (by omega); have := h.2 i (by omega); omega
/-- Marks from k on, row by row: of the first i rows; the others as they were. -/
def mkSS (rss : List (List Int)) (k : Int) (i : Nat) : List (List Int) := (List.range rss.length).map fun j => if j < i then marks (k + total (rss.take j)) (rss.getD j []).length else rss.getD j []
theorem mkSS_length (rss : List (List Int)) (k : Int) (i : Nat) : (mkSS rss k i).length = rss.length := by simp [mkSS]
theorem mkSS_getD (rss : List (List Int)) (k : Int) (i j : Nat) (hj : j < rss.length) : (mkSS rss k i).getD j [] = if j < i then marks (k + total (rss.take j)) (rss.getD j []).length else rss.getD j [] := by
  simp [mkSS, List.getElem?_map, List.getElem?_range hj]
theorem mkSS_zero (rss : List (List Int)) (k : Int) : mkSS rss k 0 = rss := by
  apply List.ext_getElem?
  intro j
  by_cases hj : j < rss.length
  · simp [mkSS, List.getElem?_range hj, List.getElem?_eq_getElem hj]
  · rw [List.getElem?_eq_none (by rw [mkSS_length]; omega), List.getElem?_eq_none (by omega)]

/-- A call returned a new slice of slices and a bool. -/
def RetSSB (rss : List (List Int)) (ok : Bool) (w : World) (e : Ending) (w' : World) : Prop :=
  ∃ v vs, e = .returned (.tuple #[v, .bool ok]) ∧ OwnSS w.heap.size w'.heap.size w' v vs rss ∧ Below w.heap.size w w'

/-- One row is written: all others stand. -/
theorem OwnSS.write {B U : Nat} {w w' : World} {v : Value} {vs : List Value} {rss rss' : List (List Int)} (h : OwnSS B U w v vs rss) (i : Nat) (hi : i < rss.length) (hl : rss'.length = rss.length)
    (hg : w.grownBy w' (vs.getD i (.slice none 0 0)).ownBlock) (hr : Own B w' (vs.getD i (.slice none 0 0)) (rss'.getD i [])) (ho : ∀ j, j < rss.length → j ≠ i → rss'.getD j [] = rss.getD j []) : OwnSS B U w' v vs rss' := by
  refine ⟨h.len.trans hl.symm, ?_, h.obl, fun j hj => ?_, fun j hj => h.rbl j (by omega), fun a b ha hb => h.apart a b (by omega) (by omega)⟩
  · refine World.ownsRow.kept h.outer hg ?_
    cases e : (vs.getD i (.slice none 0 0)).ownBlock with
    | none => cases hv : v.ownBlock <;> simp
    | some g => exact .inr (h.outer_ne i hi g e)
  · by_cases hji : j = i
    · subst hji; exact hr
    · rw [ho j (by omega) hji]
      refine World.ownsRow.kept (h.row j (by omega)) hg ?_
      cases e : (vs.getD i (.slice none 0 0)).ownBlock with
      | none => cases hv : (vs.getD j (.slice none 0 0)).ownBlock <;> simp
      | some g => exact .inr (fun e2 => h.apart i j hi (by omega) (Ne.symm hji) g e e2)
theorem OwnSS.cases {B U : Nat} {w : World} {v : Value} {vs : List Value} {rss : List (List Int)} (h : OwnSS B U w v vs rss) :
    (v = .slice none 0 0 ∧ rss = []) ∨ ∃ g c, v = .slice (some ⟨g, 0, none⟩) rss.length c ∧ ∀ i, i < rss.length → w.cell? ⟨g, i, none⟩ = some (vs.getD i (.slice none 0 0)) := by
  have hl := h.len
  have ho := h.outer
  rcases ho.2 with ⟨h1, h2⟩ | ⟨g, c, cur, h1, _⟩
  · exact .inl ⟨h1, List.eq_nil_of_length_eq_zero (by omega)⟩
  · refine .inr ⟨g, c, by rw [← hl]; exact h1, fun i hi => ?_⟩
    rw [h1] at ho
    rw [World.ownsRow.cellAt ho i (by omega)]
    simp [List.getElem?_eq_getElem (show i < vs.length by omega)]
end Go.Proofs.Ytkkjbkagkmngkaa
