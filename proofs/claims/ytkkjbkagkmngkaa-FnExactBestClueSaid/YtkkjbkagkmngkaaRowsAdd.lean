/- One row of any length more behind a list of lists. -/
import Derived.Test.YtkkjbkagkmngkaaRowsPush
set_option linter.unusedVariables false
set_option linter.unusedSimpArgs false
namespace Go.Proofs.Ytkkjbkagkmngkaa
open Go.RowKit

theorem OwnSS.pushRow {B U : Nat} {w w1 : World} {v v' u : Value} {vs : List Value} {rss : List (List Int)} {r : List Int} {A : Obj} (h : OwnSS B U w v vs rss) (hBU : B ≤ U) (hU : U ≤ w.heap.size)
    (hu : Own U w u r) (hown : w1.ownsRow B 41 1 v' (vs.length + 1) (vs ++ [u])) (hg : (w.alloc A).grownBy w1 v.ownBlock) :
    OwnSS B w1.heap.size w1 v' (vs ++ [u]) (rss ++ [r]) := by
  have hl := h.len
  have hsz : w.heap.size + 1 ≤ w1.heap.size := by have := hg.size; simp at this; omega
  have hult : ∀ g, u.ownBlock = some g → U ≤ g ∧ g < w.heap.size := fun g e => World.ownsRow.lt hu g e
  have hold : ∀ i, i < rss.length → Own B w1 (vs.getD i (.slice none 0 0)) (rss.getD i []) := fun i hi => by
    have h1 := World.ownsRow.alloc (h.row i hi) A
    refine World.ownsRow.kept h1 hg ?_
    cases e : (vs.getD i (.slice none 0 0)).ownBlock with
    | none => exact .inl rfl
    | some g => exact .inr (fun e2 => h.outer_ne i hi g e e2.symm)
  have hnew : Own B w1 u r := by
    have h1 := World.ownsRow.alloc (Own.mono hu hBU) A
    refine World.ownsRow.kept h1 hg ?_
    cases e : u.ownBlock with
    | none => exact .inl rfl
    | some g => exact .inr (fun e2 => by have := h.obl g e2.symm; have := hult g e; omega)
  have hlen : (vs ++ [u]).length = (rss ++ [r]).length := by simp [hl]
  have hcase : ∀ i, i < (rss ++ [r]).length → i < rss.length ∨ i = rss.length := fun i hi => by simp at hi; omega
  have getN : (vs ++ [u]).getD rss.length (.slice none 0 0) = u := by rw [← hl]; exact getD_snoc_eq _ _ _
  refine ⟨hlen, by rw [List.length_append]; exact hown, fun g e => (World.ownsRow.lt hown g e).2, fun i hi => ?_, fun i hi g e => ?_, fun i j hi hj hij g e => ?_⟩
  · rcases hcase i hi with hlt | rfl
    · rw [getD_snoc_lt _ _ _ _ (by omega), getD_snoc_lt _ _ _ _ hlt]; exact hold i hlt
    · rw [getN, getD_snoc_eq]; exact hnew
  · rcases hcase i hi with hlt | rfl
    · rw [getD_snoc_lt _ _ _ _ (by omega)] at e
      have := h.rbl i hlt g e; omega
    · rw [getN] at e
      have := hult g e; omega
  · rcases hcase i hi with hi' | rfl
    · rw [getD_snoc_lt _ _ _ _ (by omega)] at e
      have hgi := h.rbl i hi' g e
      rcases hcase j hj with hj' | rfl
      · rw [getD_snoc_lt _ _ _ _ (by omega)]
        exact h.apart i j hi' hj' hij g e
      · rw [getN]
        intro e2
        have := hult g e2; omega
    · rw [getN] at e
      have hgi := hult g e
      rcases hcase j hj with hj' | rfl
      · rw [getD_snoc_lt _ _ _ _ (by omega)]
        intro e2
        have := h.rbl j hj' g e2
        omega
      · exact absurd rfl hij
theorem oneU {u : Value} {B : Nat} {w : World} {r : List Int} (h : Own B w u r) : ∀ x ∈ [u], x.oneCell' = true := by
  intro x hx
  simp at hx
  subst hx
  rcases h.2 with ⟨h1, _⟩ | ⟨g, c, cur, h1, _⟩
  · rw [h1]; rfl
  · rw [h1]; rfl
end Go.Proofs.Ytkkjbkagkmngkaa
