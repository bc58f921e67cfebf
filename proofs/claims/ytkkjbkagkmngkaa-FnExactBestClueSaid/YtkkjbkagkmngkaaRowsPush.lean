/- One pair more behind a list of lists. -/
import Derived.Test.YtkkjbkagkmngkaaRowsHelp
set_option linter.unusedVariables false
set_option linter.unusedSimpArgs false
namespace Go.Proofs.Ytkkjbkagkmngkaa
open Go.RowKit

theorem getD_snoc_lt {α : Type} (l : List α) (x d : α) (i : Nat) (h : i < l.length) : (l ++ [x]).getD i d = l.getD i d := by
  simp [List.getElem?_append_left h]
theorem getD_snoc_eq {α : Type} (l : List α) (x d : α) : (l ++ [x]).getD l.length d = x := by simp
theorem ownSS_nil (B U : Nat) (w : World) : OwnSS B U w (.slice none 0 0) [] [] :=
  ⟨rfl, World.ownsRow_nil _ _ _ _, fun g h => by simp [Value.ownBlock] at h, fun i h => by simp at h, fun i h => by simp at h, fun i j h => by simp at h⟩
theorem OwnSS.push {B : Nat} {wr w1 : World} {v v' : Value} {vs : List Value} {rss : List (List Int)} {x y : Int} (h : OwnSS B wr.heap.size wr v vs rss) (hB : B ≤ wr.heap.size)
    (hown : w1.ownsRow B 41 1 v' (vs.length + 1) (vs ++ [.slice (some ⟨wr.heap.size, 0, none⟩) 2 2]))
    (hg : ((wr.alloc (.cells #[.int .i64 x, .int .i64 y] 3)).alloc (.cells #[.slice (some ⟨wr.heap.size, 0, none⟩) 2 2] 41)).grownBy w1 v.ownBlock) :
    OwnSS B w1.heap.size w1 v' (vs ++ [.slice (some ⟨wr.heap.size, 0, none⟩) 2 2]) (rss ++ [[x, y]]) := by
  have hl := h.len
  have hvlt : ∀ g, v.ownBlock = some g → g < wr.heap.size := h.obl
  have hsz : wr.heap.size + 2 ≤ w1.heap.size := by have := hg.size; simp at this; omega
  have hold : ∀ i, i < rss.length → Own B w1 (vs.getD i (.slice none 0 0)) (rss.getD i []) := fun i hi => by
    have h1 := World.ownsRow.alloc (World.ownsRow.alloc (h.row i hi) (.cells #[.int .i64 x, .int .i64 y] 3)) (.cells #[.slice (some ⟨wr.heap.size, 0, none⟩) 2 2] 41)
    refine World.ownsRow.kept h1 hg ?_
    cases e : (vs.getD i (.slice none 0 0)).ownBlock with
    | none => exact .inl rfl
    | some g => exact .inr (fun e2 => h.outer_ne i hi g e e2.symm)
  have hnew : Own B w1 (.slice (some ⟨wr.heap.size, 0, none⟩) 2 2) [x, y] := by
    have h1 := World.ownsRow.alloc (World.ownsRow_lit (base := B) (size := 1) (e := 3) wr #[.int .i64 x, .int .i64 y] 2 hB (by unfold maxLen; omega) rfl) (.cells #[.slice (some ⟨wr.heap.size, 0, none⟩) 2 2] 41)
    refine World.ownsRow.kept h1 hg (.inr ?_)
    intro e
    simp only [Value.ownBlock] at e
    have := hvlt wr.heap.size e.symm
    omega
  have hlen : (vs ++ [Value.slice (some ⟨wr.heap.size, 0, none⟩) 2 2]).length = (rss ++ [[x, y]]).length := by simp [hl]
  have hcase : ∀ i, i < (rss ++ [[x, y]]).length → i < rss.length ∨ i = rss.length := fun i hi => by simp at hi; omega
  have getN : (vs ++ [Value.slice (some ⟨wr.heap.size, 0, none⟩) 2 2]).getD rss.length (.slice none 0 0) = .slice (some ⟨wr.heap.size, 0, none⟩) 2 2 := by rw [← hl]; exact getD_snoc_eq _ _ _
  refine ⟨hlen, by rw [List.length_append]; exact hown, fun g e => (World.ownsRow.lt hown g e).2, fun i hi => ?_, fun i hi g e => ?_, fun i j hi hj hij g e => ?_⟩
  · rcases hcase i hi with hlt | rfl
    · rw [getD_snoc_lt _ _ _ _ (by omega), getD_snoc_lt _ _ _ _ hlt]; exact hold i hlt
    · rw [getN, getD_snoc_eq]; exact hnew
  · rcases hcase i hi with hlt | rfl
    · rw [getD_snoc_lt _ _ _ _ (by omega)] at e
      have := h.rbl i hlt g e; omega
    · rw [getN] at e
      simp only [Value.ownBlock, Option.some.injEq] at e
      omega
  · rcases hcase i hi with hi' | rfl
    · rw [getD_snoc_lt _ _ _ _ (by omega)] at e
      have hgi := h.rbl i hi' g e
      rcases hcase j hj with hj' | rfl
      · rw [getD_snoc_lt _ _ _ _ (by omega)]
        exact h.apart i j hi' hj' hij g e
      · rw [getN]
        simp only [Value.ownBlock, ne_eq, Option.some.injEq]
        omega
    · rw [getN] at e
      simp only [Value.ownBlock, Option.some.injEq] at e
      rcases hcase j hj with hj' | rfl
      · rw [getD_snoc_lt _ _ _ _ (by omega)]
        intro e2
        have := h.rbl j hj' g e2
        omega
      · exact absurd rfl hij
theorem infoSlice : (Try.prog.info? 41).map (fun i => (i.zero, i.size, i.bytes)) = some (some (.slice none 0 0), 1, 24) := by kernel_rfl
theorem oneSlice (a : Option Addr) (n c : Nat) : ∀ u ∈ [Value.slice a n c], u.oneCell' = true := by
  intro u hu; simp at hu; subst hu; rfl
theorem newCellAt (W : World) (g : Nat) (x : Value) (t : TypeId) (hg : g = W.heap.size) : ∀ j u, [x][j]? = some u → (W.alloc (.cells #[x] t)).cell? ((⟨g, 0, none⟩ : Addr).add j) = some u := by
  subst hg; exact newCell W x t
end Go.Proofs.Ytkkjbkagkmngkaa
