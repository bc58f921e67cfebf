/- A variable of two cells that was just made, behind a call; and behind two stores. -/
import Derived.Test.YtbhceokapbnhhaaDateHelp
set_option linter.unusedVariables false
set_option linter.unusedSimpArgs false
namespace Go.Proofs.Ytbhceokapbnhhaa
open Go.RowKit

/-- In the world w' block g holds the pair a, b and may be written; it is no block below B. -/
structure PairAt (w' : World) (B g : Nat) (a b : Value) : Prop where
  c0 : w'.cell? ⟨g, 0, none⟩ = some a
  c1 : w'.cell? ⟨g, 1, none⟩ = some b
  f0 : w'.frozen? ⟨g, 0, none⟩ = false
  f1 : w'.frozen? ⟨g, 1, none⟩ = false
  above : B ≤ g
theorem PairAt.kept {w w' : World} {B g : Nat} {a b : Value} (h : PairAt w B g a b) (hb : Below w.heap.size w w') : PairAt w' B g a b := by
  have hl : g < w.heap.size := World.block_lt_of_cell? _ ⟨g, 0, none⟩ h.c0
  exact ⟨below_cell2 hb h.c0, below_cell2 hb h.c1, (hb.frozen (p := ⟨g, 0, none⟩) hl).trans h.f0, (hb.frozen (p := ⟨g, 1, none⟩) hl).trans h.f1, h.above⟩
theorem PairAt.new {w w' : World} {B : Nat} {a b : Value} {t : TypeId} (h : Below (w.alloc (.cells #[a, b] t)).heap.size (w.alloc (.cells #[a, b] t)) w') (hB : B ≤ w.heap.size) : PairAt w' B w.heap.size a b := by
  have h0 : PairAt (w.alloc (.cells #[a, b] t)) B w.heap.size a b := ⟨by simp [go_sem], by simp [go_sem], by simp [go_sem], by simp [go_sem], hB⟩
  exact h0.kept h
theorem PairAt.newDrew {w w' : World} {B : Nat} {a b : Value} {t : TypeId} (h : Below (w.alloc (.cells #[a, b] t)).drew.heap.size (w.alloc (.cells #[a, b] t)).drew w') (hB : B ≤ w.heap.size) : PairAt w' B w.heap.size a b := by
  have h0 : PairAt (w.alloc (.cells #[a, b] t)).drew B w.heap.size a b := ⟨by simp [go_sem], by simp [go_sem], by simp [go_sem], by simp [go_sem], hB⟩
  exact h0.kept h
theorem PairAt.newAt {w w' : World} {B : Nat} {a b : Value} {t : TypeId} (g : Nat) (h : Below (w.alloc (.cells #[a, b] t)).heap.size (w.alloc (.cells #[a, b] t)) w') (hg : g = w.heap.size) (hB : B ≤ g) : PairAt w' B g a b := by
  subst hg
  exact PairAt.new h hB
theorem PairAt.newDrewAt {w w' : World} {B : Nat} {a b : Value} {t : TypeId} (g : Nat) (h : Below (w.alloc (.cells #[a, b] t)).drew.heap.size (w.alloc (.cells #[a, b] t)).drew w') (hg : g = w.heap.size) (hB : B ≤ g) : PairAt w' B g a b := by
  subst hg
  exact PairAt.newDrew h hB
/-- Behind two stores into the pair. -/
theorem PairAt.stored {w : World} {B g : Nat} {a b x y : Value} (h : PairAt w B g a b) : ((w.setCell ⟨g, 0, none⟩ x).setCell ⟨g, 1, none⟩ y).cell? ⟨g, 0, none⟩ = some x ∧ ((w.setCell ⟨g, 0, none⟩ x).setCell ⟨g, 1, none⟩ y).cell? ⟨g, 1, none⟩ = some y := by
  obtain ⟨s0, s1⟩ := two_cells h.c0 h.c1
  exact ⟨s0 x y, s1 x y⟩
theorem PairAt.other {w : World} {B g q o : Nat} {a b x y v : Value} (h : PairAt w B g a b) (hq : q < B) (hv : w.cell? ⟨q, o, none⟩ = some v) : ((w.setCell ⟨g, 0, none⟩ x).setCell ⟨g, 1, none⟩ y).cell? ⟨q, o, none⟩ = some v := by
  have := h.above
  rw [World.cell?_setCell_other _ _ _ _ (by simp <;> omega), World.cell?_setCell_other _ _ _ _ (by simp <;> omega)]
  exact hv
theorem PairAt.below {w a0 : World} {B g : Nat} {a b x y : Value} (h : PairAt w B g a b) (hb : Below a0.heap.size a0 w) (hB : a0.heap.size ≤ B) : Below a0.heap.size a0 ((w.setCell ⟨g, 0, none⟩ x).setCell ⟨g, 1, none⟩ y) := by
  have := h.above
  exact (hb.setCell (show a0.heap.size ≤ g by omega) _).setCell (show a0.heap.size ≤ g by omega) _
end Go.Proofs.Ytbhceokapbnhhaa
