/- People and their product; ages in other years and their product, the model's text. -/
import Derived.Test.YtjabghojenhhiaaIn
set_option linter.unusedVariables false
set_option linter.unusedSimpArgs false
namespace Go.Proofs.Ytjabghojenhhiaa
open Go.RowKit

/-- People of whatever numbers and these ages. -/
def Prs (w : World) (g : Nat) (ns : Nat → Int) (zs : List Int) : Prop :=
  ∀ j, j < zs.length → w.cell? ⟨g, j * 2, none⟩ = some (.int .i64 (ns j)) ∧ w.cell? ⟨g, j * 2 + 1, none⟩ = some (.int .i64 (zs.getD j 0))
theorem Ppl.prs {w : World} {g : Nat} {zs : List Int} (h : Ppl w g zs) : Prs w g (fun j => (j : Int)) zs := fun j hj => ⟨h.num j hj, h.age j hj⟩
theorem Prs.kept {B : Nat} {w w' : World} {g : Nat} {ns : Nat → Int} {zs : List Int} (h : Prs w g ns zs) (hb : Below B w w') (hlt : g < B) : Prs w' g ns zs :=
  fun j hj => ⟨(hb.cell (p := ⟨g, j * 2, none⟩) hlt).trans (h j hj).1, (hb.cell (p := ⟨g, j * 2 + 1, none⟩) hlt).trans (h j hj).2⟩

theorem prod_fits {zs : List Int} (h8 : zs.length ≤ 8) (hz : ∀ j, j < zs.length → 0 ≤ zs.getD j 0 ∧ zs.getD j 0 ≤ 120) (k : Nat) (hk : k ≤ zs.length) : 0 ≤ prodTo zs k ∧ prodTo zs k ≤ 42998169600000000 := by
  obtain ⟨h1, h2⟩ := prodTo_bd hz k hk
  refine ⟨h1, Int.le_trans h2 ?_⟩
  have : k ≤ 8 := by omega
  match k, this with
  | 0, _ | 1, _ | 2, _ | 3, _ | 4, _ | 5, _ | 6, _ | 7, _ | 8, _ => decide

/-- What the walk asks of a result's variable of three cells. -/
structure Slot3 (w : World) (R : Nat) (x0 x1 x2 : Value) : Prop where
  r0 : w.cell? ⟨R, 0, none⟩ = some x0
  r1 : w.cell? ⟨R, 1, none⟩ = some x1
  r2 : w.cell? ⟨R, 2, none⟩ = some x2
  f : ∀ j, w.frozen? ⟨R, j, none⟩ = false
  s0 : ∀ v, (w.setCell ⟨R, 0, none⟩ v).cell? ⟨R, 0, none⟩ = some v
  s1 : ∀ v0 v, ((w.setCell ⟨R, 0, none⟩ v0).setCell ⟨R, 1, none⟩ v).cell? ⟨R, 1, none⟩ = some v
  s2 : ∀ v0 v1 v, (((w.setCell ⟨R, 0, none⟩ v0).setCell ⟨R, 1, none⟩ v1).setCell ⟨R, 2, none⟩ v).cell? ⟨R, 2, none⟩ = some v
  lt : R < w.heap.size
theorem slot3 {w : World} {R : Nat} {x0 x1 x2 : Value} {t : TypeId} (h : w.heap[R]? = some (.cells #[x0, x1, x2] t (0, 0))) : Slot3 w R x0 x1 x2 := by
  have r0 : w.cell? ⟨R, 0, none⟩ = some x0 := by simp [World.cell?, h]
  have r1 : w.cell? ⟨R, 1, none⟩ = some x1 := by simp [World.cell?, h]
  have r2 : w.cell? ⟨R, 2, none⟩ = some x2 := by simp [World.cell?, h]
  obtain ⟨s0, s1, s2⟩ := three_cells r0 r1 r2
  exact ⟨r0, r1, r2, fun j => by simp [World.frozen?, h], s0, s1, s2, lt_of_block h⟩
theorem heap_new (w : World) (A : Obj) : (w.alloc A).heap[w.heap.size]? = some A := heap_alloc_new w A
theorem heap_newer (w w1 : World) (A : Obj) (hb : Below (w.alloc A).heap.size (w.alloc A) w1) : w1.heap[w.heap.size]? = some A := (hb.block _ (by simp)).trans (heap_new w A)
theorem heap_later {w1 : World} {R : Nat} {A : Obj} (h : w1.heap[R]? = some A) (H : Obj) : (w1.alloc H).heap[R]? = some A := by
  rw [Below.heap_alloc _ _ _ (lt_of_block h)]; exact h
theorem heap_kept {w1 w2 : World} {R : Nat} {A : Obj} (h : w1.heap[R]? = some A) (hb : Below w1.heap.size w1 w2) : w2.heap[R]? = some A :=
  (hb.block _ (lt_of_block h)).trans h

def fitB (zs : List Int) (y : Int) : Bool := goodB zs 120 && inB y (loY zs) (hiY zs)
theorem fit_in {zs : List Int} {y : Int} (hf : fitB zs y = true) : (goodB zs 120 = true) ∧ (-120 ≤ y ∧ y ≤ 120) ∧ (agesIn zs y).length = zs.length ∧ ∀ j, j < (agesIn zs y).length → 0 ≤ (agesIn zs y).getD j 0 ∧ (agesIn zs y).getD j 0 ≤ 120 := by
  unfold fitB at hf
  rw [Bool.and_eq_true, inB_iff] at hf
  refine ⟨hf.1, ?_, agesIn_length _ _, fun j hj => ?_⟩
  · have := loY_bd hf.1; omega
  · rw [agesIn_length] at hj
    rw [agesIn_getD _ _ _ hj]
    exact fit_bd hf.2.1 hf.2.2 j hj

theorem ownNonempty {B : Nat} {w : World} {v : Value} {zs : List Int} (h : Own B w v zs) (h0 : 0 < zs.length) : ∃ g c, v = .slice (some ⟨g, 0, none⟩) zs.length c ∧ B ≤ g ∧ g < w.heap.size ∧ Ints w g 0 zs := by
  rcases h.cases with ⟨_, rfl⟩ | ⟨g, c, rfl, h1, h2, _, _, h3, _⟩
  · simp at h0
  · exact ⟨g, c, rfl, h1, h2, h3⟩

end Go.Proofs.Ytjabghojenhhiaa
