/- People as pairs of numbers, made by the program. -/
import Derived.Test.YtadfojjglceheaaHelp
import Derived.Test.YtadfojjglceheaaDate
set_option linter.unusedVariables false
set_option linter.unusedSimpArgs false
namespace Go.Proofs.Ytadfojjglceheaa
open Go.RowKit

theorem infoPerson : (Try.prog.info? 55).map (fun i => (i.zero, i.size, i.bytes)) = some (some (.agg #[.int .i64 0, .int .i64 0]), 2, 16) := by kernel_rfl
theorem twoCells {W : World} {g : Nat} (a b : Value) (t : TypeId) (h : g = W.heap.size) : ∀ j u, [a, b][j]? = some u → (W.alloc (.cells #[a, b] t)).cell? ((⟨g, 0, none⟩ : Addr).add j) = some u := by
  subst h; exact cell_two_new W a b t
theorem twoInts (x y : Int) : ∀ u ∈ [Value.int .i64 x, Value.int .i64 y], u.oneCell' = true := by
  intro u hu; simp at hu; rcases hu with rfl | rfl <;> rfl
theorem heap_new (w : World) (A : Obj) : (w.alloc A).heap[w.heap.size]? = some A := heap_alloc_new w A
theorem heap_newer (w w1 : World) (A : Obj) (hb : Below (w.alloc A).heap.size (w.alloc A) w1) : w1.heap[w.heap.size]? = some A := (hb.block _ (by simp)).trans (heap_new w A)
theorem heap_later {w1 : World} {R : Nat} {A : Obj} (h : w1.heap[R]? = some A) (H : Obj) : (w1.alloc H).heap[R]? = some A := by
  rw [Below.heap_alloc _ _ _ (lt_of_block h)]; exact h
theorem two_cells {w : World} {B : Nat} {x0 x1 : Value} (r0 : w.cell? ⟨B, 0, none⟩ = some x0) (r1 : w.cell? ⟨B, 1, none⟩ = some x1) :
    (∀ v0 v1, ((w.setCell ⟨B, 0, none⟩ v0).setCell ⟨B, 1, none⟩ v1).cell? ⟨B, 0, none⟩ = some v0) ∧ (∀ v0 v1, ((w.setCell ⟨B, 0, none⟩ v0).setCell ⟨B, 1, none⟩ v1).cell? ⟨B, 1, none⟩ = some v1) := by
  have h0 : ∀ v, (w.setCell ⟨B, 0, none⟩ v).cell? ⟨B, 0, none⟩ = some v := fun v => World.cell?_setCell_same _ _ _ r0
  refine ⟨fun v0 v1 => ?_, fun v0 v1 => World.cell?_setCell_same _ _ _ (u := x1) ?_⟩
  · rw [World.cell?_setCell_other _ _ _ _ (by simp)]
    exact h0 v0
  · rw [World.cell?_setCell_other _ _ _ _ (by simp)]
    exact r1
theorem setCell_grown (w : World) (a : Addr) (u : Value) : w.grownBy (w.setCell a u) (some a.block) :=
  ⟨rfl, rfl, rfl, by simp [World.setCell], fun k hk hne => Below.heap_setCell w a u k (fun e => hne (by rw [e]))⟩
theorem ownD_setBelow {T : TypeId} {B R : Nat} {w : World} {v : Value} {ds : List Dt} (h : OwnD T B w v ds) (hR : R < B) (j : Nat) (x : Value) : OwnD T B (w.setCell ⟨R, j, none⟩ x) v ds := by
  refine h.grown (setCell_grown w ⟨R, j, none⟩ x) ?_
  rcases h.block with h | ⟨g, h, h1, _⟩ <;> rw [h] <;> simp; omega
theorem OwnD.alloc {T : TypeId} {B : Nat} {w : World} {v : Value} {ds : List Dt} (h : OwnD T B w v ds) (A : Obj) : OwnD T B (w.alloc A) v ds := World.ownsRow.alloc h A
theorem newCellAt {W : World} {g : Nat} (x : Value) (t : TypeId) (hg : g = W.heap.size) : ∀ j u, [x][j]? = some u → (W.alloc (.cells #[x] t)).cell? ((⟨g, 0, none⟩ : Addr).add j) = some u := by
  subst hg
  exact newCell W x t
/-- The numbers of the first k people. -/
def nmT (ps : List Dt) (k : Nat) : List Int := (ps.take k).map (·.1)
theorem nmT_zero (ps : List Dt) : nmT ps 0 = [] := rfl
theorem nmT_succ (ps : List Dt) (k : Nat) (hk : k < ps.length) : nmT ps (k + 1) = nmT ps k ++ [(at2 ps k).1] := by
  unfold nmT
  rw [List.take_succ_eq_append_getElem hk, List.map_append]
  simp [at2, List.getElem?_eq_getElem hk]
theorem nmT_len (ps : List Dt) (k : Nat) : (nmT ps k).length ≤ k := by unfold nmT; simp; omega
theorem nmT_all (ps : List Dt) : nmT ps ps.length = ps.map (·.1) := by unfold nmT; rw [List.take_length]
/-- A call returned a new slice of people, maybe nil. -/
def RetPs (ps : List Dt) (w : World) (e : Ending) (w' : World) : Prop :=
  ∃ v, e = .returned v ∧ OwnD 55 w.heap.size w' v ps ∧ Below w.heap.size w w'
/-- A call returned a page. -/
def RetPg (y : Int) (ps : List Dt) (w : World) (e : Ending) (w' : World) : Prop :=
  ∃ v, e = .returned (.agg #[.int .i64 y, v]) ∧ OwnD 55 w.heap.size w' v ps ∧ Below w.heap.size w w'
/-- A call returned a page and a bool. -/
def RetPgB (y : Int) (ps : List Dt) (ok : Bool) (w : World) (e : Ending) (w' : World) : Prop :=
  ∃ v, e = .returned (.tuple #[.agg #[.int .i64 y, v], .bool ok]) ∧ OwnD 55 w.heap.size w' v ps ∧ Below w.heap.size w w'
end Go.Proofs.Ytadfojjglceheaa
