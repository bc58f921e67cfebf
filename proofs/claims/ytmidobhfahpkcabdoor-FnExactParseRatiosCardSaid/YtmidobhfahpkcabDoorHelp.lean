/- The statements' own helpers: copying, comparing, marking and checking slices of integers. -/
import Derived.Test.YtmidobhfahpkcabDoorProg
import Derived.Test.YtmidobhfahpkcabDoorKit
import Derived.Deep.QuietTactic
import Derived.BigQuiet
set_option linter.unusedVariables false
set_option linter.unusedSimpArgs false
namespace Go.Proofs.YtmidobhfahpkcabDoor
open Go.RowKit

theorem infoInt : (Tryd.prog.info? 3).map (fun i => (i.zero, i.size, i.bytes)) = some (some (.int .i64 0), 1, 8) := by kernel_rfl

/-- The first k numbers are written, the others still 0. -/
def fill (zs : List Int) (k n : Nat) : List Value := (zs.take k ++ List.replicate (n - k) 0).map (Value.int .i64)
theorem fill_zero (zs : List Int) (n : Nat) : (madeCells #[Value.int IntKind.i64 0] n).toList = fill zs 0 n := by
  rw [toList_madeCells_one]; simp [fill]
theorem fill_all (zs : List Int) (n : Nat) (h : zs.length = n) : fill zs n n = zs.map (Value.int .i64) := by
  subst h; simp [fill]
theorem fill_step (zs : List Int) (k n : Nat) (h : zs.length = n) (hk : k < n) : (fill zs k n).set k (.int .i64 (zs.getD k 0)) = fill zs (k + 1) n := by
  have e : n - k = (n - (k + 1)) + 1 := by omega
  unfold fill
  rw [e, List.replicate_succ, ← List.map_set, List.set_append]
  have hl : (zs.take k).length = k := by simp; omega
  rw [hl, if_neg (by omega), Nat.sub_self, List.set_cons_zero, List.take_succ_eq_append_getElem (by omega)]
  have e2 : zs.getD k 0 = zs[k]'(by omega) := by simp [List.getElem?_eq_getElem (show k < zs.length by omega)]
  rw [e2]
  simp only [List.map_append, List.map_cons, List.map_nil, List.append_assoc, List.singleton_append]
theorem fill_getD (zs : List Int) (k : Nat) (hk : k < zs.length) : zs.getD k 0 = zs[k] := by simp [List.getElem?_eq_getElem hk]
theorem fill_some (zs : List Int) (k n : Nat) (h : zs.length = n) (hk : k < n) : ∃ u, (fill zs k n)[k]? = some u := by
  have hl : (fill zs k n).length = n := by simp [fill]; omega
  exact ⟨_, List.getElem?_eq_getElem (by omega)⟩

/-- The first k of the numbers ys are written, the others still 0: one step. -/
theorem fill_stepAt (ys : List Int) (k n : Nat) (y : Int) (h : ys.length = n) (hk : k < n) (hy : ys.getD k 0 = y) : (fill ys k n).set k (.int .i64 y) = fill ys (k + 1) n := by
  rw [← hy]; exact fill_step ys k n h hk

/-- A row that was made and filled is what the call returns. -/
theorem retRow_of {w wr : World} {ys : List Int} {n : Nat} (hl : ys.length = n) (hr : wr.ownsRow w.heap.size 3 1 (.slice (some ⟨w.heap.size, 0, none⟩) n n) n (fill ys n n)) (hb : Below w.heap.size w wr) :
    RetRow ys w (.returned (.slice (some ⟨w.heap.size, 0, none⟩) n n)) wr := by
  subst hl
  rw [fill_all _ _ rfl] at hr
  exact ⟨w.heap.size, Nat.le_refl _, rfl, hr, hb⟩

end Go.Proofs.YtmidobhfahpkcabDoor
