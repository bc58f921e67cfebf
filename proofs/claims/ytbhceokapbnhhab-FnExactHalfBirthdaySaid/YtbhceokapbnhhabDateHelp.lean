/- The statements' own helpers on dates: copying, comparing, marking and checking. -/
import Derived.Test.YtbhceokapbnhhabHelp
import Derived.Test.YtbhceokapbnhhabDate
import Derived.Deep.RegionHeld3
set_option linter.unusedVariables false
set_option linter.unusedSimpArgs false
namespace Go.Proofs.Ytbhceokapbnhhab
open Go.RowKit

theorem below_cell2 {w w' : World} {a b : Nat} {x : Value} (h : Below w.heap.size w w') (h1 : w.cell? ⟨a, b, none⟩ = some x) : w'.cell? ⟨a, b, none⟩ = some x :=
  (h.cell (p := ⟨a, b, none⟩) (World.block_lt_of_cell? w _ h1)).trans h1
theorem two_cells {w : World} {B : Nat} {x0 x1 : Value} (r0 : w.cell? ⟨B, 0, none⟩ = some x0) (r1 : w.cell? ⟨B, 1, none⟩ = some x1) :
    (∀ v0 v1, ((w.setCell ⟨B, 0, none⟩ v0).setCell ⟨B, 1, none⟩ v1).cell? ⟨B, 0, none⟩ = some v0) ∧ (∀ v0 v1, ((w.setCell ⟨B, 0, none⟩ v0).setCell ⟨B, 1, none⟩ v1).cell? ⟨B, 1, none⟩ = some v1) := by
  have h0 : ∀ v, (w.setCell ⟨B, 0, none⟩ v).cell? ⟨B, 0, none⟩ = some v := fun v => World.cell?_setCell_same _ _ _ r0
  refine ⟨fun v0 v1 => ?_, fun v0 v1 => World.cell?_setCell_same _ _ _ (u := x1) ?_⟩
  · rw [World.cell?_setCell_other _ _ _ _ (by simp)]
    exact h0 v0
  · rw [World.cell?_setCell_other _ _ _ _ (by simp)]
    exact r1
theorem cell_above {w : World} {g o : Nat} {v : Value} (h : w.cell? ⟨g, o, none⟩ = some v) (A : Obj) : (w.alloc A).cell? ⟨g, o, none⟩ = some v :=
  (World.cell?_of_block (w := w) (a := ⟨g, o, none⟩) (Below.heap_alloc _ _ _ (World.block_lt_of_cell? w _ h))).trans h
theorem infoDate : (Try.prog.info? 25).map (fun i => (i.zero, i.size, i.bytes)) = some (some (.agg #[.int .i64 0, .int .i64 0]), 2, 16) := by kernel_rfl

set_option maxHeartbeats 1000000 in
theorem toDate_any (y d : Int) (w : World) : Calls Try.prog 13 #[.agg #[.int .i64 y, .int .i64 d]] w (Ret (.agg #[.int .i64 y, .int .i64 d]) w) := by
  go_enter Try.func13, Try.ntmps13
  go_wp2_with fail
  refine bodyPost_ret (v := .agg #[.int .i64 y, .int .i64 d]) (by simp [results, Try.results13, go_sem]) rfl ?_
  exact ⟨rfl, (((Below.refl w.heap.size w).alloc (Nat.le_refl _) _).alloc (by simp) _).alloc (by simp; omega) _⟩

set_option maxHeartbeats 1000000 in
theorem eqDate_same (y d : Int) (w : World) : Calls Try.prog 23 #[.agg #[.int .i64 y, .int .i64 d], .agg #[.int .i64 y, .int .i64 d]] w (Ret (.bool true) w) := by
  go_enter Try.func23, Try.ntmps23
  go_wp2_with fail
  go_ret
  exact ⟨rfl, ((Below.refl w.heap.size w).alloc (Nat.le_refl _) _).alloc (by simp) _⟩

/-- The first k pairs of cells are the dates. -/
def DtTo (ds : List Dt) (k : Nat) (xs : List Value) : Prop := ∀ j, j < k → xs[j * 2]? = some (.int .i64 (at2 ds j).1) ∧ xs[j * 2 + 1]? = some (.int .i64 (at2 ds j).2)
theorem dtTo_zero (ds : List Dt) (xs : List Value) : DtTo ds 0 xs := fun j hj => absurd hj (by omega)
theorem dtTo_step {ds : List Dt} {k : Nat} {xs : List Value} (h : DtTo ds k xs) (hl : k * 2 + 1 < xs.length) : DtTo ds (k + 1) ((xs.set (k * 2) (.int .i64 (at2 ds k).1)).set (k * 2 + 1) (.int .i64 (at2 ds k).2)) := by
  intro j hj
  by_cases hjk : j = k
  · subst hjk
    constructor
    · rw [List.getElem?_set_ne (by omega), List.getElem?_set_self (by omega)]
    · rw [List.getElem?_set_self (by simpa using hl)]
  · have := h j (by omega)
    constructor
    · rw [List.getElem?_set_ne (by omega), List.getElem?_set_ne (by omega)]; exact this.1
    · rw [List.getElem?_set_ne (by omega), List.getElem?_set_ne (by omega)]; exact this.2
theorem dtTo_all {ds : List Dt} {n : Nat} {xs : List Value} (hl : ds.length = n) (hx : xs.length = n * 2) (h : DtTo ds n xs) : xs = flatD ds := by
  apply List.ext_getElem?
  intro i
  by_cases hi : i < n * 2
  · obtain ⟨j, hj⟩ : ∃ j, i = j * 2 ∨ i = j * 2 + 1 := ⟨i / 2, by omega⟩
    have hjn : j < n := by omega
    have h1 := h j hjn
    have h2 := flatD_at ds j (by omega)
    rcases hj with rfl | rfl
    · rw [h1.1, h2.1]
    · rw [h1.2, h2.2]
  · rw [List.getElem?_eq_none (by omega), List.getElem?_eq_none (by rw [flatD_length]; omega)]
theorem ownD_of {T : TypeId} {B : Nat} {w : World} {v : Value} {n : Nat} {ds : List Dt} {xs : List Value} (hl : ds.length = n) (h : w.ownsRow B T 2 v n xs) (hx : DtTo ds n xs) : OwnD T B w v ds := by
  have hxl : xs.length = n * 2 := h.1
  rw [dtTo_all hl hxl hx] at h
  subst hl
  exact h

end Go.Proofs.Ytbhceokapbnhhab
