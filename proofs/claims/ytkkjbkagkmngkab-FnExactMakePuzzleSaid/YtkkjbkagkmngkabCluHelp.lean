/- The statements' own helpers on kin: copying, comparing, marking and checking. -/
import Derived.Test.YtkkjbkagkmngkabHelp
import Derived.Test.YtkkjbkagkmngkabClu
import Derived.Deep.RegionHeld3
set_option linter.unusedVariables false
set_option linter.unusedSimpArgs false
namespace Go.Proofs.Ytkkjbkagkmngkab
open Go.RowKit

theorem below_cell2 {w w' : World} {a b : Nat} {x : Value} (h : Below w.heap.size w w') (h1 : w.cell? ⟨a, b, none⟩ = some x) : w'.cell? ⟨a, b, none⟩ = some x :=
  (h.cell (p := ⟨a, b, none⟩) (World.block_lt_of_cell? w _ h1)).trans h1
theorem cell_above {w : World} {g o : Nat} {v : Value} (h : w.cell? ⟨g, o, none⟩ = some v) (A : Obj) : (w.alloc A).cell? ⟨g, o, none⟩ = some v :=
  (World.cell?_of_block (w := w) (a := ⟨g, o, none⟩) (Below.heap_alloc _ _ _ (World.block_lt_of_cell? w _ h))).trans h
theorem infoClue : (Try.prog.info? 27).map (fun i => (i.zero, i.size, i.bytes)) = some (some (.agg #[.int .i64 0, .int .i64 0, .int .i64 0]), 3, 24) := by kernel_rfl

set_option maxHeartbeats 1000000 in
theorem toClue_any (y d e : Int) (w : World) : Calls Try.prog 6 #[.agg #[.int .i64 y, .int .i64 d, .int .i64 e]] w (Ret (.agg #[.int .i64 y, .int .i64 d, .int .i64 e]) w) := by
  go_enter Try.func6, Try.ntmps6
  go_wp2_with fail
  refine bodyPost_ret (v := .agg #[.int .i64 y, .int .i64 d, .int .i64 e]) (by simp [results, Try.results6, go_sem]) rfl ?_
  exact ⟨rfl, (((Below.refl w.heap.size w).alloc (Nat.le_refl _) _).alloc (by simp) _).alloc (by simp; omega) _⟩

set_option maxHeartbeats 1000000 in
theorem eqClue_same (y d e : Int) (w : World) : Calls Try.prog 42 #[.agg #[.int .i64 y, .int .i64 d, .int .i64 e], .agg #[.int .i64 y, .int .i64 d, .int .i64 e]] w (Ret (.bool true) w) := by
  go_enter Try.func42, Try.ntmps42
  go_wp2_with fail
  go_ret
  exact ⟨rfl, ((Below.refl w.heap.size w).alloc (Nat.le_refl _) _).alloc (by simp) _⟩

/-- The first k triples of cells are the kin. -/
def KnTo (ds : List Kn) (k : Nat) (xs : List Value) : Prop := ∀ j, j < k → xs[j * 3]? = some (.int .i64 (at3 ds j).1) ∧ xs[j * 3 + 1]? = some (.int .i64 (at3 ds j).2.1) ∧ xs[j * 3 + 2]? = some (.int .i64 (at3 ds j).2.2)
theorem knTo_zero (ds : List Kn) (xs : List Value) : KnTo ds 0 xs := fun j hj => absurd hj (by omega)
theorem knTo_step {ds : List Kn} {k : Nat} {xs : List Value} (h : KnTo ds k xs) (hl : k * 3 + 2 < xs.length) : KnTo ds (k + 1) (((xs.set (k * 3) (.int .i64 (at3 ds k).1)).set (k * 3 + 1) (.int .i64 (at3 ds k).2.1)).set (k * 3 + 2) (.int .i64 (at3 ds k).2.2)) := by
  intro j hj
  by_cases hjk : j = k
  · subst hjk
    refine ⟨?_, ?_, ?_⟩
    · rw [List.getElem?_set_ne (by omega), List.getElem?_set_ne (by omega), List.getElem?_set_self (by omega)]
    · rw [List.getElem?_set_ne (by omega), List.getElem?_set_self (by simp; omega)]
    · rw [List.getElem?_set_self (by simpa using hl)]
  · have := h j (by omega)
    refine ⟨?_, ?_, ?_⟩
    · rw [List.getElem?_set_ne (by omega), List.getElem?_set_ne (by omega), List.getElem?_set_ne (by omega)]; exact this.1
    · rw [List.getElem?_set_ne (by omega), List.getElem?_set_ne (by omega), List.getElem?_set_ne (by omega)]; exact this.2.1
    · rw [List.getElem?_set_ne (by omega), List.getElem?_set_ne (by omega), List.getElem?_set_ne (by omega)]; exact this.2.2
theorem knTo_all {ds : List Kn} {n : Nat} {xs : List Value} (hl : ds.length = n) (hx : xs.length = n * 3) (h : KnTo ds n xs) : xs = flatK ds := by
  apply List.ext_getElem?
  intro i
  by_cases hi : i < n * 3
  · obtain ⟨j, hj⟩ : ∃ j, i = j * 3 ∨ i = j * 3 + 1 ∨ i = j * 3 + 2 := ⟨i / 3, by omega⟩
    have hjn : j < n := by omega
    have h1 := h j hjn
    have h2 := flatK_at ds j (by omega)
    rcases hj with rfl | rfl | rfl
    · rw [h1.1, h2.1]
    · rw [h1.2.1, h2.2.1]
    · rw [h1.2.2, h2.2.2]
  · rw [List.getElem?_eq_none (by omega), List.getElem?_eq_none (by rw [flatK_length]; omega)]
theorem ownK_of {B : Nat} {w : World} {v : Value} {n : Nat} {ds : List Kn} {xs : List Value} (hl : ds.length = n) (h : w.ownsRow B 27 3 v n xs) (hx : KnTo ds n xs) : OwnK B w v ds := by
  have hxl : xs.length = n * 3 := h.1
  rw [knTo_all hl hxl hx] at h
  subst hl
  exact h

end Go.Proofs.Ytkkjbkagkmngkab
