/- Who is whose parent; the questions that ask for it. -/
import Derived.Test.YtmlcelleohhmcaaRel
set_option linter.unusedVariables false
set_option linter.unusedSimpArgs false
namespace Go.Proofs.Ytmlcelleohhmcaa
open Go.RowKit

def isPar (fs : List Kn) (a c : Nat) : Bool := (at3 fs c).2.1 == (a : Int) || (at3 fs c).2.2 == (a : Int)
theorem isParO_any (y1 f1 o1 y2 f2 o2 : Int) (a c : Int) (w : World) : Calls Try.prog 47 #[.agg #[.int .i64 y1, .int .i64 f1, .int .i64 o1, .int .i64 a], .agg #[.int .i64 y2, .int .i64 f2, .int .i64 o2, .int .i64 c]] w (Ret (.bool (f2 == a || o2 == a)) w) := by
  cases h : f2 == a with
  | true =>
    go_enter Try.func47, Try.ntmps47
    go_wp2
    go_ret
    exact ⟨rfl, ((Below.refl w.heap.size w).alloc (Nat.le_refl _) _).alloc (by simp) _⟩
  | false =>
    go_enter Try.func47, Try.ntmps47
    go_wp2
    go_ret
    exact ⟨by simp, ((Below.refl w.heap.size w).alloc (Nat.le_refl _) _).alloc (by simp) _⟩
theorem isPar_any (fs : List Kn) (a c : Nat) (w : World) : Calls Try.prog 47 #[.agg #[.int .i64 (at3 fs a).1, .int .i64 (at3 fs a).2.1, .int .i64 (at3 fs a).2.2, .int .i64 a], .agg #[.int .i64 (at3 fs c).1, .int .i64 (at3 fs c).2.1, .int .i64 (at3 fs c).2.2, .int .i64 c]] w (Ret (.bool (isPar fs a c)) w) := isParO_any _ _ _ _ _ _ _ _ w
/-- The relative n lies in the variable at q. -/
def RelAt (fs : List Kn) (w : World) (q n : Nat) : Prop := w.cell? ⟨q, 0, none⟩ = some (.int .i64 (at3 fs n).1) ∧ w.cell? ⟨q, 1, none⟩ = some (.int .i64 (at3 fs n).2.1) ∧ w.cell? ⟨q, 2, none⟩ = some (.int .i64 (at3 fs n).2.2) ∧ w.cell? ⟨q, 3, none⟩ = some (.int .i64 n)
theorem RelAt.kept {fs : List Kn} {w w' : World} {q n : Nat} (h : RelAt fs w q n) (hb : Below w.heap.size w w') : RelAt fs w' q n :=
  ⟨below_cell2 hb h.1, below_cell2 hb h.2.1, below_cell2 hb h.2.2.1, below_cell2 hb h.2.2.2⟩
theorem relAt_new (fs : List Kn) (w : World) (n q : Nat) (hq : q = w.heap.size) : RelAt fs (w.alloc (.cells #[.int .i64 (at3 fs n).1, .int .i64 (at3 fs n).2.1, .int .i64 (at3 fs n).2.2, .int .i64 n] 70)) q n := by
  subst hq
  exact ⟨by simp [go_sem], by simp [go_sem], by simp [go_sem], by simp [go_sem]⟩
theorem RelAt.above {fs : List Kn} {w : World} {q n : Nat} (h : RelAt fs w q n) (A : Obj) : RelAt fs (w.alloc A) q n := ⟨cell_above h.1 A, cell_above h.2.1 A, cell_above h.2.2.1 A, cell_above h.2.2.2 A⟩
theorem parQ_any (fs : List Kn) (x c q : Nat) (w : World) (h : RelAt fs w q c) : Calls Try.prog 89 #[.agg #[.int .i64 (at3 fs x).1, .int .i64 (at3 fs x).2.1, .int .i64 (at3 fs x).2.2, .int .i64 x], .pointer (some ⟨q, 0, none⟩)] w (Ret (.bool (isPar fs x c)) w) := by
  have HC := Lib.hid (fun w => isPar_any fs x c w)
  obtain ⟨h1, h2, h3, h4⟩ := h
  have hq : q < w.heap.size := World.block_lt_of_cell? w _ h1
  generalize (at3 fs x).1 = y at HC ⊢
  generalize (at3 fs x).2.1 = f at HC ⊢
  generalize (at3 fs x).2.2 = o at HC ⊢
  generalize (at3 fs c).1 = y2 at h1 HC
  generalize (at3 fs c).2.1 = f2 at h2 HC
  generalize (at3 fs c).2.2 = o2 at h3 HC
  have g1 := cell_above h1 (.cells #[.int .i64 y, .int .i64 f, .int .i64 o, .int .i64 x] 70)
  have g2 := cell_above h2 (.cells #[.int .i64 y, .int .i64 f, .int .i64 o, .int .i64 x] 70)
  have g3 := cell_above h3 (.cells #[.int .i64 y, .int .i64 f, .int .i64 o, .int .i64 x] 70)
  have g4 := cell_above h4 (.cells #[.int .i64 y, .int .i64 f, .int .i64 o, .int .i64 x] 70)
  clear h1 h2 h3 h4
  generalize isPar fs x c = r at HC ⊢
  go_enter Try.func89, Try.ntmps89
  go_wp2_with (go_at_call 47; refine (HC.out _).mono ?_; rintro e w2 ⟨rfl, hb2⟩)
  go_ret
  exact ⟨rfl, ((Below.refl w.heap.size w).alloc (Nat.le_refl _) _).trans (hb2.mono (by simp))⟩
theorem picQ_any (fs : List Kn) (x c q : Nat) (w : World) (h : RelAt fs w q c) : Calls Try.prog 87 #[.agg #[.int .i64 (at3 fs x).1, .int .i64 (at3 fs x).2.1, .int .i64 (at3 fs x).2.2, .int .i64 x], .pointer (some ⟨q, 0, none⟩)] w (Ret (.bool (isPar fs x c)) w) := by
  have HC := Lib.hid (fun w => isPar_any fs x c w)
  obtain ⟨h1, h2, h3, h4⟩ := h
  have hq : q < w.heap.size := World.block_lt_of_cell? w _ h1
  generalize (at3 fs x).1 = y at HC ⊢
  generalize (at3 fs x).2.1 = f at HC ⊢
  generalize (at3 fs x).2.2 = o at HC ⊢
  generalize (at3 fs c).1 = y2 at h1 HC
  generalize (at3 fs c).2.1 = f2 at h2 HC
  generalize (at3 fs c).2.2 = o2 at h3 HC
  have g1 := cell_above h1 (.cells #[.int .i64 y, .int .i64 f, .int .i64 o, .int .i64 x] 70)
  have g2 := cell_above h2 (.cells #[.int .i64 y, .int .i64 f, .int .i64 o, .int .i64 x] 70)
  have g3 := cell_above h3 (.cells #[.int .i64 y, .int .i64 f, .int .i64 o, .int .i64 x] 70)
  have g4 := cell_above h4 (.cells #[.int .i64 y, .int .i64 f, .int .i64 o, .int .i64 x] 70)
  clear h1 h2 h3 h4
  generalize isPar fs x c = r at HC ⊢
  go_enter Try.func87, Try.ntmps87
  go_wp2_with (go_at_call 47; refine (HC.out _).mono ?_; rintro e w2 ⟨rfl, hb2⟩)
  go_ret
  exact ⟨rfl, ((Below.refl w.heap.size w).alloc (Nat.le_refl _) _).trans (hb2.mono (by simp))⟩
end Go.Proofs.Ytmlcelleohhmcaa
