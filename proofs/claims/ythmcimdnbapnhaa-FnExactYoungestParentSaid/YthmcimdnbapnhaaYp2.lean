/- YoungestParent: the program's text. -/
import Derived.Test.YthmcimdnbapnhaaYp1
import Derived.Lib.BufferWrite
set_option linter.unusedVariables false
set_option linter.unusedSimpArgs false
namespace Go.Proofs.Ythmcimdnbapnhaa
open Go.RowKit

theorem ageAt_any (y1 f1 o1 n1 y2 f2 o2 n2 : Int) (w : World) (h1 : 0 ≤ y1 ∧ y1 ≤ 3000) (h2 : 0 ≤ y2 ∧ y2 ≤ 3000) :
    Calls Try.prog 78 #[.agg #[.int .i64 y1, .int .i64 f1, .int .i64 o1, .int .i64 n1], .agg #[.int .i64 y2, .int .i64 f2, .int .i64 o2, .int .i64 n2]] w (Ret (.int .i64 (y2 - y1)) w) := by
  have hwr : IntKind.i64.wrap (y2 - y1) = y2 - y1 := IntWalk.i64_in _ (by omega)
  go_enter Try.func78, Try.ntmps78
  go_wp2_with fail
  go_ret
  exact ⟨rfl, ((Below.refl w.heap.size w).alloc (Nat.le_refl _) _).alloc (by simp) _⟩
/-- The four numbers of a relative that is told, or four times 0. -/
def cP (fs : List Kn) (n : Option Nat) : Int × Int × Int × Int := match n with | none => (0, 0, 0, 0) | some n => ((at3 fs n).1, (at3 fs n).2.1, (at3 fs n).2.2, (n : Int))
def At4 (W : World) (q : Nat) (v : Int × Int × Int × Int) : Prop := W.cell? ⟨q, 0, none⟩ = some (.int .i64 v.1) ∧ W.cell? ⟨q, 1, none⟩ = some (.int .i64 v.2.1) ∧ W.cell? ⟨q, 2, none⟩ = some (.int .i64 v.2.2.1) ∧ W.cell? ⟨q, 3, none⟩ = some (.int .i64 v.2.2.2)
theorem At4.kept {W W' : World} {q : Nat} {v : Int × Int × Int × Int} (h : At4 W q v) (hb : Below W.heap.size W W') : At4 W' q v :=
  ⟨below_cell2 hb h.1, below_cell2 hb h.2.1, below_cell2 hb h.2.2.1, below_cell2 hb h.2.2.2⟩
theorem At4.grown {W W' : World} {q g : Nat} {v : Int × Int × Int × Int} (h : At4 W q v) (hg : W.grownBy W' (some g)) (hne : q ≠ g) : At4 W' q v :=
  ⟨hg.cell h.1 (by simpa using hne), hg.cell h.2.1 (by simpa using hne), hg.cell h.2.2.1 (by simpa using hne), hg.cell h.2.2.2 (by simpa using hne)⟩
/-- The relative v is written at q. -/
def set4 (W : World) (q : Nat) (v : Int × Int × Int × Int) : World := (((W.setCell ⟨q, 0, none⟩ (.int .i64 v.1)).setCell ⟨q, 1, none⟩ (.int .i64 v.2.1)).setCell ⟨q, 2, none⟩ (.int .i64 v.2.2.1)).setCell ⟨q, 3, none⟩ (.int .i64 v.2.2.2)
theorem set4_grown (W : World) (q : Nat) (v : Int × Int × Int × Int) : W.grownBy (set4 W q v) (some q) :=
  grown_trans (grown_trans (grown_trans (Lib.grownBy_setCell _ _ _ _) (Lib.grownBy_setCell _ _ _ _)) (Lib.grownBy_setCell _ _ _ _)) (Lib.grownBy_setCell _ _ _ _)
theorem set4_at {W : World} {q : Nat} {v u : Int × Int × Int × Int} (h : At4 W q u) : At4 (set4 W q v) q v := by
  obtain ⟨h0, h1, h2, h3⟩ := h
  have ot : ∀ (X : World) (i j : Nat) (x : Value), i ≠ j → (X.setCell ⟨q, i, none⟩ x).cell? ⟨q, j, none⟩ = X.cell? ⟨q, j, none⟩ := fun X i j x hij => World.cell?_setCell_other _ _ _ _ (fun e => hij (congrArg Addr.off e))
  have sm : ∀ (X : World) (i : Nat) (x y : Value), X.cell? ⟨q, i, none⟩ = some y → (X.setCell ⟨q, i, none⟩ x).cell? ⟨q, i, none⟩ = some x := fun X i x y hx => World.cell?_setCell_same _ _ _ hx
  refine ⟨?_, ?_, ?_, ?_⟩
  · unfold set4; rw [ot _ 3 0 _ (by omega), ot _ 2 0 _ (by omega), ot _ 1 0 _ (by omega)]; exact sm _ _ _ _ h0
  · unfold set4; rw [ot _ 3 1 _ (by omega), ot _ 2 1 _ (by omega)]; exact sm _ _ _ _ ((ot _ 0 1 _ (by omega)).trans h1)
  · unfold set4; rw [ot _ 3 2 _ (by omega)]; exact sm _ _ _ _ (((ot _ 1 2 _ (by omega)).trans (ot _ 0 2 _ (by omega))).trans h2)
  · unfold set4; exact sm _ _ _ _ ((((ot _ 2 3 _ (by omega)).trans (ot _ 1 3 _ (by omega))).trans (ot _ 0 3 _ (by omega))).trans h3)
/-- Where a call stands: the family's relatives in block g, what is told so far in blocks q and q + 1. -/
structure YSt (fs : List Kn) (w : World) (q g c : Nat) (B : Option (Nat × Nat)) (W : World) : Prop where
  kdr : OwnR fs (q + 2) W (.slice (some ⟨g, 0, none⟩) fs.length c) (allN fs)
  below : Below q w W
  p1 : At4 W q (cP fs (B.map (·.1)))
  p2 : At4 W (q + 1) (cP fs (B.map (·.2)))
  f1 : ∀ i, W.frozen? ⟨q, i, none⟩ = false
  f2 : ∀ i, W.frozen? ⟨q + 1, i, none⟩ = false
theorem At4.lt {W : World} {q : Nat} {v : Int × Int × Int × Int} (h : At4 W q v) : q < W.heap.size := World.block_lt_of_cell? W _ h.1
theorem YSt.kept {fs : List Kn} {w W W' : World} {q g c : Nat} {B : Option (Nat × Nat)} (h : YSt fs w q g c B W) (hq : q ≤ W.heap.size) (hb : Below W.heap.size W W') : YSt fs w q g c B W' :=
  ⟨h.kdr.kept hb, h.below.trans (hb.mono hq), h.p1.kept hb, h.p2.kept hb, fun i => (hb.frozen (p := ⟨q, i, none⟩) h.p1.lt).trans (h.f1 i), fun i => (hb.frozen (p := ⟨q + 1, i, none⟩) h.p2.lt).trans (h.f2 i)⟩
theorem frozen_set4 (W : World) (q r i : Nat) (v : Int × Int × Int × Int) : (set4 W q v).frozen? ⟨r, i, none⟩ = W.frozen? ⟨r, i, none⟩ := by simp [set4]
theorem OwnR.set4 {fs : List Kn} {C : Nat} {W : World} {v : Value} {ns : List Nat} (h : OwnR fs C W v ns) (q : Nat) (u : Int × Int × Int × Int) (hq : q < C) : OwnR fs C (set4 W q u) v ns := by
  refine World.ownsRow.kept h (set4_grown W q u) (.inr ?_)
  rcases h.block with e | ⟨g, e, h1, _⟩
  · rw [e]; simp
  · rw [e]; simp; omega
theorem YSt.set {fs : List Kn} {w W : World} {q g c : Nat} {B : Option (Nat × Nat)} (h : YSt fs w q g c B W) (hw : q ≤ W.heap.size) (p x : Nat) : YSt fs w q g c (some (p, x)) (set4 (set4 W q (cP fs (some p))) (q + 1) (cP fs (some x))) :=
  ⟨(h.kdr.set4 _ _ (by omega)).set4 _ _ (by omega), (h.below.grown (set4_grown _ _ _) hw (fun k hk => by cases hk; exact Nat.le_refl _)).grown (set4_grown _ _ _) (Nat.le_trans hw (set4_grown _ _ _).size) (fun k hk => by cases hk; omega),
   (set4_at h.p1).grown (set4_grown _ _ _) (by omega), set4_at (h.p2.grown (set4_grown _ _ _) (by omega)), fun i => by rw [frozen_set4, frozen_set4]; exact h.f1 i, fun i => by rw [frozen_set4, frozen_set4]; exact h.f2 i⟩
theorem YSt.set' {fs : List Kn} {w W : World} {q g c : Nat} {B : Option (Nat × Nat)} (h : YSt fs w q g c B W) (hw : q ≤ W.heap.size) (p x : Nat) : YSt fs w q g c (some (p, x)) (set4 (set4 W (q + 1) (cP fs (some x))) q (cP fs (some p))) :=
  ⟨(h.kdr.set4 _ _ (by omega)).set4 _ _ (by omega), (h.below.grown (set4_grown _ _ _) hw (fun k hk => by cases hk; omega)).grown (set4_grown _ _ _) (Nat.le_trans hw (set4_grown _ _ _).size) (fun k hk => by cases hk; omega),
   set4_at (h.p1.grown (set4_grown _ _ _) (by omega)), (set4_at h.p2).grown (set4_grown _ _ _) (by omega), fun i => by rw [frozen_set4, frozen_set4]; exact h.f1 i, fun i => by rw [frozen_set4, frozen_set4]; exact h.f2 i⟩
end Go.Proofs.Ythmcimdnbapnhaa
