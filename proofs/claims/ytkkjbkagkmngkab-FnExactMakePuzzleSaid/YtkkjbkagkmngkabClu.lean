/- Clues as triples of numbers; what a slice of clues reads as. Plain lemmas, no program. -/
import Derived.Test.YtkkjbkagkmngkabKit
set_option linter.unusedVariables false
set_option linter.unusedSimpArgs false
namespace Go.Proofs.Ytkkjbkagkmngkab
open Go.RowKit

/-- A clue: its kind, A and B. -/
abbrev Kn : Type := Int × Int × Int
def knv (p : Kn) : Value := .agg #[.int .i64 p.1, .int .i64 p.2.1, .int .i64 p.2.2]
/-- The cells of kin. -/
def flatK (ds : List Kn) : List Value := ds.flatMap fun p => [.int .i64 p.1, .int .i64 p.2.1, .int .i64 p.2.2]
def at3 (ds : List Kn) (j : Nat) : Kn := ds.getD j (0, 0, 0)
theorem flatK_length (ds : List Kn) : (flatK ds).length = ds.length * 3 := by
  induction ds with
  | nil => rfl
  | cons p r ih => simp only [flatK, List.flatMap_cons, List.length_append, List.length_cons, List.length_nil] at ih ⊢; omega
theorem flatK_snoc (ds : List Kn) (p : Kn) : flatK (ds ++ [p]) = flatK ds ++ [.int .i64 p.1, .int .i64 p.2.1, .int .i64 p.2.2] := by
  simp [flatK]
theorem flatK_append (ds es : List Kn) : flatK (ds ++ es) = flatK ds ++ flatK es := by simp [flatK]
theorem flatK_cons (p : Kn) (ds : List Kn) : flatK (p :: ds) = .int .i64 p.1 :: .int .i64 p.2.1 :: .int .i64 p.2.2 :: flatK ds := by simp [flatK]
theorem flatK_at (ds : List Kn) : ∀ j, j < ds.length → (flatK ds)[j * 3]? = some (.int .i64 (at3 ds j).1) ∧ (flatK ds)[j * 3 + 1]? = some (.int .i64 (at3 ds j).2.1) ∧ (flatK ds)[j * 3 + 2]? = some (.int .i64 (at3 ds j).2.2) := by
  induction ds with
  | nil => intro j h; simp at h
  | cons p r ih =>
    intro j h
    rw [flatK_cons]
    cases j with
    | zero => simp [at3]
    | succ j =>
      have := ih j (by simpa using h)
      rw [show (j + 1) * 3 = j * 3 + 1 + 1 + 1 by omega]
      simpa [at3] using this

/-- The cells of block b from off on read as the kin ds. -/
def Kns (w : World) (b off : Nat) (ds : List Kn) : Prop :=
  ∀ j, j < ds.length → w.cell? ⟨b, off + j * 3, none⟩ = some (.int .i64 (at3 ds j).1) ∧ w.cell? ⟨b, off + j * 3 + 1, none⟩ = some (.int .i64 (at3 ds j).2.1) ∧ w.cell? ⟨b, off + j * 3 + 2, none⟩ = some (.int .i64 (at3 ds j).2.2)
/-- A slice of kin that came in. -/
def ArgK (w : World) (a : Option Addr) (n : Nat) (ds : List Kn) : Prop :=
  ds.length = n ∧ (n = 0 ∨ ∃ b off, a = some ⟨b, off, none⟩ ∧ b < w.heap.size ∧ Kns w b off ds)
theorem Kns.kept {B : Nat} {w w' : World} {b off : Nat} {ds : List Kn} (h : Kns w b off ds) (hb : Below B w w') (hlt : b < B) : Kns w' b off ds :=
  fun j hj => ⟨(hb.cell (p := ⟨b, off + j * 3, none⟩) hlt).trans (h j hj).1, (hb.cell (p := ⟨b, off + j * 3 + 1, none⟩) hlt).trans (h j hj).2.1, (hb.cell (p := ⟨b, off + j * 3 + 2, none⟩) hlt).trans (h j hj).2.2⟩
theorem ArgK.kept {w w' : World} {a : Option Addr} {n : Nat} {ds : List Kn} (h : ArgK w a n ds) (hb : Below w.heap.size w w') : ArgK w' a n ds := by
  obtain ⟨h1, h2⟩ := h
  refine ⟨h1, ?_⟩
  rcases h2 with h2 | ⟨b, off, ha, hlt, hi⟩
  · exact .inl h2
  · exact .inr ⟨b, off, ha, Nat.lt_of_lt_of_le hlt hb.size, hi.kept hb hlt⟩
theorem kns_lt {w : World} {b off : Nat} {ds : List Kn} (h : Kns w b off ds) (h0 : 0 < ds.length) : b < w.heap.size :=
  World.block_lt_of_cell? w _ (h 0 h0).1
theorem at3_take {ds : List Kn} {m j : Nat} (hj : j < m) : at3 (ds.take m) j = at3 ds j := by
  simp [at3, List.getElem?_take, hj]
theorem Kns.take {w : World} {b off : Nat} {ds : List Kn} (h : Kns w b off ds) (m : Nat) : Kns w b off (ds.take m) := by
  intro j hj
  simp at hj
  rw [at3_take (by omega)]
  exact h j (by omega)

/-- The value v is a slice of the kin ds in a block of number B or greater. -/
def OwnK (B : Nat) (w : World) (v : Value) (ds : List Kn) : Prop := w.ownsRow B 27 3 v ds.length (flatK ds)
def RetRowK (ds : List Kn) (w : World) (e : Ending) (w' : World) : Prop :=
  ∃ g, w.heap.size ≤ g ∧ e = .returned (.slice (some ⟨g, 0, none⟩) ds.length ds.length) ∧ OwnK w.heap.size w' (.slice (some ⟨g, 0, none⟩) ds.length ds.length) ds ∧ Below w.heap.size w w'
def RetOwnK (ds : List Kn) (w : World) (e : Ending) (w' : World) : Prop :=
  ∃ v, e = .returned v ∧ OwnK w.heap.size w' v ds ∧ Below w.heap.size w w'
def RetOwnKB (ds : List Kn) (ok : Bool) (w : World) (e : Ending) (w' : World) : Prop :=
  ∃ v, e = .returned (.tuple #[v, .bool ok]) ∧ OwnK w.heap.size w' v ds ∧ Below w.heap.size w w'
theorem OwnK.kept {B : Nat} {w w' : World} {v : Value} {ds : List Kn} (h : OwnK B w v ds) (hb : Below w.heap.size w w') : OwnK B w' v ds :=
  World.ownsRow.kept h (below_grown hb none) (by cases hv : v.ownBlock <;> simp)
theorem OwnK.grown {B : Nat} {w w' : World} {v : Value} {ds : List Kn} {g : Nat} (h : OwnK B w v ds) (hb : w.grownBy w' (some g)) (hg : v.ownBlock ≠ some g) : OwnK B w' v ds :=
  World.ownsRow.kept h hb (.inr hg)
theorem OwnK.mono {B B' : Nat} {w : World} {v : Value} {ds : List Kn} (h : OwnK B w v ds) (hB : B' ≤ B) : OwnK B' w v ds := by
  obtain ⟨h1, h2⟩ := h
  refine ⟨h1, ?_⟩
  rcases h2 with h2 | ⟨g, cap, cur, hv, hg, r⟩
  · exact .inl h2
  · exact .inr ⟨g, cap, cur, hv, Nat.le_trans hB hg, r⟩
theorem ownK_nil (B : Nat) (w : World) : OwnK B w (.slice none 0 0) [] := World.ownsRow_nil _ _ _ _
theorem OwnK.cases {B : Nat} {w : World} {v : Value} {ds : List Kn} (h : OwnK B w v ds) :
    (v = .slice none 0 0 ∧ ds = []) ∨ ∃ g c, v = .slice (some ⟨g, 0, none⟩) ds.length c ∧ B ≤ g ∧ g < w.heap.size ∧ ds.length ≤ c ∧ c ≤ maxLen ∧ Kns w g 0 ds ∧ ∀ j, w.frozen? ⟨g, j, none⟩ = false := by
  have h' := h
  rcases h.2 with ⟨h2, h3⟩ | ⟨g, cap, cur, rfl, h2, h3, h4, h5, h6, h7⟩
  · exact .inl ⟨h2, List.eq_nil_of_length_eq_zero h3⟩
  · refine .inr ⟨g, cap, rfl, h2, (Array.getElem?_eq_some_iff.1 h3).1, h4, h5, fun j hj => ?_, fun j => World.ownsRow.frozenAt h' j⟩
    have e1 := World.ownsRow.cellAt h' (j * 3) (by omega)
    have e2 := World.ownsRow.cellAt h' (j * 3 + 1) (by omega)
    have e3 := World.ownsRow.cellAt h' (j * 3 + 2) (by omega)
    rw [Nat.zero_add, e1, e2, e3]
    exact flatK_at ds j hj
theorem OwnK.shape {B : Nat} {w : World} {g c n : Nat} {ds : List Kn} (h : OwnK B w (.slice (some ⟨g, 0, none⟩) n c) ds) : n = ds.length ∧ B ≤ g ∧ g < w.heap.size ∧ n ≤ c ∧ Kns w g 0 ds ∧ ∀ j, w.frozen? ⟨g, j, none⟩ = false := by
  rcases h.cases with ⟨h1, _⟩ | ⟨g', c', h1, h2, h3, h4, _, h5, h6⟩
  · simp at h1
  · simp only [Value.slice.injEq, Option.some.injEq, Addr.mk.injEq, and_true, true_and] at h1
    obtain ⟨rfl, rfl, rfl⟩ := h1
    exact ⟨rfl, h2, h3, h4, h5, h6⟩
theorem OwnK.block {B : Nat} {w : World} {v : Value} {ds : List Kn} (h : OwnK B w v ds) : v.ownBlock = none ∨ ∃ g, v.ownBlock = some g ∧ B ≤ g ∧ g < w.heap.size := by
  rcases h.cases with ⟨rfl, _⟩ | ⟨g, c, rfl, h1, h2, _⟩
  · exact .inl rfl
  · exact .inr ⟨g, rfl, h1, h2⟩
theorem OwnK.blockNe {B g : Nat} {w : World} {v : Value} {zs : List Kn} (h : OwnK B w v zs) (hle : w.heap.size ≤ g) : v.ownBlock ≠ some g := by
  rcases h.block with h | ⟨g', h, _, h2⟩ <;> rw [h] <;> simp; omega
theorem OwnK.grownLt {B g : Nat} {w w' : World} {v : Value} {zs : List Kn} (h : OwnK B w v zs) (hg : w.grownBy w' (some g)) (hlt : g < B) : OwnK B w' v zs := by
  refine h.grown hg ?_
  rcases h.block with h | ⟨g', h, h1, _⟩ <;> rw [h] <;> simp; omega
theorem OwnK.ownNe {B B' : Nat} {w w' : World} {v u : Value} {zs ys : List Kn} (h : OwnK B w v zs) (hle : w.heap.size ≤ B') (h' : OwnK B' w' u ys) : v.ownBlock = none ∨ v.ownBlock ≠ u.ownBlock := by
  rcases h.block with h | ⟨g, h, _, h2⟩
  · exact .inl h
  · refine .inr ?_
    rcases h'.block with k | ⟨g', k, k1, _⟩
    · rw [h, k]; simp
    · rw [h, k]; simp; omega
theorem OwnK.grownV {B : Nat} {w w' : World} {v u : Value} {zs : List Kn} (h : OwnK B w v zs) (hg : w.grownBy w' u.ownBlock) (hne : v.ownBlock = none ∨ v.ownBlock ≠ u.ownBlock) : OwnK B w' v zs :=
  World.ownsRow.kept h hg hne
theorem below_ownAboveK {B : Nat} {a w w' : World} {v : Value} {zs : List Kn} (h : Below a.heap.size a w) (ho : OwnK B w v zs) (hg : w.grownBy w' v.ownBlock) (hB : a.heap.size ≤ B) : Below a.heap.size a w' := by
  rcases ho.block with k | ⟨g, k, k1, _⟩
  · rw [k] at hg
    exact ⟨hg.os.trans h.os, hg.tape.trans h.tape, hg.output.trans h.output, Nat.le_trans h.size hg.size, fun i hi =>
      (hg.block i (Nat.lt_of_lt_of_le hi h.size) (by simp)).trans (h.block i hi)⟩
  · rw [k] at hg
    exact below_grownAbove h hg (Nat.le_trans hB k1)

end Go.Proofs.Ytkkjbkagkmngkab
