/- Own vocabulary for worlds: what a slice of integers reads as, what a call owns, what a call returns. Plain lemmas, no program. -/
import Derived.WalkKit
import Derived.WalkSmall
import Derived.Handy
import Derived.Lib.Hide
set_option linter.unusedVariables false
set_option linter.unusedSimpArgs false
namespace Go.Proofs.Ytkkjbkagkmngkab
open Go.RowKit

/-- The cells of block b from off on read as the numbers zs. -/
def Ints (w : World) (b off : Nat) (zs : List Int) : Prop :=
  ∀ j, j < zs.length → w.cell? ⟨b, off + j, none⟩ = some (.int .i64 (zs.getD j 0))

/-- A slice of integers that came in: empty at whatever address, or a row of cells. -/
def Arg (w : World) (a : Option Addr) (n : Nat) (zs : List Int) : Prop :=
  zs.length = n ∧ (n = 0 ∨ ∃ b off, a = some ⟨b, off, none⟩ ∧ b < w.heap.size ∧ Ints w b off zs)

/-- The value v is a slice of the numbers zs in a block of number B or greater. -/
def Own (B : Nat) (w : World) (v : Value) (zs : List Int) : Prop :=
  w.ownsRow B 3 1 v zs.length (zs.map (Value.int .i64))

/-- A call returned v and wrote nothing that was there. -/
def Ret (v : Value) (w : World) (e : Ending) (w' : World) : Prop := e = .returned v ∧ Below w.heap.size w w'
/-- A call returned a new slice of exactly n numbers zs, never nil. -/
def RetRow (zs : List Int) (w : World) (e : Ending) (w' : World) : Prop :=
  ∃ g, w.heap.size ≤ g ∧ e = .returned (.slice (some ⟨g, 0, none⟩) zs.length zs.length) ∧ Own w.heap.size w' (.slice (some ⟨g, 0, none⟩) zs.length zs.length) zs ∧ Below w.heap.size w w'
/-- A call returned a new slice of the numbers zs, maybe nil. -/
def RetOwn (zs : List Int) (w : World) (e : Ending) (w' : World) : Prop :=
  ∃ v, e = .returned v ∧ Own w.heap.size w' v zs ∧ Below w.heap.size w w'
/-- A call returned a new slice of the numbers zs, maybe nil, and a bool. -/
def RetOwnB (zs : List Int) (ok : Bool) (w : World) (e : Ending) (w' : World) : Prop :=
  ∃ v, e = .returned (.tuple #[v, .bool ok]) ∧ Own w.heap.size w' v zs ∧ Below w.heap.size w w'

theorem below_grown {w w' : World} (h : Below w.heap.size w w') (row : Option Nat) : w.grownBy w' row :=
  ⟨h.os, h.tape, h.output, h.size, fun k hk _ => h.block k hk⟩

theorem Ints.kept {B : Nat} {w w' : World} {b off : Nat} {zs : List Int} (h : Ints w b off zs) (hb : Below B w w') (hlt : b < B) : Ints w' b off zs :=
  fun j hj => (hb.cell (p := ⟨b, off + j, none⟩) hlt).trans (h j hj)

theorem Arg.kept {w w' : World} {a : Option Addr} {n : Nat} {zs : List Int} (h : Arg w a n zs) (hb : Below w.heap.size w w') : Arg w' a n zs := by
  obtain ⟨h1, h2⟩ := h
  refine ⟨h1, ?_⟩
  rcases h2 with h2 | ⟨b, off, ha, hlt, hi⟩
  · exact .inl h2
  · exact .inr ⟨b, off, ha, Nat.lt_of_lt_of_le hlt hb.size, hi.kept hb hlt⟩

/-- The argument over a chain of changes above the first world. -/
theorem Arg.kept2 {W w w' : World} {a : Option Addr} {n : Nat} {zs : List Int} (h : Arg W a n zs) (hb : Below W.heap.size W w') : Arg w' a n zs := h.kept hb

theorem Own.len {B : Nat} {w : World} {v : Value} {zs : List Int} (h : Own B w v zs) : zs.length ≤ maxLen := by
  rcases h.2 with ⟨_, h2⟩ | ⟨g, cap, cur, _, _, _, h3, h4, _⟩
  · omega
  · omega

theorem Own.kept {B : Nat} {w w' : World} {v : Value} {zs : List Int} (h : Own B w v zs) (hb : Below w.heap.size w w') : Own B w' v zs := by
  have hg := below_grown hb none
  exact World.ownsRow.kept h hg (by cases hv : v.ownBlock <;> simp)

theorem Own.grown {B : Nat} {w w' : World} {v : Value} {zs : List Int} {g : Nat} (h : Own B w v zs) (hb : w.grownBy w' (some g)) (hg : v.ownBlock ≠ some g) : Own B w' v zs :=
  World.ownsRow.kept h hb (.inr hg)

theorem Own.mono {B B' : Nat} {w : World} {v : Value} {zs : List Int} (h : Own B w v zs) (hB : B' ≤ B) : Own B' w v zs := by
  obtain ⟨h1, h2⟩ := h
  refine ⟨h1, ?_⟩
  rcases h2 with h2 | ⟨g, cap, cur, hv, hg, r⟩
  · exact .inl h2
  · exact .inr ⟨g, cap, cur, hv, Nat.le_trans hB hg, r⟩

theorem own_nil (B : Nat) (w : World) : Own B w (.slice none 0 0) [] := World.ownsRow_nil _ _ _ _

theorem Own.cases {B : Nat} {w : World} {v : Value} {zs : List Int} (h : Own B w v zs) :
    (v = .slice none 0 0 ∧ zs = []) ∨ ∃ g c, v = .slice (some ⟨g, 0, none⟩) zs.length c ∧ B ≤ g ∧ g < w.heap.size ∧ zs.length ≤ c ∧ c ≤ maxLen ∧ Ints w g 0 zs ∧ ∀ j, w.frozen? ⟨g, j, none⟩ = false := by
  have h' := h
  rcases h.2 with ⟨h2, h3⟩ | ⟨g, cap, cur, rfl, h2, h3, h4, h5, h6, h7⟩
  · exact .inl ⟨h2, List.eq_nil_of_length_eq_zero h3⟩
  · refine .inr ⟨g, cap, rfl, h2, (Array.getElem?_eq_some_iff.1 h3).1, h4, h5, fun j hj => ?_, fun j => World.ownsRow.frozenAt h' j⟩
    have := World.ownsRow.cellAt h' j (by omega)
    rw [Nat.zero_add, this]
    simp [List.getElem?_map, List.getElem?_eq_getElem hj, List.getD_eq_getElem?_getD]

/-- The shape of an owned slice that is not empty. -/
theorem Own.shape {B : Nat} {w : World} {g c n : Nat} {zs : List Int} (h : Own B w (.slice (some ⟨g, 0, none⟩) n c) zs) : n = zs.length ∧ B ≤ g ∧ g < w.heap.size ∧ n ≤ c ∧ Ints w g 0 zs ∧ ∀ j, w.frozen? ⟨g, j, none⟩ = false := by
  rcases h.cases with ⟨h1, _⟩ | ⟨g', c', h1, h2, h3, h4, _, h5, h6⟩
  · simp at h1
  · simp only [Value.slice.injEq, Option.some.injEq, Addr.mk.injEq, and_true, true_and] at h1
    obtain ⟨rfl, rfl, rfl⟩ := h1
    exact ⟨rfl, h2, h3, h4, h5, h6⟩

theorem Ints.take {w : World} {b off : Nat} {zs : List Int} (h : Ints w b off zs) (k : Nat) (hk : k < zs.length) : w.cell? ⟨b, off + k, none⟩ = some (.int .i64 (zs.getD k 0)) := h k hk

/-- Numbers k, k+1, .., n of them. -/
def marks (k : Int) : Nat → List Int
  | 0 => []
  | n + 1 => k :: marks (k + 1) n
theorem marks_length (n : Nat) : ∀ k, (marks k n).length = n := by
  induction n with
  | zero => intro k; rfl
  | succ n ih => intro k; simp [marks, ih]
theorem marks_getD (n : Nat) : ∀ (k : Int) (j : Nat), j < n → (marks k n).getD j 0 = k + j := by
  induction n with
  | zero => intro k j h; omega
  | succ n ih =>
    intro k j h
    cases j with
    | zero => simp [marks]
    | succ j => 
      have := ih (k + 1) j (by omega)
      simp only [marks, List.getD_cons_succ, this]; omega
theorem marks_snoc (n : Nat) : ∀ k, marks k (n + 1) = marks k n ++ [k + n] := by
  induction n with
  | zero => intro k; simp [marks]
  | succ n ih =>
    intro k
    rw [marks, ih, marks]
    simp only [List.cons_append]
    congr 3
    omega
/-- The first j numbers are marks, the others as they were. -/
def mk (zs : List Int) (k : Int) (j : Nat) : List Value := (marks k j ++ zs.drop j).map (Value.int .i64)
theorem mk_zero (zs : List Int) (k : Int) : mk zs k 0 = zs.map (Value.int .i64) := rfl
theorem mk_all (zs : List Int) (k : Int) : mk zs k zs.length = (marks k zs.length).map (Value.int .i64) := by simp [mk]
theorem mk_len (zs : List Int) (k : Int) (j : Nat) (hj : j ≤ zs.length) : (mk zs k j).length = zs.length := by simp [mk, marks_length]; omega
theorem mk_some (zs : List Int) (k : Int) (j : Nat) (hj : j < zs.length) : ∃ u, (mk zs k j)[j]? = some u :=
  ⟨_, List.getElem?_eq_getElem (by rw [mk_len _ _ _ (by omega)]; exact hj)⟩
theorem mk_step (zs : List Int) (k : Int) (j : Nat) (hj : j < zs.length) : (mk zs k j).set j (.int .i64 (k + j)) = mk zs k (j + 1) := by
  unfold mk
  rw [← List.map_set, List.set_append, marks_length, if_neg (by omega), Nat.sub_self, marks_snoc]
  rw [show zs.drop j = zs[j] :: zs.drop (j + 1) from List.drop_eq_getElem_cons hj]
  simp only [List.set_cons_zero, List.append_assoc, List.singleton_append]

/-- A call returned v and left the world alone. -/
def RetSame (v : Value) (w : World) (e : Ending) (w' : World) : Prop := e = .returned v ∧ w = w'

def inB (n lo hi : Int) : Bool := decide (lo ≤ n ∧ n ≤ hi)
def allB (zs : List Int) (lo hi : Int) : Bool := zs.all fun z => inB z lo hi
/-- Ages, or births, of people. -/
def goodB (zs : List Int) (hi : Int) : Bool := inB zs.length 1 8 && allB zs 0 hi
theorem inB_true {n lo hi : Int} (h1 : lo ≤ n) (h2 : n ≤ hi) : inB n lo hi = true := decide_eq_true ⟨h1, h2⟩
theorem inB_iff {n lo hi : Int} : inB n lo hi = true ↔ lo ≤ n ∧ n ≤ hi := by simp [inB]
theorem inB_not {n lo hi : Int} : inB n lo hi = false ↔ (n < lo ∨ hi < n) := by simp [inB]; omega
theorem allB_iff {zs : List Int} {lo hi : Int} : allB zs lo hi = true ↔ ∀ j, j < zs.length → inB (zs.getD j 0) lo hi = true := by
  unfold allB
  rw [List.all_eq_true]
  constructor
  · intro h j hj
    have := h zs[j] (List.getElem_mem hj)
    simpa [List.getElem?_eq_getElem hj] using this
  · intro h z hz
    obtain ⟨j, hj, rfl⟩ := List.getElem_of_mem hz
    simpa [List.getElem?_eq_getElem hj] using h j hj
theorem allB_not {zs : List Int} {lo hi : Int} (j : Nat) (hj : j < zs.length) (h : inB (zs.getD j 0) lo hi = false) : allB zs lo hi = false := by
  cases e : allB zs lo hi with
  | false => rfl
  | true => rw [allB_iff.1 e j hj] at h; exact absurd h (by simp)
theorem goodB_len {zs : List Int} {hi : Int} (h : goodB zs hi = true) : 1 ≤ zs.length ∧ zs.length ≤ 8 := by
  unfold goodB at h; rw [Bool.and_eq_true, inB_iff] at h; omega
theorem goodB_at {zs : List Int} {hi : Int} (h : goodB zs hi = true) (j : Nat) (hj : j < zs.length) : 0 ≤ zs.getD j 0 ∧ zs.getD j 0 ≤ hi := by
  unfold goodB at h; rw [Bool.and_eq_true] at h; exact inB_iff.1 (allB_iff.1 h.2 j hj)
theorem goodB_mem {zs : List Int} {hi : Int} (h : goodB zs hi = true) (z : Int) (hz : z ∈ zs) : 0 ≤ z ∧ z ≤ hi := by
  obtain ⟨j, hj, rfl⟩ := List.getElem_of_mem hz
  simpa [List.getElem?_eq_getElem hj] using goodB_at h j hj

/-- What a statement's frame knows of a slice of integers that came in. -/
theorem arg_of_row {w : World} {a : Option Addr} {len cap : Nat} {zs : List Int}
    (h : (a = none ∧ len = 0 ∧ cap = 0 ∧ zs = []) ∨ ∃ x, a = some x ∧ len ≤ cap ∧ cap ≤ maxLen ∧ zs.length = cap ∧ (∀ i, i < zs.length → w.cell? (x.add i) = some (.int .i64 (zs.getD i 0))) ∧ ∀ n ∈ zs, (Lit.int .i64 n).wf = true) :
    Arg w a len (zs.take len) := by
  rcases h with ⟨_, rfl, _, rfl⟩ | ⟨x, rfl, hl, hm, hz, hc, _⟩
  · exact ⟨rfl, .inl rfl⟩
  · refine ⟨by simp; omega, ?_⟩
    by_cases h0 : len = 0
    · exact .inl h0
    · obtain ⟨b, off, spot⟩ := x
      have hc0 := hc 0 (by omega)
      have hspot : spot = none := by simpa [Addr.add] using World.cell?_spot hc0
      subst hspot
      refine .inr ⟨b, off, rfl, World.block_lt_of_cell? w _ hc0, fun j hj => ?_⟩
      have hj' : j < len := by simp at hj; omega
      have e : (⟨b, off, none⟩ : Addr).add j = ⟨b, off + j, none⟩ := by
        unfold Addr.add
        by_cases hj0 : j = 0
        · subst hj0; rfl
        · rw [if_neg hj0]
      rw [← e, hc j (by omega)]
      simp [List.getElem?_take, hj']

/-- A call returned a number and a bool. -/
def RetIB (r : Int) (ok : Bool) (w : World) (e : Ending) (w' : World) : Prop := e = .returned (.tuple #[.int .i64 r, .bool ok]) ∧ Below w.heap.size w w'
/-- A call returned two numbers and a bool. -/
def RetIIB (r1 r2 : Int) (ok : Bool) (w : World) (e : Ending) (w' : World) : Prop := e = .returned (.tuple #[.int .i64 r1, .int .i64 r2, .bool ok]) ∧ Below w.heap.size w w'
/-- A call returned a string and a bool. -/
def RetSB (r : ByteArray) (ok : Bool) (w : World) (e : Ending) (w' : World) : Prop := e = .returned (.tuple #[.string r, .bool ok]) ∧ Below w.heap.size w w'

theorem below_grownAbove {g : Nat} {a w w' : World} (h : Below a.heap.size a w) (hg : w.grownBy w' (some g)) (hB : a.heap.size ≤ g) : Below a.heap.size a w' :=
  ⟨hg.os.trans h.os, hg.tape.trans h.tape, hg.output.trans h.output, Nat.le_trans h.size hg.size, fun k hk =>
    (hg.block k (Nat.lt_of_lt_of_le hk h.size) (fun e => by simp at e; omega)).trans (h.block k hk)⟩

theorem Own.block {B : Nat} {w : World} {v : Value} {zs : List Int} (h : Own B w v zs) : v.ownBlock = none ∨ ∃ g, v.ownBlock = some g ∧ B ≤ g ∧ g < w.heap.size := by
  rcases h.cases with ⟨rfl, _⟩ | ⟨g, c, rfl, h1, h2, _⟩
  · exact .inl rfl
  · exact .inr ⟨g, rfl, h1, h2⟩
theorem Own.blockNe {B g : Nat} {w : World} {v : Value} {zs : List Int} (h : Own B w v zs) (hle : w.heap.size ≤ g) : v.ownBlock ≠ some g := by
  rcases h.block with h | ⟨g', h, _, h2⟩ <;> rw [h] <;> simp; omega
theorem Own.grownLt {B g : Nat} {w w' : World} {v : Value} {zs : List Int} (h : Own B w v zs) (hg : w.grownBy w' (some g)) (hlt : g < B) : Own B w' v zs := by
  refine h.grown hg ?_
  rcases h.block with h | ⟨g', h, h1, _⟩ <;> rw [h] <;> simp; omega
theorem Own.ownNe {B B' : Nat} {w w' : World} {v u : Value} {zs ys : List Int} (h : Own B w v zs) (hle : w.heap.size ≤ B') (h' : Own B' w' u ys) : v.ownBlock = none ∨ v.ownBlock ≠ u.ownBlock := by
  rcases h.block with h | ⟨g, h, _, h2⟩
  · exact .inl h
  · refine .inr ?_
    rcases h'.block with k | ⟨g', k, k1, _⟩
    · rw [h, k]; simp
    · rw [h, k]; simp; omega
theorem Own.grownV {B : Nat} {w w' : World} {v u : Value} {zs : List Int} (h : Own B w v zs) (hg : w.grownBy w' u.ownBlock) (hne : v.ownBlock = none ∨ v.ownBlock ≠ u.ownBlock) : Own B w' v zs :=
  World.ownsRow.kept h hg hne
theorem below_ownAbove {B : Nat} {a w w' : World} {v : Value} {zs : List Int} (h : Below a.heap.size a w) (ho : Own B w v zs) (hg : w.grownBy w' v.ownBlock) (hB : a.heap.size ≤ B) : Below a.heap.size a w' := by
  rcases ho.block with k | ⟨g, k, k1, _⟩
  · rw [k] at hg
    exact ⟨hg.os.trans h.os, hg.tape.trans h.tape, hg.output.trans h.output, Nat.le_trans h.size hg.size, fun i hi =>
      (hg.block i (Nat.lt_of_lt_of_le hi h.size) (by simp)).trans (h.block i hi)⟩
  · rw [k] at hg
    exact below_grownAbove h hg (Nat.le_trans hB k1)
theorem own_push {B : Nat} {w1 : World} {v' : Value} {zs : List Int} {x : Int} (h : w1.ownsRow B 3 1 v' (zs.length + 1) (zs.map (Value.int .i64) ++ [Value.int .i64 x])) : Own B w1 v' (zs ++ [x]) := by
  unfold Own
  rw [List.length_append, List.map_append]
  exact h
theorem below_push {w wr w1 : World} {v : Value} {zs : List Int} {o : Obj} (hb : Below w.heap.size w wr) (h : Own w.heap.size wr v zs) (hg : (wr.alloc o).grownBy w1 v.ownBlock) : Below w.heap.size w w1 :=
  below_ownAbove (hb.alloc hb.size o) (World.ownsRow.alloc h o) hg (Nat.le_refl _)
/-- The cell of a number that was just made. -/
theorem newCell (w : World) (x : Value) (t : TypeId) : ∀ j u, [x][j]? = some u → (w.alloc (.cells #[x] t)).cell? ((⟨w.heap.size, 0, none⟩ : Addr).add j) = some u := by
  intro j u hj
  match j, hj with
  | 0, hj => simp at hj; subst hj; simp [Addr.add]
theorem oneInt (x : Int) : ∀ u ∈ [Value.int .i64 x], u.oneCell' = true := by
  intro u hu; simp at hu; subst hu; rfl
/-- The first k numbers, each through f. -/
def mapTo (f : Int → Int) (zs : List Int) (k : Nat) : List Int := (zs.take k).map f
theorem mapTo_zero (f : Int → Int) (zs : List Int) : mapTo f zs 0 = [] := rfl
theorem mapTo_succ (f : Int → Int) (zs : List Int) (k : Nat) (hk : k < zs.length) : mapTo f zs (k + 1) = mapTo f zs k ++ [f (zs.getD k 0)] := by
  unfold mapTo
  rw [List.take_succ_eq_append_getElem hk, List.map_append]
  simp [List.getElem?_eq_getElem hk]
theorem mapTo_all (f : Int → Int) (zs : List Int) (k : Nat) (hk : zs.length ≤ k) : mapTo f zs k = zs.map f := by unfold mapTo; rw [List.take_of_length_le hk]
theorem mapTo_len (f : Int → Int) (zs : List Int) (k : Nat) : (mapTo f zs k).length ≤ zs.length := by simp [mapTo]; omega

theorem ints_lt {w : World} {b off : Nat} {zs : List Int} (h : Ints w b off zs) (h0 : 0 < zs.length) : b < w.heap.size :=
  World.block_lt_of_cell? w _ (h 0 h0)

/-- A call marked the numbers of v. -/
def RetMarkV (B : Nat) (v : Value) (n : Nat) (k : Int) (w : World) (e : Ending) (w' : World) : Prop :=
  e = .returned (.int .i64 (k + n)) ∧ Own B w' v (marks k n) ∧ w.grownBy w' v.ownBlock

/-- A call marked the n numbers of block g. -/
def RetMark (B g c n : Nat) (k : Int) (w : World) (e : Ending) (w' : World) : Prop :=
  e = .returned (.int .i64 (k + n)) ∧ Own B w' (.slice (some ⟨g, 0, none⟩) n c) (marks k n) ∧ w.grownBy w' (some g)

end Go.Proofs.Ytkkjbkagkmngkab
