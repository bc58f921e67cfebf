/- Dates as pairs of numbers; what a slice of dates reads as. Plain lemmas, no program. -/
import Derived.Test.YtadfojjglceheaaDoorKit
set_option linter.unusedVariables false
set_option linter.unusedSimpArgs false
namespace Go.Proofs.YtadfojjglceheaaDoor
open Go.RowKit

/-- A date: its year and its day. -/
abbrev Dt : Type := Int × Int
/-- A date as a value. -/
def dv (p : Dt) : Value := .agg #[.int .i64 p.1, .int .i64 p.2]
/-- The cells of dates. -/
def flatD (ds : List Dt) : List Value := ds.flatMap fun p => [.int .i64 p.1, .int .i64 p.2]
def at2 (ds : List Dt) (j : Nat) : Dt := ds.getD j (0, 0)
theorem flatD_length (ds : List Dt) : (flatD ds).length = ds.length * 2 := by
  induction ds with
  | nil => rfl
  | cons p r ih => simp only [flatD, List.flatMap_cons, List.length_append, List.length_cons, List.length_nil] at ih ⊢; omega
theorem flatD_snoc (ds : List Dt) (p : Dt) : flatD (ds ++ [p]) = flatD ds ++ [.int .i64 p.1, .int .i64 p.2] := by
  simp [flatD]
theorem flatD_cons (p : Dt) (ds : List Dt) : flatD (p :: ds) = .int .i64 p.1 :: .int .i64 p.2 :: flatD ds := by simp [flatD]
theorem flatD_at (ds : List Dt) : ∀ j, j < ds.length → (flatD ds)[j * 2]? = some (.int .i64 (at2 ds j).1) ∧ (flatD ds)[j * 2 + 1]? = some (.int .i64 (at2 ds j).2) := by
  induction ds with
  | nil => intro j h; simp at h
  | cons p r ih =>
    intro j h
    rw [flatD_cons]
    cases j with
    | zero => simp [at2]
    | succ j =>
      have := ih j (by simpa using h)
      rw [show (j + 1) * 2 = j * 2 + 1 + 1 by omega]
      simpa [at2] using this
theorem flatD_set (ds : List Dt) (k : Nat) (y d : Int) (h : k < ds.length) : ((flatD ds).set (k * 2) (.int .i64 y)).set (k * 2 + 1) (.int .i64 d) = flatD (ds.set k (y, d)) := by
  induction ds generalizing k with
  | nil => simp at h
  | cons p r ih =>
    cases k with
    | zero => simp [flatD_cons]
    | succ k =>
      have := ih k (by simpa using h)
      rw [flatD_cons, show (k + 1) * 2 = k * 2 + 1 + 1 by omega]
      simp only [List.set_cons_succ, flatD_cons]
      rw [this]
theorem flatD_set1 (ds : List Dt) (k : Nat) (y : Int) (h : k < ds.length) : (flatD ds).set (k * 2) (.int .i64 y) = flatD (ds.set k (y, (at2 ds k).2)) := by
  have h1 := (flatD_at ds k h).2
  have h2 := flatD_set ds k y (at2 ds k).2 h
  rw [← h2]
  apply List.ext_getElem?
  intro j
  by_cases hj : j = k * 2 + 1
  · subst hj
    have hl := flatD_length ds
    rw [List.getElem?_set_ne (by omega), h1, List.getElem?_set_self (by rw [List.length_set]; omega)]
  · rw [List.getElem?_set_ne (l := (flatD ds).set _ _) (fun e => hj e.symm)]

/-- The cells of block b from off on read as the dates ds. -/
def Dts (w : World) (b off : Nat) (ds : List Dt) : Prop :=
  ∀ j, j < ds.length → w.cell? ⟨b, off + j * 2, none⟩ = some (.int .i64 (at2 ds j).1) ∧ w.cell? ⟨b, off + j * 2 + 1, none⟩ = some (.int .i64 (at2 ds j).2)
/-- A slice of dates that came in. -/
def ArgD (w : World) (a : Option Addr) (n : Nat) (ds : List Dt) : Prop :=
  ds.length = n ∧ (n = 0 ∨ ∃ b off, a = some ⟨b, off, none⟩ ∧ b < w.heap.size ∧ Dts w b off ds)
theorem Dts.kept {B : Nat} {w w' : World} {b off : Nat} {ds : List Dt} (h : Dts w b off ds) (hb : Below B w w') (hlt : b < B) : Dts w' b off ds :=
  fun j hj => ⟨(hb.cell (p := ⟨b, off + j * 2, none⟩) hlt).trans (h j hj).1, (hb.cell (p := ⟨b, off + j * 2 + 1, none⟩) hlt).trans (h j hj).2⟩
theorem ArgD.kept {w w' : World} {a : Option Addr} {n : Nat} {ds : List Dt} (h : ArgD w a n ds) (hb : Below w.heap.size w w') : ArgD w' a n ds := by
  obtain ⟨h1, h2⟩ := h
  refine ⟨h1, ?_⟩
  rcases h2 with h2 | ⟨b, off, ha, hlt, hi⟩
  · exact .inl h2
  · exact .inr ⟨b, off, ha, Nat.lt_of_lt_of_le hlt hb.size, hi.kept hb hlt⟩
theorem dts_lt {w : World} {b off : Nat} {ds : List Dt} (h : Dts w b off ds) (h0 : 0 < ds.length) : b < w.heap.size :=
  World.block_lt_of_cell? w _ (h 0 h0).1

/-- The value v is a slice of the dates ds (of the type T) in a block of number B or greater. -/
def OwnD (T : TypeId) (B : Nat) (w : World) (v : Value) (ds : List Dt) : Prop := w.ownsRow B T 2 v ds.length (flatD ds)
def RetRowD (T : TypeId) (ds : List Dt) (w : World) (e : Ending) (w' : World) : Prop :=
  ∃ g, w.heap.size ≤ g ∧ e = .returned (.slice (some ⟨g, 0, none⟩) ds.length ds.length) ∧ OwnD T w.heap.size w' (.slice (some ⟨g, 0, none⟩) ds.length ds.length) ds ∧ Below w.heap.size w w'
def RetOwnDB (T : TypeId) (ds : List Dt) (ok : Bool) (w : World) (e : Ending) (w' : World) : Prop :=
  ∃ v, e = .returned (.tuple #[v, .bool ok]) ∧ OwnD T w.heap.size w' v ds ∧ Below w.heap.size w w'
/-- A call returned a date and a bool. -/
def RetDB (p : Dt) (ok : Bool) (w : World) (e : Ending) (w' : World) : Prop := e = .returned (.tuple #[dv p, .bool ok]) ∧ Below w.heap.size w w'
/-- A call returned a date, a new slice of numbers, maybe nil, and a bool. -/
def RetDLB (p : Dt) (zs : List Int) (ok : Bool) (w : World) (e : Ending) (w' : World) : Prop :=
  ∃ v, e = .returned (.tuple #[dv p, v, .bool ok]) ∧ Own w.heap.size w' v zs ∧ Below w.heap.size w w'
theorem OwnD.kept {T : TypeId} {B : Nat} {w w' : World} {v : Value} {ds : List Dt} (h : OwnD T B w v ds) (hb : Below w.heap.size w w') : OwnD T B w' v ds :=
  World.ownsRow.kept h (below_grown hb none) (by cases hv : v.ownBlock <;> simp)
theorem OwnD.grown {T : TypeId} {B : Nat} {w w' : World} {v : Value} {ds : List Dt} {g : Nat} (h : OwnD T B w v ds) (hb : w.grownBy w' (some g)) (hg : v.ownBlock ≠ some g) : OwnD T B w' v ds :=
  World.ownsRow.kept h hb (.inr hg)
theorem OwnD.mono {T : TypeId} {B B' : Nat} {w : World} {v : Value} {ds : List Dt} (h : OwnD T B w v ds) (hB : B' ≤ B) : OwnD T B' w v ds := by
  obtain ⟨h1, h2⟩ := h
  refine ⟨h1, ?_⟩
  rcases h2 with h2 | ⟨g, cap, cur, hv, hg, r⟩
  · exact .inl h2
  · exact .inr ⟨g, cap, cur, hv, Nat.le_trans hB hg, r⟩
theorem ownD_nil (T : TypeId) (B : Nat) (w : World) : OwnD T B w (.slice none 0 0) [] := World.ownsRow_nil _ _ _ _
theorem OwnD.cases {T : TypeId} {B : Nat} {w : World} {v : Value} {ds : List Dt} (h : OwnD T B w v ds) :
    (v = .slice none 0 0 ∧ ds = []) ∨ ∃ g c, v = .slice (some ⟨g, 0, none⟩) ds.length c ∧ B ≤ g ∧ g < w.heap.size ∧ ds.length ≤ c ∧ c ≤ maxLen ∧ Dts w g 0 ds ∧ ∀ j, w.frozen? ⟨g, j, none⟩ = false := by
  have h' := h
  rcases h.2 with ⟨h2, h3⟩ | ⟨g, cap, cur, rfl, h2, h3, h4, h5, h6, h7⟩
  · exact .inl ⟨h2, List.eq_nil_of_length_eq_zero h3⟩
  · refine .inr ⟨g, cap, rfl, h2, (Array.getElem?_eq_some_iff.1 h3).1, h4, h5, fun j hj => ?_, fun j => World.ownsRow.frozenAt h' j⟩
    have e1 := World.ownsRow.cellAt h' (j * 2) (by omega)
    have e2 := World.ownsRow.cellAt h' (j * 2 + 1) (by omega)
    rw [Nat.zero_add, e1, e2]
    exact flatD_at ds j hj
theorem OwnD.shape {T : TypeId} {B : Nat} {w : World} {g c n : Nat} {ds : List Dt} (h : OwnD T B w (.slice (some ⟨g, 0, none⟩) n c) ds) : n = ds.length ∧ B ≤ g ∧ g < w.heap.size ∧ n ≤ c ∧ Dts w g 0 ds ∧ ∀ j, w.frozen? ⟨g, j, none⟩ = false := by
  rcases h.cases with ⟨h1, _⟩ | ⟨g', c', h1, h2, h3, h4, _, h5, h6⟩
  · simp at h1
  · simp only [Value.slice.injEq, Option.some.injEq, Addr.mk.injEq, and_true, true_and] at h1
    obtain ⟨rfl, rfl, rfl⟩ := h1
    exact ⟨rfl, h2, h3, h4, h5, h6⟩
theorem OwnD.block {T : TypeId} {B : Nat} {w : World} {v : Value} {ds : List Dt} (h : OwnD T B w v ds) : v.ownBlock = none ∨ ∃ g, v.ownBlock = some g ∧ B ≤ g ∧ g < w.heap.size := by
  rcases h.cases with ⟨rfl, _⟩ | ⟨g, c, rfl, h1, h2, _⟩
  · exact .inl rfl
  · exact .inr ⟨g, rfl, h1, h2⟩

/-! ### What a date is -/
def dateB (p : Dt) : Bool := inB p.1 0 3000 && inB p.2 1 365
def birthsB (ds : List Dt) : Bool := inB ds.length 1 8 && ds.all dateB
theorem dateB_iff {p : Dt} : dateB p = true ↔ (0 ≤ p.1 ∧ p.1 ≤ 3000) ∧ (1 ≤ p.2 ∧ p.2 ≤ 365) := by unfold dateB; rw [Bool.and_eq_true, inB_iff, inB_iff]
theorem birthsB_len {ds : List Dt} (h : birthsB ds = true) : 1 ≤ ds.length ∧ ds.length ≤ 8 := by
  unfold birthsB at h; rw [Bool.and_eq_true, inB_iff] at h; omega
theorem birthsB_at {ds : List Dt} (h : birthsB ds = true) (j : Nat) (hj : j < ds.length) : dateB (at2 ds j) = true := by
  unfold birthsB at h; rw [Bool.and_eq_true, List.all_eq_true] at h
  have := h.2 ds[j] (List.getElem_mem hj)
  simpa [at2, List.getElem?_eq_getElem hj] using this
theorem all_at {ds : List Dt} {t : Dt → Bool} : ds.all t = true ↔ ∀ j, j < ds.length → t (at2 ds j) = true := by
  rw [List.all_eq_true]
  constructor
  · intro h j hj
    have := h ds[j] (List.getElem_mem hj)
    simpa [at2, List.getElem?_eq_getElem hj] using this
  · intro h z hz
    obtain ⟨j, hj, rfl⟩ := List.getElem_of_mem hz
    simpa [at2, List.getElem?_eq_getElem hj] using h j hj
theorem all_not {ds : List Dt} {t : Dt → Bool} (j : Nat) (hj : j < ds.length) (h : t (at2 ds j) = false) : ds.all t = false := by
  cases e : ds.all t with
  | false => rfl
  | true => rw [all_at.1 e j hj] at h; exact absurd h (by simp)
/-- How many days come before a date. -/
def dys (p : Dt) : Int := p.1 * 365 + p.2 - 1
def ageD (b o : Dt) : Int := if o.2 < b.2 then o.1 - b.1 - 1 else o.1 - b.1
def bornD (b o : Dt) : Bool := dateB b && dateB o && decide (dys b ≤ dys o)
def allBorn (ds : List Dt) (o : Dt) : Bool := birthsB ds && ds.all fun b => bornD b o
def backOk (n : Int) : Bool := inB n 0 1095364
def backD (n : Int) : Dt := if backOk n = true then (n / 365, n % 365 + 1) else (0, 0)
theorem dys_bounds {p : Dt} (h : dateB p = true) : 0 ≤ dys p ∧ dys p ≤ 1095364 := by
  have := dateB_iff.1 h
  unfold dys
  omega
end Go.Proofs.YtadfojjglceheaaDoor
