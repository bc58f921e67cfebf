/- The state of a search for sets, and what is left to be found. -/
import Derived.Test.YtkkjbkagkmngkaaSet0
import Derived.Test.YtkkjbkagkmngkaaRowsPush
set_option linter.unusedVariables false
set_option linter.unusedSimpArgs false
namespace Go.Proofs.Ytkkjbkagkmngkaa
open Go.RowKit

def topS (p : List Int → Bool) (n : Nat) (set : List Int) (c : Nat) : List (List Int) := tree p (n - c) (20 - set.getD c 0).toNat (set.take c)
/-- What the search has still to find, ahead of making child c older. -/
def rest (p : List Int → Bool) (n : Nat) (set : List Int) : Nat → List (List Int)
  | 0 => topS p n set 0
  | c + 1 => topS p n set (c + 1) ++ rest p n set c
def lowS (p : List Int → Bool) (n : Nat) (set : List Int) : Nat → List (List Int)
  | 0 => []
  | c + 1 => rest p n set c
theorem rest_eq (p : List Int → Bool) (n : Nat) (set : List Int) (c : Nat) : rest p n set c = topS p n set c ++ lowS p n set c := by
  cases c with
  | zero => simp [rest, lowS]
  | succ c => rfl
theorem take_congr {set set' : List Int} {c : Nat} (hl : set.length = set'.length) (h : ∀ i, i < c → set.getD i 0 = set'.getD i 0) : set.take c = set'.take c := by
  apply List.ext_getElem?
  intro i
  rw [List.getElem?_take, List.getElem?_take]
  by_cases hi : i < c
  · rw [if_pos hi, if_pos hi]
    have := h i hi
    by_cases hs : i < set.length
    · rw [List.getElem?_eq_getElem hs, List.getElem?_eq_getElem (by omega)]
      simpa [List.getElem?_eq_getElem hs, List.getElem?_eq_getElem (show i < set'.length by omega)] using this
    · rw [List.getElem?_eq_none (by omega), List.getElem?_eq_none (by omega)]
  · rw [if_neg hi, if_neg hi]
theorem topS_congr {p : List Int → Bool} {n : Nat} {set set' : List Int} {c : Nat} (hl : set.length = set'.length) (h : ∀ i, i ≤ c → set.getD i 0 = set'.getD i 0) : topS p n set c = topS p n set' c := by
  unfold topS
  rw [h c (Nat.le_refl _), take_congr hl fun i hi => h i (by omega)]
theorem rest_congr {p : List Int → Bool} {n : Nat} {set set' : List Int} (hl : set.length = set'.length) : ∀ c, (∀ i, i ≤ c → set.getD i 0 = set'.getD i 0) → rest p n set c = rest p n set' c
  | 0, h => topS_congr hl h
  | c + 1, h => by
    unfold rest
    rw [topS_congr hl h, rest_congr hl c fun i hi => h i (by omega)]
theorem lowS_congr {p : List Int → Bool} {n : Nat} {set set' : List Int} (hl : set.length = set'.length) (c : Nat) (h : ∀ i, i < c → set.getD i 0 = set'.getD i 0) : lowS p n set c = lowS p n set' c := by
  cases c with
  | zero => rfl
  | succ c => exact rest_congr hl c fun i hi => h i (by omega)
theorem getD_set_ne (set : List Int) (c i : Nat) (a : Int) (h : i ≠ c) : (set.set c a).getD i 0 = set.getD i 0 := by
  simp [List.getElem?_set, Ne.symm h]
theorem getD_set_eq (set : List Int) (c : Nat) (a : Int) (h : c < set.length) : (set.set c a).getD c 0 = a := by
  simp [List.getElem?_set, h]

/-- The ages that a search stands at: those ahead of child c are ages, that of child c may be 0. -/
structure OkS (n : Nat) (set : List Int) (c : Nat) : Prop where
  len : set.length = n
  lt : c < n
  ahead : ∀ i, i < c → 1 ≤ set.getD i 0 ∧ set.getD i 0 ≤ 20
  at_ : 0 ≤ set.getD c 0 ∧ set.getD c 0 ≤ 20
theorem OkS.begun {n : Nat} {set : List Int} {c : Nat} (h : OkS n set c) (a : Int) (ha : 1 ≤ a ∧ a ≤ 20) : ∀ x ∈ set.take c ++ [a], 1 ≤ x ∧ x ≤ 20 := by
  intro x hx
  rcases List.mem_append.1 hx with hx | hx
  · obtain ⟨i, hi, rfl⟩ := List.getElem_of_mem hx
    have hic : i < c := by simp at hi; omega
    have := h.ahead i hic
    have hl := h.len
    have hlt := h.lt
    simpa [List.getElem?_eq_getElem (show i < set.length by omega)] using this
  · simp at hx; omega
theorem take_set (set : List Int) (c : Nat) (a : Int) (h : c < set.length) : (set.set c a).take (c + 1) = set.take c ++ [a] := by
  rw [List.take_succ_eq_append_getElem (by simp; omega), List.take_set_of_le (Nat.le_refl _)]
  simp

theorem rest_dry {p : List Int → Bool} {n : Nat} {set : List Int} {c : Nat} (h : OkS n set c) (hx : set.getD c 0 = 20) : rest p n set c = lowS p n set c := by
  rw [rest_eq]
  unfold topS
  have hlt := h.lt
  obtain ⟨m, hm⟩ : ∃ m, n - c = m + 1 := ⟨n - c - 1, by omega⟩
  rw [hx, hm, show (20 - (20 : Int)).toNat = 0 from rfl, tree_none]
  rfl
theorem topS_step {p : List Int → Bool} {n : Nat} {set : List Int} {c : Nat} (h : OkS n set c) (a : Int) (ha : a = set.getD c 0 + 1) (h20 : a ≤ 20) :
    topS p n set c = (if p (set.take c ++ [a]) = true then tree p (n - (c + 1)) (21 - a).toNat (set.take c ++ [a]) else []) ++ topS p n (set.set c a) c := by
  have hlt := h.lt
  have hl := h.len
  have hat := h.at_
  unfold topS
  have e1 : n - c = n - (c + 1) + 1 := by omega
  have e2 : (20 - set.getD c 0).toNat = (20 - a).toNat + 1 := by omega
  have e3 : 20 - (((20 - a).toNat : Nat) : Int) = a := by omega
  have e4 : (21 - a).toNat = (20 - a).toNat + 1 := by omega
  rw [getD_set_eq _ _ _ (by omega), e1, e2, e4, tree_succ, e3, List.take_set_of_le (Nat.le_refl _)]
theorem low_set {p : List Int → Bool} {n : Nat} {set : List Int} {c : Nat} (a : Int) : lowS p n (set.set c a) c = lowS p n set c :=
  lowS_congr (by simp) c fun i hi => getD_set_ne _ _ _ _ (by omega)
theorem rest_no {p : List Int → Bool} {n : Nat} {set : List Int} {c : Nat} (h : OkS n set c) (a : Int) (ha : a = set.getD c 0 + 1) (h20 : a ≤ 20) (hp : p (set.take c ++ [a]) = false) : rest p n set c = rest p n (set.set c a) c := by
  rw [rest_eq, rest_eq, topS_step h a ha h20, low_set, hp]
  simp
theorem rest_leaf {p : List Int → Bool} {n : Nat} {set : List Int} {c : Nat} (h : OkS n set c) (a : Int) (ha : a = set.getD c 0 + 1) (h20 : a ≤ 20) (hp : p (set.take c ++ [a]) = true) (hc : c + 1 = n) : rest p n set c = set.set c a :: rest p n (set.set c a) c := by
  rw [rest_eq, rest_eq, topS_step h a ha h20, low_set, hp]
  have e : n - (c + 1) = 0 := by omega
  rw [if_pos rfl, e, tree_zero]
  have e2 : set.take c ++ [a] = set.set c a := by
    rw [← take_set _ _ _ (by rw [h.len]; exact h.lt), List.take_of_length_le (by rw [List.length_set, h.len]; omega)]
  rw [e2]
  simp
theorem rest_down {p : List Int → Bool} {n : Nat} {set : List Int} {c : Nat} (h : OkS n set c) (a : Int) (ha : a = set.getD c 0 + 1) (h20 : a ≤ 20) (hp : p (set.take c ++ [a]) = true) (hc : c + 1 < n) : rest p n set c = rest p n ((set.set c a).set (c + 1) (a - 1)) (c + 1) := by
  have hl := h.len
  rw [rest_eq p n ((set.set c a).set (c + 1) (a - 1)) (c + 1)]
  have e1 : lowS p n ((set.set c a).set (c + 1) (a - 1)) (c + 1) = rest p n (set.set c a) c := by
    rw [low_set]; rfl
  have e2 : topS p n ((set.set c a).set (c + 1) (a - 1)) (c + 1) = tree p (n - (c + 1)) (21 - a).toNat (set.take c ++ [a]) := by
    unfold topS
    rw [getD_set_eq _ _ _ (by simp; omega), List.take_set_of_le (Nat.le_refl _), take_set _ _ _ (by omega)]
    congr 1
    omega
  rw [e1, e2, rest_eq p n set c, topS_step h a ha h20, rest_eq p n (set.set c a) c, low_set, hp]
  simp
theorem rest_first (p : List Int → Bool) (n : Nat) : rest p n (List.replicate n 0) 0 = tree p n 20 [] := by
  unfold rest topS
  have : (List.replicate n (0 : Int)).getD 0 0 = 0 := by cases n <;> simp
  rw [this]
  rfl

/-- How far the search may still go. -/
def phi (n : Nat) (set : List Int) : Nat → Nat
  | 0 => (21 - set.getD 0 0).toNat * 22 ^ n
  | c + 1 => phi n set c + (21 - set.getD (c + 1) 0).toNat * 22 ^ (n - (c + 1))
def phiLow (n : Nat) (set : List Int) : Nat → Nat
  | 0 => 0
  | c + 1 => phi n set c
theorem phi_eq (n : Nat) (set : List Int) (c : Nat) : phi n set c = phiLow n set c + (21 - set.getD c 0).toNat * 22 ^ (n - c) := by
  cases c with
  | zero => simp [phi, phiLow]
  | succ c => rfl
theorem phi_congr {n : Nat} {set set' : List Int} : ∀ c, (∀ i, i ≤ c → set.getD i 0 = set'.getD i 0) → phi n set c = phi n set' c
  | 0, h => by unfold phi; rw [h 0 (Nat.le_refl _)]
  | c + 1, h => by
    unfold phi
    rw [phi_congr c fun i hi => h i (by omega), h (c + 1) (Nat.le_refl _)]
theorem phiLow_congr {n : Nat} {set set' : List Int} (c : Nat) (h : ∀ i, i < c → set.getD i 0 = set'.getD i 0) : phiLow n set c = phiLow n set' c := by
  cases c with
  | zero => rfl
  | succ c => exact phi_congr c fun i hi => h i (by omega)
theorem phi_dry {n : Nat} {set : List Int} {c : Nat} (a : Int) (hx : set.getD (c + 1) 0 = 20) : phi n (set.set (c + 1) a) c < phi n set (c + 1) := by
  have e : phi n (set.set (c + 1) a) c = phi n set c := phi_congr c fun i hi => getD_set_ne _ _ _ _ (by omega)
  rw [e]
  have : phi n set (c + 1) = phi n set c + (21 - set.getD (c + 1) 0).toNat * 22 ^ (n - (c + 1)) := rfl
  rw [this, hx, show (21 - (20 : Int)).toNat = 1 from rfl, Nat.one_mul]
  have : 0 < 22 ^ (n - (c + 1)) := Nat.pow_pos (by omega)
  omega
theorem phi_stay {n : Nat} {set : List Int} {c : Nat} (h : OkS n set c) (a : Int) (ha : a = set.getD c 0 + 1) (h20 : a ≤ 20) : phi n (set.set c a) c < phi n set c := by
  rw [phi_eq, phi_eq, phiLow_congr (set := set.set c a) (set' := set) c fun i hi => getD_set_ne _ _ _ _ (by omega), getD_set_eq _ _ _ (by rw [h.len]; exact h.lt)]
  have e : (21 - set.getD c 0).toNat = (21 - a).toNat + 1 := by omega
  rw [e, Nat.succ_mul]
  have : 0 < 22 ^ (n - c) := Nat.pow_pos (by omega)
  omega
theorem phi_down {n : Nat} {set : List Int} {c : Nat} (h : OkS n set c) (a : Int) (ha : a = set.getD c 0 + 1) (h20 : a ≤ 20) (hc : c + 1 < n) : phi n ((set.set c a).set (c + 1) (a - 1)) (c + 1) < phi n set c := by
  have hl := h.len
  have hat := h.at_
  have e0 : phi n ((set.set c a).set (c + 1) (a - 1)) (c + 1) = phi n ((set.set c a).set (c + 1) (a - 1)) c + (21 - ((set.set c a).set (c + 1) (a - 1)).getD (c + 1) 0).toNat * 22 ^ (n - (c + 1)) := rfl
  have e1 : phi n ((set.set c a).set (c + 1) (a - 1)) c = phi n (set.set c a) c := phi_congr c fun i hi => getD_set_ne _ _ _ _ (by omega)
  rw [e0, e1, getD_set_eq _ _ _ (by simp; omega), phi_eq, phi_eq n set c, phiLow_congr (set := set.set c a) (set' := set) c fun i hi => getD_set_ne _ _ _ _ (by omega), getD_set_eq _ _ _ (by omega)]
  have e2 : (21 - set.getD c 0).toNat = (21 - a).toNat + 1 := by omega
  have e3 : n - c = (n - (c + 1)) + 1 := by omega
  have e4 : (21 - (a - 1)).toNat ≤ 21 := by omega
  have e5 : 22 ^ (n - c) = 22 ^ (n - (c + 1)) * 22 := by rw [e3, Nat.pow_succ]
  rw [e2, Nat.succ_mul, e5]
  have e6 : 0 < 22 ^ (n - (c + 1)) := Nat.pow_pos (by omega)
  have e7 : (21 - (a - 1)).toNat * 22 ^ (n - (c + 1)) ≤ 21 * 22 ^ (n - (c + 1)) := Nat.mul_le_mul_right _ e4
  omega

theorem OkS.stay {n : Nat} {set : List Int} {c : Nat} (h : OkS n set c) (a : Int) (ha : a = set.getD c 0 + 1) (h20 : a ≤ 20) : OkS n (set.set c a) c := by
  have hl := h.len
  have hlt := h.lt
  have hat := h.at_
  refine ⟨by simp [hl], hlt, fun i hi => ?_, ?_⟩
  · rw [getD_set_ne _ _ _ _ (by omega)]; exact h.ahead i hi
  · rw [getD_set_eq _ _ _ (by omega)]; omega
theorem OkS.down {n : Nat} {set : List Int} {c : Nat} (h : OkS n set c) (a : Int) (ha : a = set.getD c 0 + 1) (h20 : a ≤ 20) (hc : c + 1 < n) : OkS n ((set.set c a).set (c + 1) (a - 1)) (c + 1) := by
  have hl := h.len
  have hlt := h.lt
  have hat := h.at_
  refine ⟨by simp [hl], hc, fun i hi => ?_, ?_⟩
  · rw [getD_set_ne _ _ _ _ (by omega)]
    by_cases e : i = c
    · subst e; rw [getD_set_eq _ _ _ (by omega)]; omega
    · rw [getD_set_ne _ _ _ _ e]; exact h.ahead i (by omega)
  · rw [getD_set_eq _ _ _ (by simp; omega)]; omega
theorem OkS.dry {n : Nat} {set : List Int} {c : Nat} (h : OkS n set (c + 1)) (a : Int) : OkS n (set.set (c + 1) a) c := by
  have hl := h.len
  have hlt := h.lt
  refine ⟨by simp [hl], by omega, fun i hi => ?_, ?_⟩
  · rw [getD_set_ne _ _ _ _ (by omega)]; exact h.ahead i (by omega)
  · rw [getD_set_ne _ _ _ _ (by omega)]; have := h.ahead c (by omega); omega

/-- Where a search keeps what it goes on from: the ages in block g, the variables of the slice, the child and the question in blocks gs, gc, gh. -/
structure StS (B : Nat) (w : World) (g cp gs gc gh n : Nat) (set : List Int) (c : Nat) (hv : Value) : Prop where
  vs : w.cell? ⟨gs, 0, none⟩ = some (.slice (some ⟨g, 0, none⟩) n cp)
  vc : w.cell? ⟨gc, 0, none⟩ = some (.int .i64 c)
  vh : w.cell? ⟨gh, 0, none⟩ = some hv
  fc : w.frozen? ⟨gc, 0, none⟩ = false
  row : Own B w (.slice (some ⟨g, 0, none⟩) n cp) set
  cpn : n ≤ cp
  ds : g ≠ gs
  dc : g ≠ gc
  dh : g ≠ gh
  es : gc ≠ gs
  eh : gc ≠ gh
  bs : B ≤ gs
  bc : B ≤ gc
  bh : B ≤ gh

/-- What a search may have done to the world: nothing below B is changed, nor what lay at U and above. -/
structure Went (B U : Nat) (w w' : World) : Prop where
  low : Below B w w'
  high : ∀ k, U ≤ k → k < w.heap.size → w'.heap[k]? = w.heap[k]?
theorem Went.refl (B U : Nat) (w : World) : Went B U w w := ⟨Below.refl _ _, fun _ _ _ => rfl⟩
theorem Went.trans {B U : Nat} {a b c : World} (h : Went B U a b) (k : Went B U b c) : Went B U a c :=
  ⟨h.low.trans k.low, fun i h1 h2 => (k.high i h1 (Nat.lt_of_lt_of_le h2 h.low.size)).trans (h.high i h1 h2)⟩
theorem Went.below {B U : Nat} {a b c : World} (h : Went B U a b) (k : Below b.heap.size b c) (hB : B ≤ b.heap.size) : Went B U a c :=
  ⟨h.low.trans (k.mono hB), fun i h1 h2 => (k.block i (Nat.lt_of_lt_of_le h2 h.low.size)).trans (h.high i h1 h2)⟩
theorem Went.set {B U g : Nat} {a b : World} (h : Went B U a b) (hB : B ≤ g) (hU : g < U) (i : Nat) (v : Value) : Went B U a (b.setCell ⟨g, i, none⟩ v) :=
  ⟨h.low.setCell hB v, fun k h1 h2 => (Below.heap_setCell b ⟨g, i, none⟩ v k (by simp; omega)).trans (h.high k h1 h2)⟩
theorem Went.drew {B U : Nat} {a b : World} (h : Went B U a b) : Went B U a b.drew := ⟨h.low.drew, h.high⟩
theorem Went.size {B U : Nat} {a b : World} (h : Went B U a b) : a.heap.size ≤ b.heap.size := h.low.size

theorem cell_set_ne (w : World) (g i h j : Nat) (v : Value) (hne : h ≠ g) : (w.setCell ⟨g, i, none⟩ v).cell? ⟨h, j, none⟩ = w.cell? ⟨h, j, none⟩ :=
  World.cell?_of_block (w := w) (Below.heap_setCell w ⟨g, i, none⟩ v h (by simpa using hne))
theorem frozen_set_ne (w : World) (g i h j : Nat) (v : Value) (hne : h ≠ g) : (w.setCell ⟨g, i, none⟩ v).frozen? ⟨h, j, none⟩ = w.frozen? ⟨h, j, none⟩ :=
  World.frozen?_of_block (w := w) (Below.heap_setCell w ⟨g, i, none⟩ v h (by simpa using hne))
theorem StS.len {B : Nat} {w : World} {g cp gs gc gh n : Nat} {set : List Int} {c : Nat} {hv : Value} (h : StS B w g cp gs gc gh n set c hv) : set.length = n := h.row.shape.1.symm
theorem StS.ints {B : Nat} {w : World} {g cp gs gc gh n : Nat} {set : List Int} {c : Nat} {hv : Value} (h : StS B w g cp gs gc gh n set c hv) : Ints w g 0 set := h.row.shape.2.2.2.2.1
theorem StS.age {B : Nat} {w : World} {g cp gs gc gh n : Nat} {set : List Int} {c : Nat} {hv : Value} (h : StS B w g cp gs gc gh n set c hv) (i : Nat) (hi : i < n) : w.cell? ⟨g, i, none⟩ = some (.int .i64 (set.getD i 0)) := by
  have := h.ints i (by rw [h.len]; exact hi)
  rwa [Nat.zero_add] at this
theorem StS.frz {B : Nat} {w : World} {g cp gs gc gh n : Nat} {set : List Int} {c : Nat} {hv : Value} (h : StS B w g cp gs gc gh n set c hv) (i : Nat) : w.frozen? ⟨g, i, none⟩ = false := h.row.shape.2.2.2.2.2 i
theorem own_set {B : Nat} {w : World} {g cp n : Nat} {set : List Int} (h : Own B w (.slice (some ⟨g, 0, none⟩) n cp) set) (i : Nat) (a : Int) : Own B (w.setCell ⟨g, i, none⟩ (.int .i64 a)) (.slice (some ⟨g, 0, none⟩) n cp) (set.set i a) := by
  obtain rfl := h.shape.1
  have h1 := (World.ownsRow.stored h i (.int .i64 a)).1
  unfold Own
  rw [List.length_set, List.map_set]
  exact h1
/-- A child's age is stored. -/
theorem StS.store {B : Nat} {w : World} {g cp gs gc gh n : Nat} {set : List Int} {c : Nat} {hv : Value} (h : StS B w g cp gs gc gh n set c hv) (i : Nat) (a : Int) : StS B (w.setCell ⟨g, i, none⟩ (.int .i64 a)) g cp gs gc gh n (set.set i a) c hv where
  vs := (cell_set_ne _ _ _ _ _ _ (Ne.symm h.ds)).trans h.vs
  vc := (cell_set_ne _ _ _ _ _ _ (Ne.symm h.dc)).trans h.vc
  vh := (cell_set_ne _ _ _ _ _ _ (Ne.symm h.dh)).trans h.vh
  fc := (frozen_set_ne _ _ _ _ _ _ (Ne.symm h.dc)).trans h.fc
  row := own_set h.row i a
  cpn := h.cpn
  ds := h.ds
  dc := h.dc
  dh := h.dh
  es := h.es
  eh := h.eh
  bs := h.bs
  bc := h.bc
  bh := h.bh
/-- Another child comes. -/
theorem StS.turn {B : Nat} {w : World} {g cp gs gc gh n : Nat} {set : List Int} {c : Nat} {hv : Value} (h : StS B w g cp gs gc gh n set c hv) (c' : Nat) : StS B (w.setCell ⟨gc, 0, none⟩ (.int .i64 c')) g cp gs gc gh n set c' hv where
  vs := (cell_set_ne _ _ _ _ _ _ (Ne.symm h.es)).trans h.vs
  vc := by
    exact World.cell?_setCell_same _ _ _ h.vc
  vh := (cell_set_ne _ _ _ _ _ _ (Ne.symm h.eh)).trans h.vh
  fc := by
    have := h.fc
    rw [← this]
    exact World.frozen?_setCell w ⟨gc, 0, none⟩ _ _
  row := by
    have hb : (w.setCell ⟨gc, 0, none⟩ (.int .i64 c')).heap[g]? = w.heap[g]? := Below.heap_setCell w ⟨gc, 0, none⟩ _ g (by simpa using h.dc)
    refine ⟨h.row.1, ?_⟩
    rcases h.row.2 with h2 | ⟨q, cap, cur, hv', hq, r⟩
    · exact .inl h2
    · simp only [Value.slice.injEq, Option.some.injEq, Addr.mk.injEq, and_true, true_and] at hv'
      obtain ⟨rfl, _⟩ := hv'
      refine .inr ⟨g, cap, cur, by simp [*], hq, ?_⟩
      rw [hb]
      exact r
  cpn := h.cpn
  ds := h.ds
  dc := h.dc
  dh := h.dh
  es := h.es
  eh := h.eh
  bs := h.bs
  bc := h.bc
  bh := h.bh
/-- The world goes on, above. -/
theorem StS.kept {B : Nat} {w w' : World} {g cp gs gc gh n : Nat} {set : List Int} {c : Nat} {hv : Value} (h : StS B w g cp gs gc gh n set c hv) (hb : Below w.heap.size w w') : StS B w' g cp gs gc gh n set c hv where
  vs := (hb.cell (p := ⟨gs, 0, none⟩) (World.block_lt_of_cell? w _ h.vs)).trans h.vs
  vc := (hb.cell (p := ⟨gc, 0, none⟩) (World.block_lt_of_cell? w _ h.vc)).trans h.vc
  vh := (hb.cell (p := ⟨gh, 0, none⟩) (World.block_lt_of_cell? w _ h.vh)).trans h.vh
  fc := (hb.frozen (p := ⟨gc, 0, none⟩) (World.block_lt_of_cell? w _ h.vc)).trans h.fc
  row := h.row.kept hb
  cpn := h.cpn
  ds := h.ds
  dc := h.dc
  dh := h.dh
  es := h.es
  eh := h.eh
  bs := h.bs
  bc := h.bc
  bh := h.bh

def readI (w : World) (b j : Nat) : Int := match w.cell? ⟨b, j, none⟩ with | some (.int _ q) => q | _ => 0
def muS (g gc n : Nat) (w : World) : Nat := phi n ((List.range n).map fun j => readI w g j) (readI w gc 0).toNat
theorem muS_eq {B : Nat} {w : World} {g cp gs gc gh n : Nat} {set : List Int} {c : Nat} {hv : Value} (h : StS B w g cp gs gc gh n set c hv) : muS g gc n w = phi n set c := by
  unfold muS
  have e1 : readI w gc 0 = (c : Int) := by unfold readI; rw [h.vc]
  have e2 : ((List.range n).map fun j => readI w g j) = set := by
    apply List.ext_getElem
    · simp [h.len]
    · intro i h1 h2
      have hi : i < n := by simpa using h1
      have := h.age i hi
      simp only [List.getElem_map, List.getElem_range]
      unfold readI
      rw [this]
      simp [List.getElem?_eq_getElem h2]
  rw [e1, e2]; rfl

/-- A call returned a new list of sets. -/
def RetSets (rss : List (List Int)) (w : World) (e : Ending) (w' : World) : Prop :=
  ∃ v vs, e = .returned v ∧ OwnSS w.heap.size w'.heap.size w' v vs rss ∧ Below w.heap.size w w'
/-- A call of the search returned the next set, or none. -/
def RetS (B U : Nat) (p : List Int → Bool) (g cp gs gc gh n : Nat) (set : List Int) (c : Nat) (hv : Value) (w : World) (e : Ending) (w' : World) : Prop :=
  (rest p n set c = [] ∧ e = .returned (.tuple #[.slice none 0 0, .bool false]) ∧ Went B U w w') ∨
  ∃ s R v set', rest p n set c = s :: R ∧ e = .returned (.tuple #[v, .bool true]) ∧ Own w.heap.size w' v s ∧ v ≠ .slice none 0 0 ∧ StS B w' g cp gs gc gh n set' (n - 1) hv ∧ OkS n set' (n - 1) ∧ rest p n set' (n - 1) = R ∧ Went B U w w'
end Go.Proofs.Ytkkjbkagkmngkaa
