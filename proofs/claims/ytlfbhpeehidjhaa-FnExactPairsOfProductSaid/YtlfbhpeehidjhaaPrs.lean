/- Pairs of ages in order, and what is told of one. Plain lemmas, no program. -/
import Derived.Test.YtlfbhpeehidjhaaDate
set_option linter.unusedVariables false
set_option linter.unusedSimpArgs false
namespace Go.Proofs.Ytlfbhpeehidjhaa
open Go.RowKit

/-- The first k pairs that begin with a. -/
def rowP (a k : Nat) : List Dt := (List.range k).map fun (j : Nat) => (((a : Nat) : Int), ((a + j : Nat) : Int))
theorem rowP_zero (a : Nat) : rowP a 0 = [] := rfl
theorem rowP_succ (a k : Nat) : rowP a (k + 1) = rowP a k ++ [(((a : Nat) : Int), ((a + k : Nat) : Int))] := by
  unfold rowP; rw [List.range_succ, List.map_append]; rfl
theorem rowP_len (a k : Nat) : (rowP a k).length = k := by simp [rowP]
/-- All pairs whose first is at most a. -/
def prsTo (n : Nat) : Nat → List Dt
  | 0 => []
  | a + 1 => prsTo n a ++ rowP (a + 1) (n - a)
theorem prsTo_succ (n a : Nat) : prsTo n (a + 1) = prsTo n a ++ rowP (a + 1) (n - a) := rfl
/-- All pairs up to n. -/
def prs (n : Nat) : List Dt := prsTo n n
theorem prsTo_len (n : Nat) : ∀ a, (prsTo n a).length ≤ n * a := by
  intro a
  induction a with
  | zero => simp [prsTo]
  | succ a ih => rw [prsTo_succ, List.length_append, rowP_len, Nat.mul_succ]; omega
theorem prAcc_len (n a k : Nat) (hn : n ≤ 40) (ha : a ≤ n) (hk : k ≤ n) : (prsTo n a ++ rowP (a + 1) k).length ≤ 1640 := by
  rw [List.length_append, rowP_len]
  have h1 := prsTo_len n a
  have h2 : n * a ≤ 40 * 40 := Nat.mul_le_mul hn (by omega)
  omega
theorem prs_len (n : Nat) (hn : n ≤ 40) : (prs n).length ≤ 1640 := by
  have h1 := prsTo_len n n
  have h2 : n * n ≤ 40 * 40 := Nat.mul_le_mul hn hn
  unfold prs
  omega
theorem prsTo_mem {n : Nat} {p : Dt} : ∀ a, a ≤ n → p ∈ prsTo n a → 1 ≤ p.1 ∧ p.1 ≤ p.2 ∧ p.2 ≤ n := by
  intro a
  induction a with
  | zero => intro _ h; simp [prsTo] at h
  | succ a ih =>
    intro ha h
    rw [prsTo_succ, List.mem_append] at h
    rcases h with h | h
    · exact ih (by omega) h
    · unfold rowP at h
      obtain ⟨j, hj, rfl⟩ := List.mem_map.1 h
      have := List.mem_range.1 hj
      simp only
      omega
theorem prs_mem {n : Nat} {p : Dt} (h : p ∈ prs n) : 1 ≤ p.1 ∧ p.1 ≤ p.2 ∧ p.2 ≤ n := prsTo_mem n (Nat.le_refl _) h
/-- Not very many pairs of ages. -/
def PrB (ds : List Dt) : Prop := ds.length ≤ 1640 ∧ ∀ p ∈ ds, (1 ≤ p.1 ∧ p.1 ≤ 40) ∧ (1 ≤ p.2 ∧ p.2 ≤ 40)
theorem prs_prB (n : Nat) (hn : n ≤ 40) : PrB (prs n) := ⟨prs_len n hn, fun p hp => by have := prs_mem hp; omega⟩
theorem prB_filter {ds : List Dt} (h : PrB ds) (q : Dt → Bool) : PrB (ds.filter q) :=
  ⟨Nat.le_trans (List.length_filter_le _ _) h.1, fun p hp => h.2 p (List.mem_filter.1 hp).1⟩
theorem prB_at {ds : List Dt} (h : PrB ds) (k : Nat) (hk : k < ds.length) : (1 ≤ (at2 ds k).1 ∧ (at2 ds k).1 ≤ 40) ∧ (1 ≤ (at2 ds k).2 ∧ (at2 ds k).2 ≤ 40) := by
  have e : at2 ds k = ds[k] := by simp [at2, List.getElem?_eq_getElem hk]
  rw [e]; exact h.2 _ (List.getElem_mem hk)
/-- What is told of a pair: the sum (true) or the product. -/
def toldP (s : Bool) (p : Dt) : Int := if s then p.1 + p.2 else p.1 * p.2
def isT (s : Bool) (x : Int) (p : Dt) : Bool := toldP s p == x
theorem told_bd (s : Bool) {p : Dt} (h : (1 ≤ p.1 ∧ p.1 ≤ 40) ∧ (1 ≤ p.2 ∧ p.2 ≤ 40)) : 1 ≤ toldP s p ∧ toldP s p ≤ 1600 := by
  obtain ⟨x, y⟩ := p
  obtain ⟨⟨h1, h2⟩, h3, h4⟩ := h
  simp only at h1 h2 h3 h4
  cases s with
  | true => simp only [toldP, if_true]; omega
  | false =>
    simp only [toldP, Bool.false_eq_true, if_false]
    have a1 : 1 * 1 ≤ x * y := Int.mul_le_mul h1 h3 (by omega) (by omega)
    have a2 : x * y ≤ 40 * 40 := Int.mul_le_mul h2 h4 (by omega) (by omega)
    omega
/-- Pairs as rows. -/
def rowsD (ds : List Dt) : List (List Int) := ds.map fun p => [p.1, p.2]
theorem rowsD_len (ds : List Dt) : (rowsD ds).length = ds.length := by simp [rowsD]
theorem rowsD_snoc (ds : List Dt) (x y : Int) : rowsD (ds ++ [(x, y)]) = rowsD ds ++ [[x, y]] := by simp [rowsD]
theorem rowsD_at (ds : List Dt) (k : Nat) (hk : k < ds.length) : (rowsD ds).getD k [] = [(at2 ds k).1, (at2 ds k).2] := by
  simp [rowsD, at2, List.getElem?_eq_getElem hk]
/-- The pair that a row holds. -/
def pairOf (r : List Int) : Dt := (r.getD 0 0, r.getD 1 0)
theorem rowsD_filter (q : Dt → Bool) (ds : List Dt) : (rowsD ds).filter (fun r => q (pairOf r)) = rowsD (ds.filter q) := by
  unfold rowsD
  rw [List.filter_map]
  rfl
theorem rows_step (n a k : Nat) : rowsD (prsTo n a ++ rowP (a + 1) (k + 1)) = rowsD (prsTo n a ++ rowP (a + 1) k) ++ [[(a : Int) + 1, (a : Int) + 1 + k]] := by
  rw [rowP_succ, ← List.append_assoc, rowsD_snoc]
  congr 3
theorem prs_step (n a k : Nat) : prsTo n a ++ rowP (a + 1) (k + 1) = (prsTo n a ++ rowP (a + 1) k) ++ [((a : Int) + 1, (a : Int) + 1 + k)] := by
  rw [rowP_succ, ← List.append_assoc]
  congr 3
/-- Those of the first k pairs that answer a question with yes. -/
def pick (q : Dt → Bool) (ds : List Dt) (k : Nat) : List Dt := (ds.take k).filter q
theorem take_filter (q : Dt → Bool) (ds : List Dt) (k : Nat) (hk : k < ds.length) : pick q ds (k + 1) = if q (at2 ds k) = true then pick q ds k ++ [at2 ds k] else pick q ds k := by
  have e : at2 ds k = ds[k] := by simp [at2, List.getElem?_eq_getElem hk]
  unfold pick
  rw [List.take_succ_eq_append_getElem hk, List.filter_append, e]
  split
  · rename_i h; rw [List.filter_cons, if_pos h, List.filter_nil]
  · rename_i h; rw [List.filter_cons, if_neg h, List.filter_nil, List.append_nil]
theorem take_filter_len (q : Dt → Bool) (ds : List Dt) (k : Nat) : (pick q ds k).length ≤ k :=
  Nat.le_trans (List.length_filter_le _ _) (by simp; omega)
end Go.Proofs.Ytlfbhpeehidjhaa
