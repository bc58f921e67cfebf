/- All people but one. -/
import Derived.Test.YtjabghojenhhiaaAgesList
set_option linter.unusedVariables false
set_option linter.unusedSimpArgs false
namespace Go.Proofs.Ytjabghojenhhiaa
open Go.RowKit

def flatP (ps : List (Int × Int)) : List Value := ps.flatMap fun p => [.int .i64 p.1, .int .i64 p.2]
theorem flatP_length (ps : List (Int × Int)) : (flatP ps).length = ps.length * 2 := by
  unfold flatP
  induction ps with
  | nil => rfl
  | cons p ps ih => simp only [List.flatMap_cons, List.length_append, List.length_cons, List.length_nil, ih]; omega
theorem flatP_snoc (ps : List (Int × Int)) (p : Int × Int) : flatP (ps ++ [p]) = flatP ps ++ [.int .i64 p.1, .int .i64 p.2] := by
  unfold flatP; simp
theorem flatP_at (ps : List (Int × Int)) : ∀ j, j < ps.length → (flatP ps)[j * 2]? = some (.int .i64 (ps.getD j (0, 0)).1) ∧ (flatP ps)[j * 2 + 1]? = some (.int .i64 (ps.getD j (0, 0)).2) := by
  induction ps with
  | nil => intro j hj; simp at hj
  | cons p ps ih =>
    intro j hj
    have e : flatP (p :: ps) = .int .i64 p.1 :: .int .i64 p.2 :: flatP ps := rfl
    rw [e]
    cases j with
    | zero => exact ⟨rfl, rfl⟩
    | succ j =>
      have h := ih j (by simp at hj; omega)
      rw [show (j + 1) * 2 = j * 2 + 1 + 1 by omega]
      simpa using h
/-- The first k people without one. -/
def othP (zs : List Int) (who k : Nat) : List (Int × Int) := ((List.range k).filter fun i => i != who).map fun (i : Nat) => ((i : Int), zs.getD i 0)
theorem othP_zero (zs : List Int) (who : Nat) : othP zs who 0 = [] := rfl
theorem othP_skip (zs : List Int) (who : Nat) : othP zs who (who + 1) = othP zs who who := by
  unfold othP; rw [List.range_succ, List.filter_append]; simp
theorem othP_take (zs : List Int) (who k : Nat) (h : k ≠ who) : othP zs who (k + 1) = othP zs who k ++ [((k : Int), zs.getD k 0)] := by
  unfold othP; rw [List.range_succ, List.filter_append, List.map_append]; simp [h]
theorem othP_len (zs : List Int) (who k : Nat) : (othP zs who k).length ≤ k := by
  unfold othP; rw [List.length_map]; exact Nat.le_trans (List.length_filter_le _ _) (by simp)
theorem othP_ages (zs : List Int) (who : Nat) : ∀ k, k ≤ zs.length → (othP zs who k).map (·.2) = (zs.take k).eraseIdx who := by
  intro k
  induction k with
  | zero => intro _; simp [othP]
  | succ k ih =>
    intro hk
    have hl : (zs.take k).length = k := by simp; omega
    rw [List.take_succ_eq_append_getElem (by omega)]
    by_cases e : k = who
    · subst e
      rw [othP_skip, ih (by omega), List.eraseIdx_append_of_length_le (by omega), hl, Nat.sub_self, List.eraseIdx_of_length_le (by omega)]
      simp
    · rw [othP_take _ _ _ e, List.map_append, ih (by omega)]
      by_cases h2 : who < k
      · rw [List.eraseIdx_append_of_lt_length (by omega)]
        simp [List.getElem?_eq_getElem (show k < zs.length by omega)]
      · rw [List.eraseIdx_of_length_le (by omega), List.eraseIdx_of_length_le (by simp; omega)]
        simp [List.getElem?_eq_getElem (show k < zs.length by omega)]
theorem othP_all (zs : List Int) (who : Nat) : (othP zs who zs.length).map (·.2) = zs.eraseIdx who := by
  rw [othP_ages _ _ _ (Nat.le_refl _), List.take_length]
theorem prs_of {w : World} {B g n c : Nat} {ps : List (Int × Int)} (hr : w.ownsRow B 39 2 (.slice (some ⟨g, 0, none⟩) n c) n (flatP ps)) : Prs w g (fun j => (ps.getD j (0, 0)).1) (ps.map (·.2)) := by
  intro j hj
  rw [List.length_map] at hj
  have hn : ps.length = n := by have := hr.1; rw [flatP_length] at this; omega
  obtain ⟨h1, h2⟩ := flatP_at ps j hj
  refine ⟨(World.ownsRow.cellAt hr (j * 2) (by omega)).trans h1, (World.ownsRow.cellAt hr (j * 2 + 1) (by omega)).trans ?_⟩
  rw [h2]
  simp [List.getD_eq_getElem?_getD, List.getElem?_map, List.getElem?_eq_getElem hj]

theorem twoCells {W : World} {g : Nat} (a b : Value) (t : TypeId) (h : g = W.heap.size) : ∀ j u, [a, b][j]? = some u → (W.alloc (.cells #[a, b] t)).cell? ((⟨g, 0, none⟩ : Addr).add j) = some u := by
  subst h; exact cell_two_new W a b t
theorem twoInts (x y : Int) : ∀ u ∈ [Value.int .i64 x, Value.int .i64 y], u.oneCell' = true := by
  intro u hu; simp at hu; rcases hu with rfl | rfl <;> rfl

def RetOthers (zs : List Int) (who : Nat) (w : World) (e : Ending) (w' : World) : Prop :=
  ∃ g c ns, e = .returned (.slice (some ⟨g, 0, none⟩) (zs.eraseIdx who).length c) ∧ Prs w' g ns (zs.eraseIdx who) ∧ w.heap.size ≤ g ∧ g < w'.heap.size ∧ Below w.heap.size w w'

end Go.Proofs.Ytjabghojenhhiaa
