/- OrderOfAges: the model's text. -/
import Derived.Test.YtjabghojenhhiaaOrder
import Derived.Test.YtjabghojenhhiaaAdd
import Derived.Laws.AppendOwnNone
set_option linter.unusedVariables false
set_option linter.unusedSimpArgs false
namespace Go.Proofs.Ytjabghojenhhiaa
open Go.RowKit

theorem insB_mem {x p : Int × Int} {l : List (Int × Int)} : p ∈ insB x l → p = x ∨ p ∈ l := by
  intro h
  unfold insB at h
  rcases List.mem_append.1 h with h1 | h1
  · exact .inr ((List.takeWhile_sublist _).subset h1)
  · rcases List.mem_cons.1 h1 with h2 | h2
    · exact .inl h2
    · exact .inr ((List.dropWhile_sublist _).subset h2)
theorem insAll_mem {p : Int × Int} : ∀ (r l : List (Int × Int)), p ∈ insAll l r → p ∈ l ∨ p ∈ r := by
  intro r
  induction r with
  | nil => intro l h; exact .inl h
  | cons x r ih =>
    intro l h
    rcases ih _ h with h1 | h1
    · rcases insB_mem h1 with rfl | h2
      · exact .inr (by simp)
      · exact .inl h2
    · exact .inr (by simp [h1])
theorem insAll_snoc (x : Int × Int) : ∀ (r l : List (Int × Int)), insAll l (r ++ [x]) = insB x (insAll l r) := by
  intro r
  induction r with
  | nil => intro l; rfl
  | cons y r ih => intro l; exact ih _
/-- The first j people, older ones first. -/
def PO (zs : List Int) (j : Nat) : List (Int × Int) := insAll [] ((peopleL zs).take j)
theorem PO_zero (zs : List Int) : PO zs 0 = [] := rfl
theorem PO_len (zs : List Int) (j : Nat) (h : j ≤ zs.length) : (PO zs j).length = j := by
  unfold PO; rw [insAll_length, List.length_take, peopleL_length, List.length_nil]; omega
theorem PO_all (zs : List Int) : PO zs zs.length = ordP zs := by
  unfold PO ordP; rw [List.take_of_length_le (by rw [peopleL_length]; omega)]
theorem PO_succ (zs : List Int) (j : Nat) (h : j < zs.length) : PO zs (j + 1) = insB ((j : Int), zs.getD j 0) (PO zs j) := by
  unfold PO
  rw [List.take_succ_eq_append_getElem (by rw [peopleL_length]; exact h), insAll_snoc]
  congr 1
  simp [peopleL]
theorem PO_at (zs : List Int) (j k : Nat) (h : j ≤ zs.length) (hk : k < j) : ∃ i : Nat, i < zs.length ∧ (PO zs j).getD k (0, 0) = ((i : Int), zs.getD i 0) := by
  have hl := PO_len zs j h
  have hm : (PO zs j).getD k (0, 0) ∈ PO zs j := by
    rw [List.getD_eq_getElem?_getD, List.getElem?_eq_getElem (show k < (PO zs j).length by omega)]
    exact List.getElem_mem _
  rcases insAll_mem _ _ hm with h1 | h1
  · simp at h1
  · have h2 := List.mem_of_mem_take h1
    unfold peopleL at h2
    obtain ⟨i, hi, he⟩ := List.mem_map.1 h2
    exact ⟨i, by simpa using hi, he.symm⟩
/-- How many of l, from its head on, are at least as old. -/
def twk (z : Int) (l : List (Int × Int)) : Nat := (l.takeWhile fun p => decide (z ≤ p.2)).length
theorem twk_le (z : Int) (l : List (Int × Int)) : twk z l ≤ l.length := (List.takeWhile_sublist _).length_le
theorem twk_lt {z : Int} : ∀ {l : List (Int × Int)} {k : Nat}, k < twk z l → z ≤ (l.getD k (0, 0)).2 := by
  intro l
  induction l with
  | nil => intro k h; simp [twk] at h
  | cons p l ih =>
    intro k h
    unfold twk at h
    rw [List.takeWhile_cons] at h
    by_cases hp : z ≤ p.2
    · cases k with
      | zero => simpa using hp
      | succ k =>
        simp [hp] at h
        have := ih (k := k) (by unfold twk; omega)
        simpa using this
    · simp [hp] at h
theorem twk_at {z : Int} : ∀ {l : List (Int × Int)}, twk z l < l.length → (l.getD (twk z l) (0, 0)).2 < z := by
  intro l
  induction l with
  | nil => intro h; simp at h
  | cons p l ih =>
    intro h
    unfold twk at h ⊢
    rw [List.takeWhile_cons] at h ⊢
    by_cases hp : z ≤ p.2
    · simp [hp] at h ⊢
      have := ih (by unfold twk; omega)
      unfold twk at this
      simpa using this
    · simp [hp]; omega
theorem insB_cut (x : Int × Int) (l : List (Int × Int)) : insB x l = l.take (twk x.2 l) ++ x :: l.drop (twk x.2 l) := by
  unfold insB twk
  have h := List.takeWhile_append_dropWhile (p := fun p : Int × Int => decide (x.2 ≤ p.2)) (l := l)
  have e1 : l.take (l.takeWhile fun p => decide (x.2 ≤ p.2)).length = l.takeWhile fun p => decide (x.2 ≤ p.2) := by
    conv => lhs; arg 2; rw [← h]
    exact List.take_left' rfl
  have e2 : l.drop (l.takeWhile fun p => decide (x.2 ≤ p.2)).length = l.dropWhile fun p => decide (x.2 ≤ p.2) := by
    conv => lhs; arg 2; rw [← h]
    exact List.drop_left' rfl
  rw [e1, e2]
/-- The numbers of the first j people, older ones first. -/
def nsTo (zs : List Int) (j : Nat) : List Int := (PO zs j).map (·.1)
theorem nsTo_zero (zs : List Int) : nsTo zs 0 = [] := rfl
theorem nsTo_len (zs : List Int) (j : Nat) (h : j ≤ zs.length) : (nsTo zs j).length = j := by unfold nsTo; rw [List.length_map, PO_len zs j h]
theorem nsTo_all (zs : List Int) : nsTo zs zs.length = ordNs zs := by unfold nsTo ordNs; rw [PO_all]
/-- Where the next one comes. -/
def spot (zs : List Int) (j : Nat) : Nat := twk (zs.getD j 0) (PO zs j)
theorem spot_le (zs : List Int) (j : Nat) (h : j ≤ zs.length) : spot zs j ≤ j := by
  have := twk_le (zs.getD j 0) (PO zs j)
  rw [PO_len zs j h] at this
  exact this
theorem nsTo_succ (zs : List Int) (j : Nat) (h : j < zs.length) : nsTo zs (j + 1) = ((nsTo zs j).take (spot zs j) ++ [(j : Int)]) ++ (nsTo zs j).drop (spot zs j) := by
  unfold nsTo spot
  rw [PO_succ zs j h, insB_cut]
  simp [List.map_take, List.map_drop]
theorem nsTo_at (zs : List Int) (j k : Nat) (h : j ≤ zs.length) (hk : k < j) : ∃ i : Nat, i < zs.length ∧ (nsTo zs j).getD k 0 = (i : Int) ∧ ((PO zs j).getD k (0, 0)).2 = zs.getD i 0 := by
  obtain ⟨i, h1, h2⟩ := PO_at zs j k h hk
  refine ⟨i, h1, ?_, by rw [h2]⟩
  unfold nsTo
  have hl := PO_len zs j h
  rw [List.getD_eq_getElem?_getD, List.getElem?_eq_getElem (show k < (PO zs j).length by omega)] at h2
  simp only [Option.getD_some] at h2
  rw [List.getD_eq_getElem?_getD, List.getElem?_map, List.getElem?_eq_getElem (show k < (PO zs j).length by omega)]
  simp [h2]
theorem spot_lt {zs : List Int} {j k : Nat} (h : k < spot zs j) : zs.getD j 0 ≤ ((PO zs j).getD k (0, 0)).2 := twk_lt h
theorem spot_at {zs : List Int} {j : Nat} (hj : j ≤ zs.length) (h : spot zs j < j) : ((PO zs j).getD (spot zs j) (0, 0)).2 < zs.getD j 0 := twk_at (by rw [PO_len zs j hj]; exact h)

set_option maxHeartbeats 400000 in
theorem own_none (w : World) : Calls Try.prog 63 #[.slice none 0 0] w (RetOwn [] w) := by
  obtain ⟨i0, hi, hz0, hz1, hz2⟩ := info_parts infoInt
  have hO := Lib.hid (World.ownsRow_lit (base := w.heap.size) (size := 1) (e := 3) w #[] 0 (Nat.le_refl _) (by unfold maxLen; omega) rfl)
  go_enter Try.func63, Try.ntmps63
  go_wp2_with (first | (at_builtin; refine wpList_append_own_none rfl _ _ 22 rfl w.heap.size 3 i0 1 Try.underlying22 hi _ 0 [] rfl hO.out rfl ?_))
  go_wp2_with fail
  go_ret
  exact ⟨_, rfl, hO.out, (Below.refl w.heap.size w).alloc (Nat.le_refl _) _⟩
end Go.Proofs.Ytjabghojenhhiaa
