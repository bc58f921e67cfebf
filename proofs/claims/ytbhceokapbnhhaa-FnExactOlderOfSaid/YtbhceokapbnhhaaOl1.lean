/- The order of births, on lists: who comes next goes behind all who were born no later. Plain lemmas, no program. -/
import Derived.Test.YtbhceokapbnhhaaDate
set_option linter.unusedVariables false
set_option linter.unusedSimpArgs false
namespace Go.Proofs.Ytbhceokapbnhhaa
open Go.RowKit

/-- x behind all of l that are as young as it tells, or more. -/
def insB (x : Int × Int) (l : List (Int × Int)) : List (Int × Int) := (l.takeWhile fun p => decide (x.2 ≤ p.2)) ++ x :: (l.dropWhile fun p => decide (x.2 ≤ p.2))
/-- Older ones first. -/
def Desc (l : List (Int × Int)) : Prop := l.Pairwise fun p q => q.2 ≤ p.2
theorem desc_insB (x : Int × Int) : ∀ l, Desc l → Desc (insB x l) := by
  intro l
  induction l with
  | nil => intro _; simp [insB, Desc]
  | cons z l ih =>
    intro h
    have h' := List.pairwise_cons.1 h
    by_cases hz : x.2 ≤ z.2
    · have e : insB x (z :: l) = z :: insB x l := by
        unfold insB; simp [List.takeWhile_cons, List.dropWhile_cons, hz]
      rw [e]
      refine List.pairwise_cons.2 ⟨?_, ih h'.2⟩
      intro q hq
      unfold insB at hq
      rcases List.mem_append.1 hq with h1 | h1
      · exact h'.1 q ((List.takeWhile_sublist _).subset h1)
      · rcases List.mem_cons.1 h1 with rfl | h2
        · exact hz
        · exact h'.1 q ((List.dropWhile_sublist _).subset h2)
    · have e : insB x (z :: l) = x :: z :: l := by
        unfold insB; simp [List.takeWhile_cons, List.dropWhile_cons, hz]
      rw [e]
      refine List.pairwise_cons.2 ⟨?_, h⟩
      intro q hq
      rcases List.mem_cons.1 hq with rfl | h2
      · omega
      · have := h'.1 q h2; omega
/-- All of r laid into l, one by one. -/
def insAll : List (Int × Int) → List (Int × Int) → List (Int × Int)
  | l, [] => l
  | l, x :: r => insAll (insB x l) r
theorem insB_length (x : Int × Int) (l : List (Int × Int)) : (insB x l).length = l.length + 1 := by
  unfold insB
  have := congrArg List.length (List.takeWhile_append_dropWhile (p := fun p : Int × Int => decide (x.2 ≤ p.2)) (l := l))
  rw [List.length_append] at this
  rw [List.length_append, List.length_cons]; omega
theorem insAll_length : ∀ (r l : List (Int × Int)), (insAll l r).length = l.length + r.length := by
  intro r
  induction r with
  | nil => intro l; rfl
  | cons x r ih => intro l; unfold insAll; rw [ih, insB_length]; simp; omega
theorem desc_insAll : ∀ (r l : List (Int × Int)), Desc l → Desc (insAll l r) := by
  intro r
  induction r with
  | nil => intro l h; exact h
  | cons x r ih => intro l h; exact ih _ (desc_insB x l h)
def peopleL (zs : List Int) : List (Int × Int) := (List.range zs.length).map fun (i : Nat) => ((i : Int), zs.getD i 0)
def ordP (zs : List Int) : List (Int × Int) := insAll [] (peopleL zs)
theorem peopleL_length (zs : List Int) : (peopleL zs).length = zs.length := by simp [peopleL]
theorem ordP_length (zs : List Int) : (ordP zs).length = zs.length := by unfold ordP; rw [insAll_length, peopleL_length]; simp
def ordNs (zs : List Int) : List Int := (ordP zs).map (·.1)
theorem ordNs_length (zs : List Int) : (ordNs zs).length = zs.length := by unfold ordNs; rw [List.length_map, ordP_length]
theorem insB_mem {x p : Int × Int} {l : List (Int × Int)} : p ∈ insB x l → p = x ∨ p ∈ l := by
  intro h
  unfold insB at h
  rcases List.mem_append.1 h with h1 | h1
  · exact .inr ((List.takeWhile_sublist _).subset h1)
  · rcases List.mem_cons.1 h1 with h2 | h2
    · exact .inl h2
    · exact .inr ((List.dropWhile_sublist _).subset h2)
theorem insAll_mem {p : Int × Int} : ∀ (r l : List (Int × Int)), p ∈ insAll l r → p ∈ l ∨ p ∈ r := by
  intro r
  induction r with
  | nil => intro l h; exact .inl h
  | cons x r ih =>
    intro l h
    rcases ih _ h with h1 | h1
    · rcases insB_mem h1 with rfl | h2
      · exact .inr (by simp)
      · exact .inl h2
    · exact .inr (by simp [h1])
theorem insAll_snoc (x : Int × Int) : ∀ (r l : List (Int × Int)), insAll l (r ++ [x]) = insB x (insAll l r) := by
  intro r
  induction r with
  | nil => intro l; rfl
  | cons y r ih => intro l; exact ih _
/-- The first j people, older ones first. -/
def PO (zs : List Int) (j : Nat) : List (Int × Int) := insAll [] ((peopleL zs).take j)
theorem PO_zero (zs : List Int) : PO zs 0 = [] := rfl
theorem PO_len (zs : List Int) (j : Nat) (h : j ≤ zs.length) : (PO zs j).length = j := by
  unfold PO; rw [insAll_length, List.length_take, peopleL_length, List.length_nil]; omega
theorem PO_all (zs : List Int) : PO zs zs.length = ordP zs := by
  unfold PO ordP; rw [List.take_of_length_le (by rw [peopleL_length]; omega)]
theorem PO_succ (zs : List Int) (j : Nat) (h : j < zs.length) : PO zs (j + 1) = insB ((j : Int), zs.getD j 0) (PO zs j) := by
  unfold PO
  rw [List.take_succ_eq_append_getElem (by rw [peopleL_length]; exact h), insAll_snoc]
  congr 1
  simp [peopleL]
theorem PO_at (zs : List Int) (j k : Nat) (h : j ≤ zs.length) (hk : k < j) : ∃ i : Nat, i < zs.length ∧ (PO zs j).getD k (0, 0) = ((i : Int), zs.getD i 0) := by
  have hl := PO_len zs j h
  have hm : (PO zs j).getD k (0, 0) ∈ PO zs j := by
    rw [List.getD_eq_getElem?_getD, List.getElem?_eq_getElem (show k < (PO zs j).length by omega)]
    exact List.getElem_mem _
  rcases insAll_mem _ _ hm with h1 | h1
  · simp at h1
  · have h2 := List.mem_of_mem_take h1
    unfold peopleL at h2
    obtain ⟨i, hi, he⟩ := List.mem_map.1 h2
    exact ⟨i, by simpa using hi, he.symm⟩
/-- How many of l, from its head on, are as young as it tells, or more. -/
def twk (z : Int) (l : List (Int × Int)) : Nat := (l.takeWhile fun p => decide (z ≤ p.2)).length
theorem twk_le (z : Int) (l : List (Int × Int)) : twk z l ≤ l.length := (List.takeWhile_sublist _).length_le
theorem twk_lt {z : Int} : ∀ {l : List (Int × Int)} {k : Nat}, k < twk z l → z ≤ (l.getD k (0, 0)).2 := by
  intro l
  induction l with
  | nil => intro k h; simp [twk] at h
  | cons p l ih =>
    intro k h
    unfold twk at h
    rw [List.takeWhile_cons] at h
    by_cases hp : z ≤ p.2
    · cases k with
      | zero => simpa using hp
      | succ k =>
        simp [hp] at h
        have := ih (k := k) (by unfold twk; omega)
        simpa using this
    · simp [hp] at h
theorem twk_at {z : Int} : ∀ {l : List (Int × Int)}, twk z l < l.length → (l.getD (twk z l) (0, 0)).2 < z := by
  intro l
  induction l with
  | nil => intro h; simp at h
  | cons p l ih =>
    intro h
    unfold twk at h ⊢
    rw [List.takeWhile_cons] at h ⊢
    by_cases hp : z ≤ p.2
    · simp [hp] at h ⊢
      have := ih (by unfold twk; omega)
      unfold twk at this
      simpa using this
    · simp [hp]; omega
theorem insB_cut (x : Int × Int) (l : List (Int × Int)) : insB x l = l.take (twk x.2 l) ++ x :: l.drop (twk x.2 l) := by
  unfold insB twk
  have h := List.takeWhile_append_dropWhile (p := fun p : Int × Int => decide (x.2 ≤ p.2)) (l := l)
  have e1 : l.take (l.takeWhile fun p => decide (x.2 ≤ p.2)).length = l.takeWhile fun p => decide (x.2 ≤ p.2) := by
    conv => lhs; arg 2; rw [← h]
    exact List.take_left' rfl
  have e2 : l.drop (l.takeWhile fun p => decide (x.2 ≤ p.2)).length = l.dropWhile fun p => decide (x.2 ≤ p.2) := by
    conv => lhs; arg 2; rw [← h]
    exact List.drop_left' rfl
  rw [e1, e2]
/-- The numbers of the first j people, older ones first. -/
def nsTo (zs : List Int) (j : Nat) : List Int := (PO zs j).map (·.1)
theorem nsTo_zero (zs : List Int) : nsTo zs 0 = [] := rfl
theorem nsTo_len (zs : List Int) (j : Nat) (h : j ≤ zs.length) : (nsTo zs j).length = j := by unfold nsTo; rw [List.length_map, PO_len zs j h]
theorem nsTo_all (zs : List Int) : nsTo zs zs.length = ordNs zs := by unfold nsTo ordNs; rw [PO_all]
/-- Where the next one comes. -/
def spot (zs : List Int) (j : Nat) : Nat := twk (zs.getD j 0) (PO zs j)
theorem spot_le (zs : List Int) (j : Nat) (h : j ≤ zs.length) : spot zs j ≤ j := by
  have := twk_le (zs.getD j 0) (PO zs j)
  rw [PO_len zs j h] at this
  exact this
theorem nsTo_succ (zs : List Int) (j : Nat) (h : j < zs.length) : nsTo zs (j + 1) = ((nsTo zs j).take (spot zs j) ++ [(j : Int)]) ++ (nsTo zs j).drop (spot zs j) := by
  unfold nsTo spot
  rw [PO_succ zs j h, insB_cut]
  simp [List.map_take, List.map_drop]
theorem nsTo_at (zs : List Int) (j k : Nat) (h : j ≤ zs.length) (hk : k < j) : ∃ i : Nat, i < zs.length ∧ (nsTo zs j).getD k 0 = (i : Int) ∧ ((PO zs j).getD k (0, 0)).2 = zs.getD i 0 := by
  obtain ⟨i, h1, h2⟩ := PO_at zs j k h hk
  refine ⟨i, h1, ?_, by rw [h2]⟩
  unfold nsTo
  have hl := PO_len zs j h
  rw [List.getD_eq_getElem?_getD, List.getElem?_eq_getElem (show k < (PO zs j).length by omega)] at h2
  simp only [Option.getD_some] at h2
  rw [List.getD_eq_getElem?_getD, List.getElem?_map, List.getElem?_eq_getElem (show k < (PO zs j).length by omega)]
  simp [h2]
theorem spot_lt {zs : List Int} {j k : Nat} (h : k < spot zs j) : zs.getD j 0 ≤ ((PO zs j).getD k (0, 0)).2 := twk_lt h
theorem spot_at {zs : List Int} {j : Nat} (hj : j ≤ zs.length) (h : spot zs j < j) : ((PO zs j).getD (spot zs j) (0, 0)).2 < zs.getD j 0 := twk_at (by rw [PO_len zs j hj]; exact h)

/-- The days of birth, turned: earlier ones are greater. -/
def negD (ds : List Dt) : List Int := ds.map fun p => -dys p
theorem negD_length (ds : List Dt) : (negD ds).length = ds.length := by simp [negD]
theorem negD_at (ds : List Dt) (j : Nat) (h : j < ds.length) : (negD ds).getD j 0 = -dys (at2 ds j) := by
  simp [negD, at2, List.getElem?_eq_getElem h]
theorem PO_desc (zs : List Int) (j : Nat) : Desc (PO zs j) := desc_insAll _ _ (by simp [Desc])
theorem twk_stop {z : Int} {l : List (Int × Int)} {j : Nat} (hd : Desc l) (h1 : twk z l ≤ j) (h2 : j ≤ l.length) (h3 : j = 0 ∨ z ≤ (l.getD (j - 1) (0, 0)).2) : twk z l = j := by
  rcases Nat.eq_zero_or_pos j with rfl | hp
  · omega
  · have h3 : z ≤ (l.getD (j - 1) (0, 0)).2 := by rcases h3 with h | h; omega; exact h
    rcases Nat.lt_or_ge (twk z l) j with hlt | hge
    · exfalso
      have ha := twk_at (z := z) (l := l) (by omega)
      have hdd := List.pairwise_iff_getElem.1 hd
      have e1 : l.getD (j - 1) (0, 0) = l[j - 1]'(by omega) := by simp [List.getElem?_eq_getElem (show j - 1 < l.length by omega)]
      have e2 : l.getD (twk z l) (0, 0) = l[twk z l]'(by omega) := by simp [List.getElem?_eq_getElem (show twk z l < l.length by omega)]
      rw [e1] at h3
      rw [e2] at ha
      rcases Nat.lt_or_ge (twk z l) (j - 1) with h | h
      · have := hdd (twk z l) (j - 1) (by omega) (by omega) h
        omega
      · have e : twk z l = j - 1 := by omega
        simp only [e] at ha
        omega
    · omega
theorem twk_back {z : Int} {l : List (Int × Int)} {j : Nat} (h1 : twk z l ≤ j) (h0 : 0 < j) (h : (l.getD (j - 1) (0, 0)).2 < z) : twk z l ≤ j - 1 := by
  rcases Nat.lt_or_ge (j - 1) (twk z l) with hlt | hge
  · have := twk_lt hlt
    omega
  · exact hge
/-- x at place j of l, and r behind. -/
def mid (x : Int × Int) (l r : List (Int × Int)) (j : Nat) : List Int := (l.take j ++ x :: (l.drop j ++ r)).map (·.1)
theorem mid_len (x : Int × Int) (l r : List (Int × Int)) (j : Nat) (h : j ≤ l.length) : (mid x l r j).length = l.length + 1 + r.length := by
  simp [mid]; omega
theorem mid_x (x : Int × Int) (l r : List (Int × Int)) (j : Nat) (h : j ≤ l.length) : (mid x l r j).getD j 0 = x.1 := by
  unfold mid
  have hl : (l.take j).length = j := by rw [List.length_take]; omega
  rw [List.getD_eq_getElem?_getD, List.getElem?_map, List.getElem?_append_right (by omega), hl, Nat.sub_self]
  rfl
theorem mid_y (x : Int × Int) (l r : List (Int × Int)) (j : Nat) (h0 : 0 < j) (h : j ≤ l.length) : (mid x l r j).getD (j - 1) 0 = (l.getD (j - 1) (0, 0)).1 := by
  unfold mid
  have hl : (l.take j).length = j := by rw [List.length_take]; omega
  rw [List.getD_eq_getElem?_getD, List.getElem?_map, List.getElem?_append_left (by omega), List.getElem?_take_of_lt (by omega)]
  simp [List.getElem?_eq_getElem (show j - 1 < l.length by omega)]
theorem mid_swap (x : Int × Int) (l r : List (Int × Int)) (j : Nat) (h0 : 0 < j) (h : j ≤ l.length) :
    ((mid x l r j).set j (l.getD (j - 1) (0, 0)).1).set (j - 1) x.1 = mid x l r (j - 1) := by
  obtain ⟨k, rfl⟩ : ∃ k, j = k + 1 := ⟨j - 1, by omega⟩
  simp only [Nat.add_sub_cancel]
  have hk : k < l.length := by omega
  have hl : (l.take k).length = k := by rw [List.length_take]; omega
  have e1 : l.take (k + 1) = l.take k ++ [l[k]] := List.take_succ_eq_append_getElem hk
  have e2 : l.drop k = l[k] :: l.drop (k + 1) := List.drop_eq_getElem_cons hk
  have e3 : l.getD k (0, 0) = l[k] := by simp [List.getElem?_eq_getElem hk]
  unfold mid
  rw [e1, e2, e3]
  generalize l.take k = a at *
  generalize l.drop (k + 1) = b
  generalize l[k] = y
  subst hl
  simp [List.set_append]
/-- The numbers when i are in order. -/
def rowTo (zs : List Int) (i : Nat) : List Int := (PO zs i ++ (peopleL zs).drop i).map (·.1)
theorem rowTo_len (zs : List Int) (i : Nat) (h : i ≤ zs.length) : (rowTo zs i).length = zs.length := by
  unfold rowTo
  rw [List.length_map, List.length_append, PO_len zs i h, List.length_drop, peopleL_length]; omega
theorem people_at (zs : List Int) (i : Nat) (h : i < zs.length) : (peopleL zs).drop i = ((i : Int), zs.getD i 0) :: (peopleL zs).drop (i + 1) := by
  rw [List.drop_eq_getElem_cons (by rw [peopleL_length]; exact h)]
  congr 1
  simp [peopleL]
/-- The person who comes next. -/
def xAt (zs : List Int) (i : Nat) : Int × Int := ((i : Int), zs.getD i 0)
theorem rowTo_mid (zs : List Int) (i : Nat) (h : i < zs.length) : rowTo zs i = mid (xAt zs i) (PO zs i) ((peopleL zs).drop (i + 1)) i := by
  unfold rowTo mid xAt
  have hl := PO_len zs i (by omega)
  rw [people_at zs i h, List.take_of_length_le (by omega), List.drop_of_length_le (show (PO zs i).length ≤ i by omega), List.nil_append]
theorem rowTo_next (zs : List Int) (i : Nat) (h : i < zs.length) : mid (xAt zs i) (PO zs i) ((peopleL zs).drop (i + 1)) (spot zs i) = rowTo zs (i + 1) := by
  unfold rowTo mid xAt spot
  rw [PO_succ zs i h, insB_cut]
  simp
theorem rowTo_one (zs : List Int) (h : 0 < zs.length) : rowTo zs 1 = (List.range zs.length).map fun (i : Nat) => (i : Int) := by
  have h1 : PO zs 1 = [(((0 : Nat) : Int), zs.getD 0 0)] := by
    rw [PO_succ zs 0 h, PO_zero]; rfl
  have h2 := people_at zs 0 h
  unfold rowTo
  rw [h1]
  have h3 : [(((0 : Nat) : Int), zs.getD 0 0)] ++ (peopleL zs).drop (0 + 1) = peopleL zs := by rw [List.singleton_append, ← h2]; rfl
  rw [h3]
  unfold peopleL
  rw [List.map_map]
  rfl
theorem rowTo_all (zs : List Int) : rowTo zs zs.length = ordNs zs := by
  unfold rowTo ordNs
  rw [PO_all, List.drop_of_length_le (by rw [peopleL_length]; exact Nat.le_refl _), List.append_nil]
/-- The inner loop, all of it on lists: it goes on while the one ahead is younger. -/
theorem spot_stop {zs : List Int} {i j : Nat} (hi : i ≤ zs.length) (h1 : spot zs i ≤ j) (h2 : j ≤ i) (h3 : j = 0 ∨ zs.getD i 0 ≤ ((PO zs i).getD (j - 1) (0, 0)).2) : spot zs i = j :=
  twk_stop (PO_desc zs i) h1 (by rw [PO_len zs i hi]; exact h2) h3
theorem spot_back {zs : List Int} {i j : Nat} (h1 : spot zs i ≤ j) (h0 : 0 < j) (h : ((PO zs i).getD (j - 1) (0, 0)).2 < zs.getD i 0) : spot zs i ≤ j - 1 := twk_back h1 h0 h
end Go.Proofs.Ytbhceokapbnhhaa
