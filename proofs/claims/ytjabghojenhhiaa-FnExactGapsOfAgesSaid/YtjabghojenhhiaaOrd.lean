/- The order of ages on lists: insertion behind all that are at least as old. -/
import Derived.Test.YtjabghojenhhiaaStable
set_option linter.unusedVariables false
set_option linter.unusedSimpArgs false
namespace Go.Proofs.Ytjabghojenhhiaa
open Go.RowKit Go.Sort

/-- x behind all of l that are at least as old. -/
def insB (x : Int × Int) (l : List (Int × Int)) : List (Int × Int) := (l.takeWhile fun p => decide (x.2 ≤ p.2)) ++ x :: (l.dropWhile fun p => decide (x.2 ≤ p.2))
/-- Older ones first. -/
def Desc (l : List (Int × Int)) : Prop := l.Pairwise fun p q => q.2 ≤ p.2

theorem tw_snoc {p : Int × Int → Bool} (y : Int × Int) (h : p y = false) : ∀ l : List (Int × Int), (l ++ [y]).takeWhile p = l.takeWhile p ∧ (l ++ [y]).dropWhile p = l.dropWhile p ++ [y] := by
  intro l
  induction l with
  | nil => simp [h]
  | cons z l ih =>
    obtain ⟨h1, h2⟩ := ih
    by_cases hz : p z = true
    · simp only [List.cons_append, List.takeWhile_cons, List.dropWhile_cons, hz, if_true, h1, h2]; simp
    · simp [List.takeWhile_cons, List.dropWhile_cons, hz]
theorem insB_snoc (x y : Int × Int) (l : List (Int × Int)) (h : y.2 < x.2) : insB x (l ++ [y]) = insB x l ++ [y] := by
  obtain ⟨h1, h2⟩ := tw_snoc (p := fun p => decide (x.2 ≤ p.2)) y (by simp; omega) l
  unfold insB
  rw [h1, h2]
  simp
theorem insB_all (x : Int × Int) : ∀ l : List (Int × Int), (∀ p ∈ l, x.2 ≤ p.2) → insB x l = l ++ [x] := by
  intro l
  induction l with
  | nil => intro _; rfl
  | cons z l ih =>
    intro h
    have := ih fun p hp => h p (by simp [hp])
    have hz : x.2 ≤ z.2 := h z (by simp)
    unfold insB at this ⊢
    simp only [List.takeWhile_cons, List.dropWhile_cons, decide_eq_true hz, if_true, List.cons_append, this]
theorem desc_insB (x : Int × Int) : ∀ l, Desc l → Desc (insB x l) := by
  intro l
  induction l with
  | nil => intro _; simp [insB, Desc]
  | cons z l ih =>
    intro h
    have h' := List.pairwise_cons.1 h
    by_cases hz : x.2 ≤ z.2
    · have e : insB x (z :: l) = z :: insB x l := by
        unfold insB; simp [List.takeWhile_cons, List.dropWhile_cons, hz]
      rw [e]
      refine List.pairwise_cons.2 ⟨?_, ih h'.2⟩
      intro q hq
      unfold insB at hq
      rcases List.mem_append.1 hq with h1 | h1
      · exact h'.1 q ((List.takeWhile_sublist _).subset h1)
      · rcases List.mem_cons.1 h1 with rfl | h2
        · exact hz
        · exact h'.1 q ((List.dropWhile_sublist _).subset h2)
    · have e : insB x (z :: l) = x :: z :: l := by
        unfold insB; simp [List.takeWhile_cons, List.dropWhile_cons, hz]
      rw [e]
      refine List.pairwise_cons.2 ⟨?_, h⟩
      intro q hq
      rcases List.mem_cons.1 hq with rfl | h2
      · omega
      · have := h'.1 q h2; omega

theorem get_mid (l r : List (Int × Int)) (x : Int × Int) : (l ++ x :: r).toArray[l.length]! = x := by
  rw [getElem!_pos _ _ (by simp)]; simp
theorem swp_mid (l r : List (Int × Int)) (y x : Int × Int) : swp (l ++ y :: x :: r).toArray (l.length + 1) l.length = (l ++ x :: y :: r).toArray := by
  have h1 : (l ++ y :: x :: r).toArray[l.length]! = y := get_mid l (x :: r) y
  have h2 : (l ++ y :: x :: r).toArray[l.length + 1]! = x := by
    simp
  unfold swp
  rw [h1, h2]
  simp [List.set_append]
theorem insInner_list (x : Int × Int) : ∀ (k : Nat) (l r : List (Int × Int)), l.length = k → Desc l → insInner (ltOf cfP) 0 l.length (l ++ x :: r).toArray = (insB x l ++ r).toArray := by
  intro k
  induction k with
  | zero =>
    intro l r hk _
    obtain rfl := List.eq_nil_of_length_eq_zero hk
    rw [insInner_stop _ _ _ _ (Or.inl (by simp))]
    rfl
  | succ k ih =>
    intro l r hk hd
    obtain ⟨l', y, rfl⟩ : ∃ l' y, l = l' ++ [y] := ⟨l.dropLast, l.getLast (by intro h; simp [h] at hk), (List.dropLast_concat_getLast _).symm⟩
    have hk' : l'.length = k := by simp at hk; omega
    have hd' : Desc l' := (List.pairwise_append.1 hd).1
    have e : (l' ++ [y] ++ x :: r) = l' ++ y :: x :: r := by simp
    have el : (l' ++ [y]).length = l'.length + 1 := by simp
    have g1 : (l' ++ y :: x :: r).toArray[l'.length]! = y := get_mid l' (x :: r) y
    have g2 : (l' ++ y :: x :: r).toArray[l'.length + 1]! = x := by
      simp
    rw [e, el]
    by_cases hlt : y.2 < x.2
    · rw [insInner_go _ _ _ _ (by omega) (by rw [Nat.add_sub_cancel, g1, g2]; simp [ltOf, cfP, cmpI, hlt]), Nat.add_sub_cancel, swp_mid, ih l' (y :: r) hk' hd', insB_snoc _ _ _ hlt]
      simp
    · rw [insInner_stop _ _ _ _ (Or.inr (by rw [Nat.add_sub_cancel, g1, g2]; unfold ltOf cfP cmpI; rw [if_neg hlt]; split <;> simp)), insB_all]
      · simp
      · intro p hp
        rcases List.mem_append.1 hp with h1 | h1
        · have := (List.pairwise_append.1 hd).2.2 p h1 y (by simp); omega
        · simp at h1; subst h1; omega
/-- All of r laid into l, one by one. -/
def insAll : List (Int × Int) → List (Int × Int) → List (Int × Int)
  | l, [] => l
  | l, x :: r => insAll (insB x l) r
theorem insB_length (x : Int × Int) (l : List (Int × Int)) : (insB x l).length = l.length + 1 := by
  unfold insB
  have := congrArg List.length (List.takeWhile_append_dropWhile (p := fun p : Int × Int => decide (x.2 ≤ p.2)) (l := l))
  rw [List.length_append] at this
  rw [List.length_append, List.length_cons]; omega
theorem insOuter_list : ∀ (r l : List (Int × Int)), Desc l → insOuter (ltOf cfP) 0 (l.length + r.length) l.length (l ++ r).toArray = (insAll l r).toArray := by
  intro r
  induction r with
  | nil => intro l _; rw [insOuter_stop _ _ _ _ _ (by simp)]; simp [insAll]
  | cons x r ih =>
    intro l hd
    rw [insOuter_go _ _ _ _ _ (by simp), insInner_list x l.length l r rfl hd]
    have h := ih (insB x l) (desc_insB x l hd)
    rw [insB_length] at h
    rw [show l.length + (x :: r).length = l.length + 1 + r.length by simp; omega]
    rw [h]; rfl
theorem insP_list (x : Int × Int) (r : List (Int × Int)) : insP (x :: r).toArray = (insAll [] (x :: r)).toArray := by
  unfold insP Sort.insertionSort
  have h := insOuter_list r [x] (by simp [Desc])
  have e : insAll [] (x :: r) = insAll [x] r := rfl
  rw [e]
  simpa [Nat.add_comm] using h
theorem insAll_length : ∀ (r l : List (Int × Int)), (insAll l r).length = l.length + r.length := by
  intro r
  induction r with
  | nil => intro l; rfl
  | cons x r ih => intro l; unfold insAll; rw [ih, insB_length]; simp; omega
theorem desc_insAll : ∀ (r l : List (Int × Int)), Desc l → Desc (insAll l r) := by
  intro r
  induction r with
  | nil => intro l h; exact h
  | cons x r ih => intro l h; exact ih _ (desc_insB x l h)
end Go.Proofs.Ytjabghojenhhiaa
