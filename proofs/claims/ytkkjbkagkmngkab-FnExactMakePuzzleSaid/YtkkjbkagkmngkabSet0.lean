/- Lists of sets of children: plain mathematics, no program. -/
import Derived.Test.YtkkjbkagkmngkabKit
set_option linter.unusedVariables false
set_option linter.unusedSimpArgs false
namespace Go.Proofs.Ytkkjbkagkmngkab

/-- All lists of n ages, the first one of the last k ages up to 20, none less than the one before it; in order. -/
def suf : Nat → Nat → List (List Int)
  | 0, _ => [[]]
  | _ + 1, 0 => []
  | n + 1, k + 1 => (suf n (k + 1)).map ((20 - (k : Int)) :: ·) ++ suf (n + 1) k
termination_by n k => (n, k)
theorem suf_zero (k : Nat) : suf 0 k = [[]] := by rw [suf]
theorem suf_none (n : Nat) : suf (n + 1) 0 = [] := by rw [suf]
theorem suf_succ (n k : Nat) : suf (n + 1) (k + 1) = (suf n (k + 1)).map ((20 - (k : Int)) :: ·) ++ suf (n + 1) k := by rw [suf]

/-- The sets that a search finds that asks p about each begun set. -/
def tree (p : List Int → Bool) : Nat → Nat → List Int → List (List Int)
  | 0, _, pre => [pre]
  | _ + 1, 0, _ => []
  | n + 1, k + 1, pre => (if p (pre ++ [20 - (k : Int)]) = true then tree p n (k + 1) (pre ++ [20 - (k : Int)]) else []) ++ tree p (n + 1) k pre
termination_by n k => (n, k)
theorem tree_zero (p : List Int → Bool) (k : Nat) (pre : List Int) : tree p 0 k pre = [pre] := by rw [tree]
theorem tree_none (p : List Int → Bool) (n : Nat) (pre : List Int) : tree p (n + 1) 0 pre = [] := by rw [tree]
theorem tree_succ (p : List Int → Bool) (n k : Nat) (pre : List Int) : tree p (n + 1) (k + 1) pre = (if p (pre ++ [20 - (k : Int)]) = true then tree p n (k + 1) (pre ++ [20 - (k : Int)]) else []) ++ tree p (n + 1) k pre := by rw [tree]

/-- p of each list that is begun behind pre. -/
def allp (p : List Int → Bool) (pre : List Int) : List Int → Bool
  | [] => true
  | a :: s => p (pre ++ [a]) && allp p (pre ++ [a]) s

theorem tree_filter (p : List Int → Bool) : ∀ n k pre, tree p n k pre = ((suf n k).filter (allp p pre)).map (pre ++ ·)
  | 0, k, pre => by rw [tree_zero, suf_zero]; show [pre] = [pre ++ []]; rw [List.append_nil]
  | n + 1, 0, pre => by rw [tree_none, suf_none]; rfl
  | n + 1, k + 1, pre => by
    rw [tree_succ, suf_succ, tree_filter p (n + 1) k pre, tree_filter p n (k + 1) (pre ++ [20 - (k : Int)]), List.filter_append, List.map_append]
    congr 1
    rw [List.filter_map, List.map_map]
    by_cases h : p (pre ++ [20 - (k : Int)]) = true
    · rw [if_pos h]
      have e : (allp p pre ∘ fun x => (20 - (k : Int)) :: x) = allp p (pre ++ [20 - (k : Int)]) := by
        funext s
        show (p (pre ++ [20 - (k : Int)]) && allp p (pre ++ [20 - (k : Int)]) s) = _
        rw [h, Bool.true_and]
      rw [e]
      apply List.map_congr_left
      intro s _
      simp
    · rw [if_neg h]
      have e : (allp p pre ∘ fun x => (20 - (k : Int)) :: x) = fun _ => false := by
        funext s
        show (p (pre ++ [20 - (k : Int)]) && allp p (pre ++ [20 - (k : Int)]) s) = _
        rw [Bool.eq_false_iff.2 h, Bool.false_and]
      rw [e]
      simp
termination_by n k => (n, k)

/-- What a list of suf is. -/
theorem suf_mem : ∀ n k s, k ≤ 20 → s ∈ suf n k → s.length = n ∧ (∀ a ∈ s, 21 - (k : Int) ≤ a ∧ a ≤ 20) ∧ ∀ j, j + 1 < s.length → s.getD j 0 ≤ s.getD (j + 1) 0
  | 0, k, s => by rw [suf_zero]; intro _ h; simp at h; subst h; simp
  | n + 1, 0, s => by rw [suf_none]; intro _ h; simp at h
  | n + 1, k + 1, s => by
    rw [suf_succ, List.mem_append]
    rintro hk (h | h)
    · obtain ⟨s', h1, rfl⟩ := List.mem_map.1 h
      obtain ⟨h2, h3, h4⟩ := suf_mem n (k + 1) s' hk h1
      refine ⟨by simp [h2], fun a ha => ?_, fun j hj => ?_⟩
      · rcases List.mem_cons.1 ha with rfl | ha
        · omega
        · exact h3 a ha
      · cases j with
        | zero =>
          cases s' with
          | nil => simp at hj
          | cons b t =>
            have := (h3 b (by simp)).1
            simp
            omega
        | succ j =>
          simp only [List.getD_cons_succ]
          exact h4 j (by simp at hj; omega)
    · obtain ⟨h2, h3, h4⟩ := suf_mem (n + 1) k s (by omega) h
      refine ⟨h2, fun a ha => ?_, h4⟩
      have := h3 a ha
      omega
termination_by n k => (n, k)

theorem suf_length : ∀ n k, k ≤ 20 → (suf n k).length ≤ 20 ^ n
  | 0, k => by rw [suf_zero]; simp
  | n + 1, 0 => by rw [suf_none]; simp
  | n + 1, k + 1 => fun hk => by
    have key : ∀ j, j ≤ 20 → (suf (n + 1) j).length ≤ j * 20 ^ n := by
      intro j
      induction j with
      | zero => intro _; rw [suf_none]; simp
      | succ j ih =>
        intro hj
        rw [suf_succ, List.length_append, List.length_map]
        have h1 := suf_length n (j + 1) hj
        have h2 := ih (by omega)
        rw [Nat.succ_mul]
        omega
    refine Nat.le_trans (key (k + 1) hk) ?_
    rw [Nat.pow_succ, Nat.mul_comm (20 ^ n) 20]
    exact Nat.mul_le_mul_right _ hk
termination_by n => n

def prodL : List Int → Int
  | [] => 1
  | a :: s => a * prodL s
def sumL : List Int → Int
  | [] => 0
  | a :: s => a + sumL s
theorem prodL_append (s t : List Int) : prodL (s ++ t) = prodL s * prodL t := by
  induction s with
  | nil => simp [prodL]
  | cons a s ih => simp [prodL, ih, Int.mul_assoc]
theorem sumL_append (s t : List Int) : sumL (s ++ t) = sumL s + sumL t := by
  induction s with
  | nil => simp [sumL]
  | cons a s ih => simp [sumL, ih, Int.add_assoc]
theorem prodL_pos {s : List Int} (h : ∀ a ∈ s, 1 ≤ a) : 1 ≤ prodL s := by
  induction s with
  | nil => simp [prodL]
  | cons a s ih =>
    have h1 := h a (by simp)
    have h2 := ih fun b hb => h b (by simp [hb])
    have : 0 < a * prodL s := Int.mul_pos (by omega) (by omega)
    unfold prodL; omega
theorem sumL_nonneg {s : List Int} (h : ∀ a ∈ s, 1 ≤ a) : (s.length : Int) ≤ sumL s := by
  induction s with
  | nil => simp [sumL]
  | cons a s ih =>
    have h1 := h a (by simp)
    have h2 := ih fun b hb => h b (by simp [hb])
    simp only [sumL, List.length_cons]; omega
theorem sumL_bd {s : List Int} {lo hi : Int} (h : ∀ a ∈ s, lo ≤ a ∧ a ≤ hi) : (s.length : Int) * lo ≤ sumL s ∧ sumL s ≤ (s.length : Int) * hi := by
  induction s with
  | nil => simp [sumL]
  | cons a s ih =>
    have h1 := h a (by simp)
    have h2 := ih fun b hb => h b (by simp [hb])
    have e1 : ((a :: s).length : Int) * lo = (s.length : Int) * lo + lo := by simp [Int.add_mul]
    have e2 : ((a :: s).length : Int) * hi = (s.length : Int) * hi + hi := by simp [Int.add_mul]
    rw [e1, e2]
    simp only [sumL]; omega

/-! Sets with a product. -/
/-- What the program asks of a begun set. -/
def prodP (N : Nat) (P : Int) (l : List Int) : Bool := if l.length = N then prodL l == P else P % prodL l == 0
theorem allp_prod (N : Nat) (P : Int) : ∀ (s pre : List Int), s ≠ [] → pre.length + s.length = N → allp (prodP N P) pre s = (prodL (pre ++ s) == P)
  | [], pre => fun h => absurd rfl h
  | [a], pre => fun _ hN => by
    have e : (pre ++ [a]).length = N := by simpa using hN
    simp [allp, prodP, e]
  | a :: b :: t, pre => fun _ hN => by
    have ih := allp_prod N P (b :: t) (pre ++ [a]) (by simp) (by simp at hN ⊢; omega)
    have e : ¬ (pre ++ [a]).length = N := by simp at hN ⊢; omega
    have e2 : pre ++ a :: b :: t = (pre ++ [a]) ++ (b :: t) := by simp
    unfold allp
    rw [ih, e2]
    unfold prodP
    rw [if_neg e]
    by_cases hq : prodL (pre ++ [a] ++ b :: t) = P
    · have hd : P % prodL (pre ++ [a]) = 0 := by
        rw [← hq, prodL_append, Int.mul_emod_right]
      rw [hd, beq_iff_eq.2 hq]; rfl
    · rw [beq_eq_false_iff_ne.2 hq, Bool.and_false]
/-- All sets of N children with the product P. -/
def setsP (N : Nat) (P : Int) : List (List Int) := (suf N 20).filter fun s => prodL s == P
theorem tree_prod (N : Nat) (P : Int) (h : 1 ≤ N) : tree (prodP N P) N 20 [] = setsP N P := by
  rw [tree_filter]
  unfold setsP
  simp only [List.nil_append, List.map_id']
  apply List.filter_congr
  intro s hs
  have hl := (suf_mem N 20 s (Nat.le_refl _) hs).1
  rw [allp_prod N P s [] (by intro e; subst e; simp at hl; omega) (by simpa using hl)]
  rfl
/-- What the model gathers. -/
def lookL : Nat → Nat → Int → List Int → List (List Int)
  | 0, _, left, begin => if left = 1 then [begin] else []
  | _ + 1, 0, _, _ => []
  | n + 1, k + 1, left, begin => (if left % (20 - (k : Int)) = 0 then lookL n (k + 1) (left / (20 - (k : Int))) (begin ++ [20 - (k : Int)]) else []) ++ lookL (n + 1) k left begin
termination_by n k => (n, k)
theorem lookL_zero (k : Nat) (left : Int) (begin : List Int) : lookL 0 k left begin = if left = 1 then [begin] else [] := by rw [lookL]
theorem lookL_none (n : Nat) (left : Int) (begin : List Int) : lookL (n + 1) 0 left begin = [] := by rw [lookL]
theorem lookL_succ (n k : Nat) (left : Int) (begin : List Int) : lookL (n + 1) (k + 1) left begin = (if left % (20 - (k : Int)) = 0 then lookL n (k + 1) (left / (20 - (k : Int))) (begin ++ [20 - (k : Int)]) else []) ++ lookL (n + 1) k left begin := by rw [lookL]
theorem lookL_eq : ∀ n k left begin, k ≤ 20 → lookL n k left begin = ((suf n k).filter fun s => prodL s == left).map (begin ++ ·)
  | 0, k, left, begin => fun _ => by
    rw [lookL_zero, suf_zero]
    by_cases h : left = 1
    · subst h; simp [prodL]
    · rw [if_neg h]
      have : (1 == left) = false := beq_eq_false_iff_ne.2 (fun e => h e.symm)
      simp [prodL, this]
  | n + 1, 0, left, begin => fun _ => by rw [lookL_none, suf_none]; rfl
  | n + 1, k + 1, left, begin => fun hk => by
    rw [lookL_succ, suf_succ, lookL_eq (n + 1) k left begin (by omega), lookL_eq n (k + 1) _ _ hk, List.filter_append, List.map_append]
    congr 1
    rw [List.filter_map, List.map_map]
    have ha : (0 : Int) < 20 - (k : Int) := by omega
    by_cases h : left % (20 - (k : Int)) = 0
    · rw [if_pos h]
      have e : ((fun s => prodL s == left) ∘ fun x => (20 - (k : Int)) :: x) = fun s => prodL s == left / (20 - (k : Int)) := by
        funext s
        simp only [Function.comp, prodL]
        have h1 : left = (20 - (k : Int)) * (left / (20 - (k : Int))) := by
          have := Int.mul_ediv_add_emod left (20 - (k : Int))
          omega
        rw [Bool.eq_iff_iff, beq_iff_eq, beq_iff_eq]
        constructor
        · intro h2
          rw [← h2, Int.mul_ediv_cancel_left _ (by omega)]
        · intro h2
          rw [h2, ← h1]
      rw [e]
      apply List.map_congr_left
      intro s _
      simp
    · rw [if_neg h]
      have e : ((fun s => prodL s == left) ∘ fun x => (20 - (k : Int)) :: x) = fun s => false := by
        funext s
        simp only [Function.comp, prodL]
        rw [beq_eq_false_iff_ne]
        intro h2
        apply h
        rw [← h2, Int.mul_emod_right]
      rw [e]
      simp
termination_by n k => (n, k)
theorem look_prod (N : Nat) (P : Int) : lookL N 20 P [] = setsP N P := by
  rw [lookL_eq N 20 P [] (Nat.le_refl _)]
  simp [setsP]

/-! Sets with a sum, apart. -/
def chF (ap : Int) : Int → List Int → Bool
  | _, [] => true
  | lo, a :: s => decide (lo ≤ a) && chF ap (a + ap) s
def setsS (N : Nat) (S ap : Int) : List (List Int) := (suf N 20).filter fun s => chF ap 1 s && (sumL s == S)
/-- What the program asks of a begun set. -/
def sumP (N : Nat) (S ap : Int) (l : List Int) : Bool :=
  (if 1 < l.length ∧ l.getD (l.length - 1) 0 - l.getD (l.length - 2) 0 < ap then false else inB (S - sumL l) (((N : Int) - l.length) * l.getD (l.length - 1) 0) (((N : Int) - l.length) * 20))
theorem getD_last {α : Type} (l : List α) (x d : α) : (l ++ [x]).getD ((l ++ [x]).length - 1) d = x := by
  have : (l ++ [x]).length - 1 = l.length := by simp
  rw [this]; simp
theorem getD_last2 {α : Type} (l : List α) (x y d : α) : (l ++ [x] ++ [y]).getD ((l ++ [x] ++ [y]).length - 2) d = x := by
  have : (l ++ [x] ++ [y]).length - 2 = l.length := by simp
  rw [this]; simp
theorem sumP_first (N : Nat) (S ap a : Int) : sumP N S ap [a] = inB (S - a) (((N : Int) - 1) * a) (((N : Int) - 1) * 20) := by
  simp [sumP, sumL]
theorem sumP_next (N : Nat) (S ap x y : Int) (l : List Int) : sumP N S ap (l ++ [x] ++ [y]) = (decide (x + ap ≤ y) && inB (S - sumL (l ++ [x] ++ [y])) (((N : Int) - (l ++ [x] ++ [y]).length) * y) (((N : Int) - (l ++ [x] ++ [y]).length) * 20)) := by
  unfold sumP
  rw [getD_last, getD_last2]
  have h1 : 1 < (l ++ [x] ++ [y]).length := by simp
  by_cases h : y - x < ap
  · rw [if_pos ⟨h1, h⟩, decide_eq_false (by omega), Bool.false_and]
  · rw [if_neg (fun e => h e.2), decide_eq_true (by omega), Bool.true_and]
/-- Behind a begun set that ends with x. -/
theorem allp_sum (N : Nat) (S ap : Int) : ∀ (s l : List Int) (x : Int), s ≠ [] → (l ++ [x]).length + s.length = N → (∀ a ∈ s, a ≤ 20) → (∀ j, j + 1 < s.length → s.getD j 0 ≤ s.getD (j + 1) 0) →
    allp (sumP N S ap) (l ++ [x]) s = (chF ap (x + ap) s && (sumL (l ++ [x] ++ s) == S))
  | [], l, x => fun h => absurd rfl h
  | [a], l, x => fun _ hN h20 _ => by
    have e0 : (N : Int) - ((l ++ [x] ++ [a]).length : Nat) = 0 := by simp at hN ⊢; omega
    simp only [allp, Bool.and_true, chF]
    rw [sumP_next, e0, Int.zero_mul, Int.zero_mul]
    congr 1
    rw [Bool.eq_iff_iff, inB_iff, beq_iff_eq]
    omega
  | a :: b :: t, l, x => fun _ hN h20 hs => by
    have hs' : ∀ j, j + 1 < (b :: t).length → (b :: t).getD j 0 ≤ (b :: t).getD (j + 1) 0 := fun j hj => by
      have := hs (j + 1) (by simp at hj ⊢; omega)
      simpa using this
    have ih := allp_sum N S ap (b :: t) (l ++ [x]) a (by simp) (by simp at hN ⊢; omega) (fun c hc => h20 c (by simp at hc ⊢; rcases hc with h | h <;> simp [h])) hs'
    unfold allp
    rw [ih, sumP_next]
    have e2 : l ++ [x] ++ a :: b :: t = l ++ [x] ++ [a] ++ b :: t := by simp
    have ec : chF ap (x + ap) (a :: b :: t) = (decide (x + ap ≤ a) && chF ap (a + ap) (b :: t)) := rfl
    rw [e2, ec]
    by_cases hq : sumL (l ++ [x] ++ [a] ++ b :: t) = S
    · -- the rest has a sum between
      have hge : ∀ c ∈ b :: t, a ≤ c ∧ c ≤ 20 := by
        have mono : ∀ j, j < (b :: t).length → a ≤ (b :: t).getD j 0 := by
          intro j
          induction j with
          | zero => intro _; have := hs 0 (by simp); simpa using this
          | succ j ihj => intro hj; have h1 := ihj (by omega); have h2 := hs' j hj; omega
        intro c hc
        obtain ⟨j, hj, rfl⟩ := List.getElem_of_mem hc
        refine ⟨by simpa [List.getElem?_eq_getElem hj] using mono j hj, h20 _ (by simp only [List.mem_cons] at hc ⊢; right; exact hc)⟩
      have hb := sumL_bd hge
      rw [sumL_append] at hq
      have el : (N : Int) - ((l ++ [x] ++ [a]).length : Nat) = ((b :: t).length : Int) := by simp at hN ⊢; omega
      have e3 : S - sumL (l ++ [x] ++ [a]) = sumL (b :: t) := by omega
      rw [el, e3, inB_true hb.1 hb.2, Bool.and_true, Bool.and_assoc]
    · rw [beq_eq_false_iff_ne.2 hq, Bool.and_false, Bool.and_false, Bool.and_false]
theorem chF_low (ap lo lo' : Int) (s : List Int) (h : ∀ a ∈ s, lo ≤ a ∧ lo' ≤ a) : chF ap lo s = chF ap lo' s := by
  cases s with
  | nil => rfl
  | cons a s =>
    have := h a (by simp)
    simp [chF, this.1, this.2]
theorem tree_sum (N : Nat) (S ap : Int) (h : 1 ≤ N) : tree (sumP N S ap) N 20 [] = setsS N S ap := by
  rw [tree_filter]
  unfold setsS
  simp only [List.nil_append, List.map_id']
  apply List.filter_congr
  intro s hs
  obtain ⟨hl, hb, hm⟩ := suf_mem N 20 s (Nat.le_refl _) hs
  match s, hl, hb, hm with
  | [], hl, _, _ => simp at hl; omega
  | [a], hl, hb, _ =>
    have e0 : (N : Int) - 1 = 0 := by simp at hl; omega
    have ha := hb a (by simp)
    have h0 : allp (sumP N S ap) [] [a] = sumP N S ap [a] := by simp [allp]
    rw [h0, sumP_first, e0, Int.zero_mul, Int.zero_mul]
    have h1 : chF ap 1 [a] = true := by simp [chF]; omega
    rw [h1, Bool.true_and, Bool.eq_iff_iff, inB_iff, beq_iff_eq]
    simp [sumL]; omega
  | a :: b :: t, hl, hb, hm =>
    have hs' : ∀ j, j + 1 < (b :: t).length → (b :: t).getD j 0 ≤ (b :: t).getD (j + 1) 0 := fun j hj => by
      have := hm (j + 1) (by simp at hj ⊢; omega)
      simpa using this
    have ih := allp_sum N S ap (b :: t) [] a (by simp) (by simp at hl ⊢; omega) (fun c hc => (hb c (by simp only [List.mem_cons] at hc ⊢; right; exact hc)).2) hs'
    have ha := hb a (by simp)
    have h0 : allp (sumP N S ap) [] (a :: b :: t) = (sumP N S ap [a] && allp (sumP N S ap) ([] ++ [a]) (b :: t)) := rfl
    have ec : chF ap 1 (a :: b :: t) = chF ap (a + ap) (b :: t) := by simp [chF]; omega
    rw [h0, ih, sumP_first, ec]
    simp only [List.nil_append, List.singleton_append]
    by_cases hq : sumL (a :: b :: t) = S
    · have hge : ∀ c ∈ b :: t, a ≤ c ∧ c ≤ 20 := by
        have mono : ∀ j, j < (b :: t).length → a ≤ (b :: t).getD j 0 := by
          intro j
          induction j with
          | zero => intro _; have := hm 0 (by simp); simpa using this
          | succ j ihj => intro hj; have h1 := ihj (by omega); have h2 := hs' j hj; omega
        intro c hc
        obtain ⟨j, hj, rfl⟩ := List.getElem_of_mem hc
        refine ⟨by simpa [List.getElem?_eq_getElem hj] using mono j hj, (hb _ (by simp only [List.mem_cons] at hc ⊢; right; exact hc)).2⟩
      have hbd := sumL_bd hge
      have el : (N : Int) - 1 = ((b :: t).length : Int) := by simp at hl ⊢; omega
      have e3 : S - a = sumL (b :: t) := by have : sumL (a :: b :: t) = a + sumL (b :: t) := rfl; omega
      rw [el, e3, inB_true hbd.1 hbd.2, Bool.true_and]
    · rw [beq_eq_false_iff_ne.2 hq, Bool.and_false, Bool.and_false]
/-- What the model gathers: by so many children more, the first one of at least lo. -/
def bySum (ap : Int) : Nat → Nat → Int → List Int → List (List Int)
  | 0, _, left, begin => if left = 0 then [begin] else []
  | _ + 1, 0, _, _ => []
  | n + 1, k + 1, left, begin => if 20 - (k : Int) ≤ left then bySum ap n (21 - (20 - (k : Int) + ap)).toNat (left - (20 - (k : Int))) (begin ++ [20 - (k : Int)]) ++ bySum ap (n + 1) k left begin else []
termination_by n k => (n, k)
theorem bySum_zero (ap : Int) (k : Nat) (left : Int) (begin : List Int) : bySum ap 0 k left begin = if left = 0 then [begin] else [] := by rw [bySum]
theorem bySum_none (ap : Int) (n : Nat) (left : Int) (begin : List Int) : bySum ap (n + 1) 0 left begin = [] := by rw [bySum]
theorem bySum_succ (ap : Int) (n k : Nat) (left : Int) (begin : List Int) : bySum ap (n + 1) (k + 1) left begin = if 20 - (k : Int) ≤ left then bySum ap n (21 - (20 - (k : Int) + ap)).toNat (left - (20 - (k : Int))) (begin ++ [20 - (k : Int)]) ++ bySum ap (n + 1) k left begin else [] := by rw [bySum]
theorem bySum_eq (ap : Int) (hap : 0 ≤ ap) : ∀ (n K : Nat) (lo left : Int) (begin : List Int), K ≤ 20 → 21 - (K : Int) ≤ lo → bySum ap n (21 - lo).toNat left begin = ((suf n K).filter fun s => chF ap lo s && (sumL s == left)).map (begin ++ ·)
  | 0, K, lo, left, begin => fun _ _ => by
    rw [bySum_zero, suf_zero]
    by_cases h : left = 0
    · subst h; simp [chF, sumL]
    · rw [if_neg h]
      have : (0 == left) = false := beq_eq_false_iff_ne.2 (fun e => h e.symm)
      simp [sumL, this]
  | n + 1, 0, lo, left, begin => fun _ hlo => by
    have : (21 - lo).toNat = 0 := by omega
    rw [this, bySum_none, suf_none]; rfl
  | n + 1, K + 1, lo, left, begin => fun hK hlo => by
    rw [suf_succ, List.filter_append, List.map_append]
    by_cases hal : 20 - (K : Int) < lo
    · rw [bySum_eq ap hap (n + 1) K lo left begin (by omega) (by omega)]
      have e : ((suf n (K + 1)).map ((20 - (K : Int)) :: ·)).filter (fun s => chF ap lo s && (sumL s == left)) = [] := by
        rw [List.filter_eq_nil_iff]
        intro s hs
        obtain ⟨t, _, rfl⟩ := List.mem_map.1 hs
        simp [chF]; omega
      rw [e]; simp
    · obtain rfl : lo = 20 - (K : Int) := by omega
      have ek : (21 - (20 - (K : Int))).toNat = K + 1 := by omega
      have ek2 : (21 - (20 - (K : Int) + 1)).toNat = K := by omega
      rw [ek, bySum_succ]
      have htail : ((suf (n + 1) K).filter fun s => chF ap (20 - (K : Int)) s && (sumL s == left)) = (suf (n + 1) K).filter fun s => chF ap (20 - (K : Int) + 1) s && (sumL s == left) := by
        apply List.filter_congr
        intro s hs
        have hm := (suf_mem (n + 1) K s (by omega) hs).2.1
        rw [chF_low ap (20 - (K : Int)) (20 - (K : Int) + 1) s (fun a ha => by have := hm a ha; omega)]
      have ih2 := bySum_eq ap hap (n + 1) K (20 - (K : Int) + 1) left begin (by omega) (by omega)
      rw [ek2] at ih2
      rw [htail]
      by_cases hle : 20 - (K : Int) ≤ left
      · rw [if_pos hle, ih2]
        congr 1
        rw [bySum_eq ap hap n (K + 1) (20 - (K : Int) + ap) _ _ hK (by omega), List.filter_map, List.map_map]
        have e : ((fun s => chF ap (20 - (K : Int)) s && (sumL s == left)) ∘ fun x => (20 - (K : Int)) :: x) = fun s => chF ap (20 - (K : Int) + ap) s && (sumL s == left - (20 - (K : Int))) := by
          funext s
          simp only [Function.comp, chF, sumL, Int.le_refl, decide_true, Bool.true_and]
          congr 1
          rw [Bool.eq_iff_iff, beq_iff_eq, beq_iff_eq]
          omega
        rw [e]
        apply List.map_congr_left
        intro s _
        simp
      · rw [if_neg hle]
        have big : ∀ s : List Int, s ≠ [] → (∀ a ∈ s, 20 - (K : Int) ≤ a) → (sumL s == left) = false := fun s hne hs => by
          rw [beq_eq_false_iff_ne]
          cases s with
          | nil => exact absurd rfl hne
          | cons a t =>
            have h1 := hs a (by simp)
            have h2 := sumL_nonneg (s := t) (fun b hb => by have := hs b (by simp [hb]); omega)
            simp only [sumL]; omega
        have e1 : ((suf n (K + 1)).map ((20 - (K : Int)) :: ·)).filter (fun s => chF ap (20 - (K : Int)) s && (sumL s == left)) = [] := by
          rw [List.filter_eq_nil_iff]
          intro s hs
          obtain ⟨t, ht, rfl⟩ := List.mem_map.1 hs
          have hm := (suf_mem n (K + 1) t hK ht).2.1
          have := big ((20 - (K : Int)) :: t) (by simp) (fun a ha => by
            rcases List.mem_cons.1 ha with rfl | ha
            · exact Int.le_refl _
            · have := hm a ha; omega)
          rw [this]; simp
        have e2 : ((suf (n + 1) K).filter fun s => chF ap (20 - (K : Int) + 1) s && (sumL s == left)) = [] := by
          rw [List.filter_eq_nil_iff]
          intro s hs
          obtain ⟨hl, hm, _⟩ := suf_mem (n + 1) K s (by omega) hs
          have := big s (by intro e; subst e; simp at hl) (fun a ha => by have := hm a ha; omega)
          rw [this]; simp
        rw [e1, e2]; rfl
termination_by n K => (n, K)
theorem bySum_all (N : Nat) (S ap : Int) (hap : 0 ≤ ap) : bySum ap N 20 S [] = setsS N S ap := by
  have := bySum_eq ap hap N 20 1 S [] (Nat.le_refl _) (by omega)
  rw [show (21 - (1 : Int)).toNat = 20 from rfl] at this
  rw [this]
  simp [setsS]

/-- Sets of each kind are short lists of sets. -/
theorem suf4 {N : Nat} (h : N ≤ 4) : (suf N 20).length ≤ 160000 := Nat.le_trans (suf_length N 20 (Nat.le_refl _)) (by
  match N, h with
  | 0, _ | 1, _ | 2, _ | 3, _ | 4, _ => decide)
theorem setsP_length {N : Nat} (P : Int) (h : N ≤ 4) : (setsP N P).length ≤ 160000 := Nat.le_trans (List.length_filter_le _ _) (suf4 h)
theorem setsS_length {N : Nat} (S ap : Int) (h : N ≤ 4) : (setsS N S ap).length ≤ 160000 := Nat.le_trans (List.length_filter_le _ _) (suf4 h)
/-- A list of N ages of children, in order. -/
def SetN (N : Nat) (s : List Int) : Prop := s.length = N ∧ (∀ a ∈ s, 1 ≤ a ∧ a ≤ 20) ∧ ∀ j, j + 1 < s.length → s.getD j 0 ≤ s.getD (j + 1) 0
theorem setsP_mem {N : Nat} {P : Int} {s : List Int} (h : s ∈ setsP N P) : SetN N s := by
  obtain ⟨h1, h2, h3⟩ := suf_mem N 20 s (Nat.le_refl _) (List.mem_filter.1 h).1
  exact ⟨h1, fun a ha => by have := h2 a ha; omega, h3⟩
theorem setsS_mem {N : Nat} {S ap : Int} {s : List Int} (h : s ∈ setsS N S ap) : SetN N s := by
  obtain ⟨h1, h2, h3⟩ := suf_mem N 20 s (Nat.le_refl _) (List.mem_filter.1 h).1
  exact ⟨h1, fun a ha => by have := h2 a ha; omega, h3⟩
end Go.Proofs.Ytkkjbkagkmngkab
