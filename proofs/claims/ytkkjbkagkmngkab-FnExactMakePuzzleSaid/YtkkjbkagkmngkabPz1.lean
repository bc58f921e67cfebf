/- What a clue is: both texts. -/
import Derived.Test.YtkkjbkagkmngkabCluHelp
import Derived.Test.YtkkjbkagkmngkabGood
set_option linter.unusedVariables false
set_option linter.unusedSimpArgs false
namespace Go.Proofs.Ytkkjbkagkmngkab
open Go.RowKit

/-- A clue of so many people, whatever that number is. -/
def icB (p : Int) (c : Kn) : Bool :=
  if c.1 = 0 ∨ c.1 = 2 ∨ c.1 = 4 then decide (c.2.1 = 0) && inB c.2.2 0 2000
  else if c.1 = 1 then inB c.2.1 0 (p - 1) && inB c.2.2 0 2000
  else if c.1 = 3 ∨ c.1 = 5 then inB c.2.1 0 (p - 1) && inB c.2.2 0 1
  else if c.1 = 6 then inB c.2.1 0 9 && inB c.2.2 2 9
  else false
theorem below_frz {w w' : World} {g o : Nat} {f : Bool} (hb : Below w.heap.size w w') (hlt : g < w.heap.size) (hz : w.frozen? ⟨g, o, none⟩ = f) : w'.frozen? ⟨g, o, none⟩ = f :=
  (hb.frozen (p := ⟨g, o, none⟩) hlt).trans hz
theorem inB_eq {n lo hi : Int} (b : Bool) (h : b = true ↔ lo ≤ n ∧ n ≤ hi) : inB n lo hi = b := by
  cases b with
  | true => exact inB_iff.2 (h.1 rfl)
  | false => 
    cases e : inB n lo hi with
    | false => rfl
    | true => exact absurd (h.2 (inB_iff.1 e)) (by simp)

theorem areHiddenPeople_any (n : Int) (w : World) : Calls Try.prog 35 #[.int .i64 n] w (RetSame (.bool (inB n 2 3)) w) := by
  go_enter Try.func35, Try.ntmps35
  go_wp2_with (go_at_call 25; refine (isWithin_any _ _ _ _).mono ?_; rintro e w' ⟨rfl, rfl⟩)
  go_ret
  exact ⟨rfl, rfl⟩
theorem pzPeople_any (n : Int) (w : World) : Calls Try.prog 31 #[.int .i64 n] w (RetSame (.bool (inB n 2 3)) w) := by
  go_enter Try.func31, Try.ntmps31
  go_wp2_with (go_at_call 22; refine (l1In_any _ _ _ _).mono ?_; rintro e w' ⟨rfl, rfl⟩)
  go_ret
  exact ⟨rfl, rfl⟩

set_option maxHeartbeats 1000000 in
theorem isClue_0 (p a b : Int) (w : World) : Calls Try.prog 20 #[.int .i64 p, .agg #[.int .i64 0, .int .i64 a, .int .i64 b]] w (Ret (.bool (icB p (0, a, b))) w) := by
  have HR := Lib.hid (show icB p (0, a, b) = (decide (a = 0) && inB b 0 2000) from rfl)
  rw [HR.out]
  clear HR
  by_cases h1 : 0 ≤ a
  · by_cases h2 : a < p
    · by_cases h3 : a = 0
      · rw [show decide (a = 0) = true from decide_eq_true h3, Bool.true_and]
        subst h3
        go_enter Try.func20, Try.ntmps20
        go_wp2_with (go_at_call 25; refine (isWithin_any _ _ _ _).mono ?_; rintro e w' ⟨rfl, rfl⟩)
        go_ret
        exact ⟨rfl, (Below.refl w.heap.size w).alloc (Nat.le_refl _) _⟩
      · rw [show decide (a = 0) = false from decide_eq_false h3, Bool.false_and]
        go_enter Try.func20, Try.ntmps20
        go_wp2_with (go_at_call 25; refine (isWithin_any _ _ _ _).mono ?_; rintro e w' ⟨rfl, rfl⟩)
        go_ret
        exact ⟨rfl, (Below.refl w.heap.size w).alloc (Nat.le_refl _) _⟩
    · by_cases h3 : a = 0
      · rw [show decide (a = 0) = true from decide_eq_true h3, Bool.true_and]
        subst h3
        go_enter Try.func20, Try.ntmps20
        go_wp2_with (go_at_call 25; refine (isWithin_any _ _ _ _).mono ?_; rintro e w' ⟨rfl, rfl⟩)
        go_ret
        exact ⟨rfl, (Below.refl w.heap.size w).alloc (Nat.le_refl _) _⟩
      · rw [show decide (a = 0) = false from decide_eq_false h3, Bool.false_and]
        go_enter Try.func20, Try.ntmps20
        go_wp2_with (go_at_call 25; refine (isWithin_any _ _ _ _).mono ?_; rintro e w' ⟨rfl, rfl⟩)
        go_ret
        exact ⟨rfl, (Below.refl w.heap.size w).alloc (Nat.le_refl _) _⟩
  · have h3 : ¬ a = 0 := by omega
    rw [show decide (a = 0) = false from decide_eq_false h3, Bool.false_and]
    go_enter Try.func20, Try.ntmps20
    go_wp2_with (go_at_call 25; refine (isWithin_any _ _ _ _).mono ?_; rintro e w' ⟨rfl, rfl⟩)
    go_ret
    exact ⟨rfl, (Below.refl w.heap.size w).alloc (Nat.le_refl _) _⟩
set_option maxHeartbeats 1000000 in
theorem isClue_1 (p a b : Int) (w : World) : Calls Try.prog 20 #[.int .i64 p, .agg #[.int .i64 1, .int .i64 a, .int .i64 b]] w (Ret (.bool (icB p (1, a, b))) w) := by
  have HR := Lib.hid (show icB p (1, a, b) = (inB a 0 (p - 1) && inB b 0 2000) from rfl)
  rw [HR.out]
  clear HR
  by_cases h1 : 0 ≤ a
  · by_cases h2 : a < p
    · rw [inB_eq (n := a) (lo := 0) (hi := p - 1) true (by simp; omega)]
      simp only [Bool.true_and, Bool.false_and]
      go_enter Try.func20, Try.ntmps20
      go_wp2_with (go_at_call 25; refine (isWithin_any _ _ _ _).mono ?_; rintro e w' ⟨rfl, rfl⟩)
      go_ret
      exact ⟨rfl, (Below.refl w.heap.size w).alloc (Nat.le_refl _) _⟩
    · rw [inB_eq (n := a) (lo := 0) (hi := p - 1) false (by simp; omega)]
      simp only [Bool.true_and, Bool.false_and]
      go_enter Try.func20, Try.ntmps20
      go_wp2_with (go_at_call 25; refine (isWithin_any _ _ _ _).mono ?_; rintro e w' ⟨rfl, rfl⟩)
      go_ret
      exact ⟨rfl, (Below.refl w.heap.size w).alloc (Nat.le_refl _) _⟩
  · rw [inB_eq (n := a) (lo := 0) (hi := p - 1) false (by simp; omega)]
    simp only [Bool.true_and, Bool.false_and]
    go_enter Try.func20, Try.ntmps20
    go_wp2_with (go_at_call 25; refine (isWithin_any _ _ _ _).mono ?_; rintro e w' ⟨rfl, rfl⟩)
    go_ret
    exact ⟨rfl, (Below.refl w.heap.size w).alloc (Nat.le_refl _) _⟩
set_option maxHeartbeats 1000000 in
theorem isClue_2 (p a b : Int) (w : World) : Calls Try.prog 20 #[.int .i64 p, .agg #[.int .i64 2, .int .i64 a, .int .i64 b]] w (Ret (.bool (icB p (2, a, b))) w) := by
  have HR := Lib.hid (show icB p (2, a, b) = (decide (a = 0) && inB b 0 2000) from rfl)
  rw [HR.out]
  clear HR
  by_cases h1 : 0 ≤ a
  · by_cases h2 : a < p
    · by_cases h3 : a = 0
      · rw [show decide (a = 0) = true from decide_eq_true h3, Bool.true_and]
        subst h3
        go_enter Try.func20, Try.ntmps20
        go_wp2_with (go_at_call 25; refine (isWithin_any _ _ _ _).mono ?_; rintro e w' ⟨rfl, rfl⟩)
        go_ret
        exact ⟨rfl, (Below.refl w.heap.size w).alloc (Nat.le_refl _) _⟩
      · rw [show decide (a = 0) = false from decide_eq_false h3, Bool.false_and]
        go_enter Try.func20, Try.ntmps20
        go_wp2_with (go_at_call 25; refine (isWithin_any _ _ _ _).mono ?_; rintro e w' ⟨rfl, rfl⟩)
        go_ret
        exact ⟨rfl, (Below.refl w.heap.size w).alloc (Nat.le_refl _) _⟩
    · by_cases h3 : a = 0
      · rw [show decide (a = 0) = true from decide_eq_true h3, Bool.true_and]
        subst h3
        go_enter Try.func20, Try.ntmps20
        go_wp2_with (go_at_call 25; refine (isWithin_any _ _ _ _).mono ?_; rintro e w' ⟨rfl, rfl⟩)
        go_ret
        exact ⟨rfl, (Below.refl w.heap.size w).alloc (Nat.le_refl _) _⟩
      · rw [show decide (a = 0) = false from decide_eq_false h3, Bool.false_and]
        go_enter Try.func20, Try.ntmps20
        go_wp2_with (go_at_call 25; refine (isWithin_any _ _ _ _).mono ?_; rintro e w' ⟨rfl, rfl⟩)
        go_ret
        exact ⟨rfl, (Below.refl w.heap.size w).alloc (Nat.le_refl _) _⟩
  · have h3 : ¬ a = 0 := by omega
    rw [show decide (a = 0) = false from decide_eq_false h3, Bool.false_and]
    go_enter Try.func20, Try.ntmps20
    go_wp2_with (go_at_call 25; refine (isWithin_any _ _ _ _).mono ?_; rintro e w' ⟨rfl, rfl⟩)
    go_ret
    exact ⟨rfl, (Below.refl w.heap.size w).alloc (Nat.le_refl _) _⟩
set_option maxHeartbeats 1000000 in
theorem isClue_3 (p a b : Int) (w : World) : Calls Try.prog 20 #[.int .i64 p, .agg #[.int .i64 3, .int .i64 a, .int .i64 b]] w (Ret (.bool (icB p (3, a, b))) w) := by
  have HR := Lib.hid (show icB p (3, a, b) = (inB a 0 (p - 1) && inB b 0 1) from rfl)
  rw [HR.out]
  clear HR
  by_cases h1 : 0 ≤ a
  · by_cases h2 : a < p
    · rw [inB_eq (n := a) (lo := 0) (hi := p - 1) true (by simp; omega)]
      simp only [Bool.true_and, Bool.false_and]
      go_enter Try.func20, Try.ntmps20
      go_wp2_with (go_at_call 25; refine (isWithin_any _ _ _ _).mono ?_; rintro e w' ⟨rfl, rfl⟩)
      go_ret
      exact ⟨rfl, (Below.refl w.heap.size w).alloc (Nat.le_refl _) _⟩
    · rw [inB_eq (n := a) (lo := 0) (hi := p - 1) false (by simp; omega)]
      simp only [Bool.true_and, Bool.false_and]
      go_enter Try.func20, Try.ntmps20
      go_wp2_with (go_at_call 25; refine (isWithin_any _ _ _ _).mono ?_; rintro e w' ⟨rfl, rfl⟩)
      go_ret
      exact ⟨rfl, (Below.refl w.heap.size w).alloc (Nat.le_refl _) _⟩
  · rw [inB_eq (n := a) (lo := 0) (hi := p - 1) false (by simp; omega)]
    simp only [Bool.true_and, Bool.false_and]
    go_enter Try.func20, Try.ntmps20
    go_wp2_with (go_at_call 25; refine (isWithin_any _ _ _ _).mono ?_; rintro e w' ⟨rfl, rfl⟩)
    go_ret
    exact ⟨rfl, (Below.refl w.heap.size w).alloc (Nat.le_refl _) _⟩
set_option maxHeartbeats 1000000 in
theorem isClue_4 (p a b : Int) (w : World) : Calls Try.prog 20 #[.int .i64 p, .agg #[.int .i64 4, .int .i64 a, .int .i64 b]] w (Ret (.bool (icB p (4, a, b))) w) := by
  have HR := Lib.hid (show icB p (4, a, b) = (decide (a = 0) && inB b 0 2000) from rfl)
  rw [HR.out]
  clear HR
  by_cases h1 : 0 ≤ a
  · by_cases h2 : a < p
    · by_cases h3 : a = 0
      · rw [show decide (a = 0) = true from decide_eq_true h3, Bool.true_and]
        subst h3
        go_enter Try.func20, Try.ntmps20
        go_wp2_with (go_at_call 25; refine (isWithin_any _ _ _ _).mono ?_; rintro e w' ⟨rfl, rfl⟩)
        go_ret
        exact ⟨rfl, (Below.refl w.heap.size w).alloc (Nat.le_refl _) _⟩
      · rw [show decide (a = 0) = false from decide_eq_false h3, Bool.false_and]
        go_enter Try.func20, Try.ntmps20
        go_wp2_with (go_at_call 25; refine (isWithin_any _ _ _ _).mono ?_; rintro e w' ⟨rfl, rfl⟩)
        go_ret
        exact ⟨rfl, (Below.refl w.heap.size w).alloc (Nat.le_refl _) _⟩
    · by_cases h3 : a = 0
      · rw [show decide (a = 0) = true from decide_eq_true h3, Bool.true_and]
        subst h3
        go_enter Try.func20, Try.ntmps20
        go_wp2_with (go_at_call 25; refine (isWithin_any _ _ _ _).mono ?_; rintro e w' ⟨rfl, rfl⟩)
        go_ret
        exact ⟨rfl, (Below.refl w.heap.size w).alloc (Nat.le_refl _) _⟩
      · rw [show decide (a = 0) = false from decide_eq_false h3, Bool.false_and]
        go_enter Try.func20, Try.ntmps20
        go_wp2_with (go_at_call 25; refine (isWithin_any _ _ _ _).mono ?_; rintro e w' ⟨rfl, rfl⟩)
        go_ret
        exact ⟨rfl, (Below.refl w.heap.size w).alloc (Nat.le_refl _) _⟩
  · have h3 : ¬ a = 0 := by omega
    rw [show decide (a = 0) = false from decide_eq_false h3, Bool.false_and]
    go_enter Try.func20, Try.ntmps20
    go_wp2_with (go_at_call 25; refine (isWithin_any _ _ _ _).mono ?_; rintro e w' ⟨rfl, rfl⟩)
    go_ret
    exact ⟨rfl, (Below.refl w.heap.size w).alloc (Nat.le_refl _) _⟩
set_option maxHeartbeats 1000000 in
theorem isClue_5 (p a b : Int) (w : World) : Calls Try.prog 20 #[.int .i64 p, .agg #[.int .i64 5, .int .i64 a, .int .i64 b]] w (Ret (.bool (icB p (5, a, b))) w) := by
  have HR := Lib.hid (show icB p (5, a, b) = (inB a 0 (p - 1) && inB b 0 1) from rfl)
  rw [HR.out]
  clear HR
  by_cases h1 : 0 ≤ a
  · by_cases h2 : a < p
    · rw [inB_eq (n := a) (lo := 0) (hi := p - 1) true (by simp; omega)]
      simp only [Bool.true_and, Bool.false_and]
      go_enter Try.func20, Try.ntmps20
      go_wp2_with (go_at_call 25; refine (isWithin_any _ _ _ _).mono ?_; rintro e w' ⟨rfl, rfl⟩)
      go_ret
      exact ⟨rfl, (Below.refl w.heap.size w).alloc (Nat.le_refl _) _⟩
    · rw [inB_eq (n := a) (lo := 0) (hi := p - 1) false (by simp; omega)]
      simp only [Bool.true_and, Bool.false_and]
      go_enter Try.func20, Try.ntmps20
      go_wp2_with (go_at_call 25; refine (isWithin_any _ _ _ _).mono ?_; rintro e w' ⟨rfl, rfl⟩)
      go_ret
      exact ⟨rfl, (Below.refl w.heap.size w).alloc (Nat.le_refl _) _⟩
  · rw [inB_eq (n := a) (lo := 0) (hi := p - 1) false (by simp; omega)]
    simp only [Bool.true_and, Bool.false_and]
    go_enter Try.func20, Try.ntmps20
    go_wp2_with (go_at_call 25; refine (isWithin_any _ _ _ _).mono ?_; rintro e w' ⟨rfl, rfl⟩)
    go_ret
    exact ⟨rfl, (Below.refl w.heap.size w).alloc (Nat.le_refl _) _⟩
set_option maxHeartbeats 1000000 in
theorem isClue_6 (p a b : Int) (w : World) : Calls Try.prog 20 #[.int .i64 p, .agg #[.int .i64 6, .int .i64 a, .int .i64 b]] w (Ret (.bool (icB p (6, a, b))) w) := by
  have HR := Lib.hid (show icB p (6, a, b) = (inB a 0 9 && inB b 2 9) from rfl)
  rw [HR.out]
  clear HR
  by_cases h1 : 0 ≤ a
  · by_cases h2 : a < p
    · cases h3 : inB a 0 9 with
      | true =>
        simp only [Bool.true_and, Bool.false_and]
        go_enter Try.func20, Try.ntmps20
        go_wp2_with (go_at_call 25; refine (isWithin_any _ _ _ _).mono ?_; rintro e w' ⟨rfl, rfl⟩)
        go_ret
        exact ⟨rfl, (Below.refl w.heap.size w).alloc (Nat.le_refl _) _⟩
      | false =>
        simp only [Bool.true_and, Bool.false_and]
        go_enter Try.func20, Try.ntmps20
        go_wp2_with (go_at_call 25; refine (isWithin_any _ _ _ _).mono ?_; rintro e w' ⟨rfl, rfl⟩)
        go_ret
        exact ⟨rfl, (Below.refl w.heap.size w).alloc (Nat.le_refl _) _⟩
    · cases h3 : inB a 0 9 with
      | true =>
        simp only [Bool.true_and, Bool.false_and]
        go_enter Try.func20, Try.ntmps20
        go_wp2_with (go_at_call 25; refine (isWithin_any _ _ _ _).mono ?_; rintro e w' ⟨rfl, rfl⟩)
        go_ret
        exact ⟨rfl, (Below.refl w.heap.size w).alloc (Nat.le_refl _) _⟩
      | false =>
        simp only [Bool.true_and, Bool.false_and]
        go_enter Try.func20, Try.ntmps20
        go_wp2_with (go_at_call 25; refine (isWithin_any _ _ _ _).mono ?_; rintro e w' ⟨rfl, rfl⟩)
        go_ret
        exact ⟨rfl, (Below.refl w.heap.size w).alloc (Nat.le_refl _) _⟩
  · cases h3 : inB a 0 9 with
    | true =>
      simp only [Bool.true_and, Bool.false_and]
      go_enter Try.func20, Try.ntmps20
      go_wp2_with (go_at_call 25; refine (isWithin_any _ _ _ _).mono ?_; rintro e w' ⟨rfl, rfl⟩)
      go_ret
      exact ⟨rfl, (Below.refl w.heap.size w).alloc (Nat.le_refl _) _⟩
    | false =>
      simp only [Bool.true_and, Bool.false_and]
      go_enter Try.func20, Try.ntmps20
      go_wp2_with (go_at_call 25; refine (isWithin_any _ _ _ _).mono ?_; rintro e w' ⟨rfl, rfl⟩)
      go_ret
      exact ⟨rfl, (Below.refl w.heap.size w).alloc (Nat.le_refl _) _⟩
set_option maxHeartbeats 1000000 in
theorem isClue_k (k : Int) (k0 : ¬ k = 0) (k1 : ¬ k = 1) (k2 : ¬ k = 2) (k3 : ¬ k = 3) (k4 : ¬ k = 4) (k5 : ¬ k = 5) (k6 : ¬ k = 6) (p a b : Int) (w : World) : Calls Try.prog 20 #[.int .i64 p, .agg #[.int .i64 k, .int .i64 a, .int .i64 b]] w (Ret (.bool (icB p (k, a, b))) w) := by
  have HR := Lib.hid (show icB p (k, a, b) = false by unfold icB; simp only; rw [if_neg (by omega), if_neg k1, if_neg (by omega), if_neg k6])
  rw [HR.out]
  clear HR
  by_cases h1 : 0 ≤ a
  · by_cases h2 : a < p
    · go_enter Try.func20, Try.ntmps20
      go_wp2_with (go_at_call 25; refine (isWithin_any _ _ _ _).mono ?_; rintro e w' ⟨rfl, rfl⟩)
      go_ret
      exact ⟨rfl, (Below.refl w.heap.size w).alloc (Nat.le_refl _) _⟩
    · go_enter Try.func20, Try.ntmps20
      go_wp2_with (go_at_call 25; refine (isWithin_any _ _ _ _).mono ?_; rintro e w' ⟨rfl, rfl⟩)
      go_ret
      exact ⟨rfl, (Below.refl w.heap.size w).alloc (Nat.le_refl _) _⟩
  · go_enter Try.func20, Try.ntmps20
    go_wp2_with (go_at_call 25; refine (isWithin_any _ _ _ _).mono ?_; rintro e w' ⟨rfl, rfl⟩)
    go_ret
    exact ⟨rfl, (Below.refl w.heap.size w).alloc (Nat.le_refl _) _⟩
theorem isClue_any (p : Int) (c : Kn) (w : World) : Calls Try.prog 20 #[.int .i64 p, .agg #[.int .i64 c.1, .int .i64 c.2.1, .int .i64 c.2.2]] w (Ret (.bool (icB p c)) w) := by
  obtain ⟨k, a, b⟩ := c
  simp only
  by_cases k0 : k = 0
  · subst k0; exact isClue_0 p a b w
  by_cases k1 : k = 1
  · subst k1; exact isClue_1 p a b w
  by_cases k2 : k = 2
  · subst k2; exact isClue_2 p a b w
  by_cases k3 : k = 3
  · subst k3; exact isClue_3 p a b w
  by_cases k4 : k = 4
  · subst k4; exact isClue_4 p a b w
  by_cases k5 : k = 5
  · subst k5; exact isClue_5 p a b w
  by_cases k6 : k = 6
  · subst k6; exact isClue_6 p a b w
  exact isClue_k k k0 k1 k2 k3 k4 k5 k6 p a b w

set_option maxHeartbeats 1000000 in
theorem pzClue_0 (p a b : Int) (w : World) (hp : 0 ≤ p ∧ p ≤ 1000) : Calls Try.prog 17 #[.int .i64 p, .agg #[.int .i64 0, .int .i64 a, .int .i64 b]] w (Ret (.bool (icB p (0, a, b))) w) := by
  cases hb : inB b 0 2000 with
  | false =>
    have HR := Lib.hid (show icB p (0, a, b) = false by show (decide (a = 0) && inB b 0 2000) = false; rw [hb, Bool.and_false])
    rw [HR.out]
    clear HR
    go_enter Try.func17, Try.ntmps17
    go_wp2_with (go_at_call 22; refine (l1In_any _ _ _ _).mono ?_; rintro e w' ⟨rfl, rfl⟩)
    go_ret
    exact ⟨rfl, (Below.refl w.heap.size w).alloc (Nat.le_refl _) _⟩
  | true =>
    have HR := Lib.hid (show icB p (0, a, b) = decide (a = 0) by show (decide (a = 0) && inB b 0 2000) = _; rw [hb, Bool.and_true])
    rw [HR.out]
    clear HR
    by_cases h3 : a = 0
    · rw [show decide (a = 0) = true from decide_eq_true h3]
      subst h3
      go_enter Try.func17, Try.ntmps17
      go_wp2_with (go_at_call 22; refine (l1In_any _ _ _ _).mono ?_; rintro e w' ⟨rfl, rfl⟩)
      go_ret
      exact ⟨rfl, (Below.refl w.heap.size w).alloc (Nat.le_refl _) _⟩
    · rw [show decide (a = 0) = false from decide_eq_false h3]
      go_enter Try.func17, Try.ntmps17
      go_wp2_with (go_at_call 22; refine (l1In_any _ _ _ _).mono ?_; rintro e w' ⟨rfl, rfl⟩)
      go_ret
      exact ⟨congrArg (fun x => Ending.returned (Value.bool x)) (show (a == 0) = false from beq_eq_false_iff_ne.2 h3), (Below.refl w.heap.size w).alloc (Nat.le_refl _) _⟩
set_option maxHeartbeats 1000000 in
theorem pzClue_1 (p a b : Int) (w : World) (hp : 0 ≤ p ∧ p ≤ 1000) : Calls Try.prog 17 #[.int .i64 p, .agg #[.int .i64 1, .int .i64 a, .int .i64 b]] w (Ret (.bool (icB p (1, a, b))) w) := by
  cases hb : inB b 0 2000 with
  | false =>
    have HR := Lib.hid (show icB p (1, a, b) = false by show (inB a 0 (p - 1) && inB b 0 2000) = false; rw [hb, Bool.and_false])
    rw [HR.out]
    clear HR
    go_enter Try.func17, Try.ntmps17
    go_wp2_with (go_at_call 22; refine (l1In_any _ _ _ _).mono ?_; rintro e w' ⟨rfl, rfl⟩)
    go_ret
    exact ⟨rfl, (Below.refl w.heap.size w).alloc (Nat.le_refl _) _⟩
  | true =>
    have HR := Lib.hid (show icB p (1, a, b) = inB a 0 (p - 1) by show (inB a 0 (p - 1) && inB b 0 2000) = _; rw [hb, Bool.and_true])
    rw [HR.out]
    clear HR
    have hw : IntKind.i64.wrap (p - 1) = p - 1 := IntWalk.i64_in _ (by omega)
    go_enter Try.func17, Try.ntmps17
    go_wp2_with (go_at_call 22; refine (l1In_any _ _ _ _).mono ?_; rintro e w' ⟨rfl, rfl⟩)
    go_ret
    exact ⟨rfl, (Below.refl w.heap.size w).alloc (Nat.le_refl _) _⟩
set_option maxHeartbeats 1000000 in
theorem pzClue_2 (p a b : Int) (w : World) (hp : 0 ≤ p ∧ p ≤ 1000) : Calls Try.prog 17 #[.int .i64 p, .agg #[.int .i64 2, .int .i64 a, .int .i64 b]] w (Ret (.bool (icB p (2, a, b))) w) := by
  cases hb : inB b 0 2000 with
  | false =>
    have HR := Lib.hid (show icB p (2, a, b) = false by show (decide (a = 0) && inB b 0 2000) = false; rw [hb, Bool.and_false])
    rw [HR.out]
    clear HR
    go_enter Try.func17, Try.ntmps17
    go_wp2_with (go_at_call 22; refine (l1In_any _ _ _ _).mono ?_; rintro e w' ⟨rfl, rfl⟩)
    go_ret
    exact ⟨rfl, (Below.refl w.heap.size w).alloc (Nat.le_refl _) _⟩
  | true =>
    have HR := Lib.hid (show icB p (2, a, b) = decide (a = 0) by show (decide (a = 0) && inB b 0 2000) = _; rw [hb, Bool.and_true])
    rw [HR.out]
    clear HR
    by_cases h3 : a = 0
    · rw [show decide (a = 0) = true from decide_eq_true h3]
      subst h3
      go_enter Try.func17, Try.ntmps17
      go_wp2_with (go_at_call 22; refine (l1In_any _ _ _ _).mono ?_; rintro e w' ⟨rfl, rfl⟩)
      go_ret
      exact ⟨rfl, (Below.refl w.heap.size w).alloc (Nat.le_refl _) _⟩
    · rw [show decide (a = 0) = false from decide_eq_false h3]
      go_enter Try.func17, Try.ntmps17
      go_wp2_with (go_at_call 22; refine (l1In_any _ _ _ _).mono ?_; rintro e w' ⟨rfl, rfl⟩)
      go_ret
      exact ⟨congrArg (fun x => Ending.returned (Value.bool x)) (show (a == 0) = false from beq_eq_false_iff_ne.2 h3), (Below.refl w.heap.size w).alloc (Nat.le_refl _) _⟩
set_option maxHeartbeats 1000000 in
theorem pzClue_3 (p a b : Int) (w : World) (hp : 0 ≤ p ∧ p ≤ 1000) : Calls Try.prog 17 #[.int .i64 p, .agg #[.int .i64 3, .int .i64 a, .int .i64 b]] w (Ret (.bool (icB p (3, a, b))) w) := by
  cases hb : inB b 0 2000 with
  | false =>
    have HR := Lib.hid (show icB p (3, a, b) = false by show (inB a 0 (p - 1) && inB b 0 1) = false; rw [inB_eq (n := b) false (by have := inB_not.1 hb; simp; omega), Bool.and_false])
    rw [HR.out]
    clear HR
    go_enter Try.func17, Try.ntmps17
    go_wp2_with (go_at_call 22; refine (l1In_any _ _ _ _).mono ?_; rintro e w' ⟨rfl, rfl⟩)
    go_ret
    exact ⟨rfl, (Below.refl w.heap.size w).alloc (Nat.le_refl _) _⟩
  | true =>
    have HR := Lib.hid (show icB p (3, a, b) = (inB a 0 (p - 1) && inB b 0 1) from rfl)
    rw [HR.out]
    clear HR
    have hw : IntKind.i64.wrap (p - 1) = p - 1 := IntWalk.i64_in _ (by omega)
    have hb2 := inB_iff.1 hb
    by_cases h4 : b < 2
    · rw [inB_eq (n := b) (lo := 0) (hi := 1) true (by simp; omega), Bool.and_true]
      clear hb2
      cases h3 : inB a 0 (p - 1) with
      | true =>
        go_enter Try.func17, Try.ntmps17
        go_wp2_with (go_at_call 22; refine (l1In_any _ _ _ _).mono ?_; rintro e w' ⟨rfl, rfl⟩)
        go_ret
        exact ⟨rfl, (Below.refl w.heap.size w).alloc (Nat.le_refl _) _⟩
      | false =>
        go_enter Try.func17, Try.ntmps17
        go_wp2_with (go_at_call 22; refine (l1In_any _ _ _ _).mono ?_; rintro e w' ⟨rfl, rfl⟩)
        go_ret
        exact ⟨rfl, (Below.refl w.heap.size w).alloc (Nat.le_refl _) _⟩
    · rw [inB_eq (n := b) (lo := 0) (hi := 1) false (by simp; omega), Bool.and_false]
      clear hb2
      cases h3 : inB a 0 (p - 1) with
      | true =>
        go_enter Try.func17, Try.ntmps17
        go_wp2_with (go_at_call 22; refine (l1In_any _ _ _ _).mono ?_; rintro e w' ⟨rfl, rfl⟩)
        go_ret
        exact ⟨congrArg (fun x => Ending.returned (Value.bool x)) (show decide (b < 2) = false from decide_eq_false (by omega)), (Below.refl w.heap.size w).alloc (Nat.le_refl _) _⟩
      | false =>
        go_enter Try.func17, Try.ntmps17
        go_wp2_with (go_at_call 22; refine (l1In_any _ _ _ _).mono ?_; rintro e w' ⟨rfl, rfl⟩)
        go_ret
        exact ⟨rfl, (Below.refl w.heap.size w).alloc (Nat.le_refl _) _⟩
set_option maxHeartbeats 1000000 in
theorem pzClue_4 (p a b : Int) (w : World) (hp : 0 ≤ p ∧ p ≤ 1000) : Calls Try.prog 17 #[.int .i64 p, .agg #[.int .i64 4, .int .i64 a, .int .i64 b]] w (Ret (.bool (icB p (4, a, b))) w) := by
  cases hb : inB b 0 2000 with
  | false =>
    have HR := Lib.hid (show icB p (4, a, b) = false by show (decide (a = 0) && inB b 0 2000) = false; rw [hb, Bool.and_false])
    rw [HR.out]
    clear HR
    go_enter Try.func17, Try.ntmps17
    go_wp2_with (go_at_call 22; refine (l1In_any _ _ _ _).mono ?_; rintro e w' ⟨rfl, rfl⟩)
    go_ret
    exact ⟨rfl, (Below.refl w.heap.size w).alloc (Nat.le_refl _) _⟩
  | true =>
    have HR := Lib.hid (show icB p (4, a, b) = decide (a = 0) by show (decide (a = 0) && inB b 0 2000) = _; rw [hb, Bool.and_true])
    rw [HR.out]
    clear HR
    by_cases h3 : a = 0
    · rw [show decide (a = 0) = true from decide_eq_true h3]
      subst h3
      go_enter Try.func17, Try.ntmps17
      go_wp2_with (go_at_call 22; refine (l1In_any _ _ _ _).mono ?_; rintro e w' ⟨rfl, rfl⟩)
      go_ret
      exact ⟨rfl, (Below.refl w.heap.size w).alloc (Nat.le_refl _) _⟩
    · rw [show decide (a = 0) = false from decide_eq_false h3]
      go_enter Try.func17, Try.ntmps17
      go_wp2_with (go_at_call 22; refine (l1In_any _ _ _ _).mono ?_; rintro e w' ⟨rfl, rfl⟩)
      go_ret
      exact ⟨congrArg (fun x => Ending.returned (Value.bool x)) (show (a == 0) = false from beq_eq_false_iff_ne.2 h3), (Below.refl w.heap.size w).alloc (Nat.le_refl _) _⟩
set_option maxHeartbeats 1000000 in
theorem pzClue_5 (p a b : Int) (w : World) (hp : 0 ≤ p ∧ p ≤ 1000) : Calls Try.prog 17 #[.int .i64 p, .agg #[.int .i64 5, .int .i64 a, .int .i64 b]] w (Ret (.bool (icB p (5, a, b))) w) := by
  cases hb : inB b 0 2000 with
  | false =>
    have HR := Lib.hid (show icB p (5, a, b) = false by show (inB a 0 (p - 1) && inB b 0 1) = false; rw [inB_eq (n := b) false (by have := inB_not.1 hb; simp; omega), Bool.and_false])
    rw [HR.out]
    clear HR
    go_enter Try.func17, Try.ntmps17
    go_wp2_with (go_at_call 22; refine (l1In_any _ _ _ _).mono ?_; rintro e w' ⟨rfl, rfl⟩)
    go_ret
    exact ⟨rfl, (Below.refl w.heap.size w).alloc (Nat.le_refl _) _⟩
  | true =>
    have HR := Lib.hid (show icB p (5, a, b) = (inB a 0 (p - 1) && inB b 0 1) from rfl)
    rw [HR.out]
    clear HR
    have hw : IntKind.i64.wrap (p - 1) = p - 1 := IntWalk.i64_in _ (by omega)
    have hb2 := inB_iff.1 hb
    by_cases h4 : b < 2
    · rw [inB_eq (n := b) (lo := 0) (hi := 1) true (by simp; omega), Bool.and_true]
      clear hb2
      cases h3 : inB a 0 (p - 1) with
      | true =>
        go_enter Try.func17, Try.ntmps17
        go_wp2_with (go_at_call 22; refine (l1In_any _ _ _ _).mono ?_; rintro e w' ⟨rfl, rfl⟩)
        go_ret
        exact ⟨rfl, (Below.refl w.heap.size w).alloc (Nat.le_refl _) _⟩
      | false =>
        go_enter Try.func17, Try.ntmps17
        go_wp2_with (go_at_call 22; refine (l1In_any _ _ _ _).mono ?_; rintro e w' ⟨rfl, rfl⟩)
        go_ret
        exact ⟨rfl, (Below.refl w.heap.size w).alloc (Nat.le_refl _) _⟩
    · rw [inB_eq (n := b) (lo := 0) (hi := 1) false (by simp; omega), Bool.and_false]
      clear hb2
      cases h3 : inB a 0 (p - 1) with
      | true =>
        go_enter Try.func17, Try.ntmps17
        go_wp2_with (go_at_call 22; refine (l1In_any _ _ _ _).mono ?_; rintro e w' ⟨rfl, rfl⟩)
        go_ret
        exact ⟨congrArg (fun x => Ending.returned (Value.bool x)) (show decide (b < 2) = false from decide_eq_false (by omega)), (Below.refl w.heap.size w).alloc (Nat.le_refl _) _⟩
      | false =>
        go_enter Try.func17, Try.ntmps17
        go_wp2_with (go_at_call 22; refine (l1In_any _ _ _ _).mono ?_; rintro e w' ⟨rfl, rfl⟩)
        go_ret
        exact ⟨rfl, (Below.refl w.heap.size w).alloc (Nat.le_refl _) _⟩
set_option maxHeartbeats 1000000 in
theorem pzClue_6 (p a b : Int) (w : World) (hp : 0 ≤ p ∧ p ≤ 1000) : Calls Try.prog 17 #[.int .i64 p, .agg #[.int .i64 6, .int .i64 a, .int .i64 b]] w (Ret (.bool (icB p (6, a, b))) w) := by
  cases hb : inB b 0 2000 with
  | false =>
    have HR := Lib.hid (show icB p (6, a, b) = false by show (inB a 0 9 && inB b 2 9) = false; rw [inB_eq (n := b) false (by have := inB_not.1 hb; simp; omega), Bool.and_false])
    rw [HR.out]
    clear HR
    go_enter Try.func17, Try.ntmps17
    go_wp2_with (go_at_call 22; refine (l1In_any _ _ _ _).mono ?_; rintro e w' ⟨rfl, rfl⟩)
    go_ret
    exact ⟨rfl, (Below.refl w.heap.size w).alloc (Nat.le_refl _) _⟩
  | true =>
    have HR := Lib.hid (show icB p (6, a, b) = (inB a 0 9 && inB b 2 9) from rfl)
    rw [HR.out]
    clear HR
    cases h3 : inB a 0 9 with
    | true =>
      simp only [Bool.true_and]
      go_enter Try.func17, Try.ntmps17
      go_wp2_with (go_at_call 22; refine (l1In_any _ _ _ _).mono ?_; rintro e w' ⟨rfl, rfl⟩)
      go_ret
      exact ⟨rfl, (Below.refl w.heap.size w).alloc (Nat.le_refl _) _⟩
    | false =>
      simp only [Bool.false_and]
      go_enter Try.func17, Try.ntmps17
      go_wp2_with (go_at_call 22; refine (l1In_any _ _ _ _).mono ?_; rintro e w' ⟨rfl, rfl⟩)
      go_ret
      exact ⟨rfl, (Below.refl w.heap.size w).alloc (Nat.le_refl _) _⟩
set_option maxHeartbeats 1000000 in
theorem pzClue_k (k : Int) (k0 : ¬ k = 0) (k1 : ¬ k = 1) (k2 : ¬ k = 2) (k3 : ¬ k = 3) (k4 : ¬ k = 4) (k5 : ¬ k = 5) (k6 : ¬ k = 6) (p a b : Int) (w : World) (hp : 0 ≤ p ∧ p ≤ 1000) : Calls Try.prog 17 #[.int .i64 p, .agg #[.int .i64 k, .int .i64 a, .int .i64 b]] w (Ret (.bool (icB p (k, a, b))) w) := by
  cases hb : inB b 0 2000 with
  | false =>
    have HR := Lib.hid (show icB p (k, a, b) = false by unfold icB; simp only; rw [if_neg (by omega), if_neg k1, if_neg (by omega), if_neg k6])
    rw [HR.out]
    clear HR
    go_enter Try.func17, Try.ntmps17
    go_wp2_with (go_at_call 22; refine (l1In_any _ _ _ _).mono ?_; rintro e w' ⟨rfl, rfl⟩)
    go_ret
    exact ⟨rfl, (Below.refl w.heap.size w).alloc (Nat.le_refl _) _⟩
  | true =>
    have HR := Lib.hid (show icB p (k, a, b) = false by unfold icB; simp only; rw [if_neg (by omega), if_neg k1, if_neg (by omega), if_neg k6])
    rw [HR.out]
    clear HR
    go_enter Try.func17, Try.ntmps17
    go_wp2_with (go_at_call 22; refine (l1In_any _ _ _ _).mono ?_; rintro e w' ⟨rfl, rfl⟩)
    go_ret
    exact ⟨rfl, (Below.refl w.heap.size w).alloc (Nat.le_refl _) _⟩
theorem pzClue_any (p : Int) (c : Kn) (w : World) (hp : 0 ≤ p ∧ p ≤ 1000) : Calls Try.prog 17 #[.int .i64 p, .agg #[.int .i64 c.1, .int .i64 c.2.1, .int .i64 c.2.2]] w (Ret (.bool (icB p c)) w) := by
  obtain ⟨k, a, b⟩ := c
  simp only
  by_cases k0 : k = 0
  · subst k0; exact pzClue_0 p a b w hp
  by_cases k1 : k = 1
  · subst k1; exact pzClue_1 p a b w hp
  by_cases k2 : k = 2
  · subst k2; exact pzClue_2 p a b w hp
  by_cases k3 : k = 3
  · subst k3; exact pzClue_3 p a b w hp
  by_cases k4 : k = 4
  · subst k4; exact pzClue_4 p a b w hp
  by_cases k5 : k = 5
  · subst k5; exact pzClue_5 p a b w hp
  by_cases k6 : k = 6
  · subst k6; exact pzClue_6 p a b w hp
  exact pzClue_k k k0 k1 k2 k3 k4 k5 k6 p a b w hp
end Go.Proofs.Ytkkjbkagkmngkab
