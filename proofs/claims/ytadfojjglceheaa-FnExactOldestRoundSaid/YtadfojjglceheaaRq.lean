/- Shared numbers, best ones, oldest ones: plain lists. -/
import Derived.Test.YtadfojjglceheaaRp
set_option linter.unusedVariables false
set_option linter.unusedSimpArgs false
namespace Go.Proofs.Ytadfojjglceheaa
open Go.RowKit

/-- How many jubilees a year has. -/
def jbN (zs : List Int) (y e : Int) : Nat := (jbL zs y e zs.length).length
theorem jbN_le (zs : List Int) (y e : Int) : jbN zs y e ≤ zs.length := jbL_len _ _ _ _
theorem rdA_jbN (zs : List Int) (y e : Int) : (rdA zs y e).length = jbN zs y e := rdA_len zs y e

/-- The best number from 2 on, k of them tried beyond it. -/
def bstN (f : Int → Nat) : Nat → Int
  | 0 => 2
  | k + 1 => if f (bstN f k) ≤ f ((k : Int) + 3) then (k : Int) + 3 else bstN f k
theorem bstN_bd (f : Int → Nat) : ∀ k : Nat, 2 ≤ bstN f k ∧ bstN f k ≤ (k : Int) + 2
  | 0 => by simp [bstN]
  | k + 1 => by
    have := bstN_bd f k
    rw [bstN]
    split <;> constructor <;> omega

/-- The gcd of all ages, those of nought too. -/
def shT (zs : List Int) (y : Int) : Nat → Nat
  | 0 => 0
  | k + 1 => Nat.gcd (y - zs.getD k 0).natAbs (shT zs y k)
/-- Everybody counts, among the first k. -/
def ctB (zs : List Int) (y : Int) (k : Nat) : Bool := (List.range k).all fun i => cnt (zs.getD i 0) y
theorem ctB_succ (zs : List Int) (y : Int) (k : Nat) : ctB zs y (k + 1) = (ctB zs y k && cnt (zs.getD k 0) y) := by
  unfold ctB; rw [List.range_succ, List.all_append]; simp
theorem ctB_at {zs : List Int} {y : Int} {k : Nat} (h : ctB zs y k = true) (j : Nat) (hj : j < k) : cnt (zs.getD j 0) y = true := by
  unfold ctB at h; exact List.all_eq_true.1 h j (by simpa using hj)
theorem pgL_all {zs : List Int} {y : Int} {k : Nat} (h : ctB zs y k = true) : (pgL zs y k).length = k := by
  unfold pgL
  rw [List.length_map, List.filter_eq_self.2 (fun i hi => ctB_at h i (by simpa using hi)), List.length_range]
theorem pgL_less {zs : List Int} {y : Int} : ∀ {k : Nat}, ctB zs y k = false → (pgL zs y k).length < k
  | 0, h => by simp [ctB] at h
  | k + 1, h => by
    rw [ctB_succ] at h
    cases h2 : cnt (zs.getD k 0) y with
    | false => rw [pgL_skip _ _ _ h2]; have := pgL_len zs y k; omega
    | true =>
      rw [h2, Bool.and_true] at h
      have := pgL_less h
      rw [pgL_take _ _ _ h2, List.length_append]; simp; exact this
theorem rnd_one {a : Int} (h : 0 ≤ a) : rnd a 1 = decide (0 < a) := by unfold rnd; simp
/-- The ages above nought. -/
def olA (zs : List Int) (y : Int) : List Int := (rdA zs y 1).map (·.2)
theorem olA_eq {zs : List Int} {y : Int} (h : ctB zs y zs.length = true) : olA zs y = ((List.range zs.length).filter fun i => decide (0 < y - zs.getD i 0)).map fun (i : Nat) => y - zs.getD i 0 := by
  unfold olA
  rw [rdA_eq, List.map_map]
  have e : ((List.range zs.length).filter fun i => cnt (zs.getD i 0) y && rnd (y - zs.getD i 0) 1) = (List.range zs.length).filter fun i => decide (0 < y - zs.getD i 0) := by
    apply List.filter_congr
    intro i hi
    have hc := ctB_at h i (by simpa using hi)
    rw [hc, Bool.true_and, rnd_one (cnt_iff.1 hc).1]
  rw [e]; rfl
/-- The first of a list divides out alone. -/
theorem gcf_self (l : List Int) (h : l ≠ []) : l.foldl (fun g z => Nat.gcd g z.natAbs) (l.getD 0 0).natAbs = l.foldl (fun g z => Nat.gcd g z.natAbs) 0 := by
  cases l with
  | nil => exact absurd rfl h
  | cons a l => simp
theorem shT_fold {zs : List Int} {y : Int} : ∀ k, ctB zs y k = true → shT zs y k = (((List.range k).filter fun i => decide (0 < y - zs.getD i 0)).map fun (i : Nat) => y - zs.getD i 0).foldl (fun g z => Nat.gcd g z.natAbs) 0
  | 0, _ => rfl
  | k + 1, h => by
    rw [ctB_succ, Bool.and_eq_true] at h
    have ih := shT_fold k h.1
    have hc := (cnt_iff.1 h.2).1
    rw [shT, ih, List.range_succ, List.filter_append, List.map_append, List.foldl_append]
    by_cases hp : 0 < y - zs.getD k 0
    · simp only [List.filter_cons, decide_eq_true hp, if_true, List.filter_nil, List.map_cons, List.map_nil, List.foldl_cons, List.foldl_nil]
      exact Nat.gcd_comm _ _
    · have h0 : y - zs.getD k 0 = 0 := by omega
      simp only [List.filter_cons, decide_eq_false hp, List.filter_nil, List.map_nil, List.foldl_nil, h0]
      simp
theorem shT_ol {zs : List Int} {y : Int} (h : ctB zs y zs.length = true) : shT zs y zs.length = (olA zs y).foldl (fun g z => Nat.gcd g z.natAbs) 0 := by
  rw [olA_eq h]; exact shT_fold _ h
theorem shT_none {zs : List Int} {y : Int} (h : ctB zs y zs.length = true) (h0 : olA zs y = []) : shT zs y zs.length = 0 := by
  rw [shT_ol h, h0]; rfl
theorem olA_pos {zs : List Int} {y : Int} {x : Int} (h : x ∈ olA zs y) : 1 ≤ x ∧ x ≤ 120 := by
  unfold olA at h
  obtain ⟨p, hp, rfl⟩ := List.mem_map.1 h
  obtain ⟨h1, h2⟩ := rdL_mem hp
  have h3 := pgL_mem h1
  unfold rnd at h2
  rw [Bool.and_eq_true, decide_eq_true_eq] at h2
  omega
theorem shT_pos {zs : List Int} {y : Int} (h : ctB zs y zs.length = true) (h0 : olA zs y ≠ []) : 0 < shT zs y zs.length := by
  rw [shT_ol h]
  cases hl : olA zs y with
  | nil => exact absurd hl h0
  | cons a l =>
    rw [List.foldl_cons, Nat.gcd_zero_left]
    have ha := olA_pos (zs := zs) (y := y) (x := a) (by rw [hl]; simp)
    have : ∀ (l : List Int) (g : Nat), 0 < g → 0 < l.foldl (fun g z => Nat.gcd g z.natAbs) g := by
      intro l
      induction l with
      | nil => intro g hg; exact hg
      | cons b l ih => intro g hg; rw [List.foldl_cons]; exact ih _ (Nat.gcd_pos_of_pos_left _ hg)
    exact this l _ (by omega)
end Go.Proofs.Ytadfojjglceheaa
