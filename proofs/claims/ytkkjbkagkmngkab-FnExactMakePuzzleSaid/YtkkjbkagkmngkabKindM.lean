/- Kinds of numbers, and marks of them: plain mathematics. -/
import Derived.WalkKit
import Derived.Lib.Hide
set_option linter.unusedVariables false
set_option linter.unusedSimpArgs false
namespace Go.Proofs.Ytkkjbkagkmngkab
open Go.RowKit

def pcN (N : Nat) (p : Nat → Bool) : Array Value := ((List.range N).map fun i => Value.bool (p i)).toArray
theorem pcN_size (N : Nat) (p : Nat → Bool) : (pcN N p).size = N := by simp [pcN]
theorem pcN_get (N : Nat) (p : Nat → Bool) (i : Nat) (h : i < N) : (pcN N p)[i]? = some (.bool (p i)) := by
  unfold pcN
  simp [List.getElem?_map, List.getElem?_range, h]
theorem pcN_one (N : Nat) (p : Nat → Bool) : (pcN N p).all (·.oneCell') = true := by
  rw [Array.all_eq_true_iff_forall_mem]
  intro v hv
  unfold pcN at hv
  rw [List.mem_toArray] at hv
  obtain ⟨i, _, rfl⟩ := List.mem_map.1 hv
  rfl
theorem pcN_congr {N : Nat} {p q : Nat → Bool} (h : ∀ i, i < N → p i = q i) : pcN N p = pcN N q := by
  unfold pcN
  congr 1
  apply List.map_congr_left
  intro i hi
  rw [h i (by simpa using hi)]
/-- The 961 marks of a test. -/
def pc (p : Nat → Bool) : Array Value := pcN 961 p
theorem pc_size (p : Nat → Bool) : (pc p).size = 961 := pcN_size _ p
theorem pc_get (p : Nat → Bool) (i : Nat) (h : i < 961) : (pc p)[i]? = some (.bool (p i)) := pcN_get _ p i h
theorem pc_one (p : Nat → Bool) : (pc p).all (·.oneCell') = true := pcN_one _ p
theorem pc_congr {p q : Nat → Bool} (h : ∀ i, i < 961 → p i = q i) : pc p = pc q := pcN_congr h
theorem pc_set (p : Nat → Bool) (n : Nat) (v : Bool) : (pc p).setIfInBounds n (.bool v) = pc fun i => if i = n then v else p i := by
  apply Array.ext_getElem?
  intro i
  rw [Array.getElem?_setIfInBounds]
  by_cases hi : i < 961
  · by_cases e : n = i
    · subst e
      rw [if_pos rfl, if_pos (by rw [pc_size]; exact hi), pc_get _ _ hi, if_pos rfl]
    · have e' : ¬ i = n := fun h => e h.symm
      rw [if_neg e, pc_get _ _ hi, pc_get _ _ hi, if_neg e']
  · rw [Array.getElem?_eq_none (by rw [pc_size]; omega), Array.getElem?_eq_none (by rw [pc_size]; omega)]
    simp [pc_size]
    omega
/-- No marks. -/
def pnone : Nat → Bool := fun _ => false
theorem pc_none : pc pnone = Array.replicate 961 (.bool false) := by
  apply Array.ext_getElem?
  intro i
  by_cases hi : i < 961
  · rw [pc_get _ _ hi]
    simp [hi, pnone]
  · rw [Array.getElem?_eq_none (by rw [pc_size]; omega)]
    simp; omega

/-! Marks one by one: of the first k numbers those that meet f; the values of the first k numbers. -/
def wTo (f : Nat → Bool) (k : Nat) : Nat → Bool := fun i => decide (i < k) && f i
theorem wTo_zero (f : Nat → Bool) : wTo f 0 = pnone := by funext i; simp [wTo, pnone]
theorem wTo_set (f : Nat → Bool) (k : Nat) : (pc (wTo f k)).setIfInBounds k (.bool (f k)) = pc (wTo f (k + 1)) := by
  rw [pc_set]
  apply pc_congr
  intro i _
  by_cases e : i = k
  · subst e; simp [wTo]
  · simp only [if_neg e, wTo]
    by_cases h : i < k
    · rw [decide_eq_true h, decide_eq_true (show i < k + 1 by omega)]
    · rw [decide_eq_false h, decide_eq_false (show ¬ i < k + 1 by omega)]
theorem wTo_all (f : Nat → Bool) : pc (wTo f 961) = pc f := by
  apply pc_congr
  intro i hi
  simp [wTo, hi]
def anyTo (g : Nat → Nat) (k : Nat) : Nat → Bool := fun i => (List.range k).any fun j => g j == i
theorem anyTo_zero (g : Nat → Nat) : anyTo g 0 = pnone := by funext i; simp [anyTo, pnone]
theorem anyTo_set (g : Nat → Nat) (k : Nat) : (pc (anyTo g k)).setIfInBounds (g k) (.bool true) = pc (anyTo g (k + 1)) := by
  rw [pc_set]
  apply pc_congr
  intro i _
  unfold anyTo
  rw [List.range_succ, List.any_append]
  by_cases e : i = g k
  · subst e; simp
  · rw [if_neg e]
    have : (g k == i) = false := by rw [beq_eq_false_iff_ne]; exact fun h => e h.symm
    simp [this]
theorem anyTo_true {g : Nat → Nat} {k i j : Nat} (h : j < k) (e : g j = i) : anyTo g k i = true := by
  unfold anyTo
  rw [List.any_eq_true]
  exact ⟨j, by simpa using h, by simp [e]⟩
theorem anyTo_false {g : Nat → Nat} {k i : Nat} (h : ∀ j, j < k → g j ≠ i) : anyTo g k i = false := by
  unfold anyTo
  rw [List.any_eq_false]
  intro j hj
  have := h j (by simpa using hj)
  simpa using this

/-! The kinds. -/
def sqN (n : Nat) : Nat := n * n
def cuN (n : Nat) : Nat := n * n * n
def trN (n : Nat) : Nat := n * (n + 1) / 2
def rdN (n : Nat) : Nat := 10 * (n + 1)
theorem trN_succ (n : Nat) : trN (n + 1) = trN n + (n + 1) := by
  unfold trN
  have e : (n + 1) * (n + 1 + 1) = n * (n + 1) + 2 * (n + 1) := by
    rw [show n + 1 + 1 = n + 2 from rfl, Nat.mul_add, Nat.mul_comm (n + 1) n, Nat.mul_comm (n + 1) 2]
  rw [e, Nat.add_mul_div_left _ _ (by omega)]
def NoDiv (n k : Nat) : Prop := ∀ j, j < k → n % (2 + j) ≠ 0
theorem noDiv_snoc {n k : Nat} (h : NoDiv n k) (h2 : n % (2 + k) ≠ 0) : NoDiv n (k + 1) := by
  intro j hj
  by_cases e : j = k
  · subst e; exact h2
  · exact h j (by omega)
def prB (n : Nat) : Bool := decide (2 ≤ n) && (List.range n).all fun j => decide (n < (2 + j) * (2 + j)) || n % (2 + j) != 0
theorem prB_false {n k : Nat} (h1 : (2 + k) * (2 + k) ≤ n) (h2 : n % (2 + k) = 0) : prB n = false := by
  have hk : k < n := by
    have : (2 + k) * 1 ≤ (2 + k) * (2 + k) := Nat.mul_le_mul_left _ (by omega)
    omega
  unfold prB
  rw [Bool.and_eq_false_iff]
  right
  rw [List.all_eq_false]
  refine ⟨k, by simpa using hk, ?_⟩
  simp [h2]
  omega
theorem prB_true {n k : Nat} (h : NoDiv n k) (h1 : n < (2 + k) * (2 + k)) : prB n = decide (2 ≤ n) := by
  unfold prB
  have e : ((List.range n).all fun j => decide (n < (2 + j) * (2 + j)) || n % (2 + j) != 0) = true := by
    rw [List.all_eq_true]
    intro j _
    by_cases hj : j < k
    · have := h j hj
      simp [this]
    · have : (2 + k) * (2 + k) ≤ (2 + j) * (2 + j) := Nat.mul_le_mul (by omega) (by omega)
      have h2 : n < (2 + j) * (2 + j) := by omega
      simp [h2]
  rw [e, Bool.and_true]
/-- Digits alike, from the right. -/
def alk (r : Nat) : Bool := if h : r < 10 then true else if r % 10 = r / 10 % 10 then alk (r / 10) else false
termination_by r
decreasing_by omega
theorem alk_small {r : Nat} (h : r < 10) : alk r = true := by rw [alk]; simp [h]
theorem alk_step {r : Nat} (h : 10 ≤ r) (e : r % 10 = r / 10 % 10) : alk r = alk (r / 10) := by
  rw [alk, dif_neg (by omega), if_pos e]
theorem alk_no {r : Nat} (h : 10 ≤ r) (e : r % 10 ≠ r / 10 % 10) : alk r = false := by
  rw [alk, dif_neg (by omega), if_neg e]
def alkL (l k : Nat) : Bool := if h : k = 0 then true else if k % 10 = l then alkL l (k / 10) else false
termination_by k
decreasing_by omega
theorem alkL_zero (l : Nat) : alkL l 0 = true := by rw [alkL]; simp
theorem alkL_step {l k : Nat} (h : 0 < k) (e : k % 10 = l) : alkL l k = alkL l (k / 10) := by
  rw [alkL, dif_neg (by omega), if_pos e]
theorem alkL_no {l k : Nat} (h : 0 < k) (e : k % 10 ≠ l) : alkL l k = false := by
  rw [alkL, dif_neg (by omega), if_neg e]
theorem alkL_alk : ∀ r : Nat, 0 < r → alkL (r % 10) r = alk r := by
  intro r
  induction r using Nat.strongRecOn with
  | _ r ih =>
    intro h0
    rw [alkL_step h0 rfl]
    by_cases h : r < 10
    · rw [alk_small h, show r / 10 = 0 by omega, alkL_zero]
    · by_cases e : r % 10 = r / 10 % 10
      · rw [alk_step (by omega) e, e]
        exact ih (r / 10) (by omega) (by omega)
      · rw [alk_no (by omega) e, alkL_no (by omega) (fun h => e h.symm)]
def dgB (n : Nat) : Bool := alk n && decide (10 ≤ n)
theorem dgB_L (n : Nat) : dgB n = (alkL (n % 10) n && decide (10 < n)) := by
  unfold dgB
  by_cases h0 : n = 0
  · subst h0; simp
  · rw [alkL_alk n (by omega)]
    by_cases h : n = 10
    · subst h
      rw [alk_no (by omega) (by decide)]
      rfl
    · by_cases h2 : 10 < n
      · rw [decide_eq_true h2, decide_eq_true (show 10 ≤ n by omega)]
      · rw [decide_eq_false h2, decide_eq_false (show ¬ 10 ≤ n by omega)]

def sP : ByteArray := { data := #[112] }
def sS : ByteArray := { data := #[115] }
def sC : ByteArray := { data := #[99] }
def sT : ByteArray := { data := #[116] }
def sD : ByteArray := { data := #[100] }
def sR : ByteArray := { data := #[114] }
def isK (s : ByteArray) : Bool := decide (s = sP) || decide (s = sS) || decide (s = sC) || decide (s = sT) || decide (s = sD) || decide (s = sR)
def kOf (s : ByteArray) : Nat → Bool :=
  if s = sP then prB else if s = sS then anyTo sqN 31 else if s = sC then anyTo cuN 10 else if s = sT then anyTo trN 44 else if s = sD then dgB else if s = sR then anyTo rdN 96 else pnone
theorem isK_iff (s : ByteArray) : isK s = true ↔ s = sP ∨ s = sS ∨ s = sC ∨ s = sT ∨ s = sD ∨ s = sR := by
  unfold isK
  simp only [Bool.or_eq_true, decide_eq_true_eq, or_assoc]
theorem kOf_none {s : ByteArray} (h : isK s = false) : kOf s = pnone := by
  have h' : ¬ (s = sP ∨ s = sS ∨ s = sC ∨ s = sT ∨ s = sD ∨ s = sR) := fun h2 => by rw [(isK_iff s).2 h2] at h; cases h
  unfold kOf
  rw [if_neg (fun e => h' (.inl e)), if_neg (fun e => h' (.inr (.inl e))), if_neg (fun e => h' (.inr (.inr (.inl e)))), if_neg (fun e => h' (.inr (.inr (.inr (.inl e))))),
    if_neg (fun e => h' (.inr (.inr (.inr (.inr (.inl e)))))), if_neg (fun e => h' (.inr (.inr (.inr (.inr (.inr e))))))]
theorem kOf_p : kOf sP = prB := by unfold kOf; rw [if_pos rfl]
theorem kOf_s : kOf sS = anyTo sqN 31 := by unfold kOf; rw [if_neg (by decide), if_pos rfl]
theorem kOf_c : kOf sC = anyTo cuN 10 := by unfold kOf; rw [if_neg (by decide), if_neg (by decide), if_pos rfl]
theorem kOf_t : kOf sT = anyTo trN 44 := by unfold kOf; rw [if_neg (by decide), if_neg (by decide), if_neg (by decide), if_pos rfl]
theorem kOf_d : kOf sD = dgB := by unfold kOf; rw [if_neg (by decide), if_neg (by decide), if_neg (by decide), if_neg (by decide), if_pos rfl]
theorem kOf_r : kOf sR = anyTo rdN 96 := by unfold kOf; rw [if_neg (by decide), if_neg (by decide), if_neg (by decide), if_neg (by decide), if_neg (by decide), if_pos rfl]
end Go.Proofs.Ytkkjbkagkmngkab
