/- Two ages: what all of these laws share. -/
import Derived.Test.YtmidobhfahpkcaaCq
set_option linter.unusedVariables false
set_option linter.unusedSimpArgs false
namespace Go.Proofs.Ytmidobhfahpkcaa
open Go.RowKit

theorem l1In_t (n lo hi : Int) (h : inB n lo hi = true) (w : World) : Calls Try.prog 56 #[.int .i64 n, .int .i64 lo, .int .i64 hi] w (RetSame (.bool true) w) := by rw [← h]; exact l1In_any n lo hi w
theorem l1In_f (n lo hi : Int) (h : inB n lo hi = false) (w : World) : Calls Try.prog 56 #[.int .i64 n, .int .i64 lo, .int .i64 hi] w (RetSame (.bool false) w) := by rw [← h]; exact l1In_any n lo hi w
theorem isWithin_t (n lo hi : Int) (h : inB n lo hi = true) (w : World) : Calls Try.prog 50 #[.int .i64 n, .int .i64 lo, .int .i64 hi] w (RetSame (.bool true) w) := by rw [← h]; exact isWithin_any n lo hi w
theorem isWithin_f (n lo hi : Int) (h : inB n lo hi = false) (w : World) : Calls Try.prog 50 #[.int .i64 n, .int .i64 lo, .int .i64 hi] w (RetSame (.bool false) w) := by rw [← h]; exact isWithin_any n lo hi w

def anX (ok : Bool) (x y z : Int) : Int := if ok = true then tdX x y z else 0
def anY (ok : Bool) (x y z : Int) : Int := if ok = true then tdY x y z else 0
def anZ (ok : Bool) (x y z : Int) : Int := if ok = true then tdZ x y z else 0
def anB (ok : Bool) (x y z : Int) : Bool := ok && fnd x y z
theorem an_not (x y z : Int) : anX false x y z = 0 ∧ anY false x y z = 0 ∧ anZ false x y z = 0 ∧ anB false x y z = false := by simp [anX, anY, anZ, anB]
theorem an_ok (x y z : Int) : anX true x y z = tdX x y z ∧ anY true x y z = tdY x y z ∧ anZ true x y z = tdZ x y z ∧ anB true x y z = fnd x y z := by simp [anX, anY, anZ, anB]
theorem td_not {x y z : Int} (h : fnd x y z = false) : tdX x y z = 0 ∧ tdY x y z = 0 ∧ tdZ x y z = 0 := by simp [tdX, tdY, tdZ, h]
/-- What the model finds is what the program tells. -/
theorem td_nat (A B D : Nat) (hA : 1 ≤ A) (hB : 1 ≤ B) (hD : 1 ≤ D) : ((A / gcT [(A : Int), (B : Int), (D : Int)] 3 : Nat) : Int) = tdX A B D ∧ ((B / gcT [(A : Int), (B : Int), (D : Int)] 3 : Nat) : Int) = tdY A B D ∧ ((D / gcT [(A : Int), (B : Int), (D : Int)] 3 : Nat) : Int) = tdZ A B D ∧ fnd A B D = true := by
  have hf : fnd (A : Int) (B : Int) (D : Int) = true := by simp [fnd]; omega
  refine ⟨?_, ?_, ?_, hf⟩
  · unfold tdX; rw [if_pos hf]; exact Int.natCast_ediv _ _
  · unfold tdY; rw [if_pos hf]; exact Int.natCast_ediv _ _
  · unfold tdZ; rw [if_pos hf]; exact Int.natCast_ediv _ _
theorem raThree_td (a b d x y z : Int) (w : World) (hx : 1 ≤ x ∧ x ≤ 100000000) (hy : 1 ≤ y ∧ y ≤ 100000000) (hz : 1 ≤ z ∧ z ≤ 100000)
    (h : (a = x ∧ b = y ∧ d = z) ∨ (a = -x ∧ b = -y ∧ d = -z)) : Calls Try.prog 57 #[.int .i64 a, .int .i64 b, .int .i64 d] w (RetThree (tdX x y z) (tdY x y z) (tdZ x y z) w) := by
  obtain ⟨A, rfl⟩ : ∃ A : Nat, x = (A : Int) := ⟨x.toNat, by omega⟩
  obtain ⟨B, rfl⟩ : ∃ B : Nat, y = (B : Int) := ⟨y.toNat, by omega⟩
  obtain ⟨D, rfl⟩ : ∃ D : Nat, z = (D : Int) := ⟨z.toNat, by omega⟩
  obtain ⟨e1, e2, e3, _⟩ := td_nat A B D (by omega) (by omega) (by omega)
  rw [← e1, ← e2, ← e3]
  exact raThree_any a b d A B D w (by omega) (by omega) (by omega) h
theorem td_bd {x y z : Int} (h : fnd x y z = true) : 1 ≤ gg x y z ∧ tdX x y z * gg x y z = x ∧ tdY x y z * gg x y z = y ∧ tdZ x y z * gg x y z = z := by
  have hf := h
  unfold fnd at hf
  simp only [Bool.and_eq_true, decide_eq_true_eq] at hf
  obtain ⟨⟨hz, hx⟩, hy⟩ := hf
  have hg : gcT [x, y, z] 3 = Nat.gcd (Nat.gcd x.natAbs y.natAbs) z.natAbs := by simp [gcT]
  have hgp : 1 ≤ gg x y z := by
    have := (gcT_pos [x, y, z] (by simp; omega) 3 (by simp)).1
    unfold gg; omega
  have d1 : gg x y z ∣ x := by unfold gg; rw [hg]; exact Int.ofNat_dvd_left.2 (Nat.dvd_trans (Nat.gcd_dvd_left _ _) (Nat.gcd_dvd_left _ _))
  have d2 : gg x y z ∣ y := by unfold gg; rw [hg]; exact Int.ofNat_dvd_left.2 (Nat.dvd_trans (Nat.gcd_dvd_left _ _) (Nat.gcd_dvd_right _ _))
  have d3 : gg x y z ∣ z := by unfold gg; rw [hg]; exact Int.ofNat_dvd_left.2 (Nat.gcd_dvd_right _ _)
  unfold tdX tdY tdZ
  rw [if_pos h, if_pos h, if_pos h]
  exact ⟨hgp, Int.ediv_mul_cancel d1, Int.ediv_mul_cancel d2, Int.ediv_mul_cancel d3⟩
end Go.Proofs.Ytmidobhfahpkcaa
