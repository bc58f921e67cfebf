/- The sum of a number's digits, and turned ages: both texts. -/
import Derived.Test.YtjabghojenhhiaaGood
set_option linter.unusedVariables false
set_option linter.unusedSimpArgs false
namespace Go.Proofs.Ytjabghojenhhiaa
open Go.RowKit

/-- The sum of the decimal digits. -/
def ds (n : Nat) : Nat := if h : n = 0 then 0 else n % 10 + ds (n / 10)
termination_by n
decreasing_by omega
theorem ds_zero : ds 0 = 0 := by rw [ds]; simp
theorem ds_step {n : Nat} (h : 0 < n) : ds n = n % 10 + ds (n / 10) := by
  rw [ds]
  rw [dif_neg (by omega)]
theorem ds_le : ∀ n, ds n ≤ n := by
  intro n
  induction n using Nat.strongRecOn with
  | _ n ih =>
    by_cases h : n = 0
    · subst h; rw [ds_zero]; omega
    · rw [ds_step (by omega)]
      have := ih (n / 10) (by omega)
      omega
def dsI (n : Int) : Int := (ds n.toNat : Nat)
theorem dsI_bd {n : Int} (h0 : 0 ≤ n) : 0 ≤ dsI n ∧ dsI n ≤ n := by
  unfold dsI
  have := ds_le n.toNat
  omega
/-- What is summed so far and what is left make the whole. -/
def SumLeft (N : Nat) (n s : Nat) : Prop := s + ds n = ds N ∧ n ≤ N
theorem sumLeft_step {N n s : Nat} (h : SumLeft N n s) (h0 : 0 < n) : SumLeft N (n / 10) (s + n % 10) := by
  obtain ⟨h1, h2⟩ := h
  rw [ds_step h0] at h1
  exact ⟨by omega, by omega⟩
theorem sumLeft_bd {N n s : Nat} (h : SumLeft N n s) : s ≤ N ∧ n ≤ N := by
  have := ds_le N
  obtain ⟨h1, h2⟩ := h
  exact ⟨by omega, h2⟩
theorem sumLeft_end {N s : Nat} (h : SumLeft N 0 s) : (s : Int) = dsI (N : Int) := by
  obtain ⟨h1, _⟩ := h
  rw [ds_zero] at h1
  unfold dsI
  simp; omega
theorem retInt {k : IntKind} {a b : Int} (h : a = b) : Ending.returned (.int k a) = .returned (.int k b) := by rw [h]

set_option maxHeartbeats 400000 in
theorem kiDigits_nat (N : Nat) (w : World) (hN : N ≤ 1048576) : Calls Try.prog 60 #[.int .i64 (N : Int)] w (RetSame (.int .i64 (dsI (N : Int))) w) := by
  go_enter Try.func60, Try.ntmps60
  go_wp2
  go_loop [0, 3] (fun v u => ∃ n s : Nat, v = .int .i64 n ∧ u = .int .i64 s ∧ SumLeft N n s) (fun v _ => (intOf v).toNat)
  case atStart => exact ⟨N, 0, rfl, rfl, by unfold SumLeft; omega⟩
  case round =>
    obtain ⟨n, s, rfl, rfl, h⟩ := hrel
    have hb := sumLeft_bd h
    by_cases h0 : 0 < n
    · have h1 := sumLeft_step h h0
      have H := Lib.hid h1
      clear h h1
      go_wp2
      go_round
      case rel => exact ⟨n / 10, s + n % 10, by go_num, by go_num, H.out⟩
      case measure => simp [intOf]; omega
    · have hn : n = 0 := by omega
      subst hn
      have he := sumLeft_end h
      have H := Lib.hid he
      clear h he
      go_wp2
      go_ret
      exact ⟨retInt H.out, rfl⟩
set_option maxHeartbeats 400000 in
theorem digitSum_nat (N : Nat) (w : World) (hN : N ≤ 1048576) : Calls Try.prog 79 #[.int .i64 (N : Int)] w (RetSame (.int .i64 (dsI (N : Int))) w) := by
  go_enter Try.func79, Try.ntmps79
  go_wp2
  go_loop [0, 3] (fun v u => ∃ n s : Nat, v = .int .i64 n ∧ u = .int .i64 s ∧ SumLeft N n s) (fun v _ => (intOf v).toNat)
  case atStart => exact ⟨N, 0, rfl, rfl, by unfold SumLeft; omega⟩
  case round =>
    obtain ⟨n, s, rfl, rfl, h⟩ := hrel
    have hb := sumLeft_bd h
    by_cases h0 : 0 < n
    · have h1 := sumLeft_step h h0
      have H := Lib.hid h1
      clear h h1
      go_wp2
      go_round
      case rel => exact ⟨n / 10, s + n % 10, by go_num, by go_num, H.out⟩
      case measure => simp [intOf]; omega
    · have hn : n = 0 := by omega
      subst hn
      have he := sumLeft_end h
      have H := Lib.hid he
      clear h he
      go_wp2
      go_ret
      exact ⟨retInt H.out, rfl⟩
theorem kiDigits_any (n : Int) (w : World) (h0 : 0 ≤ n) (h1 : n ≤ 1048576) : Calls Try.prog 60 #[.int .i64 n] w (RetSame (.int .i64 (dsI n)) w) := by
  obtain ⟨N, rfl⟩ := Int.eq_ofNat_of_zero_le h0
  exact kiDigits_nat N w (by omega)
theorem digitSum_any (n : Int) (w : World) (h0 : 0 ≤ n) (h1 : n ≤ 1048576) : Calls Try.prog 79 #[.int .i64 n] w (RetSame (.int .i64 (dsI n)) w) := by
  obtain ⟨N, rfl⟩ := Int.eq_ofNat_of_zero_le h0
  exact digitSum_nat N w (by omega)
end Go.Proofs.Ytjabghojenhhiaa
