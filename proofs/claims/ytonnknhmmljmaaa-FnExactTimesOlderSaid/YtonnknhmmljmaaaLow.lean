/- Fractions in lowest terms: both texts. -/
import Derived.Test.YtonnknhmmljmaaaFit
set_option linter.unusedVariables false
set_option linter.unusedSimpArgs false
namespace Go.Proofs.Ytonnknhmmljmaaa
open Go.RowKit

/-- A fraction in lowest terms. -/
def lowN (N D : Nat) : Int := ((N / Nat.gcd N D : Nat) : Int)
def lowD (N D : Nat) : Int := ((D / Nat.gcd N D : Nat) : Int)
theorem wdiv (N A : Nat) (hN : N ≤ 1048576) : wrap64 ((N : Int) / (A : Int)) = ((N / A : Nat) : Int) := by
  have h : (N : Int) / (A : Int) = ((N / A : Nat) : Int) := (Int.natCast_ediv N A).symm
  rw [h]
  have := Nat.div_le_self N A
  generalize N / A = q at this ⊢
  exact IntWalk.wrap64_in _ (by omega)

set_option maxHeartbeats 400000 in
theorem agLow_any (N D : Nat) (w : World) (hN : N ≤ 1048576) (hD : 1 ≤ D) (hD2 : D ≤ 1048576) :
    Calls Try.prog 66 #[.int .i64 N, .int .i64 D] w (RetTwo (lowN N D) (lowD N D) w) := by
  unfold lowN lowD
  have hG : 0 < Nat.gcd N D := Nat.gcd_pos_of_pos_right _ hD
  generalize hg : Nat.gcd N D = G at hG
  have HG := Lib.hid hg
  clear hg
  go_enter Try.func66, Try.ntmps66
  go_wp2
  go_loopw [6, 7] (fun a b wr => ∃ (A B : Nat), a = .int .i64 A ∧ b = .int .i64 B ∧ Hid (Nat.gcd A B = G) ∧ A ≤ 1048576 ∧ B ≤ 1048576 ∧ Below w.heap.size w wr) (fun _ b _ => (intOf b).toNat)
  case atStart => exact ⟨N, D, rfl, rfl, HG, hN, hD2, Below.refl _ _⟩
  case round =>
    obtain ⟨A, B, rfl, rfl, hAB, hA, hB, hbr⟩ := hrel
    by_cases hb : B = 0
    · subst hb
      have hAG : A = G := by have := hAB.out; rw [Nat.gcd_zero_right] at this; exact this
      clear hAB
      subst hAG
      have hne : ¬ ((A : Int) = 0) := by omega
      have hne2 : ((A : Int) == 0) = false := beq_eq_false_iff_ne.2 hne
      have hp : (1 : Int) ≤ (A : Int) := by omega
      go_wp2
      go_quiet (fail)
      go_wp2
      go_ret2
      exact ⟨by show Ending.returned (.tuple #[.int .i64 (wrap64 ((N : Int) / (A : Int))), .int .i64 (wrap64 ((D : Int) / (A : Int)))]) = _; rw [wdiv N A hN, wdiv D A hD2], below_drewN hbr _⟩
    · have hp : (1 : Int) ≤ (B : Int) := by omega
      have hne : ((B : Int) != 0) = true := by rw [bne_iff_ne]; omega
      have hne2 : ((B : Int) == 0) = false := beq_eq_false_iff_ne.2 (by omega)
      have hG2 : Hid (Nat.gcd B (A % B) = G) := Lib.hid (by rw [Nat.gcd_comm, ← Nat.gcd_rec, Nat.gcd_comm]; exact hAB.out)
      have hlt : A % B < B := Nat.mod_lt _ (by omega)
      go_wp2
      go_quiet (fail)
      go_wp2
      go_roundw
      case rel => exact ⟨B, A % B, rfl, by go_num, hG2, hB, by omega, below_drewN hbr _⟩
      case measure => simp [intOf]; omega

set_option maxHeartbeats 400000 in
theorem lowestTerms_any (N D : Nat) (w : World) (hN : N ≤ 1048576) (hD : 1 ≤ D) (hD2 : D ≤ 1048576) :
    Calls Try.prog 67 #[.int .i64 N, .int .i64 D] w (RetTwo (lowN N D) (lowD N D) w) := by
  unfold lowN lowD
  have hG : 0 < Nat.gcd N D := Nat.gcd_pos_of_pos_right _ hD
  generalize hg : Nat.gcd N D = G at hG
  have HG := Lib.hid hg
  clear hg
  go_enter Try.func67, Try.ntmps67
  go_wp2
  go_loopw [6, 7] (fun a b wr => ∃ (A B : Nat), a = .int .i64 A ∧ b = .int .i64 B ∧ Hid (Nat.gcd A B = G) ∧ A ≤ 1048576 ∧ B ≤ 1048576 ∧ Below w.heap.size w wr) (fun _ b _ => (intOf b).toNat)
  case atStart => exact ⟨N, D, rfl, rfl, HG, hN, hD2, Below.refl _ _⟩
  case round =>
    obtain ⟨A, B, rfl, rfl, hAB, hA, hB, hbr⟩ := hrel
    by_cases hb : B = 0
    · subst hb
      have hAG : A = G := by have := hAB.out; rw [Nat.gcd_zero_right] at this; exact this
      clear hAB
      subst hAG
      have hne : ¬ ((A : Int) = 0) := by omega
      have hne2 : ((A : Int) == 0) = false := beq_eq_false_iff_ne.2 hne
      have hp : (1 : Int) ≤ (A : Int) := by omega
      go_wp2
      go_quiet (fail)
      go_wp2
      go_ret2
      exact ⟨by show Ending.returned (.tuple #[.int .i64 (wrap64 ((N : Int) / (A : Int))), .int .i64 (wrap64 ((D : Int) / (A : Int)))]) = _; rw [wdiv N A hN, wdiv D A hD2], below_drewN hbr _⟩
    · have hp : (1 : Int) ≤ (B : Int) := by omega
      have hne : ((B : Int) != 0) = true := by rw [bne_iff_ne]; omega
      have hne2 : ((B : Int) == 0) = false := beq_eq_false_iff_ne.2 (by omega)
      have hG2 : Hid (Nat.gcd B (A % B) = G) := Lib.hid (by rw [Nat.gcd_comm, ← Nat.gcd_rec, Nat.gcd_comm]; exact hAB.out)
      have hlt : A % B < B := Nat.mod_lt _ (by omega)
      go_wp2
      go_quiet (fail)
      go_wp2
      go_roundw
      case rel => exact ⟨B, A % B, rfl, by go_num, hG2, hB, by omega, below_drewN hbr _⟩
      case measure => simp [intOf]; omega
end Go.Proofs.Ytonnknhmmljmaaa
