/- Fractions in lowest terms, ratios, ages: both texts. -/
import Derived.Test.YtadfojjglceheaaGood
import Derived.Test.YtadfojjglceheaaRt
import Derived.IntWalk
set_option linter.unusedVariables false
set_option linter.unusedSimpArgs false
namespace Go.Proofs.Ytadfojjglceheaa
open Go.RowKit

theorem tupEq (x y x' y' : Value) (h1 : x = x') (h2 : y = y') : Ending.returned (.tuple #[x, y]) = Ending.returned (.tuple #[x', y']) := by rw [h1, h2]
theorem wdivZ (n g : Int) (h : -1152921504606846976 ≤ n ∧ n ≤ 1152921504606846976) (hg : 1 ≤ g) (hd : g ∣ n) : wrap64 (Int.tdiv n g) = n / g := by
  rw [Int.tdiv_eq_ediv_of_dvd hd]
  obtain ⟨k, rfl⟩ := hd
  rw [Int.mul_ediv_cancel_left _ (by omega)]
  have h1 : k.natAbs ≤ (g * k).natAbs := by rw [Int.natAbs_mul]; exact Nat.le_mul_of_pos_left _ (by omega)
  exact IntWalk.wrap64_in _ (by omega)
theorem wdivE (n g : Int) (h : -1152921504606846976 ≤ n ∧ n ≤ 1152921504606846976) (hg : 1 ≤ g) (hd : g ∣ n) : wrap64 (n / g) = n / g := by
  rw [← Int.tdiv_eq_ediv_of_dvd hd, wdivZ n g h hg hd, Int.tdiv_eq_ediv_of_dvd hd]

set_option maxHeartbeats 1000000 in
theorem lowestTerms_pos (n d : Int) (w : World) (hn : 0 ≤ n ∧ n ≤ 1152921504606846976) (hd : 1 ≤ d ∧ d ≤ 1152921504606846976) :
    Calls Try.prog 65 #[.int .i64 n, .int .i64 d] w (RetTwo (rlN n d) (rlD n d) w) := by
  have hG := rlG_pos n d (by omega)
  obtain ⟨d1, d2⟩ := rlG_dvd n d
  have eN : rlN n d = n / rlG n d := by unfold rlN; rw [if_neg (by omega)]
  have eD : rlD n d = d / rlG n d := by unfold rlD; rw [if_neg (by omega)]
  rw [eN, eD]; clear eN eD
  have HG : Hid (((Nat.gcd (n).natAbs (d).natAbs : Nat) : Int) = rlG n d) := Lib.hid (by unfold rlG; rfl)
  generalize rlG n d = G at *
  have HD1 : Hid (G ∣ n) := Lib.hid (d1)
  have HD2 : Hid (G ∣ d) := Lib.hid (d2)
  have hN : -1152921504606846976 ≤ n ∧ n ≤ 1152921504606846976 := by omega
  have hD : 1 ≤ d ∧ d ≤ 1152921504606846976 := by omega
  clear d1 d2
  go_enter Try.func65, Try.ntmps65
  go_wp2
  go_loopw [6, 7] (fun a b wr => ∃ (A B : Nat), a = .int .i64 A ∧ b = .int .i64 B ∧ Hid (((Nat.gcd A B : Nat) : Int) = G) ∧ (A : Int) ≤ 1152921504606846976 ∧ (B : Int) ≤ 1152921504606846976 ∧ Below w.heap.size w wr) (fun _ b _ => (intOf b).toNat)
  case atStart => exact ⟨(n).natAbs, (d).natAbs, by first | rfl | (congr 1; omega), by congr 1; omega, HG, by omega, by omega, Below.refl _ _⟩
  case round =>
    obtain ⟨A, B, rfl, rfl, hAB, hA, hB, hbr⟩ := hrel
    by_cases hb : B = 0
    · subst hb
      have hAG : (A : Int) = G := by have := hAB.out; rw [Nat.gcd_zero_right] at this; exact this
      clear hAB
      subst hAG
      have hne : ¬ ((A : Int) = 0) := by omega
      have hne2 : ((A : Int) == 0) = false := beq_eq_false_iff_ne.2 hne
      have hp : (1 : Int) ≤ (A : Int) := by omega
      go_wp2
      go_quiet (fail)
      go_wp2
      go_ret2
      refine ⟨?_, below_drewN hbr _⟩
      have e1 := wdivE _ (A : Int) hN (by omega) HD1.out
      have e2 := wdivE _ (A : Int) (by omega) (by omega) HD2.out
      have f1 := wdivZ _ (A : Int) hN (by omega) HD1.out
      have t1 := Int.tdiv_eq_ediv_of_dvd HD1.out
      have t2 := Int.tdiv_eq_ediv_of_dvd HD2.out
      refine tupEq _ _ _ _ ?_ ?_
      · refine congrArg (Value.int .i64) (?_ : _ = _)
        first | rfl | exact e1 | exact t1 | (rw [t1]; exact e1) | (rw [← Int.neg_tdiv, t1]; exact e1) | (rw [← Int.neg_tdiv, t1])
      · refine congrArg (Value.int .i64) (?_ : _ = _)
        first | rfl | exact e2 | exact t2 | (rw [t2]; exact e2) | (rw [← Int.neg_tdiv, t2]; exact e2) | (rw [← Int.neg_tdiv, t2])
    · have hp : (1 : Int) ≤ (B : Int) := by omega
      have hne : ((B : Int) != 0) = true := by rw [bne_iff_ne]; omega
      have hne2 : ((B : Int) == 0) = false := beq_eq_false_iff_ne.2 (by omega)
      have hG2 : Hid (((Nat.gcd B (A % B) : Nat) : Int) = G) := Lib.hid (by rw [Nat.gcd_comm, ← Nat.gcd_rec, Nat.gcd_comm]; exact hAB.out)
      have hlt : A % B < B := Nat.mod_lt _ (by omega)
      go_wp2
      go_quiet (fail)
      go_wp2
      go_roundw
      case rel => exact ⟨B, A % B, rfl, by go_num, hG2, hB, by omega, below_drewN hbr _⟩
      case measure => simp [intOf]; omega

end Go.Proofs.Ytadfojjglceheaa
