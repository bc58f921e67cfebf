/- In how many years two ratios are the same: both texts. -/
import Derived.Test.YtmidobhfahpkcaaYur2
set_option linter.unusedVariables false
set_option linter.unusedSimpArgs false
namespace Go.Proofs.Ytmidobhfahpkcaa
open Go.RowKit

def srOk (a b c d : Int) : Bool := inB a 0 120 && inB b 0 120 && inB c 0 120 && inB d 0 120
def srN (a b c d : Int) : Int := if srOk a b c d = true then ywN (b * c - a * d) (a + d - b - c) (min (min a b) (min c d)) else 0
def srD (a b c d : Int) : Int := if srOk a b c d = true then ywD (b * c - a * d) (a + d - b - c) (min (min a b) (min c d)) else 0
def srB (a b c d : Int) : Bool := if srOk a b c d = true then ywB (b * c - a * d) (a + d - b - c) (min (min a b) (min c d)) else false
theorem sr_not {a b c d : Int} (h : srOk a b c d = false) : srN a b c d = 0 ∧ srD a b c d = 0 ∧ srB a b c d = false := by simp [srN, srD, srB, h]
theorem sr_ok {a b c d : Int} (h : srOk a b c d = true) : srN a b c d = ywN (b * c - a * d) (a + d - b - c) (min (min a b) (min c d)) ∧ srD a b c d = ywD (b * c - a * d) (a + d - b - c) (min (min a b) (min c d)) ∧ srB a b c d = ywB (b * c - a * d) (a + d - b - c) (min (min a b) (min c d)) := by simp [srN, srD, srB, h]

set_option maxHeartbeats 4000000 in
set_option maxRecDepth 100000 in
theorem specSry_any (a b c d : Int) (w : World) : Calls Try.prog 30 #[.int .i64 a, .int .i64 b, .int .i64 c, .int .i64 d] w (RetIIB (srN a b c d) (srD a b c d) (srB a b c d) w) := by
  cases h1 : inB a 0 120 with
  | false =>
    obtain ⟨e1, e2, e3⟩ := sr_not (show srOk a b c d = false by simp [srOk, h1])
    rw [e1, e2, e3]
    clear e1 e2 e3
    go_enter Try.func30, Try.ntmps30
    go_wp2_with (first | (go_at_call 51; first | (refine (raAge_t _ (by assumption) _).mono ?_; rintro e w' ⟨rfl, rfl⟩) | (refine (raAge_f _ (by assumption) _).mono ?_; rintro e w' ⟨rfl, rfl⟩)))
    go_ret3
    exact ⟨rfl, Below.refl _ _⟩
  | true =>
  cases h2 : inB b 0 120 with
  | false =>
    obtain ⟨e1, e2, e3⟩ := sr_not (show srOk a b c d = false by simp [srOk, h1, h2])
    rw [e1, e2, e3]
    clear e1 e2 e3
    go_enter Try.func30, Try.ntmps30
    go_wp2_with (first | (go_at_call 51; first | (refine (raAge_t _ (by assumption) _).mono ?_; rintro e w' ⟨rfl, rfl⟩) | (refine (raAge_f _ (by assumption) _).mono ?_; rintro e w' ⟨rfl, rfl⟩)))
    go_ret3
    exact ⟨rfl, Below.refl _ _⟩
  | true =>
  cases h3 : inB c 0 120 with
  | false =>
    obtain ⟨e1, e2, e3⟩ := sr_not (show srOk a b c d = false by simp [srOk, h1, h2, h3])
    rw [e1, e2, e3]
    clear e1 e2 e3
    go_enter Try.func30, Try.ntmps30
    go_wp2_with (first | (go_at_call 51; first | (refine (raAge_t _ (by assumption) _).mono ?_; rintro e w' ⟨rfl, rfl⟩) | (refine (raAge_f _ (by assumption) _).mono ?_; rintro e w' ⟨rfl, rfl⟩)))
    go_ret3
    exact ⟨rfl, Below.refl _ _⟩
  | true =>
  cases h4 : inB d 0 120 with
  | false =>
    obtain ⟨e1, e2, e3⟩ := sr_not (show srOk a b c d = false by simp [srOk, h1, h2, h3, h4])
    rw [e1, e2, e3]
    clear e1 e2 e3
    go_enter Try.func30, Try.ntmps30
    go_wp2_with (first | (go_at_call 51; first | (refine (raAge_t _ (by assumption) _).mono ?_; rintro e w' ⟨rfl, rfl⟩) | (refine (raAge_f _ (by assumption) _).mono ?_; rintro e w' ⟨rfl, rfl⟩)))
    go_ret3
    exact ⟨rfl, Below.refl _ _⟩
  | true =>
    obtain ⟨e1, e2, e3⟩ := sr_ok (show srOk a b c d = true by simp [srOk, h1, h2, h3, h4])
    rw [e1, e2, e3]
    clear e1 e2 e3
    have ha := inB_iff.1 h1
    have hb := inB_iff.1 h2
    have hc := inB_iff.1 h3
    have hd := inB_iff.1 h4
    have m1 := mul_bd (x := b) (y := c) (X := 120) (Y := 120) ⟨by omega, by omega⟩ ⟨by omega, by omega⟩
    have m2 := mul_bd (x := a) (y := d) (X := 120) (Y := 120) ⟨by omega, by omega⟩ ⟨by omega, by omega⟩
    by_cases hz : a + d - b - c = 0
    · unfold ywN ywD ywB
      rw [if_pos hz, if_pos hz, if_pos hz]
      go_enter Try.func30, Try.ntmps30
      go_wp2_with (first | (go_at_call 51; first | (refine (raAge_t _ (by assumption) _).mono ?_; rintro e w' ⟨rfl, rfl⟩) | (refine (raAge_f _ (by assumption) _).mono ?_; rintro e w' ⟨rfl, rfl⟩)))
      go_ret3
      exact ⟨rfl, by first | assumption | exact Below.refl _ _⟩
    · have hq := hz
      have hz0 : (a + d - b - c == 0) = false := beq_eq_false_iff_ne.2 hz
      have hb4 := rl_bd_any (b * c - a * d) (a + d - b - c) hq
      have HL := Lib.hid (fun w => raLow_any (b * c - a * d) (a + d - b - c) w (by omega) hq (by omega))
      unfold ywN ywD ywB
      rw [if_neg hq, if_neg hq, if_neg hq]
      generalize rlN (b * c - a * d) (a + d - b - c) = u at *
      generalize rlD (b * c - a * d) (a + d - b - c) = v at *
      have hmn : 0 ≤ min (min a b) (min c d) ∧ min (min a b) (min c d) ≤ 120 := by omega
      have HM1 := Lib.hid (fun w => l1Least_any a b w)
      have HM2 := Lib.hid (fun w => l1Least_any c d w)
      have HM3 := Lib.hid (fun w => l1Least_any (min a b) (min c d) w)
      generalize min (min a b) (min c d) = mn at *
      generalize min a b = ma at *
      generalize min c d = mc at *
      have m3 := mul_bd (x := mn) (y := v) (X := 120) (Y := 240) hmn ⟨by omega, by omega⟩
      by_cases hs : mn * v + u ≤ 0
      · rw [if_pos hs, if_pos hs, if_pos hs]
        go_enter Try.func30, Try.ntmps30
        go_wp2_with (first | (go_at_call 51; first | (refine (raAge_t _ (by assumption) _).mono ?_; rintro e w' ⟨rfl, rfl⟩) | (refine (raAge_f _ (by assumption) _).mono ?_; rintro e w' ⟨rfl, rfl⟩)) | (go_at_call 52; refine (HL.out _).mono ?_; rintro e w' ⟨rfl, hcall⟩) | (go_at_call 53; first | (refine (HM1.out _).mono ?_; rintro e w' ⟨rfl, rfl⟩) | (refine (HM2.out _).mono ?_; rintro e w' ⟨rfl, rfl⟩) | (refine (HM3.out _).mono ?_; rintro e w' ⟨rfl, rfl⟩)))
        go_ret3
        exact ⟨rfl, by first | assumption | exact Below.refl _ _⟩
      · rw [if_neg hs, if_neg hs, if_neg hs]
        go_enter Try.func30, Try.ntmps30
        go_wp2_with (first | (go_at_call 51; first | (refine (raAge_t _ (by assumption) _).mono ?_; rintro e w' ⟨rfl, rfl⟩) | (refine (raAge_f _ (by assumption) _).mono ?_; rintro e w' ⟨rfl, rfl⟩)) | (go_at_call 52; refine (HL.out _).mono ?_; rintro e w' ⟨rfl, hcall⟩) | (go_at_call 53; first | (refine (HM1.out _).mono ?_; rintro e w' ⟨rfl, rfl⟩) | (refine (HM2.out _).mono ?_; rintro e w' ⟨rfl, rfl⟩) | (refine (HM3.out _).mono ?_; rintro e w' ⟨rfl, rfl⟩)))
        go_ret3
        exact ⟨rfl, by first | assumption | exact Below.refl _ _⟩
end Go.Proofs.Ytmidobhfahpkcaa
