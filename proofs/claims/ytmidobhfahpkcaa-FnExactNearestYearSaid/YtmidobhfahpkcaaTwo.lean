/- Two different ages: both texts. -/
import Derived.Test.YtmidobhfahpkcaaRg
set_option linter.unusedVariables false
set_option linter.unusedSimpArgs false
namespace Go.Proofs.Ytmidobhfahpkcaa
open Go.RowKit

theorem raTwo_any (a b : Int) (w : World) : Calls Try.prog 63 #[.int .i64 a, .int .i64 b] w (RetSame (.bool (inB a 0 120 && inB b 0 120 && decide (a ≠ b))) w) := by
  have HA0 := fun w => raAge_any a w
  have HB0 := fun w => raAge_any b w
  cases h1 : inB a 0 120 with
  | false =>
    rw [h1] at HA0
    have HA := Lib.hid HA0
    clear HA0 HB0
    go_enter Try.func63, Try.ntmps63
    go_wp2_with (first | (go_at_call 51; refine (HA.out _).mono ?_; rintro e w' ⟨rfl, rfl⟩))
    go_ret
    exact ⟨rfl, rfl⟩
  | true =>
    cases h2 : inB b 0 120 with
    | false =>
      rw [h1] at HA0
      rw [h2] at HB0
      have HA := Lib.hid HA0
      have HB := Lib.hid HB0
      clear HA0 HB0
      have hab : a ≠ b := by rintro rfl; rw [h1] at h2; cases h2
      go_enter Try.func63, Try.ntmps63
      go_wp2_with (first | (go_at_call_of 51 (Value.int IntKind.i64 a); refine (HA.out _).mono ?_; rintro e w' ⟨rfl, rfl⟩) | (go_at_call_of 51 (Value.int IntKind.i64 b); refine (HB.out _).mono ?_; rintro e w' ⟨rfl, rfl⟩))
      go_ret
      exact ⟨rfl, rfl⟩
    | true =>
      by_cases hab : a = b
      · rw [show decide (a ≠ b) = false by simp [hab]]
        subst hab
        rw [h1] at HA0
        have HA := Lib.hid HA0
        clear HA0 HB0
        go_enter Try.func63, Try.ntmps63
        go_wp2_with (first | (go_at_call 51; refine (HA.out _).mono ?_; rintro e w' ⟨rfl, rfl⟩))
        go_ret
        exact ⟨rfl, rfl⟩
      · rw [show decide (a ≠ b) = true by simp [hab]]
        have hab2 : (a != b) = true := bne_iff_ne.2 hab
        rw [h1] at HA0
        rw [h2] at HB0
        have HA := Lib.hid HA0
        have HB := Lib.hid HB0
        clear HA0 HB0
        go_enter Try.func63, Try.ntmps63
        go_wp2_with (first | (go_at_call_of 51 (Value.int IntKind.i64 a); refine (HA.out _).mono ?_; rintro e w' ⟨rfl, rfl⟩) | (go_at_call_of 51 (Value.int IntKind.i64 b); refine (HB.out _).mono ?_; rintro e w' ⟨rfl, rfl⟩))
        go_ret
        exact ⟨by first | rfl | (simp [hab]; done) | (simp; done), rfl⟩

theorem differ_any (a b : Int) (w : World) : Calls Try.prog 65 #[.int .i64 a, .int .i64 b] w (RetSame (.bool (inB a 0 120 && inB b 0 120 && decide (a ≠ b))) w) := by
  have HA0 := fun w => isAge_any a w
  have HB0 := fun w => isAge_any b w
  cases h1 : inB a 0 120 with
  | false =>
    rw [h1] at HA0
    have HA := Lib.hid HA0
    clear HA0 HB0
    go_enter Try.func65, Try.ntmps65
    go_wp2_with (first | (go_at_call 54; refine (HA.out _).mono ?_; rintro e w' ⟨rfl, rfl⟩))
    go_ret
    exact ⟨rfl, rfl⟩
  | true =>
    cases h2 : inB b 0 120 with
    | false =>
      rw [h1] at HA0
      rw [h2] at HB0
      have HA := Lib.hid HA0
      have HB := Lib.hid HB0
      clear HA0 HB0
      have hab : a ≠ b := by rintro rfl; rw [h1] at h2; cases h2
      go_enter Try.func65, Try.ntmps65
      go_wp2_with (first | (go_at_call_of 54 (Value.int IntKind.i64 a); refine (HA.out _).mono ?_; rintro e w' ⟨rfl, rfl⟩) | (go_at_call_of 54 (Value.int IntKind.i64 b); refine (HB.out _).mono ?_; rintro e w' ⟨rfl, rfl⟩))
      go_ret
      exact ⟨rfl, rfl⟩
    | true =>
      by_cases hab : a = b
      · rw [show decide (a ≠ b) = false by simp [hab]]
        subst hab
        rw [h1] at HA0
        have HA := Lib.hid HA0
        clear HA0 HB0
        go_enter Try.func65, Try.ntmps65
        go_wp2_with (first | (go_at_call 54; refine (HA.out _).mono ?_; rintro e w' ⟨rfl, rfl⟩))
        go_ret
        exact ⟨rfl, rfl⟩
      · rw [show decide (a ≠ b) = true by simp [hab]]
        have hab2 : (a != b) = true := bne_iff_ne.2 hab
        rw [h1] at HA0
        rw [h2] at HB0
        have HA := Lib.hid HA0
        have HB := Lib.hid HB0
        clear HA0 HB0
        go_enter Try.func65, Try.ntmps65
        go_wp2_with (first | (go_at_call_of 54 (Value.int IntKind.i64 a); refine (HA.out _).mono ?_; rintro e w' ⟨rfl, rfl⟩) | (go_at_call_of 54 (Value.int IntKind.i64 b); refine (HB.out _).mono ?_; rintro e w' ⟨rfl, rfl⟩))
        go_ret
        exact ⟨by first | rfl | (simp [hab]; done) | (simp; done), rfl⟩

end Go.Proofs.Ytmidobhfahpkcaa
