/- TurnedAge, DigitSumOf, SquareYearOf, LastDigitsYear: one answer each of both texts. -/
import Derived.Test.YtjabghojenhhiabNum
set_option linter.unusedVariables false
set_option linter.unusedSimpArgs false
namespace Go.Proofs.Ytjabghojenhhiab
open Go.RowKit
theorem sameIB {r : Int} {ok : Bool} {w : World} : ∀ e w', RetSame (.tuple #[.int .i64 r, .bool ok]) w e w' → RetIB r ok w e w' := by
  rintro e w' ⟨rfl, rfl⟩
  exact ⟨rfl, Below.refl _ _⟩
theorem turnedAge_both (n : Int) : ∃ r ok, (∀ w, Calls Try.prog 26 #[.int .i64 n] w (RetIB r ok w)) ∧ (∀ w, Calls Try.prog 27 #[.int .i64 n] w (RetIB r ok w)) :=
  ⟨_, _, fun w => (specTurnedAge_any n w).mono sameIB, fun w => (turnedAge_any n w).mono sameIB⟩
theorem digitSumOf_both (n : Int) : ∃ r ok, (∀ w, Calls Try.prog 30 #[.int .i64 n] w (RetIB r ok w)) ∧ (∀ w, Calls Try.prog 31 #[.int .i64 n] w (RetIB r ok w)) :=
  ⟨_, _, fun w => (specDigitSumOf_any n w).mono sameIB, fun w => (digitSumOf_any n w).mono sameIB⟩
theorem lastDigits_both (n : Int) : ∃ r ok, (∀ w, Calls Try.prog 38 #[.int .i64 n] w (RetIB r ok w)) ∧ (∀ w, Calls Try.prog 39 #[.int .i64 n] w (RetIB r ok w)) :=
  ⟨_, _, fun w => (specLastDigits_any n w).mono sameIB, fun w => (lastDigits_any n w).mono sameIB⟩
theorem squareYear_both (n : Int) : ∃ r ok, (∀ w, Calls Try.prog 32 #[.int .i64 n] w (RetIB r ok w)) ∧ (∀ w, Calls Try.prog 33 #[.int .i64 n] w (RetIB r ok w)) :=
  ⟨_, _, fun w => (specSquareYear_any n w).mono sameIB, fun w => (squareYear_any n w).mono sameIB⟩
end Go.Proofs.Ytjabghojenhhiab
