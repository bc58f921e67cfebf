/- Fractions in lowest terms, ratios, ages: both texts. -/
import Derived.Test.YtmidobhfahpkcabDoorGood
import Derived.Test.YtmidobhfahpkcabDoorRt
import Derived.IntWalk
set_option linter.unusedVariables false
set_option linter.unusedSimpArgs false
namespace Go.Proofs.YtmidobhfahpkcabDoor
open Go.RowKit

theorem tupEq (x y x' y' : Value) (h1 : x = x') (h2 : y = y') : Ending.returned (.tuple #[x, y]) = Ending.returned (.tuple #[x', y']) := by rw [h1, h2]
theorem wdivZ (n g : Int) (h : -1152921504606846976 ≤ n ∧ n ≤ 1152921504606846976) (hg : 1 ≤ g) (hd : g ∣ n) : wrap64 (Int.tdiv n g) = n / g := by
  rw [Int.tdiv_eq_ediv_of_dvd hd]
  obtain ⟨k, rfl⟩ := hd
  rw [Int.mul_ediv_cancel_left _ (by omega)]
  have h1 : k.natAbs ≤ (g * k).natAbs := by rw [Int.natAbs_mul]; exact Nat.le_mul_of_pos_left _ (by omega)
  exact IntWalk.wrap64_in _ (by omega)
theorem wdivE (n g : Int) (h : -1152921504606846976 ≤ n ∧ n ≤ 1152921504606846976) (hg : 1 ≤ g) (hd : g ∣ n) : wrap64 (n / g) = n / g := by
  rw [← Int.tdiv_eq_ediv_of_dvd hd, wdivZ n g h hg hd, Int.tdiv_eq_ediv_of_dvd hd]

end Go.Proofs.YtmidobhfahpkcabDoor
