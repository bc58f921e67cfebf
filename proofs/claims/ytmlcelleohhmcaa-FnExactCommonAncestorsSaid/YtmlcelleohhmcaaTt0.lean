/- What is told of two kin: when it is. -/
import Derived.Test.YtmlcelleohhmcaaPa2
import Derived.Test.YtmlcelleohhmcaaKd
set_option linter.unusedVariables false
set_option linter.unusedSimpArgs false
namespace Go.Proofs.Ytmlcelleohhmcaa
open Go.RowKit

/-- A call returned a value of which ψ holds. -/
def RetV (ψ : World → Value → Prop) (w : World) (e : Ending) (w' : World) : Prop := ∃ v, e = .returned v ∧ ψ w' v ∧ Below w.heap.size w w'
/-- .. and true beside it. -/
def RetVB (ψ : World → Value → Prop) (w : World) (e : Ending) (w' : World) : Prop := ∃ v, e = .returned (.tuple #[v, .bool true]) ∧ ψ w' v ∧ Below w.heap.size w w'
def twoB (fs : List Kn) (x y : Int) : Bool := famB fs && (inB x 0 ((fs.length : Int) - 1) && inB y 0 ((fs.length : Int) - 1))
theorem twoB_yes {fs : List Kn} {x y : Int} (h : twoB fs x y = true) : famB fs = true ∧ ∃ a b : Nat, x = a ∧ y = b ∧ a < fs.length ∧ b < fs.length := by
  unfold twoB at h
  rw [Bool.and_eq_true, Bool.and_eq_true, inB_iff, inB_iff] at h
  exact ⟨h.1, x.toNat, y.toNat, by omega, by omega, by omega, by omega⟩
end Go.Proofs.Ytmlcelleohhmcaa
