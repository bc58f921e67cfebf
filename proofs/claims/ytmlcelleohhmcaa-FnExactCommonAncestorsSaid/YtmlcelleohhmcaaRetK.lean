/- What a call returned: two bools. -/
import Derived.Test.YtmlcelleohhmcaaKinHelp2
set_option linter.unusedVariables false
namespace Go.Proofs.Ytmlcelleohhmcaa
open Go.RowKit
def RetB2 (r ok : Bool) (w : World) (e : Ending) (w' : World) : Prop := e = .returned (.tuple #[.bool r, .bool ok]) ∧ Below w.heap.size w w'
end Go.Proofs.Ytmlcelleohhmcaa
