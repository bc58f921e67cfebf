/- The ages of people as a list. -/
import Derived.Test.YtjabghojenhhiaaProd
set_option linter.unusedVariables false
set_option linter.unusedSimpArgs false
namespace Go.Proofs.Ytjabghojenhhiaa
open Go.RowKit

end Go.Proofs.Ytjabghojenhhiaa
