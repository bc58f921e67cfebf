/- Dates that are told by days, of the model. -/
import Derived.Test.YtbhceokapbnhhaaDoorBi3
set_option linter.unusedVariables false
set_option linter.unusedSimpArgs false
namespace Go.Proofs.YtbhceokapbnhhaaDoor
open Go.RowKit

def absI (n : Int) : Int := if 0 ≤ n then n else -n
def twoD (a b : Dt) : Bool := dateB a && dateB b
def apartR (a b : Dt) : Int := if twoD a b = true then absI (dys a - dys b) else 0
end Go.Proofs.YtbhceokapbnhhaaDoor
