/- Dates so many days later, of the model. -/
import Derived.Test.YtbhceokapbnhhaaDoorBi4
set_option linter.unusedVariables false
set_option linter.unusedSimpArgs false
namespace Go.Proofs.YtbhceokapbnhhaaDoor
open Go.RowKit

def addD (p : Dt) (n : Int) : Bool := dateB p && inB n (-2000000) 2000000
def addP (p : Dt) (n : Int) : Dt := if addD p n = true then backD (dys p + n) else (0, 0)
def addB (p : Dt) (n : Int) : Bool := addD p n && backOk (dys p + n)
end Go.Proofs.YtbhceokapbnhhaaDoor
