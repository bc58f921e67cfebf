/- The inner loop of linesFrom, cut out of its text. -/
import Derived.Test.YtmlcelleohhmcaaLf0
set_option linter.unusedVariables false
set_option linter.unusedSimpArgs false
namespace Go.Proofs.Ytmlcelleohhmcaa
open Go Go.Conc Go.RowKit

def codeSnd : Code → Code | .seq _ y => y | c => c
def codeFst : Code → Code | .seq x _ => x | c => c
def codeIn : Code → Code | .block _ c => c | .loop c => c | .cond _ x _ => x | c => c
end Go.Proofs.Ytmlcelleohhmcaa
