/- What a send and a select of one receive ask for, by their operands. -/
import Derived.Test.YtmlcelleohhmcaaWn
import Derived.Test.YtmlcelleohhmcaaHelp
set_option linter.unusedVariables false
set_option linter.unusedSimpArgs false
namespace Go.Proofs.Ytmlcelleohhmcaa
open Go Go.Conc Go.RowKit

theorem exec_select (a : Act) (x : Operand) (c : Nat) (o : Oper) (w : World) (ho : o.op = .select #[{ chan := x, send := none, elem := 70 }] false) (hx : a.eval x = .chan (some c)) :
    (execOp a.eval o).run Try.prog w = .ok (.comm #[rcase c (.agg #[.int .i64 0, .int .i64 0, .int .i64 0, .int .i64 0])] false .select) w := by
  simp [execOp, ho, hx, rcase, Try.zeroValue70]
theorem exec_send (a : Act) (x y : Operand) (c : Nat) (v : Value) (o : Oper) (w : World) (ho : o.op = .send x y) (hx : a.eval x = .chan (some c)) (hy : a.eval y = v) :
    (execOp a.eval o).run Try.prog w = .ok (.comm #[scase c v (.tuple #[])] true .send) w := by
  simp [execOp, ho, hx, hy, scase]
end Go.Proofs.Ytmlcelleohhmcaa
