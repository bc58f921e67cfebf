/- What the library's listed variables hold, and that it stays; what Itoa, Join, SplitN and Atoi do then. -/
import Derived.Test.YtadfojjglceheaaDoorDLib
import Derived.Test.YtadfojjglceheaaDoorKit
import Derived.Test.YtadfojjglceheaaDoorDText
import Derived.Test.YtadfojjglceheaaDoorGood
import Derived.Lib.LaidTab
import Derived.Lib.SmallJoins
set_option linter.unusedVariables false
set_option linter.unusedSimpArgs false
namespace Go.Proofs.YtadfojjglceheaaDoor
open Go.RowKit

/-- The table of powers of ten is what it is. -/
def EnvT (w : World) : Prop := Lib.TabIs Tryd.prog w "internal/strconv.uint64pow10" .u64 Lib.pow10Tab
theorem var_kept {P : Program} {w w' : World} {n : String} {cs : Array Value} (h : w.var? P n = some cs) (hb : Below w.heap.size w w') : w'.var? P n = some cs := by
  cases hg : P.globalNamed n with
  | none => simp [World.var?, hg] at h
  | some g => exact Go.Joins.var_stays hg h hb (Nat.le_refl _)
theorem EnvT.kept {w w' : World} (h : EnvT w) (hb : Below w.heap.size w w') : EnvT w' := var_kept h hb
theorem below_grown_draws (w : World) (k : Nat) (os : Array Obj) : Below w.heap.size w (Go.Sort.grow (w.drewN k) os) :=
  ⟨rfl, rfl, rfl, by simp, fun i hi => by
    show (w.heap ++ os)[i]? = w.heap[i]?
    rw [Array.getElem?_append_left hi]⟩

/-- strconv.Itoa of a year or a day. -/
theorem itoa_year (z : Int) (h0 : 0 ≤ z) (h1 : z ≤ 3000) (w : World) (E : EnvT w) :
    Calls Tryd.prog 16 #[.int .i64 z] w fun e w' => e = .returned (.string (decB z)) ∧ Below w.heap.size w w' := by
  refine (strconv_Itoa z (by omega) (by omega) w E).mono ?_
  rintro e w' ⟨rfl, k, os, rfl⟩
  refine ⟨?_, below_grown_draws w k os⟩
  unfold decB Lib.itoa
  rw [if_neg (by omega)]
end Go.Proofs.YtadfojjglceheaaDoor
