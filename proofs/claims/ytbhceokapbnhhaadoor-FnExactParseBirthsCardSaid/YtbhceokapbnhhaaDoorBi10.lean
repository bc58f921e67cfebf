/- The ages of all, of the model. -/
import Derived.Test.YtbhceokapbnhhaaDoorBi9
set_option linter.unusedVariables false
set_option linter.unusedSimpArgs false
namespace Go.Proofs.YtbhceokapbnhhaaDoor
open Go.RowKit

/-- The ages of the first k. -/
def agesTo (ds : List Dt) (o : Dt) (k : Nat) : List Int := (ds.take k).map fun b => ageD b o
theorem agesTo_zero (ds : List Dt) (o : Dt) : agesTo ds o 0 = [] := rfl
theorem agesTo_succ (ds : List Dt) (o : Dt) (k : Nat) (hk : k < ds.length) : agesTo ds o (k + 1) = agesTo ds o k ++ [ageD (at2 ds k) o] := by
  unfold agesTo
  rw [List.take_succ_eq_append_getElem hk, List.map_append]
  simp [at2, List.getElem?_eq_getElem hk]
theorem agesTo_len (ds : List Dt) (o : Dt) (k : Nat) : (agesTo ds o k).length ≤ ds.length := by simp [agesTo]; omega
def agesOnR (ds : List Dt) (o : Dt) : List Int := if allBorn ds o = true then agesTo ds o ds.length else []
theorem agesOnR_len (ds : List Dt) (o : Dt) : (agesOnR ds o).length ≤ 8 := by
  unfold agesOnR
  split
  · have := agesTo_len ds o ds.length
    have := birthsB_len (allBorn_parts ‹_›).1
    omega
  · exact Nat.zero_le _
end Go.Proofs.YtbhceokapbnhhaaDoor

