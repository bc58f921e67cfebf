/- What the library's listed variables hold, and that it stays; what Itoa, Join, SplitN and Atoi do then. -/
import Derived.Test.YtmidobhfahpkcabDoorDLib
import Derived.Test.YtmidobhfahpkcabDoorKit
import Derived.Test.YtmidobhfahpkcabDoorRDText
import Derived.Test.YtmidobhfahpkcabDoorCh
import Derived.Lib.LaidTab
import Derived.Lib.SmallJoins
set_option linter.unusedVariables false
set_option linter.unusedSimpArgs false
namespace Go.Proofs.YtmidobhfahpkcabDoor
open Go.RowKit

/-- The table of powers of ten is what it is. -/
def EnvT (w : World) : Prop := Lib.TabIs Tryd.prog w "internal/strconv.uint64pow10" .u64 Lib.pow10Tab
/-- The two errors are errors, and the longest length is a number. -/
structure EnvE (w : World) : Prop where
  syn : ∃ te pe, w.cell? ⟨2, 0, none⟩ = some (.iface te pe)
  rng : ∃ te pe, w.cell? ⟨3, 0, none⟩ = some (.iface te pe)
  max : ∃ m, w.cell? ⟨1, 0, none⟩ = some (.int .i64 m)
theorem var_kept {P : Program} {w w' : World} {n : String} {cs : Array Value} (h : w.var? P n = some cs) (hb : Below w.heap.size w w') : w'.var? P n = some cs := by
  cases hg : P.globalNamed n with
  | none => simp [World.var?, hg] at h
  | some g => exact Go.Joins.var_stays hg h hb (Nat.le_refl _)
theorem EnvT.kept {w w' : World} (h : EnvT w) (hb : Below w.heap.size w w') : EnvT w' := var_kept h hb
theorem cell_kept {w w' : World} {g : Nat} {v : Value} (h : w.cell? ⟨g, 0, none⟩ = some v) (hb : Below w.heap.size w w') : w'.cell? ⟨g, 0, none⟩ = some v :=
  (hb.cell (p := ⟨g, 0, none⟩) (World.block_lt_of_cell? w _ h)).trans h
theorem EnvE.kept {w w' : World} (h : EnvE w) (hb : Below w.heap.size w w') : EnvE w' := by
  obtain ⟨⟨a, b, h1⟩, ⟨c, d, h2⟩, ⟨m, h3⟩⟩ := h
  exact ⟨⟨a, b, cell_kept h1 hb⟩, ⟨c, d, cell_kept h2 hb⟩, ⟨m, cell_kept h3 hb⟩⟩
theorem below_grown_draws (w : World) (k : Nat) (os : Array Obj) : Below w.heap.size w (Go.Sort.grow (w.drewN k) os) :=
  ⟨rfl, rfl, rfl, by simp, fun i hi => by
    show (w.heap ++ os)[i]? = w.heap[i]?
    rw [Array.getElem?_append_left hi]⟩

/-- strconv.Itoa of a year or a day. -/
theorem itoa_year (z : Int) (h0 : 0 ≤ z) (h1 : z ≤ 3000) (w : World) (E : EnvT w) :
    Calls Tryd.prog 18 #[.int .i64 z] w fun e w' => e = .returned (.string (decB z)) ∧ Below w.heap.size w w' := by
  refine (strconv_Itoa z (by omega) (by omega) w E).mono ?_
  rintro e w' ⟨rfl, k, os, rfl⟩
  refine ⟨?_, below_grown_draws w k os⟩
  unfold decB Lib.itoa
  rw [if_neg (by omega)]
/-- strconv.Atoi of a text that is a number. -/
theorem atoi_ok (s : ByteArray) (hs : s.size ≤ 1048576) (v : Int) (h : Lib.atoiAll s.data.toList = .ok v) (w : World) :
    Calls Tryd.prog 37 #[.string s] w fun e w' => e = .returned (.tuple #[.int .i64 v, .nilIface]) ∧ Below w.heap.size w w' := by
  refine (strconv_Atoi_ok s (by omega) v h w).mono ?_
  rintro e w' ⟨rfl, rfl | ⟨t, rfl⟩⟩
  · exact ⟨rfl, Below.refl _ _⟩
  · exact ⟨rfl, Go.Joins.below_bytesWorld _ _ _ _ (Nat.le_refl _)⟩
/-- strconv.Atoi of a text that is none, or is too great: an error. -/
theorem atoi_bad (s : ByteArray) (hs : s.size ≤ 1048576) (h : ∀ v, Lib.atoiAll s.data.toList ≠ .ok v) (w : World) (E : EnvE w) :
    Calls Tryd.prog 37 #[.string s] w fun e w' => ∃ v te pe, e = .returned (.tuple #[.int .i64 v, .iface te pe]) ∧ Below w.heap.size w w' := by
  obtain ⟨a, b, h1⟩ := E.syn
  obtain ⟨c, d, h2⟩ := E.rng
  cases hq : Lib.atoiAll s.data.toList
  · exact absurd hq (h _)
  · refine (strconv_Atoi_syntax s (by omega) hq _ w h1 (.inr ⟨_, _, rfl⟩)).mono ?_
    rintro e w' ⟨N, rfl, _, _, hb⟩
    exact ⟨_, _, _, rfl, hb⟩
  · refine (strconv_Atoi_range s (by omega) hq _ w h2 (.inr ⟨_, _, rfl⟩)).mono ?_
    rintro e w' ⟨N, rfl, _, _, hb⟩
    exact ⟨_, _, _, rfl, hb⟩
end Go.Proofs.YtmidobhfahpkcabDoor
