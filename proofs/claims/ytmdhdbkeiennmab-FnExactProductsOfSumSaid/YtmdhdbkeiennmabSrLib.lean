/- The library's copy of a slice of numbers, laid at this program. -/
import Derived.Test.YtmdhdbkeiennmabKit
import Derived.Test.YtmdhdbkeiennmabProg
import Derived.Ground.Names2Prog
import Derived.Shelf.Lay
import Derived.Shelf.Slices.Clone
namespace Go.Proofs
open Go.Shelf
shelf_lay Lays2.n15 Nm2 15 at Try as Try.laysClone
end Go.Proofs
set_option linter.unusedVariables false
set_option linter.unusedSimpArgs false
namespace Go.Proofs.Ytmdhdbkeiennmab
open Go.RowKit

/-- slices.Clone of n numbers, not none. -/
def RetClone (zs : List Int) (w : World) (e : Ending) (w' : World) : Prop :=
  ∃ v', e = .returned v' ∧ Own w.heap.size w' v' zs ∧ v' ≠ .slice none 0 0 ∧ Below w.heap.size w w'
theorem clone_any (g n cp : Nat) (zs : List Int) (w : World) (hl : zs.length = n) (hn : n ≤ 1000000) (h1 : 0 < n) (hI : Ints w g 0 zs) :
    Calls Try.prog 64 #[.slice (some ⟨g, 0, none⟩) n cp] w (RetClone zs w) := by
  have hcon := Any.slices_Clone_int Try.laysClone g 0 n cp zs w (by omega) (by omega) hI
  change Calls Try.prog 64 _ _ _ at hcon
  refine hcon.mono ?_
  rintro e w' ⟨v', rfl, hown, hnn, hb⟩
  refine ⟨v', rfl, ?_, hnn, hb⟩
  rw [← hl, List.take_length] at hown
  exact hown
end Go.Proofs.Ytmdhdbkeiennmab
