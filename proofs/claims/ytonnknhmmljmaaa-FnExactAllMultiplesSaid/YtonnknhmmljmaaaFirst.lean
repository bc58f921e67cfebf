/- The first of the years found. -/
import Derived.Test.YtonnknhmmljmaaaYTo
import Derived.Test.YtonnknhmmljmaaaSums
import Derived.Deep.RegionHeld3
set_option linter.unusedVariables false
set_option linter.unusedSimpArgs false
namespace Go.Proofs.Ytonnknhmmljmaaa
open Go.RowKit

/-- Below, and a cell of the first world. -/
theorem below_cells {W W' : World} (hb : Below W.heap.size W W') {g : Nat} {j : Nat} {v : Value} (h : W.cell? ⟨g, j, none⟩ = some v) : W'.cell? ⟨g, j, none⟩ = some v :=
  (hb.cell (p := ⟨g, j, none⟩) (World.block_lt_of_cell? W _ h)).trans h
theorem firstOf_some (B g c : Nat) (zs : List Int) (w : World) (h0 : 0 < zs.length) (h1 : zs.length ≤ 1048576) (hI : Ints w g 0 zs) :
    Calls Try.prog 60 #[.slice (some ⟨g, 0, none⟩) zs.length c] w (RetIB (zs.getD 0 0) true w) := by
  have hc := hI 0 h0
  rw [Nat.zero_add] at hc
  have hne : ((zs.length : Int) == 0) = false := beq_eq_false_iff_ne.2 (by omega)
  have hp : (0 : Int) < (zs.length : Int) := by omega
  generalize hz : zs.getD 0 0 = z at hc
  clear hz
  go_enter Try.func60, Try.ntmps60
  go_wp2
  go_ret2
  exact ⟨rfl, Below.refl _ _⟩
theorem firstOf_none (a : Option Addr) (c : Nat) (w : World) :
    Calls Try.prog 60 #[.slice a 0 c] w (RetIB 0 false w) := by
  go_enter Try.func60, Try.ntmps60
  go_wp2
  go_ret2
  exact ⟨rfl, Below.refl _ _⟩
theorem firstOf_any (B : Nat) (v : Value) (zs : List Int) (w : World) (h1 : zs.length ≤ 1048576) (ho : Own B w v zs) :
    Calls Try.prog 60 #[v] w (RetIB (zs.getD 0 0) (decide (0 < zs.length)) w) := by
  by_cases h0 : 0 < zs.length
  · obtain ⟨g, c, rfl, _, _, hI⟩ := ownNonempty ho h0
    rw [decide_eq_true h0]
    exact firstOf_some B g c zs w h0 h1 hI
  · have hz : zs = [] := List.eq_nil_of_length_eq_zero (by omega)
    subst hz
    rcases ho.cases with ⟨rfl, _⟩ | ⟨g, c, rfl, _⟩
    · exact firstOf_none _ _ _
    · exact firstOf_none _ _ _
/-- From the least year on. -/
theorem found_first {test : Int → Bool} {zs : List Int} {y : Int} (h1 : loY zs ≤ y) (h2 : y ≤ hiY zs) (ht : test y = true) (hf : ∀ x, loY zs ≤ x → x < y → test x = false) :
    (found test zs).getD 0 0 = y ∧ 0 < (found test zs).length := by
  obtain ⟨m, hm⟩ : ∃ m : Nat, y = loY zs + m := ⟨(y - loY zs).toNat, by omega⟩
  have hN : m < nY zs := by unfold nY; omega
  obtain ⟨r, e⟩ := yTo_first (lo := loY zs) (test := test) (m := m) (by rw [← hm]; exact ht) (fun j hj => hf _ (by omega) (by omega)) hN
  unfold found
  rw [e]
  exact ⟨by simp [hm], by simp⟩
theorem found_none {test : Int → Bool} {zs : List Int} (hf : ∀ x, loY zs ≤ x → x ≤ hiY zs → test x = false) : found test zs = [] :=
  yTo_none fun j hj => hf _ (by omega) (by unfold nY at hj; omega)
end Go.Proofs.Ytonnknhmmljmaaa
