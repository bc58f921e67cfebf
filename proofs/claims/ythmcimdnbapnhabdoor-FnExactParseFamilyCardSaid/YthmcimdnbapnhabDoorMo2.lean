/- Whether there is somebody, two; children, parents in common, siblings, cousins: the model's text. -/
import Derived.Test.YthmcimdnbapnhabDoorMo1
set_option linter.unusedVariables false
set_option linter.unusedSimpArgs false
namespace Go.Proofs.YthmcimdnbapnhabDoor
open Go.RowKit

/-- An owned slice of numbers is a slice that can be read. -/
theorem Own.arg {B : Nat} {w : World} {v : Value} {zs : List Int} (h : Own B w v zs) : ∃ a c, v = .slice a zs.length c ∧ Arg w a zs.length zs := by
  rcases h.cases with ⟨rfl, rfl⟩ | ⟨g, c, rfl, _, hg, _, _, hI, _⟩
  · exact ⟨none, 0, rfl, rfl, .inl rfl⟩
  · exact ⟨_, c, rfl, rfl, .inr ⟨g, 0, rfl, hg, hI⟩⟩
theorem parI_len (fs : List Kn) (i : Nat) : (parI fs i).length ≤ 2 := List.length_filter_le _ _
/-- Those of the first k numbers that answer with yes. -/
def pickI (q : Nat → Bool) (k : Nat) : List Int := ((List.range k).filter q).map fun (n : Nat) => (n : Int)
theorem pickI_yes {q : Nat → Bool} {k : Nat} (h : q k = true) : pickI q (k + 1) = pickI q k ++ [(k : Int)] := by
  unfold pickI; rw [List.range_succ, List.filter_append, List.map_append, List.filter_cons, if_pos h]; rfl
theorem pickI_no {q : Nat → Bool} {k : Nat} (h : q k = false) : pickI q (k + 1) = pickI q k := by
  unfold pickI; rw [List.range_succ, List.filter_append, List.map_append, List.filter_cons, if_neg (by rw [h]; simp)]; simp
theorem pickI_len (q : Nat → Bool) (k : Nat) : (pickI q k).length ≤ k := by
  unfold pickI; rw [List.length_map]; exact Nat.le_trans (List.length_filter_le _ _) (by simp)
def isChiB (fs : List Kn) (a : Int) (c : Nat) : Bool := (parI fs c).contains a
def whoB (fs : List Kn) (x : Int) : Bool := famB fs && inB x 0 ((fs.length : Int) - 1)
def twoM (fs : List Kn) (x y : Int) : Bool := whoB fs x && inB y 0 ((fs.length : Int) - 1)
theorem twoM_yes {fs : List Kn} {x y : Int} (h : twoM fs x y = true) : famB fs = true ∧ ∃ a b : Nat, x = a ∧ y = b ∧ a < fs.length ∧ b < fs.length := by
  unfold twoM whoB at h
  rw [Bool.and_eq_true, Bool.and_eq_true, inB_iff, inB_iff] at h
  exact ⟨h.1.1, x.toNat, y.toNat, by omega, by omega, by omega, by omega⟩
theorem whoB_yes {fs : List Kn} {x : Int} (h : whoB fs x = true) : famB fs = true ∧ ∃ a : Nat, x = a ∧ a < fs.length := by
  unfold whoB at h
  rw [Bool.and_eq_true, inB_iff] at h
  exact ⟨h.1, x.toNat, by omega, by omega⟩
end Go.Proofs.YthmcimdnbapnhabDoor
