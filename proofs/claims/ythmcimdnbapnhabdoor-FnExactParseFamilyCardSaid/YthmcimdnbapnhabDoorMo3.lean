/- Parents in common, siblings, cousins: the model's text. -/
import Derived.Test.YthmcimdnbapnhabDoorMo2
set_option linter.unusedVariables false
set_option linter.unusedSimpArgs false
namespace Go.Proofs.YthmcimdnbapnhabDoor
open Go.RowKit

/-- A parent of somebody of a family is one of it, told before. -/
theorem parI_mem {fs : List Kn} {i : Nat} (hf : famB fs = true) (hi : i < fs.length) {p : Int} (hp : p ∈ parI fs i) : ∃ n : Nat, p = n ∧ n < i := by
  have h := fitB_par (famB_at hf i hi)
  unfold parI at hp
  rw [List.mem_filter] at hp
  obtain ⟨h1, h2⟩ := hp
  have h2' : 0 ≤ p := by simpa using h2
  simp only [List.mem_cons, List.not_mem_nil, or_false] at h1
  refine ⟨p.toNat, by omega, ?_⟩
  rcases h1 with rfl | rfl
  · rcases h with ⟨h, _⟩ | ⟨h, _⟩ <;> omega
  · rcases h with ⟨_, h⟩ | ⟨h, _, h'⟩
    · omega
    · rcases h' with h' | ⟨_, h', _⟩ <;> omega
theorem parI_getD {fs : List Kn} {i k : Nat} (hf : famB fs = true) (hi : i < fs.length) (hk : k < (parI fs i).length) : ∃ n : Nat, (parI fs i).getD k 0 = n ∧ n < i := by
  have e : (parI fs i).getD k 0 = (parI fs i)[k] := by simp [List.getElem?_eq_getElem hk]
  rw [e]; exact parI_mem hf hi (List.getElem_mem hk)
/-- How many of the first k numbers are among the others. -/
def shT (zs ys : List Int) (k : Nat) : Nat := ((zs.take k).filter fun p => ys.contains p).length
theorem shT_yes {zs ys : List Int} {k : Nat} (hk : k < zs.length) (h : ys.contains (zs.getD k 0) = true) : shT zs ys (k + 1) = shT zs ys k + 1 := by
  have e : zs.getD k 0 = zs[k] := by simp [List.getElem?_eq_getElem hk]
  rw [e] at h
  unfold shT
  rw [List.take_succ_eq_append_getElem hk, List.filter_append, List.filter_cons, if_pos h, List.filter_nil, List.length_append]; rfl
theorem shT_no {zs ys : List Int} {k : Nat} (hk : k < zs.length) (h : ys.contains (zs.getD k 0) = false) : shT zs ys (k + 1) = shT zs ys k := by
  have e : zs.getD k 0 = zs[k] := by simp [List.getElem?_eq_getElem hk]
  rw [e] at h
  unfold shT
  rw [List.take_succ_eq_append_getElem hk, List.filter_append, List.filter_cons, if_neg (by rw [h]; simp), List.filter_nil, List.append_nil]
def shM (fs : List Kn) (i j : Nat) : Nat := shT (parI fs i) (parI fs j) (parI fs i).length
def sibM (fs : List Kn) (i j : Nat) : Bool := !((i : Int) == (j : Int)) && decide (0 < shM fs i j)
def halfM (fs : List Kn) (i j : Nat) : Bool := !((i : Int) == (j : Int)) && ((shM fs i j : Nat) : Int) == 1
def cousM (fs : List Kn) (i j : Nat) : Bool := !(((i : Int) == (j : Int)) || sibM fs i j) && (parI fs i).any fun x => (parI fs j).any fun y => sibM fs x.toNat y.toNat
theorem any_getD {zs : List Int} {q : Int → Bool} (k : Nat) (hk : k < zs.length) (h : q (zs.getD k 0) = true) : zs.any q = true := by
  have e : zs.getD k 0 = zs[k] := by simp [List.getElem?_eq_getElem hk]
  rw [e] at h
  exact List.any_eq_true.2 ⟨_, List.getElem_mem hk, h⟩
theorem any_none {zs : List Int} {q : Int → Bool} (h : ∀ k, k < zs.length → q (zs.getD k 0) = false) : zs.any q = false := by
  rw [List.any_eq_false]
  intro z hz
  obtain ⟨j, hj, rfl⟩ := List.getElem_of_mem hz
  simpa [List.getElem?_eq_getElem hj] using h j hj
end Go.Proofs.YthmcimdnbapnhabDoor
