/- Whether a number is of a kind: both texts. -/
import Derived.Test.YtjabghojenhhiaaDoorFor
import Derived.Test.YtjabghojenhhiaaDoorNum
import Derived.Laws.StructEq
set_option linter.unusedVariables false
set_option linter.unusedSimpArgs false
namespace Go.Proofs.YtjabghojenhhiaaDoor
open Go.RowKit

/-- A call returned marks and a bool. -/
def RetMarksB (p : Nat → Bool) (ok : Bool) (w : World) (e : Ending) (w' : World) : Prop := e = .returned (.tuple #[.agg (pc p), .bool ok]) ∧ Below w.heap.size w w'
def RetBB (r ok : Bool) (w : World) (e : Ending) (w' : World) : Prop := e = .returned (.tuple #[.bool r, .bool ok]) ∧ Below w.heap.size w w'

theorem str_is (s t : ByteArray) (l : List UInt8) (hl : t.toList = l) : (s.toList == l) = decide (s = t) := by
  rw [← hl, ← beq_toListBytes, beqS]
theorem sP_list : sP.toList = [112] := by rw [ByteArray.toList_eq]; rfl
theorem sS_list : sS.toList = [115] := by rw [ByteArray.toList_eq]; rfl
theorem sC_list : sC.toList = [99] := by rw [ByteArray.toList_eq]; rfl
theorem sT_list : sT.toList = [116] := by rw [ByteArray.toList_eq]; rfl
theorem sD_list : sD.toList = [100] := by rw [ByteArray.toList_eq]; rfl
theorem sR_list : sR.toList = [114] := by rw [ByteArray.toList_eq]; rfl
theorem kind_no {s : ByteArray} (h : isK s = false) : (s.toList == [112]) = false ∧ (s.toList == [115]) = false ∧ (s.toList == [99]) = false ∧ (s.toList == [116]) = false ∧ (s.toList == [100]) = false ∧ (s.toList == [114]) = false := by
  have h' : ¬ (s = sP ∨ s = sS ∨ s = sC ∨ s = sT ∨ s = sD ∨ s = sR) := fun h2 => by rw [(isK_iff s).2 h2] at h; cases h
  simp only [not_or] at h'
  obtain ⟨h1, h2, h3, h4, h5, h6⟩ := h'
  exact ⟨by rw [str_is s _ _ sP_list]; exact decide_eq_false h1, by rw [str_is s _ _ sS_list]; exact decide_eq_false h2, by rw [str_is s _ _ sC_list]; exact decide_eq_false h3, by rw [str_is s _ _ sT_list]; exact decide_eq_false h4, by rw [str_is s _ _ sD_list]; exact decide_eq_false h5, by rw [str_is s _ _ sR_list]; exact decide_eq_false h6⟩
end Go.Proofs.YtjabghojenhhiaaDoor
