/- Whether a number is of a kind: both texts. -/
import Derived.Test.YtjabghojenhhiaaFor
import Derived.Test.YtjabghojenhhiaaNum
import Derived.Laws.StructEq
set_option linter.unusedVariables false
set_option linter.unusedSimpArgs false
namespace Go.Proofs.Ytjabghojenhhiaa
open Go.RowKit

/-- A call returned marks and a bool. -/
def RetMarksB (p : Nat → Bool) (ok : Bool) (w : World) (e : Ending) (w' : World) : Prop := e = .returned (.tuple #[.agg (pc p), .bool ok]) ∧ Below w.heap.size w w'
def RetBB (r ok : Bool) (w : World) (e : Ending) (w' : World) : Prop := e = .returned (.tuple #[.bool r, .bool ok]) ∧ Below w.heap.size w w'

set_option maxHeartbeats 4000000 in
set_option maxRecDepth 100000 in
theorem marksFor_any (s : ByteArray) (w : World) : Calls Try.prog 41 #[.string s] w (RetMarksB (kOf s) (isK s) w) := by
  have hz := zeroMarks
  go_enter Try.func41, Try.ntmps41
  go_wp2_with fail
  have hR := Lib.hid (blk_new w 50 (pc pnone))
  have hb0 : Below w.heap.size w (w.alloc (.cells (pc pnone) 50)) := (Below.refl _ _).alloc (Nat.le_refl _) _
  have hs0 : (w.alloc (.cells (pc pnone) 50)).heap.size = w.heap.size + 1 := by simp
  refine (byLetter_any _).mono ?_
  rintro e w1 ⟨b, rfl, hb, hm, hbw⟩
  have hR1 := Lib.hid (hR.out.kept hbw (by omega))
  have hb1 := hb0.trans (hbw.mono (by omega))
  have hz1 : w.heap.size < w1.heap.size := hR1.out.lt
  clear hs0 hb hbw hb0
  have HS := Lib.hid (blk_new w1 50 (pc pnone))
  have hR2 := Lib.hid (hR1.out.alloc (.cells (pc pnone) 50))
  have hb2 := hb1.alloc hb1.size (.cells (pc pnone) 50)
  have hLk := Lib.hid hm
  have HZ := Lib.hid hz
  clear hm
  go_wp2_with (first | (refine wpList_lookup_str rfl _ _ 74 rfl 9 50 Try.underlying74 Try.underlying9 (.agg (pc pnone)) (HZ.out _) b _ rfl hLk.out _ rfl ?_; rw [(look_letters _).1, (look_letters _).2]) | (refine wpList_store_row rfl _ _ _ rfl _ 50 _ _ rfl rfl HS.out (sizeMarksOf _) (pc_sizes _ _) (pc_one _) ?_; intro w2 hV hg2 hsz2) | (refine wpList_load_row rfl _ _ rfl _ 50 _ rfl hV 961 _ Try.underlying50 (sizeMarksOf _) ?_) | (refine wpList_store_row rfl _ _ _ rfl w.heap.size 50 _ _ rfl rfl (hR2.out.grown hg2 (by simp; omega)) (sizeMarksOf _) (pc_sizes _ _) (pc_one _) ?_; intro w3 hR4 hg3 hsz3))
  have hb3 : Below w.heap.size w w2 := hb2.grown hg2 (by simp; omega) (by intro k hk; simp at hk; omega)
  have hb4 : Below w.heap.size w w3 := hb3.grown hg3 hb3.size (by intro k hk; simp at hk; omega)
  have hld := run_loadMarks hR4
  refine bodyPost_ret (v := .tuple #[.agg (pc (kOf s)), .bool (isK s)]) ?_ rfl ⟨rfl, hb4⟩
  rw [results_cell_tmp rfl]
  simp [asAddr, Result.andThen, hld]

theorem str_is (s t : ByteArray) (l : List UInt8) (hl : t.toList = l) : (s.toList == l) = decide (s = t) := by
  rw [← hl, ← beq_toListBytes, beqS]
theorem sP_list : sP.toList = [112] := by rw [ByteArray.toList_eq]; rfl
theorem sS_list : sS.toList = [115] := by rw [ByteArray.toList_eq]; rfl
theorem sC_list : sC.toList = [99] := by rw [ByteArray.toList_eq]; rfl
theorem sT_list : sT.toList = [116] := by rw [ByteArray.toList_eq]; rfl
theorem sD_list : sD.toList = [100] := by rw [ByteArray.toList_eq]; rfl
theorem sR_list : sR.toList = [114] := by rw [ByteArray.toList_eq]; rfl
theorem kind_no {s : ByteArray} (h : isK s = false) : (s.toList == [112]) = false ∧ (s.toList == [115]) = false ∧ (s.toList == [99]) = false ∧ (s.toList == [116]) = false ∧ (s.toList == [100]) = false ∧ (s.toList == [114]) = false := by
  have h' : ¬ (s = sP ∨ s = sS ∨ s = sC ∨ s = sT ∨ s = sD ∨ s = sR) := fun h2 => by rw [(isK_iff s).2 h2] at h; cases h
  simp only [not_or] at h'
  obtain ⟨h1, h2, h3, h4, h5, h6⟩ := h'
  exact ⟨by rw [str_is s _ _ sP_list]; exact decide_eq_false h1, by rw [str_is s _ _ sS_list]; exact decide_eq_false h2, by rw [str_is s _ _ sC_list]; exact decide_eq_false h3, by rw [str_is s _ _ sT_list]; exact decide_eq_false h4, by rw [str_is s _ _ sD_list]; exact decide_eq_false h5, by rw [str_is s _ _ sR_list]; exact decide_eq_false h6⟩
set_option maxHeartbeats 1000000 in
theorem kiKind_any (s : ByteArray) (w : World) : Calls Try.prog 69 #[.string s] w (RetSame (.bool (isK s)) w) := by
  cases h : isK s with
  | false =>
    obtain ⟨h1, h2, h3, h4, h5, h6⟩ := kind_no h
    clear h
    go_enter Try.func69, Try.ntmps69
    go_wp2
    go_ret
    exact ⟨rfl, rfl⟩
  | true =>
    rcases (isK_iff s).1 h with rfl | rfl | rfl | rfl | rfl | rfl
    all_goals
      clear h
      have l1 := sP_list
      have l2 := sS_list
      have l3 := sC_list
      have l4 := sT_list
      have l5 := sD_list
      have l6 := sR_list
      go_enter Try.func69, Try.ntmps69
      go_wp2
      go_ret
      exact ⟨rfl, rfl⟩
end Go.Proofs.Ytjabghojenhhiaa
