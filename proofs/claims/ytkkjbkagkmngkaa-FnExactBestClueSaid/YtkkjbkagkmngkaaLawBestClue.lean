/- The statement on BestClue, walked over the contracts of what it calls. -/
import Derived.Test.YtkkjbkagkmngkaaPzHelp
import Derived.Test.YtkkjbkagkmngkaaPz18
import Derived.Deep.CutRange
set_option linter.unusedVariables false
set_option linter.unusedSimpArgs false
namespace Go.Proofs.Ytkkjbkagkmngkaa
open Go.RowKit

set_option maxHeartbeats 8000000 in
set_option maxRecDepth 100000 in
theorem law_BestClue_of (p : Int) (a : Option Addr) (n c : Nat) (ds : List Kn) (r : Int) (ok : Bool) (w : World) (h : ArgK w a n ds) (hm : n ≤ maxLen)
    (hs : ∀ b c w, ds.length ≤ 1048576 → ds.length ≤ c → b < w.heap.size → Kns w b 0 ds → Calls Try.prog 47 #[.agg #[.int .i64 p, .slice (some ⟨b, 0, none⟩) ds.length c]] w (RetIB r ok w))
    (hi : ∀ b c w, ds.length ≤ 1048576 → ds.length ≤ c → b < w.heap.size → Kns w b 0 ds → Calls Try.prog 48 #[.agg #[.int .i64 p, .slice (some ⟨b, 0, none⟩) ds.length c]] w (RetIB r ok w)) :
    Calls Try.prog 13 #[.agg #[.int .i64 p, .slice a n c]] w (Ret (.bool true) w) := by
  obtain ⟨hl, h2⟩ := h
  subst hl
  have h : ArgK w a ds.length ds := ⟨rfl, h2⟩
  have HS := Lib.hid hs
  have HI := Lib.hid hi
  have HW0 := Lib.hid ((Below.refl w.heap.size w).alloc (Nat.le_refl _) (.cells #[.int .i64 p, .slice a ds.length c] 24))
  clear h2 hs hi
  by_cases hn : 1048576 < ds.length
  · go_enter Try.func13, Try.ntmps13
    go_wp2_with (go_at_call 15; refine (szPuzzle_great _ _ _ _ _ hn hm).mono ?_; rintro e w' ⟨rfl, hcall⟩)
    go_ret
    exact ⟨rfl, HW0.out.trans (hcall.mono (by simp))⟩
  have hn' : ds.length ≤ 1048576 := by omega
  have hleft : ¬ (1048576 : Int) - (ds.length : Int) < 0 := by omega
  have hmark : ¬ (1 : Int) + 3 * (ds.length : Int) < 0 := by omega
  clear hm
  go_enter Try.func13, Try.ntmps13
  go_wp2_with fail
  refine (szPuzzle_any _ _ _ _ _ hn').mono ?_
  rintro e w0 ⟨rfl, hb0⟩
  have hb0' := HW0.out.trans (hb0.mono (by simp))
  have q0 : w0.cell? ⟨w.heap.size, 0, none⟩ = some (.int .i64 p) := below_cell2 hb0 (by simp [go_sem])
  have q1 : w0.cell? ⟨w.heap.size, 1, none⟩ = some (.slice a ds.length c) := below_cell2 hb0 (by simp [go_sem])
  have hz0 : w.heap.size < w0.heap.size := World.block_lt_of_cell? _ ⟨w.heap.size, 0, none⟩ q0
  clear hb0
  go_wp2_with fail
  refine (toPuzzle_any _ _ _ _ ds _ (h.kept hb0') hn').mono ?_
  rintro e w1 ⟨g1, hg1, rfl, ho1, hb1⟩
  have hb1' := hb0'.trans (hb1.mono hb0'.size)
  replace q0 := below_cell2 hb1 q0
  replace q1 := below_cell2 hb1 q1
  go_wp2_with fail
  refine (HS.out _ _ _ hn' (Nat.le_refl _) ho1.shape.2.2.1 ho1.shape.2.2.2.2.1).mono ?_
  rintro e w2 ⟨rfl, hb2⟩
  have hb2' := hb1'.trans (hb2.mono hb1'.size)
  replace q0 := below_cell2 hb2 q0
  replace q1 := below_cell2 hb2 q1
  go_wp2_with fail
  refine (toPuzzle_any _ _ _ _ ds _ (h.kept hb2') hn').mono ?_
  rintro e w3 ⟨g3, hg3, rfl, ho3, hb3⟩
  have hb3' := hb2'.trans (hb3.mono hb2'.size)
  replace q0 := below_cell2 hb3 q0
  replace q1 := below_cell2 hb3 q1
  have hb3s : Below w3.heap.size w3 (w3.alloc (.cells #[.int .i64 p, .slice (some ⟨g3, 0, none⟩) ds.length ds.length] 29)) := (Below.refl _ _).alloc (Nat.le_refl _) _
  have u0 : (w3.alloc (.cells #[.int .i64 p, .slice (some ⟨g3, 0, none⟩) ds.length ds.length] 29)).cell? ⟨w3.heap.size, 0, none⟩ = some (.int .i64 p) := by simp [go_sem]
  have u1 : (w3.alloc (.cells #[.int .i64 p, .slice (some ⟨g3, 0, none⟩) ds.length ds.length] 29)).cell? ⟨w3.heap.size, 1, none⟩ = some (.slice (some ⟨g3, 0, none⟩) ds.length ds.length) := by simp [go_sem]
  replace q0 := below_cell2 hb3s q0
  replace q1 := below_cell2 hb3s q1
  have hb3s' := hb3'.trans (hb3s.mono hb3'.size)
  go_wp2_with fail
  generalize (w3.alloc (.cells #[.int .i64 p, .slice (some ⟨g3, 0, none⟩) ds.length ds.length] 29)) = w3s at hb3s hb3s' q0 q1 u0 u1 ⊢
  have k3s : w3.heap.size < w3s.heap.size := World.block_lt_of_cell? _ ⟨w3.heap.size, 0, none⟩ u0
  have hx3 := ho3.kept hb3s
  have hlt3 := ho3.shape.2.2.1
  refine (HI.out _ _ _ hn' (Nat.le_refl _) hx3.shape.2.2.1 hx3.shape.2.2.2.2.1).mono ?_
  rintro e w4 ⟨rfl, hb4⟩
  have hb4' := hb3s'.trans (hb4.mono hb3s'.size)
  replace q0 := below_cell2 hb4 q0
  replace q1 := below_cell2 hb4 q1
  replace u0 := below_cell2 hb4 u0
  replace u1 := below_cell2 hb4 u1
  have hx4 := hx3.kept hb4
  have z2 := hb2'.size
  have z3 := hb3'.size
  have z3s := hb3s'.size
  have z4 := hb4'.size
  have y1 := hb1.size
  have y2 := hb2.size
  have y3 := hb3.size
  have y3s := hb3s.size
  have y4 := hb4.size
  have HX := Lib.hid hx4
  have HB := Lib.hid hb4'
  go_upto_region 10 with fail
  go_cut [39] from 35 to 39 (fun v wx => v = .bool false ∧ Below w4.heap.size w4 wx)
  case first =>
    go_region_with (first | (go_at_call 17; refine (toPuzzle_any _ _ _ _ ds _ (h.kept (by first | exact HB.out | exact HB.out.drew | exact HB.out.drew.drew)) hn').mono ?_; rintro e w6 ⟨g6, hg6, rfl, ho6, hcall⟩; have hbx6 : Below w4.heap.size w4 w6 := (by first | exact hcall | exact (Below.refl _ _).drew.trans hcall | exact (Below.refl _ _).drew.drew.trans hcall); have u06 := below_cell2 hbx6 u0; have u16 := below_cell2 hbx6 u1; have hx6 := HX.out.kept hbx6; clear hcall) | (go_at_call 19; refine (eqPuzzle_any _ _ p _ _ ds _ hn' hx6 ho6).mono ?_; rintro e w7 ⟨rfl, hcall⟩; have hbx7 : Below w4.heap.size w4 w7 := (by first | exact hbx6.trans (hcall.mono hbx6.size) | exact hbx6.drew.trans (hcall.mono hbx6.drew.size)); clear hcall))
    all_goals
      go_wp2_with fail
      go_meet
      exact ⟨rfl, by first | assumption | exact Below.drew (by assumption)⟩
  case rest =>
  obtain ⟨rfl, hbc⟩ := hcut
  have hbc' := hb4'.trans (hbc.mono hb4'.size)
  go_wp2_with fail
  go_ret
  exact ⟨rfl, hbc'⟩

theorem law_BestClue (p : Int) (a : Option Addr) (n c : Nat) (ds : List Kn) (w : World) (h : ArgK w a n ds) (hm : n ≤ maxLen) :
    Calls Try.prog 13 #[.agg #[.int .i64 p, .slice a n c]] w (Ret (.bool true) w) := by
  obtain ⟨r, ok, hs, hi⟩ := bestClue_both p ds
  exact law_BestClue_of p a n c ds r ok w h hm hs hi
end Go.Proofs.Ytkkjbkagkmngkaa
