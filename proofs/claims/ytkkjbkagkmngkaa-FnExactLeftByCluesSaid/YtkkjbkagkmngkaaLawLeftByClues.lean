/- The statement on LeftByClues, walked over the contracts of what it calls. -/
import Derived.Test.YtkkjbkagkmngkaaPzHelp
import Derived.Test.YtkkjbkagkmngkaaPz17
import Derived.Deep.CutRange
set_option linter.unusedVariables false
set_option linter.unusedSimpArgs false
namespace Go.Proofs.Ytkkjbkagkmngkaa
open Go.RowKit

set_option maxHeartbeats 8000000 in
set_option maxRecDepth 100000 in
theorem law_LeftByClues_of (p : Int) (a : Option Addr) (n c : Nat) (ds : List Kn) (rs : List Int) (ok : Bool) (hrs : rs.length ≤ 1048576) (w : World) (h : ArgK w a n ds) (hm : n ≤ maxLen)
    (hs : ∀ b c w, ds.length ≤ 1048576 → ds.length ≤ c → b < w.heap.size → Kns w b 0 ds → Calls Try.prog 45 #[.agg #[.int .i64 p, .slice (some ⟨b, 0, none⟩) ds.length c]] w (RetOwnB rs ok w))
    (hi : ∀ b c w, ds.length ≤ 1048576 → ds.length ≤ c → b < w.heap.size → Kns w b 0 ds → Calls Try.prog 46 #[.agg #[.int .i64 p, .slice (some ⟨b, 0, none⟩) ds.length c]] w (RetOwnB rs ok w)) :
    Calls Try.prog 12 #[.agg #[.int .i64 p, .slice a n c]] w (Ret (.bool true) w) := by
  obtain ⟨hl, h2⟩ := h
  subst hl
  have h : ArgK w a ds.length ds := ⟨rfl, h2⟩
  have HS := Lib.hid hs
  have HI := Lib.hid hi
  have HW0 := Lib.hid ((Below.refl w.heap.size w).alloc (Nat.le_refl _) (.cells #[.int .i64 p, .slice a ds.length c] 24))
  clear h2 hs hi
  by_cases hn : 1048576 < ds.length
  · go_enter Try.func12, Try.ntmps12
    go_wp2_with (go_at_call 15; refine (szPuzzle_great _ _ _ _ _ hn hm).mono ?_; rintro e w' ⟨rfl, hcall⟩)
    go_ret
    exact ⟨rfl, HW0.out.trans (hcall.mono (by simp))⟩
  have hn' : ds.length ≤ 1048576 := by omega
  have hleft : ¬ (1048576 : Int) - (ds.length : Int) < 0 := by omega
  have hmark : ¬ (1 : Int) + 3 * (ds.length : Int) < 0 := by omega
  clear hm
  go_enter Try.func12, Try.ntmps12
  go_wp2_with fail
  refine (szPuzzle_any _ _ _ _ _ hn').mono ?_
  rintro e w0 ⟨rfl, hb0⟩
  have hb0' := HW0.out.trans (hb0.mono (by simp))
  have q0 : w0.cell? ⟨w.heap.size, 0, none⟩ = some (.int .i64 p) := below_cell2 hb0 (by simp [go_sem])
  have q1 : w0.cell? ⟨w.heap.size, 1, none⟩ = some (.slice a ds.length c) := below_cell2 hb0 (by simp [go_sem])
  have hz0 : w.heap.size < w0.heap.size := World.block_lt_of_cell? _ ⟨w.heap.size, 0, none⟩ q0
  clear hb0
  go_wp2_with fail
  refine (toPuzzle_any _ _ _ _ ds _ (h.kept hb0') hn').mono ?_
  rintro e w1 ⟨g1, hg1, rfl, ho1, hb1⟩
  have hb1' := hb0'.trans (hb1.mono hb0'.size)
  replace q0 := below_cell2 hb1 q0
  replace q1 := below_cell2 hb1 q1
  go_wp2_with fail
  refine (HS.out _ _ _ hn' (Nat.le_refl _) ho1.shape.2.2.1 ho1.shape.2.2.2.2.1).mono ?_
  rintro e w2 ⟨vs, rfl, hr2, hb2⟩
  have hb2' := hb1'.trans (hb2.mono hb1'.size)
  replace q0 := below_cell2 hb2 q0
  replace q1 := below_cell2 hb2 q1
  go_wp2_with fail
  refine (toPuzzle_any _ _ _ _ ds _ (h.kept hb2') hn').mono ?_
  rintro e w3 ⟨g3, hg3, rfl, ho3, hb3⟩
  have hb3' := hb2'.trans (hb3.mono hb2'.size)
  replace q0 := below_cell2 hb3 q0
  replace q1 := below_cell2 hb3 q1
  have hb3s : Below w3.heap.size w3 (w3.alloc (.cells #[.int .i64 p, .slice (some ⟨g3, 0, none⟩) ds.length ds.length] 29)) := (Below.refl _ _).alloc (Nat.le_refl _) _
  have u0 : (w3.alloc (.cells #[.int .i64 p, .slice (some ⟨g3, 0, none⟩) ds.length ds.length] 29)).cell? ⟨w3.heap.size, 0, none⟩ = some (.int .i64 p) := by simp [go_sem]
  have u1 : (w3.alloc (.cells #[.int .i64 p, .slice (some ⟨g3, 0, none⟩) ds.length ds.length] 29)).cell? ⟨w3.heap.size, 1, none⟩ = some (.slice (some ⟨g3, 0, none⟩) ds.length ds.length) := by simp [go_sem]
  replace q0 := below_cell2 hb3s q0
  replace q1 := below_cell2 hb3s q1
  have hb3s' := hb3'.trans (hb3s.mono hb3'.size)
  go_wp2_with fail
  generalize (w3.alloc (.cells #[.int .i64 p, .slice (some ⟨g3, 0, none⟩) ds.length ds.length] 29)) = w3s at hb3s hb3s' q0 q1 u0 u1 ⊢
  have k3s : w3.heap.size < w3s.heap.size := World.block_lt_of_cell? _ ⟨w3.heap.size, 0, none⟩ u0
  have hx3 := ho3.kept hb3s
  have hlt3 := ho3.shape.2.2.1
  refine (HI.out _ _ _ hn' (Nat.le_refl _) hx3.shape.2.2.1 hx3.shape.2.2.2.2.1).mono ?_
  rintro e w4 ⟨vi, rfl, hr4, hb4⟩
  have hb4' := hb3s'.trans (hb4.mono hb3s'.size)
  replace q0 := below_cell2 hb4 q0
  replace q1 := below_cell2 hb4 q1
  replace u0 := below_cell2 hb4 u0
  replace u1 := below_cell2 hb4 u1
  have hx4 := hx3.kept hb4
  have z2 := hb2'.size
  have z3 := hb3'.size
  have z3s := hb3s'.size
  have z4 := hb4'.size
  have y1 := hb1.size
  have y2 := hb2.size
  have y3 := hb3.size
  have y3s := hb3s.size
  have y4 := hb4.size
  have hs4 := ((hr2.kept hb3).kept hb3s).kept hb4
  go_wp2_with fail
  refine (eqIntS_any _ _ _ _ rs _ hrs hr4 hs4).mono ?_
  rintro e w5 ⟨rfl, hb5⟩
  have hb5' := hb4'.trans (hb5.mono hb4'.size)
  replace q0 := below_cell2 hb5 q0
  replace q1 := below_cell2 hb5 q1
  replace u0 := below_cell2 hb5 u0
  replace u1 := below_cell2 hb5 u1
  have hx5 := hx4.kept hb5
  have hi5 := hr4.kept hb5
  have hs5 := hs4.kept hb5
  have y5 := hb5.size
  have z5 := hb5'.size
  have HX := Lib.hid hx5
  have HB := Lib.hid hb5'
  go_upto_region 10 with fail
  go_cut [45] from 41 to 45 (fun v wx => v = .bool false ∧ Below w5.heap.size w5 wx)
  case first =>
    go_region_with (first | (go_at_call 17; refine (toPuzzle_any _ _ _ _ ds _ (h.kept (by first | exact HB.out | exact HB.out.drew | exact HB.out.drew.drew)) hn').mono ?_; rintro e w6 ⟨g6, hg6, rfl, ho6, hcall⟩; have hbx6 : Below w5.heap.size w5 w6 := (by first | exact hcall | exact (Below.refl _ _).drew.trans hcall | exact (Below.refl _ _).drew.drew.trans hcall); have u06 := below_cell2 hbx6 u0; have u16 := below_cell2 hbx6 u1; have hx6 := HX.out.kept hbx6; clear hcall) | (go_at_call 19; refine (eqPuzzle_any _ _ p _ _ ds _ hn' hx6 ho6).mono ?_; rintro e w7 ⟨rfl, hcall⟩; have hbx7 : Below w5.heap.size w5 w7 := (by first | exact hbx6.trans (hcall.mono hbx6.size) | exact hbx6.drew.trans (hcall.mono hbx6.drew.size)); clear hcall))
    all_goals
      go_wp2_with fail
      go_meet
      exact ⟨rfl, by first | assumption | exact Below.drew (by assumption)⟩
  case rest =>
  obtain ⟨rfl, hbc⟩ := hcut
  have hbc' := hb5'.trans (hbc.mono hb5'.size)
  replace q0 := below_cell2 hbc q0
  replace q1 := below_cell2 hbc q1
  replace u0 := below_cell2 hbc u0
  replace u1 := below_cell2 hbc u1
  have hxc := hx5.kept hbc
  have hic := hi5.kept hbc
  have hsc := hs5.kept hbc
  have yc := hbc.size
  go_wp2_with fail
  refine (markPuzzle_some _ _ _ _ p ds _ _ rfl hn' (by omega) (by omega) (by omega) hxc).mono ?_
  rintro e w8 ⟨rfl, hx8, hg8⟩
  have hb8' := below_grownAbove hbc' hg8 (by omega)
  have y8 := hg8.size
  replace q0 := cell_grownNe hg8 (by omega) q0
  replace q1 := cell_grownNe hg8 (by omega) q1
  replace u0 := cell_grownNe hg8 (by omega) u0
  replace u1 := cell_grownNe hg8 (by omega) u1
  have hi8 := hic.grownLt hg8 (by omega)
  have hs8 := hsc.grown hg8 (hr2.blockNe (by omega))
  go_wp2_with fail
  refine (eqIntS_any _ _ _ _ rs _ hrs hi8 hs8).mono ?_
  rintro e w9 ⟨rfl, hb9⟩
  have hb9' := hb8'.trans (hb9.mono hb8'.size)
  replace q0 := below_cell2 hb9 q0
  replace q1 := below_cell2 hb9 q1
  replace u0 := below_cell2 hb9 u0
  replace u1 := below_cell2 hb9 u1
  have y9 := hb9.size
  have hi9 := hi8.kept hb9
  have hs9 := hs8.kept hb9
  go_wp2_with fail
  refine (markIntS_any _ _ rs _ _ hrs (by omega) (by omega) hi9).mono ?_
  rintro e w10 ⟨rfl, hi10, hg10⟩
  have hb10' := below_ownAbove hb9' hi9 hg10 (by omega)
  have y10 := hg10.size
  replace q0 := cell_ownAbove hi9 hg10 (by omega) q0
  replace q1 := cell_ownAbove hi9 hg10 (by omega) q1
  replace u0 := cell_ownAbove hi9 hg10 (by omega) u0
  replace u1 := cell_ownAbove hi9 hg10 (by omega) u1
  go_wp2_with fail
  refine (heldIntS_any _ _ rs _ _ hrs (by omega) (by omega) hi10).mono ?_
  rintro e w11 ⟨rfl, hb11⟩
  have hb11' := hb10'.trans (hb11.mono hb10'.size)
  replace q0 := below_cell2 hb11 q0
  replace q1 := below_cell2 hb11 q1
  replace u0 := below_cell2 hb11 u0
  replace u1 := below_cell2 hb11 u1
  have y11 := hb11.size
  have hi11 := hi10.kept hb11
  have hs11 := (hs9.grownV hg10 (hr2.ownNe (by omega) hr4)).kept hb11
  go_wp2_with fail
  refine (toPuzzle_any _ _ _ _ ds _ (h.kept hb11') hn').mono ?_
  rintro e w12 ⟨g12, hg12, rfl, ho12, hb12⟩
  have hb12' := hb11'.trans (hb12.mono hb11'.size)
  replace q0 := below_cell2 hb12 q0
  replace q1 := below_cell2 hb12 q1
  replace u0 := below_cell2 hb12 u0
  replace u1 := below_cell2 hb12 u1
  go_wp2_with fail
  refine (HI.out _ _ _ hn' (Nat.le_refl _) ho12.shape.2.2.1 ho12.shape.2.2.2.2.1).mono ?_
  rintro e w13 ⟨vj, rfl, hr13, hb13⟩
  have hb13' := hb12'.trans (hb13.mono hb12'.size)
  replace q0 := below_cell2 hb13 q0
  replace q1 := below_cell2 hb13 q1
  replace u0 := below_cell2 hb13 u0
  replace u1 := below_cell2 hb13 u1
  have y12 := hb12.size
  have y13 := hb13.size
  have hs13 := (hs11.kept hb12).kept hb13
  have hi13 := (hi11.kept hb12).kept hb13
  go_wp2_with fail
  refine (eqIntS_any _ _ _ _ rs _ hrs hr13 hs13).mono ?_
  rintro e w14 ⟨rfl, hb14⟩
  have hb14' := hb13'.trans (hb14.mono hb13'.size)
  replace q0 := below_cell2 hb14 q0
  replace q1 := below_cell2 hb14 q1
  replace u0 := below_cell2 hb14 u0
  replace u1 := below_cell2 hb14 u1
  have y14 := hb14.size
  have hi14 := hi13.kept hb14
  go_wp2_with fail
  refine (heldIntS_any _ _ rs _ _ hrs (by omega) (by omega) hi14).mono ?_
  rintro e w15 ⟨rfl, hb15⟩
  have hb15' := hb14'.trans (hb15.mono hb14'.size)
  replace q0 := below_cell2 hb15 q0
  replace q1 := below_cell2 hb15 q1
  replace u0 := below_cell2 hb15 u0
  replace u1 := below_cell2 hb15 u1
  go_wp2_with fail
  go_ret
  exact ⟨rfl, hb15'⟩

theorem law_LeftByClues (p : Int) (a : Option Addr) (n c : Nat) (ds : List Kn) (w : World) (h : ArgK w a n ds) (hm : n ≤ maxLen) :
    Calls Try.prog 12 #[.agg #[.int .i64 p, .slice a n c]] w (Ret (.bool true) w) := by
  obtain ⟨rs, ok, hr, hs, hi⟩ := leftByClues_both p ds
  exact law_LeftByClues_of p a n c ds rs ok hr w h hm hs hi
end Go.Proofs.Ytkkjbkagkmngkaa
