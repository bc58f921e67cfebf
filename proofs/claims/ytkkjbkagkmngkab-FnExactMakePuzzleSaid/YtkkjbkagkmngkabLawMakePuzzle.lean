/- The statement on MakePuzzle, walked over the contracts of what it calls. -/
import Derived.Test.YtkkjbkagkmngkabPz20
import Derived.Test.YtkkjbkagkmngkabPzHelp
set_option linter.unusedVariables false
set_option linter.unusedSimpArgs false
namespace Go.Proofs.Ytkkjbkagkmngkab
open Go.RowKit

set_option maxHeartbeats 4000000 in
set_option maxRecDepth 100000 in
theorem law_MakePuzzle_of (a : Option Addr) (n c : Nat) (zs : List Int) (x1 x2 : Int) (rp : Int) (rs : List Kn) (ok : Bool) (hrs : rs.length ≤ 1048576) (w : World) (h : Arg w a n zs)
    (hs : ∀ b c w, zs.length ≤ 1048576 → b < w.heap.size → Ints w b 0 zs → Calls Try.prog 10 #[.slice (some ⟨b, 0, none⟩) zs.length c, .int .i64 x1, .int .i64 x2] w (RetPB rp rs ok w))
    (hi : ∀ b c w, zs.length ≤ 1048576 → b < w.heap.size → Ints w b 0 zs → Calls Try.prog 11 #[.slice (some ⟨b, 0, none⟩) zs.length c, .int .i64 x1, .int .i64 x2] w (RetPB rp rs ok w)) :
    Calls Try.prog 4 #[.slice a n c, .int .i64 x1, .int .i64 x2] w (Ret (.bool true) w) := by
  obtain ⟨hl, h2⟩ := h
  subst hl
  have h : Arg w a zs.length zs := ⟨rfl, h2⟩
  have HS := Lib.hid hs
  have HI := Lib.hid hi
  clear h2 hs hi
  by_cases hn : 1048576 < zs.length
  · have hn2 : (1048576 : Int) < (zs.length : Int) := by omega
    go_enter Try.func4, Try.ntmps4
    go_wp2_with fail
    go_ret
    exact ⟨rfl, Below.refl _ _⟩
  have hn' : zs.length ≤ 1048576 := by omega
  have hn2 : ¬ (1048576 : Int) < (zs.length : Int) := by omega
  have hmark : ¬ (1 : Int) + (zs.length : Int) < 0 := by omega
  have hmr : ¬ (1 : Int) + 3 * (rs.length : Int) < 0 := by omega
  go_enter Try.func4, Try.ntmps4
  go_wp2_with fail
  refine (toIntS_any _ _ _ zs _ h hn').mono ?_
  rintro e w1 ⟨g1, hg1, rfl, ho1, hb1⟩
  have hb1' := hb1
  go_wp2_with fail
  refine (HS.out _ _ _ hn' ho1.shape.2.2.1 ho1.shape.2.2.2.2.1).mono ?_
  rintro e w2 ⟨vs, rfl, hr2, hb2⟩
  have hb2' := hb1'.trans (hb2.mono hb1'.size)
  obtain ⟨sa, sn, sc, rfl⟩ := ownK_slice hr2
  have hb2s : Below w2.heap.size w2 (w2.alloc (.cells #[.int .i64 rp, .slice sa sn sc] 34)) := (Below.refl _ _).alloc (Nat.le_refl _) _
  have s0 : (w2.alloc (.cells #[.int .i64 rp, .slice sa sn sc] 34)).cell? ⟨w2.heap.size, 0, none⟩ = some (.int .i64 rp) := by simp [go_sem]
  have s1 : (w2.alloc (.cells #[.int .i64 rp, .slice sa sn sc] 34)).cell? ⟨w2.heap.size, 1, none⟩ = some (.slice sa sn sc) := by simp [go_sem]
  have hb2s' := hb2'.trans (hb2s.mono hb2'.size)
  go_wp2_with fail
  generalize (w2.alloc (.cells #[.int .i64 rp, .slice sa sn sc] 34)) = w2s at hb2s hb2s' s0 s1 ⊢
  have k2s : w2.heap.size < w2s.heap.size := World.block_lt_of_cell? _ ⟨w2.heap.size, 0, none⟩ s0
  have hs2 := hr2.kept hb2s
  refine (toIntS_any _ _ _ zs _ (h.kept hb2s') hn').mono ?_
  rintro e w3 ⟨g3, hg3, rfl, ho3, hb3⟩
  have hb3' := hb2s'.trans (hb3.mono hb2s'.size)
  replace s0 := below_cell2 hb3 s0
  replace s1 := below_cell2 hb3 s1
  have hs3 := hs2.kept hb3
  have hlt3 := ho3.shape.2.2.1
  have hge3 := ho3.shape.2.1
  go_wp2_with fail
  refine (HI.out _ _ _ hn' ho3.shape.2.2.1 ho3.shape.2.2.2.2.1).mono ?_
  rintro e w4 ⟨vi, rfl, hr4, hb4⟩
  have hb4' := hb3'.trans (hb4.mono hb3'.size)
  replace s0 := below_cell2 hb4 s0
  replace s1 := below_cell2 hb4 s1
  have hx4 := ho3.kept hb4
  have hs4 := hs3.kept hb4
  obtain ⟨ia, im, ic, rfl⟩ := ownK_slice hr4
  have hb4s : Below w4.heap.size w4 (w4.alloc (.cells #[.int .i64 rp, .slice ia im ic] 34)) := (Below.refl _ _).alloc (Nat.le_refl _) _
  have t0 : (w4.alloc (.cells #[.int .i64 rp, .slice ia im ic] 34)).cell? ⟨w4.heap.size, 0, none⟩ = some (.int .i64 rp) := by simp [go_sem]
  have t1 : (w4.alloc (.cells #[.int .i64 rp, .slice ia im ic] 34)).cell? ⟨w4.heap.size, 1, none⟩ = some (.slice ia im ic) := by simp [go_sem]
  replace s0 := below_cell2 hb4s s0
  replace s1 := below_cell2 hb4s s1
  have hb4s' := hb4'.trans (hb4s.mono hb4'.size)
  go_wp2_with fail
  generalize (w4.alloc (.cells #[.int .i64 rp, .slice ia im ic] 34)) = w4s at hb4s hb4s' s0 s1 t0 t1 ⊢
  have k4s : w4.heap.size < w4s.heap.size := World.block_lt_of_cell? _ ⟨w4.heap.size, 0, none⟩ t0
  have hx4s := hx4.kept hb4s
  have hs4s := hs4.kept hb4s
  have hi4s := hr4.kept hb4s
  refine (eqPuzzle_any _ _ rp _ _ rs _ hrs hi4s hs4s).mono ?_
  rintro e w5 ⟨rfl, hb5⟩
  have hb5' := hb4s'.trans (hb5.mono hb4s'.size)
  replace s0 := below_cell2 hb5 s0
  replace s1 := below_cell2 hb5 s1
  replace t0 := below_cell2 hb5 t0
  replace t1 := below_cell2 hb5 t1
  have hx5 := hx4s.kept hb5
  have hs5 := hs4s.kept hb5
  have hi5 := hi4s.kept hb5
  go_wp2_with fail
  refine (toIntS_any _ _ _ zs _ (h.kept hb5') hn').mono ?_
  rintro e w6 ⟨g6, hg6, rfl, ho6, hb6⟩
  have hb6' := hb5'.trans (hb6.mono hb5'.size)
  replace s0 := below_cell2 hb6 s0
  replace s1 := below_cell2 hb6 s1
  replace t0 := below_cell2 hb6 t0
  replace t1 := below_cell2 hb6 t1
  have hx6 := hx5.kept hb6
  have hs6 := hs5.kept hb6
  have hi6 := hi5.kept hb6
  go_wp2_with fail
  refine (eqIntS_any _ _ _ _ zs _ hn' hx6 ho6).mono ?_
  rintro e w7 ⟨rfl, hb7⟩
  have hb7' := hb6'.trans (hb7.mono hb6'.size)
  replace s0 := below_cell2 hb7 s0
  replace s1 := below_cell2 hb7 s1
  replace t0 := below_cell2 hb7 t0
  replace t1 := below_cell2 hb7 t1
  have hx7 := hx6.kept hb7
  have hs7 := hs6.kept hb7
  have hi7 := hi6.kept hb7
  have y1 := hb1.size
  have z1 := hb1'.size
  have y2 := hb2.size
  have z2 := hb2'.size
  have y2s := hb2s.size
  have z2s := hb2s'.size
  have y3 := hb3.size
  have z3 := hb3'.size
  have y4 := hb4.size
  have z4 := hb4'.size
  have y4s := hb4s.size
  have z4s := hb4s'.size
  have y5 := hb5.size
  have z5 := hb5'.size
  have y6 := hb6.size
  have z6 := hb6'.size
  have y7 := hb7.size
  have z7 := hb7'.size
  go_wp2_with fail
  refine (markIntS_some _ _ _ _ zs _ _ rfl hn' (by omega) (by omega) hx7).mono ?_
  rintro e w8 ⟨rfl, hx8, hg8⟩
  have hb8' := below_grownAbove hb7' hg8 (by omega)
  have y8 := hg8.size
  replace s0 := cell_grownNe hg8 (by omega) s0
  replace s1 := cell_grownNe hg8 (by omega) s1
  replace t0 := cell_grownNe hg8 (by omega) t0
  replace t1 := cell_grownNe hg8 (by omega) t1
  have hi8 := hi7.grownLt hg8 (by omega)
  have hs8 := hs7.grown hg8 (hr2.blockNe (by omega))
  go_wp2_with fail
  refine (eqPuzzle_any _ _ rp _ _ rs _ hrs hi8 hs8).mono ?_
  rintro e w9 ⟨rfl, hb9⟩
  have hb9' := hb8'.trans (hb9.mono hb8'.size)
  replace s0 := below_cell2 hb9 s0
  replace s1 := below_cell2 hb9 s1
  replace t0 := below_cell2 hb9 t0
  replace t1 := below_cell2 hb9 t1
  have y9 := hb9.size
  have hi9 := hi8.kept hb9
  have hs9 := hs8.kept hb9
  go_wp2_with fail
  refine (markPuzzle_any _ _ rp rs _ _ hrs (by omega) (by omega) hi9).mono ?_
  rintro e w10 ⟨rfl, hi10, hg10⟩
  have hb10' := below_ownAboveK hb9' hi9 hg10 (by omega)
  have y10 := hg10.size
  replace s0 := cell_ownAboveK hi9 hg10 (by omega) s0
  replace s1 := cell_ownAboveK hi9 hg10 (by omega) s1
  replace t0 := cell_ownAboveT hr4 (Nat.le_refl _) hg10 t0
  replace t1 := cell_ownAboveT hr4 (Nat.le_refl _) hg10 t1
  go_wp2_with fail
  refine (heldPuzzle_any _ _ rp rs _ _ hrs (by omega) (by omega) hi10).mono ?_
  rintro e w11 ⟨rfl, hb11⟩
  have hb11' := hb10'.trans (hb11.mono hb10'.size)
  replace s0 := below_cell2 hb11 s0
  replace s1 := below_cell2 hb11 s1
  replace t0 := below_cell2 hb11 t0
  replace t1 := below_cell2 hb11 t1
  have y11 := hb11.size
  have hi11 := hi10.kept hb11
  have hs11 := (hs9.grownV hg10 (hr2.ownNe (by omega) hr4)).kept hb11
  go_wp2_with fail
  refine (toIntS_any _ _ _ zs _ (h.kept hb11') hn').mono ?_
  rintro e w12 ⟨g12, hg12, rfl, ho12, hb12⟩
  have hb12' := hb11'.trans (hb12.mono hb11'.size)
  replace s0 := below_cell2 hb12 s0
  replace s1 := below_cell2 hb12 s1
  replace t0 := below_cell2 hb12 t0
  replace t1 := below_cell2 hb12 t1
  go_wp2_with fail
  refine (HI.out _ _ _ hn' ho12.shape.2.2.1 ho12.shape.2.2.2.2.1).mono ?_
  rintro e w13 ⟨vj, rfl, hr13, hb13⟩
  have hb13' := hb12'.trans (hb13.mono hb12'.size)
  replace s0 := below_cell2 hb13 s0
  replace s1 := below_cell2 hb13 s1
  replace t0 := below_cell2 hb13 t0
  replace t1 := below_cell2 hb13 t1
  have y12 := hb12.size
  have y13 := hb13.size
  have hs13 := (hs11.kept hb12).kept hb13
  have hi13 := (hi11.kept hb12).kept hb13
  obtain ⟨ja, jn, jc, rfl⟩ := ownK_slice hr13
  have hb13s : Below w13.heap.size w13 (w13.alloc (.cells #[.int .i64 rp, .slice ja jn jc] 34)) := (Below.refl _ _).alloc (Nat.le_refl _) _
  have r0 : (w13.alloc (.cells #[.int .i64 rp, .slice ja jn jc] 34)).cell? ⟨w13.heap.size, 0, none⟩ = some (.int .i64 rp) := by simp [go_sem]
  have r1 : (w13.alloc (.cells #[.int .i64 rp, .slice ja jn jc] 34)).cell? ⟨w13.heap.size, 1, none⟩ = some (.slice ja jn jc) := by simp [go_sem]
  replace s0 := below_cell2 hb13s s0
  replace s1 := below_cell2 hb13s s1
  replace t0 := below_cell2 hb13s t0
  replace t1 := below_cell2 hb13s t1
  have hb13s' := hb13'.trans (hb13s.mono hb13'.size)
  go_wp2_with fail
  generalize (w13.alloc (.cells #[.int .i64 rp, .slice ja jn jc] 34)) = w13s at hb13s hb13s' s0 s1 t0 t1 r0 r1 ⊢
  have k13s : w13.heap.size < w13s.heap.size := World.block_lt_of_cell? _ ⟨w13.heap.size, 0, none⟩ r0
  have hj13 := hr13.kept hb13s
  have hs13s := hs13.kept hb13s
  have hi13s := hi13.kept hb13s
  have y13s := hb13s.size
  refine (eqPuzzle_any _ _ rp _ _ rs _ hrs hj13 hs13s).mono ?_
  rintro e w14 ⟨rfl, hb14⟩
  have hb14' := hb13s'.trans (hb14.mono hb13s'.size)
  replace s0 := below_cell2 hb14 s0
  replace s1 := below_cell2 hb14 s1
  replace t0 := below_cell2 hb14 t0
  replace t1 := below_cell2 hb14 t1
  replace r0 := below_cell2 hb14 r0
  replace r1 := below_cell2 hb14 r1
  have hi14 := hi13s.kept hb14
  go_wp2_with fail
  refine (heldPuzzle_any _ _ rp rs _ _ hrs (by omega) (by omega) hi14).mono ?_
  rintro e w15 ⟨rfl, hb15⟩
  have hb15' := hb14'.trans (hb15.mono hb14'.size)
  replace s0 := below_cell2 hb15 s0
  replace s1 := below_cell2 hb15 s1
  replace t0 := below_cell2 hb15 t0
  replace t1 := below_cell2 hb15 t1
  replace r0 := below_cell2 hb15 r0
  replace r1 := below_cell2 hb15 r1
  go_wp2_with fail
  go_ret
  exact ⟨rfl, hb15'⟩

theorem law_MakePuzzle (a : Option Addr) (n c : Nat) (zs : List Int) (x1 x2 : Int) (w : World) (h : Arg w a n zs) (_w1 : (Lit.int .i64 x1).wf = true) (_w2 : (Lit.int .i64 x2).wf = true) :
    Calls Try.prog 4 #[.slice a n c, .int .i64 x1, .int .i64 x2] w (Ret (.bool true) w) := by
  obtain ⟨rp, rs, ok, hr, hs, hi⟩ := makePuzzle_both zs x1 x2
  exact law_MakePuzzle_of a n c zs x1 x2 rp rs ok hr w h hs hi
end Go.Proofs.Ytkkjbkagkmngkab
