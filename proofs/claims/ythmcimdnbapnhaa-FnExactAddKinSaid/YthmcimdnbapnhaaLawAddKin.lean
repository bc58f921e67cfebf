/- The statement on AddKin, walked over the contracts of what it calls. -/
import Derived.Test.YthmcimdnbapnhaaKinHelp2
import Derived.Test.YthmcimdnbapnhaaAk
import Derived.Deep.CutRange
set_option linter.unusedVariables false
set_option linter.unusedSimpArgs false
namespace Go.Proofs.Ythmcimdnbapnhaa
open Go.RowKit

set_option maxHeartbeats 8000000 in
set_option maxRecDepth 100000 in
theorem law_AddKin_of (a : Option Addr) (n c : Nat) (ds : List Kn) (y1 d1 o1 : Int) (rs : List Kn) (ok : Bool) (hrs : rs.length ≤ 1048576) (w : World) (h : ArgK w a n ds) (hm : n ≤ maxLen)
    (hs : ∀ b c w, ds.length ≤ 1048576 → ds.length ≤ c → b < w.heap.size → Kns w b 0 ds → Calls Try.prog 20 #[.slice (some ⟨b, 0, none⟩) ds.length c, .agg #[.int .i64 y1, .int .i64 d1, .int .i64 o1]] w (RetOwnKB rs ok w))
    (hi : ∀ b c w, ds.length ≤ 1048576 → ds.length ≤ c → b < w.heap.size → Kns w b 0 ds → Calls Try.prog 22 #[.slice (some ⟨b, 0, none⟩) ds.length c, .agg #[.int .i64 y1, .int .i64 d1, .int .i64 o1]] w (RetOwnKB rs ok w)) :
    Calls Try.prog 4 #[.slice a n c, .agg #[.int .i64 y1, .int .i64 d1, .int .i64 o1]] w (Ret (.bool true) w) := by
  obtain ⟨hl, h2⟩ := h
  subst hl
  have h : ArgK w a ds.length ds := ⟨rfl, h2⟩
  have HS := Lib.hid hs
  have HI := Lib.hid hi
  have HW0 := Lib.hid ((Below.refl w.heap.size w).alloc (Nat.le_refl _) (.cells #[.int .i64 y1, .int .i64 d1, .int .i64 o1] 30))
  clear h2 hs hi
  by_cases hn : 1048576 < ds.length
  · go_enter Try.func4, Try.ntmps4
    go_wp2_with (go_at_call 15; refine (szKinS_great _ _ _ _ hn hm).mono ?_; rintro e w' ⟨rfl, rfl⟩)
    go_ret
    exact ⟨rfl, HW0.out⟩
  have hn' : ds.length ≤ 1048576 := by omega
  have hleft : ¬ (1048576 : Int) - (ds.length : Int) < 0 := by omega
  have hmark : ¬ (1 : Int) + 3 * (ds.length : Int) < 0 := by omega
  have hmr : ¬ (1 : Int) + 3 * (rs.length : Int) < 0 := by omega
  clear hm
  go_enter Try.func4, Try.ntmps4
  go_upto_region 5 with (go_at_call 15; refine (szKinS_any _ _ _ _ hn').mono ?_; rintro e w' ⟨rfl, rfl⟩)
  go_cut [6, 7] from 21 to 28 (fun v0 v1 wx => OwnK w.heap.size wx v0 rs ∧ v1 = .bool ok ∧ Below w.heap.size w wx ∧ wx.cell? ⟨w.heap.size, 0, none⟩ = some (.int .i64 y1) ∧ wx.cell? ⟨w.heap.size, 1, none⟩ = some (.int .i64 d1) ∧ wx.cell? ⟨w.heap.size, 2, none⟩ = some (.int .i64 o1))
  case first =>
    go_region_with (first | (go_at_call 17; refine (toKinS_any _ _ _ ds _ (h.kept (by first | exact HW0.out.drew | assumption | exact Below.drew (by assumption))) hn').mono ?_; rintro e w' ⟨g1, hg1, rfl, ho1, hcall⟩; have hbw : Below w.heap.size w w' := (by first | exact Below.trans (by assumption) (Below.mono hcall (Below.size (by assumption))) | exact Below.trans (Below.drew (by assumption)) (Below.mono hcall (Below.size (Below.drew (by assumption)))) | exact HW0.out.trans (hcall.mono (by simp <;> omega)) | exact HW0.out.drew.trans (hcall.mono (by simp <;> omega))); have q1 : w'.cell? ⟨w.heap.size, 0, none⟩ = some (.int .i64 y1) := below_cell2 hcall (by first | assumption | (simp; done) | (simp [go_sem]; done) | (simp [go_sem, *]; done) | simp [*]); have q2 : w'.cell? ⟨w.heap.size, 1, none⟩ = some (.int .i64 d1) := below_cell2 hcall (by first | assumption | (simp; done) | (simp [go_sem]; done) | (simp [go_sem, *]; done) | simp [*]); have q3 : w'.cell? ⟨w.heap.size, 2, none⟩ = some (.int .i64 o1) := below_cell2 hcall (by first | assumption | (simp; done) | (simp [go_sem]; done) | (simp [go_sem, *]; done) | simp [*]); have hd0 := ho1.shape.2.2.2.2.1; have hl0 := ho1.shape.2.2.1; clear hcall) | (go_at_call_of 21 (Value.int IntKind.i64 y1); refine (toKin_any y1 d1 o1 _).mono ?_; rintro e w' ⟨rfl, hcall⟩; have hbw : Below w.heap.size w w' := (by first | exact Below.trans (by assumption) (Below.mono hcall (Below.size (by assumption))) | exact Below.trans (Below.drew (by assumption)) (Below.mono hcall (Below.size (Below.drew (by assumption)))) | exact HW0.out.trans (hcall.mono (by simp <;> omega)) | exact HW0.out.drew.trans (hcall.mono (by simp <;> omega))); have q1 : w'.cell? ⟨w.heap.size, 0, none⟩ = some (.int .i64 y1) := below_cell2 hcall (by first | assumption | (simp; done) | (simp [go_sem]; done) | (simp [go_sem, *]; done) | simp [*]); have q2 : w'.cell? ⟨w.heap.size, 1, none⟩ = some (.int .i64 d1) := below_cell2 hcall (by first | assumption | (simp; done) | (simp [go_sem]; done) | (simp [go_sem, *]; done) | simp [*]); have q3 : w'.cell? ⟨w.heap.size, 2, none⟩ = some (.int .i64 o1) := below_cell2 hcall (by first | assumption | (simp; done) | (simp [go_sem]; done) | (simp [go_sem, *]; done) | simp [*]); (first | (have hdy := Kns.kept hd0 hcall hl0; have hly := Nat.lt_of_lt_of_le hl0 hcall.size; clear hd0 hl0; have hd0 := hdy; have hl0 := hly; clear hdy hly) | skip); clear hcall) | (go_at_call 20; refine (HS.out _ _ _ hn' (Nat.le_refl _) hl0 hd0).mono ?_; rintro e w2 ⟨vs, rfl, hr2, hcall⟩; have hr2m := hr2.mono (Below.size (B := w.heap.size) (by assumption)); have hbw : Below w.heap.size w w2 := (by first | exact Below.trans (by assumption) (Below.mono hcall (Below.size (by assumption))) | exact Below.trans (Below.drew (by assumption)) (Below.mono hcall (Below.size (Below.drew (by assumption)))) | exact HW0.out.trans (hcall.mono (by simp <;> omega)) | exact HW0.out.drew.trans (hcall.mono (by simp <;> omega))); have q1 : w2.cell? ⟨w.heap.size, 0, none⟩ = some (.int .i64 y1) := below_cell2 hcall (by first | assumption | (simp; done) | (simp [go_sem]; done) | (simp [go_sem, *]; done) | simp [*]); have q2 : w2.cell? ⟨w.heap.size, 1, none⟩ = some (.int .i64 d1) := below_cell2 hcall (by first | assumption | (simp; done) | (simp [go_sem]; done) | (simp [go_sem, *]; done) | simp [*]); have q3 : w2.cell? ⟨w.heap.size, 2, none⟩ = some (.int .i64 o1) := below_cell2 hcall (by first | assumption | (simp; done) | (simp [go_sem]; done) | (simp [go_sem, *]; done) | simp [*]); clear hcall))
    all_goals
      go_wp2_with fail
      go_meet
      exact ⟨by assumption, rfl, by assumption, by assumption, by assumption, by assumption⟩
  case rest =>
  obtain ⟨hr2, rfl, hbw, q1, q2, q3⟩ := hcut
  have hzq : w.heap.size < wc.heap.size := World.block_lt_of_cell? _ ⟨w.heap.size, 0, none⟩ q1
  go_wp2_with fail
  refine (toKinS_any _ _ _ ds _ (h.kept hbw) hn').mono ?_
  rintro e w3 ⟨g3, hg3, rfl, ho3, hb3⟩
  have hb3' := hbw.trans (hb3.mono hbw.size)
  replace q1 := below_cell2 hb3 q1
  replace q2 := below_cell2 hb3 q2
  replace q3 := below_cell2 hb3 q3
  go_wp2_with fail
  refine (toKin_any y1 d1 o1 _).mono ?_
  rintro e w3a ⟨rfl, hb3a⟩
  have hb3a' := hb3'.trans (hb3a.mono hb3'.size)
  have ho3a := ho3.kept hb3a
  replace q1 := below_cell2 hb3a q1
  replace q2 := below_cell2 hb3a q2
  replace q3 := below_cell2 hb3a q3
  go_wp2_with fail
  refine (HI.out _ _ _ hn' (Nat.le_refl _) ho3a.shape.2.2.1 ho3a.shape.2.2.2.2.1).mono ?_
  rintro e w4 ⟨vi, rfl, hr4, hb4⟩
  have hb4' := hb3a'.trans (hb4.mono hb3a'.size)
  have ho4 := ho3a.kept hb4
  replace q1 := below_cell2 hb4 q1
  replace q2 := below_cell2 hb4 q2
  replace q3 := below_cell2 hb4 q3
  have hs4 := ((hr2.kept hb3).kept hb3a).kept hb4
  have hlt3 := ho3a.shape.2.2.1
  have hz1 := hbw.size
  have hz3 := hb3'.size
  have hz4 := hb4.size
  go_wp2_with fail
  refine (eqKinS_any _ _ _ _ rs _ hrs hr4 hs4).mono ?_
  rintro e w5 ⟨rfl, hb5⟩
  have hb5' := hb4'.trans (hb5.mono hb4'.size)
  replace q1 := below_cell2 hb5 q1
  replace q2 := below_cell2 hb5 q2
  replace q3 := below_cell2 hb5 q3
  go_wp2_with fail
  refine (toKinS_any _ _ _ ds _ (h.kept hb5') hn').mono ?_
  rintro e w6 ⟨g6, hg6, rfl, ho6, hb6⟩
  have hb6' := hb5'.trans (hb6.mono hb5'.size)
  replace q1 := below_cell2 hb6 q1
  replace q2 := below_cell2 hb6 q2
  replace q3 := below_cell2 hb6 q3
  have hx6 := (ho4.kept hb5).kept hb6
  go_wp2_with fail
  refine (eqKinS_any _ _ _ _ ds _ hn' hx6 ho6).mono ?_
  rintro e w7 ⟨rfl, hb7⟩
  have hb7' := hb6'.trans (hb7.mono hb6'.size)
  replace q1 := below_cell2 hb7 q1
  replace q2 := below_cell2 hb7 q2
  replace q3 := below_cell2 hb7 q3
  have hx7 := hx6.kept hb7
  go_wp2_with fail
  -- the copy that was handed in is marked
  refine (markKinS_some _ _ _ _ ds _ _ rfl hn' (by omega) (by omega) hx7).mono ?_
  rintro e w8 ⟨rfl, hx8, hg8⟩
  have hb8' := below_grownAbove hb7' hg8 (Nat.le_trans hz1 hg3)
  have hi8 := ((hr4.kept hb5).kept hb6).kept hb7 |>.grownLt hg8 hlt3
  have hs8 := ((hs4.kept hb5).kept hb6).kept hb7 |>.grown hg8 (hr2.blockNe hg3)
  replace q1 := cell_grown hg8 (by omega) q1
  replace q2 := cell_grown hg8 (by omega) q2
  replace q3 := cell_grown hg8 (by omega) q3
  go_wp2_with fail
  refine (eqKinS_any _ _ _ _ rs _ hrs hi8 hs8).mono ?_
  rintro e w9 ⟨rfl, hb9⟩
  have hb9' := hb8'.trans (hb9.mono hb8'.size)
  replace q1 := below_cell2 hb9 q1
  replace q2 := below_cell2 hb9 q2
  replace q3 := below_cell2 hb9 q3
  go_wp2_with fail
  -- the answer is marked
  refine (markKinS_any _ _ rs _ _ hrs (by omega) (by omega) (hi8.kept hb9)).mono ?_
  rintro e w10 ⟨rfl, hi10, hg10⟩
  have hb10' := below_ownAboveK hb9' (hi8.kept hb9) hg10 (Nat.le_trans hb3a'.size (Nat.le_refl _))
  replace q1 := cell_ownAboveK (hi8.kept hb9) hg10 (by omega) q1
  replace q2 := cell_ownAboveK (hi8.kept hb9) hg10 (by omega) q2
  replace q3 := cell_ownAboveK (hi8.kept hb9) hg10 (by omega) q3
  go_wp2_with fail
  refine (heldKinS_any _ _ rs _ _ hrs (by omega) (by omega) hi10).mono ?_
  rintro e w11 ⟨rfl, hb11⟩
  have hb11' := hb10'.trans (hb11.mono hb10'.size)
  replace q1 := below_cell2 hb11 q1
  replace q2 := below_cell2 hb11 q2
  replace q3 := below_cell2 hb11 q3
  have hs11 := ((hs8.kept hb9).grownV hg10 (hr2.ownNe (Nat.le_trans hb3.size hb3a.size) hr4)).kept hb11
  have hi11 := hi10.kept hb11
  go_upto_region 24 with fail
  go_cut [14, 15] from 79 to 86 (fun v0 v1 wx => OwnK w11.heap.size wx v0 rs ∧ v1 = .bool ok ∧ Below w11.heap.size w11 wx)
  case first =>
    go_region_with (first | (go_at_call 17; refine (toKinS_any _ _ _ ds _ (h.kept (by first | exact hb11'.trans ((by assumption : Below w11.heap.size w11 _).mono hb11'.size) | exact hb11'.drew)) hn').mono ?_; rintro e w' ⟨g1, hg1, rfl, ho1, hcall⟩; have hb11x : Below w11.heap.size w11 w' := (by first | exact Below.trans (by assumption) (Below.mono hcall (Below.size (by assumption))) | exact (Below.refl _ _).drew.trans hcall); have q1 : w'.cell? ⟨w.heap.size, 0, none⟩ = some (.int .i64 y1) := below_cell2 hcall (by first | assumption | (simp; done) | (simp [go_sem]; done) | (simp [go_sem, *]; done) | simp [*]); have q2 : w'.cell? ⟨w.heap.size, 1, none⟩ = some (.int .i64 d1) := below_cell2 hcall (by first | assumption | (simp; done) | (simp [go_sem]; done) | (simp [go_sem, *]; done) | simp [*]); have q3 : w'.cell? ⟨w.heap.size, 2, none⟩ = some (.int .i64 o1) := below_cell2 hcall (by first | assumption | (simp; done) | (simp [go_sem]; done) | (simp [go_sem, *]; done) | simp [*]); have hd0 := ho1.shape.2.2.2.2.1; have hl0 := ho1.shape.2.2.1; clear hcall) | (go_at_call_of 21 (Value.int IntKind.i64 y1); refine (toKin_any y1 d1 o1 _).mono ?_; rintro e w' ⟨rfl, hcall⟩; have hb11x : Below w11.heap.size w11 w' := (by first | exact Below.trans (by assumption) (Below.mono hcall (Below.size (by assumption))) | exact (Below.refl _ _).drew.trans hcall); have q1 : w'.cell? ⟨w.heap.size, 0, none⟩ = some (.int .i64 y1) := below_cell2 hcall (by first | assumption | (simp; done) | (simp [go_sem]; done) | (simp [go_sem, *]; done) | simp [*]); have q2 : w'.cell? ⟨w.heap.size, 1, none⟩ = some (.int .i64 d1) := below_cell2 hcall (by first | assumption | (simp; done) | (simp [go_sem]; done) | (simp [go_sem, *]; done) | simp [*]); have q3 : w'.cell? ⟨w.heap.size, 2, none⟩ = some (.int .i64 o1) := below_cell2 hcall (by first | assumption | (simp; done) | (simp [go_sem]; done) | (simp [go_sem, *]; done) | simp [*]); (first | (have hdy := Kns.kept hd0 hcall hl0; have hly := Nat.lt_of_lt_of_le hl0 hcall.size; clear hd0 hl0; have hd0 := hdy; have hl0 := hly; clear hdy hly) | skip); clear hcall) | (go_at_call 22; refine (HI.out _ _ _ hn' (Nat.le_refl _) hl0 hd0).mono ?_; rintro e w13 ⟨vj, rfl, hr13, hcall⟩; have hr13' := hr13.mono (Below.size (B := w11.heap.size) (by assumption)); have hb11x : Below w11.heap.size w11 w13 := (by first | exact Below.trans (by assumption) (Below.mono hcall (Below.size (by assumption))) | exact (Below.refl _ _).drew.trans hcall); have q1 : w13.cell? ⟨w.heap.size, 0, none⟩ = some (.int .i64 y1) := below_cell2 hcall (by first | assumption | (simp; done) | (simp [go_sem]; done) | (simp [go_sem, *]; done) | simp [*]); have q2 : w13.cell? ⟨w.heap.size, 1, none⟩ = some (.int .i64 d1) := below_cell2 hcall (by first | assumption | (simp; done) | (simp [go_sem]; done) | (simp [go_sem, *]; done) | simp [*]); have q3 : w13.cell? ⟨w.heap.size, 2, none⟩ = some (.int .i64 o1) := below_cell2 hcall (by first | assumption | (simp; done) | (simp [go_sem]; done) | (simp [go_sem, *]; done) | simp [*]); clear hcall))
    all_goals
      go_wp2_with fail
      go_meet
      exact ⟨by assumption, rfl, by assumption⟩
  case rest =>
  obtain ⟨hr13, rfl, hb13⟩ := hcut
  have hb13' := hb11'.trans (hb13.mono hb11'.size)
  go_wp2_with fail
  refine (eqKinS_any _ _ _ _ rs _ hrs hr13 (hs11.kept hb13)).mono ?_
  rintro e w14 ⟨rfl, hb14⟩
  have hb14' := hb13'.trans (hb14.mono hb13'.size)
  have hi14 := (hi11.kept hb13).kept hb14
  go_wp2_with fail
  refine (heldKinS_any _ _ rs _ _ hrs (by omega) (by omega) hi14).mono ?_
  rintro e w15 ⟨rfl, hb15⟩
  have hb15' := hb14'.trans (hb15.mono hb14'.size)
  go_wp2_with fail
  go_ret
  exact ⟨rfl, hb15'⟩

theorem law_AddKin (a : Option Addr) (n c : Nat) (ds : List Kn) (y1 d1 o1 : Int) (w : World) (h : ArgK w a n ds) (hm : n ≤ maxLen) :
    Calls Try.prog 4 #[.slice a n c, .agg #[.int .i64 y1, .int .i64 d1, .int .i64 o1]] w (Ret (.bool true) w) := by
  obtain ⟨rs, ok, hr, hs, hi⟩ := addKin_both ds y1 d1 o1
  exact law_AddKin_of a n c ds y1 d1 o1 rs ok hr w h hm hs hi
end Go.Proofs.Ythmcimdnbapnhaa
