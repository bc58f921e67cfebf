/- The statement on BirthdaysBetween, walked over the contracts of what it calls. -/
import Derived.Test.YtbhceokapbnhhaaDateHelp2
import Derived.Test.YtbhceokapbnhhaaIb3
import Derived.Deep.CutRange
set_option linter.unusedVariables false
set_option linter.unusedSimpArgs false
namespace Go.Proofs.Ytbhceokapbnhhaa
open Go.RowKit

set_option maxHeartbeats 8000000 in
set_option maxRecDepth 100000 in
theorem law_BirthdaysBetween_of (a : Option Addr) (n c : Nat) (ds : List Dt) (y1 d1 : Int) (y2 d2 : Int) (r : Int) (ok : Bool) (w : World) (h : ArgD w a n ds) (hm : n ≤ maxLen)
    (hs : ∀ b c w, ds.length ≤ 1048576 → b < w.heap.size → Dts w b 0 ds → Calls Try.prog 27 #[.slice (some ⟨b, 0, none⟩) ds.length c, .agg #[.int .i64 y1, .int .i64 d1], .agg #[.int .i64 y2, .int .i64 d2]] w (RetIB r ok w))
    (hi : ∀ b c w, ds.length ≤ 1048576 → b < w.heap.size → Dts w b 0 ds → Calls Try.prog 28 #[.slice (some ⟨b, 0, none⟩) ds.length c, .agg #[.int .i64 y1, .int .i64 d1], .agg #[.int .i64 y2, .int .i64 d2]] w (RetIB r ok w)) :
    Calls Try.prog 6 #[.slice a n c, .agg #[.int .i64 y1, .int .i64 d1], .agg #[.int .i64 y2, .int .i64 d2]] w (Ret (.bool true) w) := by
  obtain ⟨hl, h2⟩ := h
  subst hl
  have h : ArgD w a ds.length ds := ⟨rfl, h2⟩
  have HS := Lib.hid hs
  have HI := Lib.hid hi
  have HW0 := Lib.hid (((Below.refl w.heap.size w).alloc (Nat.le_refl _) (.cells #[.int .i64 y1, .int .i64 d1] 30)).alloc (by simp) (.cells #[.int .i64 y2, .int .i64 d2] 30))
  clear h2 hs hi
  by_cases hn : 1048576 < ds.length
  · go_enter Try.func6, Try.ntmps6
    go_wp2_with (go_at_call 13; refine (szDateS_great _ _ _ _ hn hm).mono ?_; rintro e w' ⟨rfl, rfl⟩)
    go_ret
    exact ⟨rfl, HW0.out⟩
  have hn' : ds.length ≤ 1048576 := by omega
  have hleft : ¬ (1048576 : Int) - (ds.length : Int) < 0 := by omega
  have hmark : ¬ (1 : Int) + 2 * (ds.length : Int) < 0 := by omega
  clear hm
  go_enter Try.func6, Try.ntmps6
  go_upto_region 5 with (go_at_call 13; refine (szDateS_any _ _ _ _ hn').mono ?_; rintro e w' ⟨rfl, rfl⟩)
  go_cut [8, 9] from 18 to 27 (fun v0 v1 wx => v0 = .int .i64 r ∧ v1 = .bool ok ∧ Below w.heap.size w wx ∧ wx.cell? ⟨w.heap.size, 0, none⟩ = some (.int .i64 y1) ∧ wx.cell? ⟨w.heap.size, 1, none⟩ = some (.int .i64 d1) ∧ wx.cell? ⟨w.heap.size + 1, 0, none⟩ = some (.int .i64 y2) ∧ wx.cell? ⟨w.heap.size + 1, 1, none⟩ = some (.int .i64 d2))
  case first =>
    go_region_with (first | (go_at_call 15; refine (toDateS_any _ _ _ ds _ (h.kept (by first | exact HW0.out.drew | assumption | exact Below.drew (by assumption))) hn').mono ?_; rintro e w' ⟨g1, hg1, rfl, ho1, hcall⟩; have hbw : Below w.heap.size w w' := (by first | exact Below.trans (by assumption) (Below.mono hcall (Below.size (by assumption))) | exact Below.trans (Below.drew (by assumption)) (Below.mono hcall (Below.size (Below.drew (by assumption)))) | exact HW0.out.trans (hcall.mono (by simp <;> omega)) | exact HW0.out.drew.trans (hcall.mono (by simp <;> omega))); have q1 : w'.cell? ⟨w.heap.size, 0, none⟩ = some (.int .i64 y1) := below_cell2 hcall (by first | assumption | (simp; done) | (simp [go_sem]; done) | (simp [go_sem, *]; done) | simp [*]); have q2 : w'.cell? ⟨w.heap.size, 1, none⟩ = some (.int .i64 d1) := below_cell2 hcall (by first | assumption | (simp; done) | (simp [go_sem]; done) | (simp [go_sem, *]; done) | simp [*]); have q3 : w'.cell? ⟨w.heap.size + 1, 0, none⟩ = some (.int .i64 y2) := below_cell2 hcall (by first | assumption | (simp; done) | (simp [go_sem]; done) | (simp [go_sem, *]; done) | simp [*]); have q4 : w'.cell? ⟨w.heap.size + 1, 1, none⟩ = some (.int .i64 d2) := below_cell2 hcall (by first | assumption | (simp; done) | (simp [go_sem]; done) | (simp [go_sem, *]; done) | simp [*]); have hd0 := ho1.shape.2.2.2.2.1; have hl0 := ho1.shape.2.2.1; clear hcall) | (go_at_call_of 19 (Value.int IntKind.i64 y1); refine (toDate_any y1 d1 _).mono ?_; rintro e w' ⟨rfl, hcall⟩; have hbw : Below w.heap.size w w' := (by first | exact Below.trans (by assumption) (Below.mono hcall (Below.size (by assumption))) | exact Below.trans (Below.drew (by assumption)) (Below.mono hcall (Below.size (Below.drew (by assumption)))) | exact HW0.out.trans (hcall.mono (by simp <;> omega)) | exact HW0.out.drew.trans (hcall.mono (by simp <;> omega))); have q1 : w'.cell? ⟨w.heap.size, 0, none⟩ = some (.int .i64 y1) := below_cell2 hcall (by first | assumption | (simp; done) | (simp [go_sem]; done) | (simp [go_sem, *]; done) | simp [*]); have q2 : w'.cell? ⟨w.heap.size, 1, none⟩ = some (.int .i64 d1) := below_cell2 hcall (by first | assumption | (simp; done) | (simp [go_sem]; done) | (simp [go_sem, *]; done) | simp [*]); have q3 : w'.cell? ⟨w.heap.size + 1, 0, none⟩ = some (.int .i64 y2) := below_cell2 hcall (by first | assumption | (simp; done) | (simp [go_sem]; done) | (simp [go_sem, *]; done) | simp [*]); have q4 : w'.cell? ⟨w.heap.size + 1, 1, none⟩ = some (.int .i64 d2) := below_cell2 hcall (by first | assumption | (simp; done) | (simp [go_sem]; done) | (simp [go_sem, *]; done) | simp [*]); (first | (have hdy := Dts.kept hd0 hcall hl0; have hly := Nat.lt_of_lt_of_le hl0 hcall.size; clear hd0 hl0; have hd0 := hdy; have hl0 := hly; clear hdy hly) | skip); clear hcall) | (go_at_call_of 19 (Value.int IntKind.i64 y2); refine (toDate_any y2 d2 _).mono ?_; rintro e w' ⟨rfl, hcall⟩; have hbw : Below w.heap.size w w' := (by first | exact Below.trans (by assumption) (Below.mono hcall (Below.size (by assumption))) | exact Below.trans (Below.drew (by assumption)) (Below.mono hcall (Below.size (Below.drew (by assumption)))) | exact HW0.out.trans (hcall.mono (by simp <;> omega)) | exact HW0.out.drew.trans (hcall.mono (by simp <;> omega))); have q1 : w'.cell? ⟨w.heap.size, 0, none⟩ = some (.int .i64 y1) := below_cell2 hcall (by first | assumption | (simp; done) | (simp [go_sem]; done) | (simp [go_sem, *]; done) | simp [*]); have q2 : w'.cell? ⟨w.heap.size, 1, none⟩ = some (.int .i64 d1) := below_cell2 hcall (by first | assumption | (simp; done) | (simp [go_sem]; done) | (simp [go_sem, *]; done) | simp [*]); have q3 : w'.cell? ⟨w.heap.size + 1, 0, none⟩ = some (.int .i64 y2) := below_cell2 hcall (by first | assumption | (simp; done) | (simp [go_sem]; done) | (simp [go_sem, *]; done) | simp [*]); have q4 : w'.cell? ⟨w.heap.size + 1, 1, none⟩ = some (.int .i64 d2) := below_cell2 hcall (by first | assumption | (simp; done) | (simp [go_sem]; done) | (simp [go_sem, *]; done) | simp [*]); (first | (have hdy := Dts.kept hd0 hcall hl0; have hly := Nat.lt_of_lt_of_le hl0 hcall.size; clear hd0 hl0; have hd0 := hdy; have hl0 := hly; clear hdy hly) | skip); clear hcall) | (go_at_call 27; refine (HS.out _ _ _ hn' hl0 hd0).mono ?_; rintro e w2 ⟨rfl, hcall⟩; have hbw : Below w.heap.size w w2 := (by first | exact Below.trans (by assumption) (Below.mono hcall (Below.size (by assumption))) | exact Below.trans (Below.drew (by assumption)) (Below.mono hcall (Below.size (Below.drew (by assumption)))) | exact HW0.out.trans (hcall.mono (by simp <;> omega)) | exact HW0.out.drew.trans (hcall.mono (by simp <;> omega))); have q1 : w2.cell? ⟨w.heap.size, 0, none⟩ = some (.int .i64 y1) := below_cell2 hcall (by first | assumption | (simp; done) | (simp [go_sem]; done) | (simp [go_sem, *]; done) | simp [*]); have q2 : w2.cell? ⟨w.heap.size, 1, none⟩ = some (.int .i64 d1) := below_cell2 hcall (by first | assumption | (simp; done) | (simp [go_sem]; done) | (simp [go_sem, *]; done) | simp [*]); have q3 : w2.cell? ⟨w.heap.size + 1, 0, none⟩ = some (.int .i64 y2) := below_cell2 hcall (by first | assumption | (simp; done) | (simp [go_sem]; done) | (simp [go_sem, *]; done) | simp [*]); have q4 : w2.cell? ⟨w.heap.size + 1, 1, none⟩ = some (.int .i64 d2) := below_cell2 hcall (by first | assumption | (simp; done) | (simp [go_sem]; done) | (simp [go_sem, *]; done) | simp [*]); clear hcall))
    all_goals
      go_wp2_with fail
      go_meet
      exact ⟨rfl, rfl, by assumption, by assumption, by assumption, by assumption, by assumption⟩
  case rest =>
  obtain ⟨rfl, rfl, hbw, q1, q2, q3, q4⟩ := hcut
  go_wp2_with fail
  refine (toDateS_any _ _ _ ds _ (h.kept hbw) hn').mono ?_
  rintro e w3 ⟨g3, hg3, rfl, ho3, hb3⟩
  have hb3' := hbw.trans (hb3.mono hbw.size)
  replace q1 := below_cell2 hb3 q1
  replace q2 := below_cell2 hb3 q2
  replace q3 := below_cell2 hb3 q3
  replace q4 := below_cell2 hb3 q4
  have hd3 := ho3.shape.2.2.2.2.1
  have hl3 := ho3.shape.2.2.1
  go_upto_region 7 with fail
  go_cut [11, 12] from 30 to 38 (fun v0 v1 wx => v0 = .int .i64 r ∧ v1 = .bool ok ∧ Below w3.heap.size w3 wx)
  case first =>
    go_region_with (first | (go_at_call_of 19 (Value.int IntKind.i64 y1); refine (toDate_any y1 d1 _).mono ?_; rintro e w' ⟨rfl, hcall⟩; have hb3x : Below w3.heap.size w3 w' := (by first | exact Below.trans (by assumption) (Below.mono hcall (Below.size (by assumption))) | exact (Below.refl _ _).drew.trans hcall); have q1 : w'.cell? ⟨w.heap.size, 0, none⟩ = some (.int .i64 y1) := below_cell2 hcall (by first | assumption | (simp; done) | (simp [go_sem]; done) | (simp [go_sem, *]; done) | simp [*]); have q2 : w'.cell? ⟨w.heap.size, 1, none⟩ = some (.int .i64 d1) := below_cell2 hcall (by first | assumption | (simp; done) | (simp [go_sem]; done) | (simp [go_sem, *]; done) | simp [*]); have q3 : w'.cell? ⟨w.heap.size + 1, 0, none⟩ = some (.int .i64 y2) := below_cell2 hcall (by first | assumption | (simp; done) | (simp [go_sem]; done) | (simp [go_sem, *]; done) | simp [*]); have q4 : w'.cell? ⟨w.heap.size + 1, 1, none⟩ = some (.int .i64 d2) := below_cell2 hcall (by first | assumption | (simp; done) | (simp [go_sem]; done) | (simp [go_sem, *]; done) | simp [*]); clear hcall) | (go_at_call_of 19 (Value.int IntKind.i64 y2); refine (toDate_any y2 d2 _).mono ?_; rintro e w' ⟨rfl, hcall⟩; have hb3x : Below w3.heap.size w3 w' := (by first | exact Below.trans (by assumption) (Below.mono hcall (Below.size (by assumption))) | exact (Below.refl _ _).drew.trans hcall); have q1 : w'.cell? ⟨w.heap.size, 0, none⟩ = some (.int .i64 y1) := below_cell2 hcall (by first | assumption | (simp; done) | (simp [go_sem]; done) | (simp [go_sem, *]; done) | simp [*]); have q2 : w'.cell? ⟨w.heap.size, 1, none⟩ = some (.int .i64 d1) := below_cell2 hcall (by first | assumption | (simp; done) | (simp [go_sem]; done) | (simp [go_sem, *]; done) | simp [*]); have q3 : w'.cell? ⟨w.heap.size + 1, 0, none⟩ = some (.int .i64 y2) := below_cell2 hcall (by first | assumption | (simp; done) | (simp [go_sem]; done) | (simp [go_sem, *]; done) | simp [*]); have q4 : w'.cell? ⟨w.heap.size + 1, 1, none⟩ = some (.int .i64 d2) := below_cell2 hcall (by first | assumption | (simp; done) | (simp [go_sem]; done) | (simp [go_sem, *]; done) | simp [*]); clear hcall) | (go_at_call 28; refine (HI.out _ _ _ hn' (Nat.lt_of_lt_of_le hl3 (Below.size ‹Below w3.heap.size w3 _›)) (hd3.kept (by assumption) hl3)).mono ?_; rintro e w4 ⟨rfl, hcall⟩; have hb3x : Below w3.heap.size w3 w4 := (by first | exact Below.trans (by assumption) (Below.mono hcall (Below.size (by assumption))) | exact (Below.refl _ _).drew.trans hcall); have q1 : w4.cell? ⟨w.heap.size, 0, none⟩ = some (.int .i64 y1) := below_cell2 hcall (by first | assumption | (simp; done) | (simp [go_sem]; done) | (simp [go_sem, *]; done) | simp [*]); have q2 : w4.cell? ⟨w.heap.size, 1, none⟩ = some (.int .i64 d1) := below_cell2 hcall (by first | assumption | (simp; done) | (simp [go_sem]; done) | (simp [go_sem, *]; done) | simp [*]); have q3 : w4.cell? ⟨w.heap.size + 1, 0, none⟩ = some (.int .i64 y2) := below_cell2 hcall (by first | assumption | (simp; done) | (simp [go_sem]; done) | (simp [go_sem, *]; done) | simp [*]); have q4 : w4.cell? ⟨w.heap.size + 1, 1, none⟩ = some (.int .i64 d2) := below_cell2 hcall (by first | assumption | (simp; done) | (simp [go_sem]; done) | (simp [go_sem, *]; done) | simp [*]); clear hcall))
    all_goals
      go_wp2_with fail
      go_meet
      exact ⟨rfl, rfl, by assumption⟩
  case rest =>
  obtain ⟨rfl, rfl, hb4⟩ := hcut
  have hb4' := hb3'.trans (hb4.mono hb3'.size)
  have ho4 := ho3.kept hb4
  go_wp2_with fail
  refine (toDateS_any _ _ _ ds _ (h.kept hb4') hn').mono ?_
  rintro e w5 ⟨g5, hg5, rfl, ho5, hb5⟩
  have hb5' := hb4'.trans (hb5.mono hb4'.size)
  go_wp2_with fail
  refine (eqDateS_any _ _ _ _ _ _ ds _ hn' (ho4.kept hb5) ho5).mono ?_
  rintro e w6 ⟨rfl, hb6⟩
  have hb6' := hb5'.trans (hb6.mono hb5'.size)
  go_wp2_with fail
  go_ret
  exact ⟨rfl, hb6'⟩

theorem law_BirthdaysBetween (a : Option Addr) (n c : Nat) (ds : List Dt) (y1 d1 : Int) (y2 d2 : Int) (w : World) (h : ArgD w a n ds) (hm : n ≤ maxLen) :
    Calls Try.prog 6 #[.slice a n c, .agg #[.int .i64 y1, .int .i64 d1], .agg #[.int .i64 y2, .int .i64 d2]] w (Ret (.bool true) w) := by
  obtain ⟨r, ok, hs, hi⟩ := birthdaysBetween_both ds y1 d1 y2 d2
  exact law_BirthdaysBetween_of a n c ds y1 d1 y2 d2 r ok w h hm hs hi
end Go.Proofs.Ytbhceokapbnhhaa
