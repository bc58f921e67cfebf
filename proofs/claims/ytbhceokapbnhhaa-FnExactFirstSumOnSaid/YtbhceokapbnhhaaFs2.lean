/- The first date on which the ages have a sum, of the program. -/
import Derived.Test.YtbhceokapbnhhaaFs1
set_option linter.unusedVariables false
set_option linter.unusedSimpArgs false
namespace Go.Proofs.Ytbhceokapbnhhaa
open Go.RowKit

set_option maxHeartbeats 4000000 in
set_option maxRecDepth 100000 in
theorem fsClos_any (g6 gb gs b off n c i : Nat) (ds : List Dt) (s y d : Int) (w : World) (hl : ds.length = n) (hg : birthsB ds = true) (hp : fsFrom ds = (y, d)) (hi : i < fsN ds) (hI : Dts w b off ds) (hbl : b < w.heap.size)
    (q1 : w.cell? ⟨g6, 0, none⟩ = some (.int .i64 y)) (q2 : w.cell? ⟨g6, 1, none⟩ = some (.int .i64 d)) (q3 : w.cell? ⟨gb, 0, none⟩ = some (.slice (some ⟨b, off, none⟩) n c)) (q4 : w.cell? ⟨gs, 0, none⟩ = some (.int .i64 s)) :
    Calls Try.prog 69 #[.int .i64 i, .pointer (some ⟨g6, 0, none⟩), .pointer (some ⟨gb, 0, none⟩), .pointer (some ⟨gs, 0, none⟩)] w (Ret (.bool (fsT ds s i)) w) := by
  have hd := fsFrom_date hg
  have hok := fs_ok hg hi
  have hN := fsN_is hg
  have hsum := fs_sum hg hi
  have hdt := back_date hok
  rw [hp] at hok hsum hdt hd hN
  have hdb := dys_bounds hd
  have ha : addD (y, d) (i : Int) = true := by unfold addD; rw [hd, inB_true (by omega) (by omega)]; rfl
  have hA0 := fun W => imAddDays_any y d (i : Int) W
  rw [(add_yes1 ha).1, (add_yes1 ha).2, hok] at hA0
  have hS0 := fun (W : World) (h : Dts W b off ds) (h2 : b < W.heap.size) => imSumOfAgesOn_any b off n c ds (backD (dys (y, d) + (i : Int))).1 (backD (dys (y, d) + (i : Int))).2 W hl h h2
  rw [show ((backD (dys (y, d) + (i : Int))).1, (backD (dys (y, d) + (i : Int))).2) = backD (dys (y, d) + (i : Int)) from rfl, hsum] at hS0
  have hE : fsT ds s i = decide (s ≤ sumA ds (backD (dys (y, d) + (i : Int))) ds.length) := by unfold fsT; rw [hp]
  have HA := Lib.hid hA0
  have HS := Lib.hid hS0
  rw [hE]
  clear hA0 hS0 hE hsum hdt ha hok hd hN hdb hp hg hi hl
  generalize sumA ds (backD (dys (y, d) + (i : Int))) ds.length = r at HS ⊢
  generalize backD (dys (y, d) + (i : Int)) = q at HA HS
  obtain ⟨qy, qd⟩ := q
  generalize allBorn ds (qy, qd) = al at HS
  go_enter Try.func69, Try.ntmps69
  go_wp2_with (first
    | (go_at_call 70; refine (HA.out _).mono ?_; rintro e w2 ⟨rfl, hc2⟩; have k1 := cell_above (below_cell2 hc2 q1); have k3 := cell_above (below_cell2 hc2 q3); have k4 := cell_above (below_cell2 hc2 q4))
    | (go_at_call 26; have hb3 := hc2.alloc hc2.size (.cells #[.int .i64 qy, .int .i64 qd] 34); refine (HS.out _ (hI.kept hb3 hbl) (by have := hb3.size; omega)).mono ?_; rintro e w4 ⟨rfl, hc4⟩; have k5 := below_cell2 hc4 (k4 _)))
  go_ret
  exact ⟨rfl, hb3.trans (hc4.mono hb3.size)⟩

theorem frozen_after {w w' : World} {g o j : Nat} {v : Value} {f : Bool} (hb : Below w.heap.size w w') (h : w.cell? ⟨g, o, none⟩ = some v) (hz : w.frozen? ⟨g, j, none⟩ = f) : w'.frozen? ⟨g, j, none⟩ = f :=
  (hb.frozen (p := ⟨g, j, none⟩) (World.block_lt_of_cell? w ⟨g, o, none⟩ h)).trans hz
set_option maxHeartbeats 8000000 in
set_option maxRecDepth 100000 in
theorem imFirstSumOn_any (b off n c : Nat) (ds : List Dt) (s : Int) (w : World) (hl : ds.length = n) (hI : Dts w b off ds) (hbl : b < w.heap.size) :
    Calls Try.prog 37 #[.slice (some ⟨b, off, none⟩) n c, .int .i64 s] w (RetPB (fsP ds s) (fsB ds s) w) := by
  have HW0 := Lib.hid ((((Below.refl w.heap.size w).alloc (Nat.le_refl _) (.cells #[.slice (some ⟨b, off, none⟩) n c] 25)).alloc (by simp) (.cells #[.int .i64 s] 3)).alloc (by simp; omega) (.cells #[.int .i64 0, .int .i64 0] 34))
  have hI3 : ∀ A A' A'', Dts (((w.alloc A).alloc A').alloc A'') b off ds := fun A A' A'' => hI.kept ((((Below.refl w.heap.size w).alloc (Nat.le_refl _) A).alloc (by simp) A').alloc (by simp; omega) A'') hbl
  have hbl3 : ∀ A A' A'', b < (((w.alloc A).alloc A').alloc A'').heap.size := fun A A' A'' => by simp <;> omega
  have HB0 := fun (W : World) (h : Dts W b off ds) (h2 : b < W.heap.size) => imBirths_any b off n c ds W hl h h2
  have HIN0 := fun W => imWithin_any s 0 10000 W
  cases h1 : birthsB ds with
  | false =>
    have HE := Lib.hid (fs_no (s := s) (show fsG ds s = false by unfold fsG; rw [h1]; rfl))
    rw [h1] at HB0
    have HB := Lib.hid HB0
    clear HB0 HIN0 h1 hl
    go_enter Try.func37, Try.ntmps37
    go_wp2_with (first | (go_at_call 16; refine (HB.out _ (by first | exact hI3 _ _ _ | exact hI.kept (by assumption) hbl) (by first | exact hbl3 _ _ _ | (have := Below.size ‹Below w.heap.size w _›; omega))).mono ?_; rintro e w' ⟨rfl, hcall⟩; have hbw : Below w.heap.size w w' := (by first | exact Below.trans (by assumption) (Below.mono hcall (Below.size (by assumption))) | exact Below.trans (Below.drew (by assumption)) (Below.mono hcall (Below.size (Below.drew (by assumption)))) | exact HW0.out.trans (hcall.mono (by simp <;> omega)) | exact HW0.out.drew.trans (hcall.mono (by simp <;> omega))); have q1 : w'.cell? ⟨w.heap.size, 0, none⟩ = some (.slice (some ⟨b, off, none⟩) n c) := below_cell2 hcall (by first | assumption | (simp; done) | (simp [go_sem]; done) | simp [*]); have q2 : w'.cell? ⟨w.heap.size + 1, 0, none⟩ = some (.int .i64 s) := below_cell2 hcall (by first | assumption | (simp; done) | (simp [go_sem]; done) | simp [*]); have r0 : w'.cell? ⟨w.heap.size + 1 + 1, 0, none⟩ = some (.int .i64 0) := below_cell2 hcall (by first | assumption | (simp; done) | (simp [go_sem]; done) | simp [*]); have r1 : w'.cell? ⟨w.heap.size + 1 + 1, 1, none⟩ = some (.int .i64 0) := below_cell2 hcall (by first | assumption | (simp; done) | (simp [go_sem]; done) | simp [*]); have z0 : w'.frozen? ⟨w.heap.size + 1 + 1, 0, none⟩ = false := (hcall.frozen (p := ⟨w.heap.size + 1 + 1, 0, none⟩) (by first | (simp; done) | exact World.block_lt_of_cell? _ ⟨w.heap.size + 1 + 1, 0, none⟩ (by assumption))).trans (by first | (simp; done) | assumption | (simp [go_sem]; done) | (simp [*]; done)); have z1 : w'.frozen? ⟨w.heap.size + 1 + 1, 1, none⟩ = false := (hcall.frozen (p := ⟨w.heap.size + 1 + 1, 1, none⟩) (by first | (simp; done) | exact World.block_lt_of_cell? _ ⟨w.heap.size + 1 + 1, 0, none⟩ (by assumption))).trans (by first | (simp; done) | assumption | (simp [go_sem]; done) | (simp [*]; done)); clear hcall))
    obtain ⟨s0, s1⟩ := two_cells r0 r1
    refine bodyPost_ret (v := .tuple #[.agg #[.int .i64 0, .int .i64 0], .bool false]) (by simp [results, Try.results37, go_sem, s0, s1]) rfl ?_
    rw [HE.out.1, HE.out.2]
    exact ⟨rfl, (hbw.setCell (by simp <;> omega) _).setCell (by simp <;> omega) _⟩
  | true =>
  cases h2 : inB s 0 10000 with
  | false =>
    have HE := Lib.hid (fs_no (s := s) (show fsG ds s = false by unfold fsG; rw [h1, h2]; rfl))
    rw [h1] at HB0
    rw [h2] at HIN0
    have HB := Lib.hid HB0
    have HIN := Lib.hid HIN0
    clear HB0 HIN0 h1 h2 hl
    go_enter Try.func37, Try.ntmps37
    go_wp2_with (first | (go_at_call 16; refine (HB.out _ (by first | exact hI3 _ _ _ | exact hI.kept (by assumption) hbl) (by first | exact hbl3 _ _ _ | (have := Below.size ‹Below w.heap.size w _›; omega))).mono ?_; rintro e w' ⟨rfl, hcall⟩; have hbw : Below w.heap.size w w' := (by first | exact Below.trans (by assumption) (Below.mono hcall (Below.size (by assumption))) | exact Below.trans (Below.drew (by assumption)) (Below.mono hcall (Below.size (Below.drew (by assumption)))) | exact HW0.out.trans (hcall.mono (by simp <;> omega)) | exact HW0.out.drew.trans (hcall.mono (by simp <;> omega))); have q1 : w'.cell? ⟨w.heap.size, 0, none⟩ = some (.slice (some ⟨b, off, none⟩) n c) := below_cell2 hcall (by first | assumption | (simp; done) | (simp [go_sem]; done) | simp [*]); have q2 : w'.cell? ⟨w.heap.size + 1, 0, none⟩ = some (.int .i64 s) := below_cell2 hcall (by first | assumption | (simp; done) | (simp [go_sem]; done) | simp [*]); have r0 : w'.cell? ⟨w.heap.size + 1 + 1, 0, none⟩ = some (.int .i64 0) := below_cell2 hcall (by first | assumption | (simp; done) | (simp [go_sem]; done) | simp [*]); have r1 : w'.cell? ⟨w.heap.size + 1 + 1, 1, none⟩ = some (.int .i64 0) := below_cell2 hcall (by first | assumption | (simp; done) | (simp [go_sem]; done) | simp [*]); have z0 : w'.frozen? ⟨w.heap.size + 1 + 1, 0, none⟩ = false := (hcall.frozen (p := ⟨w.heap.size + 1 + 1, 0, none⟩) (by first | (simp; done) | exact World.block_lt_of_cell? _ ⟨w.heap.size + 1 + 1, 0, none⟩ (by assumption))).trans (by first | (simp; done) | assumption | (simp [go_sem]; done) | (simp [*]; done)); have z1 : w'.frozen? ⟨w.heap.size + 1 + 1, 1, none⟩ = false := (hcall.frozen (p := ⟨w.heap.size + 1 + 1, 1, none⟩) (by first | (simp; done) | exact World.block_lt_of_cell? _ ⟨w.heap.size + 1 + 1, 0, none⟩ (by assumption))).trans (by first | (simp; done) | assumption | (simp [go_sem]; done) | (simp [*]; done)); clear hcall) | (go_at_call 46; refine (HIN.out _).mono ?_; rintro e w' ⟨rfl, rfl⟩))
    obtain ⟨s0, s1⟩ := two_cells r0 r1
    refine bodyPost_ret (v := .tuple #[.agg #[.int .i64 0, .int .i64 0], .bool false]) (by simp [results, Try.results37, go_sem, s0, s1]) rfl ?_
    rw [HE.out.1, HE.out.2]
    exact ⟨rfl, (hbw.setCell (by simp <;> omega) _).setCell (by simp <;> omega) _⟩
  | true =>
    have HE := Lib.hid (fs_yes (show fsG ds s = true by unfold fsG; rw [h1, h2]; rfl))
    have h8 := birthsB_len h1
    rw [hl] at h8
    have HG := Lib.hid h1
    have HL := Lib.hid hl
    rw [h1] at HB0
    rw [h2] at HIN0
    have HB := Lib.hid HB0
    have HIN := Lib.hid HIN0
    have hfd := fsFrom_date h1
    have hN := fsN_is h1
    have hdb := dys_bounds hfd
    have HM := Lib.hid (fs_mono h1 s)
    have hcut := cutT_le (fsT ds s) (fsN ds)
    have HMX0 := fun (W : World) (h : Dts W b off ds) (h3 : b < W.heap.size) => imMaxDate_any b off n c ds W hl (by omega) (by omega) h h3 (fun j hj => mid_date (birthsB_at h1 j (by omega)))
    rw [show pickTo moreT ds (n - 1) = fsFrom ds by unfold fsFrom; rw [hl]] at HMX0
    have HX := Lib.hid (show fsX ds s = dys (fsFrom ds) + (cutT (fsT ds s) (fsN ds) : Int) from rfl)
    have HAD0 := fun W => imAddDays_any (fsFrom ds).1 (fsFrom ds).2 (cutT (fsT ds s) (fsN ds) : Int) W
    have hadd : addD (fsFrom ds) (cutT (fsT ds s) (fsN ds) : Int) = true := by unfold addD; rw [hfd, inB_true (by omega) (by omega)]; rfl
    rw [show ((fsFrom ds).1, (fsFrom ds).2) = fsFrom ds from rfl, (add_yes1 hadd).1, (add_yes1 hadd).2, ← HX.out] at HAD0
    have hfm := mid_date hfd
    have HDA0 := fun W => imDaysAfter_any 3000 365 (fsFrom ds).1 (fsFrom ds).2 W (by unfold midI; omega) (by unfold midI; omega) hfm.1 hfm.2
    rw [show ((fsFrom ds).1, (fsFrom ds).2) = fsFrom ds from rfl] at HDA0
    have HFF : Hid (fsFrom ds = ((fsFrom ds).1, (fsFrom ds).2)) := Lib.hid rfl
    revert HFF
    generalize hpp : fsFrom ds = p at HMX0 HAD0 HDA0 hN hdb
    obtain ⟨y, d⟩ := p
    intro _
    have HFF := Lib.hid hpp
    have hN1 : dys (3000, 365) - dys (y, d) + 1 = (fsN ds : Int) := by rw [hN.1]; unfold dys; simp only; omega
    have hN2 : dys (3000, 365) - dys (y, d) = (fsN ds : Int) - 1 := by omega
    rw [hN2] at HDA0
    have hN3 := hN.2
    have HMX := Lib.hid HMX0
    have HAD := Lib.hid HAD0
    have HDA := Lib.hid HDA0
    have HDO := Lib.hid (fun W => imDayOf_any y d W)
    clear HB0 HIN0 HMX0 HAD0 HDA0 h1 h2 hl hfd hN hdb hadd hfm hpp hN1 hN2
    generalize hNe : fsN ds = N at hcut hN3 HDA HM
    generalize hCe : cutT (fsT ds s) N = C at hcut
    rw [hNe, hCe] at HAD
    have HNe := Lib.hid hNe
    have HCe := Lib.hid hCe
    generalize fsX ds s = X at HE HAD
    generalize hBk : backD X = q at HE HAD
    generalize hBo : backOk X = ok at HE HAD
    obtain ⟨qy, qd⟩ := q
    clear hNe hCe HX hBk hBo
    go_enter Try.func37, Try.ntmps37
    go_wp2_with (first | (go_at_call 16; refine (HB.out _ (by first | exact hI3 _ _ _ | exact hI.kept (by assumption) hbl) (by first | exact hbl3 _ _ _ | (have := Below.size ‹Below w.heap.size w _›; omega))).mono ?_; rintro e w' ⟨rfl, hcall⟩; have hbw : Below w.heap.size w w' := (by first | exact Below.trans (by assumption) (Below.mono hcall (Below.size (by assumption))) | exact Below.trans (Below.drew (by assumption)) (Below.mono hcall (Below.size (Below.drew (by assumption)))) | exact HW0.out.trans (hcall.mono (by simp <;> omega)) | exact HW0.out.drew.trans (hcall.mono (by simp <;> omega))); have q1 : w'.cell? ⟨w.heap.size, 0, none⟩ = some (.slice (some ⟨b, off, none⟩) n c) := below_cell2 hcall (by first | assumption | (simp; done) | (simp [go_sem]; done) | simp [*]); have q2 : w'.cell? ⟨w.heap.size + 1, 0, none⟩ = some (.int .i64 s) := below_cell2 hcall (by first | assumption | (simp; done) | (simp [go_sem]; done) | simp [*]); have r0 : w'.cell? ⟨w.heap.size + 1 + 1, 0, none⟩ = some (.int .i64 0) := below_cell2 hcall (by first | assumption | (simp; done) | (simp [go_sem]; done) | simp [*]); have r1 : w'.cell? ⟨w.heap.size + 1 + 1, 1, none⟩ = some (.int .i64 0) := below_cell2 hcall (by first | assumption | (simp; done) | (simp [go_sem]; done) | simp [*]); have z0 : w'.frozen? ⟨w.heap.size + 1 + 1, 0, none⟩ = false := (hcall.frozen (p := ⟨w.heap.size + 1 + 1, 0, none⟩) (by first | (simp; done) | exact World.block_lt_of_cell? _ ⟨w.heap.size + 1 + 1, 0, none⟩ (by assumption))).trans (by first | (simp; done) | assumption | (simp [go_sem]; done) | (simp [*]; done)); have z1 : w'.frozen? ⟨w.heap.size + 1 + 1, 1, none⟩ = false := (hcall.frozen (p := ⟨w.heap.size + 1 + 1, 1, none⟩) (by first | (simp; done) | exact World.block_lt_of_cell? _ ⟨w.heap.size + 1 + 1, 0, none⟩ (by assumption))).trans (by first | (simp; done) | assumption | (simp [go_sem]; done) | (simp [*]; done)); clear hcall) | (go_at_call 46; refine (HIN.out _).mono ?_; rintro e w' ⟨rfl, rfl⟩))
    refine (HMX.out _ (hI.kept hbw hbl) (by have := Below.size hbw; omega)).mono ?_
    rintro e w2 ⟨rfl, hc2⟩
    have hb2 := hbw.trans (hc2.mono (Below.size hbw))
    have hb2a := hb2.alloc (Below.size hb2) (.cells #[.int .i64 y, .int .i64 d] 34)
    have z0 := frozen_above (below_cell2 hc2 r0) (frozen_after hc2 r0 z0) (.cells #[.int .i64 y, .int .i64 d] 34)
    have z1 := frozen_above (below_cell2 hc2 r1) (frozen_after hc2 r1 z1) (.cells #[.int .i64 y, .int .i64 d] 34)
    have q1 := cell_above (below_cell2 hc2 q1) (.cells #[.int .i64 y, .int .i64 d] 34)
    have q2 := cell_above (below_cell2 hc2 q2) (.cells #[.int .i64 y, .int .i64 d] 34)
    have r0 := cell_above (below_cell2 hc2 r0) (.cells #[.int .i64 y, .int .i64 d] 34)
    have r1 := cell_above (below_cell2 hc2 r1) (.cells #[.int .i64 y, .int .i64 d] 34)
    have p1 : (w2.alloc (.cells #[.int .i64 y, .int .i64 d] 34)).cell? ⟨w2.heap.size, 0, none⟩ = some (.int .i64 y) := by simp [go_sem]
    have p2 : (w2.alloc (.cells #[.int .i64 y, .int .i64 d] 34)).cell? ⟨w2.heap.size, 1, none⟩ = some (.int .i64 d) := by simp [go_sem]
    go_wp2_with fail
    refine (HDO.out _).mono ?_
    rintro e w3 ⟨rfl, hc3⟩
    go_wp2_with fail
    refine (HDA.out _).mono ?_
    rintro e w4 ⟨rfl, hc4⟩
    have hc34 := hc3.trans (hc4.mono (Below.size hc3))
    have hb4 := hb2a.trans (hc34.mono (Below.size hb2a))
    have z0 := frozen_after hc34 r0 z0
    have z1 := frozen_after hc34 r1 z1
    have q1 := below_cell2 hc34 q1
    have q2 := below_cell2 hc34 q2
    have r0 := below_cell2 hc34 r0
    have r1 := below_cell2 hc34 r1
    have p1 := below_cell2 hc34 p1
    have p2 := below_cell2 hc34 p2
    have HSE := Lib.hid (search_any ⟨w2.heap.size, 0, none⟩ ⟨w.heap.size, 0, none⟩ ⟨w.heap.size + 1, 0, none⟩ (fsT ds s) N w4 (by omega)
      (fun i W hi hW => fsClos_any w2.heap.size w.heap.size (w.heap.size + 1) b off n c i ds s y d W HL.out HG.out HFF.out (by rw [HNe.out]; exact hi) (hI.kept (hb4.trans (hW.mono (Below.size hb4))) hbl) (by have := Below.size hb4; have := hW.size; omega) (below_cell2 hW p1) (below_cell2 hW p2) (below_cell2 hW q1) (below_cell2 hW q2))
      (by rw [← HNe.out]; exact fs_mono HG.out s))
    rw [HCe.out] at HSE
    have kN : (N : Int) - 1 + 1 = (N : Int) := by omega
    go_wp2_with fail
    refine HSE.out.mono ?_
    rintro e w5 ⟨rfl, hc5⟩
    have hb5 := hb4.trans (hc5.mono (Below.size hb4))
    have z0 := frozen_after hc5 r0 z0
    have z1 := frozen_after hc5 r1 z1
    have r0 := below_cell2 hc5 r0
    have r1 := below_cell2 hc5 r1
    have p1 := below_cell2 hc5 p1
    have p2 := below_cell2 hc5 p2
    go_wp2_with fail
    refine (HAD.out _).mono ?_
    rintro e w6 ⟨rfl, hc6⟩
    have hb6 := hb5.trans (hc6.mono (Below.size hb5))
    have z0 := frozen_after hc6 r0 z0
    have z1 := frozen_after hc6 r1 z1
    have r0 := below_cell2 hc6 r0
    have r1 := below_cell2 hc6 r1
    go_wp2_with fail
    obtain ⟨s0, s1⟩ := two_cells r0 r1
    refine bodyPost_ret (v := .tuple #[.agg #[.int .i64 qy, .int .i64 qd], .bool ok]) (by simp [results, Try.results37, go_sem, s0, s1]) rfl ?_
    rw [HE.out.1, HE.out.2]
    exact ⟨rfl, (hb6.setCell (by simp <;> omega) _).setCell (by simp <;> omega) _⟩
end Go.Proofs.Ytbhceokapbnhhaa
