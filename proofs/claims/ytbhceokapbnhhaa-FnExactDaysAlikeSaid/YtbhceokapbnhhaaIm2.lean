/- Days old, ages, days apart, days added, of the program. -/
import Derived.Test.YtbhceokapbnhhaaIm1
import Derived.Test.YtbhceokapbnhhaaBi5
set_option linter.unusedVariables false
set_option linter.unusedSimpArgs false
namespace Go.Proofs.Ytbhceokapbnhhaa
open Go.RowKit

theorem below_two {w a b c : World} (h : Below w.heap.size w a) (k : Below a.heap.size a b) (l : Below b.heap.size b c) : Below w.heap.size w c :=
  (h.trans (k.mono h.size)).trans (l.mono (h.trans (k.mono h.size)).size)
theorem below_twoD {w a b c : World} (h : Below w.heap.size w a) (k : Below a.drew.heap.size a.drew b) (l : Below b.heap.size b c) : Below w.heap.size w c :=
  (h.drew.trans (k.mono h.drew.size)).trans (l.mono (h.drew.trans (k.mono h.drew.size)).size)
theorem mid_date {p : Dt} (h : dateB p = true) : midI p.1 ∧ midI p.2 := by
  have := dateB_iff.1 h
  unfold midI
  omega
theorem old_no {b o : Dt} (h : bornD b o = false) : daysOldR b o = 0 := by unfold daysOldR; rw [h]; rfl
theorem old_yes {b o : Dt} (h : bornD b o = true) : daysOldR b o = dys o - dys b := by unfold daysOldR; rw [if_pos h]
theorem old_bounds (b o : Dt) : 0 ≤ daysOldR b o ∧ daysOldR b o ≤ 1095364 := by
  cases h : bornD b o with
  | false => rw [old_no h]; omega
  | true =>
    rw [old_yes h]
    obtain ⟨h1, h2, h3⟩ := bornD_parts h
    have := dys_bounds h1
    have := dys_bounds h2
    omega
set_option maxHeartbeats 4000000 in
set_option maxRecDepth 100000 in
theorem imDaysOld_any (y d y2 d2 : Int) (w : World) : Calls Try.prog 76 #[.agg #[.int .i64 y, .int .i64 d], .agg #[.int .i64 y2, .int .i64 d2]] w (RetIB (daysOldR (y, d) (y2, d2)) (bornD (y, d) (y2, d2)) w) := by
  have HW0 := Lib.hid (((Below.refl w.heap.size w).alloc (Nat.le_refl _) (.cells #[.int .i64 y, .int .i64 d] 34)).alloc (by simp) (.cells #[.int .i64 y2, .int .i64 d2] 34))
  have HA0 := fun w => imAreDates_any y d y2 d2 w
  cases h : twoD (y, d) (y2, d2) with
  | false =>
    have hb : bornD (y, d) (y2, d2) = false := by rw [bornD_two, h]; rfl
    rw [hb, old_no hb]
    rw [h] at HA0
    have HA := Lib.hid HA0
    clear HA0 h hb
    go_enter Try.func76, Try.ntmps76
    go_wp2_with (first | (go_at_call 71; refine (HA.out _).mono ?_; rintro e w' ⟨rfl, hcall⟩; have hbw : Below w.heap.size w w' := (by first | exact Below.trans (by assumption) (Below.mono hcall (Below.size (by assumption))) | exact Below.trans (Below.drew (by assumption)) (Below.mono hcall (Below.size (Below.drew (by assumption)))) | exact HW0.out.trans (hcall.mono (by simp <;> omega)) | exact HW0.out.drew.trans (hcall.mono (by simp <;> omega))); have q1 : w'.cell? ⟨w.heap.size, 0, none⟩ = some (.int .i64 y) := below_cell2 hcall (by first | assumption | (simp; done) | (simp [go_sem]; done) | simp [*]); have q2 : w'.cell? ⟨w.heap.size, 1, none⟩ = some (.int .i64 d) := below_cell2 hcall (by first | assumption | (simp; done) | (simp [go_sem]; done) | simp [*]); have q3 : w'.cell? ⟨w.heap.size + 1, 0, none⟩ = some (.int .i64 y2) := below_cell2 hcall (by first | assumption | (simp; done) | (simp [go_sem]; done) | simp [*]); have q4 : w'.cell? ⟨w.heap.size + 1, 1, none⟩ = some (.int .i64 d2) := below_cell2 hcall (by first | assumption | (simp; done) | (simp [go_sem]; done) | simp [*]); clear hcall))
    go_ret2
    exact ⟨rfl, hbw⟩
  | true =>
    have hd := Bool.and_eq_true _ _ ▸ (show (dateB (y, d) && dateB (y2, d2)) = true from h)
    have hm1 := mid_date hd.1
    have hm2 := mid_date hd.2
    have hc1 := dys_bounds hd.1
    have hc2 := dys_bounds hd.2
    have HC := Lib.hid (fun w => imCompare_any y2 d2 y d w hm2.1 hm2.2 hm1.1 hm1.2)
    rw [h] at HA0
    by_cases hlt : dys (y, d) ≤ dys (y2, d2)
    · have hb : bornD (y, d) (y2, d2) = true := by rw [bornD_two, h, decide_eq_true hlt]; rfl
      rw [hb, old_yes hb]
      have HA := Lib.hid HA0
      clear HA0 h hb hd hm1 hm2
      have hq : ¬ (dys (y2, d2) - dys (y, d) < 0) := by omega
      generalize dys (y2, d2) - dys (y, d) = q at HC hq ⊢
      clear hlt hc1 hc2
      go_enter Try.func76, Try.ntmps76
      go_wp2_with (first | (go_at_call 71; refine (HA.out _).mono ?_; rintro e w' ⟨rfl, hcall⟩; have hbw : Below w.heap.size w w' := (by first | exact Below.trans (by assumption) (Below.mono hcall (Below.size (by assumption))) | exact Below.trans (Below.drew (by assumption)) (Below.mono hcall (Below.size (Below.drew (by assumption)))) | exact HW0.out.trans (hcall.mono (by simp <;> omega)) | exact HW0.out.drew.trans (hcall.mono (by simp <;> omega))); have q1 : w'.cell? ⟨w.heap.size, 0, none⟩ = some (.int .i64 y) := below_cell2 hcall (by first | assumption | (simp; done) | (simp [go_sem]; done) | simp [*]); have q2 : w'.cell? ⟨w.heap.size, 1, none⟩ = some (.int .i64 d) := below_cell2 hcall (by first | assumption | (simp; done) | (simp [go_sem]; done) | simp [*]); have q3 : w'.cell? ⟨w.heap.size + 1, 0, none⟩ = some (.int .i64 y2) := below_cell2 hcall (by first | assumption | (simp; done) | (simp [go_sem]; done) | simp [*]); have q4 : w'.cell? ⟨w.heap.size + 1, 1, none⟩ = some (.int .i64 d2) := below_cell2 hcall (by first | assumption | (simp; done) | (simp [go_sem]; done) | simp [*]); clear hcall) | (go_at_call 54; refine (HC.out _).mono ?_; rintro e w' ⟨rfl, hcall⟩; have hbw : Below w.heap.size w w' := (by first | exact Below.trans (by assumption) (Below.mono hcall (Below.size (by assumption))) | exact Below.trans (Below.drew (by assumption)) (Below.mono hcall (Below.size (Below.drew (by assumption)))) | exact HW0.out.trans (hcall.mono (by simp <;> omega)) | exact HW0.out.drew.trans (hcall.mono (by simp <;> omega))); have q1 : w'.cell? ⟨w.heap.size, 0, none⟩ = some (.int .i64 y) := below_cell2 hcall (by first | assumption | (simp; done) | (simp [go_sem]; done) | simp [*]); have q2 : w'.cell? ⟨w.heap.size, 1, none⟩ = some (.int .i64 d) := below_cell2 hcall (by first | assumption | (simp; done) | (simp [go_sem]; done) | simp [*]); have q3 : w'.cell? ⟨w.heap.size + 1, 0, none⟩ = some (.int .i64 y2) := below_cell2 hcall (by first | assumption | (simp; done) | (simp [go_sem]; done) | simp [*]); have q4 : w'.cell? ⟨w.heap.size + 1, 1, none⟩ = some (.int .i64 d2) := below_cell2 hcall (by first | assumption | (simp; done) | (simp [go_sem]; done) | simp [*]); clear hcall))
      go_ret2
      exact ⟨rfl, hbw⟩
    · have hb : bornD (y, d) (y2, d2) = false := by rw [bornD_two, h, decide_eq_false hlt]; rfl
      rw [hb, old_no hb]
      have HA := Lib.hid HA0
      clear HA0 h hb hd hm1 hm2
      have hq : dys (y2, d2) - dys (y, d) < 0 := by omega
      generalize dys (y2, d2) - dys (y, d) = q at HC hq ⊢
      clear hlt hc1 hc2
      go_enter Try.func76, Try.ntmps76
      go_wp2_with (first | (go_at_call 71; refine (HA.out _).mono ?_; rintro e w' ⟨rfl, hcall⟩; have hbw : Below w.heap.size w w' := (by first | exact Below.trans (by assumption) (Below.mono hcall (Below.size (by assumption))) | exact Below.trans (Below.drew (by assumption)) (Below.mono hcall (Below.size (Below.drew (by assumption)))) | exact HW0.out.trans (hcall.mono (by simp <;> omega)) | exact HW0.out.drew.trans (hcall.mono (by simp <;> omega))); have q1 : w'.cell? ⟨w.heap.size, 0, none⟩ = some (.int .i64 y) := below_cell2 hcall (by first | assumption | (simp; done) | (simp [go_sem]; done) | simp [*]); have q2 : w'.cell? ⟨w.heap.size, 1, none⟩ = some (.int .i64 d) := below_cell2 hcall (by first | assumption | (simp; done) | (simp [go_sem]; done) | simp [*]); have q3 : w'.cell? ⟨w.heap.size + 1, 0, none⟩ = some (.int .i64 y2) := below_cell2 hcall (by first | assumption | (simp; done) | (simp [go_sem]; done) | simp [*]); have q4 : w'.cell? ⟨w.heap.size + 1, 1, none⟩ = some (.int .i64 d2) := below_cell2 hcall (by first | assumption | (simp; done) | (simp [go_sem]; done) | simp [*]); clear hcall) | (go_at_call 54; refine (HC.out _).mono ?_; rintro e w' ⟨rfl, hcall⟩; have hbw : Below w.heap.size w w' := (by first | exact Below.trans (by assumption) (Below.mono hcall (Below.size (by assumption))) | exact Below.trans (Below.drew (by assumption)) (Below.mono hcall (Below.size (Below.drew (by assumption)))) | exact HW0.out.trans (hcall.mono (by simp <;> omega)) | exact HW0.out.drew.trans (hcall.mono (by simp <;> omega))); have q1 : w'.cell? ⟨w.heap.size, 0, none⟩ = some (.int .i64 y) := below_cell2 hcall (by first | assumption | (simp; done) | (simp [go_sem]; done) | simp [*]); have q2 : w'.cell? ⟨w.heap.size, 1, none⟩ = some (.int .i64 d) := below_cell2 hcall (by first | assumption | (simp; done) | (simp [go_sem]; done) | simp [*]); have q3 : w'.cell? ⟨w.heap.size + 1, 0, none⟩ = some (.int .i64 y2) := below_cell2 hcall (by first | assumption | (simp; done) | (simp [go_sem]; done) | simp [*]); have q4 : w'.cell? ⟨w.heap.size + 1, 1, none⟩ = some (.int .i64 d2) := below_cell2 hcall (by first | assumption | (simp; done) | (simp [go_sem]; done) | simp [*]); clear hcall))
      go_ret2
      exact ⟨rfl, hbw⟩

set_option maxHeartbeats 2000000 in
theorem imAgeOn_any (y d y2 d2 : Int) (w : World) : Calls Try.prog 50 #[.agg #[.int .i64 y, .int .i64 d], .agg #[.int .i64 y2, .int .i64 d2]] w (RetIB (ageOnR (y, d) (y2, d2)) (bornD (y, d) (y2, d2)) w) := by
  have HW0 := Lib.hid (((Below.refl w.heap.size w).alloc (Nat.le_refl _) (.cells #[.int .i64 y, .int .i64 d] 34)).alloc (by simp) (.cells #[.int .i64 y2, .int .i64 d2] 34))
  have hb := old_bounds (y, d) (y2, d2)
  rw [← ageOn_days]
  have HO := Lib.hid (fun w => imDaysOld_any y d y2 d2 w)
  generalize daysOldR (y, d) (y2, d2) = q at HO hb ⊢
  generalize bornD (y, d) (y2, d2) = t at HO ⊢
  have hk := tdiv_bounds (n := q) (by omega)
  have k1 : IntKind.i64.wrap (q.tdiv 365) = q.tdiv 365 := IntWalk.i64_in _ (by omega)
  go_enter Try.func50, Try.ntmps50
  go_wp2_with (first | (go_at_call 76; refine (HO.out _).mono ?_; rintro e w' ⟨rfl, hcall⟩; have hbw : Below w.heap.size w w' := (by first | exact Below.trans (by assumption) (Below.mono hcall (Below.size (by assumption))) | exact Below.trans (Below.drew (by assumption)) (Below.mono hcall (Below.size (Below.drew (by assumption)))) | exact HW0.out.trans (hcall.mono (by simp <;> omega)) | exact HW0.out.drew.trans (hcall.mono (by simp <;> omega))); have q1 : w'.cell? ⟨w.heap.size, 0, none⟩ = some (.int .i64 y) := below_cell2 hcall (by first | assumption | (simp; done) | (simp [go_sem]; done) | simp [*]); have q2 : w'.cell? ⟨w.heap.size, 1, none⟩ = some (.int .i64 d) := below_cell2 hcall (by first | assumption | (simp; done) | (simp [go_sem]; done) | simp [*]); have q3 : w'.cell? ⟨w.heap.size + 1, 0, none⟩ = some (.int .i64 y2) := below_cell2 hcall (by first | assumption | (simp; done) | (simp [go_sem]; done) | simp [*]); have q4 : w'.cell? ⟨w.heap.size + 1, 1, none⟩ = some (.int .i64 d2) := below_cell2 hcall (by first | assumption | (simp; done) | (simp [go_sem]; done) | simp [*]); clear hcall))
  go_ret2
  exact ⟨rfl, hbw⟩

theorem add_no1 {p : Dt} {n : Int} (h : addD p n = false) : addB p n = false ∧ addP p n = (0, 0) := by unfold addB addP; rw [h]; exact ⟨rfl, rfl⟩
theorem add_yes1 {p : Dt} {n : Int} (h : addD p n = true) : addB p n = backOk (dys p + n) ∧ addP p n = backD (dys p + n) := by unfold addB addP; rw [h]; exact ⟨rfl, rfl⟩
set_option maxHeartbeats 4000000 in
set_option maxRecDepth 100000 in
theorem imAddDays_any (y d n : Int) (w : World) : Calls Try.prog 70 #[.agg #[.int .i64 y, .int .i64 d], .int .i64 n] w (RetPB (addP (y, d) n) (addB (y, d) n) w) := by
  have HW0 := Lib.hid (((Below.refl w.heap.size w).alloc (Nat.le_refl _) (.cells #[.int .i64 y, .int .i64 d] 34)).alloc (by simp) (.cells #[.int .i64 0, .int .i64 0] 34))
  have HA0 := fun w => imIsDate_any y d w
  cases h1 : dateB (y, d) with
  | false =>
    have hd : addD (y, d) n = false := by unfold addD; rw [h1]; rfl
    rw [(add_no1 hd).1, (add_no1 hd).2]
    rw [h1] at HA0
    have HA := Lib.hid HA0
    clear HA0 h1 hd
    go_enter Try.func70, Try.ntmps70
    go_wp2_with (first | (go_at_call_of 47 (Value.int IntKind.i64 y); refine (HA.out _).mono ?_; rintro e w' ⟨rfl, hcall⟩; have hbw : Below w.heap.size w w' := (by first | exact Below.trans (by assumption) (Below.mono hcall (Below.size (by assumption))) | exact Below.trans (Below.drew (by assumption)) (Below.mono hcall (Below.size (Below.drew (by assumption)))) | exact HW0.out.trans (hcall.mono (by simp <;> omega)) | exact HW0.out.drew.trans (hcall.mono (by simp <;> omega))); have q1 : w'.cell? ⟨w.heap.size, 0, none⟩ = some (.int .i64 y) := below_cell2 hcall (by first | assumption | (simp; done) | (simp [go_sem]; done) | simp [*]); have q2 : w'.cell? ⟨w.heap.size, 1, none⟩ = some (.int .i64 d) := below_cell2 hcall (by first | assumption | (simp; done) | (simp [go_sem]; done) | simp [*]); obtain ⟨x0, r0⟩ : ∃ u, w'.cell? ⟨w.heap.size + 1, 0, none⟩ = some u := (by first | exact ⟨_, below_cell2 hcall (by assumption)⟩ | exact ⟨_, below_cell2 hcall (by simp; rfl)⟩); obtain ⟨x1, r1⟩ : ∃ u, w'.cell? ⟨w.heap.size + 1, 1, none⟩ = some u := (by first | exact ⟨_, below_cell2 hcall (by assumption)⟩ | exact ⟨_, below_cell2 hcall (by simp; rfl)⟩); have fz : ∀ j, w'.frozen? ⟨w.heap.size + 1, j, none⟩ = false := (by intro j; refine (hcall.frozen (p := ⟨w.heap.size + 1, j, none⟩) (by first | (simp; done) | exact World.block_lt_of_cell? _ ⟨w.heap.size + 1, 0, none⟩ (by assumption))).trans ?_; first | (simp; done) | (simp [go_sem]; done) | simp [*]); clear hcall))
    obtain ⟨s0, s1⟩ := two_cells r0 r1
    refine bodyPost_ret (v := .tuple #[.agg #[.int .i64 0, .int .i64 0], .bool false]) (by simp [results, Try.results70, go_sem, s0, s1]) rfl ?_
    exact ⟨rfl, (hbw.setCell (by simp <;> omega) _).setCell (by simp <;> omega) _⟩
  | true =>
  cases h2 : inB n (-2000000) 2000000 with
  | false =>
    have hd : addD (y, d) n = false := by unfold addD; rw [h1, h2]; rfl
    rw [(add_no1 hd).1, (add_no1 hd).2]
    rw [h1] at HA0
    have HA := Lib.hid HA0
    have HI := Lib.hid (fun w => (show Calls Try.prog 46 #[.int .i64 n, .int .i64 (-2000000), .int .i64 2000000] w (RetSame (.bool false) w) from by rw [← h2]; exact imWithin_any n (-2000000) 2000000 w))
    clear HA0 h1 h2 hd
    go_enter Try.func70, Try.ntmps70
    go_wp2_with (first | (go_at_call_of 47 (Value.int IntKind.i64 y); refine (HA.out _).mono ?_; rintro e w' ⟨rfl, hcall⟩; have hbw : Below w.heap.size w w' := (by first | exact Below.trans (by assumption) (Below.mono hcall (Below.size (by assumption))) | exact Below.trans (Below.drew (by assumption)) (Below.mono hcall (Below.size (Below.drew (by assumption)))) | exact HW0.out.trans (hcall.mono (by simp <;> omega)) | exact HW0.out.drew.trans (hcall.mono (by simp <;> omega))); have q1 : w'.cell? ⟨w.heap.size, 0, none⟩ = some (.int .i64 y) := below_cell2 hcall (by first | assumption | (simp; done) | (simp [go_sem]; done) | simp [*]); have q2 : w'.cell? ⟨w.heap.size, 1, none⟩ = some (.int .i64 d) := below_cell2 hcall (by first | assumption | (simp; done) | (simp [go_sem]; done) | simp [*]); obtain ⟨x0, r0⟩ : ∃ u, w'.cell? ⟨w.heap.size + 1, 0, none⟩ = some u := (by first | exact ⟨_, below_cell2 hcall (by assumption)⟩ | exact ⟨_, below_cell2 hcall (by simp; rfl)⟩); obtain ⟨x1, r1⟩ : ∃ u, w'.cell? ⟨w.heap.size + 1, 1, none⟩ = some u := (by first | exact ⟨_, below_cell2 hcall (by assumption)⟩ | exact ⟨_, below_cell2 hcall (by simp; rfl)⟩); have fz : ∀ j, w'.frozen? ⟨w.heap.size + 1, j, none⟩ = false := (by intro j; refine (hcall.frozen (p := ⟨w.heap.size + 1, j, none⟩) (by first | (simp; done) | exact World.block_lt_of_cell? _ ⟨w.heap.size + 1, 0, none⟩ (by assumption))).trans ?_; first | (simp; done) | (simp [go_sem]; done) | simp [*]); clear hcall) | (go_at_call 46; refine (HI.out _).mono ?_; rintro e w' ⟨rfl, rfl⟩))
    obtain ⟨s0, s1⟩ := two_cells r0 r1
    refine bodyPost_ret (v := .tuple #[.agg #[.int .i64 0, .int .i64 0], .bool false]) (by simp [results, Try.results70, go_sem, s0, s1]) rfl ?_
    exact ⟨rfl, (hbw.setCell (by simp <;> omega) _).setCell (by simp <;> omega) _⟩
  | true =>
    have hd : addD (y, d) n = true := by unfold addD; rw [h1, h2]; rfl
    rw [(add_yes1 hd).1, (add_yes1 hd).2, ← dateB_back, ← dateOf_back]
    have hn := inB_iff.1 h2
    have hc1 := dys_bounds h1
    have hm := mid_date h1
    have HC := Lib.hid (fun w => imDayOf_any y d w)
    have HD := Lib.hid (fun w => (show Calls Try.prog 60 #[.agg #[.int .i64 y, .int .i64 d], .agg #[.int .i64 0, .int .i64 1]] w (Ret (.int .i64 (dys (y, d))) w) from by
      have := imDaysAfter_any y d 0 1 w hm.1 hm.2 (by unfold midI; omega) (by unfold midI; omega)
      rwa [show dys (y, d) - dys (0, 1) = dys (y, d) by unfold dys; omega] at this))
    rw [h1] at HA0
    have HA := Lib.hid HA0
    have HI := Lib.hid (fun w => (show Calls Try.prog 46 #[.int .i64 n, .int .i64 (-2000000), .int .i64 2000000] w (RetSame (.bool true) w) from by rw [← h2]; exact imWithin_any n (-2000000) 2000000 w))
    clear HA0 h1 h2 hd hm
    generalize dys (y, d) = p at HD hc1 ⊢
    have hk := tdiv_bounds (n := p + n) (by omega)
    have HX := Lib.hid (fun w => imDate_any ((p + n).tdiv 365) ((p + n).tmod 365 + 1) w)
    generalize dateB ((p + n).tdiv 365, (p + n).tmod 365 + 1) = ok at HX ⊢
    generalize dateOf ((p + n).tdiv 365, (p + n).tmod 365 + 1) = r at HX ⊢
    obtain ⟨r1', r2'⟩ := r
    have k1 : IntKind.i64.wrap (p + n) = p + n := IntWalk.i64_in _ (by omega)
    have k2 : IntKind.i64.wrap ((p + n).tdiv 365) = (p + n).tdiv 365 := IntWalk.i64_in _ (by omega)
    have k3 : IntKind.i64.wrap ((p + n).tmod 365) = (p + n).tmod 365 := IntWalk.i64_in _ (by omega)
    have k4 : IntKind.i64.wrap ((p + n).tmod 365 + 1) = (p + n).tmod 365 + 1 := IntWalk.i64_in _ (by omega)
    go_enter Try.func70, Try.ntmps70
    go_wp2_with (first | (go_at_call_of 47 (Value.int IntKind.i64 y); refine (HA.out _).mono ?_; rintro e w' ⟨rfl, hcall⟩; have hbw : Below w.heap.size w w' := (by first | exact Below.trans (by assumption) (Below.mono hcall (Below.size (by assumption))) | exact Below.trans (Below.drew (by assumption)) (Below.mono hcall (Below.size (Below.drew (by assumption)))) | exact HW0.out.trans (hcall.mono (by simp <;> omega)) | exact HW0.out.drew.trans (hcall.mono (by simp <;> omega))); have q1 : w'.cell? ⟨w.heap.size, 0, none⟩ = some (.int .i64 y) := below_cell2 hcall (by first | assumption | (simp; done) | (simp [go_sem]; done) | simp [*]); have q2 : w'.cell? ⟨w.heap.size, 1, none⟩ = some (.int .i64 d) := below_cell2 hcall (by first | assumption | (simp; done) | (simp [go_sem]; done) | simp [*]); obtain ⟨x0, r0⟩ : ∃ u, w'.cell? ⟨w.heap.size + 1, 0, none⟩ = some u := (by first | exact ⟨_, below_cell2 hcall (by assumption)⟩ | exact ⟨_, below_cell2 hcall (by simp; rfl)⟩); obtain ⟨x1, r1⟩ : ∃ u, w'.cell? ⟨w.heap.size + 1, 1, none⟩ = some u := (by first | exact ⟨_, below_cell2 hcall (by assumption)⟩ | exact ⟨_, below_cell2 hcall (by simp; rfl)⟩); have fz : ∀ j, w'.frozen? ⟨w.heap.size + 1, j, none⟩ = false := (by intro j; refine (hcall.frozen (p := ⟨w.heap.size + 1, j, none⟩) (by first | (simp; done) | exact World.block_lt_of_cell? _ ⟨w.heap.size + 1, 0, none⟩ (by assumption))).trans ?_; first | (simp; done) | (simp [go_sem]; done) | simp [*]); clear hcall) | (go_at_call 46; refine (HI.out _).mono ?_; rintro e w' ⟨rfl, rfl⟩) | (go_at_call_of 67 (Value.int IntKind.i64 y); refine (HC.out _).mono ?_; rintro e w' ⟨rfl, hcall⟩; have hbw : Below w.heap.size w w' := (by first | exact Below.trans (by assumption) (Below.mono hcall (Below.size (by assumption))) | exact Below.trans (Below.drew (by assumption)) (Below.mono hcall (Below.size (Below.drew (by assumption)))) | exact HW0.out.trans (hcall.mono (by simp <;> omega)) | exact HW0.out.drew.trans (hcall.mono (by simp <;> omega))); have q1 : w'.cell? ⟨w.heap.size, 0, none⟩ = some (.int .i64 y) := below_cell2 hcall (by first | assumption | (simp; done) | (simp [go_sem]; done) | simp [*]); have q2 : w'.cell? ⟨w.heap.size, 1, none⟩ = some (.int .i64 d) := below_cell2 hcall (by first | assumption | (simp; done) | (simp [go_sem]; done) | simp [*]); obtain ⟨x0, r0⟩ : ∃ u, w'.cell? ⟨w.heap.size + 1, 0, none⟩ = some u := (by first | exact ⟨_, below_cell2 hcall (by assumption)⟩ | exact ⟨_, below_cell2 hcall (by simp; rfl)⟩); obtain ⟨x1, r1⟩ : ∃ u, w'.cell? ⟨w.heap.size + 1, 1, none⟩ = some u := (by first | exact ⟨_, below_cell2 hcall (by assumption)⟩ | exact ⟨_, below_cell2 hcall (by simp; rfl)⟩); have fz : ∀ j, w'.frozen? ⟨w.heap.size + 1, j, none⟩ = false := (by intro j; refine (hcall.frozen (p := ⟨w.heap.size + 1, j, none⟩) (by first | (simp; done) | exact World.block_lt_of_cell? _ ⟨w.heap.size + 1, 0, none⟩ (by assumption))).trans ?_; first | (simp; done) | (simp [go_sem]; done) | simp [*]); clear hcall) | (go_at_call 60; refine (HD.out _).mono ?_; rintro e w' ⟨rfl, hcall⟩; have hbw : Below w.heap.size w w' := (by first | exact Below.trans (by assumption) (Below.mono hcall (Below.size (by assumption))) | exact Below.trans (Below.drew (by assumption)) (Below.mono hcall (Below.size (Below.drew (by assumption)))) | exact HW0.out.trans (hcall.mono (by simp <;> omega)) | exact HW0.out.drew.trans (hcall.mono (by simp <;> omega))); have q1 : w'.cell? ⟨w.heap.size, 0, none⟩ = some (.int .i64 y) := below_cell2 hcall (by first | assumption | (simp; done) | (simp [go_sem]; done) | simp [*]); have q2 : w'.cell? ⟨w.heap.size, 1, none⟩ = some (.int .i64 d) := below_cell2 hcall (by first | assumption | (simp; done) | (simp [go_sem]; done) | simp [*]); obtain ⟨x0, r0⟩ : ∃ u, w'.cell? ⟨w.heap.size + 1, 0, none⟩ = some u := (by first | exact ⟨_, below_cell2 hcall (by assumption)⟩ | exact ⟨_, below_cell2 hcall (by simp; rfl)⟩); obtain ⟨x1, r1⟩ : ∃ u, w'.cell? ⟨w.heap.size + 1, 1, none⟩ = some u := (by first | exact ⟨_, below_cell2 hcall (by assumption)⟩ | exact ⟨_, below_cell2 hcall (by simp; rfl)⟩); have fz : ∀ j, w'.frozen? ⟨w.heap.size + 1, j, none⟩ = false := (by intro j; refine (hcall.frozen (p := ⟨w.heap.size + 1, j, none⟩) (by first | (simp; done) | exact World.block_lt_of_cell? _ ⟨w.heap.size + 1, 0, none⟩ (by assumption))).trans ?_; first | (simp; done) | (simp [go_sem]; done) | simp [*]); clear hcall) | (go_at_call 77; refine (HX.out _).mono ?_; rintro e w' ⟨rfl, hcall⟩; have hbw : Below w.heap.size w w' := (by first | exact Below.trans (by assumption) (Below.mono hcall (Below.size (by assumption))) | exact Below.trans (Below.drew (by assumption)) (Below.mono hcall (Below.size (Below.drew (by assumption)))) | exact HW0.out.trans (hcall.mono (by simp <;> omega)) | exact HW0.out.drew.trans (hcall.mono (by simp <;> omega))); have q1 : w'.cell? ⟨w.heap.size, 0, none⟩ = some (.int .i64 y) := below_cell2 hcall (by first | assumption | (simp; done) | (simp [go_sem]; done) | simp [*]); have q2 : w'.cell? ⟨w.heap.size, 1, none⟩ = some (.int .i64 d) := below_cell2 hcall (by first | assumption | (simp; done) | (simp [go_sem]; done) | simp [*]); obtain ⟨x0, r0⟩ : ∃ u, w'.cell? ⟨w.heap.size + 1, 0, none⟩ = some u := (by first | exact ⟨_, below_cell2 hcall (by assumption)⟩ | exact ⟨_, below_cell2 hcall (by simp; rfl)⟩); obtain ⟨x1, r1⟩ : ∃ u, w'.cell? ⟨w.heap.size + 1, 1, none⟩ = some u := (by first | exact ⟨_, below_cell2 hcall (by assumption)⟩ | exact ⟨_, below_cell2 hcall (by simp; rfl)⟩); have fz : ∀ j, w'.frozen? ⟨w.heap.size + 1, j, none⟩ = false := (by intro j; refine (hcall.frozen (p := ⟨w.heap.size + 1, j, none⟩) (by first | (simp; done) | exact World.block_lt_of_cell? _ ⟨w.heap.size + 1, 0, none⟩ (by assumption))).trans ?_; first | (simp; done) | (simp [go_sem]; done) | simp [*]); clear hcall))
    obtain ⟨s0, s1⟩ := two_cells r0 r1
    refine bodyPost_ret (v := .tuple #[.agg #[.int .i64 r1', .int .i64 r2'], .bool ok]) (by simp [results, Try.results70, go_sem, s0, s1]) rfl ?_
    exact ⟨rfl, (hbw.setCell (by simp <;> omega) _).setCell (by simp <;> omega) _⟩

end Go.Proofs.Ytbhceokapbnhhaa
