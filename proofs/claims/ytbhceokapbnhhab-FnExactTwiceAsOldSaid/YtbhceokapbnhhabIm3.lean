/- Gaps, half birthdays, days old, twice as old, of the program. -/
import Derived.Test.YtbhceokapbnhhabIm2
import Derived.Test.YtbhceokapbnhhabBi6
import Derived.Test.YtbhceokapbnhhabBi7
set_option linter.unusedVariables false
set_option linter.unusedSimpArgs false
namespace Go.Proofs.Ytbhceokapbnhhab
open Go.RowKit

set_option maxHeartbeats 4000000 in
set_option maxRecDepth 100000 in
theorem imGreatestGap_any (y d y2 d2 : Int) (w : World) : Calls Try.prog 25 #[.agg #[.int .i64 y, .int .i64 d], .agg #[.int .i64 y2, .int .i64 d2]] w (RetIIB (gapLo (y, d) (y2, d2)) (gapHi (y, d) (y2, d2)) (gapB (y, d) (y2, d2)) w) := by
  have HW0 := Lib.hid (((Below.refl w.heap.size w).alloc (Nat.le_refl _) (.cells #[.int .i64 y, .int .i64 d] 25)).alloc (by simp) (.cells #[.int .i64 y2, .int .i64 d2] 25))
  have HO0 := fun w => imDaysOld_any y d y2 d2 w
  have hb := old_bounds (y, d) (y2, d2)
  rw [gapB_born]
  cases h : bornD (y, d) (y2, d2) with
  | false =>
    rw [(gap_no ((gapB_born _ _).trans h)).1, (gap_no ((gapB_born _ _).trans h)).2]
    rw [h] at HO0
    have HO := Lib.hid HO0
    clear HO0 h
    generalize daysOldR (y, d) (y2, d2) = q at HO hb
    go_enter Try.func25, Try.ntmps25
    go_wp2_with (first | (go_at_call 18; refine (HO.out _).mono ?_; rintro e w' ⟨rfl, hcall⟩; have hbw : Below w.heap.size w w' := (by first | exact Below.trans (by assumption) (Below.mono hcall (Below.size (by assumption))) | exact Below.trans (Below.drew (by assumption)) (Below.mono hcall (Below.size (Below.drew (by assumption)))) | exact HW0.out.trans (hcall.mono (by simp <;> omega)) | exact HW0.out.drew.trans (hcall.mono (by simp <;> omega))); have q1 : w'.cell? ⟨w.heap.size, 0, none⟩ = some (.int .i64 y) := below_cell2 hcall (by first | assumption | (simp; done) | (simp [go_sem]; done) | simp [*]); have q2 : w'.cell? ⟨w.heap.size, 1, none⟩ = some (.int .i64 d) := below_cell2 hcall (by first | assumption | (simp; done) | (simp [go_sem]; done) | simp [*]); have q3 : w'.cell? ⟨w.heap.size + 1, 0, none⟩ = some (.int .i64 y2) := below_cell2 hcall (by first | assumption | (simp; done) | (simp [go_sem]; done) | simp [*]); have q4 : w'.cell? ⟨w.heap.size + 1, 1, none⟩ = some (.int .i64 d2) := below_cell2 hcall (by first | assumption | (simp; done) | (simp [go_sem]; done) | simp [*]); clear hcall))
    go_ret3
    exact ⟨rfl, hbw⟩
  | true =>
    rw [← gap_lo, ← gap_hi _ _ h]
    rw [h] at HO0
    have HO := Lib.hid HO0
    clear HO0 h
    generalize daysOldR (y, d) (y2, d2) = q at HO hb ⊢
    have hk := tdiv_bounds (n := q) (by omega)
    have hk2 := tdiv_bounds (n := q + 364) (by omega)
    have k0 : IntKind.i64.wrap (q + 365) = q + 365 := IntWalk.i64_in _ (by omega)
    have k3 : IntKind.i64.wrap (q + 365 - 1) = q + 364 := by rw [show q + 365 - 1 = q + 364 by omega]; exact IntWalk.i64_in _ (by omega)
    have k1 : IntKind.i64.wrap (q.tdiv 365) = q.tdiv 365 := IntWalk.i64_in _ (by omega)
    have k2 : IntKind.i64.wrap ((q + 364).tdiv 365) = (q + 364).tdiv 365 := IntWalk.i64_in _ (by omega)
    clear hk hk2 hb
    go_enter Try.func25, Try.ntmps25
    go_wp2_with (first | (go_at_call 18; refine (HO.out _).mono ?_; rintro e w' ⟨rfl, hcall⟩; have hbw : Below w.heap.size w w' := (by first | exact Below.trans (by assumption) (Below.mono hcall (Below.size (by assumption))) | exact Below.trans (Below.drew (by assumption)) (Below.mono hcall (Below.size (Below.drew (by assumption)))) | exact HW0.out.trans (hcall.mono (by simp <;> omega)) | exact HW0.out.drew.trans (hcall.mono (by simp <;> omega))); have q1 : w'.cell? ⟨w.heap.size, 0, none⟩ = some (.int .i64 y) := below_cell2 hcall (by first | assumption | (simp; done) | (simp [go_sem]; done) | simp [*]); have q2 : w'.cell? ⟨w.heap.size, 1, none⟩ = some (.int .i64 d) := below_cell2 hcall (by first | assumption | (simp; done) | (simp [go_sem]; done) | simp [*]); have q3 : w'.cell? ⟨w.heap.size + 1, 0, none⟩ = some (.int .i64 y2) := below_cell2 hcall (by first | assumption | (simp; done) | (simp [go_sem]; done) | simp [*]); have q4 : w'.cell? ⟨w.heap.size + 1, 1, none⟩ = some (.int .i64 d2) := below_cell2 hcall (by first | assumption | (simp; done) | (simp [go_sem]; done) | simp [*]); clear hcall))
    go_ret3
    exact ⟨rfl, hbw⟩

theorem half_no {b o : Dt} (h : bornD b o = false) : halfB b o = false ∧ halfP b o = (0, 0) := by unfold halfB halfP; rw [h]; exact ⟨rfl, rfl⟩
theorem half_add {b o : Dt} (h : bornD b o = true) : halfB b o = addB b ((daysOldR b o + 183).tdiv 365 * 365 + 182) ∧ halfP b o = addP b ((daysOldR b o + 183).tdiv 365 * 365 + 182) := by
  obtain ⟨h1, h2, h3⟩ := bornD_parts h
  have hb := old_bounds b o
  have hq : (daysOldR b o + 183).tdiv 365 = (daysOldR b o + 183) / 365 := tdiv_nn (by omega)
  have hn : addD b ((daysOldR b o + 183).tdiv 365 * 365 + 182) = true := by
    unfold addD
    rw [h1, hq, show inB ((daysOldR b o + 183) / 365 * 365 + 182) (-2000000) 2000000 = true from inB_true (by omega) (by omega)]; rfl
  have he : halfN (dys b) (dys o) = dys b + ((daysOldR b o + 183).tdiv 365 * 365 + 182) := by
    rw [hq, old_yes h]; unfold halfN; omega
  rw [(add_yes1 hn).1, (add_yes1 hn).2]
  unfold halfB halfP
  rw [h, he]
  exact ⟨rfl, rfl⟩
set_option maxHeartbeats 4000000 in
set_option maxRecDepth 100000 in
theorem imHalfBirthday_any (y d y2 d2 : Int) (w : World) : Calls Try.prog 27 #[.agg #[.int .i64 y, .int .i64 d], .agg #[.int .i64 y2, .int .i64 d2]] w (RetPB (halfP (y, d) (y2, d2)) (halfB (y, d) (y2, d2)) w) := by
  have HW0 := Lib.hid ((((Below.refl w.heap.size w).alloc (Nat.le_refl _) (.cells #[.int .i64 y, .int .i64 d] 25)).alloc (by simp) (.cells #[.int .i64 y2, .int .i64 d2] 25)).alloc (by simp; omega) (.cells #[.int .i64 0, .int .i64 0] 25))
  have HO0 := fun w => imDaysOld_any y d y2 d2 w
  have hb := old_bounds (y, d) (y2, d2)
  cases h : bornD (y, d) (y2, d2) with
  | false =>
    rw [(half_no h).1, (half_no h).2]
    rw [h] at HO0
    have HO := Lib.hid HO0
    clear HO0 h
    generalize daysOldR (y, d) (y2, d2) = q at HO hb
    go_enter Try.func27, Try.ntmps27
    go_wp2_with (first | (go_at_call 18; refine (HO.out _).mono ?_; rintro e w' ⟨rfl, hcall⟩; have hbw : Below w.heap.size w w' := (by first | exact Below.trans (by assumption) (Below.mono hcall (Below.size (by assumption))) | exact Below.trans (Below.drew (by assumption)) (Below.mono hcall (Below.size (Below.drew (by assumption)))) | exact HW0.out.trans (hcall.mono (by simp <;> omega)) | exact HW0.out.drew.trans (hcall.mono (by simp <;> omega))); have q1 : w'.cell? ⟨w.heap.size, 0, none⟩ = some (.int .i64 y) := below_cell2 hcall (by first | assumption | (simp; done) | (simp [go_sem]; done) | simp [*]); have q2 : w'.cell? ⟨w.heap.size, 1, none⟩ = some (.int .i64 d) := below_cell2 hcall (by first | assumption | (simp; done) | (simp [go_sem]; done) | simp [*]); have q3 : w'.cell? ⟨w.heap.size + 1, 0, none⟩ = some (.int .i64 y2) := below_cell2 hcall (by first | assumption | (simp; done) | (simp [go_sem]; done) | simp [*]); have q4 : w'.cell? ⟨w.heap.size + 1, 1, none⟩ = some (.int .i64 d2) := below_cell2 hcall (by first | assumption | (simp; done) | (simp [go_sem]; done) | simp [*]); have r0 : w'.cell? ⟨w.heap.size + 1 + 1, 0, none⟩ = some (.int .i64 0) := below_cell2 hcall (by first | assumption | (simp; done) | (simp [go_sem]; done) | simp [*]); have r1 : w'.cell? ⟨w.heap.size + 1 + 1, 1, none⟩ = some (.int .i64 0) := below_cell2 hcall (by first | assumption | (simp; done) | (simp [go_sem]; done) | simp [*]); have z0 : w'.frozen? ⟨w.heap.size + 1 + 1, 0, none⟩ = false := (hcall.frozen (p := ⟨w.heap.size + 1 + 1, 0, none⟩) (by first | (simp; done) | exact World.block_lt_of_cell? _ ⟨w.heap.size + 1 + 1, 0, none⟩ (by assumption))).trans (by first | (simp; done) | assumption | (simp [go_sem]; done) | (simp [*]; done)); have z1 : w'.frozen? ⟨w.heap.size + 1 + 1, 1, none⟩ = false := (hcall.frozen (p := ⟨w.heap.size + 1 + 1, 1, none⟩) (by first | (simp; done) | exact World.block_lt_of_cell? _ ⟨w.heap.size + 1 + 1, 0, none⟩ (by assumption))).trans (by first | (simp; done) | assumption | (simp [go_sem]; done) | (simp [*]; done)); clear hcall))
    obtain ⟨s0, s1⟩ := two_cells r0 r1
    refine bodyPost_ret (v := .tuple #[.agg #[.int .i64 0, .int .i64 0], .bool false]) (by simp [results, Try.results27, go_sem, s0, s1]) rfl ?_
    exact ⟨rfl, (hbw.setCell (by simp <;> omega) _).setCell (by simp <;> omega) _⟩
  | true =>
    rw [(half_add h).1, (half_add h).2]
    rw [h] at HO0
    have HO := Lib.hid HO0
    clear HO0 h
    generalize daysOldR (y, d) (y2, d2) = q at HO hb ⊢
    have hk : 0 ≤ (q + 183).tdiv 365 ∧ (q + 183).tdiv 365 ≤ 4000 := by rw [tdiv_nn (by omega)]; omega
    have k0 : IntKind.i64.wrap (q + 365) = q + 365 := IntWalk.i64_in _ (by omega)
    have k3 : IntKind.i64.wrap (q + 365 - 182) = q + 183 := by rw [show q + 365 - 182 = q + 183 by omega]; exact IntWalk.i64_in _ (by omega)
    have k3' : IntKind.i64.wrap (q + 183) = q + 183 := IntWalk.i64_in _ (by omega)
    have k1 : IntKind.i64.wrap ((q + 183).tdiv 365) = (q + 183).tdiv 365 := IntWalk.i64_in _ (by omega)
    have k4 : IntKind.i64.wrap ((q + 183).tdiv 365 * 365) = (q + 183).tdiv 365 * 365 := IntWalk.i64_in _ (by omega)
    have k5 : IntKind.i64.wrap ((q + 183).tdiv 365 * 365 + 182) = (q + 183).tdiv 365 * 365 + 182 := IntWalk.i64_in _ (by omega)
    have HX := Lib.hid (fun w => imAddDays_any y d ((q + 183).tdiv 365 * 365 + 182) w)
    generalize addB (y, d) ((q + 183).tdiv 365 * 365 + 182) = ok at HX ⊢
    generalize addP (y, d) ((q + 183).tdiv 365 * 365 + 182) = r at HX ⊢
    obtain ⟨r1', r2'⟩ := r
    clear hk hb
    go_enter Try.func27, Try.ntmps27
    go_wp2_with (first | (go_at_call 18; refine (HO.out _).mono ?_; rintro e w' ⟨rfl, hcall⟩; have hbw : Below w.heap.size w w' := (by first | exact Below.trans (by assumption) (Below.mono hcall (Below.size (by assumption))) | exact Below.trans (Below.drew (by assumption)) (Below.mono hcall (Below.size (Below.drew (by assumption)))) | exact HW0.out.trans (hcall.mono (by simp <;> omega)) | exact HW0.out.drew.trans (hcall.mono (by simp <;> omega))); have q1 : w'.cell? ⟨w.heap.size, 0, none⟩ = some (.int .i64 y) := below_cell2 hcall (by first | assumption | (simp; done) | (simp [go_sem]; done) | simp [*]); have q2 : w'.cell? ⟨w.heap.size, 1, none⟩ = some (.int .i64 d) := below_cell2 hcall (by first | assumption | (simp; done) | (simp [go_sem]; done) | simp [*]); have q3 : w'.cell? ⟨w.heap.size + 1, 0, none⟩ = some (.int .i64 y2) := below_cell2 hcall (by first | assumption | (simp; done) | (simp [go_sem]; done) | simp [*]); have q4 : w'.cell? ⟨w.heap.size + 1, 1, none⟩ = some (.int .i64 d2) := below_cell2 hcall (by first | assumption | (simp; done) | (simp [go_sem]; done) | simp [*]); have r0 : w'.cell? ⟨w.heap.size + 1 + 1, 0, none⟩ = some (.int .i64 0) := below_cell2 hcall (by first | assumption | (simp; done) | (simp [go_sem]; done) | simp [*]); have r1 : w'.cell? ⟨w.heap.size + 1 + 1, 1, none⟩ = some (.int .i64 0) := below_cell2 hcall (by first | assumption | (simp; done) | (simp [go_sem]; done) | simp [*]); have z0 : w'.frozen? ⟨w.heap.size + 1 + 1, 0, none⟩ = false := (hcall.frozen (p := ⟨w.heap.size + 1 + 1, 0, none⟩) (by first | (simp; done) | exact World.block_lt_of_cell? _ ⟨w.heap.size + 1 + 1, 0, none⟩ (by assumption))).trans (by first | (simp; done) | assumption | (simp [go_sem]; done) | (simp [*]; done)); have z1 : w'.frozen? ⟨w.heap.size + 1 + 1, 1, none⟩ = false := (hcall.frozen (p := ⟨w.heap.size + 1 + 1, 1, none⟩) (by first | (simp; done) | exact World.block_lt_of_cell? _ ⟨w.heap.size + 1 + 1, 0, none⟩ (by assumption))).trans (by first | (simp; done) | assumption | (simp [go_sem]; done) | (simp [*]; done)); clear hcall) | (go_at_call 22; refine (HX.out _).mono ?_; rintro e w' ⟨rfl, hcall⟩; have hbw : Below w.heap.size w w' := (by first | exact Below.trans (by assumption) (Below.mono hcall (Below.size (by assumption))) | exact Below.trans (Below.drew (by assumption)) (Below.mono hcall (Below.size (Below.drew (by assumption)))) | exact HW0.out.trans (hcall.mono (by simp <;> omega)) | exact HW0.out.drew.trans (hcall.mono (by simp <;> omega))); have q1 : w'.cell? ⟨w.heap.size, 0, none⟩ = some (.int .i64 y) := below_cell2 hcall (by first | assumption | (simp; done) | (simp [go_sem]; done) | simp [*]); have q2 : w'.cell? ⟨w.heap.size, 1, none⟩ = some (.int .i64 d) := below_cell2 hcall (by first | assumption | (simp; done) | (simp [go_sem]; done) | simp [*]); have q3 : w'.cell? ⟨w.heap.size + 1, 0, none⟩ = some (.int .i64 y2) := below_cell2 hcall (by first | assumption | (simp; done) | (simp [go_sem]; done) | simp [*]); have q4 : w'.cell? ⟨w.heap.size + 1, 1, none⟩ = some (.int .i64 d2) := below_cell2 hcall (by first | assumption | (simp; done) | (simp [go_sem]; done) | simp [*]); have r0 : w'.cell? ⟨w.heap.size + 1 + 1, 0, none⟩ = some (.int .i64 0) := below_cell2 hcall (by first | assumption | (simp; done) | (simp [go_sem]; done) | simp [*]); have r1 : w'.cell? ⟨w.heap.size + 1 + 1, 1, none⟩ = some (.int .i64 0) := below_cell2 hcall (by first | assumption | (simp; done) | (simp [go_sem]; done) | simp [*]); have z0 : w'.frozen? ⟨w.heap.size + 1 + 1, 0, none⟩ = false := (hcall.frozen (p := ⟨w.heap.size + 1 + 1, 0, none⟩) (by first | (simp; done) | exact World.block_lt_of_cell? _ ⟨w.heap.size + 1 + 1, 0, none⟩ (by assumption))).trans (by first | (simp; done) | assumption | (simp [go_sem]; done) | (simp [*]; done)); have z1 : w'.frozen? ⟨w.heap.size + 1 + 1, 1, none⟩ = false := (hcall.frozen (p := ⟨w.heap.size + 1 + 1, 1, none⟩) (by first | (simp; done) | exact World.block_lt_of_cell? _ ⟨w.heap.size + 1 + 1, 0, none⟩ (by assumption))).trans (by first | (simp; done) | assumption | (simp [go_sem]; done) | (simp [*]; done)); clear hcall))
    obtain ⟨s0, s1⟩ := two_cells r0 r1
    refine bodyPost_ret (v := .tuple #[.agg #[.int .i64 r1', .int .i64 r2'], .bool ok]) (by simp [results, Try.results27, go_sem, s0, s1]) rfl ?_
    exact ⟨rfl, (hbw.setCell (by simp <;> omega) _).setCell (by simp <;> omega) _⟩

theorem doo_no {p : Dt} {n : Int} (h : inB n 0 1000000 = false) : dooB p n = false ∧ dooP p n = (0, 0) := by unfold dooB dooP dooD; rw [h, Bool.and_false]; exact ⟨rfl, rfl⟩
theorem doo_add {p : Dt} {n : Int} (h : inB n 0 1000000 = true) : dooB p n = addB p n ∧ dooP p n = addP p n := by
  have hn := inB_iff.1 h
  unfold dooB dooP dooD addB addP addD
  rw [h, show inB n (-2000000) 2000000 = true from inB_true (by omega) (by omega)]
  exact ⟨rfl, rfl⟩
set_option maxHeartbeats 4000000 in
set_option maxRecDepth 100000 in
theorem imDayOfDaysOld_any (y d n : Int) (w : World) : Calls Try.prog 29 #[.agg #[.int .i64 y, .int .i64 d], .int .i64 n] w (RetPB (dooP (y, d) n) (dooB (y, d) n) w) := by
  have HW0 := Lib.hid (((Below.refl w.heap.size w).alloc (Nat.le_refl _) (.cells #[.int .i64 y, .int .i64 d] 25)).alloc (by simp) (.cells #[.int .i64 0, .int .i64 0] 25))
  cases h : inB n 0 1000000 with
  | false =>
    rw [(doo_no h).1, (doo_no h).2]
    have HI := Lib.hid (fun w => (show Calls Try.prog 33 #[.int .i64 n, .int .i64 0, .int .i64 1000000] w (RetSame (.bool false) w) from by rw [← h]; exact imWithin_any n 0 1000000 w))
    have hbw := HW0.out
    clear h
    go_enter Try.func29, Try.ntmps29
    go_wp2_with (first | (go_at_call 33; refine (HI.out _).mono ?_; rintro e w' ⟨rfl, rfl⟩))
    refine bodyPost_ret (v := .tuple #[.agg #[.int .i64 0, .int .i64 0], .bool false]) (by simp [results, Try.results29, go_sem]) rfl ?_
    exact ⟨rfl, by first | exact hbw | exact (hbw.setCell (by simp <;> omega) _).setCell (by simp <;> omega) _⟩
  | true =>
    rw [(doo_add h).1, (doo_add h).2]
    have HI := Lib.hid (fun w => (show Calls Try.prog 33 #[.int .i64 n, .int .i64 0, .int .i64 1000000] w (RetSame (.bool true) w) from by rw [← h]; exact imWithin_any n 0 1000000 w))
    have HX := Lib.hid (fun w => imAddDays_any y d n w)
    generalize addB (y, d) n = ok at HX ⊢
    generalize addP (y, d) n = r at HX ⊢
    obtain ⟨r1', r2'⟩ := r
    clear h
    go_enter Try.func29, Try.ntmps29
    go_wp2_with (first | (go_at_call 33; refine (HI.out _).mono ?_; rintro e w' ⟨rfl, rfl⟩) | (go_at_call 22; refine (HX.out _).mono ?_; rintro e w' ⟨rfl, hcall⟩; have hbw : Below w.heap.size w w' := (by first | exact Below.trans (by assumption) (Below.mono hcall (Below.size (by assumption))) | exact Below.trans (Below.drew (by assumption)) (Below.mono hcall (Below.size (Below.drew (by assumption)))) | exact HW0.out.trans (hcall.mono (by simp <;> omega)) | exact HW0.out.drew.trans (hcall.mono (by simp <;> omega))); have q1 : w'.cell? ⟨w.heap.size, 0, none⟩ = some (.int .i64 y) := below_cell2 hcall (by first | assumption | (simp; done) | (simp [go_sem]; done) | simp [*]); have q2 : w'.cell? ⟨w.heap.size, 1, none⟩ = some (.int .i64 d) := below_cell2 hcall (by first | assumption | (simp; done) | (simp [go_sem]; done) | simp [*]); have r0 : w'.cell? ⟨w.heap.size + 1, 0, none⟩ = some (.int .i64 0) := below_cell2 hcall (by first | assumption | (simp; done) | (simp [go_sem]; done) | simp [*]); have r1 : w'.cell? ⟨w.heap.size + 1, 1, none⟩ = some (.int .i64 0) := below_cell2 hcall (by first | assumption | (simp; done) | (simp [go_sem]; done) | simp [*]); have z0 : w'.frozen? ⟨w.heap.size + 1, 0, none⟩ = false := (hcall.frozen (p := ⟨w.heap.size + 1, 0, none⟩) (by first | (simp; done) | exact World.block_lt_of_cell? _ ⟨w.heap.size + 1, 0, none⟩ (by assumption))).trans (by first | (simp; done) | assumption | (simp [go_sem]; done) | (simp [*]; done)); have z1 : w'.frozen? ⟨w.heap.size + 1, 1, none⟩ = false := (hcall.frozen (p := ⟨w.heap.size + 1, 1, none⟩) (by first | (simp; done) | exact World.block_lt_of_cell? _ ⟨w.heap.size + 1, 0, none⟩ (by assumption))).trans (by first | (simp; done) | assumption | (simp [go_sem]; done) | (simp [*]; done)); clear hcall))
    obtain ⟨s0, s1⟩ := two_cells r0 r1
    refine bodyPost_ret (v := .tuple #[.agg #[.int .i64 r1', .int .i64 r2'], .bool ok]) (by simp [results, Try.results29, go_sem, s0, s1]) rfl ?_
    exact ⟨rfl, (hbw.setCell (by simp <;> omega) _).setCell (by simp <;> omega) _⟩

theorem twice_old {a b : Dt} (h : bornD a b = true) (h0 : daysOldR a b ≠ 0) : twiceB a b = addB b (daysOldR a b) ∧ twiceP a b = addP b (daysOldR a b) := by
  obtain ⟨h1, h2, h3⟩ := bornD_parts h
  have hb := old_bounds a b
  have hd : addD b (daysOldR a b) = true := by
    unfold addD
    rw [h2, show inB (daysOldR a b) (-2000000) 2000000 = true from inB_true (by omega) (by omega)]; rfl
  have ho := old_yes h
  have ht : twiceD a b = true := by
    unfold twiceD twoD
    rw [h1, h2, decide_eq_true (show dys a < dys b by omega)]; rfl
  rw [(add_yes1 hd).1, (add_yes1 hd).2, (twice_yes ht).1, (twice_yes ht).2, ho, show dys b + (dys b - dys a) = 2 * dys b - dys a by omega]
  exact ⟨rfl, rfl⟩
theorem twice_none1 {a b : Dt} (h : bornD a b = false) : twiceD a b = false := by
  unfold twiceD
  cases ht : twoD a b with
  | false => rfl
  | true =>
    rw [bornD_two, ht] at h
    have : ¬ dys a ≤ dys b := of_decide_eq_false (by simpa using h)
    rw [decide_eq_false (show ¬ dys a < dys b by omega)]; rfl
theorem twice_none2 {a b : Dt} (h : bornD a b = true) (h0 : daysOldR a b = 0) : twiceD a b = false := by
  have ho := old_yes h
  unfold twiceD
  rw [decide_eq_false (show ¬ dys a < dys b by omega), Bool.and_false]
set_option maxHeartbeats 4000000 in
set_option maxRecDepth 100000 in
theorem imTwiceAsOld_any (y d y2 d2 : Int) (w : World) : Calls Try.prog 31 #[.agg #[.int .i64 y, .int .i64 d], .agg #[.int .i64 y2, .int .i64 d2]] w (RetPB (twiceP (y, d) (y2, d2)) (twiceB (y, d) (y2, d2)) w) := by
  have HW0 := Lib.hid ((((Below.refl w.heap.size w).alloc (Nat.le_refl _) (.cells #[.int .i64 y, .int .i64 d] 25)).alloc (by simp) (.cells #[.int .i64 y2, .int .i64 d2] 25)).alloc (by simp; omega) (.cells #[.int .i64 0, .int .i64 0] 25))
  have HO0 := fun w => imDaysOld_any y d y2 d2 w
  have hb := old_bounds (y, d) (y2, d2)
  cases h : bornD (y, d) (y2, d2) with
  | false =>
    rw [(twice_no (twice_none1 h)).1, (twice_no (twice_none1 h)).2]
    rw [h] at HO0
    have HO := Lib.hid HO0
    clear HO0 h
    generalize daysOldR (y, d) (y2, d2) = q at HO hb
    go_enter Try.func31, Try.ntmps31
    go_wp2_with (first | (go_at_call 18; refine (HO.out _).mono ?_; rintro e w' ⟨rfl, hcall⟩; have hbw : Below w.heap.size w w' := (by first | exact Below.trans (by assumption) (Below.mono hcall (Below.size (by assumption))) | exact Below.trans (Below.drew (by assumption)) (Below.mono hcall (Below.size (Below.drew (by assumption)))) | exact HW0.out.trans (hcall.mono (by simp <;> omega)) | exact HW0.out.drew.trans (hcall.mono (by simp <;> omega))); have q1 : w'.cell? ⟨w.heap.size, 0, none⟩ = some (.int .i64 y) := below_cell2 hcall (by first | assumption | (simp; done) | (simp [go_sem]; done) | simp [*]); have q2 : w'.cell? ⟨w.heap.size, 1, none⟩ = some (.int .i64 d) := below_cell2 hcall (by first | assumption | (simp; done) | (simp [go_sem]; done) | simp [*]); have q3 : w'.cell? ⟨w.heap.size + 1, 0, none⟩ = some (.int .i64 y2) := below_cell2 hcall (by first | assumption | (simp; done) | (simp [go_sem]; done) | simp [*]); have q4 : w'.cell? ⟨w.heap.size + 1, 1, none⟩ = some (.int .i64 d2) := below_cell2 hcall (by first | assumption | (simp; done) | (simp [go_sem]; done) | simp [*]); have r0 : w'.cell? ⟨w.heap.size + 1 + 1, 0, none⟩ = some (.int .i64 0) := below_cell2 hcall (by first | assumption | (simp; done) | (simp [go_sem]; done) | simp [*]); have r1 : w'.cell? ⟨w.heap.size + 1 + 1, 1, none⟩ = some (.int .i64 0) := below_cell2 hcall (by first | assumption | (simp; done) | (simp [go_sem]; done) | simp [*]); have z0 : w'.frozen? ⟨w.heap.size + 1 + 1, 0, none⟩ = false := (hcall.frozen (p := ⟨w.heap.size + 1 + 1, 0, none⟩) (by first | (simp; done) | exact World.block_lt_of_cell? _ ⟨w.heap.size + 1 + 1, 0, none⟩ (by assumption))).trans (by first | (simp; done) | assumption | (simp [go_sem]; done) | (simp [*]; done)); have z1 : w'.frozen? ⟨w.heap.size + 1 + 1, 1, none⟩ = false := (hcall.frozen (p := ⟨w.heap.size + 1 + 1, 1, none⟩) (by first | (simp; done) | exact World.block_lt_of_cell? _ ⟨w.heap.size + 1 + 1, 0, none⟩ (by assumption))).trans (by first | (simp; done) | assumption | (simp [go_sem]; done) | (simp [*]; done)); clear hcall))
    obtain ⟨s0, s1⟩ := two_cells r0 r1
    refine bodyPost_ret (v := .tuple #[.agg #[.int .i64 0, .int .i64 0], .bool false]) (by simp [results, Try.results31, go_sem, s0, s1]) rfl ?_
    exact ⟨rfl, (hbw.setCell (by simp <;> omega) _).setCell (by simp <;> omega) _⟩
  | true =>
  by_cases h0 : daysOldR (y, d) (y2, d2) = 0
  · rw [(twice_no (twice_none2 h h0)).1, (twice_no (twice_none2 h h0)).2]
    rw [h, h0] at HO0
    have HO := Lib.hid HO0
    clear HO0 h h0 hb
    go_enter Try.func31, Try.ntmps31
    go_wp2_with (first | (go_at_call 18; refine (HO.out _).mono ?_; rintro e w' ⟨rfl, hcall⟩; have hbw : Below w.heap.size w w' := (by first | exact Below.trans (by assumption) (Below.mono hcall (Below.size (by assumption))) | exact Below.trans (Below.drew (by assumption)) (Below.mono hcall (Below.size (Below.drew (by assumption)))) | exact HW0.out.trans (hcall.mono (by simp <;> omega)) | exact HW0.out.drew.trans (hcall.mono (by simp <;> omega))); have q1 : w'.cell? ⟨w.heap.size, 0, none⟩ = some (.int .i64 y) := below_cell2 hcall (by first | assumption | (simp; done) | (simp [go_sem]; done) | simp [*]); have q2 : w'.cell? ⟨w.heap.size, 1, none⟩ = some (.int .i64 d) := below_cell2 hcall (by first | assumption | (simp; done) | (simp [go_sem]; done) | simp [*]); have q3 : w'.cell? ⟨w.heap.size + 1, 0, none⟩ = some (.int .i64 y2) := below_cell2 hcall (by first | assumption | (simp; done) | (simp [go_sem]; done) | simp [*]); have q4 : w'.cell? ⟨w.heap.size + 1, 1, none⟩ = some (.int .i64 d2) := below_cell2 hcall (by first | assumption | (simp; done) | (simp [go_sem]; done) | simp [*]); have r0 : w'.cell? ⟨w.heap.size + 1 + 1, 0, none⟩ = some (.int .i64 0) := below_cell2 hcall (by first | assumption | (simp; done) | (simp [go_sem]; done) | simp [*]); have r1 : w'.cell? ⟨w.heap.size + 1 + 1, 1, none⟩ = some (.int .i64 0) := below_cell2 hcall (by first | assumption | (simp; done) | (simp [go_sem]; done) | simp [*]); have z0 : w'.frozen? ⟨w.heap.size + 1 + 1, 0, none⟩ = false := (hcall.frozen (p := ⟨w.heap.size + 1 + 1, 0, none⟩) (by first | (simp; done) | exact World.block_lt_of_cell? _ ⟨w.heap.size + 1 + 1, 0, none⟩ (by assumption))).trans (by first | (simp; done) | assumption | (simp [go_sem]; done) | (simp [*]; done)); have z1 : w'.frozen? ⟨w.heap.size + 1 + 1, 1, none⟩ = false := (hcall.frozen (p := ⟨w.heap.size + 1 + 1, 1, none⟩) (by first | (simp; done) | exact World.block_lt_of_cell? _ ⟨w.heap.size + 1 + 1, 0, none⟩ (by assumption))).trans (by first | (simp; done) | assumption | (simp [go_sem]; done) | (simp [*]; done)); clear hcall))
    obtain ⟨s0, s1⟩ := two_cells r0 r1
    refine bodyPost_ret (v := .tuple #[.agg #[.int .i64 0, .int .i64 0], .bool false]) (by simp [results, Try.results31, go_sem, s0, s1]) rfl ?_
    exact ⟨rfl, (hbw.setCell (by simp <;> omega) _).setCell (by simp <;> omega) _⟩
  · rw [(twice_old h h0).1, (twice_old h h0).2]
    rw [h] at HO0
    have HO := Lib.hid HO0
    clear HO0 h
    generalize daysOldR (y, d) (y2, d2) = q at HO hb h0 ⊢
    have HX := Lib.hid (fun w => imAddDays_any y2 d2 q w)
    generalize addB (y2, d2) q = ok at HX ⊢
    generalize addP (y2, d2) q = r at HX ⊢
    obtain ⟨r1', r2'⟩ := r
    go_enter Try.func31, Try.ntmps31
    go_wp2_with (first | (go_at_call 18; refine (HO.out _).mono ?_; rintro e w' ⟨rfl, hcall⟩; have hbw : Below w.heap.size w w' := (by first | exact Below.trans (by assumption) (Below.mono hcall (Below.size (by assumption))) | exact Below.trans (Below.drew (by assumption)) (Below.mono hcall (Below.size (Below.drew (by assumption)))) | exact HW0.out.trans (hcall.mono (by simp <;> omega)) | exact HW0.out.drew.trans (hcall.mono (by simp <;> omega))); have q1 : w'.cell? ⟨w.heap.size, 0, none⟩ = some (.int .i64 y) := below_cell2 hcall (by first | assumption | (simp; done) | (simp [go_sem]; done) | simp [*]); have q2 : w'.cell? ⟨w.heap.size, 1, none⟩ = some (.int .i64 d) := below_cell2 hcall (by first | assumption | (simp; done) | (simp [go_sem]; done) | simp [*]); have q3 : w'.cell? ⟨w.heap.size + 1, 0, none⟩ = some (.int .i64 y2) := below_cell2 hcall (by first | assumption | (simp; done) | (simp [go_sem]; done) | simp [*]); have q4 : w'.cell? ⟨w.heap.size + 1, 1, none⟩ = some (.int .i64 d2) := below_cell2 hcall (by first | assumption | (simp; done) | (simp [go_sem]; done) | simp [*]); have r0 : w'.cell? ⟨w.heap.size + 1 + 1, 0, none⟩ = some (.int .i64 0) := below_cell2 hcall (by first | assumption | (simp; done) | (simp [go_sem]; done) | simp [*]); have r1 : w'.cell? ⟨w.heap.size + 1 + 1, 1, none⟩ = some (.int .i64 0) := below_cell2 hcall (by first | assumption | (simp; done) | (simp [go_sem]; done) | simp [*]); have z0 : w'.frozen? ⟨w.heap.size + 1 + 1, 0, none⟩ = false := (hcall.frozen (p := ⟨w.heap.size + 1 + 1, 0, none⟩) (by first | (simp; done) | exact World.block_lt_of_cell? _ ⟨w.heap.size + 1 + 1, 0, none⟩ (by assumption))).trans (by first | (simp; done) | assumption | (simp [go_sem]; done) | (simp [*]; done)); have z1 : w'.frozen? ⟨w.heap.size + 1 + 1, 1, none⟩ = false := (hcall.frozen (p := ⟨w.heap.size + 1 + 1, 1, none⟩) (by first | (simp; done) | exact World.block_lt_of_cell? _ ⟨w.heap.size + 1 + 1, 0, none⟩ (by assumption))).trans (by first | (simp; done) | assumption | (simp [go_sem]; done) | (simp [*]; done)); clear hcall) | (go_at_call 22; refine (HX.out _).mono ?_; rintro e w' ⟨rfl, hcall⟩; have hbw : Below w.heap.size w w' := (by first | exact Below.trans (by assumption) (Below.mono hcall (Below.size (by assumption))) | exact Below.trans (Below.drew (by assumption)) (Below.mono hcall (Below.size (Below.drew (by assumption)))) | exact HW0.out.trans (hcall.mono (by simp <;> omega)) | exact HW0.out.drew.trans (hcall.mono (by simp <;> omega))); have q1 : w'.cell? ⟨w.heap.size, 0, none⟩ = some (.int .i64 y) := below_cell2 hcall (by first | assumption | (simp; done) | (simp [go_sem]; done) | simp [*]); have q2 : w'.cell? ⟨w.heap.size, 1, none⟩ = some (.int .i64 d) := below_cell2 hcall (by first | assumption | (simp; done) | (simp [go_sem]; done) | simp [*]); have q3 : w'.cell? ⟨w.heap.size + 1, 0, none⟩ = some (.int .i64 y2) := below_cell2 hcall (by first | assumption | (simp; done) | (simp [go_sem]; done) | simp [*]); have q4 : w'.cell? ⟨w.heap.size + 1, 1, none⟩ = some (.int .i64 d2) := below_cell2 hcall (by first | assumption | (simp; done) | (simp [go_sem]; done) | simp [*]); have r0 : w'.cell? ⟨w.heap.size + 1 + 1, 0, none⟩ = some (.int .i64 0) := below_cell2 hcall (by first | assumption | (simp; done) | (simp [go_sem]; done) | simp [*]); have r1 : w'.cell? ⟨w.heap.size + 1 + 1, 1, none⟩ = some (.int .i64 0) := below_cell2 hcall (by first | assumption | (simp; done) | (simp [go_sem]; done) | simp [*]); have z0 : w'.frozen? ⟨w.heap.size + 1 + 1, 0, none⟩ = false := (hcall.frozen (p := ⟨w.heap.size + 1 + 1, 0, none⟩) (by first | (simp; done) | exact World.block_lt_of_cell? _ ⟨w.heap.size + 1 + 1, 0, none⟩ (by assumption))).trans (by first | (simp; done) | assumption | (simp [go_sem]; done) | (simp [*]; done)); have z1 : w'.frozen? ⟨w.heap.size + 1 + 1, 1, none⟩ = false := (hcall.frozen (p := ⟨w.heap.size + 1 + 1, 1, none⟩) (by first | (simp; done) | exact World.block_lt_of_cell? _ ⟨w.heap.size + 1 + 1, 0, none⟩ (by assumption))).trans (by first | (simp; done) | assumption | (simp [go_sem]; done) | (simp [*]; done)); clear hcall))
    obtain ⟨s0, s1⟩ := two_cells r0 r1
    refine bodyPost_ret (v := .tuple #[.agg #[.int .i64 r1', .int .i64 r2'], .bool ok]) (by simp [results, Try.results31, go_sem, s0, s1]) rfl ?_
    exact ⟨rfl, (hbw.setCell (by simp <;> omega) _).setCell (by simp <;> omega) _⟩


theorem isDate_both (y1 d1 : Int) : ∃ ok, (∀ w, Calls Try.prog 12 #[.agg #[.int .i64 y1, .int .i64 d1]] w (Ret (.bool ok) w)) ∧ (∀ w, Calls Try.prog 14 #[.agg #[.int .i64 y1, .int .i64 d1]] w (Ret (.bool ok) w)) :=
  ⟨_, fun w => specIsDate_any y1 d1 w, fun w => imIsDate_any y1 d1 w⟩
theorem ageOn_both (y1 d1 y2 d2 : Int) : ∃ r ok, (∀ w, Calls Try.prog 15 #[.agg #[.int .i64 y1, .int .i64 d1], .agg #[.int .i64 y2, .int .i64 d2]] w (RetIB r ok w)) ∧ (∀ w, Calls Try.prog 16 #[.agg #[.int .i64 y1, .int .i64 d1], .agg #[.int .i64 y2, .int .i64 d2]] w (RetIB r ok w)) :=
  ⟨_, _, fun w => specAgeOn_any y1 d1 y2 d2 w, fun w => imAgeOn_any y1 d1 y2 d2 w⟩
theorem daysOld_both (y1 d1 y2 d2 : Int) : ∃ r ok, (∀ w, Calls Try.prog 17 #[.agg #[.int .i64 y1, .int .i64 d1], .agg #[.int .i64 y2, .int .i64 d2]] w (RetIB r ok w)) ∧ (∀ w, Calls Try.prog 18 #[.agg #[.int .i64 y1, .int .i64 d1], .agg #[.int .i64 y2, .int .i64 d2]] w (RetIB r ok w)) :=
  ⟨_, _, fun w => specDaysOld_any y1 d1 y2 d2 w, fun w => imDaysOld_any y1 d1 y2 d2 w⟩
theorem daysApart_both (y1 d1 y2 d2 : Int) : ∃ r ok, (∀ w, Calls Try.prog 19 #[.agg #[.int .i64 y1, .int .i64 d1], .agg #[.int .i64 y2, .int .i64 d2]] w (RetIB r ok w)) ∧ (∀ w, Calls Try.prog 20 #[.agg #[.int .i64 y1, .int .i64 d1], .agg #[.int .i64 y2, .int .i64 d2]] w (RetIB r ok w)) :=
  ⟨_, _, fun w => specDaysApart_any y1 d1 y2 d2 w, fun w => imDaysApart_any y1 d1 y2 d2 w⟩
theorem addDays_both (y1 d1 x2 : Int) : ∃ p ok, (∀ w, Calls Try.prog 21 #[.agg #[.int .i64 y1, .int .i64 d1], .int .i64 x2] w (RetPB p ok w)) ∧ (∀ w, Calls Try.prog 22 #[.agg #[.int .i64 y1, .int .i64 d1], .int .i64 x2] w (RetPB p ok w)) :=
  ⟨_, _, fun w => specAddDays_any y1 d1 x2 w, fun w => imAddDays_any y1 d1 x2 w⟩
theorem greatestGap_both (y1 d1 y2 d2 : Int) : ∃ r1 r2 ok, (∀ w, Calls Try.prog 24 #[.agg #[.int .i64 y1, .int .i64 d1], .agg #[.int .i64 y2, .int .i64 d2]] w (RetIIB r1 r2 ok w)) ∧ (∀ w, Calls Try.prog 25 #[.agg #[.int .i64 y1, .int .i64 d1], .agg #[.int .i64 y2, .int .i64 d2]] w (RetIIB r1 r2 ok w)) :=
  ⟨_, _, _, fun w => specGreatestGap_any y1 d1 y2 d2 w, fun w => imGreatestGap_any y1 d1 y2 d2 w⟩
theorem halfBirthday_both (y1 d1 y2 d2 : Int) : ∃ p ok, (∀ w, Calls Try.prog 26 #[.agg #[.int .i64 y1, .int .i64 d1], .agg #[.int .i64 y2, .int .i64 d2]] w (RetPB p ok w)) ∧ (∀ w, Calls Try.prog 27 #[.agg #[.int .i64 y1, .int .i64 d1], .agg #[.int .i64 y2, .int .i64 d2]] w (RetPB p ok w)) :=
  ⟨_, _, fun w => specHalfBirthday_any y1 d1 y2 d2 w, fun w => imHalfBirthday_any y1 d1 y2 d2 w⟩
theorem dayOfDaysOld_both (y1 d1 x2 : Int) : ∃ p ok, (∀ w, Calls Try.prog 28 #[.agg #[.int .i64 y1, .int .i64 d1], .int .i64 x2] w (RetPB p ok w)) ∧ (∀ w, Calls Try.prog 29 #[.agg #[.int .i64 y1, .int .i64 d1], .int .i64 x2] w (RetPB p ok w)) :=
  ⟨_, _, fun w => specDayOfDaysOld_any y1 d1 x2 w, fun w => imDayOfDaysOld_any y1 d1 x2 w⟩
theorem twiceAsOld_both (y1 d1 y2 d2 : Int) : ∃ p ok, (∀ w, Calls Try.prog 30 #[.agg #[.int .i64 y1, .int .i64 d1], .agg #[.int .i64 y2, .int .i64 d2]] w (RetPB p ok w)) ∧ (∀ w, Calls Try.prog 31 #[.agg #[.int .i64 y1, .int .i64 d1], .agg #[.int .i64 y2, .int .i64 d2]] w (RetPB p ok w)) :=
  ⟨_, _, fun w => specTwiceAsOld_any y1 d1 y2 d2 w, fun w => imTwiceAsOld_any y1 d1 y2 d2 w⟩
end Go.Proofs.Ytbhceokapbnhhab
