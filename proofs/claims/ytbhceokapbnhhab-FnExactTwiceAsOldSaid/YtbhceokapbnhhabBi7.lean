/- Twice as old, of the model. -/
import Derived.Test.YtbhceokapbnhhabBi4
set_option linter.unusedVariables false
set_option linter.unusedSimpArgs false
namespace Go.Proofs.Ytbhceokapbnhhab
open Go.RowKit

def twiceD (a b : Dt) : Bool := twoD a b && decide (dys a < dys b)
def twiceP (a b : Dt) : Dt := if twiceD a b = true then backD (2 * dys b - dys a) else (0, 0)
def twiceB (a b : Dt) : Bool := twiceD a b && backOk (2 * dys b - dys a)
theorem twice_no {a b : Dt} (h : twiceD a b = false) : twiceB a b = false ∧ twiceP a b = (0, 0) := by
  unfold twiceB twiceP; rw [h]; exact ⟨rfl, rfl⟩
theorem twice_yes {a b : Dt} (h : twiceD a b = true) : twiceB a b = backOk (2 * dys b - dys a) ∧ twiceP a b = backD (2 * dys b - dys a) := by
  unfold twiceB twiceP; rw [h]; exact ⟨rfl, rfl⟩
set_option maxHeartbeats 8000000 in
set_option maxRecDepth 100000 in
theorem specTwiceAsOld_any (y d y2 d2 : Int) (w : World) : Calls Try.prog 30 #[.agg #[.int .i64 y, .int .i64 d], .agg #[.int .i64 y2, .int .i64 d2]] w (RetPB (twiceP (y, d) (y2, d2)) (twiceB (y, d) (y2, d2)) w) := by
  have HW0 := Lib.hid ((((Below.refl w.heap.size w).alloc (Nat.le_refl _) (.cells #[.int .i64 y, .int .i64 d] 25)).alloc (by simp) (.cells #[.int .i64 y2, .int .i64 d2] 25)).alloc (by simp; omega) (.cells #[.int .i64 0, .int .i64 0] 25))
  have HA0 := fun w => biDate_any y d w
  have HB0 := fun w => biDate_any y2 d2 w
  cases h1 : dateB (y, d) with
  | false =>
    obtain ⟨e1, e2⟩ := twice_no (a := (y, d)) (b := (y2, d2)) (by unfold twiceD twoD; rw [h1]; rfl)
    rw [e1, e2]
    clear e1 e2
    rw [h1] at HA0
    have HA := Lib.hid HA0
    clear HA0 HB0 h1
    go_enter Try.func30, Try.ntmps30
    go_wp2_with fail
    go_region_with (first | (go_at_call_of 32 (Value.int IntKind.i64 y); refine (HA.out _).mono ?_; rintro e w' ⟨rfl, hcall⟩; have hbw : Below w.heap.size w w' := (by first | exact Below.trans (by assumption) (Below.mono hcall (Below.size (by assumption))) | exact Below.trans (Below.drew (by assumption)) (Below.mono hcall (Below.size (Below.drew (by assumption)))) | exact HW0.out.trans (hcall.mono (by simp <;> omega)) | exact HW0.out.drew.trans (hcall.mono (by simp <;> omega))); have q1 : w'.cell? ⟨w.heap.size, 0, none⟩ = some (.int .i64 y) := below_cell2 hcall (by first | assumption | (simp; done) | (simp [go_sem]; done) | simp [*]); have q2 : w'.cell? ⟨w.heap.size, 1, none⟩ = some (.int .i64 d) := below_cell2 hcall (by first | assumption | (simp; done) | (simp [go_sem]; done) | simp [*]); have q3 : w'.cell? ⟨w.heap.size + 1, 0, none⟩ = some (.int .i64 y2) := below_cell2 hcall (by first | assumption | (simp; done) | (simp [go_sem]; done) | simp [*]); have q4 : w'.cell? ⟨w.heap.size + 1, 1, none⟩ = some (.int .i64 d2) := below_cell2 hcall (by first | assumption | (simp; done) | (simp [go_sem]; done) | simp [*]); have r0 : w'.cell? ⟨w.heap.size + 1 + 1, 0, none⟩ = some (.int .i64 0) := below_cell2 hcall (by first | assumption | (simp; done) | (simp [go_sem]; done) | simp [*]); have r1 : w'.cell? ⟨w.heap.size + 1 + 1, 1, none⟩ = some (.int .i64 0) := below_cell2 hcall (by first | assumption | (simp; done) | (simp [go_sem]; done) | simp [*]); have z0 : w'.frozen? ⟨w.heap.size + 1 + 1, 0, none⟩ = false := (hcall.frozen (p := ⟨w.heap.size + 1 + 1, 0, none⟩) (by first | (simp; done) | exact World.block_lt_of_cell? _ ⟨w.heap.size + 1 + 1, 0, none⟩ (by assumption))).trans (by first | (simp; done) | assumption | (simp [go_sem]; done) | (simp [*]; done)); have z1 : w'.frozen? ⟨w.heap.size + 1 + 1, 1, none⟩ = false := (hcall.frozen (p := ⟨w.heap.size + 1 + 1, 1, none⟩) (by first | (simp; done) | exact World.block_lt_of_cell? _ ⟨w.heap.size + 1 + 1, 0, none⟩ (by assumption))).trans (by first | (simp; done) | assumption | (simp [go_sem]; done) | (simp [*]; done)); clear hcall))
    all_goals
      go_wp2_with fail
      obtain ⟨s0, s1⟩ := two_cells r0 r1
      refine bodyPost_ret (v := .tuple #[.agg #[.int .i64 0, .int .i64 0], .bool false]) (by simp [results, Try.results30, go_sem, s0, s1]) rfl ?_
      exact ⟨rfl, (hbw.setCell (by simp <;> omega) _).setCell (by simp <;> omega) _⟩
  | true =>
  cases h2 : dateB (y2, d2) with
  | false =>
    obtain ⟨e1, e2⟩ := twice_no (a := (y, d)) (b := (y2, d2)) (by unfold twiceD twoD; rw [h1, h2]; rfl)
    rw [e1, e2]
    clear e1 e2
    rw [h1] at HA0
    have HA := Lib.hid HA0
    rw [h2] at HB0
    have HB := Lib.hid HB0
    clear HA0 HB0 h1 h2
    go_enter Try.func30, Try.ntmps30
    go_wp2_with fail
    go_region_with (first | (go_at_call_of 32 (Value.int IntKind.i64 y); refine (HA.out _).mono ?_; rintro e w' ⟨rfl, hcall⟩; have hbw : Below w.heap.size w w' := (by first | exact Below.trans (by assumption) (Below.mono hcall (Below.size (by assumption))) | exact Below.trans (Below.drew (by assumption)) (Below.mono hcall (Below.size (Below.drew (by assumption)))) | exact HW0.out.trans (hcall.mono (by simp <;> omega)) | exact HW0.out.drew.trans (hcall.mono (by simp <;> omega))); have q1 : w'.cell? ⟨w.heap.size, 0, none⟩ = some (.int .i64 y) := below_cell2 hcall (by first | assumption | (simp; done) | (simp [go_sem]; done) | simp [*]); have q2 : w'.cell? ⟨w.heap.size, 1, none⟩ = some (.int .i64 d) := below_cell2 hcall (by first | assumption | (simp; done) | (simp [go_sem]; done) | simp [*]); have q3 : w'.cell? ⟨w.heap.size + 1, 0, none⟩ = some (.int .i64 y2) := below_cell2 hcall (by first | assumption | (simp; done) | (simp [go_sem]; done) | simp [*]); have q4 : w'.cell? ⟨w.heap.size + 1, 1, none⟩ = some (.int .i64 d2) := below_cell2 hcall (by first | assumption | (simp; done) | (simp [go_sem]; done) | simp [*]); have r0 : w'.cell? ⟨w.heap.size + 1 + 1, 0, none⟩ = some (.int .i64 0) := below_cell2 hcall (by first | assumption | (simp; done) | (simp [go_sem]; done) | simp [*]); have r1 : w'.cell? ⟨w.heap.size + 1 + 1, 1, none⟩ = some (.int .i64 0) := below_cell2 hcall (by first | assumption | (simp; done) | (simp [go_sem]; done) | simp [*]); have z0 : w'.frozen? ⟨w.heap.size + 1 + 1, 0, none⟩ = false := (hcall.frozen (p := ⟨w.heap.size + 1 + 1, 0, none⟩) (by first | (simp; done) | exact World.block_lt_of_cell? _ ⟨w.heap.size + 1 + 1, 0, none⟩ (by assumption))).trans (by first | (simp; done) | assumption | (simp [go_sem]; done) | (simp [*]; done)); have z1 : w'.frozen? ⟨w.heap.size + 1 + 1, 1, none⟩ = false := (hcall.frozen (p := ⟨w.heap.size + 1 + 1, 1, none⟩) (by first | (simp; done) | exact World.block_lt_of_cell? _ ⟨w.heap.size + 1 + 1, 0, none⟩ (by assumption))).trans (by first | (simp; done) | assumption | (simp [go_sem]; done) | (simp [*]; done)); clear hcall) | (go_at_call_of 32 (Value.int IntKind.i64 y2); refine (HB.out _).mono ?_; rintro e w' ⟨rfl, hcall⟩; have hbw : Below w.heap.size w w' := (by first | exact Below.trans (by assumption) (Below.mono hcall (Below.size (by assumption))) | exact Below.trans (Below.drew (by assumption)) (Below.mono hcall (Below.size (Below.drew (by assumption)))) | exact HW0.out.trans (hcall.mono (by simp <;> omega)) | exact HW0.out.drew.trans (hcall.mono (by simp <;> omega))); have q1 : w'.cell? ⟨w.heap.size, 0, none⟩ = some (.int .i64 y) := below_cell2 hcall (by first | assumption | (simp; done) | (simp [go_sem]; done) | simp [*]); have q2 : w'.cell? ⟨w.heap.size, 1, none⟩ = some (.int .i64 d) := below_cell2 hcall (by first | assumption | (simp; done) | (simp [go_sem]; done) | simp [*]); have q3 : w'.cell? ⟨w.heap.size + 1, 0, none⟩ = some (.int .i64 y2) := below_cell2 hcall (by first | assumption | (simp; done) | (simp [go_sem]; done) | simp [*]); have q4 : w'.cell? ⟨w.heap.size + 1, 1, none⟩ = some (.int .i64 d2) := below_cell2 hcall (by first | assumption | (simp; done) | (simp [go_sem]; done) | simp [*]); have r0 : w'.cell? ⟨w.heap.size + 1 + 1, 0, none⟩ = some (.int .i64 0) := below_cell2 hcall (by first | assumption | (simp; done) | (simp [go_sem]; done) | simp [*]); have r1 : w'.cell? ⟨w.heap.size + 1 + 1, 1, none⟩ = some (.int .i64 0) := below_cell2 hcall (by first | assumption | (simp; done) | (simp [go_sem]; done) | simp [*]); have z0 : w'.frozen? ⟨w.heap.size + 1 + 1, 0, none⟩ = false := (hcall.frozen (p := ⟨w.heap.size + 1 + 1, 0, none⟩) (by first | (simp; done) | exact World.block_lt_of_cell? _ ⟨w.heap.size + 1 + 1, 0, none⟩ (by assumption))).trans (by first | (simp; done) | assumption | (simp [go_sem]; done) | (simp [*]; done)); have z1 : w'.frozen? ⟨w.heap.size + 1 + 1, 1, none⟩ = false := (hcall.frozen (p := ⟨w.heap.size + 1 + 1, 1, none⟩) (by first | (simp; done) | exact World.block_lt_of_cell? _ ⟨w.heap.size + 1 + 1, 0, none⟩ (by assumption))).trans (by first | (simp; done) | assumption | (simp [go_sem]; done) | (simp [*]; done)); clear hcall))
    all_goals
      go_wp2_with fail
      obtain ⟨s0, s1⟩ := two_cells r0 r1
      refine bodyPost_ret (v := .tuple #[.agg #[.int .i64 0, .int .i64 0], .bool false]) (by simp [results, Try.results30, go_sem, s0, s1]) rfl ?_
      exact ⟨rfl, (hbw.setCell (by simp <;> omega) _).setCell (by simp <;> omega) _⟩
  | true =>
    have hc1 := dys_bounds h1
    have hc2 := dys_bounds h2
    have HC := Lib.hid (fun w => biDays_any y d w h1)
    have HD := Lib.hid (fun w => biDays_any y2 d2 w h2)
    by_cases h3 : dys (y, d) < dys (y2, d2)
    · obtain ⟨e1, e2⟩ := twice_yes (a := (y, d)) (b := (y2, d2)) (by unfold twiceD twoD; rw [h1, h2]; exact decide_eq_true h3)
      rw [e1, e2]
      clear e1 e2
      rw [h1] at HA0
      have HA := Lib.hid HA0
      rw [h2] at HB0
      have HB := Lib.hid HB0
      clear HA0 HB0 h1 h2
      generalize dys (y, d) = p at HC hc1 h3 ⊢
      generalize dys (y2, d2) = q at HD hc2 h3 ⊢
      have hle : ¬ q ≤ p := by omega
      have k1 : IntKind.i64.wrap (2 * q) = 2 * q := IntWalk.i64_in _ (by omega)
      have k2 : IntKind.i64.wrap (2 * q - p) = 2 * q - p := IntWalk.i64_in _ (by omega)
      have HX := Lib.hid (fun w => biBack_any (2 * q - p) w)
      generalize backOk (2 * q - p) = ok at HX ⊢
      generalize backD (2 * q - p) = r at HX ⊢
      obtain ⟨u1, u2⟩ := r
      go_enter Try.func30, Try.ntmps30
      go_wp2_with fail
      go_region_held3 (fun w' => Below w.heap.size w w' ∧ w'.cell? ⟨w.heap.size, 0, none⟩ = some (.int .i64 y) ∧ w'.cell? ⟨w.heap.size, 1, none⟩ = some (.int .i64 d) ∧ w'.cell? ⟨w.heap.size + 1, 0, none⟩ = some (.int .i64 y2) ∧ w'.cell? ⟨w.heap.size + 1, 1, none⟩ = some (.int .i64 d2) ∧ w'.cell? ⟨w.heap.size + 1 + 1, 0, none⟩ = some (.int .i64 0) ∧ w'.cell? ⟨w.heap.size + 1 + 1, 1, none⟩ = some (.int .i64 0) ∧ w'.frozen? ⟨w.heap.size + 1 + 1, 0, none⟩ = false ∧ w'.frozen? ⟨w.heap.size + 1 + 1, 1, none⟩ = false)
        (first
          | exact ⟨HW0.out.drew, by simp [go_sem], by simp [go_sem], by simp [go_sem], by simp [go_sem], by simp [go_sem], by simp [go_sem], by simp [go_sem], by simp [go_sem]⟩
          | (exact ⟨Below.drew (by assumption), by first | assumption | simp [*], by first | assumption | simp [*], by first | assumption | simp [*], by first | assumption | simp [*], by first | assumption | simp [*], by first | assumption | simp [*], by first | assumption | simp [*], by first | assumption | simp [*]⟩)
          | (go_split_ands
             refine ⟨?_, ?_, ?_, ?_, ?_, ?_, ?_, ?_, ?_⟩
             · exact Below.trans (by assumption) (Below.mono hcall (Below.size (by assumption)))
             · exact below_cell2 hcall (by assumption)
             · exact below_cell2 hcall (by assumption)
             · exact below_cell2 hcall (by assumption)
             · exact below_cell2 hcall (by assumption)
             · exact below_cell2 hcall (by assumption)
             · exact below_cell2 hcall (by assumption)
             · exact (hcall.frozen (p := ⟨w.heap.size + 1 + 1, 0, none⟩) (World.block_lt_of_cell? _ ⟨w.heap.size + 1 + 1, 0, none⟩ (by assumption))).trans (by assumption)
             · exact (hcall.frozen (p := ⟨w.heap.size + 1 + 1, 1, none⟩) (World.block_lt_of_cell? _ ⟨w.heap.size + 1 + 1, 0, none⟩ (by assumption))).trans (by assumption)))
        (first | (go_at_call_of 32 (Value.int IntKind.i64 y); refine (HA.out _).mono ?_; rintro e w' ⟨rfl, hcall⟩) | (go_at_call_of 32 (Value.int IntKind.i64 y2); refine (HB.out _).mono ?_; rintro e w' ⟨rfl, hcall⟩) | (go_at_call_of 36 (Value.int IntKind.i64 y); refine (HC.out _).mono ?_; rintro e w' ⟨rfl, hcall⟩) | (go_at_call_of 36 (Value.int IntKind.i64 y2); refine (HD.out _).mono ?_; rintro e w' ⟨rfl, hcall⟩))
      all_goals
        obtain ⟨hbw, q1, q2, q3, q4, r0, r1, z0, z1⟩ := ‹Below w.heap.size w _ ∧ _›
      go_wp2_with fail
      go_region_with (first | (go_at_call_of 36 (Value.int IntKind.i64 y); refine (HC.out _).mono ?_; rintro e w' ⟨rfl, hcall⟩; have hbw : Below w.heap.size w w' := (by first | exact Below.trans (by assumption) (Below.mono hcall (Below.size (by assumption))) | exact Below.trans (Below.drew (by assumption)) (Below.mono hcall (Below.size (Below.drew (by assumption)))) | exact HW0.out.trans (hcall.mono (by simp <;> omega)) | exact HW0.out.drew.trans (hcall.mono (by simp <;> omega))); have q1 : w'.cell? ⟨w.heap.size, 0, none⟩ = some (.int .i64 y) := below_cell2 hcall (by first | assumption | (simp; done) | (simp [go_sem]; done) | simp [*]); have q2 : w'.cell? ⟨w.heap.size, 1, none⟩ = some (.int .i64 d) := below_cell2 hcall (by first | assumption | (simp; done) | (simp [go_sem]; done) | simp [*]); have q3 : w'.cell? ⟨w.heap.size + 1, 0, none⟩ = some (.int .i64 y2) := below_cell2 hcall (by first | assumption | (simp; done) | (simp [go_sem]; done) | simp [*]); have q4 : w'.cell? ⟨w.heap.size + 1, 1, none⟩ = some (.int .i64 d2) := below_cell2 hcall (by first | assumption | (simp; done) | (simp [go_sem]; done) | simp [*]); have r0 : w'.cell? ⟨w.heap.size + 1 + 1, 0, none⟩ = some (.int .i64 0) := below_cell2 hcall (by first | assumption | (simp; done) | (simp [go_sem]; done) | simp [*]); have r1 : w'.cell? ⟨w.heap.size + 1 + 1, 1, none⟩ = some (.int .i64 0) := below_cell2 hcall (by first | assumption | (simp; done) | (simp [go_sem]; done) | simp [*]); have z0 : w'.frozen? ⟨w.heap.size + 1 + 1, 0, none⟩ = false := (hcall.frozen (p := ⟨w.heap.size + 1 + 1, 0, none⟩) (by first | (simp; done) | exact World.block_lt_of_cell? _ ⟨w.heap.size + 1 + 1, 0, none⟩ (by assumption))).trans (by first | (simp; done) | assumption | (simp [go_sem]; done) | (simp [*]; done)); have z1 : w'.frozen? ⟨w.heap.size + 1 + 1, 1, none⟩ = false := (hcall.frozen (p := ⟨w.heap.size + 1 + 1, 1, none⟩) (by first | (simp; done) | exact World.block_lt_of_cell? _ ⟨w.heap.size + 1 + 1, 0, none⟩ (by assumption))).trans (by first | (simp; done) | assumption | (simp [go_sem]; done) | (simp [*]; done)); clear hcall) | (go_at_call_of 36 (Value.int IntKind.i64 y2); refine (HD.out _).mono ?_; rintro e w' ⟨rfl, hcall⟩; have hbw : Below w.heap.size w w' := (by first | exact Below.trans (by assumption) (Below.mono hcall (Below.size (by assumption))) | exact Below.trans (Below.drew (by assumption)) (Below.mono hcall (Below.size (Below.drew (by assumption)))) | exact HW0.out.trans (hcall.mono (by simp <;> omega)) | exact HW0.out.drew.trans (hcall.mono (by simp <;> omega))); have q1 : w'.cell? ⟨w.heap.size, 0, none⟩ = some (.int .i64 y) := below_cell2 hcall (by first | assumption | (simp; done) | (simp [go_sem]; done) | simp [*]); have q2 : w'.cell? ⟨w.heap.size, 1, none⟩ = some (.int .i64 d) := below_cell2 hcall (by first | assumption | (simp; done) | (simp [go_sem]; done) | simp [*]); have q3 : w'.cell? ⟨w.heap.size + 1, 0, none⟩ = some (.int .i64 y2) := below_cell2 hcall (by first | assumption | (simp; done) | (simp [go_sem]; done) | simp [*]); have q4 : w'.cell? ⟨w.heap.size + 1, 1, none⟩ = some (.int .i64 d2) := below_cell2 hcall (by first | assumption | (simp; done) | (simp [go_sem]; done) | simp [*]); have r0 : w'.cell? ⟨w.heap.size + 1 + 1, 0, none⟩ = some (.int .i64 0) := below_cell2 hcall (by first | assumption | (simp; done) | (simp [go_sem]; done) | simp [*]); have r1 : w'.cell? ⟨w.heap.size + 1 + 1, 1, none⟩ = some (.int .i64 0) := below_cell2 hcall (by first | assumption | (simp; done) | (simp [go_sem]; done) | simp [*]); have z0 : w'.frozen? ⟨w.heap.size + 1 + 1, 0, none⟩ = false := (hcall.frozen (p := ⟨w.heap.size + 1 + 1, 0, none⟩) (by first | (simp; done) | exact World.block_lt_of_cell? _ ⟨w.heap.size + 1 + 1, 0, none⟩ (by assumption))).trans (by first | (simp; done) | assumption | (simp [go_sem]; done) | (simp [*]; done)); have z1 : w'.frozen? ⟨w.heap.size + 1 + 1, 1, none⟩ = false := (hcall.frozen (p := ⟨w.heap.size + 1 + 1, 1, none⟩) (by first | (simp; done) | exact World.block_lt_of_cell? _ ⟨w.heap.size + 1 + 1, 0, none⟩ (by assumption))).trans (by first | (simp; done) | assumption | (simp [go_sem]; done) | (simp [*]; done)); clear hcall) | (go_at_call 41; refine (HX.out _).mono ?_; rintro e w' ⟨rfl, hcall⟩; have hbw : Below w.heap.size w w' := (by first | exact Below.trans (by assumption) (Below.mono hcall (Below.size (by assumption))) | exact Below.trans (Below.drew (by assumption)) (Below.mono hcall (Below.size (Below.drew (by assumption)))) | exact HW0.out.trans (hcall.mono (by simp <;> omega)) | exact HW0.out.drew.trans (hcall.mono (by simp <;> omega))); have q1 : w'.cell? ⟨w.heap.size, 0, none⟩ = some (.int .i64 y) := below_cell2 hcall (by first | assumption | (simp; done) | (simp [go_sem]; done) | simp [*]); have q2 : w'.cell? ⟨w.heap.size, 1, none⟩ = some (.int .i64 d) := below_cell2 hcall (by first | assumption | (simp; done) | (simp [go_sem]; done) | simp [*]); have q3 : w'.cell? ⟨w.heap.size + 1, 0, none⟩ = some (.int .i64 y2) := below_cell2 hcall (by first | assumption | (simp; done) | (simp [go_sem]; done) | simp [*]); have q4 : w'.cell? ⟨w.heap.size + 1, 1, none⟩ = some (.int .i64 d2) := below_cell2 hcall (by first | assumption | (simp; done) | (simp [go_sem]; done) | simp [*]); have r0 : w'.cell? ⟨w.heap.size + 1 + 1, 0, none⟩ = some (.int .i64 0) := below_cell2 hcall (by first | assumption | (simp; done) | (simp [go_sem]; done) | simp [*]); have r1 : w'.cell? ⟨w.heap.size + 1 + 1, 1, none⟩ = some (.int .i64 0) := below_cell2 hcall (by first | assumption | (simp; done) | (simp [go_sem]; done) | simp [*]); have z0 : w'.frozen? ⟨w.heap.size + 1 + 1, 0, none⟩ = false := (hcall.frozen (p := ⟨w.heap.size + 1 + 1, 0, none⟩) (by first | (simp; done) | exact World.block_lt_of_cell? _ ⟨w.heap.size + 1 + 1, 0, none⟩ (by assumption))).trans (by first | (simp; done) | assumption | (simp [go_sem]; done) | (simp [*]; done)); have z1 : w'.frozen? ⟨w.heap.size + 1 + 1, 1, none⟩ = false := (hcall.frozen (p := ⟨w.heap.size + 1 + 1, 1, none⟩) (by first | (simp; done) | exact World.block_lt_of_cell? _ ⟨w.heap.size + 1 + 1, 0, none⟩ (by assumption))).trans (by first | (simp; done) | assumption | (simp [go_sem]; done) | (simp [*]; done)); clear hcall))
      all_goals
        go_wp2_with fail
        obtain ⟨s0, s1⟩ := two_cells r0 r1
        refine bodyPost_ret (v := .tuple #[.agg #[.int .i64 u1, .int .i64 u2], .bool ok]) (by simp [results, Try.results30, go_sem, s0, s1]) rfl ?_
        exact ⟨rfl, (hbw.setCell (by simp <;> omega) _).setCell (by simp <;> omega) _⟩
    · obtain ⟨e1, e2⟩ := twice_no (a := (y, d)) (b := (y2, d2)) (by unfold twiceD twoD; rw [h1, h2]; exact decide_eq_false h3)
      rw [e1, e2]
      clear e1 e2
      rw [h1] at HA0
      have HA := Lib.hid HA0
      rw [h2] at HB0
      have HB := Lib.hid HB0
      clear HA0 HB0 h1 h2
      generalize dys (y, d) = p at HC hc1 h3 ⊢
      generalize dys (y2, d2) = q at HD hc2 h3 ⊢
      have hle : q ≤ p := by omega
      go_enter Try.func30, Try.ntmps30
      go_wp2_with fail
      go_region_held3 (fun w' => Below w.heap.size w w' ∧ w'.cell? ⟨w.heap.size, 0, none⟩ = some (.int .i64 y) ∧ w'.cell? ⟨w.heap.size, 1, none⟩ = some (.int .i64 d) ∧ w'.cell? ⟨w.heap.size + 1, 0, none⟩ = some (.int .i64 y2) ∧ w'.cell? ⟨w.heap.size + 1, 1, none⟩ = some (.int .i64 d2) ∧ w'.cell? ⟨w.heap.size + 1 + 1, 0, none⟩ = some (.int .i64 0) ∧ w'.cell? ⟨w.heap.size + 1 + 1, 1, none⟩ = some (.int .i64 0) ∧ w'.frozen? ⟨w.heap.size + 1 + 1, 0, none⟩ = false ∧ w'.frozen? ⟨w.heap.size + 1 + 1, 1, none⟩ = false)
        (first
          | exact ⟨HW0.out.drew, by simp [go_sem], by simp [go_sem], by simp [go_sem], by simp [go_sem], by simp [go_sem], by simp [go_sem], by simp [go_sem], by simp [go_sem]⟩
          | (exact ⟨Below.drew (by assumption), by first | assumption | simp [*], by first | assumption | simp [*], by first | assumption | simp [*], by first | assumption | simp [*], by first | assumption | simp [*], by first | assumption | simp [*], by first | assumption | simp [*], by first | assumption | simp [*]⟩)
          | (go_split_ands
             refine ⟨?_, ?_, ?_, ?_, ?_, ?_, ?_, ?_, ?_⟩
             · exact Below.trans (by assumption) (Below.mono hcall (Below.size (by assumption)))
             · exact below_cell2 hcall (by assumption)
             · exact below_cell2 hcall (by assumption)
             · exact below_cell2 hcall (by assumption)
             · exact below_cell2 hcall (by assumption)
             · exact below_cell2 hcall (by assumption)
             · exact below_cell2 hcall (by assumption)
             · exact (hcall.frozen (p := ⟨w.heap.size + 1 + 1, 0, none⟩) (World.block_lt_of_cell? _ ⟨w.heap.size + 1 + 1, 0, none⟩ (by assumption))).trans (by assumption)
             · exact (hcall.frozen (p := ⟨w.heap.size + 1 + 1, 1, none⟩) (World.block_lt_of_cell? _ ⟨w.heap.size + 1 + 1, 0, none⟩ (by assumption))).trans (by assumption)))
        (first | (go_at_call_of 32 (Value.int IntKind.i64 y); refine (HA.out _).mono ?_; rintro e w' ⟨rfl, hcall⟩) | (go_at_call_of 32 (Value.int IntKind.i64 y2); refine (HB.out _).mono ?_; rintro e w' ⟨rfl, hcall⟩) | (go_at_call_of 36 (Value.int IntKind.i64 y); refine (HC.out _).mono ?_; rintro e w' ⟨rfl, hcall⟩) | (go_at_call_of 36 (Value.int IntKind.i64 y2); refine (HD.out _).mono ?_; rintro e w' ⟨rfl, hcall⟩))
      all_goals
        obtain ⟨hbw, q1, q2, q3, q4, r0, r1, z0, z1⟩ := ‹Below w.heap.size w _ ∧ _›
      go_wp2_with fail
      obtain ⟨s0, s1⟩ := two_cells r0 r1
      refine bodyPost_ret (v := .tuple #[.agg #[.int .i64 0, .int .i64 0], .bool false]) (by simp [results, Try.results30, go_sem, s0, s1]) rfl ?_
      exact ⟨rfl, (hbw.setCell (by simp <;> omega) _).setCell (by simp <;> omega) _⟩

end Go.Proofs.Ytbhceokapbnhhab
