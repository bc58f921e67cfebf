/- The days on which two people are of one age, of the model. -/
import Derived.Test.YtbhceokapbnhhaaBi3
set_option linter.unusedVariables false
set_option linter.unusedSimpArgs false
namespace Go.Proofs.Ytbhceokapbnhhaa
open Go.RowKit

/-- The days among the first k of the year on which the two are of one age. -/
def alikeN (a b : Dt) (yr : Int) : Nat → Int
  | 0 => 0
  | k + 1 => alikeN a b yr k + (if ageD a (yr, (k : Int) + 1) = ageD b (yr, (k : Int) + 1) then 1 else 0)
theorem alikeN_bounds (a b : Dt) (yr : Int) : ∀ k, 0 ≤ alikeN a b yr k ∧ alikeN a b yr k ≤ (k : Int)
  | 0 => by simp [alikeN]
  | k + 1 => by
    have := alikeN_bounds a b yr k
    unfold alikeN
    split <;> omega
def alikeB (a b : Dt) (yr : Int) : Bool := dateB a && dateB b && inB yr 0 3000 && decide (a.1 < yr) && decide (b.1 < yr)
def alikeR (a b : Dt) (yr : Int) : Int := if alikeB a b yr = true then alikeN a b yr 365 else 0
theorem alikeR_no {a b : Dt} {yr : Int} (h : alikeB a b yr = false) : alikeR a b yr = 0 := by unfold alikeR; rw [h]; rfl
set_option maxHeartbeats 8000000 in
set_option maxRecDepth 100000 in
theorem specDaysAlike_any (y d y2 d2 yr : Int) (w : World) : Calls Try.prog 43 #[.agg #[.int .i64 y, .int .i64 d], .agg #[.int .i64 y2, .int .i64 d2], .int .i64 yr] w (RetIB (alikeR (y, d) (y2, d2) yr) (alikeB (y, d) (y2, d2) yr) w) := by
  have HW0 := Lib.hid (((Below.refl w.heap.size w).alloc (Nat.le_refl _) (.cells #[.int .i64 y, .int .i64 d] 34)).alloc (by simp) (.cells #[.int .i64 y2, .int .i64 d2] 34))
  have HA0 := fun w => biDate_any y d w
  have HB0 := fun w => biDate_any y2 d2 w
  have HI0 := fun w => l1InD_any yr 0 3000 w
  cases h1 : dateB (y, d) with
  | false =>
    have e0 : alikeB (y, d) (y2, d2) yr = false := by unfold alikeB; rw [h1]; rfl
    rw [e0, alikeR_no e0]
    clear e0
    rw [h1] at HA0
    have HA := Lib.hid HA0
    clear HA0 HB0 HI0 h1
    go_enter Try.func43, Try.ntmps43
    go_wp2_with (first | (go_at_call_of 52 (Value.int IntKind.i64 y); refine (HA.out _).mono ?_; rintro e w' ⟨rfl, hcall⟩; have hbw : Below w.heap.size w w' := (by first | exact Below.trans (by assumption) (Below.mono hcall (Below.size (by assumption))) | exact Below.trans (Below.drew (by assumption)) (Below.mono hcall (Below.size (Below.drew (by assumption)))) | exact HW0.out.trans (hcall.mono (by simp <;> omega)) | exact HW0.out.drew.trans (hcall.mono (by simp <;> omega))); have q1 : w'.cell? ⟨w.heap.size, 0, none⟩ = some (.int .i64 y) := below_cell2 hcall (by first | assumption | (simp; done) | (simp [go_sem]; done) | simp [*]); have q2 : w'.cell? ⟨w.heap.size, 1, none⟩ = some (.int .i64 d) := below_cell2 hcall (by first | assumption | (simp; done) | (simp [go_sem]; done) | simp [*]); have q3 : w'.cell? ⟨w.heap.size + 1, 0, none⟩ = some (.int .i64 y2) := below_cell2 hcall (by first | assumption | (simp; done) | (simp [go_sem]; done) | simp [*]); have q4 : w'.cell? ⟨w.heap.size + 1, 1, none⟩ = some (.int .i64 d2) := below_cell2 hcall (by first | assumption | (simp; done) | (simp [go_sem]; done) | simp [*]); clear hcall))
    go_ret2
    exact ⟨rfl, hbw⟩
  | true =>
  cases h2 : dateB (y2, d2) with
  | false =>
    have e0 : alikeB (y, d) (y2, d2) yr = false := by unfold alikeB; rw [h1, h2]; rfl
    rw [e0, alikeR_no e0]
    clear e0
    rw [h1] at HA0
    rw [h2] at HB0
    have HA := Lib.hid HA0
    have HB := Lib.hid HB0
    clear HA0 HB0 HI0 h1 h2
    go_enter Try.func43, Try.ntmps43
    go_wp2_with (first | (go_at_call_of 52 (Value.int IntKind.i64 y); refine (HA.out _).mono ?_; rintro e w' ⟨rfl, hcall⟩; have hbw : Below w.heap.size w w' := (by first | exact Below.trans (by assumption) (Below.mono hcall (Below.size (by assumption))) | exact Below.trans (Below.drew (by assumption)) (Below.mono hcall (Below.size (Below.drew (by assumption)))) | exact HW0.out.trans (hcall.mono (by simp <;> omega)) | exact HW0.out.drew.trans (hcall.mono (by simp <;> omega))); have q1 : w'.cell? ⟨w.heap.size, 0, none⟩ = some (.int .i64 y) := below_cell2 hcall (by first | assumption | (simp; done) | (simp [go_sem]; done) | simp [*]); have q2 : w'.cell? ⟨w.heap.size, 1, none⟩ = some (.int .i64 d) := below_cell2 hcall (by first | assumption | (simp; done) | (simp [go_sem]; done) | simp [*]); have q3 : w'.cell? ⟨w.heap.size + 1, 0, none⟩ = some (.int .i64 y2) := below_cell2 hcall (by first | assumption | (simp; done) | (simp [go_sem]; done) | simp [*]); have q4 : w'.cell? ⟨w.heap.size + 1, 1, none⟩ = some (.int .i64 d2) := below_cell2 hcall (by first | assumption | (simp; done) | (simp [go_sem]; done) | simp [*]); clear hcall) | (go_at_call_of 52 (Value.int IntKind.i64 y2); refine (HB.out _).mono ?_; rintro e w' ⟨rfl, hcall⟩; have hbw : Below w.heap.size w w' := (by first | exact Below.trans (by assumption) (Below.mono hcall (Below.size (by assumption))) | exact Below.trans (Below.drew (by assumption)) (Below.mono hcall (Below.size (Below.drew (by assumption)))) | exact HW0.out.trans (hcall.mono (by simp <;> omega)) | exact HW0.out.drew.trans (hcall.mono (by simp <;> omega))); have q1 : w'.cell? ⟨w.heap.size, 0, none⟩ = some (.int .i64 y) := below_cell2 hcall (by first | assumption | (simp; done) | (simp [go_sem]; done) | simp [*]); have q2 : w'.cell? ⟨w.heap.size, 1, none⟩ = some (.int .i64 d) := below_cell2 hcall (by first | assumption | (simp; done) | (simp [go_sem]; done) | simp [*]); have q3 : w'.cell? ⟨w.heap.size + 1, 0, none⟩ = some (.int .i64 y2) := below_cell2 hcall (by first | assumption | (simp; done) | (simp [go_sem]; done) | simp [*]); have q4 : w'.cell? ⟨w.heap.size + 1, 1, none⟩ = some (.int .i64 d2) := below_cell2 hcall (by first | assumption | (simp; done) | (simp [go_sem]; done) | simp [*]); clear hcall))
    go_ret2
    exact ⟨rfl, hbw⟩
  | true =>
  cases h3 : inB yr 0 3000 with
  | false =>
    have e0 : alikeB (y, d) (y2, d2) yr = false := by unfold alikeB; rw [h1, h2, h3]; rfl
    rw [e0, alikeR_no e0]
    clear e0
    rw [h1] at HA0
    rw [h2] at HB0
    rw [h3] at HI0
    have HA := Lib.hid HA0
    have HB := Lib.hid HB0
    have HI := Lib.hid HI0
    clear HA0 HB0 HI0 h1 h2 h3
    go_enter Try.func43, Try.ntmps43
    go_wp2_with (first | (go_at_call_of 52 (Value.int IntKind.i64 y); refine (HA.out _).mono ?_; rintro e w' ⟨rfl, hcall⟩; have hbw : Below w.heap.size w w' := (by first | exact Below.trans (by assumption) (Below.mono hcall (Below.size (by assumption))) | exact Below.trans (Below.drew (by assumption)) (Below.mono hcall (Below.size (Below.drew (by assumption)))) | exact HW0.out.trans (hcall.mono (by simp <;> omega)) | exact HW0.out.drew.trans (hcall.mono (by simp <;> omega))); have q1 : w'.cell? ⟨w.heap.size, 0, none⟩ = some (.int .i64 y) := below_cell2 hcall (by first | assumption | (simp; done) | (simp [go_sem]; done) | simp [*]); have q2 : w'.cell? ⟨w.heap.size, 1, none⟩ = some (.int .i64 d) := below_cell2 hcall (by first | assumption | (simp; done) | (simp [go_sem]; done) | simp [*]); have q3 : w'.cell? ⟨w.heap.size + 1, 0, none⟩ = some (.int .i64 y2) := below_cell2 hcall (by first | assumption | (simp; done) | (simp [go_sem]; done) | simp [*]); have q4 : w'.cell? ⟨w.heap.size + 1, 1, none⟩ = some (.int .i64 d2) := below_cell2 hcall (by first | assumption | (simp; done) | (simp [go_sem]; done) | simp [*]); clear hcall) | (go_at_call_of 52 (Value.int IntKind.i64 y2); refine (HB.out _).mono ?_; rintro e w' ⟨rfl, hcall⟩; have hbw : Below w.heap.size w w' := (by first | exact Below.trans (by assumption) (Below.mono hcall (Below.size (by assumption))) | exact Below.trans (Below.drew (by assumption)) (Below.mono hcall (Below.size (Below.drew (by assumption)))) | exact HW0.out.trans (hcall.mono (by simp <;> omega)) | exact HW0.out.drew.trans (hcall.mono (by simp <;> omega))); have q1 : w'.cell? ⟨w.heap.size, 0, none⟩ = some (.int .i64 y) := below_cell2 hcall (by first | assumption | (simp; done) | (simp [go_sem]; done) | simp [*]); have q2 : w'.cell? ⟨w.heap.size, 1, none⟩ = some (.int .i64 d) := below_cell2 hcall (by first | assumption | (simp; done) | (simp [go_sem]; done) | simp [*]); have q3 : w'.cell? ⟨w.heap.size + 1, 0, none⟩ = some (.int .i64 y2) := below_cell2 hcall (by first | assumption | (simp; done) | (simp [go_sem]; done) | simp [*]); have q4 : w'.cell? ⟨w.heap.size + 1, 1, none⟩ = some (.int .i64 d2) := below_cell2 hcall (by first | assumption | (simp; done) | (simp [go_sem]; done) | simp [*]); clear hcall) | (go_at_call 65; refine (HI.out _).mono ?_; rintro e w' ⟨rfl, rfl⟩))
    go_ret2
    exact ⟨rfl, hbw⟩
  | true =>
  by_cases h4 : y < yr
  · by_cases h5 : y2 < yr
    · have e0 : alikeB (y, d) (y2, d2) yr = true := by unfold alikeB; rw [h1, h2, h3]; simp only; rw [decide_eq_true h4, decide_eq_true h5]; rfl
      have e1 : alikeR (y, d) (y2, d2) yr = alikeN (y, d) (y2, d2) yr 365 := by unfold alikeR; rw [e0]; rfl
      rw [e0, e1]
      clear e0 e1
      have h3' := inB_iff.1 h3
      have hy1 := dateB_iff.1 h1
      have hy2 := dateB_iff.1 h2
      simp only at hy1 hy2
      have HK0 := Lib.hid (fun (k : Nat) (hk : k < 365) (W : World) => biAge_any y d yr ((k : Int) + 1) W h1 (dateB_iff.2 ⟨h3', by simp only; omega⟩))
      have HJ0 := Lib.hid (fun (k : Nat) (hk : k < 365) (W : World) => biAge_any y2 d2 yr ((k : Int) + 1) W h2 (dateB_iff.2 ⟨h3', by simp only; omega⟩))
      have n4 : ¬ yr ≤ y := by omega
      have n5 : ¬ yr ≤ y2 := by omega
      rw [h1] at HA0
      rw [h2] at HB0
      rw [h3] at HI0
      have HA := Lib.hid HA0
      have HB := Lib.hid HB0
      have HI := Lib.hid HI0
      clear HA0 HB0 HI0 h1 h2 h3
      go_enter Try.func43, Try.ntmps43
      go_wp2_with (first | (go_at_call_of 52 (Value.int IntKind.i64 y); refine (HA.out _).mono ?_; rintro e w' ⟨rfl, hcall⟩; have hbw : Below w.heap.size w w' := (by first | exact Below.trans (by assumption) (Below.mono hcall (Below.size (by assumption))) | exact Below.trans (Below.drew (by assumption)) (Below.mono hcall (Below.size (Below.drew (by assumption)))) | exact HW0.out.trans (hcall.mono (by simp <;> omega)) | exact HW0.out.drew.trans (hcall.mono (by simp <;> omega))); have q1 : w'.cell? ⟨w.heap.size, 0, none⟩ = some (.int .i64 y) := below_cell2 hcall (by first | assumption | (simp; done) | (simp [go_sem]; done) | simp [*]); have q2 : w'.cell? ⟨w.heap.size, 1, none⟩ = some (.int .i64 d) := below_cell2 hcall (by first | assumption | (simp; done) | (simp [go_sem]; done) | simp [*]); have q3 : w'.cell? ⟨w.heap.size + 1, 0, none⟩ = some (.int .i64 y2) := below_cell2 hcall (by first | assumption | (simp; done) | (simp [go_sem]; done) | simp [*]); have q4 : w'.cell? ⟨w.heap.size + 1, 1, none⟩ = some (.int .i64 d2) := below_cell2 hcall (by first | assumption | (simp; done) | (simp [go_sem]; done) | simp [*]); clear hcall) | (go_at_call_of 52 (Value.int IntKind.i64 y2); refine (HB.out _).mono ?_; rintro e w' ⟨rfl, hcall⟩; have hbw : Below w.heap.size w w' := (by first | exact Below.trans (by assumption) (Below.mono hcall (Below.size (by assumption))) | exact Below.trans (Below.drew (by assumption)) (Below.mono hcall (Below.size (Below.drew (by assumption)))) | exact HW0.out.trans (hcall.mono (by simp <;> omega)) | exact HW0.out.drew.trans (hcall.mono (by simp <;> omega))); have q1 : w'.cell? ⟨w.heap.size, 0, none⟩ = some (.int .i64 y) := below_cell2 hcall (by first | assumption | (simp; done) | (simp [go_sem]; done) | simp [*]); have q2 : w'.cell? ⟨w.heap.size, 1, none⟩ = some (.int .i64 d) := below_cell2 hcall (by first | assumption | (simp; done) | (simp [go_sem]; done) | simp [*]); have q3 : w'.cell? ⟨w.heap.size + 1, 0, none⟩ = some (.int .i64 y2) := below_cell2 hcall (by first | assumption | (simp; done) | (simp [go_sem]; done) | simp [*]); have q4 : w'.cell? ⟨w.heap.size + 1, 1, none⟩ = some (.int .i64 d2) := below_cell2 hcall (by first | assumption | (simp; done) | (simp [go_sem]; done) | simp [*]); clear hcall) | (go_at_call 65; refine (HI.out _).mono ?_; rintro e w' ⟨rfl, rfl⟩))
      go_loopw [8, 9] (fun s v wr => ∃ k : Nat, k ≤ 365 ∧ v = .int .i64 ((k : Int) + 1) ∧ s = .int .i64 (alikeN (y, d) (y2, d2) yr k) ∧ Below w.heap.size w wr ∧ wr.cell? ⟨w.heap.size, 0, none⟩ = some (.int .i64 y) ∧ wr.cell? ⟨w.heap.size, 1, none⟩ = some (.int .i64 d) ∧ wr.cell? ⟨w.heap.size + 1, 0, none⟩ = some (.int .i64 y2) ∧ wr.cell? ⟨w.heap.size + 1, 1, none⟩ = some (.int .i64 d2)) (fun _ v _ => 366 - (intOf v).toNat)
      case atStart => exact ⟨0, Nat.zero_le _, rfl, rfl, hbw, q1, q2, q3, q4⟩
      case round =>
        clear hbw q1  q2  q3  q4
        obtain ⟨k, hk, rfl, rfl, hb, q1, q2, q3, q4⟩ := hrel
        have hsz := hb.size
        by_cases hlt : k < 365
        · have hs := alikeN_bounds (y, d) (y2, d2) yr k
          have HK' := Lib.hid (HK0.out k hlt)
          have HJ' := Lib.hid (HJ0.out k hlt)
          have HW1 := Lib.hid (hb.alloc hsz (.cells #[.int .i64 yr, .int .i64 ((k : Int) + 1)] 34))
          have hle : (k : Int) + 1 ≤ 365 := by omega
          have HE := Lib.hid (show alikeN (y, d) (y2, d2) yr (k + 1) = alikeN (y, d) (y2, d2) yr k + (if ageD (y, d) (yr, (k : Int) + 1) = ageD (y2, d2) (yr, (k : Int) + 1) then 1 else 0) from rfl)
          generalize ageD (y, d) (yr, (k : Int) + 1) = a1 at HK' HE
          generalize ageD (y2, d2) (yr, (k : Int) + 1) = a2 at HJ' HE
          generalize alikeN (y, d) (y2, d2) yr k = s at hs HE
          have x1 := cell_above q1 (.cells #[.int .i64 yr, .int .i64 ((k : Int) + 1)] 34)
          have x2 := cell_above q2 (.cells #[.int .i64 yr, .int .i64 ((k : Int) + 1)] 34)
          have x3 := cell_above q3 (.cells #[.int .i64 yr, .int .i64 ((k : Int) + 1)] 34)
          have x4 := cell_above q4 (.cells #[.int .i64 yr, .int .i64 ((k : Int) + 1)] 34)
          have x5 : (wr.alloc (.cells #[.int .i64 yr, .int .i64 ((k : Int) + 1)] 34)).cell? ⟨wr.heap.size, 0, none⟩ = some (.int .i64 yr) := by simp [go_sem]
          have x6 : (wr.alloc (.cells #[.int .i64 yr, .int .i64 ((k : Int) + 1)] 34)).cell? ⟨wr.heap.size, 1, none⟩ = some (.int .i64 ((k : Int) + 1)) := by simp [go_sem]
          have hbx := HW1.out

          by_cases he : a1 = a2
          · rw [if_pos he] at HE
            clear q1 q2 q3 q4 hb HW1
            go_wp2_with fail
            generalize wr.alloc (.cells #[.int .i64 yr, .int .i64 ((k : Int) + 1)] 34) = wq at hbx x1 x2 x3 x4 x5 x6 ⊢
            generalize wr.heap.size = g at x5 x6 ⊢

            go_region_held3 (fun w' => Below w.heap.size w w' ∧ w'.cell? ⟨w.heap.size, 0, none⟩ = some (.int .i64 y) ∧ w'.cell? ⟨w.heap.size, 1, none⟩ = some (.int .i64 d) ∧ w'.cell? ⟨w.heap.size + 1, 0, none⟩ = some (.int .i64 y2) ∧ w'.cell? ⟨w.heap.size + 1, 1, none⟩ = some (.int .i64 d2) ∧ w'.cell? ⟨g, 0, none⟩ = some (.int .i64 yr) ∧ w'.cell? ⟨g, 1, none⟩ = some (.int .i64 ((k : Int) + 1)))
              (first
                | exact ⟨hbx.drew, x1, x2, x3, x4, x5, x6⟩
                | (exact ⟨Below.drew (by assumption), by first | assumption | simp [*], by first | assumption | simp [*], by first | assumption | simp [*], by first | assumption | simp [*], by first | assumption | simp [*], by first | assumption | simp [*]⟩)
                | (go_split_ands
                   refine ⟨?_, ?_, ?_, ?_, ?_, ?_, ?_⟩
                   · exact Below.trans (by assumption) (Below.mono hcall (Below.size (by assumption)))
                   · exact below_cell2 hcall (by assumption)
                   · exact below_cell2 hcall (by assumption)
                   · exact below_cell2 hcall (by assumption)
                   · exact below_cell2 hcall (by assumption)
                   · exact below_cell2 hcall (by assumption)
                   · exact below_cell2 hcall (by assumption)))
              (first | (go_at_call_of 49 (Value.int IntKind.i64 y); refine (HK'.out _).mono ?_; rintro e w' ⟨rfl, hcall⟩) | (go_at_call_of 49 (Value.int IntKind.i64 y2); refine (HJ'.out _).mono ?_; rintro e w' ⟨rfl, hcall⟩))
            all_goals
              obtain ⟨hbw, q1', q2', q3', q4', -⟩ := ‹Below w.heap.size w _ ∧ _›
            go_wp2_with fail
            go_roundw
            case rel => exact ⟨k + 1, by omega, by go_num, (by first | (rw [HE.out]; done) | (rw [HE.out]; go_num; done) | (rw [HE.out, Int.add_zero]; done)), hbw, q1', q2', q3', q4'⟩
            case measure => simp [intOf]; omega
          · rw [if_neg he] at HE
            clear q1 q2 q3 q4 hb HW1
            go_wp2_with fail
            generalize wr.alloc (.cells #[.int .i64 yr, .int .i64 ((k : Int) + 1)] 34) = wq at hbx x1 x2 x3 x4 x5 x6 ⊢
            generalize wr.heap.size = g at x5 x6 ⊢

            go_region_held3 (fun w' => Below w.heap.size w w' ∧ w'.cell? ⟨w.heap.size, 0, none⟩ = some (.int .i64 y) ∧ w'.cell? ⟨w.heap.size, 1, none⟩ = some (.int .i64 d) ∧ w'.cell? ⟨w.heap.size + 1, 0, none⟩ = some (.int .i64 y2) ∧ w'.cell? ⟨w.heap.size + 1, 1, none⟩ = some (.int .i64 d2) ∧ w'.cell? ⟨g, 0, none⟩ = some (.int .i64 yr) ∧ w'.cell? ⟨g, 1, none⟩ = some (.int .i64 ((k : Int) + 1)))
              (first
                | exact ⟨hbx.drew, x1, x2, x3, x4, x5, x6⟩
                | (exact ⟨Below.drew (by assumption), by first | assumption | simp [*], by first | assumption | simp [*], by first | assumption | simp [*], by first | assumption | simp [*], by first | assumption | simp [*], by first | assumption | simp [*]⟩)
                | (go_split_ands
                   refine ⟨?_, ?_, ?_, ?_, ?_, ?_, ?_⟩
                   · exact Below.trans (by assumption) (Below.mono hcall (Below.size (by assumption)))
                   · exact below_cell2 hcall (by assumption)
                   · exact below_cell2 hcall (by assumption)
                   · exact below_cell2 hcall (by assumption)
                   · exact below_cell2 hcall (by assumption)
                   · exact below_cell2 hcall (by assumption)
                   · exact below_cell2 hcall (by assumption)))
              (first | (go_at_call_of 49 (Value.int IntKind.i64 y); refine (HK'.out _).mono ?_; rintro e w' ⟨rfl, hcall⟩) | (go_at_call_of 49 (Value.int IntKind.i64 y2); refine (HJ'.out _).mono ?_; rintro e w' ⟨rfl, hcall⟩))
            all_goals
              obtain ⟨hbw, q1', q2', q3', q4', -⟩ := ‹Below w.heap.size w _ ∧ _›
            go_wp2_with fail
            go_roundw
            case rel => exact ⟨k + 1, by omega, by go_num, (by first | (rw [HE.out]; done) | (rw [HE.out]; go_num; done) | (rw [HE.out, Int.add_zero]; done)), hbw, q1', q2', q3', q4'⟩
            case measure => simp [intOf]; omega
        · have hkn : k = 365 := by omega
          subst hkn
          go_wp2_with fail
          go_ret2
          exact ⟨rfl, hb⟩
    · have e0 : alikeB (y, d) (y2, d2) yr = false := by unfold alikeB; rw [decide_eq_false h5, Bool.and_false]
      rw [e0, alikeR_no e0]
      clear e0
      have n4 : ¬ yr ≤ y := by omega
      have n5 : yr ≤ y2 := by omega
      rw [h1] at HA0
      rw [h2] at HB0
      rw [h3] at HI0
      have HA := Lib.hid HA0
      have HB := Lib.hid HB0
      have HI := Lib.hid HI0
      clear HA0 HB0 HI0 h1 h2 h3
      go_enter Try.func43, Try.ntmps43
      go_wp2_with (first | (go_at_call_of 52 (Value.int IntKind.i64 y); refine (HA.out _).mono ?_; rintro e w' ⟨rfl, hcall⟩; have hbw : Below w.heap.size w w' := (by first | exact Below.trans (by assumption) (Below.mono hcall (Below.size (by assumption))) | exact Below.trans (Below.drew (by assumption)) (Below.mono hcall (Below.size (Below.drew (by assumption)))) | exact HW0.out.trans (hcall.mono (by simp <;> omega)) | exact HW0.out.drew.trans (hcall.mono (by simp <;> omega))); have q1 : w'.cell? ⟨w.heap.size, 0, none⟩ = some (.int .i64 y) := below_cell2 hcall (by first | assumption | (simp; done) | (simp [go_sem]; done) | simp [*]); have q2 : w'.cell? ⟨w.heap.size, 1, none⟩ = some (.int .i64 d) := below_cell2 hcall (by first | assumption | (simp; done) | (simp [go_sem]; done) | simp [*]); have q3 : w'.cell? ⟨w.heap.size + 1, 0, none⟩ = some (.int .i64 y2) := below_cell2 hcall (by first | assumption | (simp; done) | (simp [go_sem]; done) | simp [*]); have q4 : w'.cell? ⟨w.heap.size + 1, 1, none⟩ = some (.int .i64 d2) := below_cell2 hcall (by first | assumption | (simp; done) | (simp [go_sem]; done) | simp [*]); clear hcall) | (go_at_call_of 52 (Value.int IntKind.i64 y2); refine (HB.out _).mono ?_; rintro e w' ⟨rfl, hcall⟩; have hbw : Below w.heap.size w w' := (by first | exact Below.trans (by assumption) (Below.mono hcall (Below.size (by assumption))) | exact Below.trans (Below.drew (by assumption)) (Below.mono hcall (Below.size (Below.drew (by assumption)))) | exact HW0.out.trans (hcall.mono (by simp <;> omega)) | exact HW0.out.drew.trans (hcall.mono (by simp <;> omega))); have q1 : w'.cell? ⟨w.heap.size, 0, none⟩ = some (.int .i64 y) := below_cell2 hcall (by first | assumption | (simp; done) | (simp [go_sem]; done) | simp [*]); have q2 : w'.cell? ⟨w.heap.size, 1, none⟩ = some (.int .i64 d) := below_cell2 hcall (by first | assumption | (simp; done) | (simp [go_sem]; done) | simp [*]); have q3 : w'.cell? ⟨w.heap.size + 1, 0, none⟩ = some (.int .i64 y2) := below_cell2 hcall (by first | assumption | (simp; done) | (simp [go_sem]; done) | simp [*]); have q4 : w'.cell? ⟨w.heap.size + 1, 1, none⟩ = some (.int .i64 d2) := below_cell2 hcall (by first | assumption | (simp; done) | (simp [go_sem]; done) | simp [*]); clear hcall) | (go_at_call 65; refine (HI.out _).mono ?_; rintro e w' ⟨rfl, rfl⟩))
      go_ret2
      exact ⟨rfl, hbw⟩
  · have e0 : alikeB (y, d) (y2, d2) yr = false := by unfold alikeB; rw [decide_eq_false h4, Bool.and_false, Bool.false_and]
    rw [e0, alikeR_no e0]
    clear e0
    have n4 : yr ≤ y := by omega
    rw [h1] at HA0
    rw [h2] at HB0
    rw [h3] at HI0
    have HA := Lib.hid HA0
    have HB := Lib.hid HB0
    have HI := Lib.hid HI0
    clear HA0 HB0 HI0 h1 h2 h3
    go_enter Try.func43, Try.ntmps43
    go_wp2_with (first | (go_at_call_of 52 (Value.int IntKind.i64 y); refine (HA.out _).mono ?_; rintro e w' ⟨rfl, hcall⟩; have hbw : Below w.heap.size w w' := (by first | exact Below.trans (by assumption) (Below.mono hcall (Below.size (by assumption))) | exact Below.trans (Below.drew (by assumption)) (Below.mono hcall (Below.size (Below.drew (by assumption)))) | exact HW0.out.trans (hcall.mono (by simp <;> omega)) | exact HW0.out.drew.trans (hcall.mono (by simp <;> omega))); have q1 : w'.cell? ⟨w.heap.size, 0, none⟩ = some (.int .i64 y) := below_cell2 hcall (by first | assumption | (simp; done) | (simp [go_sem]; done) | simp [*]); have q2 : w'.cell? ⟨w.heap.size, 1, none⟩ = some (.int .i64 d) := below_cell2 hcall (by first | assumption | (simp; done) | (simp [go_sem]; done) | simp [*]); have q3 : w'.cell? ⟨w.heap.size + 1, 0, none⟩ = some (.int .i64 y2) := below_cell2 hcall (by first | assumption | (simp; done) | (simp [go_sem]; done) | simp [*]); have q4 : w'.cell? ⟨w.heap.size + 1, 1, none⟩ = some (.int .i64 d2) := below_cell2 hcall (by first | assumption | (simp; done) | (simp [go_sem]; done) | simp [*]); clear hcall) | (go_at_call_of 52 (Value.int IntKind.i64 y2); refine (HB.out _).mono ?_; rintro e w' ⟨rfl, hcall⟩; have hbw : Below w.heap.size w w' := (by first | exact Below.trans (by assumption) (Below.mono hcall (Below.size (by assumption))) | exact Below.trans (Below.drew (by assumption)) (Below.mono hcall (Below.size (Below.drew (by assumption)))) | exact HW0.out.trans (hcall.mono (by simp <;> omega)) | exact HW0.out.drew.trans (hcall.mono (by simp <;> omega))); have q1 : w'.cell? ⟨w.heap.size, 0, none⟩ = some (.int .i64 y) := below_cell2 hcall (by first | assumption | (simp; done) | (simp [go_sem]; done) | simp [*]); have q2 : w'.cell? ⟨w.heap.size, 1, none⟩ = some (.int .i64 d) := below_cell2 hcall (by first | assumption | (simp; done) | (simp [go_sem]; done) | simp [*]); have q3 : w'.cell? ⟨w.heap.size + 1, 0, none⟩ = some (.int .i64 y2) := below_cell2 hcall (by first | assumption | (simp; done) | (simp [go_sem]; done) | simp [*]); have q4 : w'.cell? ⟨w.heap.size + 1, 1, none⟩ = some (.int .i64 d2) := below_cell2 hcall (by first | assumption | (simp; done) | (simp [go_sem]; done) | simp [*]); clear hcall) | (go_at_call 65; refine (HI.out _).mono ?_; rintro e w' ⟨rfl, rfl⟩))
    go_ret2
    exact ⟨rfl, hbw⟩
end Go.Proofs.Ytbhceokapbnhhaa
