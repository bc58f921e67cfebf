/- Birthdays between two dates, of the model. -/
import Derived.Test.YtbhceokapbnhhaaBi9
set_option linter.unusedVariables false
set_option linter.unusedSimpArgs false
namespace Go.Proofs.Ytbhceokapbnhhaa
open Go.RowKit

/-- The birthdays of the first k. -/
def betA (ds : List Dt) (f t : Dt) : Nat → Int
  | 0 => 0
  | k + 1 => betA ds f t k + (ageD (at2 ds k) t - ageD (at2 ds k) f)
def betB (ds : List Dt) (f t : Dt) : Bool := allBorn ds f && dateB t && decide (dys f ≤ dys t)
def betR (ds : List Dt) (f t : Dt) : Int := if betB ds f t = true then betA ds f t ds.length else 0
theorem betR_no {ds : List Dt} {f t : Dt} (h : betB ds f t = false) : betR ds f t = 0 := by unfold betR; rw [h]; rfl
theorem betA_bounds {ds : List Dt} {f t : Dt} (hg : birthsB ds = true) (hf : dateB f = true) (ht : dateB t = true) : ∀ k, k ≤ ds.length → -(6001 * (k : Int)) ≤ betA ds f t k ∧ betA ds f t k ≤ 6001 * (k : Int)
  | 0, _ => by simp [betA]
  | k + 1, hk => by
    have := betA_bounds hg hf ht k (by omega)
    have := ageD_bounds (birthsB_at hg k (by omega)) hf
    have := ageD_bounds (birthsB_at hg k (by omega)) ht
    unfold betA
    omega
set_option maxHeartbeats 8000000 in
set_option maxRecDepth 100000 in
theorem specBirthdaysBetween_any (b off n c : Nat) (ds : List Dt) (y d y2 d2 : Int) (w : World) (hl : ds.length = n) (hI : Dts w b off ds) (hbl : b < w.heap.size) :
    Calls Try.prog 27 #[.slice (some ⟨b, off, none⟩) n c, .agg #[.int .i64 y, .int .i64 d], .agg #[.int .i64 y2, .int .i64 d2]] w (RetIB (betR ds (y, d) (y2, d2)) (betB ds (y, d) (y2, d2)) w) := by
  have HW0 := Lib.hid (((Below.refl w.heap.size w).alloc (Nat.le_refl _) (.cells #[.int .i64 y, .int .i64 d] 34)).alloc (by simp) (.cells #[.int .i64 y2, .int .i64 d2] 34))
  have HL := Lib.hid hl
  have HB0 := fun (W : World) (h : Below w.heap.size w W) => biAll_any b off n c ds y d W hl (hI.kept h hbl) (by have := h.size; omega)
  have HA0 := fun w => biDate_any y2 d2 w
  cases h1 : allBorn ds (y, d) with
  | false =>
    have e0 : betB ds (y, d) (y2, d2) = false := by unfold betB; rw [h1]; rfl
    rw [e0, betR_no e0]
    clear e0
    rw [h1] at HB0
    have HB := Lib.hid HB0
    clear HA0 HB0 h1 hl
    go_enter Try.func27, Try.ntmps27
    go_wp2_with fail
    go_region_with (first | (go_at_call 48; refine (HB.out _ (by first | assumption | exact Below.drew (by assumption) | exact HW0.out | exact HW0.out.drew)).mono ?_; rintro e w' ⟨rfl, hcall⟩; have hbw : Below w.heap.size w w' := (by first | exact Below.trans (by assumption) (Below.mono hcall (Below.size (by assumption))) | exact Below.trans (Below.drew (by assumption)) (Below.mono hcall (Below.size (Below.drew (by assumption)))) | exact HW0.out.trans (hcall.mono (by simp <;> omega)) | exact HW0.out.drew.trans (hcall.mono (by simp <;> omega))); have q1 : w'.cell? ⟨w.heap.size, 0, none⟩ = some (.int .i64 y) := below_cell2 hcall (by first | assumption | (simp; done) | (simp [go_sem]; done) | simp [*]); have q2 : w'.cell? ⟨w.heap.size, 1, none⟩ = some (.int .i64 d) := below_cell2 hcall (by first | assumption | (simp; done) | (simp [go_sem]; done) | simp [*]); have q3 : w'.cell? ⟨w.heap.size + 1, 0, none⟩ = some (.int .i64 y2) := below_cell2 hcall (by first | assumption | (simp; done) | (simp [go_sem]; done) | simp [*]); have q4 : w'.cell? ⟨w.heap.size + 1, 1, none⟩ = some (.int .i64 d2) := below_cell2 hcall (by first | assumption | (simp; done) | (simp [go_sem]; done) | simp [*]); clear hcall))
    all_goals
      go_wp2_with fail
      go_ret2
      exact ⟨rfl, by assumption⟩
  | true =>
  cases h2 : dateB (y2, d2) with
  | false =>
    have e0 : betB ds (y, d) (y2, d2) = false := by unfold betB; rw [h1, h2]; rfl
    rw [e0, betR_no e0]
    clear e0
    rw [h1] at HB0
    have HB := Lib.hid HB0
    rw [h2] at HA0
    have HA := Lib.hid HA0
    clear HA0 HB0 h1 h2 hl
    go_enter Try.func27, Try.ntmps27
    go_wp2_with fail
    go_region_with (first | (go_at_call 48; refine (HB.out _ (by first | assumption | exact Below.drew (by assumption) | exact HW0.out | exact HW0.out.drew)).mono ?_; rintro e w' ⟨rfl, hcall⟩; have hbw : Below w.heap.size w w' := (by first | exact Below.trans (by assumption) (Below.mono hcall (Below.size (by assumption))) | exact Below.trans (Below.drew (by assumption)) (Below.mono hcall (Below.size (Below.drew (by assumption)))) | exact HW0.out.trans (hcall.mono (by simp <;> omega)) | exact HW0.out.drew.trans (hcall.mono (by simp <;> omega))); have q1 : w'.cell? ⟨w.heap.size, 0, none⟩ = some (.int .i64 y) := below_cell2 hcall (by first | assumption | (simp; done) | (simp [go_sem]; done) | simp [*]); have q2 : w'.cell? ⟨w.heap.size, 1, none⟩ = some (.int .i64 d) := below_cell2 hcall (by first | assumption | (simp; done) | (simp [go_sem]; done) | simp [*]); have q3 : w'.cell? ⟨w.heap.size + 1, 0, none⟩ = some (.int .i64 y2) := below_cell2 hcall (by first | assumption | (simp; done) | (simp [go_sem]; done) | simp [*]); have q4 : w'.cell? ⟨w.heap.size + 1, 1, none⟩ = some (.int .i64 d2) := below_cell2 hcall (by first | assumption | (simp; done) | (simp [go_sem]; done) | simp [*]); clear hcall) | (go_at_call_of 52 (Value.int IntKind.i64 y2); refine (HA.out _).mono ?_; rintro e w' ⟨rfl, hcall⟩; have hbw : Below w.heap.size w w' := (by first | exact Below.trans (by assumption) (Below.mono hcall (Below.size (by assumption))) | exact Below.trans (Below.drew (by assumption)) (Below.mono hcall (Below.size (Below.drew (by assumption)))) | exact HW0.out.trans (hcall.mono (by simp <;> omega)) | exact HW0.out.drew.trans (hcall.mono (by simp <;> omega))); have q1 : w'.cell? ⟨w.heap.size, 0, none⟩ = some (.int .i64 y) := below_cell2 hcall (by first | assumption | (simp; done) | (simp [go_sem]; done) | simp [*]); have q2 : w'.cell? ⟨w.heap.size, 1, none⟩ = some (.int .i64 d) := below_cell2 hcall (by first | assumption | (simp; done) | (simp [go_sem]; done) | simp [*]); have q3 : w'.cell? ⟨w.heap.size + 1, 0, none⟩ = some (.int .i64 y2) := below_cell2 hcall (by first | assumption | (simp; done) | (simp [go_sem]; done) | simp [*]); have q4 : w'.cell? ⟨w.heap.size + 1, 1, none⟩ = some (.int .i64 d2) := below_cell2 hcall (by first | assumption | (simp; done) | (simp [go_sem]; done) | simp [*]); clear hcall))
    all_goals
      go_wp2_with fail
      go_ret2
      exact ⟨rfl, by assumption⟩
  | true =>
    have hg := (allBorn_parts h1).1
    have hf := allBorn_date h1
    have hc1 := dys_bounds hf
    have hc2 := dys_bounds h2
    have HC := Lib.hid (fun w => biDays_any y d w hf)
    have HD := Lib.hid (fun w => biDays_any y2 d2 w h2)
    by_cases h3 : dys (y, d) ≤ dys (y2, d2)
    · have e0 : betB ds (y, d) (y2, d2) = true := by unfold betB; rw [h1, h2]; exact decide_eq_true h3
      have e1 : betR ds (y, d) (y2, d2) = betA ds (y, d) (y2, d2) n := by unfold betR; rw [e0, hl]; rfl
      rw [e0, e1]
      clear e0 e1
      have HS := Lib.hid (betA_bounds hg hf h2)
      have h8 := birthsB_len hg
      rw [hl] at h8
      have HK0 := Lib.hid (fun (j : Nat) (hj : j < n) (W : World) => biAge_any (at2 ds j).1 (at2 ds j).2 y d W (birthsB_at hg j (by omega)) hf)
      have HJ0 := Lib.hid (fun (j : Nat) (hj : j < n) (W : World) => biAge_any (at2 ds j).1 (at2 ds j).2 y2 d2 W (birthsB_at hg j (by omega)) h2)
      have HAB := Lib.hid (fun (j : Nat) (hj : j < n) => ageD_bounds (birthsB_at hg j (by omega)) hf)
      have HAC := Lib.hid (fun (j : Nat) (hj : j < n) => ageD_bounds (birthsB_at hg j (by omega)) h2)
      rw [h1] at HB0
      have HB := Lib.hid HB0
      rw [h2] at HA0
      have HA := Lib.hid HA0
      clear HA0 HB0 h1 h2 hl hg hf
      generalize dys (y, d) = p at HC hc1 h3
      generalize dys (y2, d2) = q at HD hc2 h3
      have hle : ¬ q < p := by omega
      go_enter Try.func27, Try.ntmps27
      go_wp2_with fail

      go_region_held3 (fun w' => Below w.heap.size w w' ∧ w'.cell? ⟨w.heap.size, 0, none⟩ = some (.int .i64 y) ∧ w'.cell? ⟨w.heap.size, 1, none⟩ = some (.int .i64 d) ∧ w'.cell? ⟨w.heap.size + 1, 0, none⟩ = some (.int .i64 y2) ∧ w'.cell? ⟨w.heap.size + 1, 1, none⟩ = some (.int .i64 d2))
        (first
          | exact ⟨HW0.out.drew, by simp [go_sem], by simp [go_sem], by simp [go_sem], by simp [go_sem]⟩
          | (exact ⟨Below.drew (by assumption), by first | assumption | simp [*], by first | assumption | simp [*], by first | assumption | simp [*], by first | assumption | simp [*]⟩)
          | (go_split_ands
             refine ⟨?_, ?_, ?_, ?_, ?_⟩
             · exact Below.trans (by assumption) (Below.mono hcall (Below.size (by assumption)))
             · exact below_cell2 hcall (by assumption)
             · exact below_cell2 hcall (by assumption)
             · exact below_cell2 hcall (by assumption)
             · exact below_cell2 hcall (by assumption)))
        (first | (go_at_call 48; refine (HB.out _ (by first | assumption | exact Below.drew (by assumption) | exact HW0.out | exact HW0.out.drew)).mono ?_; rintro e w' ⟨rfl, hcall⟩) | (go_at_call_of 52 (Value.int IntKind.i64 y2); refine (HA.out _).mono ?_; rintro e w' ⟨rfl, hcall⟩) | (go_at_call_of 53 (Value.int IntKind.i64 y); refine (HC.out _).mono ?_; rintro e w' ⟨rfl, hcall⟩) | (go_at_call_of 53 (Value.int IntKind.i64 y2); refine (HD.out _).mono ?_; rintro e w' ⟨rfl, hcall⟩))

      all_goals
        obtain ⟨hbw, q1, q2, q3, q4⟩ := ‹Below w.heap.size w _ ∧ _›
        clear HA HB HC HD
      go_wp2_with fail
      go_loopw [8, 29] (fun s v wr => ∃ k : Nat, k ≤ n ∧ v = .int .i64 k ∧ s = .int .i64 (betA ds (y, d) (y2, d2) k) ∧ Below w.heap.size w wr ∧ wr.cell? ⟨w.heap.size, 0, none⟩ = some (.int .i64 y) ∧ wr.cell? ⟨w.heap.size, 1, none⟩ = some (.int .i64 d) ∧ wr.cell? ⟨w.heap.size + 1, 0, none⟩ = some (.int .i64 y2) ∧ wr.cell? ⟨w.heap.size + 1, 1, none⟩ = some (.int .i64 d2)) (fun _ v _ => n - (intOf v).toNat)
      case atStart => exact ⟨0, Nat.zero_le _, rfl, rfl, hbw, q1, q2, q3, q4⟩
      case round =>
        clear hbw q1  q2  q3  q4
        obtain ⟨k, hk, rfl, rfl, hb, q1, q2, q3, q4⟩ := hrel
        have hsz := hb.size
        have v1 := cell_above q1
        have v2 := cell_above q2
        have v3 := cell_above q3
        have v4 := cell_above q4
        by_cases hlt : k < n
        · obtain ⟨p1, p2⟩ := (hI.kept hb hbl) k (by rw [HL.out]; exact hlt)
          have hs := HS.out k (by rw [HL.out]; omega)
          have ha := HAB.out k hlt
          have ha2 := HAC.out k hlt
          have HE := Lib.hid (show betA ds (y, d) (y2, d2) (k + 1) = betA ds (y, d) (y2, d2) k + (ageD (at2 ds k) (y2, d2) - ageD (at2 ds k) (y, d)) from rfl)
          have HK' := Lib.hid (HK0.out k hlt)
          have HJ' := Lib.hid (HJ0.out k hlt)
          rw [← pair_eta ds k] at HK' HJ'
          generalize ageD (at2 ds k) (y, d) = a1 at HK' ha HE
          generalize ageD (at2 ds k) (y2, d2) = a2 at HJ' ha2 HE
          generalize (at2 ds k).1 = ye at p1 HK' HJ'
          generalize (at2 ds k).2 = de at p2 HK' HJ'
          generalize betA ds (y, d) (y2, d2) k = s at hs HE
          have HW1 := Lib.hid (hb.alloc hsz (.cells #[.int .i64 ye, .int .i64 de] 34))
          go_wp2_with fail
          have hbx := HW1.out
          have x1 : (wr.alloc (.cells #[.int .i64 ye, .int .i64 de] 34)).cell? ⟨w.heap.size, 0, none⟩ = some (.int .i64 y) := by first | exact v1 _ | (simp [go_sem, *]; done)
          have x2 : (wr.alloc (.cells #[.int .i64 ye, .int .i64 de] 34)).cell? ⟨w.heap.size, 1, none⟩ = some (.int .i64 d) := by first | exact v2 _ | (simp [go_sem, *]; done)
          have x3 : (wr.alloc (.cells #[.int .i64 ye, .int .i64 de] 34)).cell? ⟨w.heap.size + 1, 0, none⟩ = some (.int .i64 y2) := by first | exact v3 _ | (simp [go_sem, *]; done)
          have x4 : (wr.alloc (.cells #[.int .i64 ye, .int .i64 de] 34)).cell? ⟨w.heap.size + 1, 1, none⟩ = some (.int .i64 d2) := by first | exact v4 _ | (simp [go_sem, *]; done)
          have x5 : (wr.alloc (.cells #[.int .i64 ye, .int .i64 de] 34)).cell? ⟨wr.heap.size, 0, none⟩ = some (.int .i64 ye) := by simp [go_sem]
          have x6 : (wr.alloc (.cells #[.int .i64 ye, .int .i64 de] 34)).cell? ⟨wr.heap.size, 1, none⟩ = some (.int .i64 de) := by simp [go_sem]
          clear HW1 v1 v2 v3 v4 q1 q2 q3 q4 p1 p2 hb hsz
          generalize (wr.alloc (.cells #[.int .i64 ye, .int .i64 de] 34)) = wq at hbx x1 x2 x3 x4 x5 x6 ⊢
          generalize wr.heap.size = g at x5 x6 ⊢

          go_region_held3 (fun w' => Below w.heap.size w w' ∧ w'.cell? ⟨w.heap.size, 0, none⟩ = some (.int .i64 y) ∧ w'.cell? ⟨w.heap.size, 1, none⟩ = some (.int .i64 d) ∧ w'.cell? ⟨w.heap.size + 1, 0, none⟩ = some (.int .i64 y2) ∧ w'.cell? ⟨w.heap.size + 1, 1, none⟩ = some (.int .i64 d2) ∧ w'.cell? ⟨g, 0, none⟩ = some (.int .i64 ye) ∧ w'.cell? ⟨g, 1, none⟩ = some (.int .i64 de))
            (first
              | exact ⟨hbx.drew, x1, x2, x3, x4, x5, x6⟩
              | (exact ⟨Below.drew (by assumption), by first | assumption | simp [*], by first | assumption | simp [*], by first | assumption | simp [*], by first | assumption | simp [*], by first | assumption | simp [*], by first | assumption | simp [*]⟩)
              | (go_split_ands
                 refine ⟨?_, ?_, ?_, ?_, ?_, ?_, ?_⟩
                 · exact Below.trans (by assumption) (Below.mono hcall (Below.size (by assumption)))
                 · exact below_cell2 hcall (by assumption)
                 · exact below_cell2 hcall (by assumption)
                 · exact below_cell2 hcall (by assumption)
                 · exact below_cell2 hcall (by assumption)
                 · exact below_cell2 hcall (by assumption)
                 · exact below_cell2 hcall (by assumption)))
            (first | (go_at_call_of 49 (Value.int IntKind.i64 y); refine (HK'.out _).mono ?_; rintro e w' ⟨rfl, hcall⟩) | (go_at_call_of 49 (Value.int IntKind.i64 y2); refine (HJ'.out _).mono ?_; rintro e w' ⟨rfl, hcall⟩))

          all_goals
            obtain ⟨hbw, q1', q2', q3', q4', -⟩ := ‹Below w.heap.size w _ ∧ _›
          go_wp2_with fail
          go_roundw
          case rel => exact ⟨k + 1, by omega, by go_num, by rw [HE.out, IntWalk.i64_in (a2 - a1) (by omega), IntWalk.i64_in (s + (a2 - a1)) (by omega)], hbw, q1', q2', q3', q4'⟩
          case measure => simp [intOf]; omega
        · have hkn : k = n := by omega
          subst hkn
          go_wp2_with fail
          go_ret2
          exact ⟨rfl, hb⟩
    · have e0 : betB ds (y, d) (y2, d2) = false := by unfold betB; rw [h1, h2]; exact decide_eq_false h3
      rw [e0, betR_no e0]
      clear e0
      rw [h1] at HB0
      have HB := Lib.hid HB0
      rw [h2] at HA0
      have HA := Lib.hid HA0
      clear HA0 HB0 h1 h2 hl hg hf
      generalize dys (y, d) = p at HC hc1 h3
      generalize dys (y2, d2) = q at HD hc2 h3
      have hle : q < p := by omega
      go_enter Try.func27, Try.ntmps27
      go_wp2_with fail

      go_region_held3 (fun w' => Below w.heap.size w w' ∧ w'.cell? ⟨w.heap.size, 0, none⟩ = some (.int .i64 y) ∧ w'.cell? ⟨w.heap.size, 1, none⟩ = some (.int .i64 d) ∧ w'.cell? ⟨w.heap.size + 1, 0, none⟩ = some (.int .i64 y2) ∧ w'.cell? ⟨w.heap.size + 1, 1, none⟩ = some (.int .i64 d2))
        (first
          | exact ⟨HW0.out.drew, by simp [go_sem], by simp [go_sem], by simp [go_sem], by simp [go_sem]⟩
          | (exact ⟨Below.drew (by assumption), by first | assumption | simp [*], by first | assumption | simp [*], by first | assumption | simp [*], by first | assumption | simp [*]⟩)
          | (go_split_ands
             refine ⟨?_, ?_, ?_, ?_, ?_⟩
             · exact Below.trans (by assumption) (Below.mono hcall (Below.size (by assumption)))
             · exact below_cell2 hcall (by assumption)
             · exact below_cell2 hcall (by assumption)
             · exact below_cell2 hcall (by assumption)
             · exact below_cell2 hcall (by assumption)))
        (first | (go_at_call 48; refine (HB.out _ (by first | assumption | exact Below.drew (by assumption) | exact HW0.out | exact HW0.out.drew)).mono ?_; rintro e w' ⟨rfl, hcall⟩) | (go_at_call_of 52 (Value.int IntKind.i64 y2); refine (HA.out _).mono ?_; rintro e w' ⟨rfl, hcall⟩) | (go_at_call_of 53 (Value.int IntKind.i64 y); refine (HC.out _).mono ?_; rintro e w' ⟨rfl, hcall⟩) | (go_at_call_of 53 (Value.int IntKind.i64 y2); refine (HD.out _).mono ?_; rintro e w' ⟨rfl, hcall⟩))

      all_goals
        obtain ⟨hbw, q1, q2, q3, q4⟩ := ‹Below w.heap.size w _ ∧ _›
      go_wp2_with fail
      go_ret2
      exact ⟨rfl, hbw⟩

end Go.Proofs.Ytbhceokapbnhhaa
