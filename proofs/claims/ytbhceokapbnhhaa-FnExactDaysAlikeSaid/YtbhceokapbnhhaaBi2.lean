/- Births, and who is born, of the model. -/
import Derived.Test.YtbhceokapbnhhaaBi1
import Derived.Deep.QuietTactic
import Derived.BigQuiet
set_option linter.unusedVariables false
set_option linter.unusedSimpArgs false
namespace Go.Proofs.Ytbhceokapbnhhaa
open Go.RowKit

theorem pair_eta (ds : List Dt) (k : Nat) : at2 ds k = ((at2 ds k).1, (at2 ds k).2) := rfl
set_option maxHeartbeats 1000000 in
theorem biGood_any (b off n c : Nat) (ds : List Dt) (w : World) (hl : ds.length = n) (hI : Dts w b off ds) (hbl : b < w.heap.size) :
    Calls Try.prog 45 #[.slice (some ⟨b, off, none⟩) n c] w (Ret (.bool (birthsB ds)) w) := by
  have HL := Lib.hid hl
  cases hL : inB n 1 8 with
  | false =>
    rw [show birthsB ds = false by unfold birthsB; rw [hl, hL]; rfl]
    clear hl
    go_enter Try.func45, Try.ntmps45
    go_wp2_with (go_at_call 65; refine (l1InD_any _ _ _ _).mono ?_; rintro e w' ⟨rfl, rfl⟩)
    go_ret
    exact ⟨rfl, Below.refl _ _⟩
  | true =>
    have h8 := inB_iff.1 hL
    have hB : Hid (birthsB ds = ds.all dateB) := Lib.hid (by unfold birthsB; rw [hl, hL]; rfl)
    clear hl
    go_enter Try.func45, Try.ntmps45
    go_wp2_with (go_at_call 65; refine (l1InD_any _ _ _ _).mono ?_; rintro e w' ⟨rfl, rfl⟩)
    go_loopw [11] (fun v wr => ∃ k : Nat, k ≤ n ∧ v = .int .i64 k ∧ Hid (∀ j, j < k → dateB (at2 ds j) = true) ∧ Below w.heap.size w wr) (fun v _ => n - (intOf v).toNat)
    case atStart => exact ⟨0, Nat.zero_le _, rfl, Lib.hid (fun j hj => absurd hj (by omega)), Below.refl _ _⟩
    case round =>
      obtain ⟨k, hk, rfl, HA, hb⟩ := hrel
      have hsz := hb.size
      by_cases hlt : k < n
      · obtain ⟨p1, p2⟩ := (hI.kept hb hbl) k (by rw [HL.out]; exact hlt)
        cases hz : dateB (at2 ds k) with
        | true =>
          have HZ := Lib.hid hz
          rw [pair_eta ds k] at hz
          have HK := fun w => biDate_any (at2 ds k).1 (at2 ds k).2 w
          rw [hz] at HK
          have HK' := Lib.hid HK
          clear HK hz
          generalize (at2 ds k).1 = y at p1 HK'
          generalize (at2 ds k).2 = d at p2 HK'
          go_wp2_with (go_at_call 52; refine (HK'.out _).mono ?_; rintro e w' ⟨rfl, hcall⟩)
          go_roundw
          case rel => exact ⟨k + 1, by omega, by go_num, Lib.hid (fun j hj => by rcases Nat.lt_succ_iff_lt_or_eq.1 hj with h | rfl; exact HA.out j h; exact HZ.out), (hb.alloc hsz _).trans (hcall.mono (by simp; omega))⟩
          case measure => simp [intOf]; omega
        | false =>
          have HF := Lib.hid (all_not (ds := ds) (t := dateB) k (by rw [HL.out]; exact hlt) hz)
          rw [pair_eta ds k] at hz
          have HK := fun w => biDate_any (at2 ds k).1 (at2 ds k).2 w
          rw [hz] at HK
          have HK' := Lib.hid HK
          clear HK hz
          generalize (at2 ds k).1 = y at p1 HK'
          generalize (at2 ds k).2 = d at p2 HK'
          go_wp2_with (go_at_call 52; refine (HK'.out _).mono ?_; rintro e w' ⟨rfl, hcall⟩)
          go_ret
          exact ⟨by rw [hB.out, HF.out]; rfl, (hb.alloc hsz _).trans (hcall.mono (by simp; omega))⟩
      · have HF := Lib.hid ((all_at (ds := ds) (t := dateB)).2 fun j hj => HA.out j (by rw [HL.out] at hj; omega))
        go_wp2_with fail
        go_ret
        exact ⟨by rw [hB.out, HF.out]; rfl, hb⟩

set_option maxHeartbeats 2000000 in
set_option maxRecDepth 100000 in
theorem biBorn_any (y d y2 d2 : Int) (w : World) : Calls Try.prog 75 #[.agg #[.int .i64 y, .int .i64 d], .agg #[.int .i64 y2, .int .i64 d2]] w (Ret (.bool (bornD (y, d) (y2, d2))) w) := by
  have HW0 := Lib.hid (((Below.refl w.heap.size w).alloc (Nat.le_refl _) (.cells #[.int .i64 y, .int .i64 d] 34)).alloc (by simp) (.cells #[.int .i64 y2, .int .i64 d2] 34))
  have HA0 := fun w => biDate_any y d w
  have HB0 := fun w => biDate_any y2 d2 w
  cases h1 : dateB (y, d) with
  | false =>
    rw [show bornD (y, d) (y2, d2) = false by unfold bornD; rw [h1]; rfl]
    rw [h1] at HA0
    have HA := Lib.hid HA0
    clear HA0 HB0 h1
    go_enter Try.func75, Try.ntmps75
    go_wp2_with fail
    go_region_with (first | (go_at_call_of 52 (Value.int IntKind.i64 y); refine (HA.out _).mono ?_; rintro e w' ⟨rfl, hcall⟩; have hbw : Below w.heap.size w w' := (by first | exact HW0.out.drew.trans (hcall.mono (by simp; omega)) | exact Below.trans (by assumption) (Below.mono hcall (Below.size (by assumption)))); have q1 : w'.cell? ⟨w.heap.size, 0, none⟩ = some (.int .i64 y) := below_cell2 hcall (by first | assumption | simp); have q2 : w'.cell? ⟨w.heap.size, 1, none⟩ = some (.int .i64 d) := below_cell2 hcall (by first | assumption | simp); have q3 : w'.cell? ⟨w.heap.size + 1, 0, none⟩ = some (.int .i64 y2) := below_cell2 hcall (by first | assumption | simp); have q4 : w'.cell? ⟨w.heap.size + 1, 1, none⟩ = some (.int .i64 d2) := below_cell2 hcall (by first | assumption | simp); clear hcall))
    all_goals
      go_wp2_with fail
      go_ret
      exact ⟨rfl, by assumption⟩
  | true =>
  cases h2 : dateB (y2, d2) with
  | false =>
    rw [show bornD (y, d) (y2, d2) = false by unfold bornD; rw [h1, h2]; rfl]
    rw [h1] at HA0
    rw [h2] at HB0
    have HA := Lib.hid HA0
    have HB := Lib.hid HB0
    clear HA0 HB0 h1 h2
    go_enter Try.func75, Try.ntmps75
    go_wp2_with fail
    go_region_with (first | (go_at_call_of 52 (Value.int IntKind.i64 y); refine (HA.out _).mono ?_; rintro e w' ⟨rfl, hcall⟩; have hbw : Below w.heap.size w w' := (by first | exact HW0.out.drew.trans (hcall.mono (by simp; omega)) | exact Below.trans (by assumption) (Below.mono hcall (Below.size (by assumption)))); have q1 : w'.cell? ⟨w.heap.size, 0, none⟩ = some (.int .i64 y) := below_cell2 hcall (by first | assumption | simp); have q2 : w'.cell? ⟨w.heap.size, 1, none⟩ = some (.int .i64 d) := below_cell2 hcall (by first | assumption | simp); have q3 : w'.cell? ⟨w.heap.size + 1, 0, none⟩ = some (.int .i64 y2) := below_cell2 hcall (by first | assumption | simp); have q4 : w'.cell? ⟨w.heap.size + 1, 1, none⟩ = some (.int .i64 d2) := below_cell2 hcall (by first | assumption | simp); clear hcall) | (go_at_call_of 52 (Value.int IntKind.i64 y2); refine (HB.out _).mono ?_; rintro e w' ⟨rfl, hcall⟩; have hbw : Below w.heap.size w w' := (by first | exact HW0.out.drew.trans (hcall.mono (by simp; omega)) | exact Below.trans (by assumption) (Below.mono hcall (Below.size (by assumption)))); have q1 : w'.cell? ⟨w.heap.size, 0, none⟩ = some (.int .i64 y) := below_cell2 hcall (by first | assumption | simp); have q2 : w'.cell? ⟨w.heap.size, 1, none⟩ = some (.int .i64 d) := below_cell2 hcall (by first | assumption | simp); have q3 : w'.cell? ⟨w.heap.size + 1, 0, none⟩ = some (.int .i64 y2) := below_cell2 hcall (by first | assumption | simp); have q4 : w'.cell? ⟨w.heap.size + 1, 1, none⟩ = some (.int .i64 d2) := below_cell2 hcall (by first | assumption | simp); clear hcall))
    all_goals
      go_wp2_with fail
      go_ret
      exact ⟨rfl, by assumption⟩
  | true =>
    have HC := Lib.hid (fun w => biDays_any y d w h1)
    have HD := Lib.hid (fun w => biDays_any y2 d2 w h2)
    have hb1 := dys_bounds h1
    have hb2 := dys_bounds h2
    rw [show bornD (y, d) (y2, d2) = decide (dys (y, d) ≤ dys (y2, d2)) by unfold bornD; rw [h1, h2]; rfl]
    rw [h1] at HA0
    rw [h2] at HB0
    have HA := Lib.hid HA0
    have HB := Lib.hid HB0
    clear HA0 HB0 h1 h2
    generalize dys (y, d) = p at HC hb1 ⊢
    generalize dys (y2, d2) = q at HD hb2 ⊢
    go_enter Try.func75, Try.ntmps75
    go_wp2_with fail
    go_region_with (first | (go_at_call_of 52 (Value.int IntKind.i64 y); refine (HA.out _).mono ?_; rintro e w' ⟨rfl, hcall⟩; have hbw : Below w.heap.size w w' := (by first | exact HW0.out.drew.trans (hcall.mono (by simp; omega)) | exact Below.trans (by assumption) (Below.mono hcall (Below.size (by assumption)))); have q1 : w'.cell? ⟨w.heap.size, 0, none⟩ = some (.int .i64 y) := below_cell2 hcall (by first | assumption | simp); have q2 : w'.cell? ⟨w.heap.size, 1, none⟩ = some (.int .i64 d) := below_cell2 hcall (by first | assumption | simp); have q3 : w'.cell? ⟨w.heap.size + 1, 0, none⟩ = some (.int .i64 y2) := below_cell2 hcall (by first | assumption | simp); have q4 : w'.cell? ⟨w.heap.size + 1, 1, none⟩ = some (.int .i64 d2) := below_cell2 hcall (by first | assumption | simp); clear hcall) | (go_at_call_of 52 (Value.int IntKind.i64 y2); refine (HB.out _).mono ?_; rintro e w' ⟨rfl, hcall⟩; have hbw : Below w.heap.size w w' := (by first | exact HW0.out.drew.trans (hcall.mono (by simp; omega)) | exact Below.trans (by assumption) (Below.mono hcall (Below.size (by assumption)))); have q1 : w'.cell? ⟨w.heap.size, 0, none⟩ = some (.int .i64 y) := below_cell2 hcall (by first | assumption | simp); have q2 : w'.cell? ⟨w.heap.size, 1, none⟩ = some (.int .i64 d) := below_cell2 hcall (by first | assumption | simp); have q3 : w'.cell? ⟨w.heap.size + 1, 0, none⟩ = some (.int .i64 y2) := below_cell2 hcall (by first | assumption | simp); have q4 : w'.cell? ⟨w.heap.size + 1, 1, none⟩ = some (.int .i64 d2) := below_cell2 hcall (by first | assumption | simp); clear hcall) | (go_at_call_of 53 (Value.int IntKind.i64 y); refine (HC.out _).mono ?_; rintro e w' ⟨rfl, hcall⟩; have hbw : Below w.heap.size w w' := (by first | exact HW0.out.drew.trans (hcall.mono (by simp; omega)) | exact Below.trans (by assumption) (Below.mono hcall (Below.size (by assumption)))); have q1 : w'.cell? ⟨w.heap.size, 0, none⟩ = some (.int .i64 y) := below_cell2 hcall (by first | assumption | simp); have q2 : w'.cell? ⟨w.heap.size, 1, none⟩ = some (.int .i64 d) := below_cell2 hcall (by first | assumption | simp); have q3 : w'.cell? ⟨w.heap.size + 1, 0, none⟩ = some (.int .i64 y2) := below_cell2 hcall (by first | assumption | simp); have q4 : w'.cell? ⟨w.heap.size + 1, 1, none⟩ = some (.int .i64 d2) := below_cell2 hcall (by first | assumption | simp); clear hcall) | (go_at_call_of 53 (Value.int IntKind.i64 y2); refine (HD.out _).mono ?_; rintro e w' ⟨rfl, hcall⟩; have hbw : Below w.heap.size w w' := (by first | exact HW0.out.drew.trans (hcall.mono (by simp; omega)) | exact Below.trans (by assumption) (Below.mono hcall (Below.size (by assumption)))); have q1 : w'.cell? ⟨w.heap.size, 0, none⟩ = some (.int .i64 y) := below_cell2 hcall (by first | assumption | simp); have q2 : w'.cell? ⟨w.heap.size, 1, none⟩ = some (.int .i64 d) := below_cell2 hcall (by first | assumption | simp); have q3 : w'.cell? ⟨w.heap.size + 1, 0, none⟩ = some (.int .i64 y2) := below_cell2 hcall (by first | assumption | simp); have q4 : w'.cell? ⟨w.heap.size + 1, 1, none⟩ = some (.int .i64 d2) := below_cell2 hcall (by first | assumption | simp); clear hcall))
    all_goals
      go_wp2_with fail
      go_ret
      exact ⟨rfl, by assumption⟩
end Go.Proofs.Ytbhceokapbnhhaa
