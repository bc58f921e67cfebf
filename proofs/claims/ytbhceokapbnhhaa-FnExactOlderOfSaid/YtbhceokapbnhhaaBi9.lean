/- All who are born, and sums of their ages, of the model. -/
import Derived.Test.YtbhceokapbnhhaaBi3
set_option linter.unusedVariables false
set_option linter.unusedSimpArgs false
namespace Go.Proofs.Ytbhceokapbnhhaa
open Go.RowKit

theorem allBorn_parts {ds : List Dt} {o : Dt} (h : allBorn ds o = true) : birthsB ds = true ∧ ∀ j, j < ds.length → bornD (at2 ds j) o = true := by
  unfold allBorn at h
  rw [Bool.and_eq_true] at h
  exact ⟨h.1, (all_at (t := fun b => bornD b o)).1 h.2⟩
theorem allBorn_date {ds : List Dt} {o : Dt} (h : allBorn ds o = true) : dateB o = true := by
  have hp := allBorn_parts h
  exact (bornD_parts (hp.2 0 (by have := birthsB_len hp.1; omega))).2.1
set_option maxHeartbeats 4000000 in
set_option maxRecDepth 100000 in
theorem biAll_any (b off n c : Nat) (ds : List Dt) (y d : Int) (w : World) (hl : ds.length = n) (hI : Dts w b off ds) (hbl : b < w.heap.size) :
    Calls Try.prog 48 #[.slice (some ⟨b, off, none⟩) n c, .agg #[.int .i64 y, .int .i64 d]] w (Ret (.bool (allBorn ds (y, d))) w) := by
  have HW0 := Lib.hid ((Below.refl w.heap.size w).alloc (Nat.le_refl _) (.cells #[.int .i64 y, .int .i64 d] 34))
  have HL := Lib.hid hl
  have HG0 := fun (W : World) (h : Dts W b off ds) (h2 : b < W.heap.size) => biGood_any b off n c ds W hl h h2
  have hI1 : ∀ A, Dts (w.alloc A) b off ds := fun A => hI.kept ((Below.refl w.heap.size w).alloc (Nat.le_refl _) A) hbl
  have hbl1 : ∀ A, b < (w.alloc A).heap.size := fun A => by simp <;> omega
  cases hg : birthsB ds with
  | false =>
    rw [show allBorn ds (y, d) = false by unfold allBorn; rw [hg]; rfl]
    rw [hg] at HG0
    have HG := Lib.hid HG0
    clear hl HG0 hg
    go_enter Try.func48, Try.ntmps48
    go_wp2_with (first | (go_at_call 45; refine (HG.out _ (hI1 _) (hbl1 _)).mono ?_; rintro e w' ⟨rfl, hcall⟩; have hbw : Below w.heap.size w w' := (by first | exact Below.trans (by assumption) (Below.mono hcall (Below.size (by assumption))) | exact Below.trans (Below.drew (by assumption)) (Below.mono hcall (Below.size (Below.drew (by assumption)))) | exact HW0.out.trans (hcall.mono (by simp <;> omega)) | exact HW0.out.drew.trans (hcall.mono (by simp <;> omega))); have q1 : w'.cell? ⟨w.heap.size, 0, none⟩ = some (.int .i64 y) := below_cell2 hcall (by first | assumption | (simp; done) | (simp [go_sem]; done) | simp [*]); have q2 : w'.cell? ⟨w.heap.size, 1, none⟩ = some (.int .i64 d) := below_cell2 hcall (by first | assumption | (simp; done) | (simp [go_sem]; done) | simp [*]); clear hcall))
    go_ret
    exact ⟨rfl, hbw⟩
  | true =>
    have h8 := birthsB_len hg
    rw [hl] at h8
    have hB : Hid (allBorn ds (y, d) = ds.all fun b => bornD b (y, d)) := Lib.hid (by unfold allBorn; rw [hg]; rfl)
    rw [hg] at HG0
    have HG := Lib.hid HG0
    clear hl HG0 hg
    go_enter Try.func48, Try.ntmps48
    go_wp2_with (first | (go_at_call 45; refine (HG.out _ (hI1 _) (hbl1 _)).mono ?_; rintro e w' ⟨rfl, hcall⟩; have hbw : Below w.heap.size w w' := (by first | exact Below.trans (by assumption) (Below.mono hcall (Below.size (by assumption))) | exact Below.trans (Below.drew (by assumption)) (Below.mono hcall (Below.size (Below.drew (by assumption)))) | exact HW0.out.trans (hcall.mono (by simp <;> omega)) | exact HW0.out.drew.trans (hcall.mono (by simp <;> omega))); have q1 : w'.cell? ⟨w.heap.size, 0, none⟩ = some (.int .i64 y) := below_cell2 hcall (by first | assumption | (simp; done) | (simp [go_sem]; done) | simp [*]); have q2 : w'.cell? ⟨w.heap.size, 1, none⟩ = some (.int .i64 d) := below_cell2 hcall (by first | assumption | (simp; done) | (simp [go_sem]; done) | simp [*]); clear hcall))
    go_loopw [12] (fun v wr => ∃ k : Nat, k ≤ n ∧ v = .int .i64 k ∧ Hid (∀ j, j < k → bornD (at2 ds j) (y, d) = true) ∧ Below w.heap.size w wr ∧ wr.cell? ⟨w.heap.size, 0, none⟩ = some (.int .i64 y) ∧ wr.cell? ⟨w.heap.size, 1, none⟩ = some (.int .i64 d)) (fun v _ => n - (intOf v).toNat)
    case atStart => exact ⟨0, Nat.zero_le _, rfl, Lib.hid (fun j hj => absurd hj (by omega)), hbw, q1, q2⟩
    case round =>
      clear hbw q1 q2
      obtain ⟨k, hk, rfl, HA, hb, q1, q2⟩ := hrel
      have hsz := hb.size
      have v1 := cell_above q1
      have v2 := cell_above q2
      by_cases hlt : k < n
      · obtain ⟨p1, p2⟩ := (hI.kept hb hbl) k (by rw [HL.out]; exact hlt)
        cases hz : bornD (at2 ds k) (y, d) with
        | true =>
          have HZ := Lib.hid hz
          rw [pair_eta ds k] at hz
          have HK := fun w => biBorn_any (at2 ds k).1 (at2 ds k).2 y d w
          rw [hz] at HK
          have HK' := Lib.hid HK
          clear HK hz
          generalize (at2 ds k).1 = ye at p1 HK'
          generalize (at2 ds k).2 = de at p2 HK'
          go_wp2_with (go_at_call 75; refine (HK'.out _).mono ?_; rintro e w' ⟨rfl, hcall⟩; have hbw : Below w.heap.size w w' := (by first | exact (hb.alloc hsz _).trans (hcall.mono (by simp <;> omega))); have q1' : w'.cell? ⟨w.heap.size, 0, none⟩ = some (.int .i64 y) := below_cell2 hcall (by first | assumption | (simp; done) | (simp [go_sem]; done) | simp [*]); have q2' : w'.cell? ⟨w.heap.size, 1, none⟩ = some (.int .i64 d) := below_cell2 hcall (by first | assumption | (simp; done) | (simp [go_sem]; done) | simp [*]))
          go_roundw
          case rel => exact ⟨k + 1, by omega, by go_num, Lib.hid (fun j hj => by rcases Nat.lt_succ_iff_lt_or_eq.1 hj with h | rfl; exact HA.out j h; exact HZ.out), hbw, q1', q2'⟩
          case measure => simp [intOf]; omega
        | false =>
          have HF := Lib.hid (all_not (ds := ds) (t := fun b => bornD b (y, d)) k (by rw [HL.out]; exact hlt) hz)
          rw [pair_eta ds k] at hz
          have HK := fun w => biBorn_any (at2 ds k).1 (at2 ds k).2 y d w
          rw [hz] at HK
          have HK' := Lib.hid HK
          clear HK hz
          generalize (at2 ds k).1 = ye at p1 HK'
          generalize (at2 ds k).2 = de at p2 HK'
          go_wp2_with (go_at_call 75; refine (HK'.out _).mono ?_; rintro e w' ⟨rfl, hcall⟩; have hbw : Below w.heap.size w w' := (by first | exact (hb.alloc hsz _).trans (hcall.mono (by simp <;> omega))); have q1' : w'.cell? ⟨w.heap.size, 0, none⟩ = some (.int .i64 y) := below_cell2 hcall (by first | assumption | (simp; done) | (simp [go_sem]; done) | simp [*]); have q2' : w'.cell? ⟨w.heap.size, 1, none⟩ = some (.int .i64 d) := below_cell2 hcall (by first | assumption | (simp; done) | (simp [go_sem]; done) | simp [*]))
          go_ret
          exact ⟨by rw [hB.out, HF.out]; rfl, hbw⟩
      · have HF := Lib.hid ((all_at (ds := ds) (t := fun b => bornD b (y, d))).2 fun j hj => HA.out j (by rw [HL.out] at hj; omega))
        go_wp2_with fail
        go_ret
        exact ⟨by rw [hB.out, HF.out]; rfl, hb⟩

/-- The sum of the ages of the first k. -/
def sumA (ds : List Dt) (o : Dt) : Nat → Int
  | 0 => 0
  | k + 1 => sumA ds o k + ageD (at2 ds k) o
theorem ageD_bounds {b o : Dt} (h : dateB b = true) (h2 : dateB o = true) : -3001 ≤ ageD b o ∧ ageD b o ≤ 3000 := by
  have h1 := dateB_iff.1 h
  have h3 := dateB_iff.1 h2
  unfold ageD
  split <;> omega
theorem sumA_bounds {ds : List Dt} {o : Dt} (hg : birthsB ds = true) (ho : dateB o = true) : ∀ k, k ≤ ds.length → -(3001 * (k : Int)) ≤ sumA ds o k ∧ sumA ds o k ≤ 3001 * (k : Int)
  | 0, _ => by simp [sumA]
  | k + 1, hk => by
    have := sumA_bounds hg ho k (by omega)
    have := ageD_bounds (birthsB_at hg k (by omega)) ho
    unfold sumA
    omega
set_option maxHeartbeats 4000000 in
set_option maxRecDepth 100000 in
theorem biSum_any (b off n c : Nat) (ds : List Dt) (y d : Int) (w : World) (hl : ds.length = n) (hI : Dts w b off ds) (hbl : b < w.heap.size) (hg : birthsB ds = true) (ho : dateB (y, d) = true) :
    Calls Try.prog 51 #[.slice (some ⟨b, off, none⟩) n c, .agg #[.int .i64 y, .int .i64 d]] w (Ret (.int .i64 (sumA ds (y, d) n)) w) := by
  have HW0 := Lib.hid ((Below.refl w.heap.size w).alloc (Nat.le_refl _) (.cells #[.int .i64 y, .int .i64 d] 34))
  have HL := Lib.hid hl
  have HS := Lib.hid (sumA_bounds hg ho)
  have h8 := birthsB_len hg
  rw [hl] at h8
  have HK0 := Lib.hid (fun (j : Nat) (hj : j < n) (W : World) => biAge_any (at2 ds j).1 (at2 ds j).2 y d W (birthsB_at hg j (by omega)) ho)
  have HAB := Lib.hid (fun (j : Nat) (hj : j < n) => ageD_bounds (birthsB_at hg j (by omega)) ho)
  clear hl hg ho
  go_enter Try.func51, Try.ntmps51
  go_wp2_with fail
  go_loopw [5, 10] (fun s v wr => ∃ k : Nat, k ≤ n ∧ v = .int .i64 k ∧ s = .int .i64 (sumA ds (y, d) k) ∧ Below w.heap.size w wr ∧ wr.cell? ⟨w.heap.size, 0, none⟩ = some (.int .i64 y) ∧ wr.cell? ⟨w.heap.size, 1, none⟩ = some (.int .i64 d)) (fun _ v _ => n - (intOf v).toNat)
  case atStart => exact ⟨0, Nat.zero_le _, rfl, rfl, HW0.out, by simp [go_sem], by simp [go_sem]⟩
  case round =>
    obtain ⟨k, hk, rfl, rfl, hb, q1, q2⟩ := hrel
    have hsz := hb.size
    have v1 := cell_above q1
    have v2 := cell_above q2
    by_cases hlt : k < n
    · obtain ⟨p1, p2⟩ := (hI.kept hb hbl) k (by rw [HL.out]; exact hlt)
      have hs := HS.out k (by rw [HL.out]; omega)
      have ha := HAB.out k hlt
      have HE := Lib.hid (show sumA ds (y, d) (k + 1) = sumA ds (y, d) k + ageD (at2 ds k) (y, d) from rfl)
      have HK' := Lib.hid (HK0.out k hlt)
      rw [← pair_eta ds k] at HK'
      generalize ageD (at2 ds k) (y, d) = a at HK' ha HE
      generalize (at2 ds k).1 = ye at p1 HK'
      generalize (at2 ds k).2 = de at p2 HK'
      generalize sumA ds (y, d) k = s at hs HE
      go_wp2_with (go_at_call 49; refine (HK'.out _).mono ?_; rintro e w' ⟨rfl, hcall⟩; have hbw : Below w.heap.size w w' := (by first | exact (hb.alloc hsz _).trans (hcall.mono (by simp <;> omega))); have q1' : w'.cell? ⟨w.heap.size, 0, none⟩ = some (.int .i64 y) := below_cell2 hcall (by first | assumption | (simp; done) | (simp [go_sem]; done) | simp [*]); have q2' : w'.cell? ⟨w.heap.size, 1, none⟩ = some (.int .i64 d) := below_cell2 hcall (by first | assumption | (simp; done) | (simp [go_sem]; done) | simp [*]))
      go_roundw
      case rel => exact ⟨k + 1, by omega, by go_num, by rw [HE.out], hbw, q1', q2'⟩
      case measure => simp [intOf]; omega
    · have hkn : k = n := by omega
      subst hkn
      go_wp2_with fail
      go_ret
      exact ⟨rfl, hb⟩

def sumOnR (ds : List Dt) (o : Dt) : Int := if allBorn ds o = true then sumA ds o ds.length else 0
set_option maxHeartbeats 4000000 in
theorem specSumOfAgesOn_any (b off n c : Nat) (ds : List Dt) (y d : Int) (w : World) (hl : ds.length = n) (hI : Dts w b off ds) (hbl : b < w.heap.size) :
    Calls Try.prog 25 #[.slice (some ⟨b, off, none⟩) n c, .agg #[.int .i64 y, .int .i64 d]] w (RetIB (sumOnR ds (y, d)) (allBorn ds (y, d)) w) := by
  have HW0 := Lib.hid ((Below.refl w.heap.size w).alloc (Nat.le_refl _) (.cells #[.int .i64 y, .int .i64 d] 34))
  have HB0 := fun (W : World) (h : Dts W b off ds) (h2 : b < W.heap.size) => biAll_any b off n c ds y d W hl h h2
  have hI1 : ∀ A, Dts (w.alloc A) b off ds := fun A => hI.kept ((Below.refl w.heap.size w).alloc (Nat.le_refl _) A) hbl
  have hbl1 : ∀ A, b < (w.alloc A).heap.size := fun A => by simp <;> omega
  cases h : allBorn ds (y, d) with
  | false =>
    rw [h] at HB0
    rw [show sumOnR ds (y, d) = 0 by unfold sumOnR; rw [h]; rfl]
    have HB := Lib.hid HB0
    clear HB0 h hl
    go_enter Try.func25, Try.ntmps25
    go_wp2_with (first | (go_at_call 48; refine (HB.out _ (hI1 _) (hbl1 _)).mono ?_; rintro e w' ⟨rfl, hcall⟩; have hbw : Below w.heap.size w w' := (by first | exact Below.trans (by assumption) (Below.mono hcall (Below.size (by assumption))) | exact Below.trans (Below.drew (by assumption)) (Below.mono hcall (Below.size (Below.drew (by assumption)))) | exact HW0.out.trans (hcall.mono (by simp <;> omega)) | exact HW0.out.drew.trans (hcall.mono (by simp <;> omega))); have q1 : w'.cell? ⟨w.heap.size, 0, none⟩ = some (.int .i64 y) := below_cell2 hcall (by first | assumption | (simp; done) | (simp [go_sem]; done) | simp [*]); have q2 : w'.cell? ⟨w.heap.size, 1, none⟩ = some (.int .i64 d) := below_cell2 hcall (by first | assumption | (simp; done) | (simp [go_sem]; done) | simp [*]); clear hcall))
    go_ret2
    exact ⟨rfl, hbw⟩
  | true =>
    have hp := allBorn_parts h
    have hd := allBorn_date h
    have HS := Lib.hid (fun (W : World) (h : Dts W b off ds) (h2 : b < W.heap.size) => biSum_any b off n c ds y d W hl h h2 hp.1 hd)
    rw [h] at HB0
    rw [show sumOnR ds (y, d) = sumA ds (y, d) n by unfold sumOnR; rw [h, hl]; rfl]
    have HB := Lib.hid HB0
    clear HB0 h hl hp hd
    go_enter Try.func25, Try.ntmps25
    go_wp2_with (first | (go_at_call 48; refine (HB.out _ (hI1 _) (hbl1 _)).mono ?_; rintro e w' ⟨rfl, hcall⟩; have hbw : Below w.heap.size w w' := (by first | exact Below.trans (by assumption) (Below.mono hcall (Below.size (by assumption))) | exact Below.trans (Below.drew (by assumption)) (Below.mono hcall (Below.size (Below.drew (by assumption)))) | exact HW0.out.trans (hcall.mono (by simp <;> omega)) | exact HW0.out.drew.trans (hcall.mono (by simp <;> omega))); have q1 : w'.cell? ⟨w.heap.size, 0, none⟩ = some (.int .i64 y) := below_cell2 hcall (by first | assumption | (simp; done) | (simp [go_sem]; done) | simp [*]); have q2 : w'.cell? ⟨w.heap.size, 1, none⟩ = some (.int .i64 d) := below_cell2 hcall (by first | assumption | (simp; done) | (simp [go_sem]; done) | simp [*]); clear hcall) | (go_at_call 51; refine (HS.out _ (hI.kept (by assumption) hbl) (by have := Below.size ‹Below w.heap.size w _›; omega)).mono ?_; rintro e w' ⟨rfl, hcall⟩; have hbw : Below w.heap.size w w' := (by first | exact Below.trans (by assumption) (Below.mono hcall (Below.size (by assumption))) | exact Below.trans (Below.drew (by assumption)) (Below.mono hcall (Below.size (Below.drew (by assumption)))) | exact HW0.out.trans (hcall.mono (by simp <;> omega)) | exact HW0.out.drew.trans (hcall.mono (by simp <;> omega))); have q1 : w'.cell? ⟨w.heap.size, 0, none⟩ = some (.int .i64 y) := below_cell2 hcall (by first | assumption | (simp; done) | (simp [go_sem]; done) | simp [*]); have q2 : w'.cell? ⟨w.heap.size, 1, none⟩ = some (.int .i64 d) := below_cell2 hcall (by first | assumption | (simp; done) | (simp [go_sem]; done) | simp [*]); clear hcall))
    go_ret2
    exact ⟨rfl, hbw⟩

end Go.Proofs.Ytbhceokapbnhhaa
