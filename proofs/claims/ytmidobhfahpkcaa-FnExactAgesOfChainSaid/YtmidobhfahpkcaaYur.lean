/- In how many years a ratio holds: both texts. -/
import Derived.Test.YtmidobhfahpkcaaRg
set_option linter.unusedVariables false
set_option linter.unusedSimpArgs false
namespace Go.Proofs.Ytmidobhfahpkcaa
open Go.RowKit

theorem raAge_t (n : Int) (h : inB n 0 120 = true) (w : World) : Calls Try.prog 51 #[.int .i64 n] w (RetSame (.bool true) w) := by rw [← h]; exact raAge_any n w
theorem raAge_f (n : Int) (h : inB n 0 120 = false) (w : World) : Calls Try.prog 51 #[.int .i64 n] w (RetSame (.bool false) w) := by rw [← h]; exact raAge_any n w
theorem isAge_t (n : Int) (h : inB n 0 120 = true) (w : World) : Calls Try.prog 54 #[.int .i64 n] w (RetSame (.bool true) w) := by rw [← h]; exact isAge_any n w
theorem isAge_f (n : Int) (h : inB n 0 120 = false) (w : World) : Calls Try.prog 54 #[.int .i64 n] w (RetSame (.bool false) w) := by rw [← h]; exact isAge_any n w
theorem raGood_t (y d : Int) (h : ratB (y, d) = true) (w : World) : Calls Try.prog 49 #[.agg #[.int .i64 y, .int .i64 d]] w (Ret (.bool true) w) := by rw [← h]; exact raGood_any y d w
theorem raGood_f (y d : Int) (h : ratB (y, d) = false) (w : World) : Calls Try.prog 49 #[.agg #[.int .i64 y, .int .i64 d]] w (Ret (.bool false) w) := by rw [← h]; exact raGood_any y d w
theorem isRatio_t (y d : Int) (h : ratB (y, d) = true) (w : World) : Calls Try.prog 17 #[.agg #[.int .i64 y, .int .i64 d]] w (Ret (.bool true) w) := by rw [← h]; exact isRatio_any y d w
theorem isRatio_f (y d : Int) (h : ratB (y, d) = false) (w : World) : Calls Try.prog 17 #[.agg #[.int .i64 y, .int .i64 d]] w (Ret (.bool false) w) := by rw [← h]; exact isRatio_any y d w

theorem rl_bd_any (a b : Int) (hb : b ≠ 0) : rlN a b ≤ (a.natAbs : Int) ∧ -(a.natAbs : Int) ≤ rlN a b ∧ 1 ≤ rlD a b ∧ rlD a b ≤ (b.natAbs : Int) := by
  by_cases h : b < 0
  · have := rl_bd (-a) (-b) (by omega)
    obtain ⟨e1, e2⟩ := rl_neg a b hb
    rw [e1, e2] at this
    omega
  · have := rl_bd a b (by omega)
    omega
theorem mul_bd {x y X Y : Int} (hx : 0 ≤ x ∧ x ≤ X) (hy : 0 ≤ y ∧ y ≤ Y) : 0 ≤ x * y ∧ x * y ≤ X * Y :=
  ⟨Int.mul_nonneg hx.1 hy.1, Int.mul_le_mul hx.2 hy.2 hy.1 (by omega)⟩

def yuOk (a b : Int) (p : Dt) : Bool := inB a 0 120 && inB b 0 120 && ratB p
def yuN (a b : Int) (p : Dt) : Int := if yuOk a b p = true then ywN (p.2 * a - p.1 * b) (p.1 - p.2) (min a b) else 0
def yuD (a b : Int) (p : Dt) : Int := if yuOk a b p = true then ywD (p.2 * a - p.1 * b) (p.1 - p.2) (min a b) else 0
def yuB (a b : Int) (p : Dt) : Bool := if yuOk a b p = true then ywB (p.2 * a - p.1 * b) (p.1 - p.2) (min a b) else false
theorem yu_not {a b : Int} {p : Dt} (h : yuOk a b p = false) : yuN a b p = 0 ∧ yuD a b p = 0 ∧ yuB a b p = false := by simp [yuN, yuD, yuB, h]
theorem yu_ok {a b : Int} {p : Dt} (h : yuOk a b p = true) : yuN a b p = ywN (p.2 * a - p.1 * b) (p.1 - p.2) (min a b) ∧ yuD a b p = ywD (p.2 * a - p.1 * b) (p.1 - p.2) (min a b) ∧ yuB a b p = ywB (p.2 * a - p.1 * b) (p.1 - p.2) (min a b) := by simp [yuN, yuD, yuB, h]

set_option maxHeartbeats 4000000 in
set_option maxRecDepth 100000 in
theorem specYur_any (a b y d : Int) (w : World) : Calls Try.prog 18 #[.int .i64 a, .int .i64 b, .agg #[.int .i64 y, .int .i64 d]] w (RetIIB (yuN a b (y, d)) (yuD a b (y, d)) (yuB a b (y, d)) w) := by
  have HW0 := Lib.hid ((Below.refl w.heap.size w).alloc (Nat.le_refl _) (.cells #[.int .i64 y, .int .i64 d] 25))
  cases h1 : inB a 0 120 with
  | false =>
    obtain ⟨e1, e2, e3⟩ := yu_not (show yuOk a b (y, d) = false by simp [yuOk, h1])
    rw [e1, e2, e3]
    clear e1 e2 e3
    go_enter Try.func18, Try.ntmps18
    go_wp2_with (first | (go_at_call 51; first | (refine (raAge_t _ (by assumption) _).mono ?_; rintro e w' ⟨rfl, rfl⟩) | (refine (raAge_f _ (by assumption) _).mono ?_; rintro e w' ⟨rfl, rfl⟩)) | (go_at_call 49; first | (refine (raGood_t _ _ (by assumption) _).mono ?_; rintro e w' ⟨rfl, hcall⟩; have hbw : Below w.heap.size w w' := (by first | exact Below.trans (by assumption) (Below.mono hcall (Below.size (by assumption))) | exact Below.trans (Below.drew (by assumption)) (Below.mono hcall (Below.size (Below.drew (by assumption)))) | exact HW0.out.trans (hcall.mono (by simp <;> omega)) | exact HW0.out.drew.trans (hcall.mono (by simp <;> omega))); have q1 : w'.cell? ⟨w.heap.size, 0, none⟩ = some (.int .i64 y) := below_cell2 hcall (by first | assumption | (simp; done) | (simp [go_sem]; done) | simp [*]); have q2 : w'.cell? ⟨w.heap.size, 1, none⟩ = some (.int .i64 d) := below_cell2 hcall (by first | assumption | (simp; done) | (simp [go_sem]; done) | simp [*]); clear hcall) | (refine (raGood_f _ _ (by assumption) _).mono ?_; rintro e w' ⟨rfl, hcall⟩; have hbw : Below w.heap.size w w' := (by first | exact Below.trans (by assumption) (Below.mono hcall (Below.size (by assumption))) | exact Below.trans (Below.drew (by assumption)) (Below.mono hcall (Below.size (Below.drew (by assumption)))) | exact HW0.out.trans (hcall.mono (by simp <;> omega)) | exact HW0.out.drew.trans (hcall.mono (by simp <;> omega))); have q1 : w'.cell? ⟨w.heap.size, 0, none⟩ = some (.int .i64 y) := below_cell2 hcall (by first | assumption | (simp; done) | (simp [go_sem]; done) | simp [*]); have q2 : w'.cell? ⟨w.heap.size, 1, none⟩ = some (.int .i64 d) := below_cell2 hcall (by first | assumption | (simp; done) | (simp [go_sem]; done) | simp [*]); clear hcall)))
    first | (go_ret; done) | skip
    go_ret3
    refine ⟨rfl, ?_⟩
    first | (exact (Below.refl w.heap.size w).alloc (Nat.le_refl _) _) | assumption
  | true =>
  cases h2 : inB b 0 120 with
  | false =>
    obtain ⟨e1, e2, e3⟩ := yu_not (show yuOk a b (y, d) = false by simp [yuOk, h1, h2])
    rw [e1, e2, e3]
    clear e1 e2 e3
    go_enter Try.func18, Try.ntmps18
    go_wp2_with (first | (go_at_call 51; first | (refine (raAge_t _ (by assumption) _).mono ?_; rintro e w' ⟨rfl, rfl⟩) | (refine (raAge_f _ (by assumption) _).mono ?_; rintro e w' ⟨rfl, rfl⟩)) | (go_at_call 49; first | (refine (raGood_t _ _ (by assumption) _).mono ?_; rintro e w' ⟨rfl, hcall⟩; have hbw : Below w.heap.size w w' := (by first | exact Below.trans (by assumption) (Below.mono hcall (Below.size (by assumption))) | exact Below.trans (Below.drew (by assumption)) (Below.mono hcall (Below.size (Below.drew (by assumption)))) | exact HW0.out.trans (hcall.mono (by simp <;> omega)) | exact HW0.out.drew.trans (hcall.mono (by simp <;> omega))); have q1 : w'.cell? ⟨w.heap.size, 0, none⟩ = some (.int .i64 y) := below_cell2 hcall (by first | assumption | (simp; done) | (simp [go_sem]; done) | simp [*]); have q2 : w'.cell? ⟨w.heap.size, 1, none⟩ = some (.int .i64 d) := below_cell2 hcall (by first | assumption | (simp; done) | (simp [go_sem]; done) | simp [*]); clear hcall) | (refine (raGood_f _ _ (by assumption) _).mono ?_; rintro e w' ⟨rfl, hcall⟩; have hbw : Below w.heap.size w w' := (by first | exact Below.trans (by assumption) (Below.mono hcall (Below.size (by assumption))) | exact Below.trans (Below.drew (by assumption)) (Below.mono hcall (Below.size (Below.drew (by assumption)))) | exact HW0.out.trans (hcall.mono (by simp <;> omega)) | exact HW0.out.drew.trans (hcall.mono (by simp <;> omega))); have q1 : w'.cell? ⟨w.heap.size, 0, none⟩ = some (.int .i64 y) := below_cell2 hcall (by first | assumption | (simp; done) | (simp [go_sem]; done) | simp [*]); have q2 : w'.cell? ⟨w.heap.size, 1, none⟩ = some (.int .i64 d) := below_cell2 hcall (by first | assumption | (simp; done) | (simp [go_sem]; done) | simp [*]); clear hcall)))
    first | (go_ret; done) | skip
    go_ret3
    refine ⟨rfl, ?_⟩
    first | (exact (Below.refl w.heap.size w).alloc (Nat.le_refl _) _) | assumption
  | true =>
  cases h3 : ratB (y, d) with
  | false =>
    obtain ⟨e1, e2, e3⟩ := yu_not (show yuOk a b (y, d) = false by simp [yuOk, h1, h2, h3])
    rw [e1, e2, e3]
    clear e1 e2 e3
    go_enter Try.func18, Try.ntmps18
    go_wp2_with (first | (go_at_call 51; first | (refine (raAge_t _ (by assumption) _).mono ?_; rintro e w' ⟨rfl, rfl⟩) | (refine (raAge_f _ (by assumption) _).mono ?_; rintro e w' ⟨rfl, rfl⟩)) | (go_at_call 49; first | (refine (raGood_t _ _ (by assumption) _).mono ?_; rintro e w' ⟨rfl, hcall⟩; have hbw : Below w.heap.size w w' := (by first | exact Below.trans (by assumption) (Below.mono hcall (Below.size (by assumption))) | exact Below.trans (Below.drew (by assumption)) (Below.mono hcall (Below.size (Below.drew (by assumption)))) | exact HW0.out.trans (hcall.mono (by simp <;> omega)) | exact HW0.out.drew.trans (hcall.mono (by simp <;> omega))); have q1 : w'.cell? ⟨w.heap.size, 0, none⟩ = some (.int .i64 y) := below_cell2 hcall (by first | assumption | (simp; done) | (simp [go_sem]; done) | simp [*]); have q2 : w'.cell? ⟨w.heap.size, 1, none⟩ = some (.int .i64 d) := below_cell2 hcall (by first | assumption | (simp; done) | (simp [go_sem]; done) | simp [*]); clear hcall) | (refine (raGood_f _ _ (by assumption) _).mono ?_; rintro e w' ⟨rfl, hcall⟩; have hbw : Below w.heap.size w w' := (by first | exact Below.trans (by assumption) (Below.mono hcall (Below.size (by assumption))) | exact Below.trans (Below.drew (by assumption)) (Below.mono hcall (Below.size (Below.drew (by assumption)))) | exact HW0.out.trans (hcall.mono (by simp <;> omega)) | exact HW0.out.drew.trans (hcall.mono (by simp <;> omega))); have q1 : w'.cell? ⟨w.heap.size, 0, none⟩ = some (.int .i64 y) := below_cell2 hcall (by first | assumption | (simp; done) | (simp [go_sem]; done) | simp [*]); have q2 : w'.cell? ⟨w.heap.size, 1, none⟩ = some (.int .i64 d) := below_cell2 hcall (by first | assumption | (simp; done) | (simp [go_sem]; done) | simp [*]); clear hcall)))
    first | (go_ret; done) | skip
    go_ret3
    refine ⟨rfl, ?_⟩
    first | (exact (Below.refl w.heap.size w).alloc (Nat.le_refl _) _) | assumption
  | true =>
    obtain ⟨e1, e2, e3⟩ := yu_ok (show yuOk a b (y, d) = true by simp [yuOk, h1, h2, h3])
    rw [e1, e2, e3]
    clear e1 e2 e3
    simp only
    have ha := inB_iff.1 h1
    have hb := inB_iff.1 h2
    obtain ⟨hy, hd⟩ := ratB_iff.1 h3
    simp only at hy hd
    have m1 := mul_bd (x := d) (y := a) (X := 100) (Y := 120) ⟨by omega, by omega⟩ ⟨by omega, by omega⟩
    have m2 := mul_bd (x := y) (y := b) (X := 100) (Y := 120) ⟨by omega, by omega⟩ ⟨by omega, by omega⟩
    by_cases hz : y = d
    · subst hz
      unfold ywN ywD ywB
      rw [if_pos (by omega), if_pos (by omega), if_pos (by omega)]
      go_enter Try.func18, Try.ntmps18
      go_wp2_with (first | (go_at_call 51; first | (refine (raAge_t _ (by assumption) _).mono ?_; rintro e w' ⟨rfl, rfl⟩) | (refine (raAge_f _ (by assumption) _).mono ?_; rintro e w' ⟨rfl, rfl⟩)) | (go_at_call 49; first | (refine (raGood_t _ _ (by assumption) _).mono ?_; rintro e w' ⟨rfl, hcall⟩; have hbw : Below w.heap.size w w' := (by first | exact Below.trans (by assumption) (Below.mono hcall (Below.size (by assumption))) | exact Below.trans (Below.drew (by assumption)) (Below.mono hcall (Below.size (Below.drew (by assumption)))) | exact HW0.out.trans (hcall.mono (by simp <;> omega)) | exact HW0.out.drew.trans (hcall.mono (by simp <;> omega))); have q1 : w'.cell? ⟨w.heap.size, 0, none⟩ = some (.int .i64 y) := below_cell2 hcall (by first | assumption | (simp; done) | (simp [go_sem]; done) | simp [*]); have q2 : w'.cell? ⟨w.heap.size, 1, none⟩ = some (.int .i64 y) := below_cell2 hcall (by first | assumption | (simp; done) | (simp [go_sem]; done) | simp [*]); clear hcall) | (refine (raGood_f _ _ (by assumption) _).mono ?_; rintro e w' ⟨rfl, hcall⟩; have hbw : Below w.heap.size w w' := (by first | exact Below.trans (by assumption) (Below.mono hcall (Below.size (by assumption))) | exact Below.trans (Below.drew (by assumption)) (Below.mono hcall (Below.size (Below.drew (by assumption)))) | exact HW0.out.trans (hcall.mono (by simp <;> omega)) | exact HW0.out.drew.trans (hcall.mono (by simp <;> omega))); have q1 : w'.cell? ⟨w.heap.size, 0, none⟩ = some (.int .i64 y) := below_cell2 hcall (by first | assumption | (simp; done) | (simp [go_sem]; done) | simp [*]); have q2 : w'.cell? ⟨w.heap.size, 1, none⟩ = some (.int .i64 y) := below_cell2 hcall (by first | assumption | (simp; done) | (simp [go_sem]; done) | simp [*]); clear hcall)))
      go_ret3
      exact ⟨rfl, by assumption⟩
    · have hq : y - d ≠ 0 := by omega
      have hb4 := rl_bd_any (d * a - y * b) (y - d) hq
      have HL := Lib.hid (fun w => raLow_any (d * a - y * b) (y - d) w (by omega) hq (by omega))
      have HM := Lib.hid (fun w => l1Least_any a b w)
      unfold ywN ywD ywB
      rw [if_neg hq, if_neg hq, if_neg hq]
      generalize rlN (d * a - y * b) (y - d) = u at *
      generalize rlD (d * a - y * b) (y - d) = v at *
      generalize hmn : min a b = mn at *
      have hmn2 : 0 ≤ mn ∧ mn ≤ 120 := by omega
      clear hmn
      have m3 := mul_bd (x := mn) (y := v) (X := 120) (Y := 99) hmn2 ⟨by omega, by omega⟩
      by_cases hs : mn * v + u ≤ 0
      · rw [if_pos hs, if_pos hs, if_pos hs]
        go_enter Try.func18, Try.ntmps18
        go_wp2_with (first | (go_at_call 51; first | (refine (raAge_t _ (by assumption) _).mono ?_; rintro e w' ⟨rfl, rfl⟩) | (refine (raAge_f _ (by assumption) _).mono ?_; rintro e w' ⟨rfl, rfl⟩)) | (go_at_call 49; first | (refine (raGood_t _ _ (by assumption) _).mono ?_; rintro e w' ⟨rfl, hcall⟩; have hbw : Below w.heap.size w w' := (by first | exact Below.trans (by assumption) (Below.mono hcall (Below.size (by assumption))) | exact Below.trans (Below.drew (by assumption)) (Below.mono hcall (Below.size (Below.drew (by assumption)))) | exact HW0.out.trans (hcall.mono (by simp <;> omega)) | exact HW0.out.drew.trans (hcall.mono (by simp <;> omega))); have q1 : w'.cell? ⟨w.heap.size, 0, none⟩ = some (.int .i64 y) := below_cell2 hcall (by first | assumption | (simp; done) | (simp [go_sem]; done) | simp [*]); have q2 : w'.cell? ⟨w.heap.size, 1, none⟩ = some (.int .i64 d) := below_cell2 hcall (by first | assumption | (simp; done) | (simp [go_sem]; done) | simp [*]); clear hcall) | (refine (raGood_f _ _ (by assumption) _).mono ?_; rintro e w' ⟨rfl, hcall⟩; have hbw : Below w.heap.size w w' := (by first | exact Below.trans (by assumption) (Below.mono hcall (Below.size (by assumption))) | exact Below.trans (Below.drew (by assumption)) (Below.mono hcall (Below.size (Below.drew (by assumption)))) | exact HW0.out.trans (hcall.mono (by simp <;> omega)) | exact HW0.out.drew.trans (hcall.mono (by simp <;> omega))); have q1 : w'.cell? ⟨w.heap.size, 0, none⟩ = some (.int .i64 y) := below_cell2 hcall (by first | assumption | (simp; done) | (simp [go_sem]; done) | simp [*]); have q2 : w'.cell? ⟨w.heap.size, 1, none⟩ = some (.int .i64 d) := below_cell2 hcall (by first | assumption | (simp; done) | (simp [go_sem]; done) | simp [*]); clear hcall)) | (go_at_call 52; refine (HL.out _).mono ?_; rintro e w' ⟨rfl, hcall⟩; have hbw : Below w.heap.size w w' := (by first | exact Below.trans (by assumption) (Below.mono hcall (Below.size (by assumption))) | exact Below.trans (Below.drew (by assumption)) (Below.mono hcall (Below.size (Below.drew (by assumption)))) | exact HW0.out.trans (hcall.mono (by simp <;> omega)) | exact HW0.out.drew.trans (hcall.mono (by simp <;> omega))); have q1 : w'.cell? ⟨w.heap.size, 0, none⟩ = some (.int .i64 y) := below_cell2 hcall (by first | assumption | (simp; done) | (simp [go_sem]; done) | simp [*]); have q2 : w'.cell? ⟨w.heap.size, 1, none⟩ = some (.int .i64 d) := below_cell2 hcall (by first | assumption | (simp; done) | (simp [go_sem]; done) | simp [*]); clear hcall) | (go_at_call 53; refine (HM.out _).mono ?_; rintro e w' ⟨rfl, rfl⟩))
        go_ret3
        exact ⟨rfl, by assumption⟩
      · rw [if_neg hs, if_neg hs, if_neg hs]
        go_enter Try.func18, Try.ntmps18
        go_wp2_with (first | (go_at_call 51; first | (refine (raAge_t _ (by assumption) _).mono ?_; rintro e w' ⟨rfl, rfl⟩) | (refine (raAge_f _ (by assumption) _).mono ?_; rintro e w' ⟨rfl, rfl⟩)) | (go_at_call 49; first | (refine (raGood_t _ _ (by assumption) _).mono ?_; rintro e w' ⟨rfl, hcall⟩; have hbw : Below w.heap.size w w' := (by first | exact Below.trans (by assumption) (Below.mono hcall (Below.size (by assumption))) | exact Below.trans (Below.drew (by assumption)) (Below.mono hcall (Below.size (Below.drew (by assumption)))) | exact HW0.out.trans (hcall.mono (by simp <;> omega)) | exact HW0.out.drew.trans (hcall.mono (by simp <;> omega))); have q1 : w'.cell? ⟨w.heap.size, 0, none⟩ = some (.int .i64 y) := below_cell2 hcall (by first | assumption | (simp; done) | (simp [go_sem]; done) | simp [*]); have q2 : w'.cell? ⟨w.heap.size, 1, none⟩ = some (.int .i64 d) := below_cell2 hcall (by first | assumption | (simp; done) | (simp [go_sem]; done) | simp [*]); clear hcall) | (refine (raGood_f _ _ (by assumption) _).mono ?_; rintro e w' ⟨rfl, hcall⟩; have hbw : Below w.heap.size w w' := (by first | exact Below.trans (by assumption) (Below.mono hcall (Below.size (by assumption))) | exact Below.trans (Below.drew (by assumption)) (Below.mono hcall (Below.size (Below.drew (by assumption)))) | exact HW0.out.trans (hcall.mono (by simp <;> omega)) | exact HW0.out.drew.trans (hcall.mono (by simp <;> omega))); have q1 : w'.cell? ⟨w.heap.size, 0, none⟩ = some (.int .i64 y) := below_cell2 hcall (by first | assumption | (simp; done) | (simp [go_sem]; done) | simp [*]); have q2 : w'.cell? ⟨w.heap.size, 1, none⟩ = some (.int .i64 d) := below_cell2 hcall (by first | assumption | (simp; done) | (simp [go_sem]; done) | simp [*]); clear hcall)) | (go_at_call 52; refine (HL.out _).mono ?_; rintro e w' ⟨rfl, hcall⟩; have hbw : Below w.heap.size w w' := (by first | exact Below.trans (by assumption) (Below.mono hcall (Below.size (by assumption))) | exact Below.trans (Below.drew (by assumption)) (Below.mono hcall (Below.size (Below.drew (by assumption)))) | exact HW0.out.trans (hcall.mono (by simp <;> omega)) | exact HW0.out.drew.trans (hcall.mono (by simp <;> omega))); have q1 : w'.cell? ⟨w.heap.size, 0, none⟩ = some (.int .i64 y) := below_cell2 hcall (by first | assumption | (simp; done) | (simp [go_sem]; done) | simp [*]); have q2 : w'.cell? ⟨w.heap.size, 1, none⟩ = some (.int .i64 d) := below_cell2 hcall (by first | assumption | (simp; done) | (simp [go_sem]; done) | simp [*]); clear hcall) | (go_at_call 53; refine (HM.out _).mono ?_; rintro e w' ⟨rfl, rfl⟩))
        go_ret3
        exact ⟨rfl, by assumption⟩
end Go.Proofs.Ytmidobhfahpkcaa
