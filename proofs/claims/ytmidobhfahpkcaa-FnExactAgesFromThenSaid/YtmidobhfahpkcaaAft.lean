/- AgesFromTwo: both texts. -/
import Derived.Test.YtmidobhfahpkcaaAfk
set_option linter.unusedVariables false
set_option linter.unusedSimpArgs false
namespace Go.Proofs.Ytmidobhfahpkcaa
open Go.RowKit


theorem sg_mul (z a b : Int) : sg z (a * b) = sg z a * b := by unfold sg; split <;> simp [Int.neg_mul]
theorem fnd_iff {x y z : Int} : fnd x y z = true ↔ 0 < z ∧ 0 < x ∧ 0 < y := by simp [fnd, and_assoc]
theorem fnd_no {x y z : Int} (h : z ≤ 0 ∨ x ≤ 0 ∨ y ≤ 0) : fnd x y z = false := by
  cases e : fnd x y z with
  | false => rfl
  | true => have := fnd_iff.1 e; omega
/-- Whether there are two ages of two ratios in some years, and their numbers. -/
def twX (p q r s n : Int) : Int := sg (p * s - r * q) (n * (r - s) * p)
def twY (p q r s n : Int) : Int := sg (p * s - r * q) (n * (r - s) * q)
def twZ (p q r s : Int) : Int := sg (p * s - r * q) (p * s - r * q)
def twF (p q r s n : Int) : Bool := fnd (twX p q r s n + n * twZ p q r s) (twY p q r s n + n * twZ p q r s) (twZ p q r s)
def twOk (p q r s n : Int) : Bool := ratB (p, q) && (ratB (r, s) && inB n (-120) 120)
theorem tw_N (p q r s n : Int) : twX p q r s n = sg (p * s - r * q) (n * (r - s)) * p ∧ twY p q r s n = sg (p * s - r * q) (n * (r - s)) * q := ⟨sg_mul _ _ _, sg_mul _ _ _⟩
theorem tw_bd {p q r s n : Int} (hp : 1 ≤ p ∧ p ≤ 100) (hq : 1 ≤ q ∧ q ≤ 100) (hr : 1 ≤ r ∧ r ≤ 100) (hs : 1 ≤ s ∧ s ≤ 100) (hn : -120 ≤ n ∧ n ≤ 120) :
    (-12000 ≤ n * (r - s) ∧ n * (r - s) ≤ 12000) ∧ (-1200000 ≤ n * (r - s) * p ∧ n * (r - s) * p ≤ 1200000) ∧ (-1200000 ≤ n * (r - s) * q ∧ n * (r - s) * q ≤ 1200000) ∧ (0 ≤ p * s ∧ p * s ≤ 10000) ∧ (0 ≤ r * q ∧ r * q ≤ 10000) := by
  have m1 : -12000 ≤ n * (r - s) ∧ n * (r - s) ≤ 12000 := by
    rcases Int.le_total 0 (r - s) with h | h
    · have := mul_bdS (x := n) (y := r - s) (X := 120) (Y := 100) (by omega) (by omega); omega
    · have := mul_bdS (x := n) (y := -(r - s)) (X := 120) (Y := 100) (by omega) (by omega)
      rw [Int.mul_neg] at this; omega
  have m2 := mul_bdS (x := n * (r - s)) (y := p) (X := 12000) (Y := 100) (by omega) (by omega)
  have m3 := mul_bdS (x := n * (r - s)) (y := q) (X := 12000) (Y := 100) (by omega) (by omega)
  have m4 := mul_bd (x := p) (y := s) (X := 100) (Y := 100) (by omega) (by omega)
  have m5 := mul_bd (x := r) (y := q) (X := 100) (Y := 100) (by omega) (by omega)
  omega
theorem sg_abs (z x : Int) (h : x = 0 → True) : sg z x = x ∨ sg z x = -x := by unfold sg; split <;> omega
theorem tw_bd2 {p q r s n : Int} (hp : 1 ≤ p ∧ p ≤ 100) (hq : 1 ≤ q ∧ q ≤ 100) (hr : 1 ≤ r ∧ r ≤ 100) (hs : 1 ≤ s ∧ s ≤ 100) (hn : -120 ≤ n ∧ n ≤ 120) :
    (-1200000 ≤ twX p q r s n ∧ twX p q r s n ≤ 1200000) ∧ (-1200000 ≤ twY p q r s n ∧ twY p q r s n ≤ 1200000) ∧ (0 ≤ twZ p q r s ∧ twZ p q r s ≤ 10000) ∧ (-1200000 ≤ n * twZ p q r s ∧ n * twZ p q r s ≤ 1200000) := by
  obtain ⟨b1, b2, b3, b4, b5⟩ := tw_bd hp hq hr hs hn
  have hz : 0 ≤ twZ p q r s ∧ twZ p q r s ≤ 10000 := by unfold twZ sg; split <;> omega
  have := mul_bdS (x := n) (y := twZ p q r s) (X := 120) (Y := 10000) (by omega) (by omega)
  refine ⟨?_, ?_, hz, by omega⟩
  · unfold twX sg; split <;> omega
  · unfold twY sg; split <;> omega

set_option maxHeartbeats 8000000 in
set_option maxRecDepth 100000 in
theorem aft_any (p q r s n : Int) (w : World) : Calls Try.prog 25 #[.agg #[.int .i64 p, .int .i64 q], .agg #[.int .i64 r, .int .i64 s], .int .i64 n] w (RetI3B (anX (twOk p q r s n && twF p q r s n) (twX p q r s n) (twY p q r s n) (twZ p q r s)) (anY (twOk p q r s n && twF p q r s n) (twX p q r s n) (twY p q r s n) (twZ p q r s)) (anZ (twOk p q r s n && twF p q r s n) (twX p q r s n) (twY p q r s n) (twZ p q r s)) (anB (twOk p q r s n && twF p q r s n) (twX p q r s n) (twY p q r s n) (twZ p q r s)) w) := by
  have HW0 := Lib.hid (((Below.refl w.heap.size w).alloc (Nat.le_refl _) (.cells #[.int .i64 p, .int .i64 q] 25)).alloc (by simp) (.cells #[.int .i64 r, .int .i64 s] 25))
  cases h1 : ratB (p, q) with
  | false =>
    rw [show (twOk p q r s n && twF p q r s n) = false by simp [twOk, *]]
    obtain ⟨e1, e2, e3, e4⟩ := an_not (twX p q r s n) (twY p q r s n) (twZ p q r s)
    rw [e1, e2, e3, e4]
    clear e1 e2 e3 e4
    go_enter Try.func25, Try.ntmps25
    go_wp2_with (first | (go_at_call 50; first | (refine (isWithin_t _ _ _ (by assumption) _).mono ?_; rintro e w' ⟨rfl, rfl⟩) | (refine (isWithin_f _ _ _ (by assumption) _).mono ?_; rintro e w' ⟨rfl, rfl⟩)) | (go_at_call 17; first | (refine (isRatio_t _ _ (by assumption) _).mono ?_; rintro e w' ⟨rfl, hcall⟩; have hbw : Below w.heap.size w w' := (by first | exact Below.trans (by assumption) (Below.mono hcall (Below.size (by assumption))) | exact Below.trans (Below.drew (by assumption)) (Below.mono hcall (Below.size (Below.drew (by assumption)))) | exact HW0.out.trans (hcall.mono (by simp <;> omega)) | exact HW0.out.drew.trans (hcall.mono (by simp <;> omega))); have q1 : w'.cell? ⟨w.heap.size, 0, none⟩ = some (.int .i64 p) := below_cell2 hcall (by first | assumption | (simp; done) | (simp [go_sem]; done) | simp [*]); have q2 : w'.cell? ⟨w.heap.size, 1, none⟩ = some (.int .i64 q) := below_cell2 hcall (by first | assumption | (simp; done) | (simp [go_sem]; done) | simp [*]); have q3 : w'.cell? ⟨w.heap.size + 1, 0, none⟩ = some (.int .i64 r) := below_cell2 hcall (by first | assumption | (simp; done) | (simp [go_sem]; done) | simp [*]); have q4 : w'.cell? ⟨w.heap.size + 1, 1, none⟩ = some (.int .i64 s) := below_cell2 hcall (by first | assumption | (simp; done) | (simp [go_sem]; done) | simp [*]); clear hcall) | (refine (isRatio_f _ _ (by assumption) _).mono ?_; rintro e w' ⟨rfl, hcall⟩; have hbw : Below w.heap.size w w' := (by first | exact Below.trans (by assumption) (Below.mono hcall (Below.size (by assumption))) | exact Below.trans (Below.drew (by assumption)) (Below.mono hcall (Below.size (Below.drew (by assumption)))) | exact HW0.out.trans (hcall.mono (by simp <;> omega)) | exact HW0.out.drew.trans (hcall.mono (by simp <;> omega))); have q1 : w'.cell? ⟨w.heap.size, 0, none⟩ = some (.int .i64 p) := below_cell2 hcall (by first | assumption | (simp; done) | (simp [go_sem]; done) | simp [*]); have q2 : w'.cell? ⟨w.heap.size, 1, none⟩ = some (.int .i64 q) := below_cell2 hcall (by first | assumption | (simp; done) | (simp [go_sem]; done) | simp [*]); have q3 : w'.cell? ⟨w.heap.size + 1, 0, none⟩ = some (.int .i64 r) := below_cell2 hcall (by first | assumption | (simp; done) | (simp [go_sem]; done) | simp [*]); have q4 : w'.cell? ⟨w.heap.size + 1, 1, none⟩ = some (.int .i64 s) := below_cell2 hcall (by first | assumption | (simp; done) | (simp [go_sem]; done) | simp [*]); clear hcall)))
    refine bodyPost_ret (v := .tuple #[.int .i64 0, .int .i64 0, .int .i64 0, .bool false]) (by simp [results, Try.results25, go_sem]) rfl ?_
    exact ⟨rfl, by first | assumption | exact ((Below.refl w.heap.size w).alloc (Nat.le_refl _) _).alloc (by simp) _⟩
  | true =>
  cases h2 : ratB (r, s) with
  | false =>
    rw [show (twOk p q r s n && twF p q r s n) = false by simp [twOk, *]]
    obtain ⟨e1, e2, e3, e4⟩ := an_not (twX p q r s n) (twY p q r s n) (twZ p q r s)
    rw [e1, e2, e3, e4]
    clear e1 e2 e3 e4
    go_enter Try.func25, Try.ntmps25
    go_wp2_with (first | (go_at_call 50; first | (refine (isWithin_t _ _ _ (by assumption) _).mono ?_; rintro e w' ⟨rfl, rfl⟩) | (refine (isWithin_f _ _ _ (by assumption) _).mono ?_; rintro e w' ⟨rfl, rfl⟩)) | (go_at_call 17; first | (refine (isRatio_t _ _ (by assumption) _).mono ?_; rintro e w' ⟨rfl, hcall⟩; have hbw : Below w.heap.size w w' := (by first | exact Below.trans (by assumption) (Below.mono hcall (Below.size (by assumption))) | exact Below.trans (Below.drew (by assumption)) (Below.mono hcall (Below.size (Below.drew (by assumption)))) | exact HW0.out.trans (hcall.mono (by simp <;> omega)) | exact HW0.out.drew.trans (hcall.mono (by simp <;> omega))); have q1 : w'.cell? ⟨w.heap.size, 0, none⟩ = some (.int .i64 p) := below_cell2 hcall (by first | assumption | (simp; done) | (simp [go_sem]; done) | simp [*]); have q2 : w'.cell? ⟨w.heap.size, 1, none⟩ = some (.int .i64 q) := below_cell2 hcall (by first | assumption | (simp; done) | (simp [go_sem]; done) | simp [*]); have q3 : w'.cell? ⟨w.heap.size + 1, 0, none⟩ = some (.int .i64 r) := below_cell2 hcall (by first | assumption | (simp; done) | (simp [go_sem]; done) | simp [*]); have q4 : w'.cell? ⟨w.heap.size + 1, 1, none⟩ = some (.int .i64 s) := below_cell2 hcall (by first | assumption | (simp; done) | (simp [go_sem]; done) | simp [*]); clear hcall) | (refine (isRatio_f _ _ (by assumption) _).mono ?_; rintro e w' ⟨rfl, hcall⟩; have hbw : Below w.heap.size w w' := (by first | exact Below.trans (by assumption) (Below.mono hcall (Below.size (by assumption))) | exact Below.trans (Below.drew (by assumption)) (Below.mono hcall (Below.size (Below.drew (by assumption)))) | exact HW0.out.trans (hcall.mono (by simp <;> omega)) | exact HW0.out.drew.trans (hcall.mono (by simp <;> omega))); have q1 : w'.cell? ⟨w.heap.size, 0, none⟩ = some (.int .i64 p) := below_cell2 hcall (by first | assumption | (simp; done) | (simp [go_sem]; done) | simp [*]); have q2 : w'.cell? ⟨w.heap.size, 1, none⟩ = some (.int .i64 q) := below_cell2 hcall (by first | assumption | (simp; done) | (simp [go_sem]; done) | simp [*]); have q3 : w'.cell? ⟨w.heap.size + 1, 0, none⟩ = some (.int .i64 r) := below_cell2 hcall (by first | assumption | (simp; done) | (simp [go_sem]; done) | simp [*]); have q4 : w'.cell? ⟨w.heap.size + 1, 1, none⟩ = some (.int .i64 s) := below_cell2 hcall (by first | assumption | (simp; done) | (simp [go_sem]; done) | simp [*]); clear hcall)))
    refine bodyPost_ret (v := .tuple #[.int .i64 0, .int .i64 0, .int .i64 0, .bool false]) (by simp [results, Try.results25, go_sem]) rfl ?_
    exact ⟨rfl, by first | assumption | exact ((Below.refl w.heap.size w).alloc (Nat.le_refl _) _).alloc (by simp) _⟩
  | true =>
  cases h3 : inB n (-120) 120 with
  | false =>
    rw [show (twOk p q r s n && twF p q r s n) = false by simp [twOk, *]]
    obtain ⟨e1, e2, e3, e4⟩ := an_not (twX p q r s n) (twY p q r s n) (twZ p q r s)
    rw [e1, e2, e3, e4]
    clear e1 e2 e3 e4
    go_enter Try.func25, Try.ntmps25
    go_wp2_with (first | (go_at_call 50; first | (refine (isWithin_t _ _ _ (by assumption) _).mono ?_; rintro e w' ⟨rfl, rfl⟩) | (refine (isWithin_f _ _ _ (by assumption) _).mono ?_; rintro e w' ⟨rfl, rfl⟩)) | (go_at_call 17; first | (refine (isRatio_t _ _ (by assumption) _).mono ?_; rintro e w' ⟨rfl, hcall⟩; have hbw : Below w.heap.size w w' := (by first | exact Below.trans (by assumption) (Below.mono hcall (Below.size (by assumption))) | exact Below.trans (Below.drew (by assumption)) (Below.mono hcall (Below.size (Below.drew (by assumption)))) | exact HW0.out.trans (hcall.mono (by simp <;> omega)) | exact HW0.out.drew.trans (hcall.mono (by simp <;> omega))); have q1 : w'.cell? ⟨w.heap.size, 0, none⟩ = some (.int .i64 p) := below_cell2 hcall (by first | assumption | (simp; done) | (simp [go_sem]; done) | simp [*]); have q2 : w'.cell? ⟨w.heap.size, 1, none⟩ = some (.int .i64 q) := below_cell2 hcall (by first | assumption | (simp; done) | (simp [go_sem]; done) | simp [*]); have q3 : w'.cell? ⟨w.heap.size + 1, 0, none⟩ = some (.int .i64 r) := below_cell2 hcall (by first | assumption | (simp; done) | (simp [go_sem]; done) | simp [*]); have q4 : w'.cell? ⟨w.heap.size + 1, 1, none⟩ = some (.int .i64 s) := below_cell2 hcall (by first | assumption | (simp; done) | (simp [go_sem]; done) | simp [*]); clear hcall) | (refine (isRatio_f _ _ (by assumption) _).mono ?_; rintro e w' ⟨rfl, hcall⟩; have hbw : Below w.heap.size w w' := (by first | exact Below.trans (by assumption) (Below.mono hcall (Below.size (by assumption))) | exact Below.trans (Below.drew (by assumption)) (Below.mono hcall (Below.size (Below.drew (by assumption)))) | exact HW0.out.trans (hcall.mono (by simp <;> omega)) | exact HW0.out.drew.trans (hcall.mono (by simp <;> omega))); have q1 : w'.cell? ⟨w.heap.size, 0, none⟩ = some (.int .i64 p) := below_cell2 hcall (by first | assumption | (simp; done) | (simp [go_sem]; done) | simp [*]); have q2 : w'.cell? ⟨w.heap.size, 1, none⟩ = some (.int .i64 q) := below_cell2 hcall (by first | assumption | (simp; done) | (simp [go_sem]; done) | simp [*]); have q3 : w'.cell? ⟨w.heap.size + 1, 0, none⟩ = some (.int .i64 r) := below_cell2 hcall (by first | assumption | (simp; done) | (simp [go_sem]; done) | simp [*]); have q4 : w'.cell? ⟨w.heap.size + 1, 1, none⟩ = some (.int .i64 s) := below_cell2 hcall (by first | assumption | (simp; done) | (simp [go_sem]; done) | simp [*]); clear hcall)))
    refine bodyPost_ret (v := .tuple #[.int .i64 0, .int .i64 0, .int .i64 0, .bool false]) (by simp [results, Try.results25, go_sem]) rfl ?_
    exact ⟨rfl, by first | assumption | exact ((Below.refl w.heap.size w).alloc (Nat.le_refl _) _).alloc (by simp) _⟩
  | true =>
    obtain ⟨hp, hq⟩ := ratB_iff.1 h1
    obtain ⟨hr, hs⟩ := ratB_iff.1 h2
    simp only at hp hq hr hs
    have hn := inB_iff.1 h3
    obtain ⟨b1, b2, b3, b4⟩ := tw_bd2 hp hq hr hs hn
    have HC : Hid (∀ w, Calls Try.prog 60 #[.agg #[.int .i64 p, .int .i64 q], .agg #[.int .i64 r, .int .i64 s], .int .i64 n] w (Ret (.agg #[.int .i64 (twX p q r s n), .int .i64 (twY p q r s n), .int .i64 (twZ p q r s)]) w)) := Lib.hid (fun w => coupleOfTwo_any p q r s n w hp hq hr hs hn)
    rw [show (twOk p q r s n && twF p q r s n) = twF p q r s n by simp [twOk, h1, h2, h3]]
    unfold twF
    generalize twX p q r s n = X at *
    generalize twY p q r s n = Y at *
    generalize twZ p q r s = Z at *
    have HI := Lib.hid (fun w => coupleIn_any X Y Z n w (by omega) (by omega) (by omega))
    have HF0 := fun w => areFound_any (X + n * Z) (Y + n * Z) Z w
    have HT := Lib.hid (fun w => told_any X Y Z w (by omega) (by omega) (by omega))
    cases hf : fnd (X + n * Z) (Y + n * Z) Z with
    | false =>
      obtain ⟨e1, e2, e3, e4⟩ := an_not X Y Z
      rw [e1, e2, e3, e4]
      rw [hf] at HF0
      have HF := Lib.hid HF0
      clear HF0 hf e1 e2 e3 e4
      go_enter Try.func25, Try.ntmps25
      go_wp2_with (first | (go_at_call 50; first | (refine (isWithin_t _ _ _ (by assumption) _).mono ?_; rintro e w' ⟨rfl, rfl⟩) | (refine (isWithin_f _ _ _ (by assumption) _).mono ?_; rintro e w' ⟨rfl, rfl⟩)) | (go_at_call 17; first | (refine (isRatio_t _ _ (by assumption) _).mono ?_; rintro e w' ⟨rfl, hcall⟩; have hbw : Below w.heap.size w w' := (by first | exact Below.trans (by assumption) (Below.mono hcall (Below.size (by assumption))) | exact Below.trans (Below.drew (by assumption)) (Below.mono hcall (Below.size (Below.drew (by assumption)))) | exact HW0.out.trans (hcall.mono (by simp <;> omega)) | exact HW0.out.drew.trans (hcall.mono (by simp <;> omega))); have q1 : w'.cell? ⟨w.heap.size, 0, none⟩ = some (.int .i64 p) := below_cell2 hcall (by first | assumption | (simp; done) | (simp [go_sem]; done) | simp [*]); have q2 : w'.cell? ⟨w.heap.size, 1, none⟩ = some (.int .i64 q) := below_cell2 hcall (by first | assumption | (simp; done) | (simp [go_sem]; done) | simp [*]); have q3 : w'.cell? ⟨w.heap.size + 1, 0, none⟩ = some (.int .i64 r) := below_cell2 hcall (by first | assumption | (simp; done) | (simp [go_sem]; done) | simp [*]); have q4 : w'.cell? ⟨w.heap.size + 1, 1, none⟩ = some (.int .i64 s) := below_cell2 hcall (by first | assumption | (simp; done) | (simp [go_sem]; done) | simp [*]); clear hcall) | (refine (isRatio_f _ _ (by assumption) _).mono ?_; rintro e w' ⟨rfl, hcall⟩; have hbw : Below w.heap.size w w' := (by first | exact Below.trans (by assumption) (Below.mono hcall (Below.size (by assumption))) | exact Below.trans (Below.drew (by assumption)) (Below.mono hcall (Below.size (Below.drew (by assumption)))) | exact HW0.out.trans (hcall.mono (by simp <;> omega)) | exact HW0.out.drew.trans (hcall.mono (by simp <;> omega))); have q1 : w'.cell? ⟨w.heap.size, 0, none⟩ = some (.int .i64 p) := below_cell2 hcall (by first | assumption | (simp; done) | (simp [go_sem]; done) | simp [*]); have q2 : w'.cell? ⟨w.heap.size, 1, none⟩ = some (.int .i64 q) := below_cell2 hcall (by first | assumption | (simp; done) | (simp [go_sem]; done) | simp [*]); have q3 : w'.cell? ⟨w.heap.size + 1, 0, none⟩ = some (.int .i64 r) := below_cell2 hcall (by first | assumption | (simp; done) | (simp [go_sem]; done) | simp [*]); have q4 : w'.cell? ⟨w.heap.size + 1, 1, none⟩ = some (.int .i64 s) := below_cell2 hcall (by first | assumption | (simp; done) | (simp [go_sem]; done) | simp [*]); clear hcall)) | (go_at_call 60; refine (HC.out _).mono ?_; rintro e w3 ⟨rfl, hcall⟩; have hb_w3 : Below w.heap.size w w3 := hbw.trans (hcall.mono hbw.size); clear hcall) | (go_at_call 61; refine (HI.out _).mono ?_; rintro e w4 ⟨rfl, hcall⟩; have hb_w4 : Below w.heap.size w w4 := (hb_w3.alloc hb_w3.size _).trans (hcall.mono (by have := hb_w3.size; simp; omega)); have k0 : w4.cell? ⟨w3.heap.size, 0, none⟩ = some (.int .i64 X) := below_cell2 hcall (by simp); have k1 : w4.cell? ⟨w3.heap.size, 1, none⟩ = some (.int .i64 Y) := below_cell2 hcall (by simp); have k2 : w4.cell? ⟨w3.heap.size, 2, none⟩ = some (.int .i64 Z) := below_cell2 hcall (by simp); clear hcall) | (go_at_call 62; refine (HF.out _).mono ?_; rintro e w5 ⟨rfl, hcall⟩; have hb_w5 : Below w.heap.size w w5 := hb_w4.trans (hcall.mono hb_w4.size); have l0 : w5.cell? ⟨w3.heap.size, 0, none⟩ = some (.int .i64 X) := below_cell2 hcall k0; have l1 : w5.cell? ⟨w3.heap.size, 1, none⟩ = some (.int .i64 Y) := below_cell2 hcall k1; have l2 : w5.cell? ⟨w3.heap.size, 2, none⟩ = some (.int .i64 Z) := below_cell2 hcall k2; clear hcall) | (go_at_call 59; refine (HT.out _).mono ?_; rintro e w6 ⟨rfl, hcall⟩; have hb_w6 : Below w.heap.size w w6 := hb_w5.trans (hcall.mono hb_w5.size); clear hcall))
      refine bodyPost_ret (v := .tuple #[.int .i64 0, .int .i64 0, .int .i64 0, .bool false]) (by simp [results, Try.results25, go_sem]) rfl ?_
      exact ⟨rfl, by assumption⟩
    | true =>
      obtain ⟨e1, e2, e3, e4⟩ := an_ok X Y Z
      rw [e1, e2, e3, e4]
      rw [hf] at HF0
      have HF := Lib.hid HF0
      clear HF0 hf e1 e2 e3 e4
      generalize tdX X Y Z = u1 at HT ⊢
      generalize tdY X Y Z = u2 at HT ⊢
      generalize tdZ X Y Z = u3 at HT ⊢
      generalize fnd X Y Z = u4 at HT ⊢
      go_enter Try.func25, Try.ntmps25
      go_wp2_with (first | (go_at_call 50; first | (refine (isWithin_t _ _ _ (by assumption) _).mono ?_; rintro e w' ⟨rfl, rfl⟩) | (refine (isWithin_f _ _ _ (by assumption) _).mono ?_; rintro e w' ⟨rfl, rfl⟩)) | (go_at_call 17; first | (refine (isRatio_t _ _ (by assumption) _).mono ?_; rintro e w' ⟨rfl, hcall⟩; have hbw : Below w.heap.size w w' := (by first | exact Below.trans (by assumption) (Below.mono hcall (Below.size (by assumption))) | exact Below.trans (Below.drew (by assumption)) (Below.mono hcall (Below.size (Below.drew (by assumption)))) | exact HW0.out.trans (hcall.mono (by simp <;> omega)) | exact HW0.out.drew.trans (hcall.mono (by simp <;> omega))); have q1 : w'.cell? ⟨w.heap.size, 0, none⟩ = some (.int .i64 p) := below_cell2 hcall (by first | assumption | (simp; done) | (simp [go_sem]; done) | simp [*]); have q2 : w'.cell? ⟨w.heap.size, 1, none⟩ = some (.int .i64 q) := below_cell2 hcall (by first | assumption | (simp; done) | (simp [go_sem]; done) | simp [*]); have q3 : w'.cell? ⟨w.heap.size + 1, 0, none⟩ = some (.int .i64 r) := below_cell2 hcall (by first | assumption | (simp; done) | (simp [go_sem]; done) | simp [*]); have q4 : w'.cell? ⟨w.heap.size + 1, 1, none⟩ = some (.int .i64 s) := below_cell2 hcall (by first | assumption | (simp; done) | (simp [go_sem]; done) | simp [*]); clear hcall) | (refine (isRatio_f _ _ (by assumption) _).mono ?_; rintro e w' ⟨rfl, hcall⟩; have hbw : Below w.heap.size w w' := (by first | exact Below.trans (by assumption) (Below.mono hcall (Below.size (by assumption))) | exact Below.trans (Below.drew (by assumption)) (Below.mono hcall (Below.size (Below.drew (by assumption)))) | exact HW0.out.trans (hcall.mono (by simp <;> omega)) | exact HW0.out.drew.trans (hcall.mono (by simp <;> omega))); have q1 : w'.cell? ⟨w.heap.size, 0, none⟩ = some (.int .i64 p) := below_cell2 hcall (by first | assumption | (simp; done) | (simp [go_sem]; done) | simp [*]); have q2 : w'.cell? ⟨w.heap.size, 1, none⟩ = some (.int .i64 q) := below_cell2 hcall (by first | assumption | (simp; done) | (simp [go_sem]; done) | simp [*]); have q3 : w'.cell? ⟨w.heap.size + 1, 0, none⟩ = some (.int .i64 r) := below_cell2 hcall (by first | assumption | (simp; done) | (simp [go_sem]; done) | simp [*]); have q4 : w'.cell? ⟨w.heap.size + 1, 1, none⟩ = some (.int .i64 s) := below_cell2 hcall (by first | assumption | (simp; done) | (simp [go_sem]; done) | simp [*]); clear hcall)) | (go_at_call 60; refine (HC.out _).mono ?_; rintro e w3 ⟨rfl, hcall⟩; have hb_w3 : Below w.heap.size w w3 := hbw.trans (hcall.mono hbw.size); clear hcall) | (go_at_call 61; refine (HI.out _).mono ?_; rintro e w4 ⟨rfl, hcall⟩; have hb_w4 : Below w.heap.size w w4 := (hb_w3.alloc hb_w3.size _).trans (hcall.mono (by have := hb_w3.size; simp; omega)); have k0 : w4.cell? ⟨w3.heap.size, 0, none⟩ = some (.int .i64 X) := below_cell2 hcall (by simp); have k1 : w4.cell? ⟨w3.heap.size, 1, none⟩ = some (.int .i64 Y) := below_cell2 hcall (by simp); have k2 : w4.cell? ⟨w3.heap.size, 2, none⟩ = some (.int .i64 Z) := below_cell2 hcall (by simp); clear hcall) | (go_at_call 62; refine (HF.out _).mono ?_; rintro e w5 ⟨rfl, hcall⟩; have hb_w5 : Below w.heap.size w w5 := hb_w4.trans (hcall.mono hb_w4.size); have l0 : w5.cell? ⟨w3.heap.size, 0, none⟩ = some (.int .i64 X) := below_cell2 hcall k0; have l1 : w5.cell? ⟨w3.heap.size, 1, none⟩ = some (.int .i64 Y) := below_cell2 hcall k1; have l2 : w5.cell? ⟨w3.heap.size, 2, none⟩ = some (.int .i64 Z) := below_cell2 hcall k2; clear hcall) | (go_at_call 59; refine (HT.out _).mono ?_; rintro e w6 ⟨rfl, hcall⟩; have hb_w6 : Below w.heap.size w w6 := hb_w5.trans (hcall.mono hb_w5.size); clear hcall))
      refine bodyPost_ret (v := .tuple #[.int .i64 u1, .int .i64 u2, .int .i64 u3, .bool u4]) (by simp [results, Try.results25, go_sem]) rfl ?_
      exact ⟨rfl, by assumption⟩
end Go.Proofs.Ytmidobhfahpkcaa
