/- In how many years a ratio holds: the program's text. -/
import Derived.Test.YtmidobhfahpkcaaYw
set_option linter.unusedVariables false
set_option linter.unusedSimpArgs false
namespace Go.Proofs.Ytmidobhfahpkcaa
open Go.RowKit

theorem ints_lit2 (w : World) (a b : Int) (t : TypeId) : Ints (w.alloc (.cells #[.int .i64 a, .int .i64 b] t)) w.heap.size 0 [a, b] := by
  intro j hj
  match j, hj with
  | 0, _ => simp
  | 1, _ => simp
theorem ints_lit3 (w : World) (a b c : Int) (t : TypeId) : Ints (w.alloc (.cells #[.int .i64 a, .int .i64 b, .int .i64 c] t)) w.heap.size 0 [a, b, c] := by
  intro j hj
  match j, hj with
  | 0, _ => simp
  | 1, _ => simp
  | 2, _ => simp
theorem ints_lit4 (w : World) (a b c d : Int) (t : TypeId) : Ints (w.alloc (.cells #[.int .i64 a, .int .i64 b, .int .i64 c, .int .i64 d] t)) w.heap.size 0 [a, b, c, d] := by
  intro j hj
  match j, hj with
  | 0, _ => simp
  | 1, _ => simp
  | 2, _ => simp
  | 3, _ => simp
set_option maxHeartbeats 4000000 in
set_option maxRecDepth 100000 in
theorem yur_any (a b y d : Int) (w : World) : Calls Try.prog 19 #[.int .i64 a, .int .i64 b, .agg #[.int .i64 y, .int .i64 d]] w (RetIIB (yuN a b (y, d)) (yuD a b (y, d)) (yuB a b (y, d)) w) := by
  have HW0 := Lib.hid ((Below.refl w.heap.size w).alloc (Nat.le_refl _) (.cells #[.int .i64 y, .int .i64 d] 25))
  cases h1 : inB a 0 120 with
  | false =>
    obtain ⟨e1, e2, e3⟩ := yu_not (show yuOk a b (y, d) = false by simp [yuOk, h1])
    rw [e1, e2, e3]
    clear e1 e2 e3
    go_enter Try.func19, Try.ntmps19
    go_wp2_with (first | (go_at_call 54; first | (refine (isAge_t _ (by assumption) _).mono ?_; rintro e w' ⟨rfl, rfl⟩) | (refine (isAge_f _ (by assumption) _).mono ?_; rintro e w' ⟨rfl, rfl⟩)) | (go_at_call 17; first | (refine (isRatio_t _ _ (by assumption) _).mono ?_; rintro e w' ⟨rfl, hcall⟩; have hbw : Below w.heap.size w w' := (by first | exact Below.trans (by assumption) (Below.mono hcall (Below.size (by assumption))) | exact Below.trans (Below.drew (by assumption)) (Below.mono hcall (Below.size (Below.drew (by assumption)))) | exact HW0.out.trans (hcall.mono (by simp <;> omega)) | exact HW0.out.drew.trans (hcall.mono (by simp <;> omega))); have q1 : w'.cell? ⟨w.heap.size, 0, none⟩ = some (.int .i64 y) := below_cell2 hcall (by first | assumption | (simp; done) | (simp [go_sem]; done) | simp [*]); have q2 : w'.cell? ⟨w.heap.size, 1, none⟩ = some (.int .i64 d) := below_cell2 hcall (by first | assumption | (simp; done) | (simp [go_sem]; done) | simp [*]); clear hcall) | (refine (isRatio_f _ _ (by assumption) _).mono ?_; rintro e w' ⟨rfl, hcall⟩; have hbw : Below w.heap.size w w' := (by first | exact Below.trans (by assumption) (Below.mono hcall (Below.size (by assumption))) | exact Below.trans (Below.drew (by assumption)) (Below.mono hcall (Below.size (Below.drew (by assumption)))) | exact HW0.out.trans (hcall.mono (by simp <;> omega)) | exact HW0.out.drew.trans (hcall.mono (by simp <;> omega))); have q1 : w'.cell? ⟨w.heap.size, 0, none⟩ = some (.int .i64 y) := below_cell2 hcall (by first | assumption | (simp; done) | (simp [go_sem]; done) | simp [*]); have q2 : w'.cell? ⟨w.heap.size, 1, none⟩ = some (.int .i64 d) := below_cell2 hcall (by first | assumption | (simp; done) | (simp [go_sem]; done) | simp [*]); clear hcall)))
    go_ret3
    refine ⟨rfl, ?_⟩
    first | (exact (Below.refl w.heap.size w).alloc (Nat.le_refl _) _) | assumption
  | true =>
  cases h2 : inB b 0 120 with
  | false =>
    obtain ⟨e1, e2, e3⟩ := yu_not (show yuOk a b (y, d) = false by simp [yuOk, h1, h2])
    rw [e1, e2, e3]
    clear e1 e2 e3
    go_enter Try.func19, Try.ntmps19
    go_wp2_with (first | (go_at_call 54; first | (refine (isAge_t _ (by assumption) _).mono ?_; rintro e w' ⟨rfl, rfl⟩) | (refine (isAge_f _ (by assumption) _).mono ?_; rintro e w' ⟨rfl, rfl⟩)) | (go_at_call 17; first | (refine (isRatio_t _ _ (by assumption) _).mono ?_; rintro e w' ⟨rfl, hcall⟩; have hbw : Below w.heap.size w w' := (by first | exact Below.trans (by assumption) (Below.mono hcall (Below.size (by assumption))) | exact Below.trans (Below.drew (by assumption)) (Below.mono hcall (Below.size (Below.drew (by assumption)))) | exact HW0.out.trans (hcall.mono (by simp <;> omega)) | exact HW0.out.drew.trans (hcall.mono (by simp <;> omega))); have q1 : w'.cell? ⟨w.heap.size, 0, none⟩ = some (.int .i64 y) := below_cell2 hcall (by first | assumption | (simp; done) | (simp [go_sem]; done) | simp [*]); have q2 : w'.cell? ⟨w.heap.size, 1, none⟩ = some (.int .i64 d) := below_cell2 hcall (by first | assumption | (simp; done) | (simp [go_sem]; done) | simp [*]); clear hcall) | (refine (isRatio_f _ _ (by assumption) _).mono ?_; rintro e w' ⟨rfl, hcall⟩; have hbw : Below w.heap.size w w' := (by first | exact Below.trans (by assumption) (Below.mono hcall (Below.size (by assumption))) | exact Below.trans (Below.drew (by assumption)) (Below.mono hcall (Below.size (Below.drew (by assumption)))) | exact HW0.out.trans (hcall.mono (by simp <;> omega)) | exact HW0.out.drew.trans (hcall.mono (by simp <;> omega))); have q1 : w'.cell? ⟨w.heap.size, 0, none⟩ = some (.int .i64 y) := below_cell2 hcall (by first | assumption | (simp; done) | (simp [go_sem]; done) | simp [*]); have q2 : w'.cell? ⟨w.heap.size, 1, none⟩ = some (.int .i64 d) := below_cell2 hcall (by first | assumption | (simp; done) | (simp [go_sem]; done) | simp [*]); clear hcall)))
    go_ret3
    refine ⟨rfl, ?_⟩
    first | (exact (Below.refl w.heap.size w).alloc (Nat.le_refl _) _) | assumption
  | true =>
  cases h3 : ratB (y, d) with
  | false =>
    obtain ⟨e1, e2, e3⟩ := yu_not (show yuOk a b (y, d) = false by simp [yuOk, h1, h2, h3])
    rw [e1, e2, e3]
    clear e1 e2 e3
    go_enter Try.func19, Try.ntmps19
    go_wp2_with (first | (go_at_call 54; first | (refine (isAge_t _ (by assumption) _).mono ?_; rintro e w' ⟨rfl, rfl⟩) | (refine (isAge_f _ (by assumption) _).mono ?_; rintro e w' ⟨rfl, rfl⟩)) | (go_at_call 17; first | (refine (isRatio_t _ _ (by assumption) _).mono ?_; rintro e w' ⟨rfl, hcall⟩; have hbw : Below w.heap.size w w' := (by first | exact Below.trans (by assumption) (Below.mono hcall (Below.size (by assumption))) | exact Below.trans (Below.drew (by assumption)) (Below.mono hcall (Below.size (Below.drew (by assumption)))) | exact HW0.out.trans (hcall.mono (by simp <;> omega)) | exact HW0.out.drew.trans (hcall.mono (by simp <;> omega))); have q1 : w'.cell? ⟨w.heap.size, 0, none⟩ = some (.int .i64 y) := below_cell2 hcall (by first | assumption | (simp; done) | (simp [go_sem]; done) | simp [*]); have q2 : w'.cell? ⟨w.heap.size, 1, none⟩ = some (.int .i64 d) := below_cell2 hcall (by first | assumption | (simp; done) | (simp [go_sem]; done) | simp [*]); clear hcall) | (refine (isRatio_f _ _ (by assumption) _).mono ?_; rintro e w' ⟨rfl, hcall⟩; have hbw : Below w.heap.size w w' := (by first | exact Below.trans (by assumption) (Below.mono hcall (Below.size (by assumption))) | exact Below.trans (Below.drew (by assumption)) (Below.mono hcall (Below.size (Below.drew (by assumption)))) | exact HW0.out.trans (hcall.mono (by simp <;> omega)) | exact HW0.out.drew.trans (hcall.mono (by simp <;> omega))); have q1 : w'.cell? ⟨w.heap.size, 0, none⟩ = some (.int .i64 y) := below_cell2 hcall (by first | assumption | (simp; done) | (simp [go_sem]; done) | simp [*]); have q2 : w'.cell? ⟨w.heap.size, 1, none⟩ = some (.int .i64 d) := below_cell2 hcall (by first | assumption | (simp; done) | (simp [go_sem]; done) | simp [*]); clear hcall)))
    go_ret3
    refine ⟨rfl, ?_⟩
    first | (exact (Below.refl w.heap.size w).alloc (Nat.le_refl _) _) | assumption
  | true =>
    obtain ⟨e1, e2, e3⟩ := yu_ok (show yuOk a b (y, d) = true by simp [yuOk, h1, h2, h3])
    obtain ⟨f1, f2, f3⟩ := yw_neg (d * a - y * b) (y - d) (min a b)
    rw [show -(d * a - y * b) = y * b - d * a by omega, show -(y - d) = d - y by omega] at f1 f2 f3
    rw [e1, e2, e3]
    simp only
    rw [← f1, ← f2, ← f3]
    clear e1 e2 e3 f1 f2 f3
    have ha := inB_iff.1 h1
    have hb := inB_iff.1 h2
    obtain ⟨hy, hd⟩ := ratB_iff.1 h3
    simp only at hy hd
    have m1 := mul_bd (x := d) (y := a) (X := 100) (Y := 120) ⟨by omega, by omega⟩ ⟨by omega, by omega⟩
    have m2 := mul_bd (x := y) (y := b) (X := 100) (Y := 120) ⟨by omega, by omega⟩ ⟨by omega, by omega⟩
    have hmin : mnT [a, b] 2 = min a b := by first | (simp [mnT]; done) | (simp [mnT]; omega)
    have HY := Lib.hid (fun (g c : Nat) (w : World) (hI : Ints w g 0 [a, b]) => ywa_any (y * b - d * a) (d - y) g c 2 [a, b] w (by omega) (by omega) rfl (by omega) (by omega) (by rw [hmin]; omega) hI)
    rw [hmin] at HY
    clear hmin
    go_enter Try.func19, Try.ntmps19
    go_wp2_with (first | (go_at_call 54; first | (refine (isAge_t _ (by assumption) _).mono ?_; rintro e w' ⟨rfl, rfl⟩) | (refine (isAge_f _ (by assumption) _).mono ?_; rintro e w' ⟨rfl, rfl⟩)) | (go_at_call 17; first | (refine (isRatio_t _ _ (by assumption) _).mono ?_; rintro e w' ⟨rfl, hcall⟩; have hbw : Below w.heap.size w w' := (by first | exact Below.trans (by assumption) (Below.mono hcall (Below.size (by assumption))) | exact Below.trans (Below.drew (by assumption)) (Below.mono hcall (Below.size (Below.drew (by assumption)))) | exact HW0.out.trans (hcall.mono (by simp <;> omega)) | exact HW0.out.drew.trans (hcall.mono (by simp <;> omega))); have q1 : w'.cell? ⟨w.heap.size, 0, none⟩ = some (.int .i64 y) := below_cell2 hcall (by first | assumption | (simp; done) | (simp [go_sem]; done) | simp [*]); have q2 : w'.cell? ⟨w.heap.size, 1, none⟩ = some (.int .i64 d) := below_cell2 hcall (by first | assumption | (simp; done) | (simp [go_sem]; done) | simp [*]); clear hcall) | (refine (isRatio_f _ _ (by assumption) _).mono ?_; rintro e w' ⟨rfl, hcall⟩; have hbw : Below w.heap.size w w' := (by first | exact Below.trans (by assumption) (Below.mono hcall (Below.size (by assumption))) | exact Below.trans (Below.drew (by assumption)) (Below.mono hcall (Below.size (Below.drew (by assumption)))) | exact HW0.out.trans (hcall.mono (by simp <;> omega)) | exact HW0.out.drew.trans (hcall.mono (by simp <;> omega))); have q1 : w'.cell? ⟨w.heap.size, 0, none⟩ = some (.int .i64 y) := below_cell2 hcall (by first | assumption | (simp; done) | (simp [go_sem]; done) | simp [*]); have q2 : w'.cell? ⟨w.heap.size, 1, none⟩ = some (.int .i64 d) := below_cell2 hcall (by first | assumption | (simp; done) | (simp [go_sem]; done) | simp [*]); clear hcall)) | (go_at_call 55; refine (HY.out _ _ _ (ints_lit2 _ _ _ _)).mono ?_; rintro e w2 ⟨rfl, hcall⟩; have hbw2 : Below w.heap.size w w2 := (hbw.alloc hbw.size _).trans (hcall.mono (by have := hbw.size; simp; omega)); clear hcall))
    go_ret3
    exact ⟨rfl, by assumption⟩
theorem yur_both (a b y d : Int) : ∃ (r1 r2 : Int) (ok : Bool), (∀ w, Calls Try.prog 18 #[.int .i64 a, .int .i64 b, .agg #[.int .i64 y, .int .i64 d]] w (RetIIB r1 r2 ok w)) ∧ ∀ w, Calls Try.prog 19 #[.int .i64 a, .int .i64 b, .agg #[.int .i64 y, .int .i64 d]] w (RetIIB r1 r2 ok w) :=
  ⟨_, _, _, fun w => specYur_any a b y d w, fun w => yur_any a b y d w⟩
end Go.Proofs.Ytmidobhfahpkcaa
