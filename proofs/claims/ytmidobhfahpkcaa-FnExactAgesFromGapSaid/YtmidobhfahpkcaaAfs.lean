/- AgesFromSum: both texts. -/
import Derived.Test.YtmidobhfahpkcaaAfk
set_option linter.unusedVariables false
set_option linter.unusedSimpArgs false
namespace Go.Proofs.Ytmidobhfahpkcaa
open Go.RowKit


set_option maxHeartbeats 4000000 in
set_option maxRecDepth 100000 in
theorem specAfs_any (s y d : Int) (w : World) : Calls Try.prog 20 #[.int .i64 s, .agg #[.int .i64 y, .int .i64 d]] w (RetI3B (anX (inB s 1 1000 && ratB (y, d)) (s * y) (s * d) (y + d)) (anY (inB s 1 1000 && ratB (y, d)) (s * y) (s * d) (y + d)) (anZ (inB s 1 1000 && ratB (y, d)) (s * y) (s * d) (y + d)) (anB (inB s 1 1000 && ratB (y, d)) (s * y) (s * d) (y + d)) w) := by
  have HW0 := Lib.hid ((Below.refl w.heap.size w).alloc (Nat.le_refl _) (.cells #[.int .i64 y, .int .i64 d] 25))
  cases h1 : inB s 1 1000 with
  | false =>
    rw [show (false && ratB (y, d)) = false by simp [h1]]
    obtain ⟨e1, e2, e3, e4⟩ := an_not (s * y) (s * d) (y + d)
    rw [e1, e2, e3, e4]
    clear e1 e2 e3 e4
    go_enter Try.func20, Try.ntmps20
    go_wp2_with (first | (go_at_call 56; first | (refine (l1In_t _ _ _ (by assumption) _).mono ?_; rintro e w' ⟨rfl, rfl⟩) | (refine (l1In_f _ _ _ (by assumption) _).mono ?_; rintro e w' ⟨rfl, rfl⟩)) | (go_at_call 49; first | (refine (raGood_t _ _ (by assumption) _).mono ?_; rintro e w' ⟨rfl, hcall⟩; have hbw : Below w.heap.size w w' := (by first | exact Below.trans (by assumption) (Below.mono hcall (Below.size (by assumption))) | exact Below.trans (Below.drew (by assumption)) (Below.mono hcall (Below.size (Below.drew (by assumption)))) | exact HW0.out.trans (hcall.mono (by simp <;> omega)) | exact HW0.out.drew.trans (hcall.mono (by simp <;> omega))); have q1 : w'.cell? ⟨w.heap.size, 0, none⟩ = some (.int .i64 y) := below_cell2 hcall (by first | assumption | (simp; done) | (simp [go_sem]; done) | simp [*]); have q2 : w'.cell? ⟨w.heap.size, 1, none⟩ = some (.int .i64 d) := below_cell2 hcall (by first | assumption | (simp; done) | (simp [go_sem]; done) | simp [*]); clear hcall) | (refine (raGood_f _ _ (by assumption) _).mono ?_; rintro e w' ⟨rfl, hcall⟩; have hbw : Below w.heap.size w w' := (by first | exact Below.trans (by assumption) (Below.mono hcall (Below.size (by assumption))) | exact Below.trans (Below.drew (by assumption)) (Below.mono hcall (Below.size (Below.drew (by assumption)))) | exact HW0.out.trans (hcall.mono (by simp <;> omega)) | exact HW0.out.drew.trans (hcall.mono (by simp <;> omega))); have q1 : w'.cell? ⟨w.heap.size, 0, none⟩ = some (.int .i64 y) := below_cell2 hcall (by first | assumption | (simp; done) | (simp [go_sem]; done) | simp [*]); have q2 : w'.cell? ⟨w.heap.size, 1, none⟩ = some (.int .i64 d) := below_cell2 hcall (by first | assumption | (simp; done) | (simp [go_sem]; done) | simp [*]); clear hcall)))
    refine bodyPost_ret (v := .tuple #[.int .i64 0, .int .i64 0, .int .i64 0, .bool false]) (by simp [results, Try.results20, go_sem]) rfl ?_
    exact ⟨rfl, by first | assumption | exact (Below.refl w.heap.size w).alloc (Nat.le_refl _) _⟩
  | true =>
  cases h2 : ratB (y, d) with
  | false =>
    rw [show (true && false) = false by simp [h1]]
    obtain ⟨e1, e2, e3, e4⟩ := an_not (s * y) (s * d) (y + d)
    rw [e1, e2, e3, e4]
    clear e1 e2 e3 e4
    go_enter Try.func20, Try.ntmps20
    go_wp2_with (first | (go_at_call 56; first | (refine (l1In_t _ _ _ (by assumption) _).mono ?_; rintro e w' ⟨rfl, rfl⟩) | (refine (l1In_f _ _ _ (by assumption) _).mono ?_; rintro e w' ⟨rfl, rfl⟩)) | (go_at_call 49; first | (refine (raGood_t _ _ (by assumption) _).mono ?_; rintro e w' ⟨rfl, hcall⟩; have hbw : Below w.heap.size w w' := (by first | exact Below.trans (by assumption) (Below.mono hcall (Below.size (by assumption))) | exact Below.trans (Below.drew (by assumption)) (Below.mono hcall (Below.size (Below.drew (by assumption)))) | exact HW0.out.trans (hcall.mono (by simp <;> omega)) | exact HW0.out.drew.trans (hcall.mono (by simp <;> omega))); have q1 : w'.cell? ⟨w.heap.size, 0, none⟩ = some (.int .i64 y) := below_cell2 hcall (by first | assumption | (simp; done) | (simp [go_sem]; done) | simp [*]); have q2 : w'.cell? ⟨w.heap.size, 1, none⟩ = some (.int .i64 d) := below_cell2 hcall (by first | assumption | (simp; done) | (simp [go_sem]; done) | simp [*]); clear hcall) | (refine (raGood_f _ _ (by assumption) _).mono ?_; rintro e w' ⟨rfl, hcall⟩; have hbw : Below w.heap.size w w' := (by first | exact Below.trans (by assumption) (Below.mono hcall (Below.size (by assumption))) | exact Below.trans (Below.drew (by assumption)) (Below.mono hcall (Below.size (Below.drew (by assumption)))) | exact HW0.out.trans (hcall.mono (by simp <;> omega)) | exact HW0.out.drew.trans (hcall.mono (by simp <;> omega))); have q1 : w'.cell? ⟨w.heap.size, 0, none⟩ = some (.int .i64 y) := below_cell2 hcall (by first | assumption | (simp; done) | (simp [go_sem]; done) | simp [*]); have q2 : w'.cell? ⟨w.heap.size, 1, none⟩ = some (.int .i64 d) := below_cell2 hcall (by first | assumption | (simp; done) | (simp [go_sem]; done) | simp [*]); clear hcall)))
    refine bodyPost_ret (v := .tuple #[.int .i64 0, .int .i64 0, .int .i64 0, .bool false]) (by simp [results, Try.results20, go_sem]) rfl ?_
    exact ⟨rfl, by first | assumption | exact (Below.refl w.heap.size w).alloc (Nat.le_refl _) _⟩
  | true =>
    rw [show (true && true) = true from rfl]
    obtain ⟨e1, e2, e3, e4⟩ := an_ok (s * y) (s * d) (y + d)
    rw [e1, e2, e3, e4]
    clear e1 e2 e3 e4
    have hs := inB_iff.1 h1
    obtain ⟨hy, hd⟩ := ratB_iff.1 h2
    simp only at hy hd
    have m1 := mul_bd (x := s) (y := y) (X := 1000) (Y := 100) ⟨by omega, by omega⟩ ⟨by omega, by omega⟩
    have m2 := mul_bd (x := s) (y := d) (X := 1000) (Y := 100) ⟨by omega, by omega⟩ ⟨by omega, by omega⟩
    have m3 : 1 ≤ s * y := Int.mul_pos (by omega) (by omega)
    have m4 : 1 ≤ s * d := Int.mul_pos (by omega) (by omega)
    have hf : fnd (s * y) (s * d) (y + d) = true := by simp [fnd]; omega
    rw [hf]
    have HT := Lib.hid (fun w => raThree_td (s * y) (s * d) (y + d) (s * y) (s * d) (y + d) w (by omega) (by omega) (by omega) (.inl ⟨rfl, rfl, rfl⟩))
    generalize tdX (s * y) (s * d) (y + d) = u1 at HT ⊢
    generalize tdY (s * y) (s * d) (y + d) = u2 at HT ⊢
    generalize tdZ (s * y) (s * d) (y + d) = u3 at HT ⊢
    go_enter Try.func20, Try.ntmps20
    go_wp2_with (first | (go_at_call 56; first | (refine (l1In_t _ _ _ (by assumption) _).mono ?_; rintro e w' ⟨rfl, rfl⟩) | (refine (l1In_f _ _ _ (by assumption) _).mono ?_; rintro e w' ⟨rfl, rfl⟩)) | (go_at_call 49; first | (refine (raGood_t _ _ (by assumption) _).mono ?_; rintro e w' ⟨rfl, hcall⟩; have hbw : Below w.heap.size w w' := (by first | exact Below.trans (by assumption) (Below.mono hcall (Below.size (by assumption))) | exact Below.trans (Below.drew (by assumption)) (Below.mono hcall (Below.size (Below.drew (by assumption)))) | exact HW0.out.trans (hcall.mono (by simp <;> omega)) | exact HW0.out.drew.trans (hcall.mono (by simp <;> omega))); have q1 : w'.cell? ⟨w.heap.size, 0, none⟩ = some (.int .i64 y) := below_cell2 hcall (by first | assumption | (simp; done) | (simp [go_sem]; done) | simp [*]); have q2 : w'.cell? ⟨w.heap.size, 1, none⟩ = some (.int .i64 d) := below_cell2 hcall (by first | assumption | (simp; done) | (simp [go_sem]; done) | simp [*]); clear hcall) | (refine (raGood_f _ _ (by assumption) _).mono ?_; rintro e w' ⟨rfl, hcall⟩; have hbw : Below w.heap.size w w' := (by first | exact Below.trans (by assumption) (Below.mono hcall (Below.size (by assumption))) | exact Below.trans (Below.drew (by assumption)) (Below.mono hcall (Below.size (Below.drew (by assumption)))) | exact HW0.out.trans (hcall.mono (by simp <;> omega)) | exact HW0.out.drew.trans (hcall.mono (by simp <;> omega))); have q1 : w'.cell? ⟨w.heap.size, 0, none⟩ = some (.int .i64 y) := below_cell2 hcall (by first | assumption | (simp; done) | (simp [go_sem]; done) | simp [*]); have q2 : w'.cell? ⟨w.heap.size, 1, none⟩ = some (.int .i64 d) := below_cell2 hcall (by first | assumption | (simp; done) | (simp [go_sem]; done) | simp [*]); clear hcall)) | (go_at_call 57; refine (HT.out _).mono ?_; rintro e w2 ⟨rfl, hcall⟩; have hbw2 : Below w.heap.size w w2 := hbw.trans (hcall.mono hbw.size); clear hcall))
    refine bodyPost_ret (v := .tuple #[.int .i64 u1, .int .i64 u2, .int .i64 u3, .bool true]) (by simp [results, Try.results20, go_sem]) rfl ?_
    exact ⟨rfl, by assumption⟩

set_option maxHeartbeats 4000000 in
set_option maxRecDepth 100000 in
theorem afs_any (s y d : Int) (w : World) : Calls Try.prog 21 #[.int .i64 s, .agg #[.int .i64 y, .int .i64 d]] w (RetI3B (anX (inB s 1 1000 && ratB (y, d)) (s * y) (s * d) (y + d)) (anY (inB s 1 1000 && ratB (y, d)) (s * y) (s * d) (y + d)) (anZ (inB s 1 1000 && ratB (y, d)) (s * y) (s * d) (y + d)) (anB (inB s 1 1000 && ratB (y, d)) (s * y) (s * d) (y + d)) w) := by
  have HW0 := Lib.hid ((Below.refl w.heap.size w).alloc (Nat.le_refl _) (.cells #[.int .i64 y, .int .i64 d] 25))
  cases h1 : inB s 1 1000 with
  | false =>
    rw [show (false && ratB (y, d)) = false by simp [h1]]
    obtain ⟨e1, e2, e3, e4⟩ := an_not (s * y) (s * d) (y + d)
    rw [e1, e2, e3, e4]
    clear e1 e2 e3 e4
    go_enter Try.func21, Try.ntmps21
    go_wp2_with (first | (go_at_call 50; first | (refine (isWithin_t _ _ _ (by assumption) _).mono ?_; rintro e w' ⟨rfl, rfl⟩) | (refine (isWithin_f _ _ _ (by assumption) _).mono ?_; rintro e w' ⟨rfl, rfl⟩)) | (go_at_call 17; first | (refine (isRatio_t _ _ (by assumption) _).mono ?_; rintro e w' ⟨rfl, hcall⟩; have hbw : Below w.heap.size w w' := (by first | exact Below.trans (by assumption) (Below.mono hcall (Below.size (by assumption))) | exact Below.trans (Below.drew (by assumption)) (Below.mono hcall (Below.size (Below.drew (by assumption)))) | exact HW0.out.trans (hcall.mono (by simp <;> omega)) | exact HW0.out.drew.trans (hcall.mono (by simp <;> omega))); have q1 : w'.cell? ⟨w.heap.size, 0, none⟩ = some (.int .i64 y) := below_cell2 hcall (by first | assumption | (simp; done) | (simp [go_sem]; done) | simp [*]); have q2 : w'.cell? ⟨w.heap.size, 1, none⟩ = some (.int .i64 d) := below_cell2 hcall (by first | assumption | (simp; done) | (simp [go_sem]; done) | simp [*]); clear hcall) | (refine (isRatio_f _ _ (by assumption) _).mono ?_; rintro e w' ⟨rfl, hcall⟩; have hbw : Below w.heap.size w w' := (by first | exact Below.trans (by assumption) (Below.mono hcall (Below.size (by assumption))) | exact Below.trans (Below.drew (by assumption)) (Below.mono hcall (Below.size (Below.drew (by assumption)))) | exact HW0.out.trans (hcall.mono (by simp <;> omega)) | exact HW0.out.drew.trans (hcall.mono (by simp <;> omega))); have q1 : w'.cell? ⟨w.heap.size, 0, none⟩ = some (.int .i64 y) := below_cell2 hcall (by first | assumption | (simp; done) | (simp [go_sem]; done) | simp [*]); have q2 : w'.cell? ⟨w.heap.size, 1, none⟩ = some (.int .i64 d) := below_cell2 hcall (by first | assumption | (simp; done) | (simp [go_sem]; done) | simp [*]); clear hcall)))
    refine bodyPost_ret (v := .tuple #[.int .i64 0, .int .i64 0, .int .i64 0, .bool false]) (by simp [results, Try.results21, go_sem]) rfl ?_
    exact ⟨rfl, by first | assumption | exact (Below.refl w.heap.size w).alloc (Nat.le_refl _) _⟩
  | true =>
  cases h2 : ratB (y, d) with
  | false =>
    rw [show (true && false) = false by simp [h1]]
    obtain ⟨e1, e2, e3, e4⟩ := an_not (s * y) (s * d) (y + d)
    rw [e1, e2, e3, e4]
    clear e1 e2 e3 e4
    go_enter Try.func21, Try.ntmps21
    go_wp2_with (first | (go_at_call 50; first | (refine (isWithin_t _ _ _ (by assumption) _).mono ?_; rintro e w' ⟨rfl, rfl⟩) | (refine (isWithin_f _ _ _ (by assumption) _).mono ?_; rintro e w' ⟨rfl, rfl⟩)) | (go_at_call 17; first | (refine (isRatio_t _ _ (by assumption) _).mono ?_; rintro e w' ⟨rfl, hcall⟩; have hbw : Below w.heap.size w w' := (by first | exact Below.trans (by assumption) (Below.mono hcall (Below.size (by assumption))) | exact Below.trans (Below.drew (by assumption)) (Below.mono hcall (Below.size (Below.drew (by assumption)))) | exact HW0.out.trans (hcall.mono (by simp <;> omega)) | exact HW0.out.drew.trans (hcall.mono (by simp <;> omega))); have q1 : w'.cell? ⟨w.heap.size, 0, none⟩ = some (.int .i64 y) := below_cell2 hcall (by first | assumption | (simp; done) | (simp [go_sem]; done) | simp [*]); have q2 : w'.cell? ⟨w.heap.size, 1, none⟩ = some (.int .i64 d) := below_cell2 hcall (by first | assumption | (simp; done) | (simp [go_sem]; done) | simp [*]); clear hcall) | (refine (isRatio_f _ _ (by assumption) _).mono ?_; rintro e w' ⟨rfl, hcall⟩; have hbw : Below w.heap.size w w' := (by first | exact Below.trans (by assumption) (Below.mono hcall (Below.size (by assumption))) | exact Below.trans (Below.drew (by assumption)) (Below.mono hcall (Below.size (Below.drew (by assumption)))) | exact HW0.out.trans (hcall.mono (by simp <;> omega)) | exact HW0.out.drew.trans (hcall.mono (by simp <;> omega))); have q1 : w'.cell? ⟨w.heap.size, 0, none⟩ = some (.int .i64 y) := below_cell2 hcall (by first | assumption | (simp; done) | (simp [go_sem]; done) | simp [*]); have q2 : w'.cell? ⟨w.heap.size, 1, none⟩ = some (.int .i64 d) := below_cell2 hcall (by first | assumption | (simp; done) | (simp [go_sem]; done) | simp [*]); clear hcall)))
    refine bodyPost_ret (v := .tuple #[.int .i64 0, .int .i64 0, .int .i64 0, .bool false]) (by simp [results, Try.results21, go_sem]) rfl ?_
    exact ⟨rfl, by first | assumption | exact (Below.refl w.heap.size w).alloc (Nat.le_refl _) _⟩
  | true =>
    rw [show (true && true) = true from rfl]
    obtain ⟨e1, e2, e3, e4⟩ := an_ok (s * y) (s * d) (y + d)
    rw [e1, e2, e3, e4]
    clear e1 e2 e3 e4
    have hs := inB_iff.1 h1
    obtain ⟨hy, hd⟩ := ratB_iff.1 h2
    simp only at hy hd
    have m1 := mul_bd (x := s) (y := y) (X := 1000) (Y := 100) ⟨by omega, by omega⟩ ⟨by omega, by omega⟩
    have m2 := mul_bd (x := s) (y := d) (X := 1000) (Y := 100) ⟨by omega, by omega⟩ ⟨by omega, by omega⟩
    have m3 : 1 ≤ s * y := Int.mul_pos (by omega) (by omega)
    have m4 : 1 ≤ s * d := Int.mul_pos (by omega) (by omega)
    have HC := Lib.hid (fun w => coupleOf_any (s * y) (s * d) (y + d) w (by omega) (by omega) (by omega))
    rw [show sg (y + d) (s * y) = s * y by simp [sg]; omega, show sg (y + d) (s * d) = s * d by simp [sg]; omega, show sg (y + d) (y + d) = y + d by simp [sg]; omega] at HC
    have HT := Lib.hid (fun w => told_any (s * y) (s * d) (y + d) w (by omega) (by omega) (by omega))
    generalize tdX (s * y) (s * d) (y + d) = u1 at HT ⊢
    generalize tdY (s * y) (s * d) (y + d) = u2 at HT ⊢
    generalize tdZ (s * y) (s * d) (y + d) = u3 at HT ⊢
    generalize fnd (s * y) (s * d) (y + d) = u4 at HT ⊢
    go_enter Try.func21, Try.ntmps21
    go_wp2_with (first | (go_at_call 50; first | (refine (isWithin_t _ _ _ (by assumption) _).mono ?_; rintro e w' ⟨rfl, rfl⟩) | (refine (isWithin_f _ _ _ (by assumption) _).mono ?_; rintro e w' ⟨rfl, rfl⟩)) | (go_at_call 17; first | (refine (isRatio_t _ _ (by assumption) _).mono ?_; rintro e w' ⟨rfl, hcall⟩; have hbw : Below w.heap.size w w' := (by first | exact Below.trans (by assumption) (Below.mono hcall (Below.size (by assumption))) | exact Below.trans (Below.drew (by assumption)) (Below.mono hcall (Below.size (Below.drew (by assumption)))) | exact HW0.out.trans (hcall.mono (by simp <;> omega)) | exact HW0.out.drew.trans (hcall.mono (by simp <;> omega))); have q1 : w'.cell? ⟨w.heap.size, 0, none⟩ = some (.int .i64 y) := below_cell2 hcall (by first | assumption | (simp; done) | (simp [go_sem]; done) | simp [*]); have q2 : w'.cell? ⟨w.heap.size, 1, none⟩ = some (.int .i64 d) := below_cell2 hcall (by first | assumption | (simp; done) | (simp [go_sem]; done) | simp [*]); clear hcall) | (refine (isRatio_f _ _ (by assumption) _).mono ?_; rintro e w' ⟨rfl, hcall⟩; have hbw : Below w.heap.size w w' := (by first | exact Below.trans (by assumption) (Below.mono hcall (Below.size (by assumption))) | exact Below.trans (Below.drew (by assumption)) (Below.mono hcall (Below.size (Below.drew (by assumption)))) | exact HW0.out.trans (hcall.mono (by simp <;> omega)) | exact HW0.out.drew.trans (hcall.mono (by simp <;> omega))); have q1 : w'.cell? ⟨w.heap.size, 0, none⟩ = some (.int .i64 y) := below_cell2 hcall (by first | assumption | (simp; done) | (simp [go_sem]; done) | simp [*]); have q2 : w'.cell? ⟨w.heap.size, 1, none⟩ = some (.int .i64 d) := below_cell2 hcall (by first | assumption | (simp; done) | (simp [go_sem]; done) | simp [*]); clear hcall)) | (go_at_call 58; refine (HC.out _).mono ?_; rintro e w2 ⟨rfl, hcall⟩; have hbw2 : Below w.heap.size w w2 := hbw.trans (hcall.mono hbw.size); clear hcall) | (go_at_call 59; refine (HT.out _).mono ?_; rintro e w3 ⟨rfl, hcall⟩; have hbw3 : Below w.heap.size w w3 := hbw2.trans (hcall.mono hbw2.size); clear hcall))
    refine bodyPost_ret (v := .tuple #[.int .i64 u1, .int .i64 u2, .int .i64 u3, .bool u4]) (by simp [results, Try.results21, go_sem]) rfl ?_
    exact ⟨rfl, by assumption⟩
theorem afs_both (s y d : Int) : ∃ (r1 r2 r3 : Int) (ok : Bool), (∀ w, Calls Try.prog 20 #[.int .i64 s, .agg #[.int .i64 y, .int .i64 d]] w (RetI3B r1 r2 r3 ok w)) ∧ ∀ w, Calls Try.prog 21 #[.int .i64 s, .agg #[.int .i64 y, .int .i64 d]] w (RetI3B r1 r2 r3 ok w) :=
  ⟨_, _, _, _, fun w => specAfs_any s y d w, fun w => afs_any s y d w⟩
end Go.Proofs.Ytmidobhfahpkcaa
