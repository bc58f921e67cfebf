/- AgesFromGap: both texts. -/
import Derived.Test.YtmidobhfahpkcaaAfs
set_option linter.unusedVariables false
set_option linter.unusedSimpArgs false
namespace Go.Proofs.Ytmidobhfahpkcaa
open Go.RowKit


set_option maxHeartbeats 8000000 in
set_option maxRecDepth 100000 in
theorem specAfg_any (s y d : Int) (w : World) : Calls Try.prog 22 #[.int .i64 s, .agg #[.int .i64 y, .int .i64 d]] w (RetI3B (anX (inB s (-120) 120 && ratB (y, d)) (sg (y - d) (s * y)) (sg (y - d) (s * d)) (sg (y - d) (y - d))) (anY (inB s (-120) 120 && ratB (y, d)) (sg (y - d) (s * y)) (sg (y - d) (s * d)) (sg (y - d) (y - d))) (anZ (inB s (-120) 120 && ratB (y, d)) (sg (y - d) (s * y)) (sg (y - d) (s * d)) (sg (y - d) (y - d))) (anB (inB s (-120) 120 && ratB (y, d)) (sg (y - d) (s * y)) (sg (y - d) (s * d)) (sg (y - d) (y - d))) w) := by
  have HW0 := Lib.hid ((Below.refl w.heap.size w).alloc (Nat.le_refl _) (.cells #[.int .i64 y, .int .i64 d] 25))
  cases h1 : inB s (-120) 120 with
  | false =>
    rw [show (false && ratB (y, d)) = false by simp [h1]]
    obtain ⟨e1, e2, e3, e4⟩ := an_not (sg (y - d) (s * y)) (sg (y - d) (s * d)) (sg (y - d) (y - d))
    rw [e1, e2, e3, e4]
    clear e1 e2 e3 e4
    go_enter Try.func22, Try.ntmps22
    go_wp2_with (first | (go_at_call 56; first | (refine (l1In_t _ _ _ (by assumption) _).mono ?_; rintro e w' ⟨rfl, rfl⟩) | (refine (l1In_f _ _ _ (by assumption) _).mono ?_; rintro e w' ⟨rfl, rfl⟩)) | (go_at_call 49; first | (refine (raGood_t _ _ (by assumption) _).mono ?_; rintro e w' ⟨rfl, hcall⟩; have hbw : Below w.heap.size w w' := (by first | exact Below.trans (by assumption) (Below.mono hcall (Below.size (by assumption))) | exact Below.trans (Below.drew (by assumption)) (Below.mono hcall (Below.size (Below.drew (by assumption)))) | exact HW0.out.trans (hcall.mono (by simp <;> omega)) | exact HW0.out.drew.trans (hcall.mono (by simp <;> omega))); have q1 : w'.cell? ⟨w.heap.size, 0, none⟩ = some (.int .i64 y) := below_cell2 hcall (by first | assumption | (simp; done) | (simp [go_sem]; done) | simp [*]); have q2 : w'.cell? ⟨w.heap.size, 1, none⟩ = some (.int .i64 d) := below_cell2 hcall (by first | assumption | (simp; done) | (simp [go_sem]; done) | simp [*]); clear hcall) | (refine (raGood_f _ _ (by assumption) _).mono ?_; rintro e w' ⟨rfl, hcall⟩; have hbw : Below w.heap.size w w' := (by first | exact Below.trans (by assumption) (Below.mono hcall (Below.size (by assumption))) | exact Below.trans (Below.drew (by assumption)) (Below.mono hcall (Below.size (Below.drew (by assumption)))) | exact HW0.out.trans (hcall.mono (by simp <;> omega)) | exact HW0.out.drew.trans (hcall.mono (by simp <;> omega))); have q1 : w'.cell? ⟨w.heap.size, 0, none⟩ = some (.int .i64 y) := below_cell2 hcall (by first | assumption | (simp; done) | (simp [go_sem]; done) | simp [*]); have q2 : w'.cell? ⟨w.heap.size, 1, none⟩ = some (.int .i64 d) := below_cell2 hcall (by first | assumption | (simp; done) | (simp [go_sem]; done) | simp [*]); clear hcall)))
    refine bodyPost_ret (v := .tuple #[.int .i64 0, .int .i64 0, .int .i64 0, .bool false]) (by simp [results, Try.results22, go_sem]) rfl ?_
    exact ⟨rfl, by first | assumption | exact (Below.refl w.heap.size w).alloc (Nat.le_refl _) _⟩
  | true =>
  by_cases hz : s = 0
  · subst hz
    have q : fnd (sg (y - d) (0 * y)) (sg (y - d) (0 * d)) (sg (y - d) (y - d)) = false := by simp [fnd, sg]
    obtain ⟨f1, f2, f3⟩ := td_not q
    have g1 : ∀ b : Bool, anX b (sg (y - d) (0 * y)) (sg (y - d) (0 * d)) (sg (y - d) (y - d)) = 0 ∧ anY b (sg (y - d) (0 * y)) (sg (y - d) (0 * d)) (sg (y - d) (y - d)) = 0 ∧ anZ b (sg (y - d) (0 * y)) (sg (y - d) (0 * d)) (sg (y - d) (y - d)) = 0 ∧ anB b (sg (y - d) (0 * y)) (sg (y - d) (0 * d)) (sg (y - d) (y - d)) = false := by
      intro b
      cases b
      · exact an_not _ _ _
      · obtain ⟨k1, k2, k3, k4⟩ := an_ok (sg (y - d) (0 * y)) (sg (y - d) (0 * d)) (sg (y - d) (y - d))
        rw [k1, k2, k3, k4]
        exact ⟨f1, f2, f3, q⟩
    obtain ⟨e1, e2, e3, e4⟩ := g1 (true && ratB (y, d))
    rw [e1, e2, e3, e4]
    clear e1 e2 e3 e4 g1 f1 f2 f3 q
    go_enter Try.func22, Try.ntmps22
    go_wp2_with (first | (go_at_call 56; first | (refine (l1In_t _ _ _ (by assumption) _).mono ?_; rintro e w' ⟨rfl, rfl⟩) | (refine (l1In_f _ _ _ (by assumption) _).mono ?_; rintro e w' ⟨rfl, rfl⟩)) | (go_at_call 49; first | (refine (raGood_t _ _ (by assumption) _).mono ?_; rintro e w' ⟨rfl, hcall⟩; have hbw : Below w.heap.size w w' := (by first | exact Below.trans (by assumption) (Below.mono hcall (Below.size (by assumption))) | exact Below.trans (Below.drew (by assumption)) (Below.mono hcall (Below.size (Below.drew (by assumption)))) | exact HW0.out.trans (hcall.mono (by simp <;> omega)) | exact HW0.out.drew.trans (hcall.mono (by simp <;> omega))); have q1 : w'.cell? ⟨w.heap.size, 0, none⟩ = some (.int .i64 y) := below_cell2 hcall (by first | assumption | (simp; done) | (simp [go_sem]; done) | simp [*]); have q2 : w'.cell? ⟨w.heap.size, 1, none⟩ = some (.int .i64 d) := below_cell2 hcall (by first | assumption | (simp; done) | (simp [go_sem]; done) | simp [*]); clear hcall) | (refine (raGood_f _ _ (by assumption) _).mono ?_; rintro e w' ⟨rfl, hcall⟩; have hbw : Below w.heap.size w w' := (by first | exact Below.trans (by assumption) (Below.mono hcall (Below.size (by assumption))) | exact Below.trans (Below.drew (by assumption)) (Below.mono hcall (Below.size (Below.drew (by assumption)))) | exact HW0.out.trans (hcall.mono (by simp <;> omega)) | exact HW0.out.drew.trans (hcall.mono (by simp <;> omega))); have q1 : w'.cell? ⟨w.heap.size, 0, none⟩ = some (.int .i64 y) := below_cell2 hcall (by first | assumption | (simp; done) | (simp [go_sem]; done) | simp [*]); have q2 : w'.cell? ⟨w.heap.size, 1, none⟩ = some (.int .i64 d) := below_cell2 hcall (by first | assumption | (simp; done) | (simp [go_sem]; done) | simp [*]); clear hcall)))
    refine bodyPost_ret (v := .tuple #[.int .i64 0, .int .i64 0, .int .i64 0, .bool false]) (by simp [results, Try.results22, go_sem]) rfl ?_
    exact ⟨rfl, by first | assumption | exact (Below.refl w.heap.size w).alloc (Nat.le_refl _) _⟩
  cases h2 : ratB (y, d) with
  | false =>
    rw [show (true && false) = false by simp [h1]]
    obtain ⟨e1, e2, e3, e4⟩ := an_not (sg (y - d) (s * y)) (sg (y - d) (s * d)) (sg (y - d) (y - d))
    rw [e1, e2, e3, e4]
    clear e1 e2 e3 e4
    go_enter Try.func22, Try.ntmps22
    go_wp2_with (first | (go_at_call 56; first | (refine (l1In_t _ _ _ (by assumption) _).mono ?_; rintro e w' ⟨rfl, rfl⟩) | (refine (l1In_f _ _ _ (by assumption) _).mono ?_; rintro e w' ⟨rfl, rfl⟩)) | (go_at_call 49; first | (refine (raGood_t _ _ (by assumption) _).mono ?_; rintro e w' ⟨rfl, hcall⟩; have hbw : Below w.heap.size w w' := (by first | exact Below.trans (by assumption) (Below.mono hcall (Below.size (by assumption))) | exact Below.trans (Below.drew (by assumption)) (Below.mono hcall (Below.size (Below.drew (by assumption)))) | exact HW0.out.trans (hcall.mono (by simp <;> omega)) | exact HW0.out.drew.trans (hcall.mono (by simp <;> omega))); have q1 : w'.cell? ⟨w.heap.size, 0, none⟩ = some (.int .i64 y) := below_cell2 hcall (by first | assumption | (simp; done) | (simp [go_sem]; done) | simp [*]); have q2 : w'.cell? ⟨w.heap.size, 1, none⟩ = some (.int .i64 d) := below_cell2 hcall (by first | assumption | (simp; done) | (simp [go_sem]; done) | simp [*]); clear hcall) | (refine (raGood_f _ _ (by assumption) _).mono ?_; rintro e w' ⟨rfl, hcall⟩; have hbw : Below w.heap.size w w' := (by first | exact Below.trans (by assumption) (Below.mono hcall (Below.size (by assumption))) | exact Below.trans (Below.drew (by assumption)) (Below.mono hcall (Below.size (Below.drew (by assumption)))) | exact HW0.out.trans (hcall.mono (by simp <;> omega)) | exact HW0.out.drew.trans (hcall.mono (by simp <;> omega))); have q1 : w'.cell? ⟨w.heap.size, 0, none⟩ = some (.int .i64 y) := below_cell2 hcall (by first | assumption | (simp; done) | (simp [go_sem]; done) | simp [*]); have q2 : w'.cell? ⟨w.heap.size, 1, none⟩ = some (.int .i64 d) := below_cell2 hcall (by first | assumption | (simp; done) | (simp [go_sem]; done) | simp [*]); clear hcall)))
    refine bodyPost_ret (v := .tuple #[.int .i64 0, .int .i64 0, .int .i64 0, .bool false]) (by simp [results, Try.results22, go_sem]) rfl ?_
    exact ⟨rfl, by first | assumption | exact (Below.refl w.heap.size w).alloc (Nat.le_refl _) _⟩
  | true =>
    have hs := inB_iff.1 h1
    obtain ⟨hy, hd⟩ := ratB_iff.1 h2
    simp only at hy hd
    have m1 := mul_bdS (x := s) (y := y) (X := 120) (Y := 100) ⟨by omega, by omega⟩ ⟨by omega, by omega⟩
    have m2 := mul_bdS (x := s) (y := d) (X := 120) (Y := 100) ⟨by omega, by omega⟩ ⟨by omega, by omega⟩
    rw [show (true && true) = true from rfl]
    obtain ⟨e1, e2, e3, e4⟩ := an_ok (sg (y - d) (s * y)) (sg (y - d) (s * d)) (sg (y - d) (y - d))
    rw [e1, e2, e3, e4]
    clear e1 e2 e3 e4
    have hpz : (s == 0) = false := beq_eq_false_iff_ne.2 hz
    have m5 := mul_bdS (x := y - d) (y := s.natAbs) (X := 100) (Y := 120) (by omega) (by omega)
    have m6 : (y - d) * s = s * y - s * d := by rw [Int.mul_comm, Int.mul_sub]
    have m7 : -12000 ≤ (y - d) * s ∧ (y - d) * s ≤ 12000 := by
      have := mul_bdS (x := y - d) (y := 120) (X := 100) (Y := 120) (by omega) (by omega)
      rcases Int.lt_or_lt_of_ne hz with h | h
      · have := mul_bdS (x := y - d) (y := -s) (X := 100) (Y := 120) (by omega) (by omega)
        rw [Int.mul_neg] at this; omega
      · have := mul_bdS (x := y - d) (y := s) (X := 100) (Y := 120) (by omega) (by omega)
        omega
    clear m5
    by_cases hn : (y - d) * s ≤ 0
    · have q : fnd (sg (y - d) (s * y)) (sg (y - d) (s * d)) (sg (y - d) (y - d)) = false := by
        by_cases hyd : y - d < 0
        · have hsp : 0 ≤ s := by
            refine Int.not_lt.1 fun hlt => ?_
            have := Int.mul_pos_of_neg_of_neg hyd hlt
            omega
          have : ¬ 0 < -(s * y) := by have := Int.mul_nonneg hsp (show 0 ≤ y by omega); omega
          simp only [fnd, sg, if_pos hyd, this, decide_false, Bool.and_false, Bool.false_and]
        · by_cases h0 : y - d = 0
          · have : ¬ 0 < sg (y - d) (y - d) := by unfold sg; split <;> omega
            simp only [fnd, this, decide_false, Bool.false_and]
          · have hsp : s ≤ 0 := by
              refine Int.not_lt.1 fun hlt => ?_
              have := Int.mul_pos (show 0 < y - d by omega) hlt
              omega
            have : ¬ 0 < s * y := by have := Int.mul_nonneg (show 0 ≤ -s by omega) (show 0 ≤ y by omega); rw [Int.neg_mul] at this; omega
            simp only [fnd, sg, if_neg hyd, this, decide_false, Bool.and_false, Bool.false_and]
      obtain ⟨f1, f2, f3⟩ := td_not q
      rw [f1, f2, f3, q]
      clear f1 f2 f3 q m6
      go_enter Try.func22, Try.ntmps22
      go_wp2_with (first | (go_at_call 56; first | (refine (l1In_t _ _ _ (by assumption) _).mono ?_; rintro e w' ⟨rfl, rfl⟩) | (refine (l1In_f _ _ _ (by assumption) _).mono ?_; rintro e w' ⟨rfl, rfl⟩)) | (go_at_call 49; first | (refine (raGood_t _ _ (by assumption) _).mono ?_; rintro e w' ⟨rfl, hcall⟩; have hbw : Below w.heap.size w w' := (by first | exact Below.trans (by assumption) (Below.mono hcall (Below.size (by assumption))) | exact Below.trans (Below.drew (by assumption)) (Below.mono hcall (Below.size (Below.drew (by assumption)))) | exact HW0.out.trans (hcall.mono (by simp <;> omega)) | exact HW0.out.drew.trans (hcall.mono (by simp <;> omega))); have q1 : w'.cell? ⟨w.heap.size, 0, none⟩ = some (.int .i64 y) := below_cell2 hcall (by first | assumption | (simp; done) | (simp [go_sem]; done) | simp [*]); have q2 : w'.cell? ⟨w.heap.size, 1, none⟩ = some (.int .i64 d) := below_cell2 hcall (by first | assumption | (simp; done) | (simp [go_sem]; done) | simp [*]); clear hcall) | (refine (raGood_f _ _ (by assumption) _).mono ?_; rintro e w' ⟨rfl, hcall⟩; have hbw : Below w.heap.size w w' := (by first | exact Below.trans (by assumption) (Below.mono hcall (Below.size (by assumption))) | exact Below.trans (Below.drew (by assumption)) (Below.mono hcall (Below.size (Below.drew (by assumption)))) | exact HW0.out.trans (hcall.mono (by simp <;> omega)) | exact HW0.out.drew.trans (hcall.mono (by simp <;> omega))); have q1 : w'.cell? ⟨w.heap.size, 0, none⟩ = some (.int .i64 y) := below_cell2 hcall (by first | assumption | (simp; done) | (simp [go_sem]; done) | simp [*]); have q2 : w'.cell? ⟨w.heap.size, 1, none⟩ = some (.int .i64 d) := below_cell2 hcall (by first | assumption | (simp; done) | (simp [go_sem]; done) | simp [*]); clear hcall)))
      refine bodyPost_ret (v := .tuple #[.int .i64 0, .int .i64 0, .int .i64 0, .bool false]) (by simp [results, Try.results22, go_sem]) rfl ?_
      exact ⟨rfl, by first | assumption | exact (Below.refl w.heap.size w).alloc (Nat.le_refl _) _⟩
    · have hk : (y - d < 0 ∧ s < 0) ∨ (0 < y - d ∧ 0 < s) := by
        rcases Int.lt_trichotomy (y - d) 0 with h | h | h
        · refine .inl ⟨h, Int.not_le.1 fun hle => hn ?_⟩
          have := Int.mul_nonneg (show 0 ≤ -(y - d) by omega) hle
          rw [Int.neg_mul] at this; omega
        · rw [h] at hn; simp at hn
        · refine .inr ⟨h, Int.not_le.1 fun hle => hn ?_⟩
          have := Int.mul_nonneg (show 0 ≤ y - d by omega) (show 0 ≤ -s by omega)
          rw [Int.mul_neg] at this; omega
      have HQ : Hid (((s * y = sg (y - d) (s * y) ∧ s * d = sg (y - d) (s * d) ∧ y - d = sg (y - d) (y - d)) ∨ (s * y = -sg (y - d) (s * y) ∧ s * d = -sg (y - d) (s * d) ∧ y - d = -sg (y - d) (y - d))) ∧ (1 ≤ sg (y - d) (s * y) ∧ sg (y - d) (s * y) ≤ 100000) ∧ (1 ≤ sg (y - d) (s * d) ∧ sg (y - d) (s * d) ≤ 100000) ∧ 1 ≤ sg (y - d) (y - d) ∧ sg (y - d) (y - d) ≤ 100000) := Lib.hid (by
        rcases hk with ⟨k1, k2⟩ | ⟨k1, k2⟩
        · have p1 : 1 ≤ -s * y := Int.mul_pos (by omega) (by omega)
          have p2 : 1 ≤ -s * d := Int.mul_pos (by omega) (by omega)
          rw [Int.neg_mul] at p1 p2
          have s1 : ∀ t, sg (y - d) t = -t := fun t => if_pos k1
          rw [s1, s1, s1]
          exact ⟨.inr ⟨by omega, by omega, by omega⟩, ⟨by omega, by omega⟩, ⟨by omega, by omega⟩, by omega, by omega⟩
        · have p1 : 1 ≤ s * y := Int.mul_pos (by omega) (by omega)
          have p2 : 1 ≤ s * d := Int.mul_pos (by omega) (by omega)
          have s1 : ∀ t, sg (y - d) t = t := fun t => if_neg (by omega)
          rw [s1, s1, s1]
          exact ⟨.inl ⟨rfl, rfl, rfl⟩, ⟨by omega, by omega⟩, ⟨by omega, by omega⟩, by omega, by omega⟩)
      have q : fnd (sg (y - d) (s * y)) (sg (y - d) (s * d)) (sg (y - d) (y - d)) = true := by have := HQ.out; simp [fnd]; omega
      rw [q]
      have HT := Lib.hid (fun w => raThree_td (s * y) (s * d) (y - d) (sg (y - d) (s * y)) (sg (y - d) (s * d)) (sg (y - d) (y - d)) w (by have := HQ.out; omega) (by have := HQ.out; omega) (by have := HQ.out; omega) HQ.out.1)
      clear HQ q
      generalize tdX (sg (y - d) (s * y)) (sg (y - d) (s * d)) (sg (y - d) (y - d)) = u1 at HT ⊢
      generalize tdY (sg (y - d) (s * y)) (sg (y - d) (s * d)) (sg (y - d) (y - d)) = u2 at HT ⊢
      generalize tdZ (sg (y - d) (s * y)) (sg (y - d) (s * d)) (sg (y - d) (y - d)) = u3 at HT ⊢
      clear hk m6
      go_enter Try.func22, Try.ntmps22
      go_wp2_with (first | (go_at_call 56; first | (refine (l1In_t _ _ _ (by assumption) _).mono ?_; rintro e w' ⟨rfl, rfl⟩) | (refine (l1In_f _ _ _ (by assumption) _).mono ?_; rintro e w' ⟨rfl, rfl⟩)) | (go_at_call 49; first | (refine (raGood_t _ _ (by assumption) _).mono ?_; rintro e w' ⟨rfl, hcall⟩; have hbw : Below w.heap.size w w' := (by first | exact Below.trans (by assumption) (Below.mono hcall (Below.size (by assumption))) | exact Below.trans (Below.drew (by assumption)) (Below.mono hcall (Below.size (Below.drew (by assumption)))) | exact HW0.out.trans (hcall.mono (by simp <;> omega)) | exact HW0.out.drew.trans (hcall.mono (by simp <;> omega))); have q1 : w'.cell? ⟨w.heap.size, 0, none⟩ = some (.int .i64 y) := below_cell2 hcall (by first | assumption | (simp; done) | (simp [go_sem]; done) | simp [*]); have q2 : w'.cell? ⟨w.heap.size, 1, none⟩ = some (.int .i64 d) := below_cell2 hcall (by first | assumption | (simp; done) | (simp [go_sem]; done) | simp [*]); clear hcall) | (refine (raGood_f _ _ (by assumption) _).mono ?_; rintro e w' ⟨rfl, hcall⟩; have hbw : Below w.heap.size w w' := (by first | exact Below.trans (by assumption) (Below.mono hcall (Below.size (by assumption))) | exact Below.trans (Below.drew (by assumption)) (Below.mono hcall (Below.size (Below.drew (by assumption)))) | exact HW0.out.trans (hcall.mono (by simp <;> omega)) | exact HW0.out.drew.trans (hcall.mono (by simp <;> omega))); have q1 : w'.cell? ⟨w.heap.size, 0, none⟩ = some (.int .i64 y) := below_cell2 hcall (by first | assumption | (simp; done) | (simp [go_sem]; done) | simp [*]); have q2 : w'.cell? ⟨w.heap.size, 1, none⟩ = some (.int .i64 d) := below_cell2 hcall (by first | assumption | (simp; done) | (simp [go_sem]; done) | simp [*]); clear hcall)) | (go_at_call 57; refine (HT.out _).mono ?_; rintro e w2 ⟨rfl, hcall⟩; have hbw2 : Below w.heap.size w w2 := hbw.trans (hcall.mono hbw.size); clear hcall))
      refine bodyPost_ret (v := .tuple #[.int .i64 u1, .int .i64 u2, .int .i64 u3, .bool true]) (by simp [results, Try.results22, go_sem]) rfl ?_
      exact ⟨rfl, by assumption⟩

set_option maxHeartbeats 8000000 in
set_option maxRecDepth 100000 in
theorem afg_any (s y d : Int) (w : World) : Calls Try.prog 23 #[.int .i64 s, .agg #[.int .i64 y, .int .i64 d]] w (RetI3B (anX (inB s (-120) 120 && ratB (y, d)) (sg (y - d) (s * y)) (sg (y - d) (s * d)) (sg (y - d) (y - d))) (anY (inB s (-120) 120 && ratB (y, d)) (sg (y - d) (s * y)) (sg (y - d) (s * d)) (sg (y - d) (y - d))) (anZ (inB s (-120) 120 && ratB (y, d)) (sg (y - d) (s * y)) (sg (y - d) (s * d)) (sg (y - d) (y - d))) (anB (inB s (-120) 120 && ratB (y, d)) (sg (y - d) (s * y)) (sg (y - d) (s * d)) (sg (y - d) (y - d))) w) := by
  have HW0 := Lib.hid ((Below.refl w.heap.size w).alloc (Nat.le_refl _) (.cells #[.int .i64 y, .int .i64 d] 25))
  cases h1 : inB s (-120) 120 with
  | false =>
    rw [show (false && ratB (y, d)) = false by simp [h1]]
    obtain ⟨e1, e2, e3, e4⟩ := an_not (sg (y - d) (s * y)) (sg (y - d) (s * d)) (sg (y - d) (y - d))
    rw [e1, e2, e3, e4]
    clear e1 e2 e3 e4
    go_enter Try.func23, Try.ntmps23
    go_wp2_with (first | (go_at_call 50; first | (refine (isWithin_t _ _ _ (by assumption) _).mono ?_; rintro e w' ⟨rfl, rfl⟩) | (refine (isWithin_f _ _ _ (by assumption) _).mono ?_; rintro e w' ⟨rfl, rfl⟩)) | (go_at_call 17; first | (refine (isRatio_t _ _ (by assumption) _).mono ?_; rintro e w' ⟨rfl, hcall⟩; have hbw : Below w.heap.size w w' := (by first | exact Below.trans (by assumption) (Below.mono hcall (Below.size (by assumption))) | exact Below.trans (Below.drew (by assumption)) (Below.mono hcall (Below.size (Below.drew (by assumption)))) | exact HW0.out.trans (hcall.mono (by simp <;> omega)) | exact HW0.out.drew.trans (hcall.mono (by simp <;> omega))); have q1 : w'.cell? ⟨w.heap.size, 0, none⟩ = some (.int .i64 y) := below_cell2 hcall (by first | assumption | (simp; done) | (simp [go_sem]; done) | simp [*]); have q2 : w'.cell? ⟨w.heap.size, 1, none⟩ = some (.int .i64 d) := below_cell2 hcall (by first | assumption | (simp; done) | (simp [go_sem]; done) | simp [*]); clear hcall) | (refine (isRatio_f _ _ (by assumption) _).mono ?_; rintro e w' ⟨rfl, hcall⟩; have hbw : Below w.heap.size w w' := (by first | exact Below.trans (by assumption) (Below.mono hcall (Below.size (by assumption))) | exact Below.trans (Below.drew (by assumption)) (Below.mono hcall (Below.size (Below.drew (by assumption)))) | exact HW0.out.trans (hcall.mono (by simp <;> omega)) | exact HW0.out.drew.trans (hcall.mono (by simp <;> omega))); have q1 : w'.cell? ⟨w.heap.size, 0, none⟩ = some (.int .i64 y) := below_cell2 hcall (by first | assumption | (simp; done) | (simp [go_sem]; done) | simp [*]); have q2 : w'.cell? ⟨w.heap.size, 1, none⟩ = some (.int .i64 d) := below_cell2 hcall (by first | assumption | (simp; done) | (simp [go_sem]; done) | simp [*]); clear hcall)))
    refine bodyPost_ret (v := .tuple #[.int .i64 0, .int .i64 0, .int .i64 0, .bool false]) (by simp [results, Try.results23, go_sem]) rfl ?_
    exact ⟨rfl, by first | assumption | exact (Below.refl w.heap.size w).alloc (Nat.le_refl _) _⟩
  | true =>
  cases h2 : ratB (y, d) with
  | false =>
    rw [show (true && false) = false by simp [h1]]
    obtain ⟨e1, e2, e3, e4⟩ := an_not (sg (y - d) (s * y)) (sg (y - d) (s * d)) (sg (y - d) (y - d))
    rw [e1, e2, e3, e4]
    clear e1 e2 e3 e4
    go_enter Try.func23, Try.ntmps23
    go_wp2_with (first | (go_at_call 50; first | (refine (isWithin_t _ _ _ (by assumption) _).mono ?_; rintro e w' ⟨rfl, rfl⟩) | (refine (isWithin_f _ _ _ (by assumption) _).mono ?_; rintro e w' ⟨rfl, rfl⟩)) | (go_at_call 17; first | (refine (isRatio_t _ _ (by assumption) _).mono ?_; rintro e w' ⟨rfl, hcall⟩; have hbw : Below w.heap.size w w' := (by first | exact Below.trans (by assumption) (Below.mono hcall (Below.size (by assumption))) | exact Below.trans (Below.drew (by assumption)) (Below.mono hcall (Below.size (Below.drew (by assumption)))) | exact HW0.out.trans (hcall.mono (by simp <;> omega)) | exact HW0.out.drew.trans (hcall.mono (by simp <;> omega))); have q1 : w'.cell? ⟨w.heap.size, 0, none⟩ = some (.int .i64 y) := below_cell2 hcall (by first | assumption | (simp; done) | (simp [go_sem]; done) | simp [*]); have q2 : w'.cell? ⟨w.heap.size, 1, none⟩ = some (.int .i64 d) := below_cell2 hcall (by first | assumption | (simp; done) | (simp [go_sem]; done) | simp [*]); clear hcall) | (refine (isRatio_f _ _ (by assumption) _).mono ?_; rintro e w' ⟨rfl, hcall⟩; have hbw : Below w.heap.size w w' := (by first | exact Below.trans (by assumption) (Below.mono hcall (Below.size (by assumption))) | exact Below.trans (Below.drew (by assumption)) (Below.mono hcall (Below.size (Below.drew (by assumption)))) | exact HW0.out.trans (hcall.mono (by simp <;> omega)) | exact HW0.out.drew.trans (hcall.mono (by simp <;> omega))); have q1 : w'.cell? ⟨w.heap.size, 0, none⟩ = some (.int .i64 y) := below_cell2 hcall (by first | assumption | (simp; done) | (simp [go_sem]; done) | simp [*]); have q2 : w'.cell? ⟨w.heap.size, 1, none⟩ = some (.int .i64 d) := below_cell2 hcall (by first | assumption | (simp; done) | (simp [go_sem]; done) | simp [*]); clear hcall)))
    refine bodyPost_ret (v := .tuple #[.int .i64 0, .int .i64 0, .int .i64 0, .bool false]) (by simp [results, Try.results23, go_sem]) rfl ?_
    exact ⟨rfl, by first | assumption | exact (Below.refl w.heap.size w).alloc (Nat.le_refl _) _⟩
  | true =>
    have hs := inB_iff.1 h1
    obtain ⟨hy, hd⟩ := ratB_iff.1 h2
    simp only at hy hd
    have m1 := mul_bdS (x := s) (y := y) (X := 120) (Y := 100) ⟨by omega, by omega⟩ ⟨by omega, by omega⟩
    have m2 := mul_bdS (x := s) (y := d) (X := 120) (Y := 100) ⟨by omega, by omega⟩ ⟨by omega, by omega⟩
    rw [show (true && true) = true from rfl]
    obtain ⟨e1, e2, e3, e4⟩ := an_ok (sg (y - d) (s * y)) (sg (y - d) (s * d)) (sg (y - d) (y - d))
    rw [e1, e2, e3, e4]
    clear e1 e2 e3 e4
    have HC := Lib.hid (fun w => coupleOf_any (s * y) (s * d) (y - d) w (by omega) (by omega) (by omega))
    have hz1 : -1000 ≤ sg (y - d) (y - d) ∧ sg (y - d) (y - d) ≤ 1000 := by unfold sg; split <;> omega
    have hx1 : -100000 ≤ sg (y - d) (s * y) ∧ sg (y - d) (s * y) ≤ 100000 := by unfold sg; split <;> omega
    have hy1 : -100000 ≤ sg (y - d) (s * d) ∧ sg (y - d) (s * d) ≤ 100000 := by unfold sg; split <;> omega
    generalize sg (y - d) (s * y) = X at *
    generalize sg (y - d) (s * d) = Y at *
    generalize sg (y - d) (y - d) = Z at *
    have HT := Lib.hid (fun w => told_any X Y Z w (by omega) (by omega) (by omega))
    generalize tdX X Y Z = u1 at HT ⊢
    generalize tdY X Y Z = u2 at HT ⊢
    generalize tdZ X Y Z = u3 at HT ⊢
    generalize fnd X Y Z = u4 at HT ⊢
    go_enter Try.func23, Try.ntmps23
    go_wp2_with (first | (go_at_call 50; first | (refine (isWithin_t _ _ _ (by assumption) _).mono ?_; rintro e w' ⟨rfl, rfl⟩) | (refine (isWithin_f _ _ _ (by assumption) _).mono ?_; rintro e w' ⟨rfl, rfl⟩)) | (go_at_call 17; first | (refine (isRatio_t _ _ (by assumption) _).mono ?_; rintro e w' ⟨rfl, hcall⟩; have hbw : Below w.heap.size w w' := (by first | exact Below.trans (by assumption) (Below.mono hcall (Below.size (by assumption))) | exact Below.trans (Below.drew (by assumption)) (Below.mono hcall (Below.size (Below.drew (by assumption)))) | exact HW0.out.trans (hcall.mono (by simp <;> omega)) | exact HW0.out.drew.trans (hcall.mono (by simp <;> omega))); have q1 : w'.cell? ⟨w.heap.size, 0, none⟩ = some (.int .i64 y) := below_cell2 hcall (by first | assumption | (simp; done) | (simp [go_sem]; done) | simp [*]); have q2 : w'.cell? ⟨w.heap.size, 1, none⟩ = some (.int .i64 d) := below_cell2 hcall (by first | assumption | (simp; done) | (simp [go_sem]; done) | simp [*]); clear hcall) | (refine (isRatio_f _ _ (by assumption) _).mono ?_; rintro e w' ⟨rfl, hcall⟩; have hbw : Below w.heap.size w w' := (by first | exact Below.trans (by assumption) (Below.mono hcall (Below.size (by assumption))) | exact Below.trans (Below.drew (by assumption)) (Below.mono hcall (Below.size (Below.drew (by assumption)))) | exact HW0.out.trans (hcall.mono (by simp <;> omega)) | exact HW0.out.drew.trans (hcall.mono (by simp <;> omega))); have q1 : w'.cell? ⟨w.heap.size, 0, none⟩ = some (.int .i64 y) := below_cell2 hcall (by first | assumption | (simp; done) | (simp [go_sem]; done) | simp [*]); have q2 : w'.cell? ⟨w.heap.size, 1, none⟩ = some (.int .i64 d) := below_cell2 hcall (by first | assumption | (simp; done) | (simp [go_sem]; done) | simp [*]); clear hcall)) | (go_at_call 58; refine (HC.out _).mono ?_; rintro e w2 ⟨rfl, hcall⟩; have hbw2 : Below w.heap.size w w2 := hbw.trans (hcall.mono hbw.size); clear hcall) | (go_at_call 59; refine (HT.out _).mono ?_; rintro e w3 ⟨rfl, hcall⟩; have hbw3 : Below w.heap.size w w3 := hbw2.trans (hcall.mono hbw2.size); clear hcall))
    refine bodyPost_ret (v := .tuple #[.int .i64 u1, .int .i64 u2, .int .i64 u3, .bool u4]) (by simp [results, Try.results23, go_sem]) rfl ?_
    exact ⟨rfl, by assumption⟩
theorem afg_both (s y d : Int) : ∃ (r1 r2 r3 : Int) (ok : Bool), (∀ w, Calls Try.prog 22 #[.int .i64 s, .agg #[.int .i64 y, .int .i64 d]] w (RetI3B r1 r2 r3 ok w)) ∧ ∀ w, Calls Try.prog 23 #[.int .i64 s, .agg #[.int .i64 y, .int .i64 d]] w (RetI3B r1 r2 r3 ok w) :=
  ⟨_, _, _, _, fun w => specAfg_any s y d w, fun w => afg_any s y d w⟩
end Go.Proofs.Ytmidobhfahpkcaa
