/- AgesFromTwo: the model's text. -/
import Derived.Test.YtmidobhfahpkcaaAftw
set_option linter.unusedVariables false
set_option linter.unusedSimpArgs false
namespace Go.Proofs.Ytmidobhfahpkcaa
open Go.RowKit


set_option maxHeartbeats 16000000 in
set_option maxRecDepth 100000 in
theorem specAft_any (p q r s n : Int) (w : World) : Calls Try.prog 24 #[.agg #[.int .i64 p, .int .i64 q], .agg #[.int .i64 r, .int .i64 s], .int .i64 n] w (RetI3B (anX (twOk p q r s n && twF p q r s n) (twX p q r s n) (twY p q r s n) (twZ p q r s)) (anY (twOk p q r s n && twF p q r s n) (twX p q r s n) (twY p q r s n) (twZ p q r s)) (anZ (twOk p q r s n && twF p q r s n) (twX p q r s n) (twY p q r s n) (twZ p q r s)) (anB (twOk p q r s n && twF p q r s n) (twX p q r s n) (twY p q r s n) (twZ p q r s)) w) := by
  have HW0 := Lib.hid (((Below.refl w.heap.size w).alloc (Nat.le_refl _) (.cells #[.int .i64 p, .int .i64 q] 25)).alloc (by simp) (.cells #[.int .i64 r, .int .i64 s] 25))
  cases h1 : ratB (p, q) with
  | false =>
    rw [show (twOk p q r s n && twF p q r s n) = false by simp [twOk, *]]
    obtain ⟨e1, e2, e3, e4⟩ := an_not (twX p q r s n) (twY p q r s n) (twZ p q r s)
    rw [e1, e2, e3, e4]
    clear e1 e2 e3 e4
    go_enter Try.func24, Try.ntmps24
    go_wp2_with (first | (go_at_call 56; first | (refine (l1In_t _ _ _ (by assumption) _).mono ?_; rintro e w' ⟨rfl, rfl⟩) | (refine (l1In_f _ _ _ (by assumption) _).mono ?_; rintro e w' ⟨rfl, rfl⟩)) | (go_at_call 49; first | (refine (raGood_t _ _ (by assumption) _).mono ?_; rintro e w' ⟨rfl, hcall⟩; have hbw : Below w.heap.size w w' := (by first | exact Below.trans (by assumption) (Below.mono hcall (Below.size (by assumption))) | exact Below.trans (Below.drew (by assumption)) (Below.mono hcall (Below.size (Below.drew (by assumption)))) | exact HW0.out.trans (hcall.mono (by simp <;> omega)) | exact HW0.out.drew.trans (hcall.mono (by simp <;> omega))); have q1 : w'.cell? ⟨w.heap.size, 0, none⟩ = some (.int .i64 p) := below_cell2 hcall (by first | assumption | (simp; done) | (simp [go_sem]; done) | simp [*]); have q2 : w'.cell? ⟨w.heap.size, 1, none⟩ = some (.int .i64 q) := below_cell2 hcall (by first | assumption | (simp; done) | (simp [go_sem]; done) | simp [*]); have q3 : w'.cell? ⟨w.heap.size + 1, 0, none⟩ = some (.int .i64 r) := below_cell2 hcall (by first | assumption | (simp; done) | (simp [go_sem]; done) | simp [*]); have q4 : w'.cell? ⟨w.heap.size + 1, 1, none⟩ = some (.int .i64 s) := below_cell2 hcall (by first | assumption | (simp; done) | (simp [go_sem]; done) | simp [*]); clear hcall) | (refine (raGood_f _ _ (by assumption) _).mono ?_; rintro e w' ⟨rfl, hcall⟩; have hbw : Below w.heap.size w w' := (by first | exact Below.trans (by assumption) (Below.mono hcall (Below.size (by assumption))) | exact Below.trans (Below.drew (by assumption)) (Below.mono hcall (Below.size (Below.drew (by assumption)))) | exact HW0.out.trans (hcall.mono (by simp <;> omega)) | exact HW0.out.drew.trans (hcall.mono (by simp <;> omega))); have q1 : w'.cell? ⟨w.heap.size, 0, none⟩ = some (.int .i64 p) := below_cell2 hcall (by first | assumption | (simp; done) | (simp [go_sem]; done) | simp [*]); have q2 : w'.cell? ⟨w.heap.size, 1, none⟩ = some (.int .i64 q) := below_cell2 hcall (by first | assumption | (simp; done) | (simp [go_sem]; done) | simp [*]); have q3 : w'.cell? ⟨w.heap.size + 1, 0, none⟩ = some (.int .i64 r) := below_cell2 hcall (by first | assumption | (simp; done) | (simp [go_sem]; done) | simp [*]); have q4 : w'.cell? ⟨w.heap.size + 1, 1, none⟩ = some (.int .i64 s) := below_cell2 hcall (by first | assumption | (simp; done) | (simp [go_sem]; done) | simp [*]); clear hcall)))
    refine bodyPost_ret (v := .tuple #[.int .i64 0, .int .i64 0, .int .i64 0, .bool false]) (by simp [results, Try.results24, go_sem]) rfl ?_
    exact ⟨rfl, by first | assumption | exact ((Below.refl w.heap.size w).alloc (Nat.le_refl _) _).alloc (by simp) _⟩
  | true =>
  cases h2 : ratB (r, s) with
  | false =>
    rw [show (twOk p q r s n && twF p q r s n) = false by simp [twOk, *]]
    obtain ⟨e1, e2, e3, e4⟩ := an_not (twX p q r s n) (twY p q r s n) (twZ p q r s)
    rw [e1, e2, e3, e4]
    clear e1 e2 e3 e4
    go_enter Try.func24, Try.ntmps24
    go_wp2_with (first | (go_at_call 56; first | (refine (l1In_t _ _ _ (by assumption) _).mono ?_; rintro e w' ⟨rfl, rfl⟩) | (refine (l1In_f _ _ _ (by assumption) _).mono ?_; rintro e w' ⟨rfl, rfl⟩)) | (go_at_call 49; first | (refine (raGood_t _ _ (by assumption) _).mono ?_; rintro e w' ⟨rfl, hcall⟩; have hbw : Below w.heap.size w w' := (by first | exact Below.trans (by assumption) (Below.mono hcall (Below.size (by assumption))) | exact Below.trans (Below.drew (by assumption)) (Below.mono hcall (Below.size (Below.drew (by assumption)))) | exact HW0.out.trans (hcall.mono (by simp <;> omega)) | exact HW0.out.drew.trans (hcall.mono (by simp <;> omega))); have q1 : w'.cell? ⟨w.heap.size, 0, none⟩ = some (.int .i64 p) := below_cell2 hcall (by first | assumption | (simp; done) | (simp [go_sem]; done) | simp [*]); have q2 : w'.cell? ⟨w.heap.size, 1, none⟩ = some (.int .i64 q) := below_cell2 hcall (by first | assumption | (simp; done) | (simp [go_sem]; done) | simp [*]); have q3 : w'.cell? ⟨w.heap.size + 1, 0, none⟩ = some (.int .i64 r) := below_cell2 hcall (by first | assumption | (simp; done) | (simp [go_sem]; done) | simp [*]); have q4 : w'.cell? ⟨w.heap.size + 1, 1, none⟩ = some (.int .i64 s) := below_cell2 hcall (by first | assumption | (simp; done) | (simp [go_sem]; done) | simp [*]); clear hcall) | (refine (raGood_f _ _ (by assumption) _).mono ?_; rintro e w' ⟨rfl, hcall⟩; have hbw : Below w.heap.size w w' := (by first | exact Below.trans (by assumption) (Below.mono hcall (Below.size (by assumption))) | exact Below.trans (Below.drew (by assumption)) (Below.mono hcall (Below.size (Below.drew (by assumption)))) | exact HW0.out.trans (hcall.mono (by simp <;> omega)) | exact HW0.out.drew.trans (hcall.mono (by simp <;> omega))); have q1 : w'.cell? ⟨w.heap.size, 0, none⟩ = some (.int .i64 p) := below_cell2 hcall (by first | assumption | (simp; done) | (simp [go_sem]; done) | simp [*]); have q2 : w'.cell? ⟨w.heap.size, 1, none⟩ = some (.int .i64 q) := below_cell2 hcall (by first | assumption | (simp; done) | (simp [go_sem]; done) | simp [*]); have q3 : w'.cell? ⟨w.heap.size + 1, 0, none⟩ = some (.int .i64 r) := below_cell2 hcall (by first | assumption | (simp; done) | (simp [go_sem]; done) | simp [*]); have q4 : w'.cell? ⟨w.heap.size + 1, 1, none⟩ = some (.int .i64 s) := below_cell2 hcall (by first | assumption | (simp; done) | (simp [go_sem]; done) | simp [*]); clear hcall)))
    refine bodyPost_ret (v := .tuple #[.int .i64 0, .int .i64 0, .int .i64 0, .bool false]) (by simp [results, Try.results24, go_sem]) rfl ?_
    exact ⟨rfl, by first | assumption | exact ((Below.refl w.heap.size w).alloc (Nat.le_refl _) _).alloc (by simp) _⟩
  | true =>
  cases h3 : inB n (-120) 120 with
  | false =>
    rw [show (twOk p q r s n && twF p q r s n) = false by simp [twOk, *]]
    obtain ⟨e1, e2, e3, e4⟩ := an_not (twX p q r s n) (twY p q r s n) (twZ p q r s)
    rw [e1, e2, e3, e4]
    clear e1 e2 e3 e4
    go_enter Try.func24, Try.ntmps24
    go_wp2_with (first | (go_at_call 56; first | (refine (l1In_t _ _ _ (by assumption) _).mono ?_; rintro e w' ⟨rfl, rfl⟩) | (refine (l1In_f _ _ _ (by assumption) _).mono ?_; rintro e w' ⟨rfl, rfl⟩)) | (go_at_call 49; first | (refine (raGood_t _ _ (by assumption) _).mono ?_; rintro e w' ⟨rfl, hcall⟩; have hbw : Below w.heap.size w w' := (by first | exact Below.trans (by assumption) (Below.mono hcall (Below.size (by assumption))) | exact Below.trans (Below.drew (by assumption)) (Below.mono hcall (Below.size (Below.drew (by assumption)))) | exact HW0.out.trans (hcall.mono (by simp <;> omega)) | exact HW0.out.drew.trans (hcall.mono (by simp <;> omega))); have q1 : w'.cell? ⟨w.heap.size, 0, none⟩ = some (.int .i64 p) := below_cell2 hcall (by first | assumption | (simp; done) | (simp [go_sem]; done) | simp [*]); have q2 : w'.cell? ⟨w.heap.size, 1, none⟩ = some (.int .i64 q) := below_cell2 hcall (by first | assumption | (simp; done) | (simp [go_sem]; done) | simp [*]); have q3 : w'.cell? ⟨w.heap.size + 1, 0, none⟩ = some (.int .i64 r) := below_cell2 hcall (by first | assumption | (simp; done) | (simp [go_sem]; done) | simp [*]); have q4 : w'.cell? ⟨w.heap.size + 1, 1, none⟩ = some (.int .i64 s) := below_cell2 hcall (by first | assumption | (simp; done) | (simp [go_sem]; done) | simp [*]); clear hcall) | (refine (raGood_f _ _ (by assumption) _).mono ?_; rintro e w' ⟨rfl, hcall⟩; have hbw : Below w.heap.size w w' := (by first | exact Below.trans (by assumption) (Below.mono hcall (Below.size (by assumption))) | exact Below.trans (Below.drew (by assumption)) (Below.mono hcall (Below.size (Below.drew (by assumption)))) | exact HW0.out.trans (hcall.mono (by simp <;> omega)) | exact HW0.out.drew.trans (hcall.mono (by simp <;> omega))); have q1 : w'.cell? ⟨w.heap.size, 0, none⟩ = some (.int .i64 p) := below_cell2 hcall (by first | assumption | (simp; done) | (simp [go_sem]; done) | simp [*]); have q2 : w'.cell? ⟨w.heap.size, 1, none⟩ = some (.int .i64 q) := below_cell2 hcall (by first | assumption | (simp; done) | (simp [go_sem]; done) | simp [*]); have q3 : w'.cell? ⟨w.heap.size + 1, 0, none⟩ = some (.int .i64 r) := below_cell2 hcall (by first | assumption | (simp; done) | (simp [go_sem]; done) | simp [*]); have q4 : w'.cell? ⟨w.heap.size + 1, 1, none⟩ = some (.int .i64 s) := below_cell2 hcall (by first | assumption | (simp; done) | (simp [go_sem]; done) | simp [*]); clear hcall)))
    refine bodyPost_ret (v := .tuple #[.int .i64 0, .int .i64 0, .int .i64 0, .bool false]) (by simp [results, Try.results24, go_sem]) rfl ?_
    exact ⟨rfl, by first | assumption | exact ((Below.refl w.heap.size w).alloc (Nat.le_refl _) _).alloc (by simp) _⟩
  | true =>
    obtain ⟨hp, hq⟩ := ratB_iff.1 h1
    obtain ⟨hr, hs⟩ := ratB_iff.1 h2
    simp only at hp hq hr hs
    have hn := inB_iff.1 h3
    obtain ⟨b1, b2, b3, b4, b5⟩ := tw_bd hp hq hr hs hn
    have b0 : -100 ≤ r - s ∧ r - s ≤ 100 := by omega
    by_cases hn0 : n = 0
    · have q0 : fnd (twX p q r s n) (twY p q r s n) (twZ p q r s) = false := fnd_no (.inr (.inl (by rw [(tw_N p q r s n).1, hn0]; simp [sg])))
      obtain ⟨e1, e2, e3, e4⟩ := an_fno q0 (twOk p q r s n && twF p q r s n)
      rw [e1, e2, e3, e4]
      exact aftW0 p q r s n w h1 h2 h3 hn0
    have hnz : (n == 0) = false := beq_eq_false_iff_ne.2 hn0
    have hc : p * s - r * q = s * p - r * q := by rw [Int.mul_comm p s]
    have b4' := mul_bd (x := s) (y := p) (X := 100) (Y := 100) (by omega) (by omega)
    rcases Int.lt_trichotomy (s * p - r * q) 0 with hz | hz | hz
    · clear b2 b3 b4
      have s1 : ∀ x, sg (s * p - r * q) x = -x := fun x => if_pos hz
      have eX : twX p q r s n = (-(n * (r - s))) * p := by rw [(tw_N p q r s n).1, hc, s1]
      have eY : twY p q r s n = (-(n * (r - s))) * q := by rw [(tw_N p q r s n).2, hc, s1]
      have eZ : twZ p q r s = (-(s * p - r * q)) := by unfold twZ; rw [hc, s1]
      have c2 : ((-(s * p - r * q)) == 0) = false := beq_eq_false_iff_ne.2 (by omega)
      by_cases hN : (-(n * (r - s))) ≤ 0
      · have q0 : fnd (twX p q r s n) (twY p q r s n) (twZ p q r s) = false := fnd_no (.inr (.inl (by rw [eX]; have := Int.mul_nonneg (show 0 ≤ -(-(n * (r - s))) by omega) (show 0 ≤ p by omega); rw [Int.neg_mul] at this; omega)))
        obtain ⟨e1, e2, e3, e4⟩ := an_fno q0 (twOk p q r s n && twF p q r s n)
        rw [e1, e2, e3, e4]
        exact aftWn_no p q r s n w h1 h2 h3 b0 b1 b4' b5 hnz hz c2 hN
      · have p1 : 1 ≤ (-(n * (r - s))) * p := Int.mul_pos (by omega) (by omega)
        have p2 : 1 ≤ (-(n * (r - s))) * q := Int.mul_pos (by omega) (by omega)
        have p3 := mul_bd (x := (-(n * (r - s)))) (y := p) (X := 12000) (Y := 100) (by omega) (by omega)
        have p4 := mul_bd (x := (-(n * (r - s)))) (y := q) (X := 12000) (Y := 100) (by omega) (by omega)
        have q0 : fnd ((-(n * (r - s))) * p) ((-(n * (r - s))) * q) (-(s * p - r * q)) = true := fnd_iff.2 ⟨by omega, by omega, by omega⟩
        obtain ⟨g1, g2, g3, g4⟩ := td_bd q0
        have HT := fun w => raThree_td (p * (-(n * (r - s)))) (q * (-(n * (r - s)))) (-(s * p - r * q)) ((-(n * (r - s))) * p) ((-(n * (r - s))) * q) (-(s * p - r * q)) w (by omega) (by omega) (by omega) (.inl ⟨Int.mul_comm _ _, Int.mul_comm _ _, rfl⟩)
        have hF : twF p q r s n = fnd ((-(n * (r - s))) * p + n * (-(s * p - r * q))) ((-(n * (r - s))) * q + n * (-(s * p - r * q))) (-(s * p - r * q)) := by unfold twF; rw [eX, eY, eZ]
        have hA : ∀ b, (twOk p q r s n && b) = b := by intro b; simp [twOk, h1, h2, h3]
        rw [hF, hA, eX, eY, eZ]
        have cP : p * (-(n * (r - s))) = (-(n * (r - s))) * p := Int.mul_comm _ _
        have cQ : q * (-(n * (r - s))) = (-(n * (r - s))) * q := Int.mul_comm _ _
        have l1 := le_of_times g1 g2 p1
        have l2 := le_of_times g1 g3 p2
        have l3 := le_of_times g1 g4 (by omega)
        have t1 := sign_times (n := n) g1 g2 g4
        have t2 := sign_times (n := n) g1 g3 g4
        have i1 := an_not ((-(n * (r - s))) * p) ((-(n * (r - s))) * q) (-(s * p - r * q))
        have i2 := an_ok ((-(n * (r - s))) * p) ((-(n * (r - s))) * q) (-(s * p - r * q))
        rw [q0] at i2
        generalize tdX ((-(n * (r - s))) * p) ((-(n * (r - s))) * q) (-(s * p - r * q)) = u1 at *
        generalize tdY ((-(n * (r - s))) * p) ((-(n * (r - s))) * q) (-(s * p - r * q)) = u2 at *
        generalize tdZ ((-(n * (r - s))) * p) ((-(n * (r - s))) * q) (-(s * p - r * q)) = u3 at *
        have m9 := mul_bdS (x := n) (y := u3) (X := 120) (Y := 20000) (by omega) (by omega)
        by_cases k1 : u1 + n * u3 ≤ 0
        · rw [fnd_no (.inr (.inl (t1.2 k1))), i1.1, i1.2.1, i1.2.2.1, i1.2.2.2]
          exact aftWn_a p q r s n u1 u2 u3 w h1 h2 h3 b0 b1 b4' b5 hnz hz c2 (by omega) (by omega) (by omega) (by omega) (by omega) (by omega) HT k1
        · by_cases k2 : u2 + n * u3 ≤ 0
          · rw [fnd_no (.inr (.inr (t2.2 k2))), i1.1, i1.2.1, i1.2.2.1, i1.2.2.2]
            exact aftWn_b p q r s n u1 u2 u3 w h1 h2 h3 b0 b1 b4' b5 hnz hz c2 (by omega) (by omega) (by omega) (by omega) (by omega) (by omega) HT k1 k2
          · rw [show fnd ((-(n * (r - s))) * p + n * (-(s * p - r * q))) ((-(n * (r - s))) * q + n * (-(s * p - r * q))) (-(s * p - r * q)) = true from fnd_iff.2 ⟨by omega, by have := mt t1.1 k1; omega, by have := mt t2.1 k2; omega⟩, i2.1, i2.2.1, i2.2.2.1, i2.2.2.2]
            exact aftWn_c p q r s n u1 u2 u3 w h1 h2 h3 b0 b1 b4' b5 hnz hz c2 (by omega) (by omega) (by omega) (by omega) (by omega) (by omega) HT k1 k2
    · have q0 : fnd (twX p q r s n) (twY p q r s n) (twZ p q r s) = false := fnd_no (.inl (by unfold twZ; rw [hc, hz]; simp [sg]))
      obtain ⟨e1, e2, e3, e4⟩ := an_fno q0 (twOk p q r s n && twF p q r s n)
      rw [e1, e2, e3, e4]
      exact aftWz p q r s n w h1 h2 h3 b0 b1 b4' b5 hnz hz
    · clear b2 b3 b4
      have s1 : ∀ x, sg (s * p - r * q) x = x := fun x => if_neg (by omega)
      have eX : twX p q r s n = (n * (r - s)) * p := by rw [(tw_N p q r s n).1, hc, s1]
      have eY : twY p q r s n = (n * (r - s)) * q := by rw [(tw_N p q r s n).2, hc, s1]
      have eZ : twZ p q r s = (s * p - r * q) := by unfold twZ; rw [hc, s1]
      have c2 : ((s * p - r * q) == 0) = false := beq_eq_false_iff_ne.2 (by omega)
      by_cases hN : (n * (r - s)) ≤ 0
      · have q0 : fnd (twX p q r s n) (twY p q r s n) (twZ p q r s) = false := fnd_no (.inr (.inl (by rw [eX]; have := Int.mul_nonneg (show 0 ≤ -(n * (r - s)) by omega) (show 0 ≤ p by omega); rw [Int.neg_mul] at this; omega)))
        obtain ⟨e1, e2, e3, e4⟩ := an_fno q0 (twOk p q r s n && twF p q r s n)
        rw [e1, e2, e3, e4]
        exact aftWp_no p q r s n w h1 h2 h3 b0 b1 b4' b5 hnz hz c2 hN
      · have p1 : 1 ≤ (n * (r - s)) * p := Int.mul_pos (by omega) (by omega)
        have p2 : 1 ≤ (n * (r - s)) * q := Int.mul_pos (by omega) (by omega)
        have p3 := mul_bd (x := (n * (r - s))) (y := p) (X := 12000) (Y := 100) (by omega) (by omega)
        have p4 := mul_bd (x := (n * (r - s))) (y := q) (X := 12000) (Y := 100) (by omega) (by omega)
        have q0 : fnd ((n * (r - s)) * p) ((n * (r - s)) * q) (s * p - r * q) = true := fnd_iff.2 ⟨by omega, by omega, by omega⟩
        obtain ⟨g1, g2, g3, g4⟩ := td_bd q0
        have HT := fun w => raThree_td (p * (n * (r - s))) (q * (n * (r - s))) (s * p - r * q) ((n * (r - s)) * p) ((n * (r - s)) * q) (s * p - r * q) w (by omega) (by omega) (by omega) (.inl ⟨Int.mul_comm _ _, Int.mul_comm _ _, rfl⟩)
        have hF : twF p q r s n = fnd ((n * (r - s)) * p + n * (s * p - r * q)) ((n * (r - s)) * q + n * (s * p - r * q)) (s * p - r * q) := by unfold twF; rw [eX, eY, eZ]
        have hA : ∀ b, (twOk p q r s n && b) = b := by intro b; simp [twOk, h1, h2, h3]
        rw [hF, hA, eX, eY, eZ]
        have cP : p * (n * (r - s)) = (n * (r - s)) * p := Int.mul_comm _ _
        have cQ : q * (n * (r - s)) = (n * (r - s)) * q := Int.mul_comm _ _
        have l1 := le_of_times g1 g2 p1
        have l2 := le_of_times g1 g3 p2
        have l3 := le_of_times g1 g4 (by omega)
        have t1 := sign_times (n := n) g1 g2 g4
        have t2 := sign_times (n := n) g1 g3 g4
        have i1 := an_not ((n * (r - s)) * p) ((n * (r - s)) * q) (s * p - r * q)
        have i2 := an_ok ((n * (r - s)) * p) ((n * (r - s)) * q) (s * p - r * q)
        rw [q0] at i2
        generalize tdX ((n * (r - s)) * p) ((n * (r - s)) * q) (s * p - r * q) = u1 at *
        generalize tdY ((n * (r - s)) * p) ((n * (r - s)) * q) (s * p - r * q) = u2 at *
        generalize tdZ ((n * (r - s)) * p) ((n * (r - s)) * q) (s * p - r * q) = u3 at *
        have m9 := mul_bdS (x := n) (y := u3) (X := 120) (Y := 20000) (by omega) (by omega)
        by_cases k1 : u1 + n * u3 ≤ 0
        · rw [fnd_no (.inr (.inl (t1.2 k1))), i1.1, i1.2.1, i1.2.2.1, i1.2.2.2]
          exact aftWp_a p q r s n u1 u2 u3 w h1 h2 h3 b0 b1 b4' b5 hnz hz c2 (by omega) (by omega) (by omega) (by omega) (by omega) (by omega) HT k1
        · by_cases k2 : u2 + n * u3 ≤ 0
          · rw [fnd_no (.inr (.inr (t2.2 k2))), i1.1, i1.2.1, i1.2.2.1, i1.2.2.2]
            exact aftWp_b p q r s n u1 u2 u3 w h1 h2 h3 b0 b1 b4' b5 hnz hz c2 (by omega) (by omega) (by omega) (by omega) (by omega) (by omega) HT k1 k2
          · rw [show fnd ((n * (r - s)) * p + n * (s * p - r * q)) ((n * (r - s)) * q + n * (s * p - r * q)) (s * p - r * q) = true from fnd_iff.2 ⟨by omega, by have := mt t1.1 k1; omega, by have := mt t2.1 k2; omega⟩, i2.1, i2.2.1, i2.2.2.1, i2.2.2.2]
            exact aftWp_c p q r s n u1 u2 u3 w h1 h2 h3 b0 b1 b4' b5 hnz hz c2 (by omega) (by omega) (by omega) (by omega) (by omega) (by omega) HT k1 k2

theorem aft_both (p q r s n : Int) : ∃ (r1 r2 r3 : Int) (ok : Bool), (∀ w, Calls Try.prog 24 #[.agg #[.int .i64 p, .int .i64 q], .agg #[.int .i64 r, .int .i64 s], .int .i64 n] w (RetI3B r1 r2 r3 ok w)) ∧ ∀ w, Calls Try.prog 25 #[.agg #[.int .i64 p, .int .i64 q], .agg #[.int .i64 r, .int .i64 s], .int .i64 n] w (RetI3B r1 r2 r3 ok w) :=
  ⟨_, _, _, _, fun w => specAft_any p q r s n w, fun w => aft_any p q r s n w⟩
end Go.Proofs.Ytmidobhfahpkcaa
