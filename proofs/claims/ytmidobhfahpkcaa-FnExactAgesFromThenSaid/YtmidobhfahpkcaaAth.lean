/- AgesFromThen: both texts. -/
import Derived.Test.YtmidobhfahpkcaaAft2
set_option linter.unusedVariables false
set_option linter.unusedSimpArgs false
namespace Go.Proofs.Ytmidobhfahpkcaa
open Go.RowKit


def thOk (p q r s g m : Int) : Bool := ratB (p, q) && (ratB (r, s) && (inB g 1 120 && inB m 1 (120 - g)))
def thB (p q r s g m : Int) : Bool := thOk p q r s g m && fnd (twX p q r s (g + m)) (twY p q r s (g + m)) (twZ p q r s)
def thX (p q r s g m : Int) : Int := if thB p q r s g m = true then tdX (twX p q r s (g + m)) (twY p q r s (g + m)) (twZ p q r s) + g * tdZ (twX p q r s (g + m)) (twY p q r s (g + m)) (twZ p q r s) else 0
def thY (p q r s g m : Int) : Int := if thB p q r s g m = true then tdY (twX p q r s (g + m)) (twY p q r s (g + m)) (twZ p q r s) + g * tdZ (twX p q r s (g + m)) (twY p q r s (g + m)) (twZ p q r s) else 0
def thZ (p q r s g m : Int) : Int := if thB p q r s g m = true then tdZ (twX p q r s (g + m)) (twY p q r s (g + m)) (twZ p q r s) else 0
theorem th_not {p q r s g m : Int} (h : thB p q r s g m = false) : thX p q r s g m = 0 ∧ thY p q r s g m = 0 ∧ thZ p q r s g m = 0 := by simp [thX, thY, thZ, h]
theorem th_yes {p q r s g m : Int} (h : thB p q r s g m = true) : thX p q r s g m = tdX (twX p q r s (g + m)) (twY p q r s (g + m)) (twZ p q r s) + g * tdZ (twX p q r s (g + m)) (twY p q r s (g + m)) (twZ p q r s) ∧ thY p q r s g m = tdY (twX p q r s (g + m)) (twY p q r s (g + m)) (twZ p q r s) + g * tdZ (twX p q r s (g + m)) (twY p q r s (g + m)) (twZ p q r s) ∧ thZ p q r s g m = tdZ (twX p q r s (g + m)) (twY p q r s (g + m)) (twZ p q r s) := by simp [thX, thY, thZ, h]
theorem gcd_shift (x y z k : Nat) : Nat.gcd (Nat.gcd (x + k * z) (y + k * z)) z = Nat.gcd (Nat.gcd x y) z := by
  have h : ∀ a b c : Nat, Nat.gcd (Nat.gcd a b) c = Nat.gcd (Nat.gcd a c) (Nat.gcd b c) := by
    intro a b c
    apply Nat.dvd_antisymm
    · exact Nat.dvd_gcd (Nat.dvd_gcd (Nat.dvd_trans (Nat.gcd_dvd_left _ _) (Nat.gcd_dvd_left _ _)) (Nat.gcd_dvd_right _ _)) (Nat.dvd_gcd (Nat.dvd_trans (Nat.gcd_dvd_left _ _) (Nat.gcd_dvd_right _ _)) (Nat.gcd_dvd_right _ _))
    · exact Nat.dvd_gcd (Nat.dvd_gcd (Nat.dvd_trans (Nat.gcd_dvd_left _ _) (Nat.gcd_dvd_left _ _)) (Nat.dvd_trans (Nat.gcd_dvd_right _ _) (Nat.gcd_dvd_left _ _))) (Nat.dvd_trans (Nat.gcd_dvd_left _ _) (Nat.gcd_dvd_right _ _))
  have k1 : ∀ a : Nat, Nat.gcd (a + k * z) z = Nat.gcd a z := by
    intro a
    apply Nat.dvd_antisymm
    · refine Nat.dvd_gcd ?_ (Nat.gcd_dvd_right _ _)
      exact (Nat.dvd_add_left (Nat.dvd_trans (Nat.gcd_dvd_right _ _) (Nat.dvd_mul_left z k))).1 (Nat.gcd_dvd_left _ _)
    · exact Nat.dvd_gcd (Nat.dvd_add (Nat.gcd_dvd_left _ _) (Nat.dvd_trans (Nat.gcd_dvd_right _ _) (Nat.dvd_mul_left z k))) (Nat.gcd_dvd_right _ _)
  rw [h, h x y z, k1, k1]
/-- Some years later: the same denominator. -/
theorem td_shift {x y z k : Int} (hf : fnd x y z = true) (hk : 0 ≤ k) : fnd (x + k * z) (y + k * z) z = true ∧ tdX (x + k * z) (y + k * z) z = tdX x y z + k * tdZ x y z ∧ tdY (x + k * z) (y + k * z) z = tdY x y z + k * tdZ x y z ∧ tdZ (x + k * z) (y + k * z) z = tdZ x y z := by
  obtain ⟨hz, hx, hy⟩ := fnd_iff.1 hf
  have hkz : 0 ≤ k * z := Int.mul_nonneg hk (by omega)
  have hf2 : fnd (x + k * z) (y + k * z) z = true := fnd_iff.2 ⟨hz, by omega, by omega⟩
  have hg : gg (x + k * z) (y + k * z) z = gg x y z := by
    obtain ⟨X, rfl⟩ : ∃ n : Nat, x = n := ⟨x.toNat, by omega⟩
    obtain ⟨Y, rfl⟩ : ∃ n : Nat, y = n := ⟨y.toNat, by omega⟩
    obtain ⟨Z, rfl⟩ : ∃ n : Nat, z = n := ⟨z.toNat, by omega⟩
    obtain ⟨K, rfl⟩ : ∃ n : Nat, k = n := ⟨k.toNat, by omega⟩
    have e1 : ((X : Int) + (K : Int) * (Z : Int)) = ((X + K * Z : Nat) : Int) := by simp
    have e2 : ((Y : Int) + (K : Int) * (Z : Int)) = ((Y + K * Z : Nat) : Int) := by simp
    rw [e1, e2]
    unfold gg
    congr 1
    have h3 : ∀ a b c : Nat, gcT [(a : Int), (b : Int), (c : Int)] 3 = Nat.gcd (Nat.gcd a b) c := by intro a b c; simp [gcT]
    rw [h3, h3, gcd_shift]
  obtain ⟨g1, g2, g3, g4⟩ := td_bd hf
  obtain ⟨j1, j2, j3, j4⟩ := td_bd hf2
  rw [hg] at j2 j3 j4
  have hne : gg x y z ≠ 0 := by omega
  have hz' : tdZ (x + k * z) (y + k * z) z = tdZ x y z := Int.eq_of_mul_eq_mul_right hne (j4.trans g4.symm)
  refine ⟨hf2, Int.eq_of_mul_eq_mul_right hne ?_, Int.eq_of_mul_eq_mul_right hne ?_, hz'⟩
  · rw [j2, Int.add_mul, g2, Int.mul_assoc, g4]
  · rw [j3, Int.add_mul, g3, Int.mul_assoc, g4]

set_option maxHeartbeats 8000000 in
set_option maxRecDepth 100000 in
theorem ath_any (p q r s g m : Int) (w : World) : Calls Try.prog 27 #[.agg #[.int .i64 p, .int .i64 q], .agg #[.int .i64 r, .int .i64 s], .int .i64 g, .int .i64 m] w (RetI3B (thX p q r s g m) (thY p q r s g m) (thZ p q r s g m) (thB p q r s g m) w) := by
  have HW0 := Lib.hid (((Below.refl w.heap.size w).alloc (Nat.le_refl _) (.cells #[.int .i64 p, .int .i64 q] 25)).alloc (by simp) (.cells #[.int .i64 r, .int .i64 s] 25))
  cases h1 : ratB (p, q) with
  | false =>
    have hb0 : thB p q r s g m = false := by simp [thB, thOk, *]
    obtain ⟨e1, e2, e3⟩ := th_not hb0
    rw [e1, e2, e3, hb0]
    clear e1 e2 e3 hb0
    go_enter Try.func27, Try.ntmps27
    go_wp2_with (first | (go_at_call 50; first | (refine (isWithin_t _ _ _ (by assumption) _).mono ?_; rintro e w' ⟨rfl, rfl⟩) | (refine (isWithin_f _ _ _ (by assumption) _).mono ?_; rintro e w' ⟨rfl, rfl⟩)) | (go_at_call 17; first | (refine (isRatio_t _ _ (by assumption) _).mono ?_; rintro e w' ⟨rfl, hcall⟩; have hbw : Below w.heap.size w w' := (by first | exact Below.trans (by assumption) (Below.mono hcall (Below.size (by assumption))) | exact Below.trans (Below.drew (by assumption)) (Below.mono hcall (Below.size (Below.drew (by assumption)))) | exact HW0.out.trans (hcall.mono (by simp <;> omega)) | exact HW0.out.drew.trans (hcall.mono (by simp <;> omega))); have q1 : w'.cell? ⟨w.heap.size, 0, none⟩ = some (.int .i64 p) := below_cell2 hcall (by first | assumption | (simp; done) | (simp [go_sem]; done) | simp [*]); have q2 : w'.cell? ⟨w.heap.size, 1, none⟩ = some (.int .i64 q) := below_cell2 hcall (by first | assumption | (simp; done) | (simp [go_sem]; done) | simp [*]); have q3 : w'.cell? ⟨w.heap.size + 1, 0, none⟩ = some (.int .i64 r) := below_cell2 hcall (by first | assumption | (simp; done) | (simp [go_sem]; done) | simp [*]); have q4 : w'.cell? ⟨w.heap.size + 1, 1, none⟩ = some (.int .i64 s) := below_cell2 hcall (by first | assumption | (simp; done) | (simp [go_sem]; done) | simp [*]); clear hcall) | (refine (isRatio_f _ _ (by assumption) _).mono ?_; rintro e w' ⟨rfl, hcall⟩; have hbw : Below w.heap.size w w' := (by first | exact Below.trans (by assumption) (Below.mono hcall (Below.size (by assumption))) | exact Below.trans (Below.drew (by assumption)) (Below.mono hcall (Below.size (Below.drew (by assumption)))) | exact HW0.out.trans (hcall.mono (by simp <;> omega)) | exact HW0.out.drew.trans (hcall.mono (by simp <;> omega))); have q1 : w'.cell? ⟨w.heap.size, 0, none⟩ = some (.int .i64 p) := below_cell2 hcall (by first | assumption | (simp; done) | (simp [go_sem]; done) | simp [*]); have q2 : w'.cell? ⟨w.heap.size, 1, none⟩ = some (.int .i64 q) := below_cell2 hcall (by first | assumption | (simp; done) | (simp [go_sem]; done) | simp [*]); have q3 : w'.cell? ⟨w.heap.size + 1, 0, none⟩ = some (.int .i64 r) := below_cell2 hcall (by first | assumption | (simp; done) | (simp [go_sem]; done) | simp [*]); have q4 : w'.cell? ⟨w.heap.size + 1, 1, none⟩ = some (.int .i64 s) := below_cell2 hcall (by first | assumption | (simp; done) | (simp [go_sem]; done) | simp [*]); clear hcall)))
    refine bodyPost_ret (v := .tuple #[.int .i64 0, .int .i64 0, .int .i64 0, .bool false]) (by simp [results, Try.results27, go_sem]) rfl ?_
    exact ⟨rfl, by first | assumption | exact ((Below.refl w.heap.size w).alloc (Nat.le_refl _) _).alloc (by simp) _⟩
  | true =>
  cases h2 : ratB (r, s) with
  | false =>
    have hb0 : thB p q r s g m = false := by simp [thB, thOk, *]
    obtain ⟨e1, e2, e3⟩ := th_not hb0
    rw [e1, e2, e3, hb0]
    clear e1 e2 e3 hb0
    go_enter Try.func27, Try.ntmps27
    go_wp2_with (first | (go_at_call 50; first | (refine (isWithin_t _ _ _ (by assumption) _).mono ?_; rintro e w' ⟨rfl, rfl⟩) | (refine (isWithin_f _ _ _ (by assumption) _).mono ?_; rintro e w' ⟨rfl, rfl⟩)) | (go_at_call 17; first | (refine (isRatio_t _ _ (by assumption) _).mono ?_; rintro e w' ⟨rfl, hcall⟩; have hbw : Below w.heap.size w w' := (by first | exact Below.trans (by assumption) (Below.mono hcall (Below.size (by assumption))) | exact Below.trans (Below.drew (by assumption)) (Below.mono hcall (Below.size (Below.drew (by assumption)))) | exact HW0.out.trans (hcall.mono (by simp <;> omega)) | exact HW0.out.drew.trans (hcall.mono (by simp <;> omega))); have q1 : w'.cell? ⟨w.heap.size, 0, none⟩ = some (.int .i64 p) := below_cell2 hcall (by first | assumption | (simp; done) | (simp [go_sem]; done) | simp [*]); have q2 : w'.cell? ⟨w.heap.size, 1, none⟩ = some (.int .i64 q) := below_cell2 hcall (by first | assumption | (simp; done) | (simp [go_sem]; done) | simp [*]); have q3 : w'.cell? ⟨w.heap.size + 1, 0, none⟩ = some (.int .i64 r) := below_cell2 hcall (by first | assumption | (simp; done) | (simp [go_sem]; done) | simp [*]); have q4 : w'.cell? ⟨w.heap.size + 1, 1, none⟩ = some (.int .i64 s) := below_cell2 hcall (by first | assumption | (simp; done) | (simp [go_sem]; done) | simp [*]); clear hcall) | (refine (isRatio_f _ _ (by assumption) _).mono ?_; rintro e w' ⟨rfl, hcall⟩; have hbw : Below w.heap.size w w' := (by first | exact Below.trans (by assumption) (Below.mono hcall (Below.size (by assumption))) | exact Below.trans (Below.drew (by assumption)) (Below.mono hcall (Below.size (Below.drew (by assumption)))) | exact HW0.out.trans (hcall.mono (by simp <;> omega)) | exact HW0.out.drew.trans (hcall.mono (by simp <;> omega))); have q1 : w'.cell? ⟨w.heap.size, 0, none⟩ = some (.int .i64 p) := below_cell2 hcall (by first | assumption | (simp; done) | (simp [go_sem]; done) | simp [*]); have q2 : w'.cell? ⟨w.heap.size, 1, none⟩ = some (.int .i64 q) := below_cell2 hcall (by first | assumption | (simp; done) | (simp [go_sem]; done) | simp [*]); have q3 : w'.cell? ⟨w.heap.size + 1, 0, none⟩ = some (.int .i64 r) := below_cell2 hcall (by first | assumption | (simp; done) | (simp [go_sem]; done) | simp [*]); have q4 : w'.cell? ⟨w.heap.size + 1, 1, none⟩ = some (.int .i64 s) := below_cell2 hcall (by first | assumption | (simp; done) | (simp [go_sem]; done) | simp [*]); clear hcall)))
    refine bodyPost_ret (v := .tuple #[.int .i64 0, .int .i64 0, .int .i64 0, .bool false]) (by simp [results, Try.results27, go_sem]) rfl ?_
    exact ⟨rfl, by first | assumption | exact ((Below.refl w.heap.size w).alloc (Nat.le_refl _) _).alloc (by simp) _⟩
  | true =>
  cases h3 : inB g 1 120 with
  | false =>
    have hb0 : thB p q r s g m = false := by simp [thB, thOk, *]
    obtain ⟨e1, e2, e3⟩ := th_not hb0
    rw [e1, e2, e3, hb0]
    clear e1 e2 e3 hb0
    go_enter Try.func27, Try.ntmps27
    go_wp2_with (first | (go_at_call 50; first | (refine (isWithin_t _ _ _ (by assumption) _).mono ?_; rintro e w' ⟨rfl, rfl⟩) | (refine (isWithin_f _ _ _ (by assumption) _).mono ?_; rintro e w' ⟨rfl, rfl⟩)) | (go_at_call 17; first | (refine (isRatio_t _ _ (by assumption) _).mono ?_; rintro e w' ⟨rfl, hcall⟩; have hbw : Below w.heap.size w w' := (by first | exact Below.trans (by assumption) (Below.mono hcall (Below.size (by assumption))) | exact Below.trans (Below.drew (by assumption)) (Below.mono hcall (Below.size (Below.drew (by assumption)))) | exact HW0.out.trans (hcall.mono (by simp <;> omega)) | exact HW0.out.drew.trans (hcall.mono (by simp <;> omega))); have q1 : w'.cell? ⟨w.heap.size, 0, none⟩ = some (.int .i64 p) := below_cell2 hcall (by first | assumption | (simp; done) | (simp [go_sem]; done) | simp [*]); have q2 : w'.cell? ⟨w.heap.size, 1, none⟩ = some (.int .i64 q) := below_cell2 hcall (by first | assumption | (simp; done) | (simp [go_sem]; done) | simp [*]); have q3 : w'.cell? ⟨w.heap.size + 1, 0, none⟩ = some (.int .i64 r) := below_cell2 hcall (by first | assumption | (simp; done) | (simp [go_sem]; done) | simp [*]); have q4 : w'.cell? ⟨w.heap.size + 1, 1, none⟩ = some (.int .i64 s) := below_cell2 hcall (by first | assumption | (simp; done) | (simp [go_sem]; done) | simp [*]); clear hcall) | (refine (isRatio_f _ _ (by assumption) _).mono ?_; rintro e w' ⟨rfl, hcall⟩; have hbw : Below w.heap.size w w' := (by first | exact Below.trans (by assumption) (Below.mono hcall (Below.size (by assumption))) | exact Below.trans (Below.drew (by assumption)) (Below.mono hcall (Below.size (Below.drew (by assumption)))) | exact HW0.out.trans (hcall.mono (by simp <;> omega)) | exact HW0.out.drew.trans (hcall.mono (by simp <;> omega))); have q1 : w'.cell? ⟨w.heap.size, 0, none⟩ = some (.int .i64 p) := below_cell2 hcall (by first | assumption | (simp; done) | (simp [go_sem]; done) | simp [*]); have q2 : w'.cell? ⟨w.heap.size, 1, none⟩ = some (.int .i64 q) := below_cell2 hcall (by first | assumption | (simp; done) | (simp [go_sem]; done) | simp [*]); have q3 : w'.cell? ⟨w.heap.size + 1, 0, none⟩ = some (.int .i64 r) := below_cell2 hcall (by first | assumption | (simp; done) | (simp [go_sem]; done) | simp [*]); have q4 : w'.cell? ⟨w.heap.size + 1, 1, none⟩ = some (.int .i64 s) := below_cell2 hcall (by first | assumption | (simp; done) | (simp [go_sem]; done) | simp [*]); clear hcall)))
    refine bodyPost_ret (v := .tuple #[.int .i64 0, .int .i64 0, .int .i64 0, .bool false]) (by simp [results, Try.results27, go_sem]) rfl ?_
    exact ⟨rfl, by first | assumption | exact ((Below.refl w.heap.size w).alloc (Nat.le_refl _) _).alloc (by simp) _⟩
  | true =>
  have hg := inB_iff.1 h3
  cases h4 : inB m 1 (120 - g) with
  | false =>
    have hb0 : thB p q r s g m = false := by simp [thB, thOk, *]
    obtain ⟨e1, e2, e3⟩ := th_not hb0
    rw [e1, e2, e3, hb0]
    clear e1 e2 e3 hb0
    go_enter Try.func27, Try.ntmps27
    go_wp2_with (first | (go_at_call 50; first | (refine (isWithin_t _ _ _ (by assumption) _).mono ?_; rintro e w' ⟨rfl, rfl⟩) | (refine (isWithin_f _ _ _ (by assumption) _).mono ?_; rintro e w' ⟨rfl, rfl⟩)) | (go_at_call 17; first | (refine (isRatio_t _ _ (by assumption) _).mono ?_; rintro e w' ⟨rfl, hcall⟩; have hbw : Below w.heap.size w w' := (by first | exact Below.trans (by assumption) (Below.mono hcall (Below.size (by assumption))) | exact Below.trans (Below.drew (by assumption)) (Below.mono hcall (Below.size (Below.drew (by assumption)))) | exact HW0.out.trans (hcall.mono (by simp <;> omega)) | exact HW0.out.drew.trans (hcall.mono (by simp <;> omega))); have q1 : w'.cell? ⟨w.heap.size, 0, none⟩ = some (.int .i64 p) := below_cell2 hcall (by first | assumption | (simp; done) | (simp [go_sem]; done) | simp [*]); have q2 : w'.cell? ⟨w.heap.size, 1, none⟩ = some (.int .i64 q) := below_cell2 hcall (by first | assumption | (simp; done) | (simp [go_sem]; done) | simp [*]); have q3 : w'.cell? ⟨w.heap.size + 1, 0, none⟩ = some (.int .i64 r) := below_cell2 hcall (by first | assumption | (simp; done) | (simp [go_sem]; done) | simp [*]); have q4 : w'.cell? ⟨w.heap.size + 1, 1, none⟩ = some (.int .i64 s) := below_cell2 hcall (by first | assumption | (simp; done) | (simp [go_sem]; done) | simp [*]); clear hcall) | (refine (isRatio_f _ _ (by assumption) _).mono ?_; rintro e w' ⟨rfl, hcall⟩; have hbw : Below w.heap.size w w' := (by first | exact Below.trans (by assumption) (Below.mono hcall (Below.size (by assumption))) | exact Below.trans (Below.drew (by assumption)) (Below.mono hcall (Below.size (Below.drew (by assumption)))) | exact HW0.out.trans (hcall.mono (by simp <;> omega)) | exact HW0.out.drew.trans (hcall.mono (by simp <;> omega))); have q1 : w'.cell? ⟨w.heap.size, 0, none⟩ = some (.int .i64 p) := below_cell2 hcall (by first | assumption | (simp; done) | (simp [go_sem]; done) | simp [*]); have q2 : w'.cell? ⟨w.heap.size, 1, none⟩ = some (.int .i64 q) := below_cell2 hcall (by first | assumption | (simp; done) | (simp [go_sem]; done) | simp [*]); have q3 : w'.cell? ⟨w.heap.size + 1, 0, none⟩ = some (.int .i64 r) := below_cell2 hcall (by first | assumption | (simp; done) | (simp [go_sem]; done) | simp [*]); have q4 : w'.cell? ⟨w.heap.size + 1, 1, none⟩ = some (.int .i64 s) := below_cell2 hcall (by first | assumption | (simp; done) | (simp [go_sem]; done) | simp [*]); clear hcall)))
    refine bodyPost_ret (v := .tuple #[.int .i64 0, .int .i64 0, .int .i64 0, .bool false]) (by simp [results, Try.results27, go_sem]) rfl ?_
    exact ⟨rfl, by first | assumption | exact ((Below.refl w.heap.size w).alloc (Nat.le_refl _) _).alloc (by simp) _⟩
  | true =>
    have hm := inB_iff.1 h4
    obtain ⟨hp, hq⟩ := ratB_iff.1 h1
    obtain ⟨hr, hs⟩ := ratB_iff.1 h2
    simp only at hp hq hr hs
    have hn : -120 ≤ g + m ∧ g + m ≤ 120 := by omega
    obtain ⟨b1, b2, b3, b4⟩ := tw_bd2 hp hq hr hs hn
    have HC : Hid (∀ w, Calls Try.prog 60 #[.agg #[.int .i64 p, .int .i64 q], .agg #[.int .i64 r, .int .i64 s], .int .i64 (g + m)] w (Ret (.agg #[.int .i64 (twX p q r s (g + m)), .int .i64 (twY p q r s (g + m)), .int .i64 (twZ p q r s)]) w)) := Lib.hid (fun w => coupleOfTwo_any p q r s (g + m) w hp hq hr hs hn)
    have hB : thB p q r s g m = fnd (twX p q r s (g + m)) (twY p q r s (g + m)) (twZ p q r s) := by simp [thB, thOk, h1, h2, h3, h4]
    cases hf : fnd (twX p q r s (g + m)) (twY p q r s (g + m)) (twZ p q r s) with
    | false =>
      rw [hf] at hB
      obtain ⟨e1, e2, e3⟩ := th_not hB
      rw [e1, e2, e3, hB]
      generalize twX p q r s (g + m) = X at *
      generalize twY p q r s (g + m) = Y at *
      generalize twZ p q r s = Z at *
      have HF0 := fun w => areFound_any X Y Z w
      rw [hf] at HF0
      have HF := Lib.hid HF0
      clear HF0 hf e1 e2 e3 hB hp hq hr hs b1 b2 b3 b4
      go_enter Try.func27, Try.ntmps27
      go_wp2_with (first | (go_at_call 50; first | (refine (isWithin_t _ _ _ (by assumption) _).mono ?_; rintro e w' ⟨rfl, rfl⟩) | (refine (isWithin_f _ _ _ (by assumption) _).mono ?_; rintro e w' ⟨rfl, rfl⟩)) | (go_at_call 17; first | (refine (isRatio_t _ _ (by assumption) _).mono ?_; rintro e w' ⟨rfl, hcall⟩; have hbw : Below w.heap.size w w' := (by first | exact Below.trans (by assumption) (Below.mono hcall (Below.size (by assumption))) | exact Below.trans (Below.drew (by assumption)) (Below.mono hcall (Below.size (Below.drew (by assumption)))) | exact HW0.out.trans (hcall.mono (by simp <;> omega)) | exact HW0.out.drew.trans (hcall.mono (by simp <;> omega))); have q1 : w'.cell? ⟨w.heap.size, 0, none⟩ = some (.int .i64 p) := below_cell2 hcall (by first | assumption | (simp; done) | (simp [go_sem]; done) | simp [*]); have q2 : w'.cell? ⟨w.heap.size, 1, none⟩ = some (.int .i64 q) := below_cell2 hcall (by first | assumption | (simp; done) | (simp [go_sem]; done) | simp [*]); have q3 : w'.cell? ⟨w.heap.size + 1, 0, none⟩ = some (.int .i64 r) := below_cell2 hcall (by first | assumption | (simp; done) | (simp [go_sem]; done) | simp [*]); have q4 : w'.cell? ⟨w.heap.size + 1, 1, none⟩ = some (.int .i64 s) := below_cell2 hcall (by first | assumption | (simp; done) | (simp [go_sem]; done) | simp [*]); clear hcall) | (refine (isRatio_f _ _ (by assumption) _).mono ?_; rintro e w' ⟨rfl, hcall⟩; have hbw : Below w.heap.size w w' := (by first | exact Below.trans (by assumption) (Below.mono hcall (Below.size (by assumption))) | exact Below.trans (Below.drew (by assumption)) (Below.mono hcall (Below.size (Below.drew (by assumption)))) | exact HW0.out.trans (hcall.mono (by simp <;> omega)) | exact HW0.out.drew.trans (hcall.mono (by simp <;> omega))); have q1 : w'.cell? ⟨w.heap.size, 0, none⟩ = some (.int .i64 p) := below_cell2 hcall (by first | assumption | (simp; done) | (simp [go_sem]; done) | simp [*]); have q2 : w'.cell? ⟨w.heap.size, 1, none⟩ = some (.int .i64 q) := below_cell2 hcall (by first | assumption | (simp; done) | (simp [go_sem]; done) | simp [*]); have q3 : w'.cell? ⟨w.heap.size + 1, 0, none⟩ = some (.int .i64 r) := below_cell2 hcall (by first | assumption | (simp; done) | (simp [go_sem]; done) | simp [*]); have q4 : w'.cell? ⟨w.heap.size + 1, 1, none⟩ = some (.int .i64 s) := below_cell2 hcall (by first | assumption | (simp; done) | (simp [go_sem]; done) | simp [*]); clear hcall)) | (go_at_call 60; refine (HC.out _).mono ?_; rintro e w3 ⟨rfl, hcall⟩; have hb_w3 : Below w.heap.size w w3 := hbw.trans (hcall.mono hbw.size); clear hcall) | (go_at_call 62; refine (HF.out _).mono ?_; rintro e w4 ⟨rfl, hcall⟩; have hb_w4 : Below w.heap.size w w4 := (hb_w3.alloc hb_w3.size _).trans (hcall.mono (by have := hb_w3.size; simp; omega)); have k0 : w4.cell? ⟨w3.heap.size, 0, none⟩ = some (.int .i64 X) := below_cell2 hcall (by simp); have k1 : w4.cell? ⟨w3.heap.size, 1, none⟩ = some (.int .i64 Y) := below_cell2 hcall (by simp); have k2 : w4.cell? ⟨w3.heap.size, 2, none⟩ = some (.int .i64 Z) := below_cell2 hcall (by simp); clear hcall) | (go_at_call 61; refine (HI.out _).mono ?_; rintro e w5 ⟨rfl, hcall⟩; have hb_w5 : Below w.heap.size w w5 := hb_w4.trans (hcall.mono hb_w4.size); clear hcall) | (go_at_call 59; refine (HT.out _).mono ?_; rintro e w6 ⟨rfl, hcall⟩; have hb_w6 : Below w.heap.size w w6 := hb_w5.trans (hcall.mono hb_w5.size); clear hcall))
      refine bodyPost_ret (v := .tuple #[.int .i64 0, .int .i64 0, .int .i64 0, .bool false]) (by simp [results, Try.results27, go_sem]) rfl ?_
      exact ⟨rfl, by assumption⟩
    | true =>
      rw [hf] at hB
      obtain ⟨e1, e2, e3⟩ := th_yes hB
      obtain ⟨j1, j2, j3, j4⟩ := td_shift (k := g) hf (by omega)
      rw [e1, e2, e3, hB, ← j2, ← j3, ← j4]
      clear e1 e2 e3 hB
      generalize twX p q r s (g + m) = X at *
      generalize twY p q r s (g + m) = Y at *
      generalize twZ p q r s = Z at *
      have HF0 := fun w => areFound_any X Y Z w
      rw [hf] at HF0
      have HF := Lib.hid HF0
      have m8 := mul_bd (x := g) (y := Z) (X := 120) (Y := 10000) (by omega) b3
      have HI := Lib.hid (fun w => coupleIn_any X Y Z g w (by omega) (by omega) (by omega))
      have HT := Lib.hid (fun w => told_any (X + g * Z) (Y + g * Z) Z w (by omega) (by omega) (by omega))
      rw [j1] at HT
      generalize tdX (X + g * Z) (Y + g * Z) Z = u1 at HT ⊢
      generalize tdY (X + g * Z) (Y + g * Z) Z = u2 at HT ⊢
      generalize tdZ (X + g * Z) (Y + g * Z) Z = u3 at HT ⊢
      clear HF0 hf j1 j2 j3 j4 hp hq hr hs b1 b2 b3 b4 m8
      go_enter Try.func27, Try.ntmps27
      go_wp2_with (first | (go_at_call 50; first | (refine (isWithin_t _ _ _ (by assumption) _).mono ?_; rintro e w' ⟨rfl, rfl⟩) | (refine (isWithin_f _ _ _ (by assumption) _).mono ?_; rintro e w' ⟨rfl, rfl⟩)) | (go_at_call 17; first | (refine (isRatio_t _ _ (by assumption) _).mono ?_; rintro e w' ⟨rfl, hcall⟩; have hbw : Below w.heap.size w w' := (by first | exact Below.trans (by assumption) (Below.mono hcall (Below.size (by assumption))) | exact Below.trans (Below.drew (by assumption)) (Below.mono hcall (Below.size (Below.drew (by assumption)))) | exact HW0.out.trans (hcall.mono (by simp <;> omega)) | exact HW0.out.drew.trans (hcall.mono (by simp <;> omega))); have q1 : w'.cell? ⟨w.heap.size, 0, none⟩ = some (.int .i64 p) := below_cell2 hcall (by first | assumption | (simp; done) | (simp [go_sem]; done) | simp [*]); have q2 : w'.cell? ⟨w.heap.size, 1, none⟩ = some (.int .i64 q) := below_cell2 hcall (by first | assumption | (simp; done) | (simp [go_sem]; done) | simp [*]); have q3 : w'.cell? ⟨w.heap.size + 1, 0, none⟩ = some (.int .i64 r) := below_cell2 hcall (by first | assumption | (simp; done) | (simp [go_sem]; done) | simp [*]); have q4 : w'.cell? ⟨w.heap.size + 1, 1, none⟩ = some (.int .i64 s) := below_cell2 hcall (by first | assumption | (simp; done) | (simp [go_sem]; done) | simp [*]); clear hcall) | (refine (isRatio_f _ _ (by assumption) _).mono ?_; rintro e w' ⟨rfl, hcall⟩; have hbw : Below w.heap.size w w' := (by first | exact Below.trans (by assumption) (Below.mono hcall (Below.size (by assumption))) | exact Below.trans (Below.drew (by assumption)) (Below.mono hcall (Below.size (Below.drew (by assumption)))) | exact HW0.out.trans (hcall.mono (by simp <;> omega)) | exact HW0.out.drew.trans (hcall.mono (by simp <;> omega))); have q1 : w'.cell? ⟨w.heap.size, 0, none⟩ = some (.int .i64 p) := below_cell2 hcall (by first | assumption | (simp; done) | (simp [go_sem]; done) | simp [*]); have q2 : w'.cell? ⟨w.heap.size, 1, none⟩ = some (.int .i64 q) := below_cell2 hcall (by first | assumption | (simp; done) | (simp [go_sem]; done) | simp [*]); have q3 : w'.cell? ⟨w.heap.size + 1, 0, none⟩ = some (.int .i64 r) := below_cell2 hcall (by first | assumption | (simp; done) | (simp [go_sem]; done) | simp [*]); have q4 : w'.cell? ⟨w.heap.size + 1, 1, none⟩ = some (.int .i64 s) := below_cell2 hcall (by first | assumption | (simp; done) | (simp [go_sem]; done) | simp [*]); clear hcall)) | (go_at_call 60; refine (HC.out _).mono ?_; rintro e w3 ⟨rfl, hcall⟩; have hb_w3 : Below w.heap.size w w3 := hbw.trans (hcall.mono hbw.size); clear hcall) | (go_at_call 62; refine (HF.out _).mono ?_; rintro e w4 ⟨rfl, hcall⟩; have hb_w4 : Below w.heap.size w w4 := (hb_w3.alloc hb_w3.size _).trans (hcall.mono (by have := hb_w3.size; simp; omega)); have k0 : w4.cell? ⟨w3.heap.size, 0, none⟩ = some (.int .i64 X) := below_cell2 hcall (by simp); have k1 : w4.cell? ⟨w3.heap.size, 1, none⟩ = some (.int .i64 Y) := below_cell2 hcall (by simp); have k2 : w4.cell? ⟨w3.heap.size, 2, none⟩ = some (.int .i64 Z) := below_cell2 hcall (by simp); clear hcall) | (go_at_call 61; refine (HI.out _).mono ?_; rintro e w5 ⟨rfl, hcall⟩; have hb_w5 : Below w.heap.size w w5 := hb_w4.trans (hcall.mono hb_w4.size); clear hcall) | (go_at_call 59; refine (HT.out _).mono ?_; rintro e w6 ⟨rfl, hcall⟩; have hb_w6 : Below w.heap.size w w6 := hb_w5.trans (hcall.mono hb_w5.size); clear hcall))
      refine bodyPost_ret (v := .tuple #[.int .i64 u1, .int .i64 u2, .int .i64 u3, .bool true]) (by simp [results, Try.results27, go_sem]) rfl ?_
      exact ⟨rfl, by assumption⟩
end Go.Proofs.Ytmidobhfahpkcaa
