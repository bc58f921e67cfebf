/- NearestYear: the program's text. -/
import Derived.Test.YtmidobhfahpkcaaNy2
set_option linter.unusedVariables false
set_option linter.unusedSimpArgs false
namespace Go.Proofs.Ytmidobhfahpkcaa
open Go.RowKit

theorem couIn1 (a b n : Int) (w : World) (ha : 0 ≤ a ∧ a ≤ 120) (hb : 0 ≤ b ∧ b ≤ 120) (hn : -1000 ≤ n ∧ n ≤ 1000) : Calls Try.prog 61 #[.agg #[.int .i64 a, .int .i64 b, .int .i64 1], .int .i64 n] w (Ret (.agg #[.int .i64 (a + n), .int .i64 (b + n), .int .i64 1]) w) := by
  have := coupleIn_any a b 1 n w (by omega) (by omega) (by omega)
  rwa [Int.mul_one] at this

set_option maxHeartbeats 8000000 in
set_option maxRecDepth 100000 in
theorem ny_any (a b p d : Int) (w : World) : Calls Try.prog 29 #[.int .i64 a, .int .i64 b, .agg #[.int .i64 p, .int .i64 d]] w (RetIB (nyR a b p d) (nyOk a b p d) w) := by
  have HW0 := Lib.hid ((Below.refl w.heap.size w).alloc (Nat.le_refl _) (.cells #[.int .i64 p, .int .i64 d] 25))
  have HT0 := fun w => differ_any a b w
  cases h1 : (inB a 0 120 && inB b 0 120 && decide (a ≠ b)) with
  | false =>
    have hok : nyOk a b p d = false := by simp only [nyOk, h1, Bool.false_and]
    rw [ny_no hok, hok]
    rw [h1] at HT0
    have HT := Lib.hid HT0
    clear HT0 hok h1
    go_enter Try.func29, Try.ntmps29
    go_wp2_with (first | (go_at_call 65; refine (HT.out _).mono ?_; rintro e w' ⟨rfl, rfl⟩))
    go_ret2
    exact ⟨rfl, by first | assumption | exact (Below.refl w.heap.size w).alloc (Nat.le_refl _) _⟩
  | true =>
  rw [h1] at HT0
  have HT := Lib.hid HT0
  clear HT0
  cases h2 : ratB (p, d) with
  | false =>
    have hok : nyOk a b p d = false := by simp only [nyOk, h2, Bool.and_false]
    rw [ny_no hok, hok]
    clear hok h1
    go_enter Try.func29, Try.ntmps29
    go_wp2_with (first | (go_at_call 65; refine (HT.out _).mono ?_; rintro e w' ⟨rfl, rfl⟩) | (go_at_call 17; first | (refine (isRatio_t _ _ (by assumption) _).mono ?_; rintro e w' ⟨rfl, hcall⟩; have hbw : Below w.heap.size w w' := (by first | exact Below.trans (by assumption) (Below.mono hcall (Below.size (by assumption))) | exact Below.trans (Below.drew (by assumption)) (Below.mono hcall (Below.size (Below.drew (by assumption)))) | exact HW0.out.trans (hcall.mono (by simp <;> omega)) | exact HW0.out.drew.trans (hcall.mono (by simp <;> omega))); have q1 : w'.cell? ⟨w.heap.size, 0, none⟩ = some (.int .i64 p) := below_cell2 hcall (by first | assumption | (simp; done) | (simp [go_sem]; done) | simp [*]); have q2 : w'.cell? ⟨w.heap.size, 1, none⟩ = some (.int .i64 d) := below_cell2 hcall (by first | assumption | (simp; done) | (simp [go_sem]; done) | simp [*]); clear hcall) | (refine (isRatio_f _ _ (by assumption) _).mono ?_; rintro e w' ⟨rfl, hcall⟩; have hbw : Below w.heap.size w w' := (by first | exact Below.trans (by assumption) (Below.mono hcall (Below.size (by assumption))) | exact Below.trans (Below.drew (by assumption)) (Below.mono hcall (Below.size (Below.drew (by assumption)))) | exact HW0.out.trans (hcall.mono (by simp <;> omega)) | exact HW0.out.drew.trans (hcall.mono (by simp <;> omega))); have q1 : w'.cell? ⟨w.heap.size, 0, none⟩ = some (.int .i64 p) := below_cell2 hcall (by first | assumption | (simp; done) | (simp [go_sem]; done) | simp [*]); have q2 : w'.cell? ⟨w.heap.size, 1, none⟩ = some (.int .i64 d) := below_cell2 hcall (by first | assumption | (simp; done) | (simp [go_sem]; done) | simp [*]); clear hcall)))
    go_ret2
    exact ⟨rfl, by first | assumption | exact (Below.refl w.heap.size w).alloc (Nat.le_refl _) _⟩
  | true =>
    have hok : nyOk a b p d = true := by simp only [nyOk, h1, h2, Bool.and_self]
    rw [show nyR a b p d = nyT a b p d (1 - min a b) (119 + min a b).toNat by simp [nyR, hok], hok]
    clear hok
    rw [Bool.and_eq_true, Bool.and_eq_true] at h1
    have ha := inB_iff.1 h1.1.1
    have hb := inB_iff.1 h1.1.2
    have hab : a ≠ b := of_decide_eq_true h1.2
    obtain ⟨hp, hd⟩ := ratB_iff.1 h2
    simp only at hp hd
    have hmn : 0 ≤ min a b ∧ min a b ≤ 120 ∧ min a b ≤ a ∧ min a b ≤ b := by omega
    obtain ⟨N, hN⟩ : ∃ N : Nat, N = (119 + min a b).toNat := ⟨_, rfl⟩
    rw [← hN]
    have hN1 : (N : Int) ≤ 119 + min a b := by omega
    have hN2 : 119 + min a b ≤ (N : Int) := by omega
    clear hN h1
    have HC0 := fun w => coupleOf_any a b 1 w (by omega) (by omega) (by omega)
    rw [show sg 1 a = a from rfl, show sg 1 b = b from rfl, show sg 1 1 = 1 from rfl] at HC0
    have HC := Lib.hid HC0
    have HIN := Lib.hid (fun (n : Int) (hn : -1000 ≤ n ∧ n ≤ 1000) (w : World) => couIn1 a b n w ha hb hn)
    clear HC0
    by_cases hlo : b < a
    · have hmb : min a b = b := by omega
      rw [hmb] at hmn hN1 hN2 ⊢
      clear hmb
      go_enter Try.func29, Try.ntmps29
      go_wp2_with (first | (go_at_call 65; refine (HT.out _).mono ?_; rintro e w' ⟨rfl, rfl⟩) | (go_at_call 17; first | (refine (isRatio_t _ _ (by assumption) _).mono ?_; rintro e w' ⟨rfl, hcall⟩; have hbw : Below w.heap.size w w' := (by first | exact Below.trans (by assumption) (Below.mono hcall (Below.size (by assumption))) | exact Below.trans (Below.drew (by assumption)) (Below.mono hcall (Below.size (Below.drew (by assumption)))) | exact HW0.out.trans (hcall.mono (by simp <;> omega)) | exact HW0.out.drew.trans (hcall.mono (by simp <;> omega))); have q1 : w'.cell? ⟨w.heap.size, 0, none⟩ = some (.int .i64 p) := below_cell2 hcall (by first | assumption | (simp; done) | (simp [go_sem]; done) | simp [*]); have q2 : w'.cell? ⟨w.heap.size, 1, none⟩ = some (.int .i64 d) := below_cell2 hcall (by first | assumption | (simp; done) | (simp [go_sem]; done) | simp [*]); clear hcall) | (refine (isRatio_f _ _ (by assumption) _).mono ?_; rintro e w' ⟨rfl, hcall⟩; have hbw : Below w.heap.size w w' := (by first | exact Below.trans (by assumption) (Below.mono hcall (Below.size (by assumption))) | exact Below.trans (Below.drew (by assumption)) (Below.mono hcall (Below.size (Below.drew (by assumption)))) | exact HW0.out.trans (hcall.mono (by simp <;> omega)) | exact HW0.out.drew.trans (hcall.mono (by simp <;> omega))); have q1 : w'.cell? ⟨w.heap.size, 0, none⟩ = some (.int .i64 p) := below_cell2 hcall (by first | assumption | (simp; done) | (simp [go_sem]; done) | simp [*]); have q2 : w'.cell? ⟨w.heap.size, 1, none⟩ = some (.int .i64 d) := below_cell2 hcall (by first | assumption | (simp; done) | (simp [go_sem]; done) | simp [*]); clear hcall)) | (go_at_call 58; refine (HC.out _).mono ?_; rintro e w2 ⟨rfl, hcall⟩; have hb2 : Below w.heap.size w w2 := hbw.trans (hcall.mono hbw.size); have t1 : w2.cell? ⟨w.heap.size, 0, none⟩ = some (.int .i64 p) := below_cell2 hcall q1; have t2 : w2.cell? ⟨w.heap.size, 1, none⟩ = some (.int .i64 d) := below_cell2 hcall q2; clear hcall))
      have t3 := cell_above t1 (.cells #[.int .i64 a, .int .i64 b, .int .i64 1] 70)
      have t4 := cell_above t2 (.cells #[.int .i64 a, .int .i64 b, .int .i64 1] 70)
      have hb3 := hb2.alloc hb2.size (.cells #[.int .i64 a, .int .i64 b, .int .i64 1] 70)
      obtain ⟨g, hg⟩ : ∃ g, g = w2.heap.size := ⟨_, rfl⟩
      have k30 : (w2.alloc (.cells #[.int .i64 a, .int .i64 b, .int .i64 1] 70)).cell? ⟨g, 0, none⟩ = some (.int .i64 a) := by rw [hg]; simp
      have k31 : (w2.alloc (.cells #[.int .i64 a, .int .i64 b, .int .i64 1] 70)).cell? ⟨g, 1, none⟩ = some (.int .i64 b) := by rw [hg]; simp
      have k32 : (w2.alloc (.cells #[.int .i64 a, .int .i64 b, .int .i64 1] 70)).cell? ⟨g, 2, none⟩ = some (.int .i64 1) := by rw [hg]; simp
      rw [← hg]
      clear hg
      go_loopw [9, 10] (fun bs ys wr => ∃ k : Nat, k ≤ N ∧ ys = .int .i64 (1 - b + ((k : Int) + 1)) ∧ bs = .int .i64 (nyT a b p d (1 - b) k) ∧ wr.cell? ⟨g, 0, none⟩ = some (.int .i64 a) ∧ wr.cell? ⟨g, 1, none⟩ = some (.int .i64 b) ∧ wr.cell? ⟨g, 2, none⟩ = some (.int .i64 1) ∧ wr.cell? ⟨w.heap.size, 0, none⟩ = some (.int .i64 p) ∧ wr.cell? ⟨w.heap.size, 1, none⟩ = some (.int .i64 d) ∧ Below w.heap.size w wr) (fun _ ys _ => (121 - intOf ys).toNat)
      case atStart => exact ⟨0, Nat.zero_le _, by first | rfl | simp, rfl, k30, k31, k32, t3, t4, hb3⟩
      case round =>
        obtain ⟨k, hk, rfl, rfl, k0, k1, k2, s1, s2, hb⟩ := hrel
        clear k30 k31 k32 t3 t4 hb3
        have hbd := nyT_bd a b p d (1 - b) k
        by_cases hlt : k < N
        · have HT1 : Hid (nyT a b p d (1 - b) (k + 1) = if nyD a b p d (1 - b + ((k : Int) + 1)) * (b + nyT a b p d (1 - b) k) < nyD a b p d (nyT a b p d (1 - b) k) * (b + (1 - b + ((k : Int) + 1))) then 1 - b + ((k : Int) + 1) else nyT a b p d (1 - b) k) := Lib.hid rfl
          obtain ⟨y, hy⟩ : ∃ y : Int, y = 1 - b + ((k : Int) + 1) := ⟨_, rfl⟩
          rw [← hy] at HT1 ⊢
          have HY := Lib.hid hy
          have hyb : 1 - b ≤ y ∧ y ≤ 120 := by omega
          have hne : y ≠ nyT a b p d (1 - b) k := by omega
          clear hy
          generalize nyT a b p d (1 - b) k = bs at *
          have HNR0 := fun w => nearer_any (a + y) (b + y) 1 p d (a + bs) (b + bs) 1 w (by omega) (by omega) (by omega) (by omega) (by omega) hp hd
          rw [show apt (a + y) (b + y) p d = nyD a b p d y from rfl, show apt (a + bs) (b + bs) p d = nyD a b p d bs from rfl] at HNR0
          generalize nyD a b p d y = X at *
          generalize nyD a b p d bs = U at *
          by_cases hc : X * (b + bs) < U * (b + y)
          · rw [decide_eq_true hc] at HNR0
            rw [if_pos hc] at HT1
            have HNR := Lib.hid HNR0
            clear HNR0 hc
            go_wp2_with fail
            go_region_held3 (fun w' => Below w.heap.size w w' ∧ w'.cell? ⟨g, 0, none⟩ = some (.int .i64 a) ∧ w'.cell? ⟨g, 1, none⟩ = some (.int .i64 b) ∧ w'.cell? ⟨g, 2, none⟩ = some (.int .i64 1) ∧ w'.cell? ⟨w.heap.size, 0, none⟩ = some (.int .i64 p) ∧ w'.cell? ⟨w.heap.size, 1, none⟩ = some (.int .i64 d))
              (first
                | (exact ⟨Below.drew hb, by simpa using k0, by simpa using k1, by simpa using k2, by simpa using s1, by simpa using s2⟩)
                | (exact ⟨Below.drew (by assumption), by first | assumption | simp [*], by first | assumption | simp [*], by first | assumption | simp [*], by first | assumption | simp [*], by first | assumption | simp [*]⟩)
                | (go_split_ands
                   refine ⟨?_, ?_, ?_, ?_, ?_, ?_⟩
                   · exact Below.trans (by assumption) (Below.mono hcall (Below.size (by assumption)))
                   · exact below_cell2 hcall (by assumption)
                   · exact below_cell2 hcall (by assumption)
                   · exact below_cell2 hcall (by assumption)
                   · exact below_cell2 hcall (by assumption)
                   · exact below_cell2 hcall (by assumption)))
              (first | (go_at_call 61; refine (HIN.out _ (by omega) _).mono ?_; rintro e w' ⟨rfl, hcall⟩) | (go_at_call 66; refine (HNR.out _).mono ?_; rintro e w' ⟨rfl, hcall⟩))
            all_goals
              obtain ⟨hbz, z0, z1, z2, z3, z4⟩ := ‹Below w.heap.size w _ ∧ _›
              go_wp2_with fail
              go_roundw
              case rel => exact ⟨k + 1, by omega, by have := HY.out; go_num, by rw [HT1.out], z0, z1, z2, z3, z4, hbz⟩
              case measure => simp [intOf]; omega
          · rw [decide_eq_false hc] at HNR0
            rw [if_neg hc] at HT1
            have HNR := Lib.hid HNR0
            clear HNR0 hc
            go_wp2_with fail
            go_region_held3 (fun w' => Below w.heap.size w w' ∧ w'.cell? ⟨g, 0, none⟩ = some (.int .i64 a) ∧ w'.cell? ⟨g, 1, none⟩ = some (.int .i64 b) ∧ w'.cell? ⟨g, 2, none⟩ = some (.int .i64 1) ∧ w'.cell? ⟨w.heap.size, 0, none⟩ = some (.int .i64 p) ∧ w'.cell? ⟨w.heap.size, 1, none⟩ = some (.int .i64 d))
              (first
                | (exact ⟨Below.drew hb, by simpa using k0, by simpa using k1, by simpa using k2, by simpa using s1, by simpa using s2⟩)
                | (exact ⟨Below.drew (by assumption), by first | assumption | simp [*], by first | assumption | simp [*], by first | assumption | simp [*], by first | assumption | simp [*], by first | assumption | simp [*]⟩)
                | (go_split_ands
                   refine ⟨?_, ?_, ?_, ?_, ?_, ?_⟩
                   · exact Below.trans (by assumption) (Below.mono hcall (Below.size (by assumption)))
                   · exact below_cell2 hcall (by assumption)
                   · exact below_cell2 hcall (by assumption)
                   · exact below_cell2 hcall (by assumption)
                   · exact below_cell2 hcall (by assumption)
                   · exact below_cell2 hcall (by assumption)))
              (first | (go_at_call 61; refine (HIN.out _ (by omega) _).mono ?_; rintro e w' ⟨rfl, hcall⟩) | (go_at_call 66; refine (HNR.out _).mono ?_; rintro e w' ⟨rfl, hcall⟩))
            all_goals
              obtain ⟨hbz, z0, z1, z2, z3, z4⟩ := ‹Below w.heap.size w _ ∧ _›
              go_wp2_with fail
              go_roundw
              case rel => exact ⟨k + 1, by omega, by have := HY.out; go_num, by rw [HT1.out], z0, z1, z2, z3, z4, hbz⟩
              case measure => simp [intOf]; omega
        · have hkn : k = N := by omega
          subst hkn
          go_wp2
          go_ret2
          exact ⟨rfl, hb⟩
    · have hmb : min a b = a := by omega
      rw [hmb] at hmn hN1 hN2 ⊢
      clear hmb
      go_enter Try.func29, Try.ntmps29
      go_wp2_with (first | (go_at_call 65; refine (HT.out _).mono ?_; rintro e w' ⟨rfl, rfl⟩) | (go_at_call 17; first | (refine (isRatio_t _ _ (by assumption) _).mono ?_; rintro e w' ⟨rfl, hcall⟩; have hbw : Below w.heap.size w w' := (by first | exact Below.trans (by assumption) (Below.mono hcall (Below.size (by assumption))) | exact Below.trans (Below.drew (by assumption)) (Below.mono hcall (Below.size (Below.drew (by assumption)))) | exact HW0.out.trans (hcall.mono (by simp <;> omega)) | exact HW0.out.drew.trans (hcall.mono (by simp <;> omega))); have q1 : w'.cell? ⟨w.heap.size, 0, none⟩ = some (.int .i64 p) := below_cell2 hcall (by first | assumption | (simp; done) | (simp [go_sem]; done) | simp [*]); have q2 : w'.cell? ⟨w.heap.size, 1, none⟩ = some (.int .i64 d) := below_cell2 hcall (by first | assumption | (simp; done) | (simp [go_sem]; done) | simp [*]); clear hcall) | (refine (isRatio_f _ _ (by assumption) _).mono ?_; rintro e w' ⟨rfl, hcall⟩; have hbw : Below w.heap.size w w' := (by first | exact Below.trans (by assumption) (Below.mono hcall (Below.size (by assumption))) | exact Below.trans (Below.drew (by assumption)) (Below.mono hcall (Below.size (Below.drew (by assumption)))) | exact HW0.out.trans (hcall.mono (by simp <;> omega)) | exact HW0.out.drew.trans (hcall.mono (by simp <;> omega))); have q1 : w'.cell? ⟨w.heap.size, 0, none⟩ = some (.int .i64 p) := below_cell2 hcall (by first | assumption | (simp; done) | (simp [go_sem]; done) | simp [*]); have q2 : w'.cell? ⟨w.heap.size, 1, none⟩ = some (.int .i64 d) := below_cell2 hcall (by first | assumption | (simp; done) | (simp [go_sem]; done) | simp [*]); clear hcall)) | (go_at_call 58; refine (HC.out _).mono ?_; rintro e w2 ⟨rfl, hcall⟩; have hb2 : Below w.heap.size w w2 := hbw.trans (hcall.mono hbw.size); have t1 : w2.cell? ⟨w.heap.size, 0, none⟩ = some (.int .i64 p) := below_cell2 hcall q1; have t2 : w2.cell? ⟨w.heap.size, 1, none⟩ = some (.int .i64 d) := below_cell2 hcall q2; clear hcall))
      have t3 := cell_above t1 (.cells #[.int .i64 a, .int .i64 b, .int .i64 1] 70)
      have t4 := cell_above t2 (.cells #[.int .i64 a, .int .i64 b, .int .i64 1] 70)
      have hb3 := hb2.alloc hb2.size (.cells #[.int .i64 a, .int .i64 b, .int .i64 1] 70)
      obtain ⟨g, hg⟩ : ∃ g, g = w2.heap.size := ⟨_, rfl⟩
      have k30 : (w2.alloc (.cells #[.int .i64 a, .int .i64 b, .int .i64 1] 70)).cell? ⟨g, 0, none⟩ = some (.int .i64 a) := by rw [hg]; simp
      have k31 : (w2.alloc (.cells #[.int .i64 a, .int .i64 b, .int .i64 1] 70)).cell? ⟨g, 1, none⟩ = some (.int .i64 b) := by rw [hg]; simp
      have k32 : (w2.alloc (.cells #[.int .i64 a, .int .i64 b, .int .i64 1] 70)).cell? ⟨g, 2, none⟩ = some (.int .i64 1) := by rw [hg]; simp
      rw [← hg]
      clear hg
      go_loopw [9, 10] (fun bs ys wr => ∃ k : Nat, k ≤ N ∧ ys = .int .i64 (1 - a + ((k : Int) + 1)) ∧ bs = .int .i64 (nyT a b p d (1 - a) k) ∧ wr.cell? ⟨g, 0, none⟩ = some (.int .i64 a) ∧ wr.cell? ⟨g, 1, none⟩ = some (.int .i64 b) ∧ wr.cell? ⟨g, 2, none⟩ = some (.int .i64 1) ∧ wr.cell? ⟨w.heap.size, 0, none⟩ = some (.int .i64 p) ∧ wr.cell? ⟨w.heap.size, 1, none⟩ = some (.int .i64 d) ∧ Below w.heap.size w wr) (fun _ ys _ => (121 - intOf ys).toNat)
      case atStart => exact ⟨0, Nat.zero_le _, by first | rfl | simp, rfl, k30, k31, k32, t3, t4, hb3⟩
      case round =>
        obtain ⟨k, hk, rfl, rfl, k0, k1, k2, s1, s2, hb⟩ := hrel
        clear k30 k31 k32 t3 t4 hb3
        have hbd := nyT_bd a b p d (1 - a) k
        by_cases hlt : k < N
        · have HT1 : Hid (nyT a b p d (1 - a) (k + 1) = if nyD a b p d (1 - a + ((k : Int) + 1)) * (b + nyT a b p d (1 - a) k) < nyD a b p d (nyT a b p d (1 - a) k) * (b + (1 - a + ((k : Int) + 1))) then 1 - a + ((k : Int) + 1) else nyT a b p d (1 - a) k) := Lib.hid rfl
          obtain ⟨y, hy⟩ : ∃ y : Int, y = 1 - a + ((k : Int) + 1) := ⟨_, rfl⟩
          rw [← hy] at HT1 ⊢
          have HY := Lib.hid hy
          have hyb : 1 - a ≤ y ∧ y ≤ 120 := by omega
          have hne : y ≠ nyT a b p d (1 - a) k := by omega
          clear hy
          generalize nyT a b p d (1 - a) k = bs at *
          have HNR0 := fun w => nearer_any (a + y) (b + y) 1 p d (a + bs) (b + bs) 1 w (by omega) (by omega) (by omega) (by omega) (by omega) hp hd
          rw [show apt (a + y) (b + y) p d = nyD a b p d y from rfl, show apt (a + bs) (b + bs) p d = nyD a b p d bs from rfl] at HNR0
          generalize nyD a b p d y = X at *
          generalize nyD a b p d bs = U at *
          by_cases hc : X * (b + bs) < U * (b + y)
          · rw [decide_eq_true hc] at HNR0
            rw [if_pos hc] at HT1
            have HNR := Lib.hid HNR0
            clear HNR0 hc
            go_wp2_with fail
            go_region_held3 (fun w' => Below w.heap.size w w' ∧ w'.cell? ⟨g, 0, none⟩ = some (.int .i64 a) ∧ w'.cell? ⟨g, 1, none⟩ = some (.int .i64 b) ∧ w'.cell? ⟨g, 2, none⟩ = some (.int .i64 1) ∧ w'.cell? ⟨w.heap.size, 0, none⟩ = some (.int .i64 p) ∧ w'.cell? ⟨w.heap.size, 1, none⟩ = some (.int .i64 d))
              (first
                | (exact ⟨Below.drew hb, by simpa using k0, by simpa using k1, by simpa using k2, by simpa using s1, by simpa using s2⟩)
                | (exact ⟨Below.drew (by assumption), by first | assumption | simp [*], by first | assumption | simp [*], by first | assumption | simp [*], by first | assumption | simp [*], by first | assumption | simp [*]⟩)
                | (go_split_ands
                   refine ⟨?_, ?_, ?_, ?_, ?_, ?_⟩
                   · exact Below.trans (by assumption) (Below.mono hcall (Below.size (by assumption)))
                   · exact below_cell2 hcall (by assumption)
                   · exact below_cell2 hcall (by assumption)
                   · exact below_cell2 hcall (by assumption)
                   · exact below_cell2 hcall (by assumption)
                   · exact below_cell2 hcall (by assumption)))
              (first | (go_at_call 61; refine (HIN.out _ (by omega) _).mono ?_; rintro e w' ⟨rfl, hcall⟩) | (go_at_call 66; refine (HNR.out _).mono ?_; rintro e w' ⟨rfl, hcall⟩))
            all_goals
              obtain ⟨hbz, z0, z1, z2, z3, z4⟩ := ‹Below w.heap.size w _ ∧ _›
              go_wp2_with fail
              go_roundw
              case rel => exact ⟨k + 1, by omega, by have := HY.out; go_num, by rw [HT1.out], z0, z1, z2, z3, z4, hbz⟩
              case measure => simp [intOf]; omega
          · rw [decide_eq_false hc] at HNR0
            rw [if_neg hc] at HT1
            have HNR := Lib.hid HNR0
            clear HNR0 hc
            go_wp2_with fail
            go_region_held3 (fun w' => Below w.heap.size w w' ∧ w'.cell? ⟨g, 0, none⟩ = some (.int .i64 a) ∧ w'.cell? ⟨g, 1, none⟩ = some (.int .i64 b) ∧ w'.cell? ⟨g, 2, none⟩ = some (.int .i64 1) ∧ w'.cell? ⟨w.heap.size, 0, none⟩ = some (.int .i64 p) ∧ w'.cell? ⟨w.heap.size, 1, none⟩ = some (.int .i64 d))
              (first
                | (exact ⟨Below.drew hb, by simpa using k0, by simpa using k1, by simpa using k2, by simpa using s1, by simpa using s2⟩)
                | (exact ⟨Below.drew (by assumption), by first | assumption | simp [*], by first | assumption | simp [*], by first | assumption | simp [*], by first | assumption | simp [*], by first | assumption | simp [*]⟩)
                | (go_split_ands
                   refine ⟨?_, ?_, ?_, ?_, ?_, ?_⟩
                   · exact Below.trans (by assumption) (Below.mono hcall (Below.size (by assumption)))
                   · exact below_cell2 hcall (by assumption)
                   · exact below_cell2 hcall (by assumption)
                   · exact below_cell2 hcall (by assumption)
                   · exact below_cell2 hcall (by assumption)
                   · exact below_cell2 hcall (by assumption)))
              (first | (go_at_call 61; refine (HIN.out _ (by omega) _).mono ?_; rintro e w' ⟨rfl, hcall⟩) | (go_at_call 66; refine (HNR.out _).mono ?_; rintro e w' ⟨rfl, hcall⟩))
            all_goals
              obtain ⟨hbz, z0, z1, z2, z3, z4⟩ := ‹Below w.heap.size w _ ∧ _›
              go_wp2_with fail
              go_roundw
              case rel => exact ⟨k + 1, by omega, by have := HY.out; go_num, by rw [HT1.out], z0, z1, z2, z3, z4, hbz⟩
              case measure => simp [intOf]; omega
        · have hkn : k = N := by omega
          subst hkn
          go_wp2
          go_ret2
          exact ⟨rfl, hb⟩
theorem ny_both (a b p d : Int) : ∃ (r : Int) (ok : Bool), (∀ w, Calls Try.prog 28 #[.int .i64 a, .int .i64 b, .agg #[.int .i64 p, .int .i64 d]] w (RetIB r ok w)) ∧ ∀ w, Calls Try.prog 29 #[.int .i64 a, .int .i64 b, .agg #[.int .i64 p, .int .i64 d]] w (RetIB r ok w) :=
  ⟨_, _, fun w => specNy_any a b p d w, fun w => ny_any a b p d w⟩
end Go.Proofs.Ytmidobhfahpkcaa
