/- NearestYear: both texts. -/
import Derived.Test.YtmidobhfahpkcaaNy
import Derived.Test.YtmidobhfahpkcaaTwo
set_option linter.unusedVariables false
set_option linter.unusedSimpArgs false
namespace Go.Proofs.Ytmidobhfahpkcaa
open Go.RowKit

/-- How far from the ratio in a year; the nearest one of the first years. -/
def nyD (a b p d y : Int) : Int := apt (a + y) (b + y) p d
def nyT (a b p d s : Int) : Nat → Int
  | 0 => s
  | k + 1 => if nyD a b p d (s + ((k : Int) + 1)) * (b + nyT a b p d s k) < nyD a b p d (nyT a b p d s k) * (b + (s + ((k : Int) + 1))) then s + ((k : Int) + 1) else nyT a b p d s k
theorem nyT_bd (a b p d s : Int) : ∀ k : Nat, s ≤ nyT a b p d s k ∧ nyT a b p d s k ≤ s + k
  | 0 => by simp [nyT]
  | k + 1 => by
    have := nyT_bd a b p d s k
    unfold nyT
    split <;> omega
def nyOk (a b p d : Int) : Bool := (inB a 0 120 && inB b 0 120 && decide (a ≠ b)) && ratB (p, d)
def nyR (a b p d : Int) : Int := if nyOk a b p d = true then nyT a b p d (1 - min a b) (119 + min a b).toNat else 0
theorem ny_no {a b p d : Int} (h : nyOk a b p d = false) : nyR a b p d = 0 := by simp [nyR, h]

theorem sameQN {v : Value} {w : World} : ∀ e w', RetSame v w e w' → e = .returned v ∧ w' = w := fun _ _ h => ⟨h.1, h.2.symm⟩
set_option maxHeartbeats 8000000 in
set_option maxRecDepth 100000 in
theorem specNy_any (a b p d : Int) (w : World) : Calls Try.prog 28 #[.int .i64 a, .int .i64 b, .agg #[.int .i64 p, .int .i64 d]] w (RetIB (nyR a b p d) (nyOk a b p d) w) := by
  have HW0 := Lib.hid ((Below.refl w.heap.size w).alloc (Nat.le_refl _) (.cells #[.int .i64 p, .int .i64 d] 25))
  have HT0 := fun w => raTwo_any a b w
  cases h1 : (inB a 0 120 && inB b 0 120 && decide (a ≠ b)) with
  | false =>
    have hok : nyOk a b p d = false := by simp only [nyOk, h1, Bool.false_and]
    rw [ny_no hok, hok]
    rw [h1] at HT0
    have HT := Lib.hid HT0
    clear HT0 hok h1
    go_enter Try.func28, Try.ntmps28
    go_wp2_with (first | (go_at_call 63; refine (HT.out _).mono ?_; rintro e w' ⟨rfl, rfl⟩))
    go_ret2
    exact ⟨rfl, by first | assumption | exact (Below.refl w.heap.size w).alloc (Nat.le_refl _) _⟩
  | true =>
  rw [h1] at HT0
  have HT := Lib.hid HT0
  clear HT0
  cases h2 : ratB (p, d) with
  | false =>
    have hok : nyOk a b p d = false := by simp only [nyOk, h2, Bool.and_false]
    rw [ny_no hok, hok]
    clear hok h1
    go_enter Try.func28, Try.ntmps28
    go_wp2_with (first | (go_at_call 63; refine (HT.out _).mono ?_; rintro e w' ⟨rfl, rfl⟩) | (go_at_call 49; first | (refine (raGood_t _ _ (by assumption) _).mono ?_; rintro e w' ⟨rfl, hcall⟩; have hbw : Below w.heap.size w w' := (by first | exact Below.trans (by assumption) (Below.mono hcall (Below.size (by assumption))) | exact Below.trans (Below.drew (by assumption)) (Below.mono hcall (Below.size (Below.drew (by assumption)))) | exact HW0.out.trans (hcall.mono (by simp <;> omega)) | exact HW0.out.drew.trans (hcall.mono (by simp <;> omega))); have q1 : w'.cell? ⟨w.heap.size, 0, none⟩ = some (.int .i64 p) := below_cell2 hcall (by first | assumption | (simp; done) | (simp [go_sem]; done) | simp [*]); have q2 : w'.cell? ⟨w.heap.size, 1, none⟩ = some (.int .i64 d) := below_cell2 hcall (by first | assumption | (simp; done) | (simp [go_sem]; done) | simp [*]); clear hcall) | (refine (raGood_f _ _ (by assumption) _).mono ?_; rintro e w' ⟨rfl, hcall⟩; have hbw : Below w.heap.size w w' := (by first | exact Below.trans (by assumption) (Below.mono hcall (Below.size (by assumption))) | exact Below.trans (Below.drew (by assumption)) (Below.mono hcall (Below.size (Below.drew (by assumption)))) | exact HW0.out.trans (hcall.mono (by simp <;> omega)) | exact HW0.out.drew.trans (hcall.mono (by simp <;> omega))); have q1 : w'.cell? ⟨w.heap.size, 0, none⟩ = some (.int .i64 p) := below_cell2 hcall (by first | assumption | (simp; done) | (simp [go_sem]; done) | simp [*]); have q2 : w'.cell? ⟨w.heap.size, 1, none⟩ = some (.int .i64 d) := below_cell2 hcall (by first | assumption | (simp; done) | (simp [go_sem]; done) | simp [*]); clear hcall)))
    go_ret2
    exact ⟨rfl, by first | assumption | exact (Below.refl w.heap.size w).alloc (Nat.le_refl _) _⟩
  | true =>
    have hok : nyOk a b p d = true := by simp only [nyOk, h1, h2, Bool.and_self]
    rw [show nyR a b p d = nyT a b p d (1 - min a b) (119 + min a b).toNat by simp [nyR, hok], hok]
    clear hok
    rw [Bool.and_eq_true, Bool.and_eq_true] at h1
    have ha := inB_iff.1 h1.1.1
    have hb := inB_iff.1 h1.1.2
    have hab : a ≠ b := of_decide_eq_true h1.2
    obtain ⟨hp, hd⟩ := ratB_iff.1 h2
    simp only at hp hd
    have hmn : 0 ≤ min a b ∧ min a b ≤ 120 ∧ min a b ≤ a ∧ min a b ≤ b := by omega
    obtain ⟨N, hN⟩ : ∃ N : Nat, N = (119 + min a b).toNat := ⟨_, rfl⟩
    rw [← hN]
    have hN1 : (N : Int) ≤ 119 + min a b := by omega
    have hN2 : 119 + min a b ≤ (N : Int) := by omega
    clear hN h1
    have HM := Lib.hid (fun w => l1Least_any a b w)
    generalize min a b = mn at *
    go_enter Try.func28, Try.ntmps28
    go_wp2_with (first | (go_at_call 63; refine (HT.out _).mono ?_; rintro e w' ⟨rfl, rfl⟩) | (go_at_call 49; first | (refine (raGood_t _ _ (by assumption) _).mono ?_; rintro e w' ⟨rfl, hcall⟩; have hbw : Below w.heap.size w w' := (by first | exact Below.trans (by assumption) (Below.mono hcall (Below.size (by assumption))) | exact Below.trans (Below.drew (by assumption)) (Below.mono hcall (Below.size (Below.drew (by assumption)))) | exact HW0.out.trans (hcall.mono (by simp <;> omega)) | exact HW0.out.drew.trans (hcall.mono (by simp <;> omega))); have q1 : w'.cell? ⟨w.heap.size, 0, none⟩ = some (.int .i64 p) := below_cell2 hcall (by first | assumption | (simp; done) | (simp [go_sem]; done) | simp [*]); have q2 : w'.cell? ⟨w.heap.size, 1, none⟩ = some (.int .i64 d) := below_cell2 hcall (by first | assumption | (simp; done) | (simp [go_sem]; done) | simp [*]); clear hcall) | (refine (raGood_f _ _ (by assumption) _).mono ?_; rintro e w' ⟨rfl, hcall⟩; have hbw : Below w.heap.size w w' := (by first | exact Below.trans (by assumption) (Below.mono hcall (Below.size (by assumption))) | exact Below.trans (Below.drew (by assumption)) (Below.mono hcall (Below.size (Below.drew (by assumption)))) | exact HW0.out.trans (hcall.mono (by simp <;> omega)) | exact HW0.out.drew.trans (hcall.mono (by simp <;> omega))); have q1 : w'.cell? ⟨w.heap.size, 0, none⟩ = some (.int .i64 p) := below_cell2 hcall (by first | assumption | (simp; done) | (simp [go_sem]; done) | simp [*]); have q2 : w'.cell? ⟨w.heap.size, 1, none⟩ = some (.int .i64 d) := below_cell2 hcall (by first | assumption | (simp; done) | (simp [go_sem]; done) | simp [*]); clear hcall)) | (go_at_call 53; refine (HM.out _).mono ?_; rintro e w' ⟨rfl, rfl⟩))
    go_loopw [8, 9, 10, 11] (fun bs nm dn ys wr => ∃ k : Nat, k ≤ N + 1 ∧ ys = .int .i64 (1 - mn + k) ∧ ((k = 0 ∧ bs = .int .i64 0 ∧ nm = .int .i64 (-1) ∧ dn = .int .i64 1) ∨ ∃ j : Nat, k = j + 1 ∧ bs = .int .i64 (nyT a b p d (1 - mn) j) ∧ nm = .int .i64 (nyD a b p d (nyT a b p d (1 - mn) j)) ∧ dn = .int .i64 ((b + nyT a b p d (1 - mn) j) * d)) ∧ wr.cell? ⟨w.heap.size, 0, none⟩ = some (.int .i64 p) ∧ wr.cell? ⟨w.heap.size, 1, none⟩ = some (.int .i64 d) ∧ Below w.heap.size w wr) (fun _ _ _ ys _ => (121 - intOf ys).toNat)
    case atStart => exact ⟨0, Nat.zero_le _, by simp, .inl ⟨rfl, rfl, rfl, rfl⟩, q1, q2, hbw⟩
    case round =>
      obtain ⟨k, hk, rfl, hst, s1, s2, hb⟩ := hrel
      by_cases hlt : k ≤ N
      · obtain ⟨y, hy⟩ : ∃ y : Int, y = 1 - mn + k := ⟨_, rfl⟩
        rw [← hy]
        have HY := Lib.hid hy
        have hyb : 1 - mn ≤ y ∧ y ≤ 120 := by omega
        clear hy
        have hA : 0 ≤ a + y ∧ a + y ≤ 1000 := by omega
        have hB : 1 ≤ b + y ∧ b + y ≤ 1000 := by omega
        have m1 := mul_bd (x := a + y) (y := d) (X := 1000) (Y := 100) hA (by omega)
        have m2 := mul_bd (x := p) (y := b + y) (X := 100) (Y := 1000) (by omega) (by omega)
        have m3 := mul_bd (x := b + y) (y := d) (X := 1000) (Y := 100) (by omega) (by omega)
        have x0 : IntKind.i64.wrap (a + y) = a + y := IntWalk.i64_in _ (by omega)
        have x1 : IntKind.i64.wrap (b + y) = b + y := IntWalk.i64_in _ (by omega)
        have x2 : IntKind.i64.wrap ((a + y) * d) = (a + y) * d := IntWalk.i64_in _ (by omega)
        have x3 : IntKind.i64.wrap (p * (b + y)) = p * (b + y) := IntWalk.i64_in _ (by omega)
        have x4 : IntKind.i64.wrap ((a + y) * d - p * (b + y)) = (a + y) * d - p * (b + y) := IntWalk.i64_in _ (by omega)
        have x5 : IntKind.i64.wrap ((b + y) * d) = (b + y) * d := IntWalk.i64_in _ (by omega)
        have HAB0 := fun w => l1Abs_any ((a + y) * d - p * (b + y)) w (by omega)
        have hD : (((a + y) * d - p * (b + y)).natAbs : Int) = nyD a b p d y := by unfold nyD apt; rw [Int.mul_comm p (b + y)]
        rw [hD] at HAB0
        have HAB := Lib.hid HAB0
        have hDb : 0 ≤ nyD a b p d y ∧ nyD a b p d y ≤ 100000 := apt_bd hA (by omega) hp hd
        clear HAB0 hD
        rcases hst with ⟨rfl, rfl, rfl, rfl⟩ | ⟨j, rfl, rfl, rfl, rfl⟩
        · have HT0 : Hid (nyT a b p d (1 - mn) 0 = y) := Lib.hid (by have := HY.out; simp [nyT]; omega)
          clear m1 m2 m3
          go_wp2
          (go_quiet ((first | (go_at_call 64; exact Calls.quiet_of_same ((HAB.out _).mono sameQN)))))
          go_wp2
          go_roundw
          case rel => exact ⟨1, by omega, by have := HY.out; go_num, .inr ⟨0, rfl, by rw [HT0.out], by rw [HT0.out], by rw [HT0.out]⟩, by simpa using s1, by simpa using s2, below_drewN hb _⟩
          case measure => simp [intOf]; omega
        · have hbd := nyT_bd a b p d (1 - mn) j
          have HT1 : Hid (nyT a b p d (1 - mn) (j + 1) = if nyD a b p d y * (b + nyT a b p d (1 - mn) j) < nyD a b p d (nyT a b p d (1 - mn) j) * (b + y) then y else nyT a b p d (1 - mn) j) := Lib.hid (by
            have e : (1 - mn) + ((j : Int) + 1) = y := by have := HY.out; omega
            show (if _ then _ else _) = _
            rw [e])
          have hB2 : 1 ≤ b + nyT a b p d (1 - mn) j ∧ b + nyT a b p d (1 - mn) j ≤ 1000 := by omega
          have hA2 : 0 ≤ a + nyT a b p d (1 - mn) j ∧ a + nyT a b p d (1 - mn) j ≤ 1000 := by omega
          have hDb2 : 0 ≤ nyD a b p d (nyT a b p d (1 - mn) j) ∧ nyD a b p d (nyT a b p d (1 - mn) j) ≤ 100000 := apt_bd hA2 (by omega) hp hd
          clear hbd hA2
          have HXU : Hid (∃ X U, nyD a b p d y = X ∧ nyD a b p d (nyT a b p d (1 - mn) j) = U) := Lib.hid ⟨_, _, rfl, rfl⟩
          obtain ⟨X, U, hX, hU0⟩ := HXU.out
          rw [hX] at hDb HT1 HAB
          rw [hU0] at hDb2 HT1 ⊢
          have HX := Lib.hid hX
          have HU := Lib.hid hU0
          clear hX hU0 HXU
          generalize nyT a b p d (1 - mn) j = bs at *
          have n1 := mul_bd (x := b + bs) (y := d) (X := 1000) (Y := 100) (by omega) (by omega)
          have n2 := mul_bd (x := X) (y := (b + bs) * d) (X := 100000) (Y := 100000) hDb (by omega)
          have n3 := mul_bd (x := U) (y := (b + y) * d) (X := 100000) (Y := 100000) hDb2 (by omega)
          have hiff : X * ((b + bs) * d) < U * ((b + y) * d) ↔ X * (b + bs) < U * (b + y) := by
            rw [← Int.mul_assoc, ← Int.mul_assoc]
            exact Int.mul_lt_mul_right (show 0 < d by omega)
          have hU : ¬ U < 0 := by omega
          by_cases hc : X * (b + bs) < U * (b + y)
          · have hc2 := hiff.2 hc
            rw [if_pos hc] at HT1
            clear hiff hc m1 m2 m3
            go_wp2
            (go_quiet ((first | (go_at_call 64; exact Calls.quiet_of_same ((HAB.out _).mono sameQN)))))
            go_wp2
            go_roundw
            case rel => exact ⟨j + 1 + 1, by omega, by have := HY.out; go_num, .inr ⟨j + 1, rfl, by rw [HT1.out], by rw [HT1.out, HX.out], by rw [HT1.out]⟩, by simpa using s1, by simpa using s2, below_drewN hb _⟩
            case measure => simp [intOf]; omega
          · have hc2 := mt hiff.1 hc
            rw [if_neg hc] at HT1
            clear hiff hc m1 m2 m3
            go_wp2
            (go_quiet ((first | (go_at_call 64; exact Calls.quiet_of_same ((HAB.out _).mono sameQN)))))
            go_wp2
            go_roundw
            case rel => exact ⟨j + 1 + 1, by omega, by have := HY.out; go_num, .inr ⟨j + 1, rfl, by rw [HT1.out], by rw [HT1.out, HU.out], by rw [HT1.out]⟩, by simpa using s1, by simpa using s2, below_drewN hb _⟩
            case measure => simp [intOf]; omega
      · have hkn : k = N + 1 := by omega
        subst hkn
        rcases hst with ⟨h0, _⟩ | ⟨j, hj, rfl, rfl, rfl⟩
        · omega
        · obtain rfl : j = N := by omega
          go_wp2
          go_ret2
          exact ⟨rfl, hb⟩
end Go.Proofs.Ytmidobhfahpkcaa
