/- Parts of a life: both texts. -/
import Derived.Test.YtmidobhfahpkcabCh
set_option linter.unusedVariables false
set_option linter.unusedSimpArgs false
namespace Go.Proofs.Ytmidobhfahpkcab
open Go.RowKit

theorem mul_bdL {x y X Y : Int} (hx : 0 ≤ x ∧ x ≤ X) (hy : 0 ≤ y ∧ y ≤ Y) : 0 ≤ x * y ∧ x * y ≤ X * Y :=
  ⟨Int.mul_nonneg hx.1 hy.1, Int.mul_le_mul hx.2 hy.2 hy.1 (by omega)⟩
theorem mul_bdM {x y X Y : Int} (hx : -X ≤ x ∧ x ≤ X) (hy : 0 ≤ y ∧ y ≤ Y) : -(X * Y) ≤ x * y ∧ x * y ≤ X * Y := by
  have hX : 0 ≤ X := by omega
  have h1 := Int.mul_le_mul_of_nonneg_right hx.2 hy.1
  have h2 := Int.mul_le_mul_of_nonneg_right hx.1 hy.1
  have h3 := Int.mul_le_mul_of_nonneg_left hy.2 hX
  rw [Int.neg_mul] at h2
  omega
/-- The sum of the first k parts, in lowest terms, and what they leave, not so. -/
def ptP (ds : List Dt) : Nat → Int × Int
  | 0 => (0, 1)
  | k + 1 => (rlN ((ptP ds k).1 * (at2 ds k).2 + (at2 ds k).1 * (ptP ds k).2) ((ptP ds k).2 * (at2 ds k).2), rlD ((ptP ds k).1 * (at2 ds k).2 + (at2 ds k).1 * (ptP ds k).2) ((ptP ds k).2 * (at2 ds k).2))
def rsT (ds : List Dt) : Nat → Int × Int
  | 0 => (1, 1)
  | k + 1 => ((rsT ds k).1 * (at2 ds k).2 - (rsT ds k).2 * (at2 ds k).1, (rsT ds k).2 * (at2 ds k).2)
def bnd : Nat → Int
  | 0 => 1
  | k + 1 => 100 * bnd k
def bne : Nat → Int
  | 0 => 1
  | k + 1 => 100 * bne k + 100 * bnd k
theorem bnd_le {k : Nat} (h : k ≤ 6) : 1 ≤ bnd k ∧ bnd k ≤ 1000000000000 ∧ 1 ≤ bne k ∧ bne k ≤ 10000000000000 := by
  have : k = 0 ∨ k = 1 ∨ k = 2 ∨ k = 3 ∨ k = 4 ∨ k = 5 ∨ k = 6 := by omega
  rcases this with rfl | rfl | rfl | rfl | rfl | rfl | rfl <;> simp [bnd, bne]
structure LfAt (ds : List Dt) (k : Nat) : Prop where
  q : 1 ≤ (ptP ds k).2 ∧ (ptP ds k).2 ≤ bnd k
  p : 0 ≤ (ptP ds k).1 ∧ (ptP ds k).1 ≤ bne k
  n : -bne k ≤ (rsT ds k).1 ∧ (rsT ds k).1 ≤ bne k
  d : 1 ≤ (rsT ds k).2 ∧ (rsT ds k).2 ≤ bnd k
  eq : ((ptP ds k).2 - (ptP ds k).1) * (rsT ds k).2 = (rsT ds k).1 * (ptP ds k).2
theorem lfAt {ds : List Dt} (h : chB ds = true) : ∀ k, k ≤ ds.length → LfAt ds k := by
  have h6 := chB_len h
  intro k
  induction k with
  | zero => intro _; exact ⟨by simp [ptP, bnd], by simp [ptP, bne], by simp [rsT, bne], by simp [rsT, bnd], by simp [ptP, rsT]⟩
  | succ k ih =>
    intro hk
    obtain ⟨q, p, n, d, eq⟩ := ih (by omega)
    obtain ⟨hb1, hb2, hb3, hb4⟩ := bnd_le (k := k) (by omega)
    obtain ⟨ha, hd⟩ := ratB_iff.1 (chB_at h k (by omega))
    have e1 : ptP ds (k + 1) = (rlN ((ptP ds k).1 * (at2 ds k).2 + (at2 ds k).1 * (ptP ds k).2) ((ptP ds k).2 * (at2 ds k).2), rlD ((ptP ds k).1 * (at2 ds k).2 + (at2 ds k).1 * (ptP ds k).2) ((ptP ds k).2 * (at2 ds k).2)) := rfl
    have e2 : rsT ds (k + 1) = ((rsT ds k).1 * (at2 ds k).2 - (rsT ds k).2 * (at2 ds k).1, (rsT ds k).2 * (at2 ds k).2) := rfl
    have e3 : bnd (k + 1) = 100 * bnd k := rfl
    have e4 : bne (k + 1) = 100 * bne k + 100 * bnd k := rfl
    generalize at2 ds k = r at *
    obtain ⟨a, b⟩ := r
    simp only at ha hd
    generalize ptP ds k = PQ at *
    obtain ⟨P, Q⟩ := PQ
    generalize rsT ds k = NM at *
    obtain ⟨N, M⟩ := NM
    simp only at q p n d eq e1 e2
    have hst := rest_step (a := a) (b := b) (by omega) (by omega) eq
    have m1 := mul_bdL (x := P) (y := b) (X := bne k) (Y := 100) p (by omega)
    have m2 := mul_bdL (x := a) (y := Q) (X := 100) (Y := bnd k) (by omega) (by omega)
    have m3 := mul_bdL (x := Q) (y := b) (X := bnd k) (Y := 100) (by omega) (by omega)
    have m4 := mul_bdM (x := N) (y := b) (X := bne k) (Y := 100) n (by omega)
    have m5 := mul_bdL (x := M) (y := a) (X := bnd k) (Y := 100) (by omega) (by omega)
    have m6 := mul_bdL (x := M) (y := b) (X := bnd k) (Y := 100) (by omega) (by omega)
    have q1 : 1 ≤ Q * b := Int.mul_pos (by omega) (by omega)
    have q2 : 1 ≤ M * b := Int.mul_pos (by omega) (by omega)
    have hr := rl_bd (P * b + a * Q) (Q * b) (by omega)
    have hp0 : 0 ≤ rlN (P * b + a * Q) (Q * b) := by
      obtain ⟨k1, k2, k3⟩ := rl_parts (P * b + a * Q) (Q * b) (by omega)
      have hg := rlG_pos (P * b + a * Q) (Q * b) (by omega)
      refine Int.not_lt.1 fun hlt => ?_
      have := Int.mul_neg_of_neg_of_pos hlt hg
      omega
    rw [Int.mul_comm 100 (bnd k)] at m2
    constructor
    · rw [e1, e3]; simp only; omega
    · rw [e1, e4]; simp only; omega
    · rw [e2, e4]; simp only; omega
    · rw [e2, e3]; simp only; omega
    · rw [e1, e2]; simp only; exact hst

set_option maxHeartbeats 4000000 in
set_option maxRecDepth 100000 in
theorem raParts_any (b c n : Nat) (ds : List Dt) (w : World) (hc : chB ds = true) (hl : ds.length = n) (hI : Dts w b 0 ds) (hbl : b < w.heap.size) :
    Calls Try.prog 27 #[.slice (some ⟨b, 0, none⟩) n c] w (RetTwo (ptP ds n).1 (ptP ds n).2 w) := by
  have HC := Lib.hid hc
  have HL0 := Lib.hid hl
  have h6 : n ≤ 6 := by have := chB_len hc; omega
  clear hc hl
  go_enter Try.func27, Try.ntmps27
  go_wp2
  go_loopw [4, 5, 10] (fun u v i wr => ∃ k : Nat, k ≤ n ∧ i = .int .i64 k ∧ u = .int .i64 (ptP ds k).1 ∧ v = .int .i64 (ptP ds k).2 ∧ Below w.heap.size w wr) (fun _ _ i _ => n - (intOf i).toNat)
  case atStart => exact ⟨0, Nat.zero_le _, rfl, rfl, rfl, Below.refl _ _⟩
  case round =>
    obtain ⟨k, hk, rfl, rfl, rfl, hb⟩ := hrel
    have hsz := hb.size
    by_cases hlt : k < n
    · obtain ⟨p1, p2⟩ := (hI.kept hb hbl) k (by rw [HL0.out]; exact hlt)
      obtain ⟨hq, hp, _, _, _⟩ := lfAt HC.out k (by rw [HL0.out]; omega)
      obtain ⟨hb1, hb2, hb3, hb4⟩ := bnd_le (k := k) (by omega)
      obtain ⟨ha, hd⟩ := ratB_iff.1 (chB_at HC.out k (by rw [HL0.out]; exact hlt))
      have HE : Hid (ptP ds (k + 1) = (rlN ((ptP ds k).1 * (at2 ds k).2 + (at2 ds k).1 * (ptP ds k).2) ((ptP ds k).2 * (at2 ds k).2), rlD ((ptP ds k).1 * (at2 ds k).2 + (at2 ds k).1 * (ptP ds k).2) ((ptP ds k).2 * (at2 ds k).2))) := Lib.hid rfl
      have z0 : Nat.add 0 (k * 2) = k * 2 := Nat.zero_add _
      rw [Nat.zero_add] at p1 p2
      have hP : 0 ≤ (ptP ds k).1 ∧ (ptP ds k).1 ≤ 10000000000000 := by omega
      have hQ : 1 ≤ (ptP ds k).2 ∧ (ptP ds k).2 ≤ 1000000000000 := by omega
      clear hq hp hb1 hb2 hb3 hb4 z0
      generalize (at2 ds k).1 = a at *
      generalize (at2 ds k).2 = d at *
      generalize (ptP ds k).1 = P at *
      generalize (ptP ds k).2 = Q at *
      have m1 := mul_bdL (x := P) (y := d) (X := 10000000000000) (Y := 100) hP (by omega)
      have m2 := mul_bdL (x := a) (y := Q) (X := 100) (Y := 1000000000000) (by omega) (by omega)
      have m3 := mul_bdL (x := Q) (y := d) (X := 1000000000000) (Y := 100) (by omega) (by omega)
      have q1 : 1 ≤ Q * d := Int.mul_pos (by omega) (by omega)
      have HL := Lib.hid (fun w => raLow_any (P * d + a * Q) (Q * d) w (by omega) (by omega) (by omega))
      have i0 : (0 : Int) ≤ (k : Int) := by omega
      have i1 : (k : Int) < (n : Int) := by omega
      go_wp2_with (first | (go_at_call 28; refine (HL.out _).mono ?_; rintro e w' ⟨rfl, hcall⟩))
      go_roundw
      case rel => exact ⟨k + 1, by omega, by go_num, by rw [HE.out], by rw [HE.out], (hb.alloc hsz _).trans (hcall.mono (by simp; omega))⟩
      case measure => simp [intOf]; omega
    · have hkn : k = n := by omega
      subst hkn
      go_wp2
      go_ret2
      exact ⟨rfl, hb⟩

set_option maxHeartbeats 4000000 in
set_option maxRecDepth 100000 in
theorem restOfLife_no (b c n : Nat) (ds : List Dt) (w : World) (hc : chB ds = false) (hl : ds.length = n) (hI : Dts w b 0 ds) (hbl : b < w.heap.size) :
    Calls Try.prog 30 #[.slice (some ⟨b, 0, none⟩) n c] w (RetIIB 0 0 false w) := by
  have HA0 := areRatios_any b 0 n c ds w hl hI hbl
  rw [hc] at HA0
  have HA := Lib.hid HA0
  clear HA0 hc
  go_enter Try.func30, Try.ntmps30
  go_wp2_with (first | (go_at_call 48; refine HA.out.mono ?_; rintro e w' ⟨rfl, hcall⟩; have hbw : Below w.heap.size w w' := hcall; clear hcall))
  go_ret3
  exact ⟨rfl, hbw⟩
set_option maxHeartbeats 4000000 in
set_option maxRecDepth 100000 in
theorem restOfLife_yes (b c n : Nat) (ds : List Dt) (w : World) (hc : chB ds = true) (hl : ds.length = n) (hI : Dts w b 0 ds) (hbl : b < w.heap.size) :
    Calls Try.prog 30 #[.slice (some ⟨b, 0, none⟩) n c] w (RetIIB (rsT ds n).1 (rsT ds n).2 (decide (0 < (rsT ds n).1)) w) := by
  have HA0 := areRatios_any b 0 n c ds w hl hI hbl
  rw [hc] at HA0
  have HA := Lib.hid HA0
  have HC := Lib.hid hc
  have HL0 := Lib.hid hl
  have h6 : n ≤ 6 := by have := chB_len hc; omega
  clear HA0 hc hl
  go_enter Try.func30, Try.ntmps30
  go_wp2_with (first | (go_at_call 48; refine HA.out.mono ?_; rintro e w' ⟨rfl, hcall⟩; have hbw : Below w.heap.size w w' := hcall; clear hcall))
  go_loopw [5, 6, 14] (fun u v i wr => ∃ k : Nat, k ≤ n ∧ i = .int .i64 k ∧ u = .int .i64 (rsT ds k).1 ∧ v = .int .i64 (rsT ds k).2 ∧ Below w.heap.size w wr) (fun _ _ i _ => n - (intOf i).toNat)
  case atStart => exact ⟨0, Nat.zero_le _, rfl, rfl, rfl, hbw⟩
  case round =>
    obtain ⟨k, hk, rfl, rfl, rfl, hb⟩ := hrel
    have hsz := hb.size
    by_cases hlt : k < n
    · obtain ⟨p1, p2⟩ := (hI.kept hb hbl) k (by rw [HL0.out]; exact hlt)
      obtain ⟨_, _, hq, hp, _⟩ := lfAt HC.out k (by rw [HL0.out]; omega)
      obtain ⟨hb1, hb2, hb3, hb4⟩ := bnd_le (k := k) (by omega)
      obtain ⟨ha, hd⟩ := ratB_iff.1 (chB_at HC.out k (by rw [HL0.out]; exact hlt))
      have HE : Hid (rsT ds (k + 1) = ((rsT ds k).1 * (at2 ds k).2 - (rsT ds k).2 * (at2 ds k).1, (rsT ds k).2 * (at2 ds k).2)) := Lib.hid rfl
      rw [Nat.zero_add] at p1 p2
      have hN : -10000000000000 ≤ (rsT ds k).1 ∧ (rsT ds k).1 ≤ 10000000000000 := by omega
      have hM : 0 ≤ (rsT ds k).2 ∧ (rsT ds k).2 ≤ 1000000000000 := by omega
      clear hq hp hb1 hb2 hb3 hb4
      generalize (at2 ds k).1 = a at *
      generalize (at2 ds k).2 = d at *
      generalize (rsT ds k).1 = P at *
      generalize (rsT ds k).2 = Q at *
      have m1 := mul_bdM (x := P) (y := d) (X := 10000000000000) (Y := 100) hN (by omega)
      have m2 := mul_bdL (x := Q) (y := a) (X := 1000000000000) (Y := 100) (by omega) (by omega)
      have m3 := mul_bdL (x := Q) (y := d) (X := 1000000000000) (Y := 100) (by omega) (by omega)
      have v1 : wrap64 (P * d) = P * d := IntWalk.wrap64_in _ (by omega)
      have v2 : wrap64 (Q * a) = Q * a := IntWalk.wrap64_in _ (by omega)
      have v3 : wrap64 (Q * d) = Q * d := IntWalk.wrap64_in _ (by omega)
      have v4 : wrap64 (P * d - Q * a) = P * d - Q * a := IntWalk.wrap64_in _ (by omega)
      have i0 : (0 : Int) ≤ (k : Int) := by omega
      have i1 : (k : Int) < (n : Int) := by omega
      go_wp2
      clear m1 m2 m3 hN hM ha hd
      go_quiet (fail)
      go_wp2
      go_roundw
      case rel => exact ⟨k + 1, by omega, by go_num, by first | (rw [HE.out]; done) | (rw [HE.out]; simp only [v1, v2, v3, v4]), by first | (rw [HE.out]; done) | (rw [HE.out]; simp only [v1, v2, v3, v4]), by first | exact below_drewN (hb.alloc hsz _) _ | exact (hb.alloc hsz _).drew⟩
      case measure => simp [intOf]; omega
    · have hkn : k = n := by omega
      subst hkn
      go_wp2
      go_ret3
      exact ⟨rfl, hb⟩
end Go.Proofs.Ytmidobhfahpkcab
