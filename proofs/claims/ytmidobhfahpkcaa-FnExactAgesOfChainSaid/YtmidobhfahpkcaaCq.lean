/- Two ages of two ratios; two ages of one denominator, of the model. -/
import Derived.Test.YtmidobhfahpkcaaCp
set_option linter.unusedVariables false
set_option linter.unusedSimpArgs false
namespace Go.Proofs.Ytmidobhfahpkcaa
open Go.RowKit

theorem mul_bdS {x y X Y : Int} (hx : -X ≤ x ∧ x ≤ X) (hy : 0 ≤ y ∧ y ≤ Y) : -(X * Y) ≤ x * y ∧ x * y ≤ X * Y := by
  have hX : 0 ≤ X := by omega
  have h1 := Int.mul_le_mul_of_nonneg_right hx.2 hy.1
  have h2 := Int.mul_le_mul_of_nonneg_right hx.1 hy.1
  have h3 := Int.mul_le_mul_of_nonneg_left hy.2 hX
  rw [Int.neg_mul] at h2
  omega
theorem three_cells {w : World} {B : Nat} {x0 x1 x2 : Value} (r0 : w.cell? ⟨B, 0, none⟩ = some x0) (r1 : w.cell? ⟨B, 1, none⟩ = some x1) (r2 : w.cell? ⟨B, 2, none⟩ = some x2) :
    (∀ v0 v1 v2, (((w.setCell ⟨B, 0, none⟩ v0).setCell ⟨B, 1, none⟩ v1).setCell ⟨B, 2, none⟩ v2).cell? ⟨B, 0, none⟩ = some v0) ∧ (∀ v0 v1 v2, (((w.setCell ⟨B, 0, none⟩ v0).setCell ⟨B, 1, none⟩ v1).setCell ⟨B, 2, none⟩ v2).cell? ⟨B, 1, none⟩ = some v1) ∧ (∀ v0 v1 v2, (((w.setCell ⟨B, 0, none⟩ v0).setCell ⟨B, 1, none⟩ v1).setCell ⟨B, 2, none⟩ v2).cell? ⟨B, 2, none⟩ = some v2) := by
  obtain ⟨s0, s1⟩ := two_cells r0 r1
  refine ⟨fun v0 v1 v2 => ?_, fun v0 v1 v2 => ?_, fun v0 v1 v2 => World.cell?_setCell_same _ _ _ (u := x2) ?_⟩
  · rw [World.cell?_setCell_other _ _ _ _ (by simp)]; exact s0 v0 v1
  · rw [World.cell?_setCell_other _ _ _ _ (by simp)]; exact s1 v0 v1
  · rw [World.cell?_setCell_other _ _ _ _ (by simp), World.cell?_setCell_other _ _ _ _ (by simp)]; exact r2


set_option maxHeartbeats 4000000 in
set_option maxRecDepth 100000 in
theorem coupleOfTwo_any (p q r s n : Int) (w : World) (hp : 1 ≤ p ∧ p ≤ 100) (hq : 1 ≤ q ∧ q ≤ 100) (hr : 1 ≤ r ∧ r ≤ 100) (hs : 1 ≤ s ∧ s ≤ 100) (hn : -120 ≤ n ∧ n ≤ 120) :
    Calls Try.prog 60 #[.agg #[.int .i64 p, .int .i64 q], .agg #[.int .i64 r, .int .i64 s], .int .i64 n] w (Ret (.agg #[.int .i64 (sg (p * s - r * q) (n * (r - s) * p)), .int .i64 (sg (p * s - r * q) (n * (r - s) * q)), .int .i64 (sg (p * s - r * q) (p * s - r * q))]) w) := by
  have m0 := mul_bdS (x := n) (y := r) (X := 120) (Y := 100) (by omega) (by omega)
  have m0' := mul_bdS (x := n) (y := s) (X := 120) (Y := 100) (by omega) (by omega)
  have e0 : n * (r - s) = n * r - n * s := Int.mul_sub n r s
  have m1 : -12000 * 2 ≤ n * (r - s) ∧ n * (r - s) ≤ 12000 * 2 := by omega
  have m2 := mul_bdS (x := n * (r - s)) (y := p) (X := 24000) (Y := 100) (by omega) (by omega)
  have m3 := mul_bdS (x := n * (r - s)) (y := q) (X := 24000) (Y := 100) (by omega) (by omega)
  have m4 := mul_bd (x := p) (y := s) (X := 100) (Y := 100) (by omega) (by omega)
  have m5 := mul_bd (x := r) (y := q) (X := 100) (Y := 100) (by omega) (by omega)
  have HC := Lib.hid (fun w => coupleOf_any (n * (r - s) * p) (n * (r - s) * q) (p * s - r * q) w (by omega) (by omega) (by omega))
  clear e0 m0 m0'
  have HW0 := Lib.hid ((((Below.refl w.heap.size w).alloc (Nat.le_refl _) (.cells #[.int .i64 p, .int .i64 q] 25)).alloc (by simp) (.cells #[.int .i64 r, .int .i64 s] 25)).alloc (by simp; omega) (.cells #[.int .i64 0, .int .i64 0, .int .i64 0] 70))
  generalize sg (p * s - r * q) (n * (r - s) * p) = X at HC ⊢
  generalize sg (p * s - r * q) (n * (r - s) * q) = Y at HC ⊢
  generalize sg (p * s - r * q) (p * s - r * q) = Z at HC ⊢
  go_enter Try.func60, Try.ntmps60
  go_wp2_with (first | (go_at_call 58; refine (HC.out _).mono ?_; rintro e w' ⟨rfl, hcall⟩; have hbw : Below w.heap.size w w' := HW0.out.trans (hcall.mono (by simp <;> omega)); go_loud (have r0 : w'.cell? ⟨w.heap.size + 1 + 1, 0, none⟩ = some (.int .i64 0) := below_cell2 hcall (by first | assumption | (simp; done) | (simp [go_sem]; done))); go_loud (have r1 : w'.cell? ⟨w.heap.size + 1 + 1, 1, none⟩ = some (.int .i64 0) := below_cell2 hcall (by first | assumption | (simp; done) | (simp [go_sem]; done))); go_loud (have r2 : w'.cell? ⟨w.heap.size + 1 + 1, 2, none⟩ = some (.int .i64 0) := below_cell2 hcall (by first | assumption | (simp; done) | (simp [go_sem]; done))); have z0 : w'.frozen? ⟨w.heap.size + 1 + 1, 0, none⟩ = false := (hcall.frozen (p := ⟨w.heap.size + 1 + 1, 0, none⟩) (by first | (simp; done) | exact World.block_lt_of_cell? _ ⟨w.heap.size + 1 + 1, 0, none⟩ (by assumption))).trans (by first | (simp; done) | (simp [go_sem]; done)); have z1 : w'.frozen? ⟨w.heap.size + 1 + 1, 1, none⟩ = false := (hcall.frozen (p := ⟨w.heap.size + 1 + 1, 1, none⟩) (by first | (simp; done) | exact World.block_lt_of_cell? _ ⟨w.heap.size + 1 + 1, 0, none⟩ (by assumption))).trans (by first | (simp; done) | (simp [go_sem]; done)); have z2 : w'.frozen? ⟨w.heap.size + 1 + 1, 2, none⟩ = false := (hcall.frozen (p := ⟨w.heap.size + 1 + 1, 2, none⟩) (by first | (simp; done) | exact World.block_lt_of_cell? _ ⟨w.heap.size + 1 + 1, 0, none⟩ (by assumption))).trans (by first | (simp; done) | (simp [go_sem]; done)); clear hcall))
  obtain ⟨s0, s1, s2⟩ := three_cells r0 r1 r2
  refine bodyPost_ret (v := .agg #[.int .i64 X, .int .i64 Y, .int .i64 Z]) (by simp [results, Try.results60, go_sem, s0, s1, s2]) rfl ?_
  exact ⟨rfl, ((hbw.setCell (by simp <;> omega) _).setCell (by simp <;> omega) _).setCell (by simp <;> omega) _⟩

theorem lcm_le_mul (y v : Nat) (hy : 0 < y) (hv : 0 < v) : Nat.lcm y v ≤ y * v := Nat.le_of_dvd (Nat.mul_pos hy hv) (Nat.lcm_dvd (Nat.dvd_mul_right y v) (Nat.dvd_mul_left v y))
/-- A call returned three numbers. -/
def RetThree (x y z : Int) (w : World) (e : Ending) (w' : World) : Prop := e = .returned (.tuple #[.int .i64 x, .int .i64 y, .int .i64 z]) ∧ Below w.heap.size w w'
theorem three_at (A B D : Nat) (hA : 0 < A) (hB : 0 < B) (hD : 0 < D) :
    let L := Nat.lcm (D / Nat.gcd A D) (D / Nat.gcd B D)
    let g := gcT [(A : Int), (B : Int), (D : Int)] 3
    A / Nat.gcd A D * (L / (D / Nat.gcd A D)) = A / g ∧ B / Nat.gcd B D * (L / (D / Nat.gcd B D)) = B / g ∧ L = D / g := by
  have h := three_low A B D hA hB hD
  intro L g
  have hg : g = gcdL [A, B, D] := by simp [g, gcT, gcdL, Nat.gcd_assoc]
  rw [hg]
  have h' : [A / Nat.gcd A D * (L / (D / Nat.gcd A D)), B / Nat.gcd B D * (L / (D / Nat.gcd B D)), L] = lowL [A, B, D] := h
  simp only [lowL, List.map_cons, List.map_nil, List.cons.injEq, and_true] at h'
  exact h'

set_option maxHeartbeats 4000000 in
set_option maxRecDepth 100000 in
theorem raThree_core (a b d : Int) (x u y v X Y Z : Nat) (w : World) (hx : x ≤ 100000000) (hu : u ≤ 100000000) (hX : X ≤ 100000000) (hY : Y ≤ 100000000) (hy : 1 ≤ y ∧ y ≤ 100000) (hv : 1 ≤ v ∧ v ≤ 100000)
    (t1 : x * (Nat.lcm y v / y) = X) (t2 : u * (Nat.lcm y v / v) = Y) (t3 : Nat.lcm y v = Z)
    (hla : ∀ w, Calls Try.prog 52 #[.int .i64 a, .int .i64 d] w (RetTwo (x : Int) (y : Int) w))
    (hlb : ∀ w, Calls Try.prog 52 #[.int .i64 b, .int .i64 d] w (RetTwo (u : Int) (v : Int) w)) :
    Calls Try.prog 57 #[.int .i64 a, .int .i64 b, .int .i64 d] w (RetThree (X : Int) (Y : Int) (Z : Int) w) := by
  have T1 := Lib.hid t1
  have T2 := Lib.hid t2
  have T3 := Lib.hid t3
  have HA := Lib.hid hla
  have HB := Lib.hid hlb
  clear t1 t2 t3 hla hlb
  go_enter Try.func57, Try.ntmps57
  go_wp2_with (first | (go_at_call_of 52 (Value.int IntKind.i64 a); refine (HA.out _).mono ?_; rintro e w' ⟨rfl, hcall⟩; have hbw : Below w.heap.size w w' := (by first | exact hcall | exact Below.trans (by assumption) (Below.mono hcall (Below.size (by assumption)))); clear hcall) | (go_at_call_of 52 (Value.int IntKind.i64 b); refine (HB.out _).mono ?_; rintro e w' ⟨rfl, hcall⟩; have hbw : Below w.heap.size w w' := (by first | exact hcall | exact Below.trans (by assumption) (Below.mono hcall (Below.size (by assumption)))); clear hcall))
  go_loopw [13] (fun q wr => ∃ k : Nat, 1 ≤ k ∧ k ≤ v ∧ q = .int .i64 ((k * y : Nat) : Int) ∧ Hid (∀ j, 1 ≤ j → j < k → ¬ v ∣ j * y) ∧ Below w.heap.size w wr) (fun q _ => v * y - (intOf q).toNat)
  case atStart => exact ⟨1, Nat.le_refl _, hv.1, by rw [Nat.one_mul], Lib.hid (fun j h1 h2 => by omega), by assumption⟩
  case round =>
    obtain ⟨k, hk1, hkv, rfl, hmin, hb⟩ := hrel
    have hky : k * y ≤ 100000 * 100000 := Nat.mul_le_mul (by omega) hy.2
    have hvy : v * y ≤ 100000 * 100000 := Nat.mul_le_mul (by omega) hy.2
    have hkvy : k * y ≤ v * y := Nat.mul_le_mul_right y hkv
    have hvp : (1 : Int) ≤ (v : Int) := by omega
    have hyp : (1 : Int) ≤ (y : Int) := by omega
    have hne1 : ((v : Int) == 0) = false := beq_eq_false_iff_ne.2 (by omega)
    have hne3 : ((y : Int) == 0) = false := beq_eq_false_iff_ne.2 (by omega)
    by_cases hd : v ∣ k * y
    · have hL := lcm_steps hy.1 hv.1 hk1 hd hmin.out
      have E3 := Lib.hid (hL.trans T3.out)
      have q1 := T1.out
      have q2 := T2.out
      rw [← hL] at q1 q2
      generalize k * y = M at *
      have hm0 : (M : Int) % (v : Int) = 0 := by
        have := Nat.mod_eq_zero_of_dvd hd
        omega
      have c1 := Nat.div_le_self M y
      have c2 := Nat.div_le_self M v
      have p1 : (x : Int) * ((M / y : Nat) : Int) = (X : Int) := by rw [← q1]; simp
      have p2 : (u : Int) * ((M / v : Nat) : Int) = (Y : Int) := by rw [← q2]; simp
      have d1 : ((M / y : Nat) : Int) = (M : Int) / (y : Int) := Int.natCast_ediv M y
      have d2 : ((M / v : Nat) : Int) = (M : Int) / (v : Int) := Int.natCast_ediv M v
      have w1 : wrap64 ((M : Int) / (y : Int)) = (M : Int) / (y : Int) := (wrapN M y (by omega)).trans d1
      have w2 : wrap64 ((M : Int) / (v : Int)) = (M : Int) / (v : Int) := (wrapN M v (by omega)).trans d2
      rw [d1] at p1
      rw [d2] at p2
      have w3 : wrap64 ((x : Int) * ((M : Int) / (y : Int))) = (X : Int) := by rw [p1]; exact IntWalk.wrap64_in _ (by omega)
      have w4 : wrap64 ((u : Int) * ((M : Int) / (v : Int))) = (Y : Int) := by rw [p2]; exact IntWalk.wrap64_in _ (by omega)
      clear d1 d2 q1 q2 hL
      go_wp2
      clear hm0 c1 c2 hky hvy hkvy hx hu hX hY hk1 hkv hmin hd T1 T2 T3 HA HB p1 p2
      go_quiet (fail)
      go_wp2
      go_ret3
      refine ⟨?_, below_drewN hb _⟩
      have E4 := E3.out
      subst E4
      first | rfl | (simp only [w3, w4]; done) | (show Ending.returned (.tuple #[.int .i64 (wrap64 ((x : Int) * ((M : Int) / (y : Int)))), .int .i64 (wrap64 ((u : Int) * ((M : Int) / (v : Int)))), .int .i64 M]) = _; rw [w3, w4]) | trace_state
    · have hlt : k < v := by
        refine Nat.lt_of_le_of_ne hkv fun e => hd ?_
        rw [e]; exact Nat.dvd_mul_right v y
      have H2 : Hid (∀ j, 1 ≤ j → j < k + 1 → ¬ v ∣ j * y) := Lib.hid (fun j h1 h2 => by
        rcases Nat.lt_succ_iff_lt_or_eq.1 h2 with h | rfl
        · exact hmin.out j h1 h
        · exact hd)
      have hs : k * y + y = (k + 1) * y := by rw [Nat.add_mul, Nat.one_mul]
      have hlt2 : (k + 1) * y ≤ v * y := Nat.mul_le_mul_right y hlt
      have HM := Lib.hid hs
      have hm0 : ¬ (k * y) % v = 0 := fun e => hd (Nat.dvd_of_mod_eq_zero e)
      rw [← hs] at hlt2
      clear hs hd
      generalize k * y = M at *
      have hm1 : ¬ (M : Int) % (v : Int) = 0 := by omega
      have hm2 : ((M : Int) % (v : Int) != 0) = true := by rw [bne_iff_ne]; exact hm1
      go_wp2
      go_roundw
      case rel => exact ⟨k + 1, by omega, hlt, by rw [← HM.out]; go_num, H2, by assumption⟩
      case measure => simp [intOf]; omega

theorem raThree_any (a b d : Int) (A B D : Nat) (w : World) (hA : 1 ≤ A ∧ A ≤ 100000000) (hB : 1 ≤ B ∧ B ≤ 100000000) (hD : 1 ≤ D ∧ D ≤ 100000)
    (h : (a = (A : Int) ∧ b = (B : Int) ∧ d = (D : Int)) ∨ (a = -(A : Int) ∧ b = -(B : Int) ∧ d = -(D : Int))) :
    Calls Try.prog 57 #[.int .i64 a, .int .i64 b, .int .i64 d] w (RetThree ((A / gcT [(A : Int), (B : Int), (D : Int)] 3 : Nat) : Int) ((B / gcT [(A : Int), (B : Int), (D : Int)] 3 : Nat) : Int) ((D / gcT [(A : Int), (B : Int), (D : Int)] 3 : Nat) : Int) w) := by
  obtain ⟨t1, t2, t3⟩ := three_at A B D (by omega) (by omega) (by omega)
  have hga : 0 < Nat.gcd A D := Nat.gcd_pos_of_pos_left _ (by omega)
  have hgb : 0 < Nat.gcd B D := Nat.gcd_pos_of_pos_left _ (by omega)
  have hy : 1 ≤ D / Nat.gcd A D := Nat.div_pos (Nat.gcd_le_right _ (by omega)) hga
  have hv : 1 ≤ D / Nat.gcd B D := Nat.div_pos (Nat.gcd_le_right _ (by omega)) hgb
  have hr : ∀ (x : Int) (X : Nat), 1 ≤ X → X ≤ 100000000 → (x = (X : Int) ∧ d = (D : Int) ∨ x = -(X : Int) ∧ d = -(D : Int)) → ∀ w, Calls Try.prog 52 #[.int .i64 x, .int .i64 d] w (RetTwo ((X / Nat.gcd X D : Nat) : Int) ((D / Nat.gcd X D : Nat) : Int) w) := by
    intro x X h1 h2 hx w
    have := raLow_any x d w (by omega) (by omega) (by omega)
    have e : rlN x d = ((X / Nat.gcd X D : Nat) : Int) ∧ rlD x d = ((D / Nat.gcd X D : Nat) : Int) := by
      rcases hx with ⟨rfl, rfl⟩ | ⟨rfl, rfl⟩
      · exact ⟨rlN_nat X D, rlD_nat X D⟩
      · obtain ⟨e1, e2⟩ := rl_neg (X : Int) (D : Int) (by omega)
        rw [e1, e2]
        exact ⟨rlN_nat X D, rlD_nat X D⟩
    rw [e.1, e.2] at this
    exact this
  refine raThree_core a b d _ _ _ _ _ _ _ w ?_ ?_ ?_ ?_ ⟨hy, ?_⟩ ⟨hv, ?_⟩ t1 t2 t3 (hr a A hA.1 hA.2 (by omega)) (hr b B hB.1 hB.2 (by omega))
  · exact Nat.le_trans (Nat.div_le_self _ _) hA.2
  · exact Nat.le_trans (Nat.div_le_self _ _) hB.2
  · exact Nat.le_trans (Nat.div_le_self _ _) hA.2
  · exact Nat.le_trans (Nat.div_le_self _ _) hB.2
  · exact Nat.le_trans (Nat.div_le_self _ _) hD.2
  · exact Nat.le_trans (Nat.div_le_self _ _) hD.2
end Go.Proofs.Ytmidobhfahpkcaa
