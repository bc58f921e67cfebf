/- BothMultiples: the model's text. -/
import Derived.Test.YtmidobhfahpkcabWry
set_option linter.unusedVariables false
set_option linter.unusedSimpArgs false
namespace Go.Proofs.Ytmidobhfahpkcab
open Go.RowKit


theorem wdivP (n g : Int) (h : 0 ≤ n ∧ n ≤ 1152921504606846976) (hg : 1 ≤ g) : wrap64 (n / g) = n / g := by
  have h1 : 0 ≤ n / g := Int.ediv_nonneg h.1 (by omega)
  have h2 : n / g ≤ n := Int.ediv_le_self g h.1
  exact IntWalk.wrap64_in _ (by omega)
def muB (x y : Int) : Bool := decide (y < x) && decide (x % y = 0)
theorem muB_iff {x y : Int} (hx : 1 ≤ x) (hy : 1 ≤ y) : muB x y = true ↔ x % y = 0 ∧ 2 ≤ x / y := by
  unfold muB
  rw [Bool.and_eq_true, decide_eq_true_eq, decide_eq_true_eq]
  have e := Int.emod_add_mul_ediv x y
  constructor
  · rintro ⟨h1, h2⟩
    refine ⟨h2, ?_⟩
    refine Int.not_lt.1 fun h => ?_
    rw [h2] at e
    have : x / y ≤ 1 := by omega
    have := Int.mul_le_mul_of_nonneg_left this (show 0 ≤ y by omega)
    omega
  · rintro ⟨h1, h2⟩
    refine ⟨?_, h1⟩
    rw [h1] at e
    have := Int.mul_le_mul_of_nonneg_left h2 (show 0 ≤ y by omega)
    omega
def bmP (a b c y : Int) : Bool := muB (a + y) (b + y) && muB (b + y) (c + y)
def bmOk (a b c : Int) : Bool := inB a 0 120 && (inB b 0 120 && inB c 0 120)
def bmL (a b c : Int) : List Int := if bmOk a b c = true then yF (bmP a b c) (1 - min a (min b c)) (120 + min a (min b c)).toNat else []
theorem raAge_t (n : Int) (h : inB n 0 120 = true) (w : World) : Calls Try.prog 43 #[.int .i64 n] w (RetSame (.bool true) w) := by rw [← h]; exact raAge_any n w
theorem raAge_f (n : Int) (h : inB n 0 120 = false) (w : World) : Calls Try.prog 43 #[.int .i64 n] w (RetSame (.bool false) w) := by rw [← h]; exact raAge_any n w

set_option maxHeartbeats 8000000 in
set_option maxRecDepth 100000 in
theorem specBm_any (a b c : Int) (w : World) : Calls Try.prog 23 #[.int .i64 a, .int .i64 b, .int .i64 c] w (RetOwnB (bmL a b c) (bmOk a b c) w) := by
  cases h1 : inB a 0 120 with
  | false =>
    have hok : bmOk a b c = false := by simp [bmOk, *]
    rw [show bmL a b c = [] by simp [bmL, hok], hok]
    clear hok
    go_enter Try.func23, Try.ntmps23
    go_wp2_with (first | (go_at_call 43; first | (refine (raAge_t _ (by assumption) _).mono ?_; rintro e w' ⟨rfl, rfl⟩) | (refine (raAge_f _ (by assumption) _).mono ?_; rintro e w' ⟨rfl, rfl⟩)))
    go_ret2
    exact ⟨_, rfl, own_nil _ _, Below.refl _ _⟩
  | true =>
  cases h2 : inB b 0 120 with
  | false =>
    have hok : bmOk a b c = false := by simp [bmOk, *]
    rw [show bmL a b c = [] by simp [bmL, hok], hok]
    clear hok
    go_enter Try.func23, Try.ntmps23
    go_wp2_with (first | (go_at_call 43; first | (refine (raAge_t _ (by assumption) _).mono ?_; rintro e w' ⟨rfl, rfl⟩) | (refine (raAge_f _ (by assumption) _).mono ?_; rintro e w' ⟨rfl, rfl⟩)))
    go_ret2
    exact ⟨_, rfl, own_nil _ _, Below.refl _ _⟩
  | true =>
  cases h3 : inB c 0 120 with
  | false =>
    have hok : bmOk a b c = false := by simp [bmOk, *]
    rw [show bmL a b c = [] by simp [bmL, hok], hok]
    clear hok
    go_enter Try.func23, Try.ntmps23
    go_wp2_with (first | (go_at_call 43; first | (refine (raAge_t _ (by assumption) _).mono ?_; rintro e w' ⟨rfl, rfl⟩) | (refine (raAge_f _ (by assumption) _).mono ?_; rintro e w' ⟨rfl, rfl⟩)))
    go_ret2
    exact ⟨_, rfl, own_nil _ _, Below.refl _ _⟩
  | true =>
    have hok : bmOk a b c = true := by simp [bmOk, *]
    rw [show bmL a b c = yF (bmP a b c) (1 - min a (min b c)) (120 + min a (min b c)).toNat by simp [bmL, hok], hok]
    clear hok
    have ha := inB_iff.1 h1
    have hb := inB_iff.1 h2
    have hc := inB_iff.1 h3
    have hmn : 0 ≤ min a (min b c) ∧ min a (min b c) ≤ 120 ∧ min a (min b c) ≤ a ∧ min a (min b c) ≤ b ∧ min a (min b c) ≤ c := by omega
    have HM1 := Lib.hid (fun w => l1Least_any b c w)
    have HM2 := Lib.hid (fun w => l1Least_any a (min b c) w)
    obtain ⟨N, hN⟩ : ∃ N : Nat, N = (120 + min a (min b c)).toNat := ⟨_, rfl⟩
    rw [← hN]
    have hN1 : (N : Int) ≤ 120 + min a (min b c) := by omega
    have hN2 : 120 + min a (min b c) ≤ (N : Int) := by omega
    clear hN
    generalize min a (min b c) = mn at *
    generalize min b c = mbc at *
    obtain ⟨i0, hi, hz0, hz1, hz2⟩ := info_parts infoInt
    go_enter Try.func23, Try.ntmps23
    go_wp2_with (first | (go_at_call 43; first | (refine (raAge_t _ (by assumption) _).mono ?_; rintro e w' ⟨rfl, rfl⟩) | (refine (raAge_f _ (by assumption) _).mono ?_; rintro e w' ⟨rfl, rfl⟩)) | (go_at_call_of 39 (Value.int IntKind.i64 b); refine (HM1.out _).mono ?_; rintro e w' ⟨rfl, rfl⟩) | (go_at_call_of 39 (Value.int IntKind.i64 a); refine (HM2.out _).mono ?_; rintro e w' ⟨rfl, rfl⟩))
    go_loopw [8, 9] (fun v u wr => ∃ (k : Nat) (y : Int), Hid (y = (1 - mn) + k) ∧ k ≤ N ∧ u = .int .i64 y ∧ Own w.heap.size wr v (yF (bmP a b c) (1 - mn) k) ∧ Below w.heap.size w wr) (fun _ u _ => (121 - intOf u).toNat)
    case atStart => exact ⟨0, (1 - mn), Lib.hid (by simp), Nat.zero_le _, by first | rfl | simp, own_nil _ _, by first | exact Below.refl _ _ | assumption⟩
    case round =>
      obtain ⟨k, y, HY, hk, rfl, ho, hbr⟩ := hrel
      have hl1 := yF_length (bmP a b c) (1 - mn) k
      have hsz := hbr.size
      by_cases hlt : k < N
      · have hyb : (1 - mn) ≤ y ∧ y ≤ 120 := by have := HY.out; omega
        have x1 : 1 ≤ a + y := by omega
        have x2 : 1 ≤ b + y := by omega
        have x3 : 1 ≤ c + y := by omega
        have z1 : (b + y == 0) = false := beq_eq_false_iff_ne.2 (by omega)
        have z2 : (c + y == 0) = false := beq_eq_false_iff_ne.2 (by omega)
        have v1 := wdivP (a + y) (b + y) (by omega) x2
        have v2 := wdivP (b + y) (c + y) (by omega) x3
        have i1 := muB_iff x1 x2
        have i2 := muB_iff x2 x3
        cases ht : (bmP a b c) y with
        | true =>
          have HS := Lib.hid (yF_yes (p := (bmP a b c)) (a := (1 - mn)) (n := k) (by rw [← HY.out]; exact ht))
          rw [← HY.out] at HS
          have hb2 : muB (a + y) (b + y) = true ∧ muB (b + y) (c + y) = true := by have := ht; unfold bmP at this; rwa [Bool.and_eq_true] at this
          obtain ⟨r1, r2⟩ := i1.1 hb2.1
          obtain ⟨r3, r4⟩ := i2.1 hb2.2
          have s1 : ((a + y) % (b + y) == 0) = true := beq_iff_eq.2 r1
          have s2 : ((b + y) % (c + y) == 0) = true := beq_iff_eq.2 r3
          clear i1 i2 hb2
          go_wp2_with (first | (at_builtin; refine wpList_append_own _ rfl _ _ 32 rfl w.heap.size 3 i0 (.int .i64 0) 1 8 Try.underlying32 hi hz0 hz1 hz2 rfl (by decide) _ _ _ rfl (World.ownsRow.alloc ho _) ⟨wr.heap.size, 0, none⟩ 1 1 [.int .i64 y] rfl rfl (newCell _ _ _) (oneInt _) ?c3 ?c4 ?c5 ?_))
          case c3 => unfold maxLen; omega
          case c4 => omega
          case c5 => simp; omega
          intro v' w4 hown' hgrow _
          have hb4 := below_push hbr ho hgrow
          have ho4 := own_push hown'
          rw [← HS.out] at ho4
          clear hown' hgrow
          go_wp2
          go_roundw
          case rel => exact ⟨k + 1, y + 1, Lib.hid (by have := HY.out; omega), by omega, by go_num, ho4, hb4⟩
          case measure => simp [intOf]; omega
        | false =>
          have HS := Lib.hid (yF_no (p := (bmP a b c)) (a := (1 - mn)) (n := k) (by rw [← HY.out]; exact ht))
          have hc : ¬ (a + y) % (b + y) = 0 ∨ ((a + y) % (b + y) = 0 ∧ ¬ 2 ≤ (a + y) / (b + y)) ∨ ((a + y) % (b + y) = 0 ∧ 2 ≤ (a + y) / (b + y) ∧ ¬ (b + y) % (c + y) = 0) ∨ ((a + y) % (b + y) = 0 ∧ 2 ≤ (a + y) / (b + y) ∧ (b + y) % (c + y) = 0 ∧ ¬ 2 ≤ (b + y) / (c + y)) := by
            have hn : ¬ (muB (a + y) (b + y) = true ∧ muB (b + y) (c + y) = true) := by have := ht; unfold bmP at this; intro h; rw [h.1, h.2] at this; cases this
            rw [i1, i2] at hn
            by_cases h1 : (a + y) % (b + y) = 0
            · by_cases h2 : 2 ≤ (a + y) / (b + y)
              · by_cases h3 : (b + y) % (c + y) = 0
                · exact .inr (.inr (.inr ⟨h1, h2, h3, fun h4 => hn ⟨⟨h1, h2⟩, ⟨h3, h4⟩⟩⟩))
                · exact .inr (.inr (.inl ⟨h1, h2, h3⟩))
              · exact .inr (.inl ⟨h1, h2⟩)
            · exact .inl h1
          clear i1 i2
          rcases hc with r1 | ⟨r1, r2⟩ | ⟨r1, r2, r3⟩ | ⟨r1, r2, r3, r4⟩
          all_goals first | (have s1 : ((a + y) % (b + y) == 0) = true := beq_iff_eq.2 r1) | (have s1 : ((a + y) % (b + y) == 0) = false := beq_eq_false_iff_ne.2 r1)
          all_goals first | (have s2 : ((b + y) % (c + y) == 0) = true := beq_iff_eq.2 r3) | (have s2 : ((b + y) % (c + y) == 0) = false := beq_eq_false_iff_ne.2 r3) | skip
          all_goals
            go_wp2_with fail
            go_roundw
            case rel => exact ⟨k + 1, y + 1, Lib.hid (by have := HY.out; omega), by omega, by go_num, by rw [HS.out]; exact ho, hbr⟩
            case measure => simp [intOf]; omega
      · have hkn : k = N := by omega
        have hge : 120 < y := by have := HY.out; omega
        have HF := Lib.hid hkn
        clear hkn hlt
        go_wp2
        go_ret2
        exact ⟨_, rfl, by rw [← HF.out]; exact ho, hbr⟩

end Go.Proofs.Ytmidobhfahpkcab
