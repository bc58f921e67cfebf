/- AgesFromThen: the model's text. -/
import Derived.Test.YtmidobhfahpkcaaAth
set_option linter.unusedVariables false
set_option linter.unusedSimpArgs false
namespace Go.Proofs.Ytmidobhfahpkcaa
open Go.RowKit


set_option maxHeartbeats 8000000 in
set_option maxRecDepth 100000 in
theorem specAthW (p q r s g m u1 u2 u3 : Int) (ok : Bool) (w : World) (h3 : inB g 1 120 = true) (h4 : inB m 1 120 = true) (hg : 1 ≤ g ∧ g ≤ 120) (hm : 1 ≤ m ∧ m ≤ 120 - g) (l1 : 0 ≤ u1 ∧ u1 ≤ 1200000) (l2 : 0 ≤ u2 ∧ u2 ≤ 1200000) (l3 : 0 ≤ g * u3 ∧ g * u3 ≤ 1200000)
    (hA : ∀ w, Calls Try.prog 24 #[.agg #[.int .i64 p, .int .i64 q], .agg #[.int .i64 r, .int .i64 s], .int .i64 (g + m)] w (RetI3B u1 u2 u3 ok w)) :
    Calls Try.prog 26 #[.agg #[.int .i64 p, .int .i64 q], .agg #[.int .i64 r, .int .i64 s], .int .i64 g, .int .i64 m] w (RetI3B (if ok = true then u1 + g * u3 else 0) (if ok = true then u2 + g * u3 else 0) (if ok = true then u3 else 0) ok w) := by
  have HW0 := Lib.hid (((Below.refl w.heap.size w).alloc (Nat.le_refl _) (.cells #[.int .i64 p, .int .i64 q] 25)).alloc (by simp) (.cells #[.int .i64 r, .int .i64 s] 25))
  cases ok with
  | false =>
    simp only [Bool.false_eq_true, if_false]
    have HA := Lib.hid hA
    clear hA
    go_enter Try.func26, Try.ntmps26
    go_wp2_with (first | (go_at_call 56; first | (refine (l1In_t _ _ _ (by assumption) _).mono ?_; rintro e w' ⟨rfl, rfl⟩) | (refine (l1In_f _ _ _ (by assumption) _).mono ?_; rintro e w' ⟨rfl, rfl⟩)) | (go_at_call 24; refine (HA.out _).mono ?_; rintro e w' ⟨rfl, hcall⟩; have hbw : Below w.heap.size w w' := HW0.out.trans (hcall.mono (by simp <;> omega)); clear hcall))
    refine bodyPost_ret (v := .tuple #[.int .i64 0, .int .i64 0, .int .i64 0, .bool false]) (by simp [results, Try.results26, go_sem]) rfl ?_
    exact ⟨rfl, by assumption⟩
  | true =>
    simp only [if_true]
    have HA := Lib.hid hA
    clear hA
    go_enter Try.func26, Try.ntmps26
    go_wp2_with (first | (go_at_call 56; first | (refine (l1In_t _ _ _ (by assumption) _).mono ?_; rintro e w' ⟨rfl, rfl⟩) | (refine (l1In_f _ _ _ (by assumption) _).mono ?_; rintro e w' ⟨rfl, rfl⟩)) | (go_at_call 24; refine (HA.out _).mono ?_; rintro e w' ⟨rfl, hcall⟩; have hbw : Below w.heap.size w w' := HW0.out.trans (hcall.mono (by simp <;> omega)); clear hcall))
    refine bodyPost_ret (v := .tuple #[.int .i64 (u1 + g * u3), .int .i64 (u2 + g * u3), .int .i64 u3, .bool true]) (by simp [results, Try.results26, go_sem]) rfl ?_
    exact ⟨rfl, by assumption⟩
set_option maxHeartbeats 8000000 in
set_option maxRecDepth 100000 in
theorem specAthZ (p q r s g m : Int) (w : World) (h : inB g 1 120 = false ∨ (inB g 1 120 = true ∧ inB m 1 120 = false) ∨ (inB g 1 120 = true ∧ inB m 1 120 = true ∧ 120 < g + m)) : Calls Try.prog 26 #[.agg #[.int .i64 p, .int .i64 q], .agg #[.int .i64 r, .int .i64 s], .int .i64 g, .int .i64 m] w (RetI3B 0 0 0 false w) := by
  have HW0 := Lib.hid (((Below.refl w.heap.size w).alloc (Nat.le_refl _) (.cells #[.int .i64 p, .int .i64 q] 25)).alloc (by simp) (.cells #[.int .i64 r, .int .i64 s] 25))
  rcases h with h3 | ⟨h3, h4⟩ | ⟨h3, h4, h5⟩
  · go_enter Try.func26, Try.ntmps26
    go_wp2_with (first | (go_at_call 56; first | (refine (l1In_t _ _ _ (by assumption) _).mono ?_; rintro e w' ⟨rfl, rfl⟩) | (refine (l1In_f _ _ _ (by assumption) _).mono ?_; rintro e w' ⟨rfl, rfl⟩)))
    refine bodyPost_ret (v := .tuple #[.int .i64 0, .int .i64 0, .int .i64 0, .bool false]) (by simp [results, Try.results26, go_sem]) rfl ?_
    exact ⟨rfl, ((Below.refl w.heap.size w).alloc (Nat.le_refl _) _).alloc (by simp) _⟩
  · go_enter Try.func26, Try.ntmps26
    go_wp2_with (first | (go_at_call 56; first | (refine (l1In_t _ _ _ (by assumption) _).mono ?_; rintro e w' ⟨rfl, rfl⟩) | (refine (l1In_f _ _ _ (by assumption) _).mono ?_; rintro e w' ⟨rfl, rfl⟩)))
    refine bodyPost_ret (v := .tuple #[.int .i64 0, .int .i64 0, .int .i64 0, .bool false]) (by simp [results, Try.results26, go_sem]) rfl ?_
    exact ⟨rfl, ((Below.refl w.heap.size w).alloc (Nat.le_refl _) _).alloc (by simp) _⟩
  · have hg := inB_iff.1 h3
    have hm := inB_iff.1 h4
    go_enter Try.func26, Try.ntmps26
    go_wp2_with (first | (go_at_call 56; first | (refine (l1In_t _ _ _ (by assumption) _).mono ?_; rintro e w' ⟨rfl, rfl⟩) | (refine (l1In_f _ _ _ (by assumption) _).mono ?_; rintro e w' ⟨rfl, rfl⟩)))
    refine bodyPost_ret (v := .tuple #[.int .i64 0, .int .i64 0, .int .i64 0, .bool false]) (by simp [results, Try.results26, go_sem]) rfl ?_
    exact ⟨rfl, ((Below.refl w.heap.size w).alloc (Nat.le_refl _) _).alloc (by simp) _⟩
theorem specAth_any (p q r s g m : Int) (w : World) : Calls Try.prog 26 #[.agg #[.int .i64 p, .int .i64 q], .agg #[.int .i64 r, .int .i64 s], .int .i64 g, .int .i64 m] w (RetI3B (thX p q r s g m) (thY p q r s g m) (thZ p q r s g m) (thB p q r s g m) w) := by
  by_cases hz : inB g 1 120 = false ∨ (inB g 1 120 = true ∧ inB m 1 120 = false) ∨ (inB g 1 120 = true ∧ inB m 1 120 = true ∧ 120 < g + m)
  · have hb0 : thB p q r s g m = false := by
      have : thOk p q r s g m = false := by
        rcases hz with h3 | ⟨h3, h4⟩ | ⟨h3, h4, h5⟩
        · simp [thOk, h3]
        · have hg := inB_iff.1 h3
          have : inB m 1 (120 - g) = false := by rw [inB_not] at h4 ⊢; omega
          simp [thOk, this]
        · have : inB m 1 (120 - g) = false := by rw [inB_not]; omega
          simp [thOk, this]
      simp [thB, this]
    obtain ⟨e1, e2, e3⟩ := th_not hb0
    rw [e1, e2, e3, hb0]
    exact specAthZ p q r s g m w hz
  · have h3 : inB g 1 120 = true := by cases e : inB g 1 120 with | true => rfl | false => exact absurd (.inl e) hz
    have h4 : inB m 1 120 = true := by cases e : inB m 1 120 with | true => rfl | false => exact absurd (.inr (.inl ⟨h3, e⟩)) hz
    have h5 : g + m ≤ 120 := Int.not_lt.1 fun h => hz (.inr (.inr ⟨h3, h4, h⟩))
    have hg := inB_iff.1 h3
    have hm := inB_iff.1 h4
    have h6 : inB m 1 (120 - g) = true := inB_true (by omega) (by omega)
    have h7 : inB (g + m) (-120) 120 = true := inB_true (by omega) (by omega)
    have hA := fun w => specAft_any p q r s (g + m) w
    have hB : anB (twOk p q r s (g + m) && twF p q r s (g + m)) (twX p q r s (g + m)) (twY p q r s (g + m)) (twZ p q r s) = thB p q r s g m := by
      unfold anB thB
      have k1 : thOk p q r s g m = twOk p q r s (g + m) := by simp [thOk, twOk, h3, h6, h7]
      rw [k1]
      cases hf : fnd (twX p q r s (g + m)) (twY p q r s (g + m)) (twZ p q r s) with
      | false => simp
      | true =>
        obtain ⟨f1, f2, f3⟩ := fnd_iff.1 hf
        have f4 : 0 ≤ (g + m) * twZ p q r s := Int.mul_nonneg (by omega) (by omega)
        have : twF p q r s (g + m) = true := fnd_iff.2 ⟨f1, by omega, by omega⟩
        rw [this]; simp
    have key : ∀ u1 u2 u3 ok, (∀ w, Calls Try.prog 24 #[.agg #[.int .i64 p, .int .i64 q], .agg #[.int .i64 r, .int .i64 s], .int .i64 (g + m)] w (RetI3B u1 u2 u3 ok w)) → (0 ≤ u1 ∧ u1 ≤ 1200000) → (0 ≤ u2 ∧ u2 ≤ 1200000) → (0 ≤ u3 ∧ u3 ≤ 10000) → ok = thB p q r s g m → (ok = true → u1 + g * u3 = thX p q r s g m ∧ u2 + g * u3 = thY p q r s g m ∧ u3 = thZ p q r s g m) → Calls Try.prog 26 #[.agg #[.int .i64 p, .int .i64 q], .agg #[.int .i64 r, .int .i64 s], .int .i64 g, .int .i64 m] w (RetI3B (thX p q r s g m) (thY p q r s g m) (thZ p q r s g m) (thB p q r s g m) w) := by
      intro u1 u2 u3 ok hA a1 a2 a3 hok hans
      have m9 := mul_bd (x := g) (y := u3) (X := 120) (Y := 10000) (by omega) a3
      have := specAthW p q r s g m u1 u2 u3 ok w h3 h4 hg (by omega) a1 a2 (by omega) hA
      cases ok with
      | false =>
        obtain ⟨e1, e2, e3⟩ := th_not hok.symm
        rw [e1, e2, e3, ← hok]
        simpa using this
      | true =>
        obtain ⟨e1, e2, e3⟩ := hans rfl
        rw [← e1, ← e2, ← e3, ← hok]
        simpa using this
    cases hb : thB p q r s g m with
    | false =>
      rw [hb] at hB
      have hz4 := hB
      unfold anB at hB
      cases hok : (twOk p q r s (g + m) && twF p q r s (g + m)) with
      | false =>
        obtain ⟨i1, i2, i3, i4⟩ := an_not (twX p q r s (g + m)) (twY p q r s (g + m)) (twZ p q r s)
        rw [hok] at hA
        rw [i1, i2, i3, i4] at hA
        rw [← hb]
        exact key 0 0 0 false hA (by omega) (by omega) (by omega) hb.symm (fun h => by cases h)
      | true =>
        rw [hok] at hB
        have hf : fnd (twX p q r s (g + m)) (twY p q r s (g + m)) (twZ p q r s) = false := by simpa using hB
        obtain ⟨i1, i2, i3, i4⟩ := an_fno hf (twOk p q r s (g + m) && twF p q r s (g + m))
        rw [i1, i2, i3, i4] at hA
        rw [← hb]
        exact key 0 0 0 false hA (by omega) (by omega) (by omega) hb.symm (fun h => by cases h)
    | true =>
      rw [hb] at hB
      have hB' := hB
      unfold anB at hB'
      rw [Bool.and_eq_true] at hB'
      obtain ⟨hok, hf⟩ := hB'
      rw [hok] at hA
      obtain ⟨i1, i2, i3, i4⟩ := an_ok (twX p q r s (g + m)) (twY p q r s (g + m)) (twZ p q r s)
      rw [i1, i2, i3, i4, hf] at hA
      have hr2 : thOk p q r s g m = true := by have := hb; unfold thB at this; rw [Bool.and_eq_true] at this; exact this.1
      unfold thOk at hr2
      simp only [Bool.and_eq_true] at hr2
      obtain ⟨hp, hq⟩ := ratB_iff.1 hr2.1
      obtain ⟨hr, hs⟩ := ratB_iff.1 hr2.2.1
      simp only at hp hq hr hs
      obtain ⟨b1, b2, b3, b4⟩ := tw_bd2 hp hq hr hs (show -120 ≤ g + m ∧ g + m ≤ 120 by omega)
      obtain ⟨f1, f2, f3⟩ := fnd_iff.1 hf
      obtain ⟨g1, g2, g3, g4⟩ := td_bd hf
      have l1 := le_of_times g1 g2 (by omega)
      have l2 := le_of_times g1 g3 (by omega)
      have l3 := le_of_times g1 g4 (by omega)
      obtain ⟨e1, e2, e3⟩ := th_yes hb
      rw [← hb]
      exact key _ _ _ true hA (by omega) (by omega) (by omega) hb.symm (fun _ => ⟨e1.symm, e2.symm, e3.symm⟩)
theorem ath_both (p q r s g m : Int) : ∃ (r1 r2 r3 : Int) (ok : Bool), (∀ w, Calls Try.prog 26 #[.agg #[.int .i64 p, .int .i64 q], .agg #[.int .i64 r, .int .i64 s], .int .i64 g, .int .i64 m] w (RetI3B r1 r2 r3 ok w)) ∧ ∀ w, Calls Try.prog 27 #[.agg #[.int .i64 p, .int .i64 q], .agg #[.int .i64 r, .int .i64 s], .int .i64 g, .int .i64 m] w (RetI3B r1 r2 r3 ok w) :=
  ⟨_, _, _, _, fun w => specAth_any p q r s g m w, fun w => ath_any p q r s g m w⟩
end Go.Proofs.Ytmidobhfahpkcaa
