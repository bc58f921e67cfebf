/- BothMultiples: the program's text. -/
import Derived.Test.YtmidobhfahpkcabBm
import Derived.Test.YtmidobhfahpkcabYtfBm
import Derived.Test.YtmidobhfahpkcabMn3
import Derived.Test.YtmidobhfahpkcabWry2
set_option linter.unusedVariables false
set_option linter.unusedSimpArgs false
namespace Go.Proofs.Ytmidobhfahpkcab
open Go.RowKit


theorem ints_lit3 (w : World) (a b c : Int) (t : TypeId) : Ints (w.alloc (.cells #[.int .i64 a, .int .i64 b, .int .i64 c] t)) w.heap.size 0 [a, b, c] := by
  intro j hj
  match j, hj with
  | 0, _ => simp
  | 1, _ => simp
  | 2, _ => simp
theorem ints_lit3A {w w' : World} {g : Nat} {a b c : Int} {t : TypeId} (h : w' = w.alloc (.cells #[.int .i64 a, .int .i64 b, .int .i64 c] t)) (hg : g = w.heap.size) : Ints w' g 0 [a, b, c] := by subst h hg; exact ints_lit3 _ _ _ _ _
set_option maxHeartbeats 2000000 in
theorem bmC_any (q0 q1 q2 : Nat) (a b c y : Int) (w : World) (h0 : w.cell? ⟨q0, 0, none⟩ = some (.int .i64 a)) (h1 : w.cell? ⟨q1, 0, none⟩ = some (.int .i64 b)) (h2 : w.cell? ⟨q2, 0, none⟩ = some (.int .i64 c)) (ha : 1 ≤ a + y) (hb : 1 ≤ b + y) (hc : 1 ≤ c + y) (hu : a ≤ 120 ∧ b ≤ 120 ∧ c ≤ 120 ∧ -120 ≤ y ∧ y ≤ 120) (hl : 0 ≤ a ∧ 0 ≤ b ∧ 0 ≤ c) :
    Calls Try.prog 45 #[.int .i64 y, .pointer (some ⟨q0, 0, none⟩), .pointer (some ⟨q1, 0, none⟩), .pointer (some ⟨q2, 0, none⟩)] w (Ret (.bool (bmP a b c y)) w) := by
  have H1 := fun w => isMult_any (a + y) (b + y) w (by omega) hb
  have H2 := fun w => isMult_any (b + y) (c + y) w (by omega) hc
  have e1 : ∀ p q : Int, (decide (q < p) && decide (p % q = 0)) = muB p q := fun _ _ => rfl
  rw [e1] at H1 H2
  have K1 := Lib.hid (fun w => H1 w)
  have K2 := Lib.hid (fun w => H2 w)
  clear H1 H2 e1
  cases hm : muB (a + y) (b + y) with
  | false =>
    rw [show bmP a b c y = false by simp [bmP, hm]]
    rw [hm] at K1
    clear hm
    go_enter Try.func45, Try.ntmps45
    go_wp2_with (first | (go_at_call_of 42 (Value.int IntKind.i64 (a + y)); refine (K1.out _).mono ?_; rintro e w' ⟨rfl, rfl⟩))
    go_ret
    exact ⟨rfl, Below.refl _ _⟩
  | true =>
    rw [show bmP a b c y = muB (b + y) (c + y) by simp [bmP, hm]]
    rw [hm] at K1
    clear hm
    go_enter Try.func45, Try.ntmps45
    go_wp2_with (first | (go_at_call_of 42 (Value.int IntKind.i64 (a + y)); refine (K1.out _).mono ?_; rintro e w' ⟨rfl, rfl⟩) | (go_at_call_of 42 (Value.int IntKind.i64 (b + y)); refine (K2.out _).mono ?_; rintro e w' ⟨rfl, rfl⟩))
    go_ret
    exact ⟨rfl, Below.refl _ _⟩

set_option maxHeartbeats 8000000 in
set_option maxRecDepth 100000 in
theorem bm_any (a b c : Int) (w : World) : Calls Try.prog 24 #[.int .i64 a, .int .i64 b, .int .i64 c] w (RetOwnB (bmL a b c) (bmOk a b c) w) := by
  have HW0 := Lib.hid (((((Below.refl w.heap.size w).alloc (Nat.le_refl _) (.cells #[.int .i64 a] 3)).alloc (by simp) (.cells #[.int .i64 b] 3)).alloc (by simp; omega) (.cells #[.int .i64 c] 3)).alloc (by simp; omega) (.cells #[.int .i64 a, .int .i64 b, .int .i64 c] 3))
  have hgood : goodB [a, b, c] 120 = bmOk a b c := by simp [goodB, allB, bmOk]; intros; decide
  have HA0 := fun (g k : Nat) (w : World) (hI : Ints w g 0 [a, b, c]) => areAges_any g 0 3 k [a, b, c] w rfl (by omega) hI
  rw [hgood] at HA0
  clear hgood
  cases hok : bmOk a b c with
  | false =>
    rw [show bmL a b c = [] by simp [bmL, hok]]
    rw [hok] at HA0
    have HA := Lib.hid HA0
    clear HA0 hok
    go_enter Try.func24, Try.ntmps24
    go_wp2_with (first | (go_at_call 44; refine (HA.out _ _ _ (ints_lit3A (t := 3) rfl (by simp))).mono ?_; rintro e w' ⟨rfl, rfl⟩))
    go_ret2
    exact ⟨_, rfl, own_nil _ _, HW0.out⟩
  | true =>
    rw [show bmL a b c = yF (bmP a b c) (1 - min a (min b c)) (120 + min a (min b c)).toNat by simp [bmL, hok]]
    rw [hok] at HA0
    have HA := Lib.hid HA0
    have hok' := hok
    unfold bmOk at hok'
    rw [Bool.and_eq_true, Bool.and_eq_true] at hok'
    obtain ⟨h1, h2, h3⟩ := hok'
    have ha := inB_iff.1 h1
    have hb := inB_iff.1 h2
    have hc := inB_iff.1 h3
    clear HA0 hok h1 h2 h3
    have key : ∀ (x : Int) (N : Nat), x ≤ a → x ≤ b → x ≤ c → (0 ≤ x ∧ x ≤ 120) → (N : Int) = 120 + x → (∀ (q0 q1 q2 : Nat) (w : World), w.cell? ⟨q0, 0, none⟩ = some (.int .i64 a) → w.cell? ⟨q1, 0, none⟩ = some (.int .i64 b) → w.cell? ⟨q2, 0, none⟩ = some (.int .i64 c) →
        Calls Try.prog 34 #[.int .i64 (1 - x), .int .i64 120, .func (.func 45) #[] #[.pointer (some ⟨q0, 0, none⟩), .pointer (some ⟨q1, 0, none⟩), .pointer (some ⟨q2, 0, none⟩)]] w (RetOwn (yF (bmP a b c) (1 - x) N) w)) := by
      intro x N k1 k2 k3 k4 hN q0 q1 q2 w c0 c1 c2
      exact ytfBm_any q0 q1 q2 (bmP a b c) (1 - x) 120 N w (by omega) (by omega) (by omega) (fun W hW j hj => bmC_any q0 q1 q2 a b c (1 - x + j) W ((hW.cell (p := ⟨q0, 0, none⟩) (World.block_lt_of_cell? w ⟨q0, 0, none⟩ c0)).trans c0) ((hW.cell (p := ⟨q1, 0, none⟩) (World.block_lt_of_cell? w ⟨q1, 0, none⟩ c1)).trans c1) ((hW.cell (p := ⟨q2, 0, none⟩) (World.block_lt_of_cell? w ⟨q2, 0, none⟩ c2)).trans c2) (by omega) (by omega) (by omega) (by omega) (by omega))
    obtain ⟨N, hN⟩ : ∃ N : Nat, N = (120 + min a (min b c)).toNat := ⟨_, rfl⟩
    rw [← hN]
    have hm3 : ∀ W, Sem.run Try.prog (Builtin.min_ #[3, 3, 3] 3 #[.int .i64 a, .int .i64 b, .int .i64 c]) W = Result.ok (.int .i64 (min a (min b c))) W := fun W => run_min3 _ _ _ a b c _ W rfl
    have hx : min a (min b c) ≤ a ∧ min a (min b c) ≤ b ∧ min a (min b c) ≤ c ∧ 0 ≤ min a (min b c) ∧ min a (min b c) ≤ 120 := by omega
    generalize min a (min b c) = x at hm3 hN hx ⊢
    have HY := Lib.hid (key x N (by omega) (by omega) (by omega) (by omega) (by omega))
    clear key hN
    go_enter Try.func24, Try.ntmps24
    go_wp2_with (first | (go_at_call 44; refine (HA.out _ _ _ (ints_lit3A (t := 3) rfl (by simp))).mono ?_; rintro e w' ⟨rfl, rfl⟩) | (go_at_call 34; refine (HY.out _ _ _ _ (by first | (simp; done) | (simp [go_sem]; done)) (by first | (simp; done) | (simp [go_sem]; done)) (by first | (simp; done) | (simp [go_sem]; done))).mono ?_; rintro e w' ⟨v, rfl, ho, hcall⟩; have hbw : Below w.heap.size w w' := HW0.out.trans (hcall.mono (by simp <;> omega)); have ho' := Own.mono ho (by simp <;> omega : w.heap.size ≤ _); clear hcall ho))
    go_ret2
    exact ⟨v, rfl, ho', hbw⟩
theorem bm_both (a b c : Int) : ∃ (rs : List Int) (ok : Bool), rs.length ≤ 1048576 ∧ (∀ w, Calls Try.prog 23 #[.int .i64 a, .int .i64 b, .int .i64 c] w (RetOwnB rs ok w)) ∧ ∀ w, Calls Try.prog 24 #[.int .i64 a, .int .i64 b, .int .i64 c] w (RetOwnB rs ok w) := by
  refine ⟨_, _, ?_, fun w => specBm_any a b c w, fun w => bm_any a b c w⟩
  unfold bmL
  split
  · next h =>
    unfold bmOk at h
    rw [Bool.and_eq_true, Bool.and_eq_true] at h
    have ha := inB_iff.1 h.1
    have := yF_length (bmP a b c) (1 - min a (min b c)) (120 + min a (min b c)).toNat
    omega
  · simp
end Go.Proofs.Ytmidobhfahpkcab
