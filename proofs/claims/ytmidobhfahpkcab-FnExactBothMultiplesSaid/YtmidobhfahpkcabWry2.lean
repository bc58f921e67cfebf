/- WholeRatioYears: the program's text. -/
import Derived.Test.YtmidobhfahpkcabYtfWry
import Derived.Test.YtmidobhfahpkcabWry
set_option linter.unusedVariables false
set_option linter.unusedSimpArgs false
namespace Go.Proofs.Ytmidobhfahpkcab
open Go.RowKit


theorem isMult_any (x y : Int) (w : World) (hx : 0 ≤ x) (hy : 1 ≤ y) : Calls Try.prog 42 #[.int .i64 x, .int .i64 y] w (RetSame (.bool (decide (y < x) && decide (x % y = 0))) w) := by
  have hq2 : (y == 0) = false := beq_eq_false_iff_ne.2 (by omega)
  by_cases h : y < x
  · cases hr : decide (x % y = 0) with
    | true =>
      rw [show (decide (y < x) && true) = true by simp [h]]
      have hr2 : (x % y == 0) = true := beq_iff_eq.2 (of_decide_eq_true hr)
      go_enter Try.func42, Try.ntmps42
      go_wp2
      go_ret
      exact ⟨rfl, rfl⟩
    | false =>
      rw [show (decide (y < x) && false) = false by simp]
      have hr2 : (x % y == 0) = false := beq_eq_false_iff_ne.2 (of_decide_eq_false hr)
      go_enter Try.func42, Try.ntmps42
      go_wp2
      go_ret
      exact ⟨rfl, rfl⟩
  · rw [show (decide (y < x) && decide (x % y = 0)) = false by simp [h]]
    go_enter Try.func42, Try.ntmps42
    go_wp2
    go_ret
    exact ⟨rfl, rfl⟩
theorem wryC_any (q0 q1 : Nat) (M m y : Int) (w : World) (h0 : w.cell? ⟨q0, 0, none⟩ = some (.int .i64 M)) (h1 : w.cell? ⟨q1, 0, none⟩ = some (.int .i64 m)) (hM : 0 ≤ m ∧ m < M ∧ M ≤ 120) (hy : 1 - m ≤ y ∧ y ≤ 120) :
    Calls Try.prog 41 #[.int .i64 y, .pointer (some ⟨q0, 0, none⟩), .pointer (some ⟨q1, 0, none⟩)] w (Ret (.bool (wrP M m y)) w) := by
  have e : (decide (m + y < M + y) && decide ((M + y) % (m + y) = 0)) = wrP M m y := by
    rw [show decide (m + y < M + y) = true by simp; omega]; rfl
  have HI := Lib.hid (fun w => isMult_any (M + y) (m + y) w (by omega) (by omega))
  rw [e] at HI
  clear e
  go_enter Try.func41, Try.ntmps41
  go_wp2_with (first | (go_at_call 42; refine (HI.out _).mono ?_; rintro e w' ⟨rfl, rfl⟩))
  go_ret
  exact ⟨rfl, Below.refl _ _⟩

set_option maxHeartbeats 4000000 in
set_option maxRecDepth 100000 in
theorem wry_any (a b : Int) (w : World) : Calls Try.prog 22 #[.int .i64 a, .int .i64 b] w (RetOwnB (wrL a b) (wrOk a b) w) := by
  have HT0 := fun w => differ_any a b w
  cases hok : wrOk a b with
  | false =>
    rw [show wrL a b = [] by simp [wrL, hok]]
    unfold wrOk at hok
    rw [hok] at HT0
    have HT := Lib.hid HT0
    clear HT0
    go_enter Try.func22, Try.ntmps22
    go_wp2_with (first | (go_at_call 40; refine (HT.out _).mono ?_; rintro e w' ⟨rfl, rfl⟩))
    go_ret2
    exact ⟨_, rfl, own_nil _ _, Below.refl _ _⟩
  | true =>
    rw [show wrL a b = yF (wrP (max a b) (min a b)) (1 - min a b) (120 + min a b).toNat by simp [wrL, hok]]
    unfold wrOk at hok
    rw [hok] at HT0
    have HT := Lib.hid HT0
    clear HT0
    rw [Bool.and_eq_true, Bool.and_eq_true] at hok
    obtain ⟨⟨h1, h2⟩, h3⟩ := hok
    have ha := inB_iff.1 h1
    have hb := inB_iff.1 h2
    have hab : a ≠ b := of_decide_eq_true h3
    have key : ∀ (M m : Int) (N : Nat), max a b = M → min a b = m → (N : Int) = 120 + m → Calls Try.prog 22 #[.int .i64 a, .int .i64 b] w (RetOwnB (yF (wrP M m) (1 - m) N) true w) := by
      intro M m N e1 e2 hN
      have hM : 0 ≤ m ∧ m < M ∧ M ≤ 120 := by omega
      have HY := Lib.hid (fun (q0 q1 : Nat) (w : World) (c0 : w.cell? ⟨q0, 0, none⟩ = some (.int .i64 M)) (c1 : w.cell? ⟨q1, 0, none⟩ = some (.int .i64 m)) => ytfWry_any q0 q1 (wrP M m) (1 - m) 120 N w (by omega) (by omega) (by omega) (fun W hW j hj => wryC_any q0 q1 M m (1 - m + j) W ((hW.cell (p := ⟨q0, 0, none⟩) (World.block_lt_of_cell? w ⟨q0, 0, none⟩ c0)).trans c0) ((hW.cell (p := ⟨q1, 0, none⟩) (World.block_lt_of_cell? w ⟨q1, 0, none⟩ c1)).trans c1) hM (by omega)))
      by_cases hlt : a < b
      · obtain rfl : M = b := by omega
        obtain rfl : m = a := by omega
        go_enter Try.func22, Try.ntmps22
        go_wp2_with (first | (go_at_call 40; refine (HT.out _).mono ?_; rintro e w' ⟨rfl, rfl⟩) | (go_at_call 34; refine (HY.out _ _ _ (by simp) (by simp)).mono ?_; rintro e w' ⟨v, rfl, ho, hcall⟩; have hbw : Below w.heap.size w w' := (((Below.refl w.heap.size w).alloc (Nat.le_refl _) _).alloc (by simp) _).trans (hcall.mono (by simp; omega)); have ho' := Own.mono ho (by simp; omega : w.heap.size ≤ _); clear hcall ho))
        go_ret2
        exact ⟨v, rfl, ho', hbw⟩
      · obtain rfl : M = a := by omega
        obtain rfl : m = b := by omega
        go_enter Try.func22, Try.ntmps22
        go_wp2_with (first | (go_at_call 40; refine (HT.out _).mono ?_; rintro e w' ⟨rfl, rfl⟩) | (go_at_call 34; refine (HY.out _ _ _ (by simp) (by simp)).mono ?_; rintro e w' ⟨v, rfl, ho, hcall⟩; have hbw : Below w.heap.size w w' := (((Below.refl w.heap.size w).alloc (Nat.le_refl _) _).alloc (by simp) _).trans (hcall.mono (by simp; omega)); have ho' := Own.mono ho (by simp; omega : w.heap.size ≤ _); clear hcall ho))
        go_ret2
        exact ⟨v, rfl, ho', hbw⟩
    exact key _ _ _ rfl rfl (by omega)
theorem wry_both (a b : Int) : ∃ (rs : List Int) (ok : Bool), rs.length ≤ 1048576 ∧ (∀ w, Calls Try.prog 21 #[.int .i64 a, .int .i64 b] w (RetOwnB rs ok w)) ∧ ∀ w, Calls Try.prog 22 #[.int .i64 a, .int .i64 b] w (RetOwnB rs ok w) := by
  refine ⟨_, _, ?_, fun w => specWry_any a b w, fun w => wry_any a b w⟩
  unfold wrL
  split
  · next h =>
    unfold wrOk at h
    rw [Bool.and_eq_true, Bool.and_eq_true] at h
    have ha := inB_iff.1 h.1.1
    have := yF_length (wrP (max a b) (min a b)) (1 - min a b) (120 + min a b).toNat
    omega
  · simp
end Go.Proofs.Ytmidobhfahpkcab
