/- The question of SetsOfProduct; SetsOfProduct, the program's. -/
import Derived.Test.YtmdhdbkeiennmaaSu1
import Derived.Test.YtmdhdbkeiennmaaSwP
set_option linter.unusedVariables false
set_option linter.unusedSimpArgs false
namespace Go.Proofs.Ytmdhdbkeiennmaa
open Go.RowKit

theorem areChildren_any (n : Int) (w : World) : Calls Try.prog 41 #[.int .i64 n] w (RetSame (.bool (inB n 1 4)) w) := by
  go_enter Try.func41, Try.ntmps41
  go_wp2_with (go_at_call 64; refine (isWithin_any _ _ _ _).mono ?_; rintro e w' ⟨rfl, rfl⟩)
  go_ret
  exact ⟨rfl, rfl⟩
theorem isChildrenProduct_any (n : Int) (w : World) : Calls Try.prog 42 #[.int .i64 n] w (RetSame (.bool (inB n 1 160000)) w) := by
  go_enter Try.func42, Try.ntmps42
  go_wp2_with (go_at_call 64; refine (isWithin_any _ _ _ _).mono ?_; rintro e w' ⟨rfl, rfl⟩)
  go_ret
  exact ⟨rfl, rfl⟩
theorem isChildrenSum_any (n : Int) (w : World) : Calls Try.prog 51 #[.int .i64 n] w (RetSame (.bool (inB n 1 80)) w) := by
  go_enter Try.func51, Try.ntmps51
  go_wp2_with (go_at_call 64; refine (isWithin_any _ _ _ _).mono ?_; rintro e w' ⟨rfl, rfl⟩)
  go_ret
  exact ⟨rfl, rfl⟩
set_option maxHeartbeats 4000000 in
theorem prodTest_any (q0 q1 b m c N : Nat) (P : Int) (l : List Int) (w : World) (hl : l.length = m) (h1 : 1 ≤ m) (hm : m ≤ N) (hN : N ≤ 4) (hP : 1 ≤ P ∧ P ≤ 160000) (hk : Kids l) (hI : Ints w b 0 l)
    (c0 : w.cell? ⟨q0, 0, none⟩ = some (.int .i64 N)) (c1 : w.cell? ⟨q1, 0, none⟩ = some (.int .i64 P)) :
    Calls Try.prog 44 #[.slice (some ⟨b, 0, none⟩) m c, .pointer (some ⟨q0, 0, none⟩), .pointer (some ⟨q1, 0, none⟩)] w (Ret (.bool (prodP N P l)) w) := by
  have hx := kid_prod4 hk l.length (Nat.le_refl _)
  rw [List.take_length] at hx
  have HSum' := Lib.hid (fun (W : World) (n : Nat) (e : W = w.drewN n) => productOfSet_any b 0 m c l W hl hk (hI.kept (show Below w.heap.size w W by rw [e]; exact below_drewN (Below.refl _ _) _) (ints_lt hI (by omega))))
  have HP := Lib.hid (show prodP N P l = (if m = N then prodL l == P else P % prodL l == 0) by unfold prodP; rw [hl])
  generalize prodL l = x at hx HSum' HP
  clear hI
  by_cases hmN : m = N
  · have hr := HP.out
    rw [if_pos hmN] at hr
    have HR := Lib.hid hr
    subst hmN
    clear hr HP
    go_enter Try.func44, Try.ntmps44
    go_wp2
    go_big_quiet ((first | (go_at_call 45; exact (HSum'.out _ _ rfl).mono (fun e w1 h => ⟨h.1, _, h.2.symm⟩))))
    go_wp2
    go_ret
    exact ⟨by rw [HR.out]; rfl, by first | exact below_drewN (below_drewN (Below.refl _ _) _) _ | exact below_drewN (Below.refl _ _) _⟩
  · have hr := HP.out
    rw [if_neg hmN] at hr
    have HR := Lib.hid hr
    clear hr HP
    have d1 : (((m : Nat) : Int) == (N : Int)) = false := by rw [beq_eq_false_iff_ne]; omega
    have d2 : ¬ ((m : Nat) : Int) = (N : Int) := by omega
    have t1 : P.tmod x = P % x := Int.tmod_eq_emod_of_nonneg (by omega)
    have t2 : ¬ x = 0 := by omega
    have t3 : (x == 0) = false := by rw [beq_eq_false_iff_ne]; omega
    have t4 : 0 ≤ P % x ∧ P % x < x := ⟨Int.emod_nonneg _ t2, Int.emod_lt_of_pos _ (by omega)⟩
    have t5 : IntKind.i64.wrap (P % x) = P % x := IntWalk.i64_in _ (by omega)
    go_enter Try.func44, Try.ntmps44
    go_wp2
    go_big_quiet ((first | (go_at_call 45; exact (HSum'.out _ _ rfl).mono (fun e w1 h => ⟨h.1, _, h.2.symm⟩))))
    go_wp2
    go_ret
    exact ⟨by rw [HR.out]; rfl, by first | exact below_drewN (below_drewN (Below.refl _ _) _) _ | exact below_drewN (Below.refl _ _) _⟩
theorem kids_of {l : List Int} {m n : Nat} (hl : l.length = m) (hm : m ≤ n) (hn : n ≤ 4) (h : ∀ x ∈ l, 1 ≤ x ∧ x ≤ 20) : Kids l := ⟨by omega, h⟩
theorem setsOfAt (n : Nat) (P : Int) (W : World) (h1 : 1 ≤ n) (hn : n ≤ 4) (hP : 1 ≤ P ∧ P ≤ 160000) (q0 q1 : Nat)
    (c0 : W.cell? ⟨q0, 0, none⟩ = some (.int .i64 n)) (c1 : W.cell? ⟨q1, 0, none⟩ = some (.int .i64 P)) :
    Calls Try.prog 43 #[.int .i64 n, .func (.func 44) #[] #[.pointer (some ⟨q0, 0, none⟩), .pointer (some ⟨q1, 0, none⟩)]] W (RetSets (setsP n P) W) := by
  have h := setsWhenP_any q0 q1 n (prodP n P) W hn h1 (by rw [tree_prod n P h1]; exact setsP_length P hn) (by
    intro W2 hb m l hl hm1 hmn hk hI
    exact prodTest_any q0 q1 W.heap.size m n n P l W2 hl hm1 hmn hn hP (kids_of hl hmn hn hk) hI (below_cells2 hb c0) (below_cells2 hb c1))
  rw [tree_prod n P h1] at h
  exact h
def prodOk (N P : Int) : Bool := inB N 1 4 && inB P 1 160000
set_option maxHeartbeats 1600000 in
theorem imSetsOf_no (N P : Int) (w : World) (h : prodOk N P = false) :
    Calls Try.prog 14 #[.int .i64 N, .int .i64 P] w (RetSSB [] false w) := by
  unfold prodOk at h
  have HC := Lib.hid (fun W => areChildren_any N W)
  have HS := Lib.hid (fun W => isChildrenProduct_any P W)
  cases e1 : inB N 1 4 with
  | false =>
    rw [e1] at HC
    go_enter Try.func14, Try.ntmps14
    go_wp2_with (first | (go_at_call 41; refine (HC.out _).mono ?_; rintro e w' ⟨rfl, rfl⟩))
    go_ret2
    exact ⟨_, [], rfl, ownSS_nil _ _ _, ((Below.refl w.heap.size w).alloc (Nat.le_refl _) _).alloc (by simp) _⟩
  | true =>
    rw [e1] at HC
    have e2 : inB P 1 160000 = false := by rw [e1] at h; exact h
    rw [e2] at HS
    go_enter Try.func14, Try.ntmps14
    go_wp2_with (first | (go_at_call 41; refine (HC.out _).mono ?_; rintro e w' ⟨rfl, rfl⟩) | (go_at_call 42; refine (HS.out _).mono ?_; rintro e w' ⟨rfl, rfl⟩))
    go_ret2
    exact ⟨_, [], rfl, ownSS_nil _ _ _, ((Below.refl w.heap.size w).alloc (Nat.le_refl _) _).alloc (by simp) _⟩
set_option maxHeartbeats 1600000 in
theorem imSetsOf_yes (n : Nat) (P : Int) (w : World) (h : prodOk n P = true) :
    Calls Try.prog 14 #[.int .i64 n, .int .i64 P] w (RetSSB (setsP n P) true w) := by
  unfold prodOk at h
  rw [Bool.and_eq_true] at h
  obtain ⟨e1, e2⟩ := h
  have HC := Lib.hid (fun W => areChildren_any n W)
  have HS := Lib.hid (fun W => isChildrenProduct_any P W)
  rw [e1] at HC
  rw [e2] at HS
  have HR := Lib.hid (fun (W : World) q0 q1 c0 c1 => setsOfAt n P W (by have := inB_iff.1 e1; omega) (by have := inB_iff.1 e1; omega) (inB_iff.1 e2) q0 q1 c0 c1)
  clear e1 e2
  go_enter Try.func14, Try.ntmps14
  go_wp2_with (first | (go_at_call 41; refine (HC.out _).mono ?_; rintro e w' ⟨rfl, rfl⟩) | (go_at_call 42; refine (HS.out _).mono ?_; rintro e w' ⟨rfl, rfl⟩) | (go_at_call 43; refine (HR.out _ w.heap.size (w.heap.size + 1) (boxP (box_oldP (box_newP rfl) _)).1 (boxP (box_newP (by simp))).1).mono ?_; rintro e w' ⟨v, vs, rfl, hss, hb⟩))
  go_ret2
  refine ⟨v, vs, rfl, hss.monoBP (by simp; omega) _ (Nat.le_refl _), ?_⟩
  refine Below.trans ?_ (hb.mono (by simp; omega))
  exact ((Below.refl w.heap.size w).alloc (Nat.le_refl _) _).alloc (by simp) _
end Go.Proofs.Ytmdhdbkeiennmaa
