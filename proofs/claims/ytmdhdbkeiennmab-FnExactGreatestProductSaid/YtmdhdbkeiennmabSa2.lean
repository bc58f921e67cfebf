/- SetsApart, the program's. -/
import Derived.Test.YtmdhdbkeiennmabSa1
import Derived.Test.YtmdhdbkeiennmabSwS
import Derived.Test.YtmdhdbkeiennmabSi1
set_option linter.unusedVariables false
set_option linter.unusedSimpArgs false
namespace Go.Proofs.Ytmdhdbkeiennmab
open Go.RowKit

theorem isChildrenSum_any (n : Int) (w : World) : Calls Try.prog 58 #[.int .i64 n] w (RetSame (.bool (inB n 1 80)) w) := by
  go_enter Try.func58, Try.ntmps58
  go_wp2_with (go_at_call 42; refine (isWithin_any _ _ _ _).mono ?_; rintro e w' ⟨rfl, rfl⟩)
  go_ret
  exact ⟨rfl, rfl⟩
theorem kids_of {l : List Int} {m n : Nat} (hl : l.length = m) (hm : m ≤ n) (hn : n ≤ 4) (h : ∀ x ∈ l, 1 ≤ x ∧ x ≤ 20) : Kids l := ⟨by omega, h⟩
theorem setsApartAt (n : Nat) (S ap : Int) (w W : World) (h1 : 1 ≤ n) (hn : n ≤ 4) (hS : 1 ≤ S ∧ S ≤ 80) (hap : 0 ≤ ap ∧ ap ≤ 20) (q0 q1 q2 : Nat)
    (c0 : W.cell? ⟨q0, 0, none⟩ = some (.int .i64 n)) (c1 : W.cell? ⟨q1, 0, none⟩ = some (.int .i64 ap)) (c2 : W.cell? ⟨q2, 0, none⟩ = some (.int .i64 S)) :
    Calls Try.prog 59 #[.int .i64 n, .func (.func 60) #[] #[.pointer (some ⟨q0, 0, none⟩), .pointer (some ⟨q1, 0, none⟩), .pointer (some ⟨q2, 0, none⟩)]] W (RetSets (setsS n S ap) W) := by
  have h := setsWhenS_any q0 q1 q2 n (sumP n S ap) W hn h1 (by rw [tree_sum n S ap h1]; exact setsS_length S ap hn) (by
    intro W2 hb m l hl hm1 hmn hk hI
    exact apartTest_any q0 q1 q2 W.heap.size m n n S ap l W2 hl hm1 hmn hn hS hap (kids_of hl hmn hn hk) hI (below_cells2 hb c0) (below_cells2 hb c1) (below_cells2 hb c2))
  rw [tree_sum n S ap h1] at h
  exact h
def apartOk (N S ap : Int) : Bool := inB N 1 4 && inB S 1 80 && inB ap 0 20
set_option maxHeartbeats 1600000 in
theorem imSetsApart_no (N S ap : Int) (w : World) (h : apartOk N S ap = false) :
    Calls Try.prog 30 #[.int .i64 N, .int .i64 S, .int .i64 ap] w (RetSSB [] false w) := by
  unfold apartOk at h
  have HB : ∀ (W : World), Hid (Below W.heap.size W W) := fun W => Lib.hid (Below.refl _ _)
  have HC := Lib.hid (fun W => areChildren_any N W)
  have HS := Lib.hid (fun W => isChildrenSum_any S W)
  have HW := Lib.hid (fun W => isWithin_any ap 0 20 W)
  cases e1 : inB N 1 4 with
  | false =>
    rw [e1] at HC
    go_enter Try.func30, Try.ntmps30
    go_wp2_with (first | (go_at_call 41; refine (HC.out _).mono ?_; rintro e w' ⟨rfl, rfl⟩))
    go_ret2
    exact ⟨_, [], rfl, ownSS_nil _ _ _, (((Below.refl w.heap.size w).alloc (Nat.le_refl _) _).alloc (by simp) _).alloc (by simp; omega) _⟩
  | true =>
    rw [e1] at HC
    cases e2 : inB S 1 80 with
    | false =>
      rw [e2] at HS
      go_enter Try.func30, Try.ntmps30
      go_wp2_with (first | (go_at_call 41; refine (HC.out _).mono ?_; rintro e w' ⟨rfl, rfl⟩) | (go_at_call 58; refine (HS.out _).mono ?_; rintro e w' ⟨rfl, rfl⟩))
      go_ret2
      exact ⟨_, [], rfl, ownSS_nil _ _ _, (((Below.refl w.heap.size w).alloc (Nat.le_refl _) _).alloc (by simp) _).alloc (by simp; omega) _⟩
    | true =>
      rw [e2] at HS
      have e3 : inB ap 0 20 = false := by rw [e1, e2] at h; exact h
      rw [e3] at HW
      go_enter Try.func30, Try.ntmps30
      go_wp2_with (first | (go_at_call 41; refine (HC.out _).mono ?_; rintro e w' ⟨rfl, rfl⟩) | (go_at_call 58; refine (HS.out _).mono ?_; rintro e w' ⟨rfl, rfl⟩) | (go_at_call 42; refine (HW.out _).mono ?_; rintro e w' ⟨rfl, rfl⟩))
      go_ret2
      exact ⟨_, [], rfl, ownSS_nil _ _ _, (((Below.refl w.heap.size w).alloc (Nat.le_refl _) _).alloc (by simp) _).alloc (by simp; omega) _⟩
set_option maxHeartbeats 1600000 in
theorem imSetsApart_yes (n : Nat) (S ap : Int) (w : World) (h : apartOk n S ap = true) :
    Calls Try.prog 30 #[.int .i64 n, .int .i64 S, .int .i64 ap] w (RetSSB (setsS n S ap) true w) := by
  unfold apartOk at h
  rw [Bool.and_eq_true, Bool.and_eq_true] at h
  obtain ⟨⟨e1, e2⟩, e3⟩ := h
  have HC := Lib.hid (fun W => areChildren_any n W)
  have HS := Lib.hid (fun W => isChildrenSum_any S W)
  have HW := Lib.hid (fun W => isWithin_any ap 0 20 W)
  rw [e1] at HC
  rw [e2] at HS
  rw [e3] at HW
  have HR := Lib.hid (fun (W : World) q0 q1 q2 c0 c1 c2 => setsApartAt n S ap w W (by have := inB_iff.1 e1; omega) (by have := inB_iff.1 e1; omega) (inB_iff.1 e2) (inB_iff.1 e3) q0 q1 q2 c0 c1 c2)
  clear e1 e2 e3
  go_enter Try.func30, Try.ntmps30
  go_wp2_with (first | (go_at_call 41; refine (HC.out _).mono ?_; rintro e w' ⟨rfl, rfl⟩) | (go_at_call 58; refine (HS.out _).mono ?_; rintro e w' ⟨rfl, rfl⟩) | (go_at_call 42; refine (HW.out _).mono ?_; rintro e w' ⟨rfl, rfl⟩) | (go_at_call 59; refine (HR.out _ w.heap.size (w.heap.size + 1 + 1) (w.heap.size + 1) (boxS (box_oldS (box_oldS (box_newS rfl) _) _)).1 (boxS (box_newS (by simp))).1 (boxS (box_oldS (box_newS (by simp)) _)).1).mono ?_; rintro e w' ⟨v, vs, rfl, hss, hb⟩))
  go_ret2
  refine ⟨v, vs, rfl, hss.monoBS (by simp; omega) _ (Nat.le_refl _), ?_⟩
  refine Below.trans ?_ (hb.mono (by simp; omega))
  exact (((Below.refl w.heap.size w).alloc (Nat.le_refl _) _).alloc (by simp) _).alloc (by simp; omega) _
end Go.Proofs.Ytmdhdbkeiennmab
