/- The question of SetsApart. -/
import Derived.Test.YtmdhdbkeiennmabSu1
import Derived.Test.YtmdhdbkeiennmabRowsHelp
import Derived.Test.YtmdhdbkeiennmabSrS
set_option linter.unusedVariables false
set_option linter.unusedSimpArgs false
namespace Go.Proofs.Ytmdhdbkeiennmab
open Go.RowKit

theorem mul_bd {a x : Int} (h1 : 0 ≤ a) (h2 : a ≤ 3) (h3 : 1 ≤ x) (h4 : x ≤ 20) : 0 ≤ a * x ∧ a * x ≤ 60 := by
  rcases (show a = 0 ∨ a = 1 ∨ a = 2 ∨ a = 3 by omega) with rfl | rfl | rfl | rfl <;> omega
set_option maxHeartbeats 4000000 in
theorem apartTest_any (q0 q1 q2 b m c N : Nat) (S ap : Int) (l : List Int) (w : World) (hl : l.length = m) (h1 : 1 ≤ m) (hm : m ≤ N) (hN : N ≤ 4) (hS : 1 ≤ S ∧ S ≤ 80) (hap : 0 ≤ ap ∧ ap ≤ 20) (hk : Kids l) (hI : Ints w b 0 l)
    (c0 : w.cell? ⟨q0, 0, none⟩ = some (.int .i64 N)) (c1 : w.cell? ⟨q1, 0, none⟩ = some (.int .i64 ap)) (c2 : w.cell? ⟨q2, 0, none⟩ = some (.int .i64 S)) :
    Calls Try.prog 60 #[.slice (some ⟨b, 0, none⟩) m c, .pointer (some ⟨q0, 0, none⟩), .pointer (some ⟨q1, 0, none⟩), .pointer (some ⟨q2, 0, none⟩)] w (Ret (.bool (sumP N S ap l)) w) := by
  have hs := kid_sum hk l.length (Nat.le_refl _)
  rw [List.take_length] at hs
  have hx := kid_at hk (m - 1) (by omega)
  have hcx : w.cell? ⟨b, m - 1, none⟩ = some (.int .i64 (l.getD (m - 1) 0)) := by
    have := hI (m - 1) (by omega)
    rwa [Nat.zero_add] at this
  have HSum := Lib.hid (fun W (hb : Below w.heap.size w W) => sumOfSet_any b 0 m c l W hl hk (hI.kept hb (ints_lt hI (by omega))))
  have em : ((m : Nat) : Int) - 1 = ((m - 1 : Nat) : Int) := by omega
  have hlf : 0 ≤ (N : Int) - (m : Int) ∧ (N : Int) - (m : Int) ≤ 3 := by omega
  have HW := Lib.hid (fun (W : World) => isWithin_any (S - sumL l) (((N : Int) - (m : Int)) * l.getD (m - 1) 0) (((N : Int) - (m : Int)) * 20) W)
  have hmul := mul_bd hlf.1 hlf.2 hx.1 hx.2
  by_cases hm1 : m = 1
  · subst hm1
    have HP : Hid (sumP N S ap l = inB (S - sumL l) (((N : Int) - ((1 : Nat) : Int)) * l.getD (1 - 1) 0) (((N : Int) - ((1 : Nat) : Int)) * 20)) := Lib.hid (by
      unfold sumP
      rw [hl, if_neg (by omega)])
    generalize l.getD (1 - 1) 0 = x at hx hcx HW HP hmul
    generalize sumL l = s at hs HSum HW HP
    clear hI em
    have k1 : IntKind.i64.wrap (((N : Int) - ((1 : Nat) : Int)) * x) = ((N : Int) - ((1 : Nat) : Int)) * x := IntWalk.i64_in _ (by omega)
    have k1' : IntKind.i64.wrap (((N : Int) - 1) * x) = ((N : Int) - 1) * x := IntWalk.i64_in _ (by have : ((1 : Nat) : Int) = 1 := rfl; rw [this] at hmul; omega)
    have k2 : IntKind.i64.wrap (((N : Int) - 1) * 20) = ((N : Int) - 1) * 20 := IntWalk.i64_in _ (by omega)
    have k3 : IntKind.i64.wrap ((N : Int) - 1) = (N : Int) - 1 := IntWalk.i64_in _ (by omega)
    have k4 : IntKind.i64.wrap (S - s) = S - s := IntWalk.i64_in _ (by omega)
    have HSum' := Lib.hid (fun (W : World) (n : Nat) (e : W = w.drewN n) => HSum.out W (by rw [e]; exact below_drewN (Below.refl _ _) _))
    clear hmul HSum
    go_enter Try.func60, Try.ntmps60
    go_wp2
    go_big_quiet (fail)
    go_wp2
    go_big_quiet (fail)
    go_wp2
    go_big_quiet ((first | (go_at_call 61; exact (HSum'.out _ _ rfl).mono (fun e w1 h => ⟨h.1, _, h.2.symm⟩)) | (go_at_call 42; exact (HW.out _).mono (fun e w1 h => ⟨h.1, _, h.2.symm⟩))))
    go_wp2
    go_ret
    exact ⟨by rw [HP.out]; rfl, by first | exact below_drewN (below_drewN (below_drewN (Below.refl _ _) _) _) _ | exact below_drewN (below_drewN (Below.refl _ _) _) _ | exact below_drewN (Below.refl _ _) _⟩
  · have hm2 : 2 ≤ m := by omega
    have hy := kid_at hk (m - 2) (by omega)
    have hcy : w.cell? ⟨b, m - 2, none⟩ = some (.int .i64 (l.getD (m - 2) 0)) := by
      have := hI (m - 2) (by omega)
      rwa [Nat.zero_add] at this
    have em2 : ((m - 1 : Nat) : Int) - 1 = ((m - 2 : Nat) : Int) := by omega
    have HSum' := Lib.hid (fun (W : World) (n : Nat) (e : W = w.drewN n) => HSum.out W (by rw [e]; exact below_drewN (Below.refl _ _) _))
    have HP : Hid (sumP N S ap l = (if l.getD (m - 1) 0 - l.getD (m - 2) 0 < ap then false else inB (S - sumL l) (((N : Int) - (m : Int)) * l.getD (m - 1) 0) (((N : Int) - (m : Int)) * 20))) := Lib.hid (by
      unfold sumP
      rw [hl]
      by_cases h : l.getD (m - 1) 0 - l.getD (m - 2) 0 < ap
      · rw [if_pos ⟨by omega, h⟩, if_pos h]
      · rw [if_neg (fun e => h e.2), if_neg h])
    generalize l.getD (m - 1) 0 = x at hx hcx HW HP hmul
    generalize l.getD (m - 2) 0 = y at hy hcy HP
    generalize sumL l = s at hs HSum HSum' HW HP
    have hk1' : (N : Int) - (m : Int) ≤ 3 := hlf.2
    clear hI HSum
    have hlm : (l.length : Int) = (m : Int) := by omega
    rw [hlm] at hs
    obtain ⟨m', rfl⟩ : ∃ m', m = m' + 2 := ⟨m - 2, by omega⟩
    have e1 : m' + 2 - 1 = m' + 1 := by omega
    have e2 : m' + 2 - 2 = m' := by omega
    rw [e1] at hcx em em2
    rw [e2] at hcy em2
    have g0 : ((m' + 2 : Nat) : Int) = (m' : Int) + 2 := by omega
    have g1 : ((m' + 1 : Nat) : Int) = (m' : Int) + 1 := by omega
    rw [g0] at hs HW HP hmul hlf hk1'
    have k1 : IntKind.i64.wrap (((N : Int) - ((m' : Int) + 2)) * x) = ((N : Int) - ((m' : Int) + 2)) * x := IntWalk.i64_in _ (by omega)
    have k2 : IntKind.i64.wrap (((N : Int) - ((m' : Int) + 2)) * 20) = ((N : Int) - ((m' : Int) + 2)) * 20 := IntWalk.i64_in _ (by omega)
    have k3 : IntKind.i64.wrap ((N : Int) - ((m' : Int) + 2)) = (N : Int) - ((m' : Int) + 2) := IntWalk.i64_in _ (by omega)
    have k4 : IntKind.i64.wrap (S - s) = S - s := IntWalk.i64_in _ (by omega)
    have k5 : IntKind.i64.wrap ((m' : Int) + 2 - 1) = (m' : Int) + 1 := by rw [show (m' : Int) + 2 - 1 = (m' : Int) + 1 by omega]; exact IntWalk.i64_in _ (by omega)
    have k6 : IntKind.i64.wrap ((m' : Int) + 1 - 1) = (m' : Int) := by rw [show (m' : Int) + 1 - 1 = (m' : Int) by omega]; exact IntWalk.i64_in _ (by omega)
    have k7 : IntKind.i64.wrap (m' : Int) = (m' : Int) := IntWalk.i64_in _ (by omega)
    have k8 : IntKind.i64.wrap ((m' : Int) + 1) = (m' : Int) + 1 := IntWalk.i64_in _ (by omega)
    have k9 : IntKind.i64.wrap (x - y) = x - y := IntWalk.i64_in _ (by omega)
    have b1 : (0 : Int) ≤ (m' : Int) := by omega
    have b2 : (m' : Int) < (m' : Int) + 2 := by omega
    have b3 : (0 : Int) ≤ (m' : Int) + 1 := by omega
    have b4 : (m' : Int) + 1 < (m' : Int) + 2 := by omega
    have b5 : (0 : Int) < (m' : Int) + 1 := by omega
    have b6 : ((m' : Int) + 1).toNat = m' + 1 := by omega
    have b7 : m' + 1 < m' + 2 := by omega
    have b8 : m' < m' + 2 := by omega
    clear hmul em em2 e1 e2 g0 g1 hm1 hlm
    by_cases hxy : x - y < ap
    · have hr := HP.out
      rw [if_pos hxy] at hr
      have hd : decide (x - y < ap) = true := decide_eq_true hxy
      have HR := Lib.hid hr
      clear hr
      go_enter Try.func60, Try.ntmps60
      go_wp2
      go_big_quiet (fail)
      go_wp2
      go_big_quiet (fail)
      go_wp2
      go_ret
      exact ⟨by rw [HR.out]; rfl, by first | exact below_drewN (below_drewN (below_drewN (Below.refl _ _) _) _) _ | exact below_drewN (below_drewN (Below.refl _ _) _) _ | exact below_drewN (Below.refl _ _) _⟩
    · have hr := HP.out
      rw [if_neg hxy] at hr
      have hd : decide (x - y < ap) = false := decide_eq_false hxy
      have HR := Lib.hid hr
      clear hr
      go_enter Try.func60, Try.ntmps60
      go_wp2
      go_big_quiet (fail)
      go_wp2
      go_big_quiet (fail)
      go_wp2
      go_big_quiet ((first | (go_at_call 61; exact (HSum'.out _ _ rfl).mono (fun e w1 h => ⟨h.1, _, h.2.symm⟩)) | (go_at_call 42; exact (HW.out _).mono (fun e w1 h => ⟨h.1, _, h.2.symm⟩))))
      go_wp2
      go_ret
      exact ⟨by rw [HR.out]; rfl, by first | exact below_drewN (below_drewN (below_drewN (Below.refl _ _) _) _) _ | exact below_drewN (below_drewN (Below.refl _ _) _) _ | exact below_drewN (Below.refl _ _) _⟩
end Go.Proofs.Ytmdhdbkeiennmab
