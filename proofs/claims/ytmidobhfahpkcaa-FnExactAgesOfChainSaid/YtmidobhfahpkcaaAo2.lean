/- AgesOfChain: both texts. -/
import Derived.Test.YtmidobhfahpkcaaAo1
set_option linter.unusedVariables false
set_option linter.unusedSimpArgs false
namespace Go.Proofs.Ytmidobhfahpkcaa
open Go.RowKit

theorem i64_nat (q : Nat) (h : q ≤ 1000) : IntKind.i64.wrap (q : Int) = (q : Int) := IntWalk.i64_in _ (by omega)
def aoOk (ds : List Dt) (s : Int) : Bool := chB ds && inB s 1 1000
def aoT (ds : List Dt) : Nat := smT (lcL ds) (ds.length + 1)
def aoB (ds : List Dt) (s : Int) : Bool := aoOk ds s && decide (s % (aoT ds : Int) = 0)
def aoR (ds : List Dt) (s : Int) : List Int := if aoB ds s = true then zc ((lcL ds).map (· * (s.toNat / aoT ds))) else []
theorem ao_no {ds : List Dt} {s : Int} (h : aoB ds s = false) : aoR ds s = [] := by simp [aoR, h]
theorem aoT_bd {ds : List Dt} (h : chB ds = true) : 1 ≤ aoT ds ∧ aoT ds ≤ 7000000000000 := by
  have h6 := chB_len h
  have hl := lcL_length ds
  have hb := lcL_bd h
  have h1 := smT_bd (l := lcL ds) (M := 1000000000000) (fun x hx => (hb x hx).2) (ds.length + 1) (by omega)
  have h2 : (ds.length + 1) * 1000000000000 ≤ 7 * 1000000000000 := Nat.mul_le_mul_right _ (by omega)
  have h3 := smT_succ (lcL ds) ds.length (by omega)
  have h4 := hb _ (getD_mem (l := lcL ds) (i := ds.length) (by omega))
  unfold aoT
  omega

theorem form_lc {B n : Nat} {w : World} {v : Value} {l : List Nat} (h : Own B w v (zc l)) (hl : l.length = n + 1) : ∃ g cp, v = .slice (some ⟨g, 0, none⟩) (n + 1) cp ∧ B ≤ g ∧ Own B w (.slice (some ⟨g, 0, none⟩) (n + 1) cp) (zc l) := by
  have hz : (zc l).length = n + 1 := by rw [zc_length, hl]
  rcases h.cases with ⟨_, h0⟩ | ⟨g, cp, rfl, hg, _⟩
  · rw [h0] at hz; simp at hz
  · rw [hz] at h ⊢
    exact ⟨g, cp, rfl, hg, h⟩

set_option maxHeartbeats 8000000 in
set_option maxRecDepth 100000 in
theorem specAo_any (b c n : Nat) (ds : List Dt) (s : Int) (w : World) (hl : ds.length = n) (hI : Dts w b 0 ds) (hbl : b < w.heap.size) :
    Calls Try.prog 47 #[.slice (some ⟨b, 0, none⟩) n c, .int .i64 s] w (RetOwnB (aoR ds s) (aoB ds s) w) := by
  have HA0 := raChain_any b 0 n c ds w hl hI hbl
  cases hc : chB ds with
  | false =>
    have hok : aoB ds s = false := by simp [aoB, aoOk, hc]
    rw [ao_no hok, hok]
    rw [hc] at HA0
    have HA := Lib.hid HA0
    clear HA0 hok hc
    go_enter Try.func47, Try.ntmps47
    go_wp2_with (first | (go_at_call 69; refine (HA.out).mono ?_; rintro e w1 ⟨rfl, hcall⟩; have hb1 : Below w.heap.size w w1 := hcall; have hd1 := hI.kept hcall hbl; have hl1 := Nat.lt_of_lt_of_le hbl hcall.size; clear hcall) | (go_at_call 56; first | (refine (l1In_t _ _ _ (by assumption) _).mono ?_; rintro e w' ⟨rfl, rfl⟩) | (refine (l1In_f _ _ _ (by assumption) _).mono ?_; rintro e w' ⟨rfl, rfl⟩)))
    go_ret2
    exact ⟨_, rfl, own_nil _ _, hb1⟩
  | true =>
  rw [hc] at HA0
  have HA := Lib.hid HA0
  clear HA0
  cases hs : inB s 1 1000 with
  | false =>
    have hok : aoB ds s = false := by simp [aoB, aoOk, hs]
    rw [ao_no hok, hok]
    clear hok hc
    go_enter Try.func47, Try.ntmps47
    go_wp2_with (first | (go_at_call 69; refine (HA.out).mono ?_; rintro e w1 ⟨rfl, hcall⟩; have hb1 : Below w.heap.size w w1 := hcall; have hd1 := hI.kept hcall hbl; have hl1 := Nat.lt_of_lt_of_le hbl hcall.size; clear hcall) | (go_at_call 56; first | (refine (l1In_t _ _ _ (by assumption) _).mono ?_; rintro e w' ⟨rfl, rfl⟩) | (refine (l1In_f _ _ _ (by assumption) _).mono ?_; rintro e w' ⟨rfl, rfl⟩)))
    go_ret2
    exact ⟨_, rfl, own_nil _ _, hb1⟩
  | true =>
    have hsb := inB_iff.1 hs
    obtain ⟨S, rfl⟩ : ∃ S : Nat, s = (S : Int) := ⟨s.toNat, by omega⟩
    have hT := aoT_bd hc
    have HC := Lib.hid hc
    have HL0 := Lib.hid hl
    have h7 : n + 1 ≤ 7 := by have := chB_len hc; omega
    have hB : aoB ds (S : Int) = decide ((S : Int) % (aoT ds : Int) = 0) := by simp [aoB, aoOk, hc, hs]
    have HRV : Hid (aoB ds (S : Int) = true → aoR ds (S : Int) = zc ((lcL ds).map (· * (S / aoT ds)))) := Lib.hid (fun h => by simp [aoR, h])
    have HTT : Hid (aoT ds = smT (lcL ds) (n + 1)) := Lib.hid (by rw [← hl]; rfl)
    have hlcl : (lcL ds).length = n + 1 := by rw [lcL_length, hl]
    have hlb := lcL_bd hc
    have HR := Lib.hid (fun (W : World) (h1 : Dts W b 0 ds) (h2 : b < W.heap.size) => raLeast_any b c n ds W hc hl h1 h2)
    have HSM := Lib.hid (fun (g cp : Nat) (W : World) (hI : Ints W g 0 (zc (lcL ds))) => agSumL_any g cp (n + 1) (lcL ds) W hlcl h7 (fun x hx => (hlb x hx).2) hI)
    rw [← HTT.out] at HSM
    clear hlb HTT
    generalize aoT ds = T at *
    have hT1 : ((T : Int) == 0) = false := beq_eq_false_iff_ne.2 (by omega)
    have hT2 : (1 : Int) ≤ (T : Int) := by omega
    clear hc hl
    cases hr : decide ((S : Int) % (T : Int) = 0) with
    | false =>
      rw [hr] at hB
      rw [ao_no hB, hB]
      have hr2 : ((S : Int) % (T : Int) != 0) = true := by rw [bne_iff_ne]; exact of_decide_eq_false hr
      clear hB hr
      go_enter Try.func47, Try.ntmps47
      go_wp2_with (first | (go_at_call 69; refine (HA.out).mono ?_; rintro e w1 ⟨rfl, hcall⟩; have hb1 : Below w.heap.size w w1 := hcall; have hd1 := hI.kept hcall hbl; have hl1 := Nat.lt_of_lt_of_le hbl hcall.size; clear hcall) | (go_at_call 56; first | (refine (l1In_t _ _ _ (by assumption) _).mono ?_; rintro e w' ⟨rfl, rfl⟩) | (refine (l1In_f _ _ _ (by assumption) _).mono ?_; rintro e w' ⟨rfl, rfl⟩)) | (go_at_call 70; refine (HR.out _ hd1 hl1).mono ?_; rintro e w2 ⟨v, rfl, ho, hcall⟩; have hb2 : Below w.heap.size w w2 := hb1.trans (hcall.mono hb1.size); have ho2 := Own.mono ho hb1.size; clear hcall ho; obtain ⟨g, cp, rfl, hgg, ho3⟩ := form_lc ho2 hlcl; have HI2 := Lib.hid (LsAt.mk ho3 hlcl hgg); clear ho2 ho3) | (go_at_call 73; refine (HSM.out _ _ _ HI2.out.own.shape.2.2.2.2.1).mono ?_; rintro e w3 ⟨rfl, hcall⟩; have hb3 : Below w.heap.size w w3 := hb2.trans (hcall.mono hb2.size); have HLs := Lib.hid (LsAt.kept HI2.out hcall); clear hcall))
      go_ret2
      exact ⟨_, rfl, own_nil _ _, by assumption⟩
    | true =>
      rw [hr] at hB
      rw [HRV.out hB, hB]
      have hr2 : ((S : Int) % (T : Int) != 0) = false := by rw [of_decide_eq_true hr]; rfl
      clear hB hr
      go_enter Try.func47, Try.ntmps47
      go_wp2_with (first | (go_at_call 69; refine (HA.out).mono ?_; rintro e w1 ⟨rfl, hcall⟩; have hb1 : Below w.heap.size w w1 := hcall; have hd1 := hI.kept hcall hbl; have hl1 := Nat.lt_of_lt_of_le hbl hcall.size; clear hcall) | (go_at_call 56; first | (refine (l1In_t _ _ _ (by assumption) _).mono ?_; rintro e w' ⟨rfl, rfl⟩) | (refine (l1In_f _ _ _ (by assumption) _).mono ?_; rintro e w' ⟨rfl, rfl⟩)) | (go_at_call 70; refine (HR.out _ hd1 hl1).mono ?_; rintro e w2 ⟨v, rfl, ho, hcall⟩; have hb2 : Below w.heap.size w w2 := hb1.trans (hcall.mono hb1.size); have ho2 := Own.mono ho hb1.size; clear hcall ho; obtain ⟨g, cp, rfl, hgg, ho3⟩ := form_lc ho2 hlcl; have HI2 := Lib.hid (LsAt.mk ho3 hlcl hgg); clear ho2 ho3) | (go_at_call 73; refine (HSM.out _ _ _ HI2.out.own.shape.2.2.2.2.1).mono ?_; rintro e w3 ⟨rfl, hcall⟩; have hb3 : Below w.heap.size w w3 := hb2.trans (hcall.mono hb2.size); have HLs := Lib.hid (LsAt.kept HI2.out hcall); clear hcall))
      have hlen := lcL_length ds
      rw [HL0.out] at hlen
      have HBD := Lib.hid (lcL_bd HC.out)
      go_loopw [27] (fun u w3 => ∃ i : Nat, i ≤ n + 1 ∧ u = .int .i64 i ∧ Hid (LsAt w.heap.size g cp n (mulTo (lcL ds) (S / T) i) w3) ∧ Below w.heap.size w w3) (fun u _ => n + 1 - (intOf u).toNat)
      case atStart => exact ⟨0, Nat.zero_le _, rfl, by rw [mulTo_zero]; exact HLs, by assumption⟩
      case round =>
        obtain ⟨i, hi', rfl, HL3, hb9⟩ := hrel
        by_cases hil : i < n + 1
        · have hx := HBD.out _ (getD_mem (l := lcL ds) (i := i) (by rw [hlen]; exact hil))
          have hcx := HL3.out.cell i hil
          have hfx := HL3.out.frz i
          rw [mulTo_at _ _ _ (by rw [hlen]; exact hil)] at hcx
          have HS := Lib.hid (LsAt.set HL3.out i ((lcL ds).getD i 0 * (S / T)))
          rw [mulTo_step _ _ _ (by rw [hlen]; exact hil)] at HS
          generalize (lcL ds).getD i 0 = x at hx hcx HS
          have hq := Nat.div_le_self S T
          have m1 : x * (S / T) ≤ 1000000000000 * 1000 := Nat.mul_le_mul (by omega) (by omega)
          have eq1 : ((S / T : Nat) : Int) = (S : Int) / (T : Int) := Int.natCast_ediv S T
          have em : (x : Int) * ((S : Int) / (T : Int)) = ((x * (S / T) : Nat) : Int) := by rw [← eq1]; simp
          rw [show ((x * (S / T) : Nat) : Int) = (x : Int) * ((S : Int) / (T : Int)) from em.symm] at HS
          have v0 : wrap64 ((S : Int) / (T : Int)) = (S : Int) / (T : Int) := (wrapN S T (by omega)).trans eq1
          have v1 : IntKind.i64.wrap ((x : Int) * ((S : Int) / (T : Int))) = (x : Int) * ((S : Int) / (T : Int)) := by rw [em]; exact IntWalk.i64_in _ (by omega)
          have v2 : wrap64 ((x : Int) * ((S : Int) / (T : Int))) = (x : Int) * ((S : Int) / (T : Int)) := by rw [em]; exact IntWalk.wrap64_in _ (by omega)
          have v3 : IntKind.i64.wrap ((S : Int).tdiv (T : Int)) = (S : Int) / (T : Int) := IntWalk.i64_quo _ _ (by omega)
          have v4 : IntKind.i64.wrap ((S : Int) / (T : Int)) = (S : Int) / (T : Int) := by rw [← eq1]; exact i64_nat _ (Nat.le_trans hq (by omega))
          have k7 : ¬ (T = 0) := by omega
          have k3 : (0 : Int) ≤ (i : Int) := by omega
          have k4 : (i : Int) < (n : Int) + 1 := by omega
          have k5 : (1 : Int) ≤ (T : Int) := by omega
          have k6 : ((T : Int) == 0) = false := beq_eq_false_iff_ne.2 (by omega)
          have hwg := HL3.out.ge
          clear m1 eq1 em hx hq
          go_wp2
          go_still_tail 9, (by kernel_rfl)
          change wpList _ _ _ _ _ wr.drew
          have hcx' : wr.drew.cell? ⟨g, i, none⟩ = some (.int .i64 (x : Int)) := hcx
          have hfx' : wr.drew.frozen? ⟨g, i, none⟩ = false := hfx
          clear hcx hfx
          go_wp2
          go_roundw
          case rel => exact ⟨i + 1, by omega, by go_num, Lib.hid (LsAt.drew HS.out), (hb9.setCell hwg _).drew⟩
          case measure => simp [intOf]; omega
        · have hik : i = n + 1 := by omega
          have hml : mulTo (lcL ds) (S / T) i = (lcL ds).map (· * (S / T)) := by rw [hik, ← hlen]; exact mulTo_all _ _
          rw [hml] at HL3
          clear hml hil
          go_wp2
          go_ret2
          exact ⟨_, rfl, HL3.out.own, hb9⟩

set_option maxHeartbeats 8000000 in
set_option maxRecDepth 100000 in
theorem ao_any (b c n : Nat) (ds : List Dt) (s : Int) (w : World) (hl : ds.length = n) (hI : Dts w b 0 ds) (hbl : b < w.heap.size) :
    Calls Try.prog 48 #[.slice (some ⟨b, 0, none⟩) n c, .int .i64 s] w (RetOwnB (aoR ds s) (aoB ds s) w) := by
  have HA0 := lc_any b c n ds w hl hI hbl
  cases hc : chB ds with
  | false =>
    have hok : aoB ds s = false := by simp [aoB, aoOk, hc]
    rw [ao_no hok, hok]
    rw [hc] at HA0
    have HA := Lib.hid HA0
    clear HA0 hok hc
    go_enter Try.func48, Try.ntmps48
    go_wp2_with (first | (go_at_call 43; refine (HA.out).mono ?_; rintro e w2 ⟨v, rfl, ho2, hcall⟩; have hb2 : Below w.heap.size w w2 := hcall; have hb1 := hb2; clear hcall; (first | (rw [show lcR ds = zc (lcL ds) by simp [lcR, HC.out]] at ho2; obtain ⟨g, cp, rfl, hgg, ho3⟩ := form_lc ho2 hlcl; have HI2 := Lib.hid (LsAt.mk ho3 hlcl hgg); clear ho2 ho3) | skip)) | (go_at_call 50; first | (refine (isWithin_t _ _ _ (by assumption) _).mono ?_; rintro e w' ⟨rfl, rfl⟩) | (refine (isWithin_f _ _ _ (by assumption) _).mono ?_; rintro e w' ⟨rfl, rfl⟩)))
    go_ret2
    exact ⟨_, rfl, own_nil _ _, hb1⟩
  | true =>
  rw [hc] at HA0
  have HA := Lib.hid HA0
  clear HA0
  cases hs : inB s 1 1000 with
  | false =>
    have hok : aoB ds s = false := by simp [aoB, aoOk, hs]
    rw [ao_no hok, hok]
    clear hok hc
    go_enter Try.func48, Try.ntmps48
    go_wp2_with (first | (go_at_call 43; refine (HA.out).mono ?_; rintro e w2 ⟨v, rfl, ho2, hcall⟩; have hb2 : Below w.heap.size w w2 := hcall; have hb1 := hb2; clear hcall; (first | (rw [show lcR ds = zc (lcL ds) by simp [lcR, HC.out]] at ho2; obtain ⟨g, cp, rfl, hgg, ho3⟩ := form_lc ho2 hlcl; have HI2 := Lib.hid (LsAt.mk ho3 hlcl hgg); clear ho2 ho3) | skip)) | (go_at_call 50; first | (refine (isWithin_t _ _ _ (by assumption) _).mono ?_; rintro e w' ⟨rfl, rfl⟩) | (refine (isWithin_f _ _ _ (by assumption) _).mono ?_; rintro e w' ⟨rfl, rfl⟩)))
    go_ret2
    exact ⟨_, rfl, own_nil _ _, hb1⟩
  | true =>
    have hsb := inB_iff.1 hs
    obtain ⟨S, rfl⟩ : ∃ S : Nat, s = (S : Int) := ⟨s.toNat, by omega⟩
    have hT := aoT_bd hc
    have HC := Lib.hid hc
    have HL0 := Lib.hid hl
    have h7 : n + 1 ≤ 7 := by have := chB_len hc; omega
    have hB : aoB ds (S : Int) = decide ((S : Int) % (aoT ds : Int) = 0) := by simp [aoB, aoOk, hc, hs]
    have HRV : Hid (aoB ds (S : Int) = true → aoR ds (S : Int) = zc ((lcL ds).map (· * (S / aoT ds)))) := Lib.hid (fun h => by simp [aoR, h])
    have HTT : Hid (aoT ds = smT (lcL ds) (n + 1)) := Lib.hid (by rw [← hl]; rfl)
    have hlcl : (lcL ds).length = n + 1 := by rw [lcL_length, hl]
    have hlb := lcL_bd hc
    have HSM := Lib.hid (fun (g cp : Nat) (W : World) (hI : Ints W g 0 (zc (lcL ds))) => sumOvL_any g cp (n + 1) (lcL ds) W hlcl h7 (fun x hx => (hlb x hx).2) hI)
    rw [← HTT.out] at HSM
    clear hlb HTT
    generalize aoT ds = T at *
    have hT1 : ((T : Int) == 0) = false := beq_eq_false_iff_ne.2 (by omega)
    have hT2 : (1 : Int) ≤ (T : Int) := by omega
    clear hc hl
    cases hr : decide ((S : Int) % (T : Int) = 0) with
    | false =>
      rw [hr] at hB
      rw [ao_no hB, hB]
      have hr2 : ((S : Int) % (T : Int) != 0) = true := by rw [bne_iff_ne]; exact of_decide_eq_false hr
      clear hB hr
      go_enter Try.func48, Try.ntmps48
      go_wp2_with (first | (go_at_call 43; refine (HA.out).mono ?_; rintro e w2 ⟨v, rfl, ho2, hcall⟩; have hb2 : Below w.heap.size w w2 := hcall; have hb1 := hb2; clear hcall; (first | (rw [show lcR ds = zc (lcL ds) by simp [lcR, HC.out]] at ho2; obtain ⟨g, cp, rfl, hgg, ho3⟩ := form_lc ho2 hlcl; have HI2 := Lib.hid (LsAt.mk ho3 hlcl hgg); clear ho2 ho3) | skip)) | (go_at_call 50; first | (refine (isWithin_t _ _ _ (by assumption) _).mono ?_; rintro e w' ⟨rfl, rfl⟩) | (refine (isWithin_f _ _ _ (by assumption) _).mono ?_; rintro e w' ⟨rfl, rfl⟩))  | (go_at_call 74; refine (HSM.out _ _ _ HI2.out.own.shape.2.2.2.2.1).mono ?_; rintro e w3 ⟨rfl, hcall⟩; have hb3 : Below w.heap.size w w3 := hb2.trans (hcall.mono hb2.size); have HLs := Lib.hid (LsAt.kept HI2.out hcall); clear hcall))
      go_ret2
      exact ⟨_, rfl, own_nil _ _, by assumption⟩
    | true =>
      rw [hr] at hB
      rw [HRV.out hB, hB]
      have hr2 : ((S : Int) % (T : Int) != 0) = false := by rw [of_decide_eq_true hr]; rfl
      clear hB hr
      go_enter Try.func48, Try.ntmps48
      go_wp2_with (first | (go_at_call 43; refine (HA.out).mono ?_; rintro e w2 ⟨v, rfl, ho2, hcall⟩; have hb2 : Below w.heap.size w w2 := hcall; have hb1 := hb2; clear hcall; (first | (rw [show lcR ds = zc (lcL ds) by simp [lcR, HC.out]] at ho2; obtain ⟨g, cp, rfl, hgg, ho3⟩ := form_lc ho2 hlcl; have HI2 := Lib.hid (LsAt.mk ho3 hlcl hgg); clear ho2 ho3) | skip)) | (go_at_call 50; first | (refine (isWithin_t _ _ _ (by assumption) _).mono ?_; rintro e w' ⟨rfl, rfl⟩) | (refine (isWithin_f _ _ _ (by assumption) _).mono ?_; rintro e w' ⟨rfl, rfl⟩))  | (go_at_call 74; refine (HSM.out _ _ _ HI2.out.own.shape.2.2.2.2.1).mono ?_; rintro e w3 ⟨rfl, hcall⟩; have hb3 : Below w.heap.size w w3 := hb2.trans (hcall.mono hb2.size); have HLs := Lib.hid (LsAt.kept HI2.out hcall); clear hcall))
      have hlen := lcL_length ds
      rw [HL0.out] at hlen
      have HBD := Lib.hid (lcL_bd HC.out)
      go_loopw [30] (fun u w3 => ∃ i : Nat, i ≤ n + 1 ∧ u = .int .i64 i ∧ Hid (LsAt w.heap.size g cp n (mulTo (lcL ds) (S / T) i) w3) ∧ Below w.heap.size w w3) (fun u _ => n + 1 - (intOf u).toNat)
      case atStart => exact ⟨0, Nat.zero_le _, rfl, by rw [mulTo_zero]; exact HLs, by assumption⟩
      case round =>
        obtain ⟨i, hi', rfl, HL3, hb9⟩ := hrel
        by_cases hil : i < n + 1
        · have hx := HBD.out _ (getD_mem (l := lcL ds) (i := i) (by rw [hlen]; exact hil))
          have hcx := HL3.out.cell i hil
          have hfx := HL3.out.frz i
          rw [mulTo_at _ _ _ (by rw [hlen]; exact hil)] at hcx
          have HS := Lib.hid (LsAt.set HL3.out i ((lcL ds).getD i 0 * (S / T)))
          rw [mulTo_step _ _ _ (by rw [hlen]; exact hil)] at HS
          generalize (lcL ds).getD i 0 = x at hx hcx HS
          have hq := Nat.div_le_self S T
          have m1 : x * (S / T) ≤ 1000000000000 * 1000 := Nat.mul_le_mul (by omega) (by omega)
          have eq1 : ((S / T : Nat) : Int) = (S : Int) / (T : Int) := Int.natCast_ediv S T
          have em : (x : Int) * ((S : Int) / (T : Int)) = ((x * (S / T) : Nat) : Int) := by rw [← eq1]; simp
          rw [show ((x * (S / T) : Nat) : Int) = (x : Int) * ((S : Int) / (T : Int)) from em.symm] at HS
          have v0 : wrap64 ((S : Int) / (T : Int)) = (S : Int) / (T : Int) := (wrapN S T (by omega)).trans eq1
          have v1 : IntKind.i64.wrap ((x : Int) * ((S : Int) / (T : Int))) = (x : Int) * ((S : Int) / (T : Int)) := by rw [em]; exact IntWalk.i64_in _ (by omega)
          have v2 : wrap64 ((x : Int) * ((S : Int) / (T : Int))) = (x : Int) * ((S : Int) / (T : Int)) := by rw [em]; exact IntWalk.wrap64_in _ (by omega)
          have v3 : IntKind.i64.wrap ((S : Int).tdiv (T : Int)) = (S : Int) / (T : Int) := IntWalk.i64_quo _ _ (by omega)
          have v4 : IntKind.i64.wrap ((S : Int) / (T : Int)) = (S : Int) / (T : Int) := by rw [← eq1]; exact i64_nat _ (Nat.le_trans hq (by omega))
          have k7 : ¬ (T = 0) := by omega
          have k3 : (0 : Int) ≤ (i : Int) := by omega
          have k4 : (i : Int) < (n : Int) + 1 := by omega
          have k5 : (1 : Int) ≤ (T : Int) := by omega
          have k6 : ((T : Int) == 0) = false := beq_eq_false_iff_ne.2 (by omega)
          have hwg := HL3.out.ge
          clear m1 eq1 em hx hq
          go_wp2
          go_still_tail 9, (by kernel_rfl)
          change wpList _ _ _ _ _ wr.drew
          have hcx' : wr.drew.cell? ⟨g, i, none⟩ = some (.int .i64 (x : Int)) := hcx
          have hfx' : wr.drew.frozen? ⟨g, i, none⟩ = false := hfx
          clear hcx hfx
          go_wp2
          go_roundw
          case rel => exact ⟨i + 1, by omega, by go_num, Lib.hid (LsAt.drew HS.out), (hb9.setCell hwg _).drew⟩
          case measure => simp [intOf]; omega
        · have hik : i = n + 1 := by omega
          have hml : mulTo (lcL ds) (S / T) i = (lcL ds).map (· * (S / T)) := by rw [hik, ← hlen]; exact mulTo_all _ _
          rw [hml] at HL3
          clear hml hil
          go_wp2
          go_ret2
          exact ⟨_, rfl, HL3.out.own, hb9⟩
theorem ao_both (ds : List Dt) (s : Int) : ∃ (rs : List Int) (ok : Bool), rs.length ≤ 1048576 ∧ (∀ b c w, ds.length ≤ 1048576 → b < w.heap.size → Dts w b 0 ds → Calls Try.prog 47 #[.slice (some ⟨b, 0, none⟩) ds.length c, .int .i64 s] w (RetOwnB rs ok w)) ∧ ∀ b c w, ds.length ≤ 1048576 → b < w.heap.size → Dts w b 0 ds → Calls Try.prog 48 #[.slice (some ⟨b, 0, none⟩) ds.length c, .int .i64 s] w (RetOwnB rs ok w) := by
  refine ⟨_, _, ?_, fun b c w _ hb hI => specAo_any b c _ ds s w rfl hI hb, fun b c w _ hb hI => ao_any b c _ ds s w rfl hI hb⟩
  unfold aoR
  split
  · next h =>
    unfold aoB aoOk at h
    rw [Bool.and_eq_true, Bool.and_eq_true] at h
    have := chB_len h.1.1
    rw [zc_length, List.length_map, lcL_length]
    omega
  · simp
end Go.Proofs.Ytmidobhfahpkcaa
