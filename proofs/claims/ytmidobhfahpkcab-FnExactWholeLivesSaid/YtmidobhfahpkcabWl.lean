/- WholeLives: both texts. -/
import Derived.Test.YtmidobhfahpkcabLo
import Derived.Test.YtmidobhfahpkcabYtfWl
set_option linter.unusedVariables false
set_option linter.unusedSimpArgs false
namespace Go.Proofs.Ytmidobhfahpkcab
open Go.RowKit

def wlT (y : Int) (r : Dt) : Bool := decide (y * r.1 % r.2 = 0)
def wlP (ds : List Dt) (y : Int) : Bool := ds.all (wlT y)
def wlK (ds : List Dt) (y : Int) (k : Nat) : Bool := (ds.take k).all (wlT y)
theorem wlK_zero (ds : List Dt) (y : Int) : wlK ds y 0 = true := rfl
theorem wlK_succ (ds : List Dt) (y : Int) (k : Nat) (h : k < ds.length) : wlK ds y (k + 1) = (wlK ds y k && wlT y (at2 ds k)) := by
  unfold wlK
  rw [List.take_succ_eq_append_getElem h, List.all_append]
  simp [at2, List.getElem?_eq_getElem h]
theorem wlK_all (ds : List Dt) (y : Int) : wlK ds y ds.length = wlP ds y := by simp [wlK, wlP]
theorem wlP_no {ds : List Dt} {y : Int} (k : Nat) (h : k < ds.length) (ht : wlT y (at2 ds k) = false) : wlP ds y = false := all_not k h ht

set_option maxHeartbeats 4000000 in
set_option maxRecDepth 100000 in
theorem wholeParts_any (b c n : Nat) (ds : List Dt) (y : Int) (w : World) (hc : chB ds = true) (hl : ds.length = n) (hy : 1 ≤ y ∧ y ≤ 200) (hI : Dts w b 0 ds) (hbl : b < w.heap.size) :
    Calls Try.prog 36 #[.slice (some ⟨b, 0, none⟩) n c, .int .i64 y] w (Ret (.bool (wlP ds y)) w) := by
  have HC := Lib.hid hc
  have HL0 := Lib.hid hl
  have h6 : n ≤ 6 := by have := chB_len hc; omega
  clear hc hl
  go_enter Try.func36, Try.ntmps36
  go_wp2
  go_loopw [9] (fun i wr => ∃ k : Nat, k ≤ n ∧ i = .int .i64 k ∧ Hid (wlK ds y k = true) ∧ Below w.heap.size w wr) (fun i _ => n - (intOf i).toNat)
  case atStart => exact ⟨0, Nat.zero_le _, rfl, Lib.hid rfl, Below.refl _ _⟩
  case round =>
      obtain ⟨k, hk, rfl, HK, hb⟩ := hrel
      have hsz := hb.size
      by_cases hlt : k < n
      · obtain ⟨p1, p2⟩ := (hI.kept hb hbl) k (by rw [HL0.out]; exact hlt)
        obtain ⟨ha, hd⟩ := ratB_iff.1 (chB_at HC.out k (by rw [HL0.out]; exact hlt))
        rw [Nat.zero_add] at p1 p2
        have HS := Lib.hid (wlK_succ ds y k (by rw [HL0.out]; exact hlt))
        have HN := Lib.hid (fun h => wlP_no (ds := ds) (y := y) k (by rw [HL0.out]; exact hlt) h)
        have HT : Hid (wlT y (at2 ds k) = decide (y * (at2 ds k).1 % (at2 ds k).2 = 0)) := Lib.hid rfl
        cases ht : wlT y (at2 ds k) with
        | true =>
          have hr : y * (at2 ds k).1 % (at2 ds k).2 = 0 := of_decide_eq_true (HT.out.symm.trans ht)
          have HS2 : Hid (wlK ds y (k + 1) = true) := Lib.hid (by rw [HS.out, HK.out, ht]; rfl)
          clear ht
          generalize (at2 ds k).1 = a at *
          generalize (at2 ds k).2 = d at *
          have m1 := mul_bdL (x := y) (y := a) (X := 200) (Y := 100) (by omega) (by omega)
          have r1 : (y * a % d != 0) = false := by rw [hr]; rfl
          have r2 : (d == 0) = false := beq_eq_false_iff_ne.2 (by omega)
          go_wp2
          go_roundw
          case rel => exact ⟨k + 1, by omega, by go_num, HS2, hb.alloc hsz _⟩
          case measure => simp [intOf]; omega
        | false =>
          have hr : ¬ y * (at2 ds k).1 % (at2 ds k).2 = 0 := of_decide_eq_false (HT.out.symm.trans ht)
          have hno := HN.out ht
          rw [hno]
          clear ht hno
          generalize (at2 ds k).1 = a at *
          generalize (at2 ds k).2 = d at *
          have m1 := mul_bdL (x := y) (y := a) (X := 200) (Y := 100) (by omega) (by omega)
          have r1 : (y * a % d != 0) = true := by rw [bne_iff_ne]; exact hr
          have r2 : (d == 0) = false := beq_eq_false_iff_ne.2 (by omega)
          go_wp2
          go_ret
          exact ⟨rfl, hb.alloc hsz _⟩
      · have hkn : k = n := by omega
        have HF : Hid (wlP ds y = true) := Lib.hid (by rw [← wlK_all, HL0.out, ← hkn]; exact HK.out)
        clear hkn
        go_wp2
        go_ret
        rw [HF.out]
        exact ⟨rfl, hb⟩

def wvL (ds : List Dt) : List Int := if lifeB ds = true then yF (wlP ds) 1 200 else []
set_option maxHeartbeats 8000000 in
set_option maxRecDepth 100000 in
theorem specWl_any (b c n : Nat) (ds : List Dt) (w : World) (hl : ds.length = n) (hI : Dts w b 0 ds) (hbl : b < w.heap.size) :
    Calls Try.prog 15 #[.slice (some ⟨b, 0, none⟩) n c] w (RetOwnB (wvL ds) (lifeB ds) w) := by
  have HA0 := raLife_any b c n ds w hl hI hbl
  cases h1 : lifeB ds with
  | false =>
    rw [show wvL ds = [] by simp [wvL, h1]]
    rw [h1] at HA0
    have HA := Lib.hid HA0
    clear HA0 h1
    go_enter Try.func15, Try.ntmps15
    go_wp2_with (first | (go_at_call 25; refine (HA.out).mono ?_; rintro e w1 ⟨rfl, hcall⟩; have hb1 : Below w.heap.size w w1 := hcall; clear hcall))
    go_ret2
    exact ⟨_, rfl, own_nil _ _, hb1⟩
  | true =>
    rw [show wvL ds = yF (wlP ds) 1 200 by simp [wvL, h1]]
    rw [h1] at HA0
    have HA := Lib.hid HA0
    have hc : chB ds = true := by have := h1; unfold lifeB at this; rw [Bool.and_eq_true] at this; exact this.1
    have HC := Lib.hid hc
    have HL0 := Lib.hid hl
    have h6 : n ≤ 6 := by have := chB_len hc; omega
    clear HA0 h1 hc hl
    obtain ⟨i0, hi, hz0, hz1, hz2⟩ := info_parts infoInt
    go_enter Try.func15, Try.ntmps15
    go_wp2_with (first | (go_at_call 25; refine (HA.out).mono ?_; rintro e w1 ⟨rfl, hcall⟩; have hb1 : Below w.heap.size w w1 := hcall; clear hcall))
    go_loopw [4, 5] (fun v u wr => ∃ m : Nat, m ≤ 200 ∧ u = .int .i64 ((m : Int) + 1) ∧ Own w.heap.size wr v (yF (wlP ds) 1 m) ∧ Below w.heap.size w wr) (fun _ u _ => (201 - intOf u).toNat)
    case atStart => exact ⟨0, Nat.zero_le _, rfl, own_nil _ _, hb1⟩
    case round =>
      obtain ⟨m, hm, rfl, ho, hbr⟩ := hrel
      by_cases hmt : m < 200
      · have hlen := yF_length (wlP ds) 1 m
        have hy : 1 ≤ (m : Int) + 1 ∧ (m : Int) + 1 ≤ 200 := by omega
        have HM : Hid ((1 : Int) + (m : Int) = (m : Int) + 1) := Lib.hid (by omega)
        have HO := Lib.hid ho
        clear ho
        go_wp2
        go_loopw [6, 18] (fun q i wr2 => ∃ k : Nat, k ≤ n ∧ i = .int .i64 k ∧ q = .bool (wlK ds ((m : Int) + 1) k) ∧ Hid (Own w.heap.size wr2 u4 (yF (wlP ds) 1 m)) ∧ Below w.heap.size w wr2) (fun _ i _ => n - (intOf i).toNat)
        case atStart => exact ⟨0, Nat.zero_le _, rfl, rfl, HO, hbr⟩
        case round =>
          obtain ⟨k, hk, rfl, rfl, HO2, hb⟩ := hrel
          have hsz := hb.size
          by_cases hlt : k < n
          · obtain ⟨p1, p2⟩ := (hI.kept hb hbl) k (by rw [HL0.out]; exact hlt)
            obtain ⟨ha, hd⟩ := ratB_iff.1 (chB_at HC.out k (by rw [HL0.out]; exact hlt))
            rw [Nat.zero_add] at p1 p2
            have HS := Lib.hid (wlK_succ ds ((m : Int) + 1) k (by rw [HL0.out]; exact hlt))
            have HT : Hid (wlT ((m : Int) + 1) (at2 ds k) = decide (((m : Int) + 1) * (at2 ds k).1 % (at2 ds k).2 = 0)) := Lib.hid rfl
            have HO3 := Lib.hid (fun o => World.ownsRow.alloc HO2.out o)
            cases hkk : wlK ds ((m : Int) + 1) k with
            | false =>
              rw [hkk, Bool.false_and] at HS
              generalize (at2 ds k).1 = a at *
              generalize (at2 ds k).2 = d at *
              go_wp2
              go_roundw
              case rel => exact ⟨k + 1, by omega, by go_num, by rw [HS.out], Lib.hid (HO3.out _), hb.alloc hsz _⟩
              case measure => simp [intOf]; omega
            | true =>
              rw [hkk, Bool.true_and] at HS
              cases ht : wlT ((m : Int) + 1) (at2 ds k) with
              | true =>
                rw [ht] at HS
                have hr : ((m : Int) + 1) * (at2 ds k).1 % (at2 ds k).2 = 0 := of_decide_eq_true (HT.out.symm.trans ht)
                clear ht
                generalize (at2 ds k).1 = a at *
                generalize (at2 ds k).2 = d at *
                have m1 := mul_bdL (x := (m : Int) + 1) (y := a) (X := 200) (Y := 100) (by omega) (by omega)
                have r1 : (((m : Int) + 1) * a % d == 0) = true := by rw [hr]; rfl
                have r2 : (d == 0) = false := beq_eq_false_iff_ne.2 (by omega)
                go_wp2
                go_roundw
                case rel => exact ⟨k + 1, by omega, by go_num, by rw [HS.out], Lib.hid (HO3.out _), hb.alloc hsz _⟩
                case measure => simp [intOf]; omega
              | false =>
                rw [ht] at HS
                have hr : ¬ ((m : Int) + 1) * (at2 ds k).1 % (at2 ds k).2 = 0 := of_decide_eq_false (HT.out.symm.trans ht)
                clear ht
                generalize (at2 ds k).1 = a at *
                generalize (at2 ds k).2 = d at *
                have m1 := mul_bdL (x := (m : Int) + 1) (y := a) (X := 200) (Y := 100) (by omega) (by omega)
                have r1 : (((m : Int) + 1) * a % d == 0) = false := beq_eq_false_iff_ne.2 hr
                have r2 : (d == 0) = false := beq_eq_false_iff_ne.2 (by omega)
                go_wp2
                go_roundw
                case rel => exact ⟨k + 1, by omega, by go_num, by rw [HS.out], Lib.hid (HO3.out _), hb.alloc hsz _⟩
                case measure => simp [intOf]; omega
          · have hkn : k = n := by omega
            have HF : Hid (wlK ds ((m : Int) + 1) k = wlP ds ((m : Int) + 1)) := Lib.hid (by rw [← wlK_all, HL0.out, ← hkn])
            have ho := HO2.out
            cases ht : wlK ds ((m : Int) + 1) k with
            | true =>
              have HS := Lib.hid (yF_yes (p := wlP ds) (a := 1) (n := m) (by rw [HM.out, ← HF.out]; exact ht))
              rw [HM.out] at HS
              clear hkn
              go_wp2_with (first | (at_builtin; refine wpList_append_own _ rfl _ _ 32 rfl w.heap.size 3 i0 (.int .i64 0) 1 8 Try.underlying32 hi hz0 hz1 hz2 rfl (by decide) _ _ _ rfl (World.ownsRow.alloc ho _) ⟨wr.heap.size, 0, none⟩ 1 1 [.int .i64 ((m : Int) + 1)] rfl rfl (newCell _ _ _) (oneInt _) ?c3 ?c4 ?c5 ?_))
              case c3 => unfold maxLen; omega
              case c4 => omega
              case c5 => simp; omega
              intro v' w4 hown' hgrow _
              have hb4 := below_push hb ho hgrow
              have ho4 := own_push hown'
              rw [← HS.out] at ho4
              clear hown' hgrow
              go_wp2
              go_roundw
              case rel => exact ⟨m + 1, by omega, by go_num, ho4, hb4⟩
              case measure => simp [intOf]; omega
            | false =>
              have HS := Lib.hid (yF_no (p := wlP ds) (a := 1) (n := m) (by rw [HM.out, ← HF.out]; exact ht))
              clear hkn
              go_wp2
              go_roundw
              case rel => exact ⟨m + 1, by omega, by go_num, by rw [HS.out]; exact ho, hb⟩
              case measure => simp [intOf]; omega
      · have hkn : m = 200 := by omega
        subst hkn
        go_wp2
        go_ret2
        exact ⟨_, rfl, ho, hbr⟩
end Go.Proofs.Ytmidobhfahpkcab
