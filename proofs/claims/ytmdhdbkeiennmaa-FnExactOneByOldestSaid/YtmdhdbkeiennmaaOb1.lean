/- OneByOldest: both texts. -/
import Derived.Test.YtmdhdbkeiennmaaToO3
import Derived.Test.YtmdhdbkeiennmaaMs1
set_option linter.unusedVariables false
set_option linter.unusedSimpArgs false
namespace Go.Proofs.Ytmdhdbkeiennmaa
open Go.RowKit

/-- Of the first k numbers from F on, those with q. -/
def oneTo (q : Int → Bool) (F : Int) : Nat → List Int
  | 0 => []
  | k + 1 => if q (F + k) = true then oneTo q F k ++ [F + k] else oneTo q F k
theorem oneTo_yes {q : Int → Bool} {F : Int} {k : Nat} (h : q (F + k) = true) : oneTo q F (k + 1) = oneTo q F k ++ [F + k] := if_pos h
theorem oneTo_no {q : Int → Bool} {F : Int} {k : Nat} (h : q (F + k) = false) : oneTo q F (k + 1) = oneTo q F k := if_neg (by rw [h]; simp)
theorem oneTo_len (q : Int → Bool) (F : Int) : ∀ k, (oneTo q F k).length ≤ k := by
  intro k
  induction k with
  | zero => simp [oneTo]
  | succ k ih =>
    cases h : q (F + k) with
    | true => rw [oneTo_yes h, List.length_append]; simp; omega
    | false => rw [oneTo_no h]; omega
def tlO (n : Nat) (P : Int) : Int := (((setsP n P).filter (toldO (setsP n P))).length : Nat)
def oneQ (n : Nat) (P : Int) : Bool := tlO n P == 1
theorem tl_q (n : Nat) (P : Int) : (tlO n P == 1) = oneQ n P := rfl
theorem prodOk_of {n : Nat} {P : Int} (h1 : 1 ≤ n) (hn : n ≤ 4) (hP : 1 ≤ P ∧ P ≤ 160000) : prodOk n P = true := by
  unfold prodOk; rw [Bool.and_eq_true, inB_iff, inB_iff]; omega
set_option maxHeartbeats 4000000 in
set_option maxRecDepth 100000 in
theorem spOne_yes (n : Nat) (F T : Int) (w : World) (h : rangeB n F T = true) :
    Calls Try.prog 35 #[.int .i64 n, .int .i64 F, .int .i64 T] w (RetOwnB (oneTo (oneQ n) F (T - F + 1).toNat) true w) := by
  obtain ⟨i0, hi, hz0, hz1, hz2⟩ := info_parts infoInt
  have h' := h
  unfold rangeB at h'
  have H1 := Lib.hid (fun W => siRange_any n F T W)
  rw [h] at H1
  rw [Bool.and_eq_true, Bool.and_eq_true, Bool.and_eq_true, inB_iff, inB_iff, inB_iff, inB_iff] at h'
  obtain ⟨b0, b1, b2, b3, b4⟩ := h'
  have HR := Lib.hid (fun (P : Int) (hP : 1 ≤ P ∧ P ≤ 160000) (W : World) => siSets_any n P W (by omega) (by omega) hP)
  have HW := Lib.hid (fun (P : Int) (hP : 1 ≤ P ∧ P ≤ 160000) (B U : Nat) (v : Value) (vs : List Value) (W : World) (hO : OwnSS B U W v vs (setsP n P)) (hB : B ≤ U) (hU : U ≤ W.heap.size) => (((toldOPick n P (prodOk_of (by omega) (by omega) hP)).2 B U v vs W hO hB hU).mono (fun e W' h => (show ∃ a L c, e = .returned (.slice a L c) ∧ (L : Int) = tlO n P ∧ Below W.heap.size W W' from by
    obtain ⟨v, vs, rfl, ho, hb⟩ := h
    obtain ⟨a, c, rfl⟩ := ownSS_lit ho
    exact ⟨a, _, c, rfl, rfl, hb⟩))))
  have HQ := Lib.hid (fun x => tl_q n x)
  have HYs := Lib.hid (fun k h => oneTo_yes (q := oneQ n) (F := F) (k := k) h)
  have HNo := Lib.hid (fun k h => oneTo_no (q := oneQ n) (F := F) (k := k) h)
  have HOl := Lib.hid (fun k => oneTo_len (oneQ n) F k)
  have HZ := Lib.hid (show oneTo (oneQ n) F 0 = [] from rfl)
  clear h
  generalize oneQ n = q at HQ HYs HNo HOl HZ ⊢
  generalize tlO n = tl at HQ HW
  go_enter Try.func35, Try.ntmps35
  go_wp2_with (first | (go_at_call 60; refine (H1.out _).mono ?_; rintro e w' ⟨rfl, rfl⟩))
  go_loopw [8, 9] (fun u t wr => ∃ (k : Nat) (p : Int), (k : Int) ≤ T - F + 1 ∧ p = F + k ∧ t = .int .i64 p ∧ Hid (Own w.heap.size wr u (oneTo q F k)) ∧ Below w.heap.size w wr) (fun _ t _ => (T + 1 - intOf t).toNat)
  case atStart => exact ⟨0, F, by omega, by omega, rfl, Lib.hid (by rw [HZ.out]; exact own_nil _ _), Below.refl _ _⟩
  case round =>
    obtain ⟨k, p, hk, hp, rfl, HO, hb⟩ := hrel
    have HPk := Lib.hid hp
    have hpF : F ≤ p := by omega
    have hk2 : (k : Int) = p - F := by omega
    have HK2 := Lib.hid hk2
    have hkl : k ≤ 1001 := by omega
    have hsz := hb.size
    have hol := HOl.out k
    by_cases hle : p ≤ T
    · have hp1 : 1 ≤ p ∧ p ≤ 160000 := by omega
      have HR' := Lib.hid (HR.out p hp1 wr)
      have HW' := Lib.hid (HW.out p hp1)
      clear hp1
      generalize setsP n p = rss at HR' HW'
      have HSy := Lib.hid (fun h => HYs.out k h)
      have HSn := Lib.hid (fun h => HNo.out k h)
      rw [← hp] at HSy HSn
      clear hp hk2 hk
      have hqp := HQ.out p
      generalize tl p = c at HW' hqp
      cases hq : q p with
      | true =>
        rw [hq] at hqp
        have HS2 := Lib.hid (HSy.out hq)
        have ho := HO.out
        clear HSy HSn hq HO
        go_wp2_with (first | (go_at_call 40; refine HR'.out.mono ?_; rintro e wy ⟨v, vs, rfl, hss, hbv⟩) | (go_at_call 56; refine (HW'.out _ _ _ _ _ hss hbv.size (Nat.le_refl _)).mono ?_; rintro e wz ⟨a, L, c2, rfl, rfl, hbu⟩; have hcall := hbv.trans (hbu.mono hbv.size); have hszz := hcall.size) | (at_builtin; refine wpList_append_own _ rfl _ _ 30 rfl w.heap.size 3 i0 (.int .i64 0) 1 8 Try.underlying30 hi hz0 hz1 hz2 rfl (by decide) _ _ _ rfl (World.ownsRow.alloc (ho.kept hcall) _) ⟨wz.heap.size, 0, none⟩ 1 1 [.int .i64 p] rfl rfl (newCell _ _ _) (oneInt _) ?c3 ?c4 ?c5 ?_))
        case c3 => unfold maxLen; omega
        case c4 => omega
        case c5 => simp; omega
        intro v' w2 hown' hgrow _
        have hbz := hb.trans (hcall.mono hsz)
        have hb2 := below_push hbz (ho.kept hcall) hgrow
        have HO2 := Lib.hid (own_push hown')
        rw [← HS2.out] at HO2
        clear hown' hgrow ho
        go_wp2
        go_roundw
        case rel => exact ⟨k + 1, p + 1, by have := HK2.out; omega, by have := HPk.out; omega, by go_num, HO2, hb2⟩
        case measure => simp [intOf]; omega
      | false =>
        rw [hq] at hqp
        have HS2 := Lib.hid (HSn.out hq)
        have HO2 : Hid (Own w.heap.size wr _ (oneTo q F (k + 1))) := Lib.hid (by rw [HS2.out]; exact HO.out)
        clear HSy HSn hq HO
        go_wp2_with (first | (go_at_call 40; refine HR'.out.mono ?_; rintro e wy ⟨v, vs, rfl, hss, hbv⟩) | (go_at_call 56; refine (HW'.out _ _ _ _ _ hss hbv.size (Nat.le_refl _)).mono ?_; rintro e wz ⟨a, L, c2, rfl, rfl, hbu⟩; have hcall := hbv.trans (hbu.mono hbv.size); have hszz := hcall.size))
        have HO3 := Lib.hid (HO2.out.kept hcall)
        clear HO2
        go_roundw
        case rel => exact ⟨k + 1, p + 1, by have := HK2.out; omega, by have := HPk.out; omega, by go_num, HO3, hb.trans (hcall.mono hsz)⟩
        case measure => simp [intOf]; omega
    · have HE : Hid (oneTo q F (T - F + 1).toNat = oneTo q F k) := Lib.hid (by rw [show (T - F + 1).toNat = k by omega])
      clear hp hk2 hk
      go_wp2
      go_ret2
      exact ⟨_, rfl, by rw [HE.out]; exact HO.out, hb⟩
set_option maxHeartbeats 4000000 in
set_option maxRecDepth 100000 in
theorem imOne_yes (n : Nat) (F T : Int) (w : World) (h : rangeB n F T = true) :
    Calls Try.prog 36 #[.int .i64 n, .int .i64 F, .int .i64 T] w (RetOwnB (oneTo (oneQ n) F (T - F + 1).toNat) true w) := by
  obtain ⟨i0, hi, hz0, hz1, hz2⟩ := info_parts infoInt
  have h' := h
  unfold rangeB at h'
  rw [Bool.and_eq_true] at h'
  have H1 := Lib.hid (fun W => areChildren_any n W)
  have H2 := Lib.hid (fun W => between_any F T W)
  rw [h'.1] at H1
  rw [h'.2] at H2
  rw [Bool.and_eq_true, Bool.and_eq_true, inB_iff, inB_iff, inB_iff, inB_iff] at h'
  obtain ⟨b1, b2, b3, b4⟩ := h'
  have HC := Lib.hid (fun (P : Int) (hP : 1 ≤ P ∧ P ≤ 160000) (W : World) => ((imToldO_of n P (setsP n P) true (famA_setsP P (by omega) (by omega)) W (fun W2 => imSetsOf_yes n P W2 (prodOk_of (by omega) (by omega) hP))).mono (fun e W' h => (show ∃ a L c, e = .returned (.tuple #[.slice a L c, .bool true]) ∧ (L : Int) = tlO n P ∧ Below W.heap.size W W' from by
    obtain ⟨v, vs, rfl, ho, hb⟩ := h
    obtain ⟨a, c, rfl⟩ := ownSS_lit ho
    exact ⟨a, _, c, rfl, rfl, hb⟩))))
  have HQ := Lib.hid (fun x => tl_q n x)
  have HYs := Lib.hid (fun k h => oneTo_yes (q := oneQ n) (F := F) (k := k) h)
  have HNo := Lib.hid (fun k h => oneTo_no (q := oneQ n) (F := F) (k := k) h)
  have HOl := Lib.hid (fun k => oneTo_len (oneQ n) F k)
  have HZ := Lib.hid (show oneTo (oneQ n) F 0 = [] from rfl)
  clear h
  generalize oneQ n = q at HQ HYs HNo HOl HZ ⊢
  generalize tlO n = tl at HQ HC
  go_enter Try.func36, Try.ntmps36
  go_wp2_with (first | (go_at_call 41; refine (H1.out _).mono ?_; rintro e w' ⟨rfl, rfl⟩) | (go_at_call 61; refine (H2.out _).mono ?_; rintro e w' ⟨rfl, rfl⟩))
  go_loopw [8, 9, 10, 11] (fun u t _ _ wr => ∃ (k : Nat) (p : Int), (k : Int) ≤ T - F + 1 ∧ p = F + k ∧ t = .int .i64 p ∧ Hid (Own w.heap.size wr u (oneTo q F k)) ∧ Below w.heap.size w wr) (fun _ t _ _ _ => (T + 1 - intOf t).toNat)
  case atStart => exact ⟨0, F, by omega, by omega, rfl, Lib.hid (by rw [HZ.out]; exact own_nil _ _), Below.refl _ _⟩
  case round =>
    obtain ⟨k, p, hk, hp, rfl, HO, hb⟩ := hrel
    have HPk := Lib.hid hp
    have hpF : F ≤ p := by omega
    have hk2 : (k : Int) = p - F := by omega
    have HK2 := Lib.hid hk2
    have hkl : k ≤ 1001 := by omega
    have hsz := hb.size
    have hol := HOl.out k
    by_cases hle : p ≤ T
    · have hp1 : 1 ≤ p ∧ p ≤ 160000 := by omega
      have HC' := Lib.hid (HC.out p hp1 wr)
      clear hp1
      have HSy := Lib.hid (fun h => HYs.out k h)
      have HSn := Lib.hid (fun h => HNo.out k h)
      rw [← hp] at HSy HSn
      clear hp hk2 hk
      have hqp := HQ.out p
      generalize tl p = c at HC' hqp
      cases hq : q p with
      | true =>
        rw [hq] at hqp
        have HS2 := Lib.hid (HSy.out hq)
        have ho := HO.out
        clear HSy HSn hq HO
        go_wp2_with (first | (go_at_call 32; refine HC'.out.mono ?_; rintro e wz ⟨a, L, c2, rfl, rfl, hcall⟩; have hszz := hcall.size) | (at_builtin; refine wpList_append_own _ rfl _ _ 30 rfl w.heap.size 3 i0 (.int .i64 0) 1 8 Try.underlying30 hi hz0 hz1 hz2 rfl (by decide) _ _ _ rfl (World.ownsRow.alloc (ho.kept hcall) _) ⟨wz.heap.size, 0, none⟩ 1 1 [.int .i64 p] rfl rfl (newCell _ _ _) (oneInt _) ?c3 ?c4 ?c5 ?_))
        case c3 => unfold maxLen; omega
        case c4 => omega
        case c5 => simp; omega
        intro v' w2 hown' hgrow _
        have hbz := hb.trans (hcall.mono hsz)
        have hb2 := below_push hbz (ho.kept hcall) hgrow
        have HO2 := Lib.hid (own_push hown')
        rw [← HS2.out] at HO2
        clear hown' hgrow ho
        go_wp2
        go_roundw
        case rel => exact ⟨k + 1, p + 1, by have := HK2.out; omega, by have := HPk.out; omega, by go_num, HO2, hb2⟩
        case measure => simp [intOf]; omega
      | false =>
        rw [hq] at hqp
        have HS2 := Lib.hid (HSn.out hq)
        have HO2 : Hid (Own w.heap.size wr _ (oneTo q F (k + 1))) := Lib.hid (by rw [HS2.out]; exact HO.out)
        clear HSy HSn hq HO
        go_wp2_with (first | (go_at_call 32; refine HC'.out.mono ?_; rintro e wz ⟨a, L, c2, rfl, rfl, hcall⟩; have hszz := hcall.size))
        have HO3 := Lib.hid (HO2.out.kept hcall)
        clear HO2
        go_roundw
        case rel => exact ⟨k + 1, p + 1, by have := HK2.out; omega, by have := HPk.out; omega, by go_num, HO3, hb.trans (hcall.mono hsz)⟩
        case measure => simp [intOf]; omega
    · have HE : Hid (oneTo q F (T - F + 1).toNat = oneTo q F k) := Lib.hid (by rw [show (T - F + 1).toNat = k by omega])
      clear hp hk2 hk
      go_wp2
      go_ret2
      exact ⟨_, rfl, by rw [HE.out]; exact HO.out, hb⟩
set_option maxHeartbeats 1600000 in
theorem imOne_no (N F T : Int) (w : World) (h : rangeB N F T = false) :
    Calls Try.prog 36 #[.int .i64 N, .int .i64 F, .int .i64 T] w (RetOwnB [] false w) := by
  have H1 := Lib.hid (fun W => areChildren_any N W)
  have H2 := Lib.hid (fun W => between_any F T W)
  unfold rangeB at h
  cases e1 : inB N 1 4 with
  | false =>
    rw [e1] at H1
    clear e1 h
    go_enter Try.func36, Try.ntmps36
    go_wp2_with (first | (go_at_call 41; refine (H1.out _).mono ?_; rintro e w' ⟨rfl, rfl⟩))
    go_ret2
    exact ⟨_, rfl, own_nil _ _, Below.refl _ _⟩
  | true =>
    rw [e1] at H1
    rw [e1, Bool.true_and] at h
    rw [h] at H2
    clear e1 h
    go_enter Try.func36, Try.ntmps36
    go_wp2_with (first | (go_at_call 41; refine (H1.out _).mono ?_; rintro e w' ⟨rfl, rfl⟩) | (go_at_call 61; refine (H2.out _).mono ?_; rintro e w' ⟨rfl, rfl⟩))
    go_ret2
    exact ⟨_, rfl, own_nil _ _, Below.refl _ _⟩
set_option maxHeartbeats 1600000 in
theorem spOne_no (N F T : Int) (w : World) (h : rangeB N F T = false) :
    Calls Try.prog 35 #[.int .i64 N, .int .i64 F, .int .i64 T] w (RetOwnB [] false w) := by
  have H1 := Lib.hid (fun W => siRange_any N F T W)
  rw [h] at H1
  clear h
  go_enter Try.func35, Try.ntmps35
  go_wp2_with (first | (go_at_call 60; refine (H1.out _).mono ?_; rintro e w' ⟨rfl, rfl⟩))
  go_ret2
  exact ⟨_, rfl, own_nil _ _, Below.refl _ _⟩
theorem oneByOldest_both (N F T : Int) : ∃ rs ok, rs.length ≤ 1048576 ∧
    (∀ w, Calls Try.prog 35 #[.int .i64 N, .int .i64 F, .int .i64 T] w (RetOwnB rs ok w)) ∧
    (∀ w, Calls Try.prog 36 #[.int .i64 N, .int .i64 F, .int .i64 T] w (RetOwnB rs ok w)) := by
  cases h : rangeB N F T with
  | false => exact ⟨[], false, by simp, fun w => spOne_no N F T w h, fun w => imOne_no N F T w h⟩
  | true =>
    obtain ⟨n, rfl, hn, _, hle⟩ := range_nat h
    refine ⟨_, true, ?_, fun w => spOne_yes n F T w h, fun w => imOne_yes n F T w h⟩
    have h' := h
    unfold rangeB at h'
    rw [Bool.and_eq_true, Bool.and_eq_true, Bool.and_eq_true, inB_iff, inB_iff, inB_iff, inB_iff] at h'
    have := oneTo_len (oneQ n) F (T - F + 1).toNat
    omega
end Go.Proofs.Ytmdhdbkeiennmaa
