/- YearsOfPart: both texts. -/
import Derived.Test.YtmidobhfahpkcabLo
import Derived.Deep.RegionHeld3
set_option linter.unusedVariables false
set_option linter.unusedSimpArgs false
namespace Go.Proofs.Ytmidobhfahpkcab
open Go.RowKit

def ypOk (ds : List Dt) (y k : Int) : Bool := loOk ds y && inB k 0 ((ds.length : Int) - 1)
def ypN (ds : List Dt) (y k : Int) : Int := if ypOk ds y k = true then rlN (loN ds y * (at2 ds k.toNat).1) (loD ds y * (at2 ds k.toNat).2) else 0
def ypD (ds : List Dt) (y k : Int) : Int := if ypOk ds y k = true then rlD (loN ds y * (at2 ds k.toNat).1) (loD ds y * (at2 ds k.toNat).2) else 0
theorem yp_not {ds : List Dt} {y k : Int} (h : ypOk ds y k = false) : ypN ds y k = 0 ∧ ypD ds y k = 0 := by simp [ypN, ypD, h]
theorem yp_yes {ds : List Dt} {y k : Int} (h : ypOk ds y k = true) : ypN ds y k = rlN (loN ds y * (at2 ds k.toNat).1) (loD ds y * (at2 ds k.toNat).2) ∧ ypD ds y k = rlD (loN ds y * (at2 ds k.toNat).1) (loD ds y * (at2 ds k.toNat).2) := by simp [ypN, ypD, h]
theorem lo_bd {ds : List Dt} {y : Int} (h : loOk ds y = true) : (1 ≤ loN ds y ∧ loN ds y ≤ 200000000000000) ∧ (1 ≤ loD ds y ∧ loD ds y ≤ 10000000000000) := by
  obtain ⟨_, hy, e1, e2, hn, hd, _, _⟩ := lo_rest h
  rw [e1, e2]
  have m1 := mul_bdL (x := y) (y := (rsT ds ds.length).2) (X := 200) (Y := 1000000000000) (by omega) (by omega)
  have q1 : 1 ≤ y * (rsT ds ds.length).2 := Int.mul_pos (by omega) (by omega)
  have hr := rl_bd (y * (rsT ds ds.length).2) (rsT ds ds.length).1 (by omega)
  have hp : 1 ≤ rlN (y * (rsT ds ds.length).2) (rsT ds ds.length).1 := by
    obtain ⟨k1, k2, k3⟩ := rl_parts (y * (rsT ds ds.length).2) (rsT ds ds.length).1 (by omega)
    have hg := rlG_pos (y * (rsT ds ds.length).2) (rsT ds ds.length).1 (by omega)
    refine Int.not_lt.1 fun hlt => ?_
    have := Int.mul_nonneg (show 0 ≤ -rlN (y * (rsT ds ds.length).2) (rsT ds ds.length).1 by omega) (show 0 ≤ rlG (y * (rsT ds ds.length).2) (rsT ds ds.length).1 by omega)
    rw [Int.neg_mul] at this; omega
  omega

set_option maxHeartbeats 4000000 in
set_option maxRecDepth 100000 in
theorem specYp_any (b c : Nat) (ds : List Dt) (y k : Int) (w : World) (hm : ds.length ≤ 1048576) (hI : Dts w b 0 ds) (hbl : b < w.heap.size) :
    Calls Try.prog 13 #[.slice (some ⟨b, 0, none⟩) ds.length c, .int .i64 y, .int .i64 k] w (RetIIB (ypN ds y k) (ypD ds y k) (ypOk ds y k) w) := by
  have HA0 := specLo_any b c ds y w hI hbl
  have HI0 := fun w => l1In_any k 0 ((ds.length : Int) - 1) w
  cases h1 : loOk ds y with
  | false =>
    have hok : ypOk ds y k = false := by simp [ypOk, h1]
    obtain ⟨e1, e2⟩ := yp_not hok
    rw [e1, e2, hok]
    rw [h1] at HA0
    have HA := Lib.hid HA0
    clear HA0 HI0 h1 hok e1 e2
    go_enter Try.func13, Try.ntmps13
    go_wp2_with (first | (go_at_call 9; refine (HA.out).mono ?_; rintro e w1 ⟨rfl, hcall⟩; have hb1 : Below w.heap.size w w1 := hcall; (first | (have d1 := (hcall.cell (p := ⟨b, K * 2, none⟩) hbl).trans c1.out; have d2 := (hcall.cell (p := ⟨b, K * 2 + 1, none⟩) hbl).trans c2.out) | skip); clear hcall) | (go_at_call 26; refine (HI.out _).mono ?_; rintro e w' ⟨rfl, rfl⟩))
    go_ret3
    exact ⟨rfl, hb1⟩
  | true =>
  cases h2 : inB k 0 ((ds.length : Int) - 1) with
  | false =>
    have hok : ypOk ds y k = false := by simp [ypOk, h2]
    obtain ⟨e1, e2⟩ := yp_not hok
    rw [e1, e2, hok]
    rw [h1] at HA0
    rw [h2] at HI0
    have HA := Lib.hid HA0
    have HI := Lib.hid HI0
    clear HA0 HI0 h1 h2 hok e1 e2
    go_enter Try.func13, Try.ntmps13
    go_wp2_with (first | (go_at_call 9; refine (HA.out).mono ?_; rintro e w1 ⟨rfl, hcall⟩; have hb1 : Below w.heap.size w w1 := hcall; (first | (have d1 := (hcall.cell (p := ⟨b, K * 2, none⟩) hbl).trans c1.out; have d2 := (hcall.cell (p := ⟨b, K * 2 + 1, none⟩) hbl).trans c2.out) | skip); clear hcall) | (go_at_call 26; refine (HI.out _).mono ?_; rintro e w' ⟨rfl, rfl⟩))
    go_ret3
    exact ⟨rfl, hb1⟩
  | true =>
    have hok : ypOk ds y k = true := by simp [ypOk, h1, h2]
    obtain ⟨e1, e2⟩ := yp_yes hok
    obtain ⟨b1, b2⟩ := lo_bd h1
    have hc := (lo_rest h1).1
    have hk := inB_iff.1 h2
    rw [e1, e2, hok]
    rw [h1] at HA0
    rw [h2] at HI0
    have HA := Lib.hid HA0
    have HI := Lib.hid HI0
    obtain ⟨K, rfl⟩ : ∃ K : Nat, k = (K : Int) := ⟨k.toNat, by omega⟩
    have hKl : K < ds.length := by omega
    rw [Int.toNat_natCast]
    obtain ⟨ha, hd⟩ := ratB_iff.1 (chB_at hc K hKl)
    obtain ⟨p1, p2⟩ := hI K hKl
    rw [Nat.zero_add] at p1 p2
    have c1 := Lib.hid p1
    have c2 := Lib.hid p2
    clear HA0 HI0 h1 h2 hok e1 e2 hc p1 p2
    generalize (at2 ds K).1 = p at *
    generalize (at2 ds K).2 = d at *
    generalize loN ds y = u at *
    generalize loD ds y = v at *
    have m1 := mul_bdL (x := u) (y := p) (X := 200000000000000) (Y := 100) (by omega) (by omega)
    have m2 := mul_bdL (x := v) (y := d) (X := 10000000000000) (Y := 100) (by omega) (by omega)
    have q2 : 1 ≤ v * d := Int.mul_pos (by omega) (by omega)
    have HL0 := fun w => raLow_any (u * p) (v * d) w (by omega) (by omega) (by omega)
    have HL : Hid (∀ (x z : Int) (w : World), x = u * p → z = v * d → Calls Try.prog 28 #[.int .i64 x, .int .i64 z] w (RetTwo (rlN (u * p) (v * d)) (rlD (u * p) (v * d)) w)) := Lib.hid (by rintro x z w rfl rfl; exact HL0 w)
    clear HL0
    generalize rlN (u * p) (v * d) = r1 at HL ⊢
    generalize rlD (u * p) (v * d) = r2 at HL ⊢
    have v1 : wrap64 (u * p) = u * p := IntWalk.wrap64_in _ (by omega)
    have v2 : wrap64 (v * d) = v * d := IntWalk.wrap64_in _ (by omega)
    have x1 : IntKind.i64.wrap (u * p) = u * p := IntWalk.i64_in _ (by omega)
    have x2 : IntKind.i64.wrap (v * d) = v * d := IntWalk.i64_in _ (by omega)
    have i0 : (0 : Int) ≤ (K : Int) := by omega
    have i1 : (K : Int) < (ds.length : Int) := by omega
    go_enter Try.func13, Try.ntmps13
    go_wp2_with (first | (go_at_call 9; refine (HA.out).mono ?_; rintro e w1 ⟨rfl, hcall⟩; have hb1 : Below w.heap.size w w1 := hcall; (first | (have d1 := (hcall.cell (p := ⟨b, K * 2, none⟩) hbl).trans c1.out; have d2 := (hcall.cell (p := ⟨b, K * 2 + 1, none⟩) hbl).trans c2.out) | skip); clear hcall) | (go_at_call 26; refine (HI.out _).mono ?_; rintro e w' ⟨rfl, rfl⟩))
    clear m1 m2 q2 ha hd b1 b2 hk
    go_region_held3 (fun w' => Below w.heap.size w w' ∧ w'.cell? ⟨b, K * 2, none⟩ = some (.int .i64 p) ∧ w'.cell? ⟨b, K * 2 + 1, none⟩ = some (.int .i64 d))
      (first
        | (exact ⟨hb1.drew, by simpa using d1, by simpa using d2⟩)
        | (exact ⟨Below.drew (by assumption), by first | assumption | simp [*], by first | assumption | simp [*]⟩)
        | (go_split_ands
           refine ⟨?_, ?_, ?_⟩
           · exact Below.trans (by assumption) (Below.mono hcall (Below.size (by assumption)))
           · exact below_cell2 hcall (by assumption)
           · exact below_cell2 hcall (by assumption)))
      (first | (go_at_call 28; refine (HL.out _ _ _ (by first | rfl | exact x1 | assumption) (by first | rfl | exact x2 | assumption)).mono ?_; rintro e w' ⟨rfl, hcall⟩))
    all_goals
      obtain ⟨hbw, _⟩ := ‹Below w.heap.size w _ ∧ _›
      go_wp2
      go_ret3
      exact ⟨rfl, hbw⟩

set_option maxHeartbeats 4000000 in
set_option maxRecDepth 100000 in
theorem yp_any (b c : Nat) (ds : List Dt) (y k : Int) (w : World) (hm : ds.length ≤ 1048576) (hI : Dts w b 0 ds) (hbl : b < w.heap.size) :
    Calls Try.prog 14 #[.slice (some ⟨b, 0, none⟩) ds.length c, .int .i64 y, .int .i64 k] w (RetIIB (ypN ds y k) (ypD ds y k) (ypOk ds y k) w) := by
  have HA0 := lo_any b c ds y w hI hbl
  have HI0 := fun w => isWithin_any k 0 ((ds.length : Int) - 1) w
  cases h1 : loOk ds y with
  | false =>
    have hok : ypOk ds y k = false := by simp [ypOk, h1]
    obtain ⟨e1, e2⟩ := yp_not hok
    rw [e1, e2, hok]
    rw [h1] at HA0
    have HA := Lib.hid HA0
    clear HA0 HI0 h1 hok e1 e2
    go_enter Try.func14, Try.ntmps14
    go_wp2_with (first | (go_at_call 11; refine (HA.out).mono ?_; rintro e w1 ⟨rfl, hcall⟩; have hb1 : Below w.heap.size w w1 := hcall; (first | (have d1 := (hcall.cell (p := ⟨b, K * 2, none⟩) hbl).trans c1.out; have d2 := (hcall.cell (p := ⟨b, K * 2 + 1, none⟩) hbl).trans c2.out) | skip); clear hcall) | (go_at_call 31; refine (HI.out _).mono ?_; rintro e w' ⟨rfl, rfl⟩))
    go_ret3
    exact ⟨rfl, hb1⟩
  | true =>
  cases h2 : inB k 0 ((ds.length : Int) - 1) with
  | false =>
    have hok : ypOk ds y k = false := by simp [ypOk, h2]
    obtain ⟨e1, e2⟩ := yp_not hok
    rw [e1, e2, hok]
    rw [h1] at HA0
    rw [h2] at HI0
    have HA := Lib.hid HA0
    have HI := Lib.hid HI0
    clear HA0 HI0 h1 h2 hok e1 e2
    go_enter Try.func14, Try.ntmps14
    go_wp2_with (first | (go_at_call 11; refine (HA.out).mono ?_; rintro e w1 ⟨rfl, hcall⟩; have hb1 : Below w.heap.size w w1 := hcall; (first | (have d1 := (hcall.cell (p := ⟨b, K * 2, none⟩) hbl).trans c1.out; have d2 := (hcall.cell (p := ⟨b, K * 2 + 1, none⟩) hbl).trans c2.out) | skip); clear hcall) | (go_at_call 31; refine (HI.out _).mono ?_; rintro e w' ⟨rfl, rfl⟩))
    go_ret3
    exact ⟨rfl, hb1⟩
  | true =>
    have hok : ypOk ds y k = true := by simp [ypOk, h1, h2]
    obtain ⟨e1, e2⟩ := yp_yes hok
    obtain ⟨b1, b2⟩ := lo_bd h1
    have hc := (lo_rest h1).1
    have hk := inB_iff.1 h2
    rw [e1, e2, hok]
    rw [h1] at HA0
    rw [h2] at HI0
    have HA := Lib.hid HA0
    have HI := Lib.hid HI0
    obtain ⟨K, rfl⟩ : ∃ K : Nat, k = (K : Int) := ⟨k.toNat, by omega⟩
    have hKl : K < ds.length := by omega
    rw [Int.toNat_natCast]
    obtain ⟨ha, hd⟩ := ratB_iff.1 (chB_at hc K hKl)
    obtain ⟨p1, p2⟩ := hI K hKl
    rw [Nat.zero_add] at p1 p2
    have c1 := Lib.hid p1
    have c2 := Lib.hid p2
    clear HA0 HI0 h1 h2 hok e1 e2 hc p1 p2
    generalize (at2 ds K).1 = p at *
    generalize (at2 ds K).2 = d at *
    generalize loN ds y = u at *
    generalize loD ds y = v at *
    have m1 := mul_bdL (x := u) (y := p) (X := 200000000000000) (Y := 100) (by omega) (by omega)
    have m2 := mul_bdL (x := v) (y := d) (X := 10000000000000) (Y := 100) (by omega) (by omega)
    have q2 : 1 ≤ v * d := Int.mul_pos (by omega) (by omega)
    have HL0 := fun w => lowestTerms_pos (u * p) (v * d) w (by omega) (by omega)
    have HL : Hid (∀ (x z : Int) (w : World), x = u * p → z = v * d → Calls Try.prog 32 #[.int .i64 x, .int .i64 z] w (RetTwo (rlN (u * p) (v * d)) (rlD (u * p) (v * d)) w)) := Lib.hid (by rintro x z w rfl rfl; exact HL0 w)
    clear HL0
    generalize rlN (u * p) (v * d) = r1 at HL ⊢
    generalize rlD (u * p) (v * d) = r2 at HL ⊢
    have v1 : wrap64 (u * p) = u * p := IntWalk.wrap64_in _ (by omega)
    have v2 : wrap64 (v * d) = v * d := IntWalk.wrap64_in _ (by omega)
    have x1 : IntKind.i64.wrap (u * p) = u * p := IntWalk.i64_in _ (by omega)
    have x2 : IntKind.i64.wrap (v * d) = v * d := IntWalk.i64_in _ (by omega)
    have i0 : (0 : Int) ≤ (K : Int) := by omega
    have i1 : (K : Int) < (ds.length : Int) := by omega
    go_enter Try.func14, Try.ntmps14
    go_wp2_with (first | (go_at_call 11; refine (HA.out).mono ?_; rintro e w1 ⟨rfl, hcall⟩; have hb1 : Below w.heap.size w w1 := hcall; (first | (have d1 := (hcall.cell (p := ⟨b, K * 2, none⟩) hbl).trans c1.out; have d2 := (hcall.cell (p := ⟨b, K * 2 + 1, none⟩) hbl).trans c2.out) | skip); clear hcall) | (go_at_call 31; refine (HI.out _).mono ?_; rintro e w' ⟨rfl, rfl⟩))
    clear m1 m2 q2 ha hd b1 b2 hk
    go_region_held3 (fun w' => Below w.heap.size w w' ∧ w'.cell? ⟨b, K * 2, none⟩ = some (.int .i64 p) ∧ w'.cell? ⟨b, K * 2 + 1, none⟩ = some (.int .i64 d))
      (first
        | (exact ⟨hb1.drew, by simpa using d1, by simpa using d2⟩)
        | (exact ⟨Below.drew (by assumption), by first | assumption | simp [*], by first | assumption | simp [*]⟩)
        | (go_split_ands
           refine ⟨?_, ?_, ?_⟩
           · exact Below.trans (by assumption) (Below.mono hcall (Below.size (by assumption)))
           · exact below_cell2 hcall (by assumption)
           · exact below_cell2 hcall (by assumption)))
      (first | (go_at_call 32; refine (HL.out _ _ _ (by first | rfl | exact x1 | assumption) (by first | rfl | exact x2 | assumption)).mono ?_; rintro e w' ⟨rfl, hcall⟩))
    all_goals
      obtain ⟨hbw, _⟩ := ‹Below w.heap.size w _ ∧ _›
      go_wp2
      go_ret3
      exact ⟨rfl, hbw⟩

theorem yp_both (ds : List Dt) (y k : Int) : ∃ (r1 r2 : Int) (ok : Bool), (∀ b c w, ds.length ≤ 1048576 → b < w.heap.size → Dts w b 0 ds → Calls Try.prog 13 #[.slice (some ⟨b, 0, none⟩) ds.length c, .int .i64 y, .int .i64 k] w (RetIIB r1 r2 ok w)) ∧ ∀ b c w, ds.length ≤ 1048576 → b < w.heap.size → Dts w b 0 ds → Calls Try.prog 14 #[.slice (some ⟨b, 0, none⟩) ds.length c, .int .i64 y, .int .i64 k] w (RetIIB r1 r2 ok w) :=
  ⟨_, _, _, fun b c w hm hb hI => specYp_any b c ds y k w hm hI hb, fun b c w hm hb hI => yp_any b c ds y k w hm hI hb⟩
end Go.Proofs.Ytmidobhfahpkcab
