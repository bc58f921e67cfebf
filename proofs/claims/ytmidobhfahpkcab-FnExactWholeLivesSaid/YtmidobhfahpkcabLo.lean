/- LifeOf: both texts. -/
import Derived.Test.YtmidobhfahpkcabLf
set_option linter.unusedVariables false
set_option linter.unusedSimpArgs false
namespace Go.Proofs.Ytmidobhfahpkcab
open Go.RowKit

def lifeB (ds : List Dt) : Bool := chB ds && decide ((ptP ds ds.length).1 < (ptP ds ds.length).2)
theorem lifeB_rest {ds : List Dt} (h : chB ds = true) : lifeB ds = decide (0 < (rsT ds ds.length).1) := by
  unfold lifeB
  rw [h, Bool.true_and]
  obtain ⟨q, p, n, d, eq⟩ := lfAt h ds.length (Nat.le_refl _)
  have := rest_sign (by omega) (by omega) eq
  by_cases h1 : (ptP ds ds.length).1 < (ptP ds ds.length).2
  · simp [h1, this.1 h1]
  · have h2 : ¬ 0 < (rsT ds ds.length).1 := fun h2 => h1 (this.2 h2)
    simp [h1, h2]
def loOk (ds : List Dt) (y : Int) : Bool := lifeB ds && inB y 1 200
def loN (ds : List Dt) (y : Int) : Int := if loOk ds y = true then rlN (y * (ptP ds ds.length).2) ((ptP ds ds.length).2 - (ptP ds ds.length).1) else 0
def loD (ds : List Dt) (y : Int) : Int := if loOk ds y = true then rlD (y * (ptP ds ds.length).2) ((ptP ds ds.length).2 - (ptP ds ds.length).1) else 0
theorem lo_not {ds : List Dt} {y : Int} (h : loOk ds y = false) : loN ds y = 0 ∧ loD ds y = 0 := by simp [loN, loD, h]
theorem lo_yes {ds : List Dt} {y : Int} (h : loOk ds y = true) : loN ds y = rlN (y * (ptP ds ds.length).2) ((ptP ds ds.length).2 - (ptP ds ds.length).1) ∧ loD ds y = rlD (y * (ptP ds ds.length).2) ((ptP ds ds.length).2 - (ptP ds ds.length).1) := by simp [loN, loD, h]
/-- The same, told by what is left. -/
theorem lo_rest {ds : List Dt} {y : Int} (h : loOk ds y = true) : chB ds = true ∧ (1 ≤ y ∧ y ≤ 200) ∧ loN ds y = rlN (y * (rsT ds ds.length).2) (rsT ds ds.length).1 ∧ loD ds y = rlD (y * (rsT ds ds.length).2) (rsT ds ds.length).1 ∧ (1 ≤ (rsT ds ds.length).1 ∧ (rsT ds ds.length).1 ≤ 10000000000000) ∧ (1 ≤ (rsT ds ds.length).2 ∧ (rsT ds ds.length).2 ≤ 1000000000000) ∧ (1 ≤ (ptP ds ds.length).2 ∧ (ptP ds ds.length).2 ≤ 1000000000000) ∧ (0 ≤ (ptP ds ds.length).1 ∧ (ptP ds ds.length).1 < (ptP ds ds.length).2) := by
  obtain ⟨e1, e2⟩ := lo_yes h
  unfold loOk at h
  rw [Bool.and_eq_true] at h
  have hy := inB_iff.1 h.2
  have hl := h.1
  have hl2 := hl
  unfold lifeB at hl
  rw [Bool.and_eq_true] at hl
  have h6 := chB_len hl.1
  rw [lifeB_rest hl.1] at hl2
  have hn : 0 < (rsT ds ds.length).1 := of_decide_eq_true hl2
  have hpq : (ptP ds ds.length).1 < (ptP ds ds.length).2 := of_decide_eq_true hl.2
  obtain ⟨q, p, n, d, eq⟩ := lfAt hl.1 ds.length (Nat.le_refl _)
  obtain ⟨hb1, hb2, hb3, hb4⟩ := bnd_le (k := ds.length) (by omega)
  have hu := rl_unique (a := y * (ptP ds ds.length).2) (b := (ptP ds ds.length).2 - (ptP ds ds.length).1) (c := y * (rsT ds ds.length).2) (d := (rsT ds ds.length).1) (by omega) (by omega) (by
    rw [Int.mul_assoc, Int.mul_assoc, Int.mul_comm (ptP ds ds.length).2, ← eq, Int.mul_comm (rsT ds ds.length).2])
  exact ⟨hl.1, hy, by rw [e1, hu.1], by rw [e2, hu.2], by omega, by omega, by omega, by omega⟩

set_option maxHeartbeats 2000000 in
theorem raLife_any (b c n : Nat) (ds : List Dt) (w : World) (hl : ds.length = n) (hI : Dts w b 0 ds) (hbl : b < w.heap.size) :
    Calls Try.prog 25 #[.slice (some ⟨b, 0, none⟩) n c] w (Ret (.bool (lifeB ds)) w) := by
  have HA0 := raChain_any b 0 n c ds w hl hI hbl
  cases hc : chB ds with
  | false =>
    rw [show lifeB ds = false by simp [lifeB, hc]]
    rw [hc] at HA0
    have HA := Lib.hid HA0
    clear HA0 hc
    go_enter Try.func25, Try.ntmps25
    go_wp2_with (first | (go_at_call 46; refine (HA.out).mono ?_; rintro e w1 ⟨rfl, hcall⟩; have hb1 : Below w.heap.size w w1 := hcall; have hd1 := hI.kept hcall hbl; have hl1 := Nat.lt_of_lt_of_le hbl hcall.size; clear hcall))
    go_ret
    exact ⟨rfl, hb1⟩
  | true =>
    rw [hc] at HA0
    have HA := Lib.hid HA0
    have HP := Lib.hid (fun (w : World) (h1 : Dts w b 0 ds) (h2 : b < w.heap.size) => raParts_any b c n ds w hc hl h1 h2)
    rw [show lifeB ds = decide ((ptP ds n).1 < (ptP ds n).2) by rw [← hl]; simp [lifeB, hc]]
    generalize (ptP ds n).1 = P at *
    generalize (ptP ds n).2 = Q at *
    clear HA0 hc
    go_enter Try.func25, Try.ntmps25
    go_wp2_with (first | (go_at_call 46; refine (HA.out).mono ?_; rintro e w1 ⟨rfl, hcall⟩; have hb1 : Below w.heap.size w w1 := hcall; have hd1 := hI.kept hcall hbl; have hl1 := Nat.lt_of_lt_of_le hbl hcall.size; clear hcall) | (go_at_call 27; refine (HP.out _ hd1 hl1).mono ?_; rintro e w2 ⟨rfl, hcall⟩; have hb2 : Below w.heap.size w w2 := hb1.trans (hcall.mono hb1.size); clear hcall))
    go_ret
    exact ⟨rfl, hb2⟩

set_option maxHeartbeats 4000000 in
set_option maxRecDepth 100000 in
theorem specLo_any (b c : Nat) (ds : List Dt) (y : Int) (w : World) (hI : Dts w b 0 ds) (hbl : b < w.heap.size) :
    Calls Try.prog 9 #[.slice (some ⟨b, 0, none⟩) ds.length c, .int .i64 y] w (RetIIB (loN ds y) (loD ds y) (loOk ds y) w) := by
  have HA0 := raLife_any b c _ ds w rfl hI hbl
  have HI0 := fun w => l1In_any y 1 200 w
  cases h1 : lifeB ds with
  | false =>
    have hok : loOk ds y = false := by simp [loOk, h1]
    obtain ⟨e1, e2⟩ := lo_not hok
    rw [e1, e2, hok]
    rw [h1] at HA0
    have HA := Lib.hid HA0
    have HI := Lib.hid HI0
    clear HA0 HI0 h1 hok e1 e2
    go_enter Try.func9, Try.ntmps9
    go_wp2_with (first | (go_at_call 25; refine (HA.out).mono ?_; rintro e w1 ⟨rfl, hcall⟩; have hb1 : Below w.heap.size w w1 := hcall; have hd1 := hI.kept hcall hbl; have hl1 := Nat.lt_of_lt_of_le hbl hcall.size; clear hcall) | (go_at_call 26; refine (HI.out _).mono ?_; rintro e w' ⟨rfl, rfl⟩))
    go_ret3
    exact ⟨rfl, hb1⟩
  | true =>
  cases h2 : inB y 1 200 with
  | false =>
    have hok : loOk ds y = false := by simp [loOk, h2]
    obtain ⟨e1, e2⟩ := lo_not hok
    rw [e1, e2, hok]
    rw [h1] at HA0
    rw [h2] at HI0
    have HA := Lib.hid HA0
    have HI := Lib.hid HI0
    clear HA0 HI0 h1 h2 hok e1 e2
    go_enter Try.func9, Try.ntmps9
    go_wp2_with (first | (go_at_call 25; refine (HA.out).mono ?_; rintro e w1 ⟨rfl, hcall⟩; have hb1 : Below w.heap.size w w1 := hcall; have hd1 := hI.kept hcall hbl; have hl1 := Nat.lt_of_lt_of_le hbl hcall.size; clear hcall) | (go_at_call 26; refine (HI.out _).mono ?_; rintro e w' ⟨rfl, rfl⟩))
    go_ret3
    exact ⟨rfl, hb1⟩
  | true =>
    have hok : loOk ds y = true := by simp [loOk, h1, h2]
    obtain ⟨e1, e2⟩ := lo_yes hok
    obtain ⟨hc, hy, _, _, _, _, hq, hp⟩ := lo_rest hok
    rw [e1, e2, hok]
    rw [h1] at HA0
    rw [h2] at HI0
    have HA := Lib.hid HA0
    have HI := Lib.hid HI0
    have HP := Lib.hid (fun (w : World) (h1 : Dts w b 0 ds) (h2 : b < w.heap.size) => raParts_any b c _ ds w hc rfl h1 h2)
    clear HA0 HI0 h1 h2 hok e1 e2
    generalize (ptP ds ds.length).1 = P at *
    generalize (ptP ds ds.length).2 = Q at *
    have m1 := mul_bdL (x := y) (y := Q) (X := 200) (Y := 1000000000000) (by omega) (by omega)
    have HL := Lib.hid (fun w => raLow_any (y * Q) (Q - P) w (by omega) (by omega) (by omega))
    generalize rlN (y * Q) (Q - P) = u at HL ⊢
    generalize rlD (y * Q) (Q - P) = v at HL ⊢
    go_enter Try.func9, Try.ntmps9
    go_wp2_with (first | (go_at_call 25; refine (HA.out).mono ?_; rintro e w1 ⟨rfl, hcall⟩; have hb1 : Below w.heap.size w w1 := hcall; have hd1 := hI.kept hcall hbl; have hl1 := Nat.lt_of_lt_of_le hbl hcall.size; clear hcall) | (go_at_call 26; refine (HI.out _).mono ?_; rintro e w' ⟨rfl, rfl⟩) | (go_at_call 27; refine (HP.out _ hd1 hl1).mono ?_; rintro e w2 ⟨rfl, hcall⟩; have hb2 : Below w.heap.size w w2 := hb1.trans (hcall.mono hb1.size); clear hcall) | (go_at_call 28; refine (HL.out _).mono ?_; rintro e w3 ⟨rfl, hcall⟩; have hb3 : Below w.heap.size w w3 := hb2.trans (hcall.mono hb2.size); clear hcall))
    go_ret3
    exact ⟨rfl, hb3⟩

set_option maxHeartbeats 4000000 in
set_option maxRecDepth 100000 in
theorem lo_any (b c : Nat) (ds : List Dt) (y : Int) (w : World) (hI : Dts w b 0 ds) (hbl : b < w.heap.size) :
    Calls Try.prog 11 #[.slice (some ⟨b, 0, none⟩) ds.length c, .int .i64 y] w (RetIIB (loN ds y) (loD ds y) (loOk ds y) w) := by
  have HI0 := fun w => isWithin_any y 1 200 w
  cases hc : chB ds with
  | false =>
    have hok : loOk ds y = false := by simp [loOk, lifeB, hc]
    have HA0 := restOfLife_no b c _ ds w hc rfl hI hbl
    have HA := Lib.hid HA0
    have HI := Lib.hid HI0
    obtain ⟨e1, e2⟩ := lo_not hok
    rw [e1, e2, hok]
    clear HA0 HI0 hok e1 e2
    go_enter Try.func11, Try.ntmps11
    go_wp2_with (first | (go_at_call 30; refine (HA.out).mono ?_; rintro e w1 ⟨rfl, hcall⟩; have hb1 : Below w.heap.size w w1 := hcall; clear hcall) | (go_at_call 31; refine (HI.out _).mono ?_; rintro e w' ⟨rfl, rfl⟩))
    go_ret3
    exact ⟨rfl, hb1⟩
  | true =>
  have HA0 := restOfLife_yes b c _ ds w hc rfl hI hbl
  rw [← lifeB_rest hc] at HA0
  cases h1 : lifeB ds with
  | false =>
    have hok : loOk ds y = false := by simp [loOk, h1]
    rw [h1] at HA0
    have HA := Lib.hid HA0
    have HI := Lib.hid HI0
    obtain ⟨e1, e2⟩ := lo_not hok
    rw [e1, e2, hok]
    clear HA0 HI0 hok e1 e2
    go_enter Try.func11, Try.ntmps11
    go_wp2_with (first | (go_at_call 30; refine (HA.out).mono ?_; rintro e w1 ⟨rfl, hcall⟩; have hb1 : Below w.heap.size w w1 := hcall; clear hcall) | (go_at_call 31; refine (HI.out _).mono ?_; rintro e w' ⟨rfl, rfl⟩))
    go_ret3
    exact ⟨rfl, hb1⟩
  | true =>
  cases h2 : inB y 1 200 with
  | false =>
    have hok : loOk ds y = false := by simp [loOk, h2]
    rw [h1] at HA0
    rw [h2] at HI0
    have HA := Lib.hid HA0
    have HI := Lib.hid HI0
    obtain ⟨e1, e2⟩ := lo_not hok
    rw [e1, e2, hok]
    clear HA0 HI0 hok e1 e2
    go_enter Try.func11, Try.ntmps11
    go_wp2_with (first | (go_at_call 30; refine (HA.out).mono ?_; rintro e w1 ⟨rfl, hcall⟩; have hb1 : Below w.heap.size w w1 := hcall; clear hcall) | (go_at_call 31; refine (HI.out _).mono ?_; rintro e w' ⟨rfl, rfl⟩))
    go_ret3
    exact ⟨rfl, hb1⟩
  | true =>
    have hok : loOk ds y = true := by simp [loOk, h1, h2]
    obtain ⟨_, hy, e1, e2, hn, hd, _, _⟩ := lo_rest hok
    rw [e1, e2, hok]
    rw [h1] at HA0
    rw [h2] at HI0
    have HA := Lib.hid HA0
    have HI := Lib.hid HI0
    clear HA0 HI0 h1 h2 hok e1 e2
    generalize (rsT ds ds.length).1 = P at *
    generalize (rsT ds ds.length).2 = Q at *
    have m1 := mul_bdL (x := y) (y := Q) (X := 200) (Y := 1000000000000) (by omega) (by omega)
    have HL := Lib.hid (fun w => lowestTerms_pos (y * Q) P w (by omega) (by omega))
    generalize rlN (y * Q) P = u at HL ⊢
    generalize rlD (y * Q) P = v at HL ⊢
    go_enter Try.func11, Try.ntmps11
    go_wp2_with (first | (go_at_call 30; refine (HA.out).mono ?_; rintro e w1 ⟨rfl, hcall⟩; have hb1 : Below w.heap.size w w1 := hcall; clear hcall) | (go_at_call 31; refine (HI.out _).mono ?_; rintro e w' ⟨rfl, rfl⟩) | (go_at_call 32; refine (HL.out _).mono ?_; rintro e w3 ⟨rfl, hcall⟩; have hb3 : Below w.heap.size w w3 := hb1.trans (hcall.mono hb1.size); clear hcall))
    go_ret3
    exact ⟨rfl, hb3⟩
theorem lo_both (ds : List Dt) (y : Int) : ∃ (r1 r2 : Int) (ok : Bool), (∀ b c w, ds.length ≤ 1048576 → b < w.heap.size → Dts w b 0 ds → Calls Try.prog 9 #[.slice (some ⟨b, 0, none⟩) ds.length c, .int .i64 y] w (RetIIB r1 r2 ok w)) ∧ ∀ b c w, ds.length ≤ 1048576 → b < w.heap.size → Dts w b 0 ds → Calls Try.prog 11 #[.slice (some ⟨b, 0, none⟩) ds.length c, .int .i64 y] w (RetIIB r1 r2 ok w) :=
  ⟨_, _, _, fun b c w _ hb hI => specLo_any b c ds y w hI hb, fun b c w _ hb hI => lo_any b c ds y w hI hb⟩
end Go.Proofs.Ytmidobhfahpkcab
