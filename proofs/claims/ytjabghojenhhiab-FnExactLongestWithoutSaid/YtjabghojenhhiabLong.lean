/- LongestWithout: both texts. -/
import Derived.Test.YtjabghojenhhiabNext
import Derived.IntWalk
import Derived.Deep.QuietTactic
import Derived.BigQuiet
set_option linter.unusedVariables false
set_option linter.unusedSimpArgs false
namespace Go.Proofs.Ytjabghojenhhiab
open Go.RowKit

def gap (l : List Int) (i : Nat) : Int := l.getD (i + 1) 0 - l.getD i 0
/-- Where the first greatest one of the first k gaps is. -/
def bi (l : List Int) : Nat → Nat
  | 0 => 0
  | k + 1 => if gap l (bi l k) < gap l k then k else bi l k
theorem bi_lt (l : List Int) : ∀ k, bi l (k + 1) ≤ k := by
  intro k
  induction k with
  | zero => unfold bi; split <;> simp [bi]
  | succ k ih =>
    unfold bi
    split
    · omega
    · omega
theorem bi_le (l : List Int) (k : Nat) : bi l k ≤ k := by
  cases k with
  | zero => exact Nat.le_refl _
  | succ k => have := bi_lt l k; omega
theorem bi_yes {l : List Int} {k : Nat} (h : gap l (bi l k) < gap l k) : bi l (k + 1) = k := by rw [bi, if_pos h]
theorem bi_no {l : List Int} {k : Nat} (h : ¬ gap l (bi l k) < gap l k) : bi l (k + 1) = bi l k := by rw [bi, if_neg h]
theorem gap_pos {l : List Int} (h : l.Pairwise (· < ·)) {i : Nat} (hi : i + 1 < l.length) : 0 < gap l i := by
  have := sorted_at h (show i < i + 1 by omega) hi
  unfold gap; omega
def atTo (l : List Int) (k : Nat) : Int := if k = 0 then 0 else l.getD (bi l k) 0
def mostTo (l : List Int) (k : Nat) : Int := if k = 0 then -1 else gap l (bi l k) - 1
theorem most_yes {l : List Int} (hs : l.Pairwise (· < ·)) {k : Nat} (hk : k + 1 < l.length) (h : mostTo l k < gap l k - 1) : atTo l (k + 1) = l.getD k 0 ∧ mostTo l (k + 1) = gap l k - 1 := by
  unfold atTo mostTo
  rw [if_neg (by omega), if_neg (by omega)]
  cases k with
  | zero =>
    have : bi l (0 + 1) = 0 := by have := bi_lt l 0; omega
    rw [this]; exact ⟨rfl, rfl⟩
  | succ k =>
    unfold mostTo at h
    rw [if_neg (by omega)] at h
    rw [bi_yes (by omega)]
    exact ⟨rfl, rfl⟩
theorem most_no {l : List Int} (hs : l.Pairwise (· < ·)) {k : Nat} (hk : k + 1 < l.length) (h : ¬ mostTo l k < gap l k - 1) : atTo l (k + 1) = atTo l k ∧ mostTo l (k + 1) = mostTo l k := by
  cases k with
  | zero =>
    have h0 : mostTo l 0 = -1 := rfl
    have := gap_pos hs hk
    omega
  | succ k =>
    have e1 : ∀ q, mostTo l (q + 1) = gap l (bi l (q + 1)) - 1 := fun q => by unfold mostTo; rw [if_neg (by omega)]
    have e2 : ∀ q, atTo l (q + 1) = l.getD (bi l (q + 1)) 0 := fun q => by unfold atTo; rw [if_neg (by omega)]
    rw [e1] at h
    rw [e1, e1, e2, e2, bi_no (by omega)]
    exact ⟨rfl, rfl⟩
def AllIn (l : List Int) : Prop := ∀ j, j < l.length → 0 ≤ l.getD j 0 ∧ l.getD j 0 ≤ 120
theorem yTo_allIn (t : Int → Bool) : AllIn (yTo t 0 121) := by
  intro j hj
  have := (yTo_mem.1 (at_mem hj)).1
  omega
/-- What both texts return. -/
def lwA (l : List Int) : Int := if 2 ≤ l.length then l.getD (bi l (l.length - 1)) 0 else 0
def lwN (l : List Int) : Int := if 2 ≤ l.length then gap l (bi l (l.length - 1)) - 1 else 0
def lwB (l : List Int) : Bool := decide (2 ≤ l.length)
theorem lw_no {l : List Int} (h : ¬ 2 ≤ l.length) : lwA l = 0 ∧ lwN l = 0 ∧ lwB l = false := by
  unfold lwA lwN lwB
  rw [if_neg h, if_neg h]
  exact ⟨rfl, rfl, decide_eq_false h⟩
theorem lw_yes {l : List Int} (h : 2 ≤ l.length) : lwA l = l.getD (bi l (l.length - 1)) 0 ∧ lwN l = gap l (bi l (l.length - 1)) - 1 ∧ lwB l = true := by
  unfold lwA lwN lwB
  rw [if_pos h, if_pos h]
  exact ⟨rfl, rfl, decide_eq_true h⟩
theorem retIIB {a b c d : Int} {x y : Bool} (h1 : a = b) (h2 : c = d) (h3 : x = y) : Ending.returned (.tuple #[.int .i64 a, .int .i64 c, .bool x]) = .returned (.tuple #[.int .i64 b, .int .i64 d, .bool y]) := by rw [h1, h2, h3]

set_option maxHeartbeats 4000000 in
set_option maxRecDepth 100000 in
theorem longest_any (s : ByteArray) (w : World) : Calls Try.prog 25 #[.string s] w (RetIIB (lwA (yTo (tK (kOf s)) 0 121)) (lwN (yTo (tK (kOf s)) 0 121)) (lwB (yTo (tK (kOf s)) 0 121)) w) := by
  have HA := Lib.hid (yTo_allIn (tK (kOf s)))
  have hlen := yTo_len (tK (kOf s)) 0 121
  go_enter Try.func25, Try.ntmps25
  go_wp2_with fail
  refine (agesOfKind_any _ _).mono ?_
  rintro e w1 ⟨v, rfl, ho, hb⟩
  generalize yTo (tK (kOf s)) 0 121 = l at *
  by_cases h2 : 2 ≤ l.length
  · have HR := Lib.hid (lw_yes h2)
    rcases ho.cases with ⟨rfl, rfl⟩ | ⟨g, c, rfl, _, _, _, _, hI, _⟩
    · exfalso; simp at h2
    have HI := Lib.hid hI
    generalize hn : l.length = n at *
    have HN := Lib.hid hn
    clear hn ho hI
    go_wp2_with fail
    go_loopw [7, 8] (fun q i wr => ∃ k d : Nat, k + 1 ≤ n ∧ i = .int .i64 (k : Int) ∧ q = .int .i64 ((bi l k : Nat) : Int) ∧ wr = w1.drewN d) (fun _ i _ => n - (intOf i).toNat)
    case atStart => exact ⟨0, 0, by omega, rfl, rfl, rfl⟩
    case round =>
      obtain ⟨k, d, hk, rfl, rfl, rfl⟩ := hrel
      have hjk := bi_le l k
      by_cases hlt : k + 1 < n
      · have hc0 := HI.out k (by rw [HN.out]; omega)
        have hc1 := HI.out (k + 1) (by rw [HN.out]; omega)
        have hc2 := HI.out (bi l k) (by rw [HN.out]; omega)
        have hc3 := HI.out (bi l k + 1) (by rw [HN.out]; omega)
        rw [Nat.zero_add] at hc0 hc1 hc2 hc3
        have hb0 := HA.out k (by rw [HN.out]; omega)
        have hb1 := HA.out (k + 1) (by rw [HN.out]; omega)
        have hb2 := HA.out (bi l k) (by rw [HN.out]; omega)
        have hb3 := HA.out (bi l k + 1) (by rw [HN.out]; omega)
        have HY := Lib.hid (fun h => bi_yes (l := l) (k := k) h)
        have HNo := Lib.hid (fun h => bi_no (l := l) (k := k) h)
        unfold gap at HY HNo
        generalize bi l k = j at *
        generalize l.getD k 0 = a0 at *
        generalize l.getD (k + 1) 0 = a1 at *
        generalize l.getD j 0 = b0 at *
        generalize l.getD (j + 1) 0 = b1 at *
        have x1 : (0 : Int) ≤ (k : Int) := by omega
        have x2 : (k : Int) < (n : Int) := by omega
        have x3 : (0 : Int) ≤ (k : Int) + 1 := by omega
        have x4 : (k : Int) + 1 < (n : Int) := by omega
        have y1 : (0 : Int) ≤ (j : Int) := by omega
        have y2 : (j : Int) < (n : Int) := by omega
        have y3 : (0 : Int) ≤ (j : Int) + 1 := by omega
        have y4 : (j : Int) + 1 < (n : Int) := by omega
        by_cases hgt : b1 - b0 < a1 - a0
        · have H := Lib.hid (HY.out hgt)
          clear HY HNo
          go_wp2
          have z1 : IntKind.i64.wrap ((k : Int) + 1) = (k : Int) + 1 := IntWalk.i64_in _ (by omega)
          have z2 : IntKind.i64.wrap ((j : Int) + 1) = (j : Int) + 1 := IntWalk.i64_in _ (by omega)
          have z3 : IntKind.i64.wrap (a1 - a0) = a1 - a0 := IntWalk.i64_in _ (by omega)
          have z4 : IntKind.i64.wrap (b1 - b0) = b1 - b0 := IntWalk.i64_in _ (by omega)
          have z5 : ((k : Int) + 1).toNat = k + 1 := by omega
          have z6 : ((j : Int) + 1).toNat = j + 1 := by omega
          go_quiet (fail)
          clear z1 z2 z3 z4 z5 z6
          go_wp2
          go_roundw
          case rel => exact ⟨k + 1, _, by omega, by go_num, by rw [H.out], rfl⟩
          case measure => simp [intOf]; omega
        · have H := Lib.hid (HNo.out hgt)
          clear HY HNo
          go_wp2
          have z1 : IntKind.i64.wrap ((k : Int) + 1) = (k : Int) + 1 := IntWalk.i64_in _ (by omega)
          have z2 : IntKind.i64.wrap ((j : Int) + 1) = (j : Int) + 1 := IntWalk.i64_in _ (by omega)
          have z3 : IntKind.i64.wrap (a1 - a0) = a1 - a0 := IntWalk.i64_in _ (by omega)
          have z4 : IntKind.i64.wrap (b1 - b0) = b1 - b0 := IntWalk.i64_in _ (by omega)
          have z5 : ((k : Int) + 1).toNat = k + 1 := by omega
          have z6 : ((j : Int) + 1).toNat = j + 1 := by omega
          go_quiet (fail)
          clear z1 z2 z3 z4 z5 z6
          go_wp2
          go_roundw
          case rel => exact ⟨k + 1, _, by omega, by go_num, by rw [H.out], rfl⟩
          case measure => simp [intOf]; omega
      · have hkn : k = n - 1 := by omega
        have hjn : bi l k + 1 < n := by
          have := bi_lt l (k - 1)
          rw [show k - 1 + 1 = k by omega] at this
          omega
        have hc2 := HI.out (bi l k) (by rw [HN.out]; omega)
        have hc3 := HI.out (bi l k + 1) (by rw [HN.out]; omega)
        rw [Nat.zero_add] at hc2 hc3
        have hb2 := HA.out (bi l k) (by rw [HN.out]; omega)
        have hb3 := HA.out (bi l k + 1) (by rw [HN.out]; omega)
        have HR2 : Hid (lwA l = l.getD (bi l k) 0 ∧ lwN l = gap l (bi l k) - 1 ∧ lwB l = true) := Lib.hid (by have := HR.out; rw [← hkn] at this; exact this)
        unfold gap at HR2
        clear HR hkn
        generalize bi l k = j at *
        generalize l.getD j 0 = b0 at *
        generalize l.getD (j + 1) 0 = b1 at *
        have y1 : (0 : Int) ≤ (j : Int) := by omega
        have y2 : (j : Int) < (n : Int) := by omega
        have y3 : (0 : Int) ≤ (j : Int) + 1 := by omega
        have y4 : (j : Int) + 1 < (n : Int) := by omega
        go_wp2
        have z2 : IntKind.i64.wrap ((j : Int) + 1) = (j : Int) + 1 := IntWalk.i64_in _ (by omega)
        have z4 : IntKind.i64.wrap (b1 - b0) = b1 - b0 := IntWalk.i64_in _ (by omega)
        have z5 : IntKind.i64.wrap (b1 - b0 - 1) = b1 - b0 - 1 := IntWalk.i64_in _ (by omega)
        have z6 : ((j : Int) + 1).toNat = j + 1 := by omega
        go_quiet (fail)
        clear z2 z4 z5 z6
        go_wp2
        go_ret3
        exact ⟨retIIB HR2.out.1.symm HR2.out.2.1.symm HR2.out.2.2.symm, below_drewN (below_drewN hb _) _⟩
  · have HR := Lib.hid (lw_no h2)
    rcases ho.cases with ⟨rfl, rfl⟩ | ⟨g, c, rfl, _⟩
    · clear h2 ho
      go_wp2_with fail
      go_ret3
      exact ⟨retIIB HR.out.1.symm HR.out.2.1.symm HR.out.2.2.symm, hb⟩
    · clear ho
      have h3 : l.length < 2 := by omega
      generalize l.length = n at *
      go_wp2_with fail
      go_ret3
      exact ⟨retIIB HR.out.1.symm HR.out.2.1.symm HR.out.2.2.symm, hb⟩

set_option maxHeartbeats 4000000 in
theorem specLongest_no (s : ByteArray) (w : World) (h : isK s = false) : Calls Try.prog 24 #[.string s] w (RetIIB 0 0 false w) := by
  go_enter Try.func24, Try.ntmps24
  go_wp2_with (first | (go_at_call 43; refine (kiKind_any _ _).mono ?_; rintro e w' ⟨rfl, rfl⟩))
  go_ret3
  exact ⟨rfl, Below.refl _ _⟩
theorem most_end {l : List Int} (hs : l.Pairwise (· < ·)) (h : 2 ≤ l.length) : atTo l (l.length - 1) = lwA l ∧ mostTo l (l.length - 1) = lwN l ∧ 0 ≤ lwN l := by
  obtain ⟨h1, h2, _⟩ := lw_yes h
  rw [h1, h2]
  unfold atTo mostTo
  rw [if_neg (by omega), if_neg (by omega)]
  have hb := bi_lt l (l.length - 2)
  rw [show l.length - 2 + 1 = l.length - 1 by omega] at hb
  have := gap_pos hs (show bi l (l.length - 1) + 1 < l.length by omega)
  exact ⟨rfl, rfl, by omega⟩
set_option maxHeartbeats 4000000 in
set_option maxRecDepth 100000 in
theorem specLongest_yes (s : ByteArray) (w : World) (hk : isK s = true) : Calls Try.prog 24 #[.string s] w (RetIIB (lwA (yTo (tK (kOf s)) 0 121)) (lwN (yTo (tK (kOf s)) 0 121)) (lwB (yTo (tK (kOf s)) 0 121)) w) := by
  have HA := Lib.hid (yTo_allIn (tK (kOf s)))
  have HS := Lib.hid (yTo_sorted (tK (kOf s)) 0 121)
  have hlen := yTo_len (tK (kOf s)) 0 121
  go_enter Try.func24, Try.ntmps24
  go_wp2_with (first | (go_at_call 43; refine (kiKind_any _ _).mono ?_; rintro e w' ⟨rfl, rfl⟩))
  refine (kiAll_any _ _ hk).mono ?_
  rintro e w1 ⟨v, rfl, ho, hb⟩
  clear hk
  generalize yTo (tK (kOf s)) 0 121 = l at *
  rcases ho.cases with ⟨rfl, rfl⟩ | ⟨g, c, rfl, _, _, _, _, hI, _⟩
  · have HR := Lib.hid (lw_no (l := []) (by simp))
    clear ho
    go_wp2_with fail
    go_rounds 1
    go_ret3
    exact ⟨retIIB HR.out.1.symm HR.out.2.1.symm HR.out.2.2.symm, hb⟩
  · have HI := Lib.hid hI
    generalize hn : l.length = n at *
    have HN := Lib.hid hn
    clear hn ho hI
    go_wp2_with fail
    go_loopw [6, 7, 8] (fun a q i wr => ∃ k d : Nat, (k + 1 ≤ n ∨ k = 0) ∧ i = .int .i64 ((k : Int) + 1) ∧ a = .int .i64 (atTo l k) ∧ q = .int .i64 (mostTo l k) ∧ wr = w1.drewN d) (fun _ _ i _ => n + 1 - (intOf i).toNat)
    case atStart => exact ⟨0, 0, .inr rfl, rfl, rfl, rfl, rfl⟩
    case round =>
      obtain ⟨k, d, hk, rfl, rfl, rfl, rfl⟩ := hrel
      by_cases hlt : k + 1 < n
      · have hc0 := HI.out k (by rw [HN.out]; omega)
        have hc1 := HI.out (k + 1) (by rw [HN.out]; omega)
        rw [Nat.zero_add] at hc0 hc1
        have hb0 := HA.out k (by rw [HN.out]; omega)
        have hb1 := HA.out (k + 1) (by rw [HN.out]; omega)
        have HY := Lib.hid (fun h => most_yes (l := l) (k := k) HS.out (by rw [HN.out]; exact hlt) h)
        have HNo := Lib.hid (fun h => most_no (l := l) (k := k) HS.out (by rw [HN.out]; exact hlt) h)
        unfold gap at HY HNo
        generalize l.getD k 0 = a0 at *
        generalize l.getD (k + 1) 0 = a1 at *
        generalize atTo l k = at0 at *
        generalize mostTo l k = m0 at *
        have x1 : (0 : Int) ≤ (k : Int) := by omega
        have x2 : (k : Int) < (n : Int) := by omega
        have x3 : (0 : Int) ≤ (k : Int) + 1 := by omega
        have x4 : (k : Int) + 1 < (n : Int) := by omega
        by_cases hgt : m0 < a1 - a0 - 1
        · have H := Lib.hid (HY.out hgt)
          clear HY HNo
          go_wp2
          have z1 : IntKind.i64.wrap (k : Int) = (k : Int) := IntWalk.i64_in _ (by omega)
          have z3 : IntKind.i64.wrap (a1 - a0) = a1 - a0 := IntWalk.i64_in _ (by omega)
          have z4 : IntKind.i64.wrap (a1 - a0 - 1) = a1 - a0 - 1 := IntWalk.i64_in _ (by omega)
          have z5 : ((k : Int) + 1).toNat = k + 1 := by omega
          go_quiet (fail)
          clear z1 z3 z4
          go_wp2
          go_roundw
          case rel => exact ⟨k + 1, _, by omega, by go_num, by rw [H.out.1], by rw [H.out.2], rfl⟩
          case measure => simp [intOf]; omega
        · have H := Lib.hid (HNo.out hgt)
          clear HY HNo
          go_wp2
          have z1 : IntKind.i64.wrap (k : Int) = (k : Int) := IntWalk.i64_in _ (by omega)
          have z3 : IntKind.i64.wrap (a1 - a0) = a1 - a0 := IntWalk.i64_in _ (by omega)
          have z4 : IntKind.i64.wrap (a1 - a0 - 1) = a1 - a0 - 1 := IntWalk.i64_in _ (by omega)
          have z5 : ((k : Int) + 1).toNat = k + 1 := by omega
          go_quiet (fail)
          clear z1 z3 z4
          go_wp2
          go_roundw
          case rel => exact ⟨k + 1, _, by omega, by go_num, by rw [H.out.1], by rw [H.out.2], rfl⟩
          case measure => simp [intOf]; omega
      · by_cases h2 : 2 ≤ n
        · have hkn : k = n - 1 := by omega
          have HE := Lib.hid (most_end HS.out (by rw [HN.out]; exact h2))
          have HB : Hid (lwB l = true) := Lib.hid (lw_yes (by rw [HN.out]; exact h2)).2.2
          rw [HN.out, ← hkn] at HE
          have hpos : 0 ≤ mostTo l k := by have := HE.out; omega
          clear hkn
          generalize mostTo l k = m0 at *
          generalize atTo l k = at0 at *
          go_wp2
          go_ret3
          exact ⟨retIIB HE.out.1 HE.out.2.1 HB.out.symm, below_drewN hb _⟩
        · have hk0 : k = 0 := by omega
          subst hk0
          have HR := Lib.hid (lw_no (l := l) (by rw [HN.out]; exact h2))
          have hm : mostTo l 0 = -1 := rfl
          rw [hm]
          clear hm
          go_wp2
          go_ret3
          exact ⟨retIIB HR.out.1.symm HR.out.2.1.symm HR.out.2.2.symm, below_drewN hb _⟩
theorem longest_both (s : ByteArray) (_h : s.size ≤ 1048576) : ∃ r1 r2 ok, (∀ w, Calls Try.prog 24 #[.string s] w (RetIIB r1 r2 ok w)) ∧ (∀ w, Calls Try.prog 25 #[.string s] w (RetIIB r1 r2 ok w)) := by
  cases hk : isK s with
  | false =>
    have e : yTo (tK (kOf s)) 0 121 = [] := by rw [kOf_none hk]; exact yTo_zeroes 121
    have h := lw_no (l := yTo (tK (kOf s)) 0 121) (by rw [e]; simp)
    refine ⟨0, 0, false, fun w => specLongest_no s w hk, fun w => ?_⟩
    have := longest_any s w
    rw [h.1, h.2.1, h.2.2] at this
    exact this
  | true => exact ⟨_, _, _, fun w => specLongest_yes s w hk, fun w => longest_any s w⟩
end Go.Proofs.Ytjabghojenhhiab
