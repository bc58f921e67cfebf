/- AgesOfBirths: both texts. -/
import Derived.Test.YtonnknhmmljmaabBirth
set_option linter.unusedVariables false
set_option linter.unusedSimpArgs false
namespace Go.Proofs.Ytonnknhmmljmaab
open Go.RowKit

theorem ownNonempty' {B : Nat} {w : World} {v : Value} {zs : List Int} (h : Own B w v zs) (h0 : 0 < zs.length) : ∃ g c, v = .slice (some ⟨g, 0, none⟩) zs.length c ∧ B ≤ g ∧ g < w.heap.size ∧ Ints w g 0 zs := by
  rcases h.cases with ⟨_, rfl⟩ | ⟨g, c, rfl, h1, h2, _, _, h3, _⟩
  · simp at h0
  · exact ⟨g, c, rfl, h1, h2, h3⟩
def bornRes (zs : List Int) (year : Int) (r : Bool) : List Int := if r then less year zs else []
def bornB (zs : List Int) (year : Int) : Bool := goodB zs 3000 && inB year 0 3000

theorem agesOfBirths_no (b off c : Nat) (year : Int) (zs : List Int) (w : World) (hn : zs.length ≤ 1048576) (hI : Ints w b off zs) (h : bornB zs year = false) :
    Calls Try.prog 29 #[.slice (some ⟨b, off, none⟩) zs.length c, .int .i64 year] w (RetOwnB [] false w) := by
  cases hg : goodB zs 3000 with
  | false =>
    clear h
    go_enter Try.func29, Try.ntmps29
    go_wp2_with (first | (go_at_call 50; refine (areFor_any _ _ _ _ zs _ _ rfl hn hI).mono ?_; rintro e w' ⟨rfl, rfl⟩) | (go_at_call 47; refine (isWithin_any _ _ _ _).mono ?_; rintro e w' ⟨rfl, rfl⟩))
    go_ret2
    exact ⟨_, rfl, own_nil _ _, Below.refl _ _⟩
  | true =>
    have hy : inB year 0 3000 = false := by unfold bornB at h; rw [hg] at h; exact h
    clear h
    go_enter Try.func29, Try.ntmps29
    go_wp2_with (first | (go_at_call 50; refine (areFor_any _ _ _ _ zs _ _ rfl hn hI).mono ?_; rintro e w' ⟨rfl, rfl⟩) | (go_at_call 47; refine (isWithin_any _ _ _ _).mono ?_; rintro e w' ⟨rfl, rfl⟩))
    go_ret2
    exact ⟨_, rfl, own_nil _ _, Below.refl _ _⟩

set_option maxHeartbeats 1000000 in
theorem agesOfBirths_yes (b off c : Nat) (year : Int) (zs : List Int) (w : World) (hn : zs.length ≤ 1048576) (hI : Ints w b off zs) (hg : goodB zs 3000 = true) (hy : inB year 0 3000 = true) (r : Bool) (hr : goodB (less year zs) 120 = r) :
    Calls Try.prog 29 #[.slice (some ⟨b, off, none⟩) zs.length c, .int .i64 year] w (RetOwnB (bornRes zs year r) r w) := by
  have hyb := inB_iff.1 hy
  have hg8 := goodB_len hg
  have hzb := Lib.hid (goodB_at hg)
  go_enter Try.func29, Try.ntmps29
  go_wp2_with (first | (go_at_call 50; refine (areFor_any _ _ _ _ zs _ _ rfl hn hI).mono ?_; rintro e w' ⟨rfl, rfl⟩) | (go_at_call 47; refine (isWithin_any _ _ _ _).mono ?_; rintro e w' ⟨rfl, rfl⟩))
  refine (eachFrom_any _ _ _ _ zs _ _ rfl hn (by omega) hI (by omega) (by omega) (fun j hj => by have := hzb.out j (by omega); omega)).mono ?_
  rintro e w1 ⟨g, hg1, rfl, ho, hb⟩
  have hll := Lib.hid (less_length year zs)
  go_wp2_with fail
  refine (areAges_any _ _ _ _ (less year zs) _ rfl (by rw [hll.out]; omega) ho.shape.2.2.2.2.1).mono ?_
  rintro e w' ⟨rfl, rfl⟩
  cases r with
  | true =>
    rw [hr]
    clear hr
    go_wp2_with fail
    go_ret2
    exact ⟨_, rfl, ho, hb⟩
  | false =>
    rw [hr]
    clear hr
    go_wp2_with fail
    go_ret2
    exact ⟨_, rfl, own_nil _ _, hb⟩

set_option maxHeartbeats 1000000 in
theorem specAgesOfBirths_no (b off c : Nat) (year : Int) (zs : List Int) (w : World) (hn : zs.length ≤ 1048576) (hI : Ints w b off zs) (h : bornB zs year = false) :
    Calls Try.prog 28 #[.slice (some ⟨b, off, none⟩) zs.length c, .int .i64 year] w (RetOwnB [] false w) := by
  cases h1 : inB zs.length 1 8 with
  | false =>
    clear h
    go_enter Try.func28, Try.ntmps28
    go_wp2_with (first | (go_at_call 46; refine (l1In_any _ _ _ _).mono ?_; rintro e w' ⟨rfl, rfl⟩) | (go_at_call 49; refine (l1All_any _ _ _ _ zs _ _ _ rfl hn hI).mono ?_; rintro e w' ⟨rfl, rfl⟩))
    go_ret2
    exact ⟨_, rfl, own_nil _ _, Below.refl _ _⟩
  | true =>
    cases h2 : allB zs 0 3000 with
    | false =>
      clear h
      go_enter Try.func28, Try.ntmps28
      go_wp2_with (first | (go_at_call 46; refine (l1In_any _ _ _ _).mono ?_; rintro e w' ⟨rfl, rfl⟩) | (go_at_call 49; refine (l1All_any _ _ _ _ zs _ _ _ rfl hn hI).mono ?_; rintro e w' ⟨rfl, rfl⟩))
      go_ret2
      exact ⟨_, rfl, own_nil _ _, Below.refl _ _⟩
    | true =>
      have hy : inB year 0 3000 = false := by unfold bornB goodB at h; rw [h1, h2] at h; exact h
      clear h
      go_enter Try.func28, Try.ntmps28
      go_wp2_with (first | (go_at_call 46; refine (l1In_any _ _ _ _).mono ?_; rintro e w' ⟨rfl, rfl⟩) | (go_at_call 49; refine (l1All_any _ _ _ _ zs _ _ _ rfl hn hI).mono ?_; rintro e w' ⟨rfl, rfl⟩))
      go_ret2
      exact ⟨_, rfl, own_nil _ _, Below.refl _ _⟩

set_option maxHeartbeats 1000000 in
theorem specAgesOfBirths_yes (b off c : Nat) (year : Int) (zs : List Int) (w : World) (hn : zs.length ≤ 1048576) (hI : Ints w b off zs) (hg : goodB zs 3000 = true) (hy : inB year 0 3000 = true) (r : Bool) (hr : goodB (less year zs) 120 = r) :
    Calls Try.prog 28 #[.slice (some ⟨b, off, none⟩) zs.length c, .int .i64 year] w (RetOwnB (bornRes zs year r) r w) := by
  obtain ⟨i0, hi, hz0, hz1, hz2⟩ := info_parts infoInt
  have hyb := inB_iff.1 hy
  have hzb := Lib.hid (goodB_at hg)
  have hg8 := goodB_len hg
  have hbl := ints_lt hI (by omega)
  have HR := Lib.hid hr
  have h12 := hg
  unfold goodB at h12
  rw [Bool.and_eq_true] at h12
  obtain ⟨h1, h2⟩ := h12
  clear hr hg
  go_enter Try.func28, Try.ntmps28
  go_wp2_with (first | (go_at_call 46; refine (l1In_any _ _ _ _).mono ?_; rintro e w' ⟨rfl, rfl⟩) | (go_at_call 49; refine (l1All_any _ _ _ _ zs _ _ _ rfl hn hI).mono ?_; rintro e w' ⟨rfl, rfl⟩))
  clear h1 h2
  go_loopw [6, 25] (fun v i wr => ∃ k : Nat, k ≤ zs.length ∧ i = .int .i64 k ∧ Own w.heap.size wr v (mapTo (year - ·) zs k) ∧ Below w.heap.size w wr) (fun _ i _ => zs.length - (intOf i).toNat)
  case atStart => exact ⟨0, Nat.zero_le _, rfl, own_nil _ _, Below.refl _ _⟩
  case round =>
    obtain ⟨k, hk, rfl, ho, hb⟩ := hrel
    by_cases hlt : k < zs.length
    · have hc := (hI.kept hb hbl) k (by omega)
      have hz := hzb.out k (by omega)
      have HT := Lib.hid (mapTo_succ (year - ·) zs k (by omega))
      have hs := mapTo_len (year - ·) zs k
      have hsz := hb.size
      generalize zs.getD k 0 = z at hc hz HT
      go_wp2_with (first | (at_builtin; refine wpList_append_own _ rfl _ _ 22 rfl w.heap.size 3 i0 (.int .i64 0) 1 8 Try.underlying22 hi hz0 hz1 hz2 rfl (by decide) _ _ _ rfl (World.ownsRow.alloc ho _) ⟨wr.heap.size, 0, none⟩ 1 1 [.int .i64 (year - z)] rfl rfl (newCell _ _ _) (oneInt _) ?c3 ?c4 ?c5 ?_))
      case c3 => unfold maxLen; omega
      case c4 => omega
      case c5 => simp; omega
      intro v' w1 hown' hgrow _
      have hb1 := below_push hb ho hgrow
      have ho1 := own_push hown'
      rw [← HT.out] at ho1
      clear hown' hgrow hc
      go_wp2
      go_roundw
      case rel => exact ⟨k + 1, by omega, by go_num, ho1, hb1⟩
      case measure => simp [intOf]; omega
    · have hkn : k = zs.length := by omega
      rw [mapTo_all _ _ _ (by omega), show zs.map (year - ·) = less year zs from rfl] at ho
      clear hkn
      have hll := Lib.hid (less_length year zs)
      obtain ⟨g2, c2, rfl, _, _, hI2⟩ := ownNonempty' ho (by rw [hll.out]; omega)
      go_wp2_with fail
      refine (agGood_any _ _ _ _ (less year zs) _ rfl (by rw [hll.out]; omega) hI2).mono ?_
      rintro e w' ⟨rfl, rfl⟩
      rw [HR.out]
      cases r with
      | true =>
        go_wp2_with fail
        go_ret2
        exact ⟨_, rfl, ho, hb⟩
      | false =>
        go_wp2_with fail
        go_ret2
        exact ⟨_, rfl, own_nil _ _, hb⟩

theorem agesOfBirths_both (zs : List Int) (year : Int) : ∃ rs ok, rs.length ≤ 1048576 ∧
    (∀ b c w, zs.length ≤ 1048576 → b < w.heap.size → Ints w b 0 zs → Calls Try.prog 28 #[.slice (some ⟨b, 0, none⟩) zs.length c, .int .i64 year] w (RetOwnB rs ok w)) ∧
    (∀ b c w, zs.length ≤ 1048576 → b < w.heap.size → Ints w b 0 zs → Calls Try.prog 29 #[.slice (some ⟨b, 0, none⟩) zs.length c, .int .i64 year] w (RetOwnB rs ok w)) := by
  cases h : bornB zs year with
  | false => exact ⟨[], false, by simp, fun b c w hn hbl hI => specAgesOfBirths_no _ _ _ _ _ _ hn hI h, fun b c w hn hbl hI => agesOfBirths_no _ _ _ _ _ _ hn hI h⟩
  | true =>
    unfold bornB at h
    rw [Bool.and_eq_true] at h
    have h8 := goodB_len h.1
    refine ⟨_, _, ?_, fun b c w hn hbl hI => specAgesOfBirths_yes _ _ _ _ _ _ hn hI h.1 h.2 _ rfl, fun b c w hn hbl hI => agesOfBirths_yes _ _ _ _ _ _ hn hI h.1 h.2 _ rfl⟩
    unfold bornRes
    split
    · rw [less_length]; omega
    · simp
end Go.Proofs.Ytonnknhmmljmaab
