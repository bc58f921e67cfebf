/- BirthYears, AgesOfBirths: both texts. -/
import Derived.Test.YtonnknhmmljmaabGood
set_option linter.unusedVariables false
set_option linter.unusedSimpArgs false
namespace Go.Proofs.Ytonnknhmmljmaab
open Go.RowKit

/-- The first k of the numbers ys are written, the others still 0: one step. -/
theorem fill_stepAt (ys : List Int) (k n : Nat) (y : Int) (h : ys.length = n) (hk : k < n) (hy : ys.getD k 0 = y) : (fill ys k n).set k (.int .i64 y) = fill ys (k + 1) n := by
  rw [← hy]; exact fill_step ys k n h hk

theorem map_getD (f : Int → Int) (zs : List Int) (k : Nat) (hk : k < zs.length) : (zs.map f).getD k 0 = f (zs.getD k 0) := by
  simp [List.getElem?_eq_getElem hk]

/-- A row that was made and filled is what the call returns. -/
theorem retRow_of {w wr : World} {ys : List Int} {n : Nat} (hl : ys.length = n) (hr : wr.ownsRow w.heap.size 3 1 (.slice (some ⟨w.heap.size, 0, none⟩) n n) n (fill ys n n)) (hb : Below w.heap.size w wr) :
    RetRow ys w (.returned (.slice (some ⟨w.heap.size, 0, none⟩) n n)) wr := by
  subst hl
  rw [fill_all _ _ rfl] at hr
  exact ⟨w.heap.size, Nat.le_refl _, rfl, hr, hb⟩

def yearsB (zs : List Int) (year : Int) : Bool := goodB zs 120 && inB year 120 3000
def less (year : Int) (zs : List Int) : List Int := zs.map (year - ·)
theorem less_length (year : Int) (zs : List Int) : (less year zs).length = zs.length := by simp [less]
theorem less_getD (year : Int) (zs : List Int) (k : Nat) (hk : k < zs.length) : (less year zs).getD k 0 = year - zs.getD k 0 := map_getD _ zs k hk

set_option maxHeartbeats 400000 in
theorem eachFrom_any (b off n c : Nat) (zs : List Int) (year : Int) (w : World) (hl : zs.length = n) (hn : n ≤ 1048576) (h0 : 0 < n) (hI : Ints w b off zs) (hy0 : 0 ≤ year) (hy1 : year ≤ 3000) (hzb : ∀ j, j < n → 0 ≤ zs.getD j 0 ∧ zs.getD j 0 ≤ 3000) :
    Calls Try.prog 48 #[.int .i64 year, .slice (some ⟨b, off, none⟩) n c] w (RetRow (less year zs) w) := by
  obtain ⟨i0, hi, hz0, hz1, hz2⟩ := info_parts infoInt
  have hbl := ints_lt hI (by omega)
  have HZ := Lib.hid hzb
  clear hzb
  go_enter Try.func48, Try.ntmps48
  go_wp2_with (first | (at_make; refine wpList_make_full _ rfl _ _ 22 rfl w.heap.size 3 i0 (.int .i64 0) 1 Try.underlying22 hi hz0 hz1 .i64 .i64 n n n rfl rfl rfl rfl ?c1 ?c2 ?c3 ?_))
  case c1 => rw [hz2]; omega
  case c2 => unfold maxLen; omega
  case c3 => exact Nat.le_refl _
  intro w1 hown hg
  go_wp2
  go_loopw [13] (fun v wr => ∃ k : Nat, k ≤ n ∧ v = .int .i64 k ∧ wr.ownsRow w.heap.size 3 1 (.slice (some ⟨w.heap.size, 0, none⟩) n n) n (fill (less year zs) k n) ∧ Below w.heap.size w wr) (fun v _ => n - (intOf v).toNat)
  case atStart => exact ⟨0, Nat.zero_le _, rfl, by rw [← fill_zero]; simpa using hown, (Below.refl _ _).grown hg (Nat.le_refl _) (by simp)⟩
  case round =>
    obtain ⟨k, hk, rfl, hr, hb⟩ := hrel
    have hll : (less year zs).length = n := by rw [less_length]; exact hl
    by_cases hlt : k < n
    · have hc : wr.cell? ⟨b, off + k, none⟩ = some (.int .i64 (zs.getD k 0)) := (hI.kept hb hbl) k (by omega)
      obtain ⟨u, hu⟩ := fill_some (less year zs) k n hll hlt
      have hc2 := (World.ownsRow.cellAt hr k (by omega)).trans hu
      have hf2 := World.ownsRow.frozenAt hr k
      have HS := World.ownsRow.stored hr k (.int .i64 (year - zs.getD k 0))
      rw [fill_stepAt (less year zs) k n (year - zs.getD k 0) hll hlt (less_getD _ _ _ (by omega))] at HS
      have hz := HZ.out k hlt
      clear hu hll
      generalize zs.getD k 0 = z at hc HS hz
      go_wp2
      go_roundw
      case rel => exact ⟨k + 1, by omega, by go_num, HS.1, hb.setCell (Nat.le_refl _) _⟩
      case measure => simp [intOf]; omega
    · have hkn : k = n := by omega
      clear hlt
      go_wp2
      go_ret
      exact retRow_of hll (by rw [hkn] at hr; exact hr) hb

set_option maxHeartbeats 400000 in
theorem specBirthYears_yes (b off n c : Nat) (zs : List Int) (year : Int) (w : World) (hl : zs.length = n) (hn : n ≤ 1048576) (hI : Ints w b off zs) (hg : goodB zs 120 = true) (hy : inB year 120 3000 = true) :
    Calls Try.prog 26 #[.slice (some ⟨b, off, none⟩) n c, .int .i64 year] w (RetOwnB (less year zs) true w) := by
  obtain ⟨i0, hi, hz0, hz1, hz2⟩ := info_parts infoInt
  have hyb := inB_iff.1 hy
  have hzb := Lib.hid (goodB_at hg)
  have hg8 := goodB_len hg
  have hbl := ints_lt hI (by omega)
  go_enter Try.func26, Try.ntmps26
  go_wp2_with (first | (go_at_call 34; refine (agGood_any _ _ _ _ zs _ hl hn hI).mono ?_; rintro e w' ⟨rfl, rfl⟩) | (go_at_call 46; refine (l1In_any _ _ _ _).mono ?_; rintro e w' ⟨rfl, rfl⟩))
  go_loopw [6, 19] (fun v i wr => ∃ k : Nat, k ≤ n ∧ i = .int .i64 k ∧ Own w.heap.size wr v (mapTo (year - ·) zs k) ∧ Below w.heap.size w wr) (fun _ i _ => n - (intOf i).toNat)
  case atStart => exact ⟨0, Nat.zero_le _, rfl, own_nil _ _, Below.refl _ _⟩
  case round =>
    obtain ⟨k, hk, rfl, ho, hb⟩ := hrel
    by_cases hlt : k < n
    · have hc := (hI.kept hb hbl) k (by omega)
      have hz := hzb.out k (by omega)
      have HT := Lib.hid (mapTo_succ (year - ·) zs k (by omega))
      have hs := mapTo_len (year - ·) zs k
      have hsz := hb.size
      generalize zs.getD k 0 = z at hc hz HT
      go_wp2_with (first | (at_builtin; refine wpList_append_own _ rfl _ _ 22 rfl w.heap.size 3 i0 (.int .i64 0) 1 8 Try.underlying22 hi hz0 hz1 hz2 rfl (by decide) _ _ _ rfl (World.ownsRow.alloc ho _) ⟨wr.heap.size, 0, none⟩ 1 1 [.int .i64 (year - z)] rfl rfl (newCell _ _ _) (oneInt _) ?c3 ?c4 ?c5 ?_))
      case c3 => unfold maxLen; omega
      case c4 => omega
      case c5 => simp; omega
      intro v' w1 hown' hgrow _
      have hb1 := below_push hb ho hgrow
      have ho1 := own_push hown'
      rw [← HT.out] at ho1
      clear hown' hgrow hc
      go_wp2
      go_roundw
      case rel => exact ⟨k + 1, by omega, by go_num, ho1, hb1⟩
      case measure => simp [intOf]; omega
    · have hkn : k = n := by omega
      subst hkn
      rw [mapTo_all _ _ _ (by omega)] at ho
      go_wp2
      go_ret2
      exact ⟨_, rfl, ho, hb⟩

theorem specBirthYears_no (b off n c : Nat) (zs : List Int) (year : Int) (w : World) (hl : zs.length = n) (hn : n ≤ 1048576) (hI : Ints w b off zs) (h : yearsB zs year = false) :
    Calls Try.prog 26 #[.slice (some ⟨b, off, none⟩) n c, .int .i64 year] w (RetOwnB [] false w) := by
  cases hg : goodB zs 120 with
  | false =>
    clear h
    go_enter Try.func26, Try.ntmps26
    go_wp2_with (first | (go_at_call 34; refine (agGood_any _ _ _ _ zs _ hl hn hI).mono ?_; rintro e w' ⟨rfl, rfl⟩) | (go_at_call 46; refine (l1In_any _ _ _ _).mono ?_; rintro e w' ⟨rfl, rfl⟩))
    go_ret2
    exact ⟨_, rfl, own_nil _ _, Below.refl _ _⟩
  | true =>
    have hy : inB year 120 3000 = false := by unfold yearsB at h; rw [hg] at h; exact h
    clear h
    go_enter Try.func26, Try.ntmps26
    go_wp2_with (first | (go_at_call 34; refine (agGood_any _ _ _ _ zs _ hl hn hI).mono ?_; rintro e w' ⟨rfl, rfl⟩) | (go_at_call 46; refine (l1In_any _ _ _ _).mono ?_; rintro e w' ⟨rfl, rfl⟩))
    go_ret2
    exact ⟨_, rfl, own_nil _ _, Below.refl _ _⟩

theorem birthYears_no (b off n c : Nat) (zs : List Int) (year : Int) (w : World) (hl : zs.length = n) (hn : n ≤ 1048576) (hI : Ints w b off zs) (h : yearsB zs year = false) :
    Calls Try.prog 27 #[.slice (some ⟨b, off, none⟩) n c, .int .i64 year] w (RetOwnB [] false w) := by
  cases hg : goodB zs 120 with
  | false =>
    clear h
    go_enter Try.func27, Try.ntmps27
    go_wp2_with (first | (go_at_call 45; refine (areAges_any _ _ _ _ zs _ hl hn hI).mono ?_; rintro e w' ⟨rfl, rfl⟩) | (go_at_call 47; refine (isWithin_any _ _ _ _).mono ?_; rintro e w' ⟨rfl, rfl⟩))
    go_ret2
    exact ⟨_, rfl, own_nil _ _, Below.refl _ _⟩
  | true =>
    have hy : inB year 120 3000 = false := by unfold yearsB at h; rw [hg] at h; exact h
    clear h
    go_enter Try.func27, Try.ntmps27
    go_wp2_with (first | (go_at_call 45; refine (areAges_any _ _ _ _ zs _ hl hn hI).mono ?_; rintro e w' ⟨rfl, rfl⟩) | (go_at_call 47; refine (isWithin_any _ _ _ _).mono ?_; rintro e w' ⟨rfl, rfl⟩))
    go_ret2
    exact ⟨_, rfl, own_nil _ _, Below.refl _ _⟩

theorem birthYears_yes (b off n c : Nat) (zs : List Int) (year : Int) (w : World) (hl : zs.length = n) (hn : n ≤ 1048576) (hI : Ints w b off zs) (hg : goodB zs 120 = true) (hy : inB year 120 3000 = true) :
    Calls Try.prog 27 #[.slice (some ⟨b, off, none⟩) n c, .int .i64 year] w (RetOwnB (less year zs) true w) := by
  have hyb := inB_iff.1 hy
  have hg8 := goodB_len hg
  have hzb := Lib.hid (goodB_at hg)
  go_enter Try.func27, Try.ntmps27
  go_wp2_with (first | (go_at_call 45; refine (areAges_any _ _ _ _ zs _ hl hn hI).mono ?_; rintro e w' ⟨rfl, rfl⟩) | (go_at_call 47; refine (isWithin_any _ _ _ _).mono ?_; rintro e w' ⟨rfl, rfl⟩))
  refine (eachFrom_any _ _ _ _ zs _ _ hl hn (by omega) hI (by omega) (by omega) (fun j hj => by have := hzb.out j (by omega); omega)).mono ?_
  rintro e w1 ⟨g, hg1, rfl, ho, hb⟩
  go_wp2_with fail
  go_ret2
  exact ⟨_, rfl, ho, hb⟩

theorem birthYears_both (zs : List Int) (year : Int) : ∃ rs ok, rs.length ≤ 1048576 ∧
    (∀ b c w, zs.length ≤ 1048576 → b < w.heap.size → Ints w b 0 zs → Calls Try.prog 26 #[.slice (some ⟨b, 0, none⟩) zs.length c, .int .i64 year] w (RetOwnB rs ok w)) ∧
    (∀ b c w, zs.length ≤ 1048576 → b < w.heap.size → Ints w b 0 zs → Calls Try.prog 27 #[.slice (some ⟨b, 0, none⟩) zs.length c, .int .i64 year] w (RetOwnB rs ok w)) := by
  cases h : yearsB zs year with
  | false => exact ⟨[], false, by simp, fun b c w hn hbl hI => specBirthYears_no _ _ _ _ _ _ _ rfl hn hI h, fun b c w hn hbl hI => birthYears_no _ _ _ _ _ _ _ rfl hn hI h⟩
  | true =>
    have h' := h
    unfold yearsB at h'
    rw [Bool.and_eq_true] at h'
    have := goodB_len h'.1
    exact ⟨less year zs, true, by rw [less_length]; omega, fun b c w hn hbl hI => specBirthYears_yes _ _ _ _ _ _ _ rfl hn hI h'.1 h'.2, fun b c w hn hbl hI => birthYears_yes _ _ _ _ _ _ _ rfl hn hI h'.1 h'.2⟩
end Go.Proofs.Ytonnknhmmljmaab
