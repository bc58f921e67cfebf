/- AddAge: both texts. -/
import Derived.Test.YtonnknhmmljmaabGood
import Derived.Lib.SliceRun
import Derived.WideShapes
set_option linter.unusedVariables false
set_option linter.unusedSimpArgs false
namespace Go.Proofs.Ytonnknhmmljmaab
open Go.RowKit

theorem ints_cells {w : World} {b off : Nat} {zs : List Int} (h : Ints w b off zs) : ∀ j u, (zs.map (Value.int .i64))[j]? = some u → w.cell? ((⟨b, off, none⟩ : Addr).add j) = some u := by
  intro j u hj
  rw [WideShapes.add_plain]
  have hlt : j < zs.length := by
    have := (List.getElem?_eq_some_iff.1 hj).1
    simpa using this
  rw [h j hlt, ← hj]
  simp [List.getElem?_eq_getElem hlt]

set_option maxHeartbeats 400000 in
theorem own_any (b off c : Nat) (zs : List Int) (w : World) (hn : zs.length ≤ 1048576) (hbl : b < w.heap.size) (hI : Ints w b off zs) :
    Calls Try.prog 51 #[.slice (some ⟨b, off, none⟩) zs.length c] w (RetOwn zs w) := by
  obtain ⟨i0, hi, hz0, hz1, hz2⟩ := info_parts infoInt
  have hI' := Lib.hid (hI.kept ((Below.refl w.heap.size w).alloc (Nat.le_refl _) (.cells #[] 3)) hbl)
  have hO := Lib.hid (World.ownsRow_lit (base := w.heap.size) (size := 1) (e := 3) w #[] 0 (Nat.le_refl _) (by unfold maxLen; omega) rfl)
  have HU := Lib.hid (ints_oneCell .i64 zs)
  have HLn : (zs.map (Value.int .i64)).length = zs.length * 1 := by simp
  generalize hxs : zs.map (Value.int .i64) = xs at HU HLn
  have HX := Lib.hid hxs
  have HC := Lib.hid (ints_cells hI'.out)
  rw [hxs] at HC
  clear hxs
  go_enter Try.func51, Try.ntmps51
  go_wp2_with (first | (at_builtin; refine wpList_append_own _ rfl _ _ 22 rfl w.heap.size 3 i0 _ 1 8 Try.underlying22 hi hz0 hz1 hz2 rfl (by decide) _ 0 [] rfl hO.out ⟨b, off, none⟩ zs.length c xs rfl HLn HC.out HU.out ?c3 ?c4 ?c5 ?_))
  case c3 => unfold maxLen; omega
  case c4 => omega
  intro v' w1 hown hgr _
  have hb : Below w.heap.size w w1 := (((Below.refl w.heap.size w).alloc (Nat.le_refl _) _).grown hgr (by simp) (by intro k hk; simp [Value.ownBlock] at hk; omega))
  have ho : Own w.heap.size w1 v' zs := by unfold Own; rw [HX.out]; exact hown
  clear hown hgr
  go_wp2_with fail
  go_ret
  exact ⟨_, rfl, ho, hb⟩

set_option maxHeartbeats 400000 in
theorem cloneInt_any (b off c : Nat) (zs : List Int) (w : World) (hn : zs.length ≤ 1048576) (hbl : b < w.heap.size) (hI : Ints w b off zs) :
    Calls Try.prog 52 #[.slice (some ⟨b, off, none⟩) zs.length c] w (RetOwn zs w) := by
  obtain ⟨i0, hi, hz0, hz1, hz2⟩ := info_parts infoInt
  have qT : ∀ (w : World) (a : Option Addr) (n c n' c' : Nat), (binOp .eql 22 (.slice a n c) (.slice none n' c')).run Try.prog w = .ok (.bool a.isNone) w := fun w a n c n' c' => Lib.run_eql_slice_nil w _ _ a n c n' c' Try.underlying22
  have hI' := Lib.hid (hI.kept ((Below.refl w.heap.size w).alloc (Nat.le_refl _) (.cells #[] 3)) hbl)
  have hO := Lib.hid (World.ownsRow_lit (base := w.heap.size) (size := 1) (e := 3) w #[] 0 (Nat.le_refl _) (by unfold maxLen; omega) rfl)
  have HU := Lib.hid (ints_oneCell .i64 zs)
  have HLn : (zs.map (Value.int .i64)).length = zs.length * 1 := by simp
  generalize hxs : zs.map (Value.int .i64) = xs at HU HLn
  have HX := Lib.hid hxs
  have HC := Lib.hid (ints_cells hI'.out)
  rw [hxs] at HC
  clear hxs
  go_enter Try.func52, Try.ntmps52
  go_wp2_with (first | (at_builtin; refine wpList_append_own _ rfl _ _ 22 rfl w.heap.size 3 i0 _ 1 8 Try.underlying22 hi hz0 hz1 hz2 rfl (by decide) _ 0 [] rfl hO.out ⟨b, off, none⟩ zs.length c xs rfl HLn HC.out HU.out ?c3 ?c4 ?c5 ?_))
  case c3 => unfold maxLen; omega
  case c4 => omega
  intro v' w1 hown hgr _
  have hb : Below w.heap.size w w1 := (((Below.refl w.heap.size w).alloc (Nat.le_refl _) _).grown hgr (by simp) (by intro k hk; simp [Value.ownBlock] at hk; omega))
  have ho : Own w.heap.size w1 v' zs := by unfold Own; rw [HX.out]; exact hown
  clear hown hgr
  go_wp2_with fail
  go_ret
  exact ⟨_, rfl, ho, hb⟩

def addOk (zs : List Int) (age : Int) : Bool := goodB zs 120 && inB age 0 120 && !(decide (zs.length = 8))
set_option maxHeartbeats 1000000 in
theorem specAddAge_no (b off c : Nat) (age : Int) (zs : List Int) (w : World) (hn : zs.length ≤ 1048576) (hI : Ints w b off zs) (hok : addOk zs age = false) :
    Calls Try.prog 30 #[.slice (some ⟨b, off, none⟩) zs.length c, .int .i64 age] w (RetOwnB [] false w) := by
  cases h0 : goodB zs 120 with
  | false =>
    clear hok
    go_enter Try.func30, Try.ntmps30
    go_wp2_with (first | (go_at_call 34; refine (agGood_any _ _ _ _ zs _ rfl hn hI).mono ?_; rintro e w' ⟨rfl, rfl⟩) | (go_at_call 46; refine (l1In_any _ _ _ _).mono ?_; rintro e w' ⟨rfl, rfl⟩))
    go_ret2
    exact ⟨_, rfl, own_nil _ _, Below.refl _ _⟩
  | true =>
    cases h1 : inB age 0 120 with
    | false =>
      clear hok
      go_enter Try.func30, Try.ntmps30
      go_wp2_with (first | (go_at_call 34; refine (agGood_any _ _ _ _ zs _ rfl hn hI).mono ?_; rintro e w' ⟨rfl, rfl⟩) | (go_at_call 46; refine (l1In_any _ _ _ _).mono ?_; rintro e w' ⟨rfl, rfl⟩))
      go_ret2
      exact ⟨_, rfl, own_nil _ _, Below.refl _ _⟩
    | true =>
      have h2 : ((zs.length : Int) == 8) = true := by
        unfold addOk at hok; rw [h0, h1] at hok; simp at hok; exact beq_iff_eq.2 (by omega)
      clear hok
      go_enter Try.func30, Try.ntmps30
      go_wp2_with (first | (go_at_call 34; refine (agGood_any _ _ _ _ zs _ rfl hn hI).mono ?_; rintro e w' ⟨rfl, rfl⟩) | (go_at_call 46; refine (l1In_any _ _ _ _).mono ?_; rintro e w' ⟨rfl, rfl⟩))
      go_ret2
      exact ⟨_, rfl, own_nil _ _, Below.refl _ _⟩

set_option maxHeartbeats 1000000 in
theorem addAge_no (b off c : Nat) (age : Int) (zs : List Int) (w : World) (hn : zs.length ≤ 1048576) (hI : Ints w b off zs) (hok : addOk zs age = false) :
    Calls Try.prog 31 #[.slice (some ⟨b, off, none⟩) zs.length c, .int .i64 age] w (RetOwnB [] false w) := by
  cases h0 : goodB zs 120 with
  | false =>
    clear hok
    go_enter Try.func31, Try.ntmps31
    go_wp2_with (first | (go_at_call 45; refine (areAges_any _ _ _ _ zs _ rfl hn hI).mono ?_; rintro e w' ⟨rfl, rfl⟩) | (go_at_call 47; refine (isWithin_any _ _ _ _).mono ?_; rintro e w' ⟨rfl, rfl⟩))
    go_ret2
    exact ⟨_, rfl, own_nil _ _, Below.refl _ _⟩
  | true =>
    cases h1 : inB age 0 120 with
    | false =>
      clear hok
      go_enter Try.func31, Try.ntmps31
      go_wp2_with (first | (go_at_call 45; refine (areAges_any _ _ _ _ zs _ rfl hn hI).mono ?_; rintro e w' ⟨rfl, rfl⟩) | (go_at_call 47; refine (isWithin_any _ _ _ _).mono ?_; rintro e w' ⟨rfl, rfl⟩))
      go_ret2
      exact ⟨_, rfl, own_nil _ _, Below.refl _ _⟩
    | true =>
      have h2 : ((zs.length : Int) == 8) = true := by
        unfold addOk at hok; rw [h0, h1] at hok; simp at hok; exact beq_iff_eq.2 (by omega)
      clear hok
      go_enter Try.func31, Try.ntmps31
      go_wp2_with (first | (go_at_call 45; refine (areAges_any _ _ _ _ zs _ rfl hn hI).mono ?_; rintro e w' ⟨rfl, rfl⟩) | (go_at_call 47; refine (isWithin_any _ _ _ _).mono ?_; rintro e w' ⟨rfl, rfl⟩))
      go_ret2
      exact ⟨_, rfl, own_nil _ _, Below.refl _ _⟩

set_option maxHeartbeats 1000000 in
theorem specAddAge_yes (b off c : Nat) (age : Int) (zs : List Int) (w : World) (hn : zs.length ≤ 1048576) (hbl : b < w.heap.size) (hI : Ints w b off zs) (h0 : goodB zs 120 = true) (h1 : inB age 0 120 = true) (h2 : ((zs.length : Int) == 8) = false) :
    Calls Try.prog 30 #[.slice (some ⟨b, off, none⟩) zs.length c, .int .i64 age] w (RetOwnB (zs ++ [age]) true w) := by
  obtain ⟨i0, hi, hz0, hz1, hz2⟩ := info_parts infoInt
  have h8 := goodB_len h0
  go_enter Try.func30, Try.ntmps30
  go_wp2_with (first | (go_at_call 34; refine (agGood_any _ _ _ _ zs _ rfl hn hI).mono ?_; rintro e w' ⟨rfl, rfl⟩) | (go_at_call 46; refine (l1In_any _ _ _ _).mono ?_; rintro e w' ⟨rfl, rfl⟩))
  refine (own_any _ _ _ zs _ hn hbl hI).mono ?_
  rintro e w1 ⟨v, rfl, ho, hb⟩
  have hsz := hb.size
  go_wp2_with (first | (at_builtin; refine wpList_append_own _ rfl _ _ 22 rfl w.heap.size 3 i0 (.int .i64 0) 1 8 Try.underlying22 hi hz0 hz1 hz2 rfl (by decide) _ _ _ rfl (World.ownsRow.alloc ho _) ⟨w1.heap.size, 0, none⟩ 1 1 [.int .i64 age] rfl rfl (newCell _ _ _) (oneInt _) ?c3 ?c4 ?c5 ?_))
  case c3 => unfold maxLen; omega
  case c4 => omega
  case c5 => simp; omega
  intro v' w2 hown' hgrow _
  have hb2 := below_push hb ho hgrow
  have ho2 := own_push hown'
  clear hown' hgrow
  go_wp2
  go_ret2
  exact ⟨_, rfl, ho2, hb2⟩

set_option maxHeartbeats 1000000 in
theorem addAge_yes (b off c : Nat) (age : Int) (zs : List Int) (w : World) (hn : zs.length ≤ 1048576) (hbl : b < w.heap.size) (hI : Ints w b off zs) (h0 : goodB zs 120 = true) (h1 : inB age 0 120 = true) (h2 : ((zs.length : Int) == 8) = false) :
    Calls Try.prog 31 #[.slice (some ⟨b, off, none⟩) zs.length c, .int .i64 age] w (RetOwnB (zs ++ [age]) true w) := by
  obtain ⟨i0, hi, hz0, hz1, hz2⟩ := info_parts infoInt
  have h8 := goodB_len h0
  go_enter Try.func31, Try.ntmps31
  go_wp2_with (first | (go_at_call 45; refine (areAges_any _ _ _ _ zs _ rfl hn hI).mono ?_; rintro e w' ⟨rfl, rfl⟩) | (go_at_call 47; refine (isWithin_any _ _ _ _).mono ?_; rintro e w' ⟨rfl, rfl⟩))
  refine (cloneInt_any _ _ _ zs _ hn hbl hI).mono ?_
  rintro e w1 ⟨v, rfl, ho, hb⟩
  have hsz := hb.size
  go_wp2_with (first | (at_builtin; refine wpList_append_own _ rfl _ _ 22 rfl w.heap.size 3 i0 (.int .i64 0) 1 8 Try.underlying22 hi hz0 hz1 hz2 rfl (by decide) _ _ _ rfl (World.ownsRow.alloc ho _) ⟨w1.heap.size, 0, none⟩ 1 1 [.int .i64 age] rfl rfl (newCell _ _ _) (oneInt _) ?c3 ?c4 ?c5 ?_))
  case c3 => unfold maxLen; omega
  case c4 => omega
  case c5 => simp; omega
  intro v' w2 hown' hgrow _
  have hb2 := below_push hb ho hgrow
  have ho2 := own_push hown'
  clear hown' hgrow
  go_wp2
  go_ret2
  exact ⟨_, rfl, ho2, hb2⟩

theorem addAge_both (zs : List Int) (age : Int) : ∃ rs ok, rs.length ≤ 1048576 ∧
    (∀ b c w, zs.length ≤ 1048576 → b < w.heap.size → Ints w b 0 zs → Calls Try.prog 30 #[.slice (some ⟨b, 0, none⟩) zs.length c, .int .i64 age] w (RetOwnB rs ok w)) ∧
    (∀ b c w, zs.length ≤ 1048576 → b < w.heap.size → Ints w b 0 zs → Calls Try.prog 31 #[.slice (some ⟨b, 0, none⟩) zs.length c, .int .i64 age] w (RetOwnB rs ok w)) := by
  cases h : addOk zs age with
  | false => exact ⟨[], false, by simp, fun b c w hn hbl hI => specAddAge_no _ _ _ _ _ _ hn hI h, fun b c w hn hbl hI => addAge_no _ _ _ _ _ _ hn hI h⟩
  | true =>
    unfold addOk at h
    rw [Bool.and_eq_true, Bool.and_eq_true] at h
    obtain ⟨⟨h0, h1⟩, h2⟩ := h
    have h8 := goodB_len h0
    have h2' : ((zs.length : Int) == 8) = false := beq_eq_false_iff_ne.2 (by simp at h2; omega)
    exact ⟨zs ++ [age], true, by simp; omega, fun b c w hn hbl hI => specAddAge_yes _ _ _ _ _ _ hn hbl hI h0 h1 h2', fun b c w hn hbl hI => addAge_yes _ _ _ _ _ _ hn hbl hI h0 h1 h2'⟩
end Go.Proofs.Ytonnknhmmljmaab
