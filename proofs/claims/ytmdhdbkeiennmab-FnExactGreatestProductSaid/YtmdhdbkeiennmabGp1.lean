/- GreatestProduct: both texts. -/
import Derived.Test.YtmdhdbkeiennmabPs2
set_option linter.unusedVariables false
set_option linter.unusedSimpArgs false
namespace Go.Proofs.Ytmdhdbkeiennmab
open Go.RowKit

theorem lastOfP_some (B g c : Nat) (zs : List Int) (w : World) (h0 : 0 < zs.length) (h1 : zs.length ≤ 1048576) (hI : Ints w g 0 zs) :
    Calls Try.prog 56 #[.slice (some ⟨g, 0, none⟩) zs.length c] w (RetIB (zs.getD (zs.length - 1) 0) true w) := by
  have hc := hI (zs.length - 1) (by omega)
  rw [Nat.zero_add] at hc
  have hne : ((zs.length : Int) == 0) = false := beq_eq_false_iff_ne.2 (by omega)
  generalize hz : zs.getD (zs.length - 1) 0 = z at hc
  have HZ := Lib.hid hz
  clear hz
  go_enter Try.func56, Try.ntmps56
  go_wp2
  go_ret2
  exact ⟨rfl, Below.refl _ _⟩
theorem lastOfP_none (a : Option Addr) (c : Nat) (w : World) :
    Calls Try.prog 56 #[.slice a 0 c] w (RetIB 0 false w) := by
  go_enter Try.func56, Try.ntmps56
  go_wp2
  go_ret2
  exact ⟨rfl, Below.refl _ _⟩

theorem own_litP {B : Nat} {w : World} {v : Value} {zs : List Int} (h : Own B w v zs) : ∃ a c, v = .slice a zs.length c := by
  rcases h.cases with ⟨rfl, rfl⟩ | ⟨g, c, rfl, _⟩
  · exact ⟨_, _, rfl⟩
  · exact ⟨_, _, rfl⟩
set_option maxHeartbeats 1600000 in
theorem imGreatest_nil (N S : Int) (ok : Bool) (w : World) (h : ∀ w, Calls Try.prog 24 #[.int .i64 N, .int .i64 S] w (RetOwnB [] ok w)) :
    Calls Try.prog 28 #[.int .i64 N, .int .i64 S] w (RetIB 0 false w) := by
  have H := Lib.hid (fun W => (h W).mono (fun e W' h => (show ∃ a c, e = .returned (.tuple #[.slice a 0 c, .bool ok]) ∧ Below W.heap.size W W' from by
    obtain ⟨v, rfl, ho, hb⟩ := h
    obtain ⟨a, c, rfl⟩ := own_litP ho
    exact ⟨a, c, rfl, hb⟩)))
  clear h
  go_enter Try.func28, Try.ntmps28
  go_wp2_with (first | (go_at_call 24; refine (H.out _).mono ?_; rintro e w1 ⟨a, c, rfl, hb⟩) | (go_at_call 56; refine (lastOfP_none _ _ _).mono ?_; rintro e w2 ⟨rfl, hb2⟩))
  go_ret2
  exact ⟨rfl, hb.trans (hb2.mono hb.size)⟩
set_option maxHeartbeats 1600000 in
theorem spGreatest_no (N S : Int) (w : World) (h : ∀ w, Calls Try.prog 23 #[.int .i64 N, .int .i64 S] w (RetOwnB [] false w)) :
    Calls Try.prog 27 #[.int .i64 N, .int .i64 S] w (RetIB 0 false w) := by
  have H := Lib.hid (fun W => (h W).mono (fun e W' h => (show ∃ a c, e = .returned (.tuple #[.slice a 0 c, .bool false]) ∧ Below W.heap.size W W' from by
    obtain ⟨v, rfl, ho, hb⟩ := h
    obtain ⟨a, c, rfl⟩ := own_litP ho
    exact ⟨a, c, rfl, hb⟩)))
  clear h
  go_enter Try.func27, Try.ntmps27
  go_wp2_with (first | (go_at_call 23; refine (H.out _).mono ?_; rintro e w1 ⟨a, c, rfl, hb⟩))
  go_ret2
  exact ⟨rfl, hb⟩
set_option maxHeartbeats 1600000 in
theorem spGreatest_nil (N S : Int) (w : World) (h : ∀ w, Calls Try.prog 23 #[.int .i64 N, .int .i64 S] w (RetOwnB [] true w)) :
    Calls Try.prog 27 #[.int .i64 N, .int .i64 S] w (RetIB 0 false w) := by
  have H := Lib.hid (fun W => (h W).mono (fun e W' h => (show ∃ a c, e = .returned (.tuple #[.slice a 0 c, .bool true]) ∧ Below W.heap.size W W' from by
    obtain ⟨v, rfl, ho, hb⟩ := h
    obtain ⟨a, c, rfl⟩ := own_litP ho
    exact ⟨a, c, rfl, hb⟩)))
  clear h
  go_enter Try.func27, Try.ntmps27
  go_wp2_with (first | (go_at_call 23; refine (H.out _).mono ?_; rintro e w1 ⟨a, c, rfl, hb⟩))
  go_ret2
  exact ⟨rfl, hb⟩
/-- A list that is not empty, as its cells stand. -/
def RetLast (l : Nat) (z : Int) (w : World) (e : Ending) (w' : World) : Prop :=
  ∃ g c, e = .returned (.tuple #[.slice (some ⟨g, 0, none⟩) (l + 1) c, .bool true]) ∧ w'.cell? ⟨g, l, none⟩ = some (.int .i64 z) ∧ Below w.heap.size w w'
theorem retLast {rs : List Int} {l : Nat} {w w' : World} {e : Ending} (hl : rs.length = l + 1) (h : RetOwnB rs true w e w') : RetLast l (rs.getD l 0) w e w' := by
  obtain ⟨v, rfl, ho, hb⟩ := h
  rcases ho.cases with ⟨_, rfl⟩ | ⟨g, c, rfl, _, _, _, _, hI, _⟩
  · simp at hl
  · have := hI l (by omega)
    rw [Nat.zero_add] at this
    exact ⟨g, c, by rw [hl], this, hb⟩
set_option maxHeartbeats 1600000 in
theorem spGreatest_yes (N S z : Int) (l : Nat) (w : World) (hl : l ≤ 160000) (h : ∀ w, Calls Try.prog 23 #[.int .i64 N, .int .i64 S] w (RetLast l z w)) :
    Calls Try.prog 27 #[.int .i64 N, .int .i64 S] w (RetIB z true w) := by
  have H := Lib.hid h
  unfold RetLast at H
  have hne : ((l : Int) + 1 == 0) = false := beq_eq_false_iff_ne.2 (by omega)
  have hne2 : ¬ (l : Int) + 1 = 0 := by omega
  have k5 : IntKind.i64.wrap ((l : Int) + 1 - 1) = (l : Int) := by rw [show (l : Int) + 1 - 1 = (l : Int) by omega]; exact IntWalk.i64_in _ (by omega)
  have k7 : IntKind.i64.wrap (l : Int) = (l : Int) := IntWalk.i64_in _ (by omega)
  have b1 : (0 : Int) ≤ (l : Int) := by omega
  have b2 : (l : Int) < (l : Int) + 1 := by omega
  clear h
  go_enter Try.func27, Try.ntmps27
  go_wp2_with (first | (go_at_call 23; refine (H.out _).mono ?_; rintro e w1 ⟨g, c, rfl, hc, hb⟩))
  go_ret2
  exact ⟨rfl, hb⟩
set_option maxHeartbeats 1600000 in
theorem lastOfP_at (g c l : Nat) (z : Int) (w : World) (hl : l ≤ 160000) (hc : w.cell? ⟨g, l, none⟩ = some (.int .i64 z)) :
    Calls Try.prog 56 #[.slice (some ⟨g, 0, none⟩) (l + 1) c] w (RetIB z true w) := by
  have hne : ((l : Int) + 1 == 0) = false := beq_eq_false_iff_ne.2 (by omega)
  have hne2 : ¬ (l : Int) + 1 = 0 := by omega
  have k5 : IntKind.i64.wrap ((l : Int) + 1 - 1) = (l : Int) := by rw [show (l : Int) + 1 - 1 = (l : Int) by omega]; exact IntWalk.i64_in _ (by omega)
  have k7 : IntKind.i64.wrap (l : Int) = (l : Int) := IntWalk.i64_in _ (by omega)
  have b1 : (0 : Int) ≤ (l : Int) := by omega
  have b2 : (l : Int) < (l : Int) + 1 := by omega
  go_enter Try.func56, Try.ntmps56
  go_wp2
  go_ret2
  exact ⟨rfl, Below.refl _ _⟩
set_option maxHeartbeats 1600000 in
theorem imGreatest_yes (N S z : Int) (l : Nat) (w : World) (hl : l ≤ 160000) (h : ∀ w, Calls Try.prog 24 #[.int .i64 N, .int .i64 S] w (RetLast l z w)) :
    Calls Try.prog 28 #[.int .i64 N, .int .i64 S] w (RetIB z true w) := by
  have H := Lib.hid h
  unfold RetLast at H
  have HL := Lib.hid (fun (g c : Nat) (W : World) hc => lastOfP_at g c l z W hl hc)
  clear h
  go_enter Try.func28, Try.ntmps28
  go_wp2_with (first | (go_at_call 24; refine (H.out _).mono ?_; rintro e w1 ⟨g, c, rfl, hc, hb⟩) | (go_at_call 56; refine (HL.out g c _ hc).mono ?_; rintro e w2 ⟨rfl, hb2⟩))
  go_ret2
  exact ⟨rfl, hb.trans (hb2.mono hb.size)⟩
theorem greatest_both (N S : Int) : ∃ r ok,
    (∀ w, Calls Try.prog 27 #[.int .i64 N, .int .i64 S] w (RetIB r ok w)) ∧
    (∀ w, Calls Try.prog 28 #[.int .i64 N, .int .i64 S] w (RetIB r ok w)) := by
  obtain ⟨rs, ok, hl, hno, h1, h2⟩ := productsOfSum_bothP N S
  by_cases hz : rs = []
  · subst hz
    cases ok with
    | false => exact ⟨0, false, fun w => spGreatest_no N S w h1, fun w => imGreatest_nil N S _ w h2⟩
    | true => exact ⟨0, false, fun w => spGreatest_nil N S w h1, fun w => imGreatest_nil N S _ w h2⟩
  · have hok : ok = true := by
      cases ok with
      | false => exact absurd (hno rfl) hz
      | true => rfl
    subst hok
    obtain ⟨l, hll⟩ : ∃ l, rs.length = l + 1 := ⟨rs.length - 1, by have := List.length_pos_iff.2 hz; omega⟩
    exact ⟨_, true, fun w => spGreatest_yes N S _ l w (by omega) (fun W => (h1 W).mono (fun e W' h => retLast hll h)), fun w => imGreatest_yes N S _ l w (by omega) (fun W => (h2 W).mono (fun e W' h => retLast hll h))⟩
end Go.Proofs.Ytmdhdbkeiennmab
