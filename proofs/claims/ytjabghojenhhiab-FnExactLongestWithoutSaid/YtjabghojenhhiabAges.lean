/- Ages of a kind, one after the other: both texts. -/
import Derived.Test.YtjabghojenhhiabIs
import Derived.Test.YtjabghojenhhiabYto0
import Derived.WalkMore
set_option linter.unusedVariables false
set_option linter.unusedSimpArgs false
namespace Go.Proofs.Ytjabghojenhhiab
open Go.RowKit

def tK (p : Nat → Bool) (a : Int) : Bool := p a.toNat
/-- r is the least age above x that meets the test, if there is one. -/
def IsNext (t : Int → Bool) (x r : Int) (ok : Bool) : Prop :=
  (ok = true ∧ x < r ∧ r ≤ 120 ∧ t r = true ∧ ∀ j, x < j → j < r → t j = false) ∨ (ok = false ∧ r = 0 ∧ ∀ j, x < j → j ≤ 120 → t j = false)
theorem isNext_unique {t : Int → Bool} {x r r' : Int} {ok ok' : Bool} (h : IsNext t x r ok) (h' : IsNext t x r' ok') : r = r' ∧ ok = ok' := by
  rcases h with ⟨rfl, h1, h2, h3, h4⟩ | ⟨rfl, rfl, h4⟩
  · rcases h' with ⟨rfl, k1, k2, k3, k4⟩ | ⟨rfl, rfl, k4⟩
    · refine ⟨?_, rfl⟩
      by_cases e : r < r'
      · rw [k4 r h1 e] at h3; cases h3
      · by_cases e2 : r' < r
        · rw [h4 r' k1 e2] at k3; cases k3
        · omega
    · rw [k4 r h1 h2] at h3; cases h3
  · rcases h' with ⟨rfl, k1, k2, k3, k4⟩ | ⟨rfl, rfl, k4⟩
    · rw [h4 r' k1 k2] at k3; cases k3
    · exact ⟨rfl, rfl⟩
/-- A call returned the next age. -/
def RetNext (t : Int → Bool) (x : Int) (w : World) (e : Ending) (w' : World) : Prop := ∃ r ok, e = .returned (.tuple #[.int .i64 r, .bool ok]) ∧ IsNext t x r ok ∧ Below w.heap.size w w'
def NoneTo (t : Int → Bool) (x : Int) (k : Nat) : Prop := ∀ j, x < j → j ≤ x + k → t j = false
theorem noneTo_snoc {t : Int → Bool} {x : Int} {k : Nat} (h : NoneTo t x k) (h2 : t (x + k + 1) = false) : NoneTo t x (k + 1) := by
  intro j h3 h4
  by_cases e : j = x + k + 1
  · rw [e]; exact h2
  · exact h j h3 (by omega)

set_option maxHeartbeats 4000000 in
set_option maxRecDepth 100000 in
theorem ageAfter_any (p : Nat → Bool) (x : Int) (w : World) (h0 : -1 ≤ x) (h1 : x ≤ 120) : Calls Try.prog 49 #[.agg (pc p), .int .i64 x] w (RetNext (tK p) x w) := by
  go_enter Try.func49, Try.ntmps49
  go_wp2_with fail
  have HB := Lib.hid (blk_new w 43 (pc p))
  have HW : Below w.heap.size w (w.alloc (.cells (pc p) 43)) := (Below.refl _ _).alloc (Nat.le_refl _) _
  generalize w.alloc (.cells (pc p) 43) = w1 at *
  go_step3
  go_wp2
  go_step3
  go_wp2
  go_loop [6] (fun v => ∃ k : Nat, x + k ≤ 120 ∧ v = .int .i64 (x + (k : Int)) ∧ NoneTo (tK p) x k) (fun v => (121 - intOf v).toNat)
  case atStart => exact ⟨0, by omega, by go_num, fun j h2 h3 => by omega⟩
  case round =>
    obtain ⟨k, hk, rfl, hf⟩ := hrel
    by_cases h2 : 120 < x + (k : Int) + 1
    · have H : Hid (IsNext (tK p) x 0 false) := Lib.hid (.inr ⟨rfl, rfl, fun j h3 h4 => hf j h3 (by omega)⟩)
      clear hf
      go_wp2
      go_ret2
      exact ⟨_, _, rfl, H.out, HW⟩
    · obtain ⟨q, hq⟩ : ∃ q : Nat, x + (k : Int) + 1 = (q : Int) := ⟨(x + k + 1).toNat, by omega⟩
      have hq1 : q < 961 := by omega
      have hc : w1.cell? ⟨w.heap.size, q, none⟩ = some (.bool (p q)) := (HB.out.cell q).trans (pc_get p q hq1)
      have ht : tK p (x + k + 1) = p q := by unfold tK; rw [hq]; rfl
      have hq2 : (q : Int) < 961 := by omega
      have hi0 : (0 : Int) ≤ x + (k : Int) + 1 := by omega
      have hi1 : x + (k : Int) + 1 < 961 := by omega
      have hi2 : (x + (k : Int) + 1).toNat = q := by omega
      cases hp : p q with
      | true =>
        rw [hp] at hc ht
        have H : Hid (IsNext (tK p) x (x + k + 1) true) := Lib.hid (.inl ⟨rfl, by omega, by omega, ht, fun j h3 h4 => hf j h3 (by omega)⟩)
        clear hf ht hp hq
        go_wp2
        go_ret2
        exact ⟨_, _, rfl, H.out, HW⟩
      | false =>
        rw [hp] at hc ht
        have H := Lib.hid (noneTo_snoc hf ht)
        clear hf ht hp hq
        go_wp2
        go_round
        case rel => exact ⟨k + 1, by omega, by go_num, H.out⟩
        case measure => simp [intOf]; omega

theorem yTo_skip {t : Int → Bool} {c : Nat} : ∀ {j : Nat}, (∀ i : Int, c ≤ i → i < c + j → t i = false) → yTo t 0 (c + j) = yTo t 0 c := by
  intro j
  induction j with
  | zero => intro _; rfl
  | succ j ih =>
    intro h
    rw [← Nat.add_assoc, yTo_no (by rw [Int.zero_add]; exact h _ (by omega) (by omega))]
    exact ih fun i h1 h2 => h i h1 (by omega)
theorem next_true {t : Int → Bool} {c : Nat} {r : Int} (h : IsNext t ((c : Int) - 1) r true) : ∃ d : Nat, r = (d : Int) ∧ c ≤ d ∧ d ≤ 120 ∧ yTo t 0 (d + 1) = yTo t 0 c ++ [(d : Int)] := by
  rcases h with ⟨_, h1, h2, h3, h4⟩ | ⟨h, _⟩
  · refine ⟨r.toNat, by omega, by omega, by omega, ?_⟩
    have e : (0 : Int) + (r.toNat : Nat) = r := by omega
    rw [yTo_yes (by rw [e]; exact h3), e]
    have e2 : r.toNat = c + (r.toNat - c) := by omega
    have e3 : ((r.toNat : Nat) : Int) = r := by omega
    rw [e3, e2, yTo_skip]
    intro i h5 h6
    exact h4 i (by omega) (by omega)
  · cases h
theorem next_false {t : Int → Bool} {c : Nat} {r : Int} (h : IsNext t ((c : Int) - 1) r false) (hc : c ≤ 121) : yTo t 0 121 = yTo t 0 c := by
  rcases h with ⟨h, _⟩ | ⟨_, _, h4⟩
  · cases h
  · have e : 121 = c + (121 - c) := by omega
    rw [e, yTo_skip]
    intro i h5 h6
    exact h4 i (by omega) (by omega)

set_option maxHeartbeats 4000000 in
set_option maxRecDepth 100000 in
theorem ages_any (p : Nat → Bool) (w : World) : Calls Try.prog 48 #[.agg (pc p)] w (RetOwn (yTo (tK p) 0 121) w) := by
  obtain ⟨i0, hi, hz0, hz1, hz2⟩ := info_parts infoInt
  go_enter Try.func48, Try.ntmps48
  have HB := Lib.hid (blk_new w 43 (pc p))
  have HW : Below w.heap.size w (w.alloc (.cells (pc p) 43)) := (Below.refl _ _).alloc (Nat.le_refl _) _
  have hz : w.heap.size < (w.alloc (.cells (pc p) 43)).heap.size := by simp
  go_wp2_with (refine wpList_load_row rfl _ _ rfl _ 43 _ rfl HB.out 961 _ Try.underlying43 (sizeMarksOf _) ?_)
  generalize w.alloc (.cells (pc p) 43) = w1 at *
  refine (ageAfter_any p (-1) _ (by omega) (by omega)).mono ?_
  rintro e w2 ⟨r, ok, rfl, hn, hb2⟩
  have hw2 := HW.trans (hb2.mono HW.size)
  have hB2 := Lib.hid (HB.out.kept hb2 hz)
  clear HB HW hz hb2
  have HN := Lib.hid hn
  clear hn
  go_wp2_with fail
  go_loopw [3, 4, 5] (fun v a o wr => ∃ (c : Nat) (r : Int) (ok : Bool), c ≤ 121 ∧ a = .int .i64 r ∧ o = .bool ok ∧ Hid (IsNext (tK p) ((c : Int) - 1) r ok) ∧ Own (w.heap.size + 1) wr v (yTo (tK p) 0 c) ∧ Below w.heap.size w wr ∧ Hid (Blk wr w.heap.size 43 (pc p))) (fun _ a o _ => match o with | .bool true => (122 - intOf a).toNat + 1 | _ => 0)
  case atStart => exact ⟨0, r, ok, by omega, rfl, rfl, HN, own_nil _ _, hw2, hB2⟩
  case round =>
    obtain ⟨c, r, ok, hc, rfl, rfl, hn, ho, hb, hB⟩ := hrel
    cases ok with
    | true =>
      obtain ⟨d, rfl, hd1, hd2, hd3⟩ := next_true hn.out
      have HT := Lib.hid hd3
      have hs := yTo_len (tK p) 0 c
      have hsz := hb.size
      have hlt := hB.out.lt
      clear hd3
      go_wp2_with (first | (at_builtin; refine wpList_append_own _ rfl _ _ 25 rfl (w.heap.size + 1) 3 i0 (.int .i64 0) 1 8 Try.underlying25 hi hz0 hz1 hz2 rfl (by decide) _ _ _ rfl (World.ownsRow.alloc ho _) ⟨wr.heap.size, 0, none⟩ 1 1 [.int .i64 (d : Int)] rfl rfl (newCell _ _ _) (oneInt _) ?c3 ?c4 ?c5 ?_))
      case c3 => unfold maxLen; omega
      case c4 => omega
      case c5 => simp; omega
      intro v' w3 hown' hgrow _
      have hkb : Below (w.heap.size + 1) wr w3 := by
        have h1 : Below (w.heap.size + 1) wr (wr.alloc (.cells #[.int .i64 (d : Int)] 3)) := (Below.refl _ _).alloc (by omega) _
        exact h1.grown hgrow (by simp; omega) (fun k hk => (World.ownsRow.lt ho k hk).1)
      have hb3 := hb.trans (hkb.mono (by omega))
      have hB3 := Lib.hid (hB.out.kept hkb (by omega))
      have ho3 := own_push hown'
      rw [← HT.out] at ho3
      clear hown' hgrow hkb
      go_wp2_with (refine wpList_load_row rfl _ _ rfl _ 43 _ rfl hB3.out 961 _ Try.underlying43 (sizeMarksOf _) ?_)
      refine (ageAfter_any p (d : Int) _ (by omega) (by omega)).mono ?_
      rintro e w4 ⟨r2, ok2, rfl, hn2, hb4⟩
      have hz3 := hB3.out.lt
      have hsz3 := hb3.size
      have hb4' := hb3.trans (hb4.mono hsz3)
      have hB4 := Lib.hid (hB3.out.kept hb4 hz3)
      have ho4 := ho3.kept hb4
      have HN2 : Hid (IsNext (tK p) (((d + 1 : Nat) : Int) - 1) r2 ok2) := Lib.hid (by rw [show (((d + 1 : Nat) : Int) - 1) = (d : Int) by omega]; exact hn2)
      have hr2 : ok2 = true → (d : Int) < r2 ∧ r2 ≤ 120 := fun h => by
        rcases hn2 with ⟨_, h1, h2, _⟩ | ⟨h1, _⟩
        · exact ⟨h1, h2⟩
        · rw [h] at h1; cases h1
      clear hb4 hn2
      go_wp2_with fail
      go_roundw
      case rel => exact ⟨d + 1, r2, ok2, by omega, rfl, rfl, HN2, ho4, hb4', hB4⟩
      case measure =>
        cases ok2 with
        | true => have := hr2 rfl; simp [intOf]; omega
        | false => simp
    | false =>
      have HE := Lib.hid (next_false hn.out hc)
      go_wp2
      go_ret
      exact ⟨_, rfl, by rw [HE.out]; exact ho.mono (by omega), hb⟩
end Go.Proofs.Ytjabghojenhhiab
