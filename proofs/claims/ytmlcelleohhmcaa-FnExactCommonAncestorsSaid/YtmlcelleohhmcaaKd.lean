/- kindredOf: the program's text. -/
import Derived.Test.YtmlcelleohhmcaaFb3
import Derived.Test.YtmlcelleohhmcaaRel
set_option linter.unusedVariables false
set_option linter.unusedSimpArgs false
namespace Go.Proofs.Ytmlcelleohhmcaa
open Go.RowKit

/-- A call returned all relatives of a family, or none. -/
def RetKd (fs : List Kn) (w : World) (e : Ending) (w' : World) : Prop :=
  ∃ g, w.heap.size ≤ g ∧ e = .returned (.tuple #[.slice (some ⟨g, 0, none⟩) fs.length fs.length, .bool true]) ∧ OwnR fs w.heap.size w' (.slice (some ⟨g, 0, none⟩) fs.length fs.length) (allN fs) ∧ Below w.heap.size w w'
theorem kindred_no (b n c : Nat) (fs : List Kn) (w : World) (hl : fs.length = n) (hnc : n ≤ c) (hbl : b < w.heap.size) (hI : Kns w b 0 fs) (hf : famB fs = false) :
    Calls Try.prog 56 #[.slice (some ⟨b, 0, none⟩) n c] w (Ret (.tuple #[.slice none 0 0, .bool false]) w) := by
  have HC := Lib.hid (imFam_any b n c fs w hl hnc hbl hI)
  rw [hf] at HC
  clear hl
  go_enter Try.func56, Try.ntmps56
  go_wp2_with (go_at_call 76; refine HC.out.mono ?_; rintro e w' ⟨rfl, hb⟩)
  go_ret2
  exact ⟨rfl, hb⟩
set_option maxHeartbeats 2000000 in
theorem kindred_yes (b n c : Nat) (fs : List Kn) (w : World) (hl : fs.length = n) (hnc : n ≤ c) (hbl : b < w.heap.size) (hI : Kns w b 0 fs) (hf : famB fs = true) :
    Calls Try.prog 56 #[.slice (some ⟨b, 0, none⟩) n c] w (RetKd fs w) := by
  obtain ⟨i0, hi, hz0, hz1, hz2⟩ := info_parts infoRel
  have HC := Lib.hid (imFam_any b n c fs w hl hnc hbl hI)
  rw [hf] at HC
  have hn := (famB_len hf).2
  rw [hl] at hn
  have HL := Lib.hid hl
  have HI := Lib.hid hI
  clear hl hI hf
  go_enter Try.func56, Try.ntmps56
  go_wp2_with (first | (go_at_call 76; refine HC.out.mono ?_; rintro e w1 ⟨rfl, hb1⟩; have hs1 := hb1.size) | (at_make; refine wpList_make_full _ rfl _ _ 52 rfl w1.heap.size 70 i0 _ 4 Try.underlying52 hi hz0 hz1 .i64 .i64 n n n rfl rfl rfl rfl ?c1 ?c2 ?c3 ?_))
  case c1 => rw [hz2]; omega
  case c2 => unfold maxLen; omega
  case c3 => exact Nat.le_refl _
  intro w2 hown hgr
  go_wp2_with fail
  go_loopw [15] (fun v wr => ∃ (k : Nat) (xs : List Value), k ≤ n ∧ v = .int .i64 k ∧ wr.ownsRow w1.heap.size 70 4 (.slice (some ⟨w1.heap.size, 0, none⟩) n n) n xs ∧ RlTo fs (allN fs) k xs ∧ Below w1.heap.size w1 wr) (fun v _ => n - (intOf v).toNat)
  case atStart => exact ⟨0, _, Nat.zero_le _, rfl, hown, rlTo_zero _ _ _, (Below.refl _ _).grown hgr (Nat.le_refl _) (by simp)⟩
  case round =>
    obtain ⟨k, xs, hk, rfl, hr, hx, hb⟩ := hrel
    have HX := Lib.hid hx
    have HR := Lib.hid hr
    have hxl : Hid (xs.length = n * 4) := Lib.hid hr.1
    have hsz := hb.size
    clear hx hr
    by_cases hlt : k < n
    · obtain ⟨hc0, hc1, hc2⟩ := (HI.out.kept (hb1.trans (hb.mono hs1)) hbl) k (by rw [HL.out]; exact hlt)
      rw [Nat.zero_add] at hc0 hc1 hc2
      obtain ⟨u0, hu0⟩ : ∃ u, xs[k * 4]? = some u := ⟨_, List.getElem?_eq_getElem (by rw [hxl.out]; omega)⟩
      obtain ⟨u1, hu1⟩ : ∃ u, xs[k * 4 + 1]? = some u := ⟨_, List.getElem?_eq_getElem (by rw [hxl.out]; omega)⟩
      obtain ⟨u2, hu2⟩ : ∃ u, xs[k * 4 + 2]? = some u := ⟨_, List.getElem?_eq_getElem (by rw [hxl.out]; omega)⟩
      obtain ⟨u3, hu3⟩ : ∃ u, xs[k * 4 + 3]? = some u := ⟨_, List.getElem?_eq_getElem (by rw [hxl.out]; omega)⟩
      have hr1 := World.ownsRow.alloc HR.out (.cells #[.int .i64 (at3 fs k).1, .int .i64 (at3 fs k).2.1, .int .i64 (at3 fs k).2.2] 45)
      have hd0 := (World.ownsRow.cellAt hr1 (k * 4) (by omega)).trans hu0
      have hd1 := (World.ownsRow.cellAt hr1 (k * 4 + 1) (by omega)).trans hu1
      have hd2 := (World.ownsRow.cellAt hr1 (k * 4 + 2) (by omega)).trans hu2
      have hd3 := (World.ownsRow.cellAt hr1 (k * 4 + 3) (by omega)).trans hu3
      have hf0 := World.ownsRow.frozenAt hr1 (k * 4)
      have hf1 := World.ownsRow.frozenAt hr1 (k * 4 + 1)
      have hf2 := World.ownsRow.frozenAt hr1 (k * 4 + 2)
      have hf3 := World.ownsRow.frozenAt hr1 (k * 4 + 3)
      have HS := Lib.hid (World.ownsRow.stored (World.ownsRow.stored (World.ownsRow.stored (World.ownsRow.stored hr1 (k * 4) (.int .i64 (at3 fs k).1)).1 (k * 4 + 1) (.int .i64 (at3 fs k).2.1)).1 (k * 4 + 2) (.int .i64 (at3 fs k).2.2)).1 (k * 4 + 3) (.int .i64 k))
      have hp := rlTo_step (k := k) HX.out (by rw [hxl.out]; omega)
      rw [allN_at fs k (by rw [HL.out]; exact hlt)] at hp
      have HP := Lib.hid hp
      clear hu0 hu1 hu2 hu3 hp hr1
      generalize (at3 fs k).1 = y at *
      generalize (at3 fs k).2.1 = d at *
      generalize (at3 fs k).2.2 = o at *
      have hn0 : (0 : Int) ≤ (k : Int) := by omega
      have hn1 : (k : Int) < (n : Int) := by omega
      go_wp2_with fail
      go_roundw
      case rel => exact ⟨k + 1, _, by omega, by go_num, HS.out.1, HP.out, (((((hb.alloc hsz _).setCell (Nat.le_refl _) _).setCell (Nat.le_refl _) _).setCell (Nat.le_refl _) _).setCell (Nat.le_refl _) _)⟩
      case measure => simp [intOf]; omega
    · have hkn : k = n := by omega
      go_wp2_with fail
      go_ret2
      subst hkn
      have hl := HL.out
      have ho := ownR_of (by rw [allN_len]; exact hl) HR.out HX.out
      subst hl
      exact ⟨w1.heap.size, hs1, rfl, ho.mono hs1, hb1.trans (hb.mono hs1)⟩
end Go.Proofs.Ytmlcelleohhmcaa
