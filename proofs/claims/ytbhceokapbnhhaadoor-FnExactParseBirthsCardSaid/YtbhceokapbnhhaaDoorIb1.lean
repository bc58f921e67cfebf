/- Births and ages of all, of the program. -/
import Derived.Test.YtbhceokapbnhhaaDoorIm2
import Derived.Test.YtbhceokapbnhhaaDoorBi10
set_option linter.unusedVariables false
set_option linter.unusedSimpArgs false
namespace Go.Proofs.YtbhceokapbnhhaaDoor
open Go.RowKit

set_option maxHeartbeats 1000000 in
theorem imBirths_any (b off n c : Nat) (ds : List Dt) (w : World) (hl : ds.length = n) (hI : Dts w b off ds) (hbl : b < w.heap.size) :
    Calls Tryd.prog 17 #[.slice (some ⟨b, off, none⟩) n c] w (Ret (.bool (birthsB ds)) w) := by
  have HL := Lib.hid hl
  cases hL : inB n 1 8 with
  | false =>
    rw [show birthsB ds = false by unfold birthsB; rw [hl, hL]; rfl]
    clear hl
    go_enter Tryd.func17, Tryd.ntmps17
    go_wp2_with (go_at_call 27; refine (imWithin_any _ _ _ _).mono ?_; rintro e w' ⟨rfl, rfl⟩)
    go_ret
    exact ⟨rfl, Below.refl _ _⟩
  | true =>
    have h8 := inB_iff.1 hL
    have hB : Hid (birthsB ds = ds.all dateB) := Lib.hid (by unfold birthsB; rw [hl, hL]; rfl)
    clear hl
    go_enter Tryd.func17, Tryd.ntmps17
    go_wp2_with (go_at_call 27; refine (imWithin_any _ _ _ _).mono ?_; rintro e w' ⟨rfl, rfl⟩)
    go_loopw [11] (fun v wr => ∃ k : Nat, k ≤ n ∧ v = .int .i64 k ∧ Hid (∀ j, j < k → dateB (at2 ds j) = true) ∧ Below w.heap.size w wr) (fun v _ => n - (intOf v).toNat)
    case atStart => exact ⟨0, Nat.zero_le _, rfl, Lib.hid (fun j hj => absurd hj (by omega)), Below.refl _ _⟩
    case round =>
      obtain ⟨k, hk, rfl, HA, hb⟩ := hrel
      have hsz := hb.size
      by_cases hlt : k < n
      · obtain ⟨p1, p2⟩ := (hI.kept hb hbl) k (by rw [HL.out]; exact hlt)
        cases hz : dateB (at2 ds k) with
        | true =>
          have HZ := Lib.hid hz
          rw [pair_eta ds k] at hz
          have HK := fun w => imIsDate_any (at2 ds k).1 (at2 ds k).2 w
          rw [hz] at HK
          have HK' := Lib.hid HK
          clear HK hz
          generalize (at2 ds k).1 = y at p1 HK'
          generalize (at2 ds k).2 = d at p2 HK'
          go_wp2_with (go_at_call 28; refine (HK'.out _).mono ?_; rintro e w' ⟨rfl, hcall⟩)
          go_roundw
          case rel => exact ⟨k + 1, by omega, by go_num, Lib.hid (fun j hj => by rcases Nat.lt_succ_iff_lt_or_eq.1 hj with h | rfl; exact HA.out j h; exact HZ.out), (hb.alloc hsz _).trans (hcall.mono (by simp; omega))⟩
          case measure => simp [intOf]; omega
        | false =>
          have HF := Lib.hid (all_not (ds := ds) (t := dateB) k (by rw [HL.out]; exact hlt) hz)
          rw [pair_eta ds k] at hz
          have HK := fun w => imIsDate_any (at2 ds k).1 (at2 ds k).2 w
          rw [hz] at HK
          have HK' := Lib.hid HK
          clear HK hz
          generalize (at2 ds k).1 = y at p1 HK'
          generalize (at2 ds k).2 = d at p2 HK'
          go_wp2_with (go_at_call 28; refine (HK'.out _).mono ?_; rintro e w' ⟨rfl, hcall⟩)
          go_ret
          exact ⟨by rw [hB.out, HF.out]; rfl, (hb.alloc hsz _).trans (hcall.mono (by simp; omega))⟩
      · have HF := Lib.hid ((all_at (ds := ds) (t := dateB)).2 fun j hj => HA.out j (by rw [HL.out] at hj; omega))
        go_wp2_with fail
        go_ret
        exact ⟨by rw [hB.out, HF.out]; rfl, hb⟩


end Go.Proofs.YtbhceokapbnhhaaDoor
