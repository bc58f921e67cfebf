/- Chains of ratios: both texts. -/
import Derived.Test.YtmidobhfahpkcaaRg
import Derived.Test.YtmidobhfahpkcaaRatHelp2
import Derived.Deep.QuietTactic
import Derived.BigQuiet
set_option linter.unusedVariables false
set_option linter.unusedSimpArgs false
namespace Go.Proofs.Ytmidobhfahpkcaa
open Go.RowKit

def chB (ds : List Dt) : Bool := inB ds.length 1 6 && ds.all ratB
theorem chB_len {ds : List Dt} (h : chB ds = true) : 1 ≤ ds.length ∧ ds.length ≤ 6 := by
  unfold chB at h; rw [Bool.and_eq_true, inB_iff] at h; omega
theorem chB_at {ds : List Dt} (h : chB ds = true) (j : Nat) (hj : j < ds.length) : ratB (at2 ds j) = true := by
  unfold chB at h; rw [Bool.and_eq_true] at h
  exact all_at.1 h.2 j hj
theorem pair_eta (ds : List Dt) (k : Nat) : at2 ds k = ((at2 ds k).1, (at2 ds k).2) := rfl
set_option maxHeartbeats 1000000 in
theorem raChain_any (b off n c : Nat) (ds : List Dt) (w : World) (hl : ds.length = n) (hI : Dts w b off ds) (hbl : b < w.heap.size) :
    Calls Try.prog 69 #[.slice (some ⟨b, off, none⟩) n c] w (Ret (.bool (chB ds)) w) := by
  have HL := Lib.hid hl
  cases hL : inB n 1 6 with
  | false =>
    rw [show chB ds = false by unfold chB; rw [hl, hL]; rfl]
    clear hl
    go_enter Try.func69, Try.ntmps69
    go_wp2_with (go_at_call 56; refine (l1In_any _ _ _ _).mono ?_; rintro e w' ⟨rfl, rfl⟩)
    go_ret
    exact ⟨rfl, Below.refl _ _⟩
  | true =>
    have h8 := inB_iff.1 hL
    have hB : Hid (chB ds = ds.all ratB) := Lib.hid (by unfold chB; rw [hl, hL]; rfl)
    clear hl
    go_enter Try.func69, Try.ntmps69
    go_wp2_with (go_at_call 56; refine (l1In_any _ _ _ _).mono ?_; rintro e w' ⟨rfl, rfl⟩)
    go_loopw [11] (fun v wr => ∃ k : Nat, k ≤ n ∧ v = .int .i64 k ∧ Hid (∀ j, j < k → ratB (at2 ds j) = true) ∧ Below w.heap.size w wr) (fun v _ => n - (intOf v).toNat)
    case atStart => exact ⟨0, Nat.zero_le _, rfl, Lib.hid (fun j hj => absurd hj (by omega)), Below.refl _ _⟩
    case round =>
      obtain ⟨k, hk, rfl, HA, hb⟩ := hrel
      have hsz := hb.size
      by_cases hlt : k < n
      · obtain ⟨p1, p2⟩ := (hI.kept hb hbl) k (by rw [HL.out]; exact hlt)
        cases hz : ratB (at2 ds k) with
        | true =>
          have HZ := Lib.hid hz
          rw [pair_eta ds k] at hz
          have HK := fun w => raGood_any (at2 ds k).1 (at2 ds k).2 w
          rw [hz] at HK
          have HK' := Lib.hid HK
          clear HK hz
          generalize (at2 ds k).1 = y at p1 HK'
          generalize (at2 ds k).2 = d at p2 HK'
          go_wp2_with (go_at_call 49; refine (HK'.out _).mono ?_; rintro e w' ⟨rfl, hcall⟩)
          go_roundw
          case rel => exact ⟨k + 1, by omega, by go_num, Lib.hid (fun j hj => by rcases Nat.lt_succ_iff_lt_or_eq.1 hj with h | rfl; exact HA.out j h; exact HZ.out), (hb.alloc hsz _).trans (hcall.mono (by simp; omega))⟩
          case measure => simp [intOf]; omega
        | false =>
          have HF := Lib.hid (all_not (ds := ds) (t := ratB) k (by rw [HL.out]; exact hlt) hz)
          rw [pair_eta ds k] at hz
          have HK := fun w => raGood_any (at2 ds k).1 (at2 ds k).2 w
          rw [hz] at HK
          have HK' := Lib.hid HK
          clear HK hz
          generalize (at2 ds k).1 = y at p1 HK'
          generalize (at2 ds k).2 = d at p2 HK'
          go_wp2_with (go_at_call 49; refine (HK'.out _).mono ?_; rintro e w' ⟨rfl, hcall⟩)
          go_ret
          exact ⟨by rw [hB.out, HF.out]; rfl, (hb.alloc hsz _).trans (hcall.mono (by simp; omega))⟩
      · have HF := Lib.hid ((all_at (ds := ds) (t := ratB)).2 fun j hj => HA.out j (by rw [HL.out] at hj; omega))
        go_wp2_with fail
        go_ret
        exact ⟨by rw [hB.out, HF.out]; rfl, hb⟩

set_option maxHeartbeats 1000000 in
theorem areRatios_any (b off n c : Nat) (ds : List Dt) (w : World) (hl : ds.length = n) (hI : Dts w b off ds) (hbl : b < w.heap.size) :
    Calls Try.prog 71 #[.slice (some ⟨b, off, none⟩) n c] w (Ret (.bool (chB ds)) w) := by
  have HL := Lib.hid hl
  cases hL : inB n 1 6 with
  | false =>
    rw [show chB ds = false by unfold chB; rw [hl, hL]; rfl]
    clear hl
    go_enter Try.func71, Try.ntmps71
    go_wp2_with (go_at_call 50; refine (isWithin_any _ _ _ _).mono ?_; rintro e w' ⟨rfl, rfl⟩)
    go_ret
    exact ⟨rfl, Below.refl _ _⟩
  | true =>
    have h8 := inB_iff.1 hL
    have hB : Hid (chB ds = ds.all ratB) := Lib.hid (by unfold chB; rw [hl, hL]; rfl)
    clear hl
    go_enter Try.func71, Try.ntmps71
    go_wp2_with (go_at_call 50; refine (isWithin_any _ _ _ _).mono ?_; rintro e w' ⟨rfl, rfl⟩)
    go_loopw [11] (fun v wr => ∃ k : Nat, k ≤ n ∧ v = .int .i64 k ∧ Hid (∀ j, j < k → ratB (at2 ds j) = true) ∧ Below w.heap.size w wr) (fun v _ => n - (intOf v).toNat)
    case atStart => exact ⟨0, Nat.zero_le _, rfl, Lib.hid (fun j hj => absurd hj (by omega)), Below.refl _ _⟩
    case round =>
      obtain ⟨k, hk, rfl, HA, hb⟩ := hrel
      have hsz := hb.size
      by_cases hlt : k < n
      · obtain ⟨p1, p2⟩ := (hI.kept hb hbl) k (by rw [HL.out]; exact hlt)
        cases hz : ratB (at2 ds k) with
        | true =>
          have HZ := Lib.hid hz
          rw [pair_eta ds k] at hz
          have HK := fun w => isRatio_any (at2 ds k).1 (at2 ds k).2 w
          rw [hz] at HK
          have HK' := Lib.hid HK
          clear HK hz
          generalize (at2 ds k).1 = y at p1 HK'
          generalize (at2 ds k).2 = d at p2 HK'
          go_wp2_with (go_at_call 17; refine (HK'.out _).mono ?_; rintro e w' ⟨rfl, hcall⟩)
          go_roundw
          case rel => exact ⟨k + 1, by omega, by go_num, Lib.hid (fun j hj => by rcases Nat.lt_succ_iff_lt_or_eq.1 hj with h | rfl; exact HA.out j h; exact HZ.out), (hb.alloc hsz _).trans (hcall.mono (by simp; omega))⟩
          case measure => simp [intOf]; omega
        | false =>
          have HF := Lib.hid (all_not (ds := ds) (t := ratB) k (by rw [HL.out]; exact hlt) hz)
          rw [pair_eta ds k] at hz
          have HK := fun w => isRatio_any (at2 ds k).1 (at2 ds k).2 w
          rw [hz] at HK
          have HK' := Lib.hid HK
          clear HK hz
          generalize (at2 ds k).1 = y at p1 HK'
          generalize (at2 ds k).2 = d at p2 HK'
          go_wp2_with (go_at_call 17; refine (HK'.out _).mono ?_; rintro e w' ⟨rfl, hcall⟩)
          go_ret
          exact ⟨by rw [hB.out, HF.out]; rfl, (hb.alloc hsz _).trans (hcall.mono (by simp; omega))⟩
      · have HF := Lib.hid ((all_at (ds := ds) (t := ratB)).2 fun j hj => HA.out j (by rw [HL.out] at hj; omega))
        go_wp2_with fail
        go_ret
        exact ⟨by rw [hB.out, HF.out]; rfl, hb⟩


end Go.Proofs.Ytmidobhfahpkcaa
