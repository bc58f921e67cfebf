/- Births: both texts. -/
import Derived.Test.YtadfojjglceheaaDoorGood
set_option linter.unusedVariables false
set_option linter.unusedSimpArgs false
namespace Go.Proofs.YtadfojjglceheaaDoor
open Go.RowKit

/-- Births of people. -/
def bornB (zs : List Int) : Bool := inB zs.length 1 10 && allB zs 0 2900
theorem bornB_len {zs : List Int} (h : bornB zs = true) : 1 ≤ zs.length ∧ zs.length ≤ 10 := by
  unfold bornB at h; rw [Bool.and_eq_true, inB_iff] at h; omega
theorem bornB_at {zs : List Int} (h : bornB zs = true) (j : Nat) (hj : j < zs.length) : 0 ≤ zs.getD j 0 ∧ zs.getD j 0 ≤ 2900 := by
  unfold bornB at h; rw [Bool.and_eq_true] at h; exact inB_iff.1 (allB_iff.1 h.2 j hj)

theorem isBirth_any (n : Int) (w : World) : Calls Tryd.prog 24 #[.int .i64 n] w (RetSame (.bool (inB n 0 2900)) w) := by
  go_enter Tryd.func24, Tryd.ntmps24
  go_wp2_with (first | (go_at_call 23; refine (isWithin_any _ _ _ _).mono ?_; rintro e w' ⟨rfl, rfl⟩))
  go_ret
  exact ⟨rfl, rfl⟩

set_option maxHeartbeats 400000 in
theorem areBirths_any (b off n c : Nat) (zs : List Int) (w : World) (hl : zs.length = n) (hn : n ≤ 1048576) (hI : Ints w b off zs) :
    Calls Tryd.prog 15 #[.slice (some ⟨b, off, none⟩) n c] w (RetSame (.bool (bornB zs)) w) := by
  cases hL : inB n 1 10 with
  | false =>
    go_enter Tryd.func15, Tryd.ntmps15
    go_wp2_with (first | (go_at_call 23; refine (isWithin_any _ _ _ _).mono ?_; rintro e w' ⟨rfl, rfl⟩))
    go_ret
    exact ⟨by unfold bornB; rw [hl, hL]; rfl, rfl⟩
  | true =>
    go_enter Tryd.func15, Tryd.ntmps15
    go_wp2_with (first | (go_at_call 23; refine (isWithin_any _ _ _ _).mono ?_; rintro e w' ⟨rfl, rfl⟩))
    go_loop [11] (fun v => ∃ k : Nat, k ≤ n ∧ v = .int .i64 k ∧ ∀ j, j < k → inB (zs.getD j 0) 0 2900 = true) (fun v => n - (intOf v).toNat)
    case atStart => exact ⟨0, Nat.zero_le _, rfl, fun j hj => absurd hj (by omega)⟩
    case round =>
      obtain ⟨k, hk, rfl, hall⟩ := hrel
      have HA := Lib.hid hall; clear hall
      by_cases hlt : k < n
      · have hc := hI k (by omega)
        cases hz : inB (zs.getD k 0) 0 2900 with
        | true =>
          have HZ := Lib.hid hz
          generalize zs.getD k 0 = z at hc hz
          go_wp2_with (first | (go_at_call 24; refine (isBirth_any _ _).mono ?_; rintro e w' ⟨rfl, rfl⟩))
          go_round
          case rel => exact ⟨k + 1, by omega, by go_num, fun j hj => by rcases Nat.lt_succ_iff_lt_or_eq.1 hj with h | rfl; exact HA.out j h; exact HZ.out⟩
          case measure => simp [intOf]; omega
        | false =>
          have hF := Lib.hid (allB_not (lo := 0) (hi := 2900) k (by omega) hz)
          generalize zs.getD k 0 = z at hc hz
          go_wp2_with (first | (go_at_call 24; refine (isBirth_any _ _).mono ?_; rintro e w' ⟨rfl, rfl⟩))
          go_ret
          exact ⟨by unfold bornB; rw [hF.out, Bool.and_false]; rfl, rfl⟩
      · have hF : Hid (allB zs 0 2900 = true) := Lib.hid (allB_iff.2 fun j hj => HA.out j (by omega))
        have HL := Lib.hid hL
        clear hL
        go_wp2
        go_ret
        exact ⟨by unfold bornB; rw [hF.out, hl, HL.out]; rfl, rfl⟩

set_option maxHeartbeats 400000 in
theorem roBorn_any (b off n c : Nat) (zs : List Int) (w : World) (hl : zs.length = n) (hn : n ≤ 1048576) (hI : Ints w b off zs) :
    Calls Tryd.prog 13 #[.slice (some ⟨b, off, none⟩) n c] w (RetSame (.bool (bornB zs)) w) := by
  cases hL : inB n 1 10 with
  | false =>
    go_enter Tryd.func13, Tryd.ntmps13
    go_wp2_with (first | (go_at_call 20; refine (l1In_any _ _ _ _).mono ?_; rintro e w' ⟨rfl, rfl⟩))
    go_ret
    exact ⟨by unfold bornB; rw [hl, hL]; rfl, rfl⟩
  | true =>
    go_enter Tryd.func13, Tryd.ntmps13
    go_wp2_with (first | (go_at_call 20; refine (l1In_any _ _ _ _).mono ?_; rintro e w' ⟨rfl, rfl⟩) | (go_at_call 21; refine (l1All_any _ _ _ _ zs _ _ _ hl hn hI).mono ?_; rintro e w' ⟨rfl, rfl⟩))
    go_ret
    exact ⟨by unfold bornB; rw [hl, hL]; rfl, rfl⟩

theorem ret_of_same {v : Value} {w : World} {e : Ending} {w' : World} (h : RetSame v w e w') : Ret v w e w' := by
  obtain ⟨rfl, rfl⟩ := h; exact ⟨rfl, Below.refl _ _⟩

end Go.Proofs.YtadfojjglceheaaDoor
