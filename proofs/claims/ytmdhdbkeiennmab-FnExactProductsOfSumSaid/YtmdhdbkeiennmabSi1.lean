/- Whether numbers are a set of children: both texts. -/
import Derived.Test.YtmdhdbkeiennmabGood
import Derived.BigQuiet
set_option linter.unusedVariables false
set_option linter.unusedSimpArgs false
namespace Go.Proofs.Ytmdhdbkeiennmab
open Go.RowKit

/-- No number is less than the one before it. -/
def ndB (zs : List Int) : Bool := (List.range (zs.length - 1)).all fun k => decide (zs.getD k 0 ≤ zs.getD (k + 1) 0)
theorem ndB_iff {zs : List Int} : ndB zs = true ↔ ∀ k, k + 1 < zs.length → zs.getD k 0 ≤ zs.getD (k + 1) 0 := by
  unfold ndB
  rw [List.all_eq_true]
  constructor
  · intro h k hk
    exact of_decide_eq_true (h k (List.mem_range.2 (by omega)))
  · intro h k hk
    exact decide_eq_true (h k (by have := List.mem_range.1 hk; omega))
theorem ndB_not {zs : List Int} (k : Nat) (hk : k + 1 < zs.length) (h : zs.getD (k + 1) 0 < zs.getD k 0) : ndB zs = false := by
  cases e : ndB zs with
  | false => rfl
  | true => exact absurd (ndB_iff.1 e k hk) (by omega)
/-- The ages of a set. -/
def setB (zs : List Int) : Bool := inB zs.length 1 4 && allB zs 1 20 && ndB zs
theorem setB_parts {zs : List Int} (h : setB zs = true) : (1 ≤ zs.length ∧ zs.length ≤ 4) ∧ (∀ j, j < zs.length → 1 ≤ zs.getD j 0 ∧ zs.getD j 0 ≤ 20) ∧ ∀ k, k + 1 < zs.length → zs.getD k 0 ≤ zs.getD (k + 1) 0 := by
  unfold setB at h
  rw [Bool.and_eq_true, Bool.and_eq_true, inB_iff] at h
  obtain ⟨⟨h1, h2⟩, h3⟩ := h
  refine ⟨by omega, fun j hj => inB_iff.1 (allB_iff.1 h2 j hj), ndB_iff.1 h3⟩

set_option maxHeartbeats 400000 in
theorem siGood_any (b off n c : Nat) (zs : List Int) (w : World) (hl : zs.length = n) (hn : n ≤ 1048576) (hI : Ints w b off zs) :
    Calls Try.prog 40 #[.slice (some ⟨b, off, none⟩) n c] w (Ret (.bool (setB zs)) w) := by
  cases hL : inB n 1 4 with
  | false =>
    go_enter Try.func40, Try.ntmps40
    go_wp2_with (first | (go_at_call 57; refine (l1In_any _ _ _ _).mono ?_; rintro e w' ⟨rfl, rfl⟩))
    go_ret
    exact ⟨by unfold setB; rw [hl, hL]; rfl, Below.refl _ _⟩
  | true =>
    cases hA : allB zs 1 20 with
    | false =>
      go_enter Try.func40, Try.ntmps40
      go_wp2_with (first | (go_at_call 57; refine (l1In_any _ _ _ _).mono ?_; rintro e w' ⟨rfl, rfl⟩) | (go_at_call 67; refine (l1All_any _ _ _ _ zs _ _ _ hl hn hI).mono ?_; rintro e w' ⟨rfl, rfl⟩))
      go_ret
      exact ⟨by unfold setB; rw [hl, hL, hA]; rfl, Below.refl _ _⟩
    | true =>
      have HS := Lib.hid (show setB zs = ndB zs by unfold setB; rw [hl, hL, hA]; rfl)
      have hL' := inB_iff.1 hL
      go_enter Try.func40, Try.ntmps40
      go_wp2_with (first | (go_at_call 57; refine (l1In_any _ _ _ _).mono ?_; rintro e w' ⟨rfl, rfl⟩) | (go_at_call 67; refine (l1All_any _ _ _ _ zs _ _ _ hl hn hI).mono ?_; rintro e w' ⟨rfl, rfl⟩))
      clear hL hA
      go_loopw [3] (fun v wr => ∃ k d : Nat, 1 ≤ k ∧ k ≤ n ∧ v = .int .i64 k ∧ (∀ j, j + 1 < k → zs.getD j 0 ≤ zs.getD (j + 1) 0) ∧ wr = w.drewN d) (fun v _ => n - (intOf v).toNat)
      case atStart => exact ⟨1, 0, Nat.le_refl _, by omega, rfl, fun j hj => absurd hj (by omega), rfl⟩
      case round =>
        obtain ⟨k, d, hk1, hk, rfl, hall, rfl⟩ := hrel
        have HA := Lib.hid hall; clear hall
        by_cases hlt : k < n
        · obtain ⟨m, rfl⟩ : ∃ m, k = m + 1 := ⟨k - 1, by omega⟩
          have hc1 : w.cell? ⟨b, off + (m + 1), none⟩ = some (.int .i64 (zs.getD (m + 1) 0)) := hI (m + 1) (by omega)
          have hc0 : w.cell? ⟨b, off + m, none⟩ = some (.int .i64 (zs.getD m 0)) := hI m (by omega)
          have em : ((m + 1 : Nat) : Int) - 1 = (m : Int) := by omega
          have HF := Lib.hid (fun h => ndB_not (zs := zs) m (by omega) h)
          have hi0 : (0 : Int) ≤ ((m + 1 : Nat) : Int) := by omega
          have hi1 : ((m + 1 : Nat) : Int) < (n : Int) := by omega
          have hi2 : (0 : Int) ≤ (m : Int) := by omega
          have hi3 : (m : Int) < (n : Int) := by omega
          have HJ : Hid (zs.getD m 0 ≤ zs.getD (m + 1) 0 → ∀ j, j + 1 < m + 1 + 1 → zs.getD j 0 ≤ zs.getD (j + 1) 0) := Lib.hid (fun h j hj => by
            rcases Nat.lt_succ_iff_lt_or_eq.1 hj with h1 | h1
            · exact HA.out j h1
            · obtain rfl : j = m := by omega
              exact h)
          generalize zs.getD (m + 1) 0 = x at hc1 HF HJ
          generalize zs.getD m 0 = y at hc0 HF HJ
          by_cases hxy : x < y
          · have hr := HF.out hxy
            have hd : decide (x < y) = true := decide_eq_true hxy
            go_wp2
            go_quiet (fail)
            go_wp2
            go_ret
            exact ⟨by rw [HS.out, hr]; rfl, by first | exact below_drewN (below_drewN (Below.refl _ _) _) _ | exact below_drewN (Below.refl _ _) _⟩
          · have hd : decide (x < y) = false := decide_eq_false hxy
            go_wp2
            go_quiet (fail)
            go_wp2
            go_roundw
            case rel => exact ⟨m + 1 + 1, _, by omega, by omega, by go_num, HJ.out (by omega), rfl⟩
            case measure => simp [intOf]; omega
        · have hkn : k = n := by omega
          have hr : Hid (ndB zs = true) := Lib.hid (ndB_iff.2 fun j hj => HA.out j (by omega))
          go_wp2
          go_ret
          exact ⟨by rw [HS.out, hr.out]; rfl, by first | exact below_drewN (below_drewN (Below.refl _ _) _) _ | exact below_drewN (Below.refl _ _) _⟩

theorem cmpNaN_any (x : Int) (w : World) : Calls Try.prog 76 #[.int .i64 x] w (RetSame (.bool false) w) := by
  have h : (x != x) = false := by simp
  go_enter Try.func76, Try.ntmps76
  go_wp2
  go_ret
  exact ⟨rfl, rfl⟩
theorem cmpLess_any (x y : Int) (w : World) : Calls Try.prog 68 #[.int .i64 x, .int .i64 y] w (RetSame (.bool (decide (x < y))) w) := by
  go_enter Try.func68, Try.ntmps68
  go_wp2_with (go_at_call 76; refine (cmpNaN_any _ _).mono ?_; rintro e w' ⟨rfl, rfl⟩)
  go_ret
  exact ⟨rfl, rfl⟩
theorem cmpLess_at (x y : Int) (r : Bool) (h : decide (x < y) = r) (w : World) : Calls Try.prog 68 #[.int .i64 x, .int .i64 y] w (RetSame (.bool r) w) := by
  rw [← h]; exact cmpLess_any x y w
theorem sameQs {v : Value} {w : World} : ∀ e w', RetSame v w e w' → e = .returned v ∧ w' = w := fun e w' h => ⟨h.1, h.2.symm⟩

set_option maxHeartbeats 400000 in
theorem isSorted_any (b off n c : Nat) (zs : List Int) (w : World) (hl : zs.length = n) (h1n : 1 ≤ n) (hn : n ≤ 1048576) (hI : Ints w b off zs) :
    Calls Try.prog 43 #[.slice (some ⟨b, off, none⟩) n c] w (Ret (.bool (ndB zs)) w) := by
  go_enter Try.func43, Try.ntmps43
  go_wp2
  go_loopw [3] (fun v wr => ∃ k d : Nat, k < n ∧ v = .int .i64 k ∧ (∀ j, k ≤ j → j + 1 < n → zs.getD j 0 ≤ zs.getD (j + 1) 0) ∧ wr = w.drewN d) (fun v _ => (intOf v).toNat)
  case atStart => exact ⟨n - 1, 0, by omega, by go_num, fun j hj hj2 => absurd hj2 (by omega), rfl⟩
  case round =>
    obtain ⟨k, d, hk, rfl, hall, rfl⟩ := hrel
    have HA := Lib.hid hall; clear hall
    by_cases hlt : 0 < k
    · obtain ⟨m, rfl⟩ : ∃ m, k = m + 1 := ⟨k - 1, by omega⟩
      have hc1 : w.cell? ⟨b, off + (m + 1), none⟩ = some (.int .i64 (zs.getD (m + 1) 0)) := hI (m + 1) (by omega)
      have hc0 : w.cell? ⟨b, off + m, none⟩ = some (.int .i64 (zs.getD m 0)) := hI m (by omega)
      have em : ((m + 1 : Nat) : Int) - 1 = (m : Int) := by omega
      have HF := Lib.hid (fun h => ndB_not (zs := zs) m (by omega) h)
      have hi0 : (0 : Int) ≤ ((m + 1 : Nat) : Int) := by omega
      have hi1 : ((m + 1 : Nat) : Int) < (n : Int) := by omega
      have hi2 : (0 : Int) ≤ (m : Int) := by omega
      have hi3 : (m : Int) < (n : Int) := by omega
      have HJ : Hid (zs.getD m 0 ≤ zs.getD (m + 1) 0 → ∀ j, m ≤ j → j + 1 < n → zs.getD j 0 ≤ zs.getD (j + 1) 0) := Lib.hid (fun h j hj hj2 => by
        by_cases h1 : j = m
        · subst h1; exact h
        · exact HA.out j (by omega) hj2)
      generalize zs.getD (m + 1) 0 = x at hc1 HF HJ
      generalize zs.getD m 0 = y at hc0 HF HJ
      by_cases hxy : x < y
      · have hr := HF.out hxy
        have hd : decide (x < y) = true := decide_eq_true hxy
        have HC := Lib.hid (fun W => cmpLess_at x y true hd W)
        go_wp2
        go_big_quiet ((go_at_call 68; exact (HC.out _).mono (fun e w1 h => ⟨h.1, _, h.2.symm⟩)))
        go_wp2
        go_ret
        exact ⟨by rw [hr]; rfl, by first | exact below_drewN (below_drewN (Below.refl _ _) _) _ | exact below_drewN (Below.refl _ _) _⟩
      · have hd : decide (x < y) = false := decide_eq_false hxy
        have HC := Lib.hid (fun W => cmpLess_at x y false hd W)
        go_wp2
        go_big_quiet ((go_at_call 68; exact (HC.out _).mono (fun e w1 h => ⟨h.1, _, h.2.symm⟩)))
        go_wp2
        go_roundw
        case rel => exact ⟨m, _, by omega, by go_num, HJ.out (by omega), rfl⟩
        case measure => first | (simp [intOf]; omega) | simp [intOf]
    · have hkn : k = 0 := by omega
      subst hkn
      have hr : Hid (ndB zs = true) := Lib.hid (ndB_iff.2 fun j hj => HA.out j (by omega) (by omega))
      go_wp2
      go_ret
      exact ⟨by rw [hr.out]; rfl, by first | exact below_drewN (below_drewN (Below.refl _ _) _) _ | exact below_drewN (Below.refl _ _) _⟩

theorem areChildren_any (n : Int) (w : World) : Calls Try.prog 41 #[.int .i64 n] w (RetSame (.bool (inB n 1 4)) w) := by
  go_enter Try.func41, Try.ntmps41
  go_wp2_with (go_at_call 42; refine (isWithin_any _ _ _ _).mono ?_; rintro e w' ⟨rfl, rfl⟩)
  go_ret
  exact ⟨rfl, rfl⟩

set_option maxHeartbeats 400000 in
theorem isSet_any (b off n c : Nat) (zs : List Int) (w : World) (hl : zs.length = n) (hn : n ≤ 1048576) (hI : Ints w b off zs) :
    Calls Try.prog 15 #[.slice (some ⟨b, off, none⟩) n c] w (Ret (.bool (setB zs)) w) := by
  cases hL : inB n 1 4 with
  | false =>
    go_enter Try.func15, Try.ntmps15
    go_wp2_with (first | (go_at_call 41; refine (areChildren_any _ _).mono ?_; rintro e w' ⟨rfl, rfl⟩))
    go_ret
    exact ⟨by unfold setB; rw [hl, hL]; rfl, Below.refl _ _⟩
  | true =>
    have hL' := inB_iff.1 hL
    have HL := Lib.hid hL
    go_enter Try.func15, Try.ntmps15
    go_wp2_with (first | (go_at_call 41; refine (areChildren_any _ _).mono ?_; rintro e w' ⟨rfl, rfl⟩))
    clear hL
    go_loop [11] (fun v => ∃ k : Nat, k ≤ n ∧ v = .int .i64 k ∧ ∀ j, j < k → inB (zs.getD j 0) 1 20 = true) (fun v => n - (intOf v).toNat)
    case atStart => exact ⟨0, Nat.zero_le _, rfl, fun j hj => absurd hj (by omega)⟩
    case round =>
      obtain ⟨k, hk, rfl, hall⟩ := hrel
      have HA := Lib.hid hall; clear hall
      by_cases hlt : k < n
      · have hc := hI k (by omega)
        cases hz : inB (zs.getD k 0) 1 20 with
        | true =>
          have HZ := Lib.hid hz
          generalize zs.getD k 0 = z at hc hz
          go_wp2_with (first | (go_at_call 42; refine (isWithin_any _ _ _ _).mono ?_; rintro e w' ⟨rfl, rfl⟩))
          go_round
          case rel => exact ⟨k + 1, by omega, by go_num, fun j hj => by rcases Nat.lt_succ_iff_lt_or_eq.1 hj with h | rfl; exact HA.out j h; exact HZ.out⟩
          case measure => simp [intOf]; omega
        | false =>
          have hF := Lib.hid (allB_not (lo := 1) (hi := 20) k (by omega) hz)
          generalize zs.getD k 0 = z at hc hz
          go_wp2_with (first | (go_at_call 42; refine (isWithin_any _ _ _ _).mono ?_; rintro e w' ⟨rfl, rfl⟩))
          go_ret
          exact ⟨by unfold setB; rw [hF.out, Bool.and_false]; rfl, Below.refl _ _⟩
      · have hF : Hid (setB zs = ndB zs) := Lib.hid (by unfold setB; rw [hl, HL.out, allB_iff.2 fun j hj => HA.out j (by omega)]; rfl)
        go_wp2_with (first | (go_at_call 43; refine (isSorted_any b off n c zs _ hl (by omega) hn hI).mono ?_; rintro e w' ⟨rfl, hb⟩))
        go_ret
        exact ⟨by rw [hF.out]; rfl, hb⟩
end Go.Proofs.Ytmdhdbkeiennmab
