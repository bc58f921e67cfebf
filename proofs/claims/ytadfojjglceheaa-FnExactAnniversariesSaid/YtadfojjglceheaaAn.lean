/- Anniversaries and double years: both texts. -/
import Derived.Test.YtadfojjglceheaaRi3
set_option linter.unusedVariables false
set_option linter.unusedSimpArgs false
namespace Go.Proofs.Ytadfojjglceheaa
open Go.RowKit

/-- A span of years. -/
def spB (f t : Int) : Bool := inB f 0 3000 && inB t 0 3000 && inB (t - f) 0 199
theorem spB_true {f t : Int} (h : spB f t = true) : 0 ≤ f ∧ f ≤ t ∧ t ≤ 3000 ∧ t - f ≤ 199 := by
  unfold spB at h; rw [Bool.and_eq_true, Bool.and_eq_true, inB_iff, inB_iff, inB_iff] at h; omega
theorem isSpan_any (f t : Int) (w : World) : Calls Try.prog 54 #[.int .i64 f, .int .i64 t] w (RetSame (.bool (spB f t)) w) := by
  unfold spB
  cases h1 : inB f 0 3000 with
  | false =>
    have H1 := Lib.hid fun w => isYear_any f w
    rw [h1] at H1
    go_enter Try.func54, Try.ntmps54
    go_wp2_with (first | (go_at_call 53; refine (H1.out _).mono ?_; rintro e w' ⟨rfl, rfl⟩))
    go_ret
    exact ⟨rfl, rfl⟩
  | true =>
    have H1 := Lib.hid fun w => isYear_any f w
    rw [h1] at H1
    cases h2 : inB t 0 3000 with
    | false =>
      have H2 := Lib.hid fun w => isYear_any t w
      rw [h2] at H2
      go_enter Try.func54, Try.ntmps54
      go_wp2_with (first | (go_at_call 53; first | (refine (H1.out _).mono ?_; rintro e w' ⟨rfl, rfl⟩) | (refine (H2.out _).mono ?_; rintro e w' ⟨rfl, rfl⟩)))
      go_ret
      exact ⟨rfl, rfl⟩
    | true =>
      have H2 := Lib.hid fun w => isYear_any t w
      rw [h2] at H2
      have b1 := inB_iff.1 h1
      have b2 := inB_iff.1 h2
      go_enter Try.func54, Try.ntmps54
      go_wp2_with (first | (go_at_call 53; first | (refine (H1.out _).mono ?_; rintro e w' ⟨rfl, rfl⟩) | (refine (H2.out _).mono ?_; rintro e w' ⟨rfl, rfl⟩)) | (go_at_call 35; refine (isWithin_any _ _ _ _).mono ?_; rintro e w' ⟨rfl, rfl⟩))
      go_ret
      exact ⟨rfl, rfl⟩
theorem roSpan_any (f t : Int) (w : World) : Calls Try.prog 51 #[.int .i64 f, .int .i64 t] w (RetSame (.bool (spB f t)) w) := by
  cases h1 : inB t 0 3000 with
  | false =>
    have e0 : spB f t = false := by unfold spB; rw [h1]; simp
    rw [e0]
    go_enter Try.func51, Try.ntmps51
    go_wp2_with (first | (go_at_call 49; refine (l1In_any _ _ _ _).mono ?_; rintro e w' ⟨rfl, rfl⟩))
    go_ret
    exact ⟨rfl, rfl⟩
  | true =>
    have b1 := inB_iff.1 h1
    cases h2 : inB f 0 t with
    | false =>
      have b2 := inB_not.1 h2
      have e0 : spB f t = false := by
        unfold spB
        cases h3 : inB f 0 3000 with
        | false => rfl
        | true =>
          have b3 := inB_iff.1 h3
          have : inB (t - f) 0 199 = false := inB_not.2 (by omega)
          rw [this]; simp
      rw [e0]
      go_enter Try.func51, Try.ntmps51
      go_wp2_with (first | (go_at_call 49; refine (l1In_any _ _ _ _).mono ?_; rintro e w' ⟨rfl, rfl⟩))
      go_ret
      exact ⟨rfl, rfl⟩
    | true =>
      have b2 := inB_iff.1 h2
      have e0 : spB f t = decide (t - f < 200) := by
        unfold spB
        rw [h1, inB_true (n := f) (lo := 0) (hi := 3000) (by omega) (by omega)]
        by_cases h3 : t - f < 200
        · rw [inB_true (by omega) (by omega), decide_eq_true h3]; rfl
        · rw [inB_not.2 (by omega), decide_eq_false h3]; rfl
      rw [e0]
      go_enter Try.func51, Try.ntmps51
      go_wp2_with (first | (go_at_call 49; refine (l1In_any _ _ _ _).mono ?_; rintro e w' ⟨rfl, rfl⟩))
      go_ret
      exact ⟨rfl, rfl⟩

/-- The anniversaries among the first k years. -/
def anL (s f e : Int) (k : Nat) : List Int := ((List.range k).filter fun i => rnd (f + (i : Nat) - s) e).map fun (i : Nat) => f + (i : Int)
theorem anL_succ (s f e : Int) (k : Nat) : anL s f e (k + 1) = anL s f e k ++ (if rnd (f + (k : Int) - s) e = true then [f + (k : Int)] else []) := by
  unfold anL
  rw [List.range_succ, List.filter_append, List.map_append]
  congr 1
  simp only [List.filter_cons, List.filter_nil]
  split <;> simp
theorem anL_skip (s f e : Int) (k : Nat) (h : rnd (f + (k : Int) - s) e = false) : anL s f e (k + 1) = anL s f e k := by rw [anL_succ, h]; simp
theorem anL_take (s f e : Int) (k : Nat) (h : rnd (f + (k : Int) - s) e = true) : anL s f e (k + 1) = anL s f e k ++ [f + (k : Int)] := by rw [anL_succ, h]; simp
theorem anL_len (s f e : Int) (k : Nat) : (anL s f e k).length ≤ k := by
  unfold anL; rw [List.length_map]; exact Nat.le_trans (List.length_filter_le _ _) (by simp)
def anB (s f t e : Int) : Bool := inB s 0 3000 && spB f t && inB e 1 100

set_option maxHeartbeats 1000000 in
theorem annivI_yes (s f t e : Int) (w : World) (hs : inB s 0 3000 = true) (hsp : spB f t = true) (he : inB e 1 100 = true) :
    Calls Try.prog 27 #[.int .i64 s, .int .i64 f, .int .i64 t, .int .i64 e] w (RetOwnB (anL s f e (t - f + 1).toNat) true w) := by
  obtain ⟨i0, hi, hz0, hz1, hz2⟩ := info_parts infoInt
  have H1 := Lib.hid fun w => isYear_any s w
  have H2 := Lib.hid fun w => isSpan_any f t w
  have H3 := Lib.hid fun w => isEvery_any e w
  rw [hs] at H1
  rw [hsp] at H2
  rw [he] at H3
  have b1 := inB_iff.1 hs
  have b2 := spB_true hsp
  have b3 := (inB_iff.1 he).1
  go_enter Try.func27, Try.ntmps27
  go_wp2_with (first | (go_at_call 53; refine (H1.out _).mono ?_; rintro e w' ⟨rfl, rfl⟩) | (go_at_call 54; refine (H2.out _).mono ?_; rintro e w' ⟨rfl, rfl⟩) | (go_at_call 41; refine (H3.out _).mono ?_; rintro e w' ⟨rfl, rfl⟩))
  go_loopw [10, 11] (fun v i wr => ∃ k : Nat, f + (k : Int) ≤ t + 1 ∧ i = .int .i64 (f + (k : Int)) ∧ Own w.heap.size wr v (anL s f e k) ∧ Below w.heap.size w wr) (fun _ i _ => (t + 1 - intOf i).toNat)
  case atStart => exact ⟨0, by omega, by simp, own_nil _ _, Below.refl _ _⟩
  case round =>
    obtain ⟨k, hk, rfl, ho, hb⟩ := hrel
    have hsz := hb.size
    have ho' := Lib.hid ho
    have hle := anL_len s f e k
    by_cases hlt : f + (k : Int) ≤ t
    · cases hcn : rnd (f + (k : Int) - s) e with
      | false =>
        have HS := Lib.hid (anL_skip s f e k hcn)
        have HR := Lib.hid fun w => isRound_any (f + (k : Int) - s) e w b3
        rw [hcn] at HR
        clear ho hcn
        go_wp2_with (first | (go_at_call 55; refine (HR.out _).mono ?_; rintro e w' ⟨rfl, rfl⟩))
        go_roundw
        case rel => exact ⟨k + 1, by omega, by go_num, by rw [HS.out]; exact ho'.out, hb⟩
        case measure => simp [intOf]; omega
      | true =>
        have HS := Lib.hid (anL_take s f e k hcn)
        have HR := Lib.hid fun w => isRound_any (f + (k : Int) - s) e w b3
        rw [hcn] at HR
        clear ho hcn
        go_wp2_with (first | (go_at_call 55; refine (HR.out _).mono ?_; rintro e w' ⟨rfl, rfl⟩) | (at_builtin; refine wpList_append_own _ rfl _ _ 22 rfl w.heap.size 3 i0 (.int .i64 0) 1 8 Try.underlying22 hi hz0 hz1 hz2 rfl (by decide) _ _ _ rfl (World.ownsRow.alloc ho'.out _) ⟨wr.heap.size, 0, none⟩ 1 1 [.int .i64 (f + (k : Int))] rfl rfl (newCellAt _ _ rfl) (oneInt _) ?c3 ?c4 ?c5 ?_))
        case c3 => unfold maxLen; omega
        case c4 => omega
        case c5 => simp; omega
        intro v' w1 hown' hgrow _
        have hown1 : Own w.heap.size w1 v' (anL s f e (k + 1)) := by rw [HS.out]; exact own_push hown'
        have hblk : ∀ q, u10.ownBlock = some q → w.heap.size ≤ q := fun q hq => (World.ownsRow.lt ho'.out q hq).1
        have hbz := (hb.alloc hsz _).grown hgrow (by simp; omega) (fun q hq => hblk q hq)
        clear hown' hgrow
        go_wp2
        go_roundw
        case rel => exact ⟨k + 1, by omega, by go_num, hown1, hbz⟩
        case measure => simp [intOf]; omega
    · have hkn : (t - f + 1).toNat = k := by omega
      rw [hkn]
      obtain ⟨rs, hrs⟩ : ∃ rs, rs = anL s f e k := ⟨_, rfl⟩
      rw [← hrs] at ho ho'
      have HRS := Lib.hid hrs
      clear hrs
      rcases ho.cases with ⟨rfl, hnil⟩ | ⟨q, cq, rfl, _⟩
      all_goals
        try clear hnil
        clear ho
        go_wp2
        go_ret2
        exact ⟨_, rfl, by rw [← HRS.out]; exact ho'.out, hb⟩
theorem annivI_no (s f t e : Int) (w : World) (hno : anB s f t e = false) :
    Calls Try.prog 27 #[.int .i64 s, .int .i64 f, .int .i64 t, .int .i64 e] w (RetOwnB [] false w) := by
  have H1 := Lib.hid fun w => isYear_any s w
  have H2 := Lib.hid fun w => isSpan_any f t w
  have H3 := Lib.hid fun w => isEvery_any e w
  unfold anB at hno
  generalize inB s 0 3000 = p at H1 hno
  generalize spB f t = q at H2 hno
  generalize inB e 1 100 = r at H3 hno
  rcases p with _ | _
  · go_enter Try.func27, Try.ntmps27
    go_wp2_with (first | (go_at_call 53; refine (H1.out _).mono ?_; rintro e w' ⟨rfl, rfl⟩) | (go_at_call 54; refine (H2.out _).mono ?_; rintro e w' ⟨rfl, rfl⟩) | (go_at_call 41; refine (H3.out _).mono ?_; rintro e w' ⟨rfl, rfl⟩))
    go_ret2
    exact ⟨_, rfl, own_nil _ _, Below.refl _ _⟩
  · rcases q with _ | _
    · go_enter Try.func27, Try.ntmps27
      go_wp2_with (first | (go_at_call 53; refine (H1.out _).mono ?_; rintro e w' ⟨rfl, rfl⟩) | (go_at_call 54; refine (H2.out _).mono ?_; rintro e w' ⟨rfl, rfl⟩) | (go_at_call 41; refine (H3.out _).mono ?_; rintro e w' ⟨rfl, rfl⟩))
      go_ret2
      exact ⟨_, rfl, own_nil _ _, Below.refl _ _⟩
    · rcases r with _ | _
      · go_enter Try.func27, Try.ntmps27
        go_wp2_with (first | (go_at_call 53; refine (H1.out _).mono ?_; rintro e w' ⟨rfl, rfl⟩) | (go_at_call 54; refine (H2.out _).mono ?_; rintro e w' ⟨rfl, rfl⟩) | (go_at_call 41; refine (H3.out _).mono ?_; rintro e w' ⟨rfl, rfl⟩))
        go_ret2
        exact ⟨_, rfl, own_nil _ _, Below.refl _ _⟩
      · simp at hno

set_option maxHeartbeats 1000000 in
theorem annivS_yes (s f t e : Int) (w : World) (hs : inB s 0 3000 = true) (hsp : spB f t = true) (he : inB e 1 100 = true) :
    Calls Try.prog 26 #[.int .i64 s, .int .i64 f, .int .i64 t, .int .i64 e] w (RetOwnB (anL s f e (t - f + 1).toNat) true w) := by
  obtain ⟨i0, hi, hz0, hz1, hz2⟩ := info_parts infoInt
  have H1 := Lib.hid fun w => l1In_any s 0 3000 w
  have H2 := Lib.hid fun w => roSpan_any f t w
  have H3 := Lib.hid fun w => roEvery_any e w
  rw [hs] at H1
  rw [hsp] at H2
  rw [he] at H3
  have b1 := inB_iff.1 hs
  have b2 := spB_true hsp
  have b3 := (inB_iff.1 he).1
  go_enter Try.func26, Try.ntmps26
  go_wp2_with (first | (go_at_call 49; refine (H1.out _).mono ?_; rintro e w' ⟨rfl, rfl⟩) | (go_at_call 51; refine (H2.out _).mono ?_; rintro e w' ⟨rfl, rfl⟩) | (go_at_call 38; refine (H3.out _).mono ?_; rintro e w' ⟨rfl, rfl⟩))
  go_loopw [10, 11] (fun v i wr => ∃ k : Nat, f + (k : Int) ≤ t + 1 ∧ i = .int .i64 (f + (k : Int)) ∧ Own w.heap.size wr v (anL s f e k) ∧ Below w.heap.size w wr) (fun _ i _ => (t + 1 - intOf i).toNat)
  case atStart => exact ⟨0, by omega, by simp, own_nil _ _, Below.refl _ _⟩
  case round =>
    obtain ⟨k, hk, rfl, ho, hb⟩ := hrel
    have hsz := hb.size
    have ho' := Lib.hid ho
    have hle := anL_len s f e k
    by_cases hlt : f + (k : Int) ≤ t
    · cases hcn : rnd (f + (k : Int) - s) e with
      | false =>
        have HS := Lib.hid (anL_skip s f e k hcn)
        have HR := Lib.hid fun w => roRound_any (f + (k : Int) - s) e w b3
        rw [hcn] at HR
        clear ho hcn
        go_wp2_with (first | (go_at_call 52; refine (HR.out _).mono ?_; rintro e w' ⟨rfl, rfl⟩))
        go_roundw
        case rel => exact ⟨k + 1, by omega, by go_num, by rw [HS.out]; exact ho'.out, hb⟩
        case measure => simp [intOf]; omega
      | true =>
        have HS := Lib.hid (anL_take s f e k hcn)
        have HR := Lib.hid fun w => roRound_any (f + (k : Int) - s) e w b3
        rw [hcn] at HR
        clear ho hcn
        go_wp2_with (first | (go_at_call 52; refine (HR.out _).mono ?_; rintro e w' ⟨rfl, rfl⟩) | (at_builtin; refine wpList_append_own _ rfl _ _ 22 rfl w.heap.size 3 i0 (.int .i64 0) 1 8 Try.underlying22 hi hz0 hz1 hz2 rfl (by decide) _ _ _ rfl (World.ownsRow.alloc ho'.out _) ⟨wr.heap.size, 0, none⟩ 1 1 [.int .i64 (f + (k : Int))] rfl rfl (newCellAt _ _ rfl) (oneInt _) ?c3 ?c4 ?c5 ?_))
        case c3 => unfold maxLen; omega
        case c4 => omega
        case c5 => simp; omega
        intro v' w1 hown' hgrow _
        have hown1 : Own w.heap.size w1 v' (anL s f e (k + 1)) := by rw [HS.out]; exact own_push hown'
        have hblk : ∀ q, u10.ownBlock = some q → w.heap.size ≤ q := fun q hq => (World.ownsRow.lt ho'.out q hq).1
        have hbz := (hb.alloc hsz _).grown hgrow (by simp; omega) (fun q hq => hblk q hq)
        clear hown' hgrow
        go_wp2
        go_roundw
        case rel => exact ⟨k + 1, by omega, by go_num, hown1, hbz⟩
        case measure => simp [intOf]; omega
    · have hkn : (t - f + 1).toNat = k := by omega
      rw [hkn]
      obtain ⟨rs, hrs⟩ : ∃ rs, rs = anL s f e k := ⟨_, rfl⟩
      rw [← hrs] at ho ho'
      have HRS := Lib.hid hrs
      clear hrs
      rcases ho.cases with ⟨rfl, hnil⟩ | ⟨q, cq, rfl, _⟩
      all_goals
        try clear hnil
        clear ho
        go_wp2
        go_ret2
        exact ⟨_, rfl, by rw [← HRS.out]; exact ho'.out, hb⟩
theorem annivS_no (s f t e : Int) (w : World) (hno : anB s f t e = false) :
    Calls Try.prog 26 #[.int .i64 s, .int .i64 f, .int .i64 t, .int .i64 e] w (RetOwnB [] false w) := by
  have H1 := Lib.hid fun w => l1In_any s 0 3000 w
  have H2 := Lib.hid fun w => roSpan_any f t w
  have H3 := Lib.hid fun w => roEvery_any e w
  unfold anB at hno
  generalize inB s 0 3000 = p at H1 hno
  generalize spB f t = q at H2 hno
  generalize inB e 1 100 = r at H3 hno
  rcases p with _ | _
  · go_enter Try.func26, Try.ntmps26
    go_wp2_with (first | (go_at_call 49; refine (H1.out _).mono ?_; rintro e w' ⟨rfl, rfl⟩) | (go_at_call 51; refine (H2.out _).mono ?_; rintro e w' ⟨rfl, rfl⟩) | (go_at_call 38; refine (H3.out _).mono ?_; rintro e w' ⟨rfl, rfl⟩))
    go_ret2
    exact ⟨_, rfl, own_nil _ _, Below.refl _ _⟩
  · rcases q with _ | _
    · go_enter Try.func26, Try.ntmps26
      go_wp2_with (first | (go_at_call 49; refine (H1.out _).mono ?_; rintro e w' ⟨rfl, rfl⟩) | (go_at_call 51; refine (H2.out _).mono ?_; rintro e w' ⟨rfl, rfl⟩) | (go_at_call 38; refine (H3.out _).mono ?_; rintro e w' ⟨rfl, rfl⟩))
      go_ret2
      exact ⟨_, rfl, own_nil _ _, Below.refl _ _⟩
    · rcases r with _ | _
      · go_enter Try.func26, Try.ntmps26
        go_wp2_with (first | (go_at_call 49; refine (H1.out _).mono ?_; rintro e w' ⟨rfl, rfl⟩) | (go_at_call 51; refine (H2.out _).mono ?_; rintro e w' ⟨rfl, rfl⟩) | (go_at_call 38; refine (H3.out _).mono ?_; rintro e w' ⟨rfl, rfl⟩))
        go_ret2
        exact ⟨_, rfl, own_nil _ _, Below.refl _ _⟩
      · simp at hno

theorem anniv_both (s f t e : Int) : ∃ rs ok, rs.length ≤ 1048576 ∧ (∀ w, Calls Try.prog 26 #[.int .i64 s, .int .i64 f, .int .i64 t, .int .i64 e] w (RetOwnB rs ok w)) ∧ ∀ w, Calls Try.prog 27 #[.int .i64 s, .int .i64 f, .int .i64 t, .int .i64 e] w (RetOwnB rs ok w) := by
  cases h : anB s f t e with
  | false => exact ⟨[], false, by simp, fun w => annivS_no s f t e w h, fun w => annivI_no s f t e w h⟩
  | true =>
    unfold anB at h
    rw [Bool.and_eq_true, Bool.and_eq_true] at h
    have := spB_true h.1.2
    have := anL_len s f e (t - f + 1).toNat
    exact ⟨anL s f e (t - f + 1).toNat, true, by omega, fun w => annivS_yes s f t e w h.1.1 h.1.2 h.2, fun w => annivI_yes s f t e w h.1.1 h.1.2 h.2⟩
end Go.Proofs.Ytadfojjglceheaa
