/- Dates, births, days and ages, of the model. -/
import Derived.Test.YtbhceokapbnhhaaDateHelp
import Derived.IntWalk
set_option linter.unusedVariables false
set_option linter.unusedSimpArgs false
namespace Go.Proofs.Ytbhceokapbnhhaa
open Go.RowKit

theorem l1InD_any (n lo hi : Int) (w : World) : Calls Try.prog 65 #[.int .i64 n, .int .i64 lo, .int .i64 hi] w (RetSame (.bool (inB n lo hi)) w) := by
  by_cases h1 : lo ≤ n
  · by_cases h2 : n ≤ hi
    · have e : inB n lo hi = true := inB_true h1 h2
      rw [e]; clear e
      go_enter Try.func65, Try.ntmps65
      go_wp2
      go_ret
      exact ⟨rfl, rfl⟩
    · have e : inB n lo hi = false := inB_not.2 (by omega)
      rw [e]; clear e
      go_enter Try.func65, Try.ntmps65
      go_wp2
      go_ret
      exact ⟨rfl, rfl⟩
  · have e : inB n lo hi = false := inB_not.2 (by omega)
    rw [e]; clear e
    go_enter Try.func65, Try.ntmps65
    go_wp2
    go_ret
    exact ⟨rfl, rfl⟩

set_option maxHeartbeats 1000000 in
theorem biDate_any (y d : Int) (w : World) : Calls Try.prog 52 #[.agg #[.int .i64 y, .int .i64 d]] w (Ret (.bool (dateB (y, d))) w) := by
  cases h1 : inB y 0 3000 with
  | false =>
    rw [show dateB (y, d) = false by unfold dateB; simp only; rw [h1]; rfl]
    go_enter Try.func52, Try.ntmps52
    go_wp2_with (go_at_call 65; refine (l1InD_any _ _ _ _).mono ?_; rintro e w' ⟨rfl, rfl⟩)
    go_ret
    exact ⟨rfl, (Below.refl w.heap.size w).alloc (Nat.le_refl _) _⟩
  | true =>
    rw [show dateB (y, d) = inB d 1 365 by unfold dateB; simp only; rw [h1]; rfl]
    go_enter Try.func52, Try.ntmps52
    go_wp2_with (go_at_call 65; refine (l1InD_any _ _ _ _).mono ?_; rintro e w' ⟨rfl, rfl⟩)
    go_ret
    exact ⟨rfl, (Below.refl w.heap.size w).alloc (Nat.le_refl _) _⟩

set_option maxHeartbeats 1000000 in
theorem biDays_any (y d : Int) (w : World) (h : dateB (y, d) = true) : Calls Try.prog 53 #[.agg #[.int .i64 y, .int .i64 d]] w (Ret (.int .i64 (dys (y, d))) w) := by
  obtain ⟨hy, hd⟩ := dateB_iff.1 h
  simp only at hy hd
  rw [show dys (y, d) = y * 365 + d - 1 from rfl]
  clear h
  go_enter Try.func53, Try.ntmps53
  go_wp2_with fail
  go_ret
  exact ⟨rfl, (Below.refl w.heap.size w).alloc (Nat.le_refl _) _⟩

set_option maxHeartbeats 1000000 in
theorem biAge_any (y d y2 d2 : Int) (w : World) (h : dateB (y, d) = true) (h2 : dateB (y2, d2) = true) : Calls Try.prog 49 #[.agg #[.int .i64 y, .int .i64 d], .agg #[.int .i64 y2, .int .i64 d2]] w (Ret (.int .i64 (ageD (y, d) (y2, d2))) w) := by
  obtain ⟨hy, hd⟩ := dateB_iff.1 h
  obtain ⟨hy2, hd2⟩ := dateB_iff.1 h2
  simp only at hy hd hy2 hd2
  clear h h2
  by_cases hlt : d2 < d
  · rw [show ageD (y, d) (y2, d2) = y2 - y - 1 by unfold ageD; simp only; rw [if_pos hlt]]
    go_enter Try.func49, Try.ntmps49
    go_wp2_with fail
    go_ret
    exact ⟨rfl, ((Below.refl w.heap.size w).alloc (Nat.le_refl _) _).alloc (by simp) _⟩
  · rw [show ageD (y, d) (y2, d2) = y2 - y by unfold ageD; simp only; rw [if_neg hlt]]
    go_enter Try.func49, Try.ntmps49
    go_wp2_with fail
    go_ret
    exact ⟨rfl, ((Below.refl w.heap.size w).alloc (Nat.le_refl _) _).alloc (by simp) _⟩

/-- A call returned a date and a bool. -/
def RetPB (p : Dt) (ok : Bool) (w : World) (e : Ending) (w' : World) : Prop := e = .returned (.tuple #[.agg #[.int .i64 p.1, .int .i64 p.2], .bool ok]) ∧ Below w.heap.size w w'
set_option maxHeartbeats 1000000 in
theorem biBack_any (n : Int) (w : World) : Calls Try.prog 55 #[.int .i64 n] w (RetPB (backD n) (backOk n) w) := by
  have hA := fun w => l1InD_any n 0 1095364 w
  cases h1 : inB n 0 1095364 with
  | false =>
    rw [h1] at hA
    rw [show backD n = (0, 0) by unfold backD backOk; rw [h1]; rfl, show backOk n = false from h1]
    have HA := Lib.hid hA
    clear hA h1
    go_enter Try.func55, Try.ntmps55
    go_wp2_with (go_at_call 65; refine (HA.out _).mono ?_; rintro e w' ⟨rfl, rfl⟩)
    refine bodyPost_ret (v := .tuple #[.agg #[.int .i64 0, .int .i64 0], .bool false]) (by simp [results, Try.results55, go_sem]) rfl ?_
    exact ⟨rfl, (Below.refl w.heap.size w).alloc (Nat.le_refl _) _⟩
  | true =>
    have hb := inB_iff.1 h1
    have hq : n.tdiv 365 = n / 365 := Int.tdiv_eq_ediv_of_nonneg hb.1
    have hr : n.tmod 365 = n % 365 := Int.tmod_eq_emod_of_nonneg hb.1
    have hb1 : 0 ≤ n / 365 ∧ n / 365 ≤ 3000 := by omega
    have hb2 : 0 ≤ n % 365 ∧ n % 365 ≤ 364 := by omega
    rw [h1] at hA
    rw [show backD n = (n / 365, n % 365 + 1) by unfold backD backOk; rw [h1]; rfl, show backOk n = true from h1]
    have HA := Lib.hid hA
    clear hA h1
    go_enter Try.func55, Try.ntmps55
    go_wp2_with (go_at_call 65; refine (HA.out _).mono ?_; rintro e w' ⟨rfl, rfl⟩)
    refine bodyPost_ret (v := .tuple #[.agg #[.int .i64 (n / 365), .int .i64 (n % 365 + 1)], .bool true]) (by simp [results, Try.results55, go_sem]) rfl ?_
    exact ⟨rfl, (Below.refl w.heap.size w).alloc (Nat.le_refl _) _⟩
end Go.Proofs.Ytbhceokapbnhhaa
