/- Days and dates, of the program. -/
import Derived.Test.YtbhceokapbnhhaaImN
set_option linter.unusedVariables false
set_option linter.unusedSimpArgs false
namespace Go.Proofs.Ytbhceokapbnhhaa
open Go.RowKit

theorem imWithin_any (n lo hi : Int) (w : World) : Calls Try.prog 46 #[.int .i64 n, .int .i64 lo, .int .i64 hi] w (RetSame (.bool (inB n lo hi)) w) := by
  by_cases h1 : lo ≤ n
  · by_cases h2 : n ≤ hi
    · have e : inB n lo hi = true := inB_true h1 h2
      rw [e]; clear e
      go_enter Try.func46, Try.ntmps46
      go_wp2
      go_ret
      exact ⟨rfl, rfl⟩
    · have e : inB n lo hi = false := inB_not.2 (by omega)
      rw [e]; clear e
      go_enter Try.func46, Try.ntmps46
      go_wp2
      go_ret
      exact ⟨rfl, rfl⟩
  · have e : inB n lo hi = false := inB_not.2 (by omega)
    rw [e]; clear e
    go_enter Try.func46, Try.ntmps46
    go_wp2
    go_ret
    exact ⟨rfl, rfl⟩

set_option maxHeartbeats 1000000 in
theorem imIsDate_any (y d : Int) (w : World) : Calls Try.prog 47 #[.agg #[.int .i64 y, .int .i64 d]] w (Ret (.bool (dateB (y, d))) w) := by
  cases h1 : inB y 0 3000 with
  | false =>
    rw [show dateB (y, d) = false by unfold dateB; simp only; rw [h1]; rfl]
    go_enter Try.func47, Try.ntmps47
    go_wp2_with (go_at_call 46; refine (imWithin_any _ _ _ _).mono ?_; rintro e w' ⟨rfl, rfl⟩)
    go_ret
    exact ⟨rfl, (Below.refl w.heap.size w).alloc (Nat.le_refl _) _⟩
  | true =>
    rw [show dateB (y, d) = inB d 1 365 by unfold dateB; simp only; rw [h1]; rfl]
    go_enter Try.func47, Try.ntmps47
    go_wp2_with (go_at_call 46; refine (imWithin_any _ _ _ _).mono ?_; rintro e w' ⟨rfl, rfl⟩)
    go_ret
    exact ⟨rfl, (Below.refl w.heap.size w).alloc (Nat.le_refl _) _⟩



set_option maxHeartbeats 1000000 in
theorem imDayOf_any (y d : Int) (w : World) : Calls Try.prog 67 #[.agg #[.int .i64 y, .int .i64 d]] w (Ret (.agg #[.int .i64 y, .int .i64 d]) w) := by
  go_enter Try.func67, Try.ntmps67
  go_wp2_with fail
  go_returns
  exact ⟨rfl, ((Below.refl w.heap.size w).alloc (Nat.le_refl _) _).alloc (by simp) _⟩

/-- Numbers that are no greater than the days of any date. -/
def midI (n : Int) : Prop := -10000000 ≤ n ∧ n ≤ 10000000
set_option maxHeartbeats 2000000 in
theorem imDaysAfter_any (y d y2 d2 : Int) (w : World) (h1 : midI y) (h2 : midI d) (h3 : midI y2) (h4 : midI d2) : Calls Try.prog 60 #[.agg #[.int .i64 y, .int .i64 d], .agg #[.int .i64 y2, .int .i64 d2]] w (Ret (.int .i64 (dys (y, d) - dys (y2, d2))) w) := by
  unfold midI at h1 h2 h3 h4
  rw [show dys (y, d) - dys (y2, d2) = (y - y2) * 365 + d - d2 by unfold dys; omega]
  go_enter Try.func60, Try.ntmps60
  go_wp2_with fail
  go_ret
  exact ⟨rfl, ((Below.refl w.heap.size w).alloc (Nat.le_refl _) _).alloc (by simp) _⟩

set_option maxHeartbeats 2000000 in
theorem imDate_any (y d : Int) (w : World) : Calls Try.prog 77 #[.agg #[.int .i64 y, .int .i64 d]] w (RetPB (dateOf (y, d)) (dateB (y, d)) w) := by
  have HW0 := Lib.hid ((((Below.refl w.heap.size w).alloc (Nat.le_refl _) (.cells #[.int .i64 y, .int .i64 d] 69)).alloc (by simp) (.cells #[.int .i64 0, .int .i64 0] 34)).alloc (by simp; omega) (.cells #[.int .i64 y, .int .i64 d] 34))
  have HA0 := fun w => imIsDate_any y d w
  cases h : dateB (y, d) with
  | false =>
    rw [h] at HA0
    rw [dateOf_no h]
    have HA := Lib.hid HA0
    clear HA0 h
    go_enter Try.func77, Try.ntmps77
    go_wp2_with (first | (go_at_call 47; refine (HA.out _).mono ?_; rintro e w' ⟨rfl, hcall⟩; have hbw : Below w.heap.size w w' := (by first | exact Below.trans (by assumption) (Below.mono hcall (Below.size (by assumption))) | exact Below.trans (Below.drew (by assumption)) (Below.mono hcall (Below.size (Below.drew (by assumption)))) | exact HW0.out.trans (hcall.mono (by simp <;> omega)) | exact HW0.out.drew.trans (hcall.mono (by simp <;> omega))); have q3 : w'.cell? ⟨w.heap.size + 1 + 1, 0, none⟩ = some (.int .i64 y) := below_cell2 hcall (by first | assumption | (simp; done) | (simp [go_sem]; done) | simp [*]); have q4 : w'.cell? ⟨w.heap.size + 1 + 1, 1, none⟩ = some (.int .i64 d) := below_cell2 hcall (by first | assumption | (simp; done) | (simp [go_sem]; done) | simp [*]); have r0 : w'.cell? ⟨w.heap.size + 1, 0, none⟩ = some (.int .i64 0) := below_cell2 hcall (by first | assumption | (simp; done) | (simp [go_sem]; done) | simp [*]); have r1 : w'.cell? ⟨w.heap.size + 1, 1, none⟩ = some (.int .i64 0) := below_cell2 hcall (by first | assumption | (simp; done) | (simp [go_sem]; done) | simp [*]); have z0 : w'.frozen? ⟨w.heap.size + 1, 0, none⟩ = false := (hcall.frozen (p := ⟨w.heap.size + 1, 0, none⟩) (by first | (simp; done) | exact World.block_lt_of_cell? _ ⟨w.heap.size + 1, 0, none⟩ (by assumption))).trans (by first | (simp; done) | assumption | (simp [go_sem]; done) | (simp [*]; done)); have z1 : w'.frozen? ⟨w.heap.size + 1, 1, none⟩ = false := (hcall.frozen (p := ⟨w.heap.size + 1, 1, none⟩) (by first | (simp; done) | exact World.block_lt_of_cell? _ ⟨w.heap.size + 1, 0, none⟩ (by assumption))).trans (by first | (simp; done) | assumption | (simp [go_sem]; done) | (simp [*]; done)); clear hcall))
    obtain ⟨s0, s1⟩ := two_cells r0 r1
    refine bodyPost_ret (v := .tuple #[.agg #[.int .i64 0, .int .i64 0], .bool false]) (by simp [results, Try.results77, go_sem, s0, s1]) rfl ?_
    exact ⟨rfl, (hbw.setCell (by simp <;> omega) _).setCell (by simp <;> omega) _⟩
  | true =>
    rw [h] at HA0
    rw [dateOf_yes h]
    have HA := Lib.hid HA0
    clear HA0 h
    go_enter Try.func77, Try.ntmps77
    go_wp2_with (first | (go_at_call 47; refine (HA.out _).mono ?_; rintro e w' ⟨rfl, hcall⟩; have hbw : Below w.heap.size w w' := (by first | exact Below.trans (by assumption) (Below.mono hcall (Below.size (by assumption))) | exact Below.trans (Below.drew (by assumption)) (Below.mono hcall (Below.size (Below.drew (by assumption)))) | exact HW0.out.trans (hcall.mono (by simp <;> omega)) | exact HW0.out.drew.trans (hcall.mono (by simp <;> omega))); have q3 : w'.cell? ⟨w.heap.size + 1 + 1, 0, none⟩ = some (.int .i64 y) := below_cell2 hcall (by first | assumption | (simp; done) | (simp [go_sem]; done) | simp [*]); have q4 : w'.cell? ⟨w.heap.size + 1 + 1, 1, none⟩ = some (.int .i64 d) := below_cell2 hcall (by first | assumption | (simp; done) | (simp [go_sem]; done) | simp [*]); have r0 : w'.cell? ⟨w.heap.size + 1, 0, none⟩ = some (.int .i64 0) := below_cell2 hcall (by first | assumption | (simp; done) | (simp [go_sem]; done) | simp [*]); have r1 : w'.cell? ⟨w.heap.size + 1, 1, none⟩ = some (.int .i64 0) := below_cell2 hcall (by first | assumption | (simp; done) | (simp [go_sem]; done) | simp [*]); have z0 : w'.frozen? ⟨w.heap.size + 1, 0, none⟩ = false := (hcall.frozen (p := ⟨w.heap.size + 1, 0, none⟩) (by first | (simp; done) | exact World.block_lt_of_cell? _ ⟨w.heap.size + 1, 0, none⟩ (by assumption))).trans (by first | (simp; done) | assumption | (simp [go_sem]; done) | (simp [*]; done)); have z1 : w'.frozen? ⟨w.heap.size + 1, 1, none⟩ = false := (hcall.frozen (p := ⟨w.heap.size + 1, 1, none⟩) (by first | (simp; done) | exact World.block_lt_of_cell? _ ⟨w.heap.size + 1, 0, none⟩ (by assumption))).trans (by first | (simp; done) | assumption | (simp [go_sem]; done) | (simp [*]; done)); clear hcall))
    obtain ⟨s0, s1⟩ := two_cells r0 r1
    refine bodyPost_ret (v := .tuple #[.agg #[.int .i64 y, .int .i64 d], .bool true]) (by simp [results, Try.results77, go_sem, s0, s1]) rfl ?_
    exact ⟨rfl, (hbw.setCell (by simp <;> omega) _).setCell (by simp <;> omega) _⟩

set_option maxHeartbeats 2000000 in
theorem imAreDates_any (y d y2 d2 : Int) (w : World) : Calls Try.prog 71 #[.agg #[.int .i64 y, .int .i64 d], .agg #[.int .i64 y2, .int .i64 d2]] w (Ret (.bool (twoD (y, d) (y2, d2))) w) := by
  have HW0 := Lib.hid (((Below.refl w.heap.size w).alloc (Nat.le_refl _) (.cells #[.int .i64 y, .int .i64 d] 34)).alloc (by simp) (.cells #[.int .i64 y2, .int .i64 d2] 34))
  have HA0 := fun w => imIsDate_any y d w
  have HB0 := fun w => imIsDate_any y2 d2 w
  cases h : dateB (y, d) with
  | false =>
    rw [h] at HA0
    rw [show twoD (y, d) (y2, d2) = false by unfold twoD; rw [h]; rfl]
    have HA := Lib.hid HA0
    clear HA0 HB0 h
    go_enter Try.func71, Try.ntmps71
    go_wp2_with (first | (go_at_call_of 47 (Value.int IntKind.i64 y); refine (HA.out _).mono ?_; rintro e w' ⟨rfl, hcall⟩; have hbw : Below w.heap.size w w' := (by first | exact Below.trans (by assumption) (Below.mono hcall (Below.size (by assumption))) | exact Below.trans (Below.drew (by assumption)) (Below.mono hcall (Below.size (Below.drew (by assumption)))) | exact HW0.out.trans (hcall.mono (by simp <;> omega)) | exact HW0.out.drew.trans (hcall.mono (by simp <;> omega))); have q1 : w'.cell? ⟨w.heap.size, 0, none⟩ = some (.int .i64 y) := below_cell2 hcall (by first | assumption | (simp; done) | (simp [go_sem]; done) | simp [*]); have q2 : w'.cell? ⟨w.heap.size, 1, none⟩ = some (.int .i64 d) := below_cell2 hcall (by first | assumption | (simp; done) | (simp [go_sem]; done) | simp [*]); have q3 : w'.cell? ⟨w.heap.size + 1, 0, none⟩ = some (.int .i64 y2) := below_cell2 hcall (by first | assumption | (simp; done) | (simp [go_sem]; done) | simp [*]); have q4 : w'.cell? ⟨w.heap.size + 1, 1, none⟩ = some (.int .i64 d2) := below_cell2 hcall (by first | assumption | (simp; done) | (simp [go_sem]; done) | simp [*]); clear hcall))
    go_ret
    exact ⟨rfl, hbw⟩
  | true =>
    rw [h] at HA0
    rw [show twoD (y, d) (y2, d2) = dateB (y2, d2) by unfold twoD; rw [h]; rfl]
    have HA := Lib.hid HA0
    have HB := Lib.hid HB0
    clear HA0 HB0 h
    generalize dateB (y2, d2) = t at HB ⊢
    go_enter Try.func71, Try.ntmps71
    go_wp2_with (first | (go_at_call_of 47 (Value.int IntKind.i64 y); refine (HA.out _).mono ?_; rintro e w' ⟨rfl, hcall⟩; have hbw : Below w.heap.size w w' := (by first | exact Below.trans (by assumption) (Below.mono hcall (Below.size (by assumption))) | exact Below.trans (Below.drew (by assumption)) (Below.mono hcall (Below.size (Below.drew (by assumption)))) | exact HW0.out.trans (hcall.mono (by simp <;> omega)) | exact HW0.out.drew.trans (hcall.mono (by simp <;> omega))); have q1 : w'.cell? ⟨w.heap.size, 0, none⟩ = some (.int .i64 y) := below_cell2 hcall (by first | assumption | (simp; done) | (simp [go_sem]; done) | simp [*]); have q2 : w'.cell? ⟨w.heap.size, 1, none⟩ = some (.int .i64 d) := below_cell2 hcall (by first | assumption | (simp; done) | (simp [go_sem]; done) | simp [*]); have q3 : w'.cell? ⟨w.heap.size + 1, 0, none⟩ = some (.int .i64 y2) := below_cell2 hcall (by first | assumption | (simp; done) | (simp [go_sem]; done) | simp [*]); have q4 : w'.cell? ⟨w.heap.size + 1, 1, none⟩ = some (.int .i64 d2) := below_cell2 hcall (by first | assumption | (simp; done) | (simp [go_sem]; done) | simp [*]); clear hcall) | (go_at_call_of 47 (Value.int IntKind.i64 y2); refine (HB.out _).mono ?_; rintro e w' ⟨rfl, hcall⟩; have hbw : Below w.heap.size w w' := (by first | exact Below.trans (by assumption) (Below.mono hcall (Below.size (by assumption))) | exact Below.trans (Below.drew (by assumption)) (Below.mono hcall (Below.size (Below.drew (by assumption)))) | exact HW0.out.trans (hcall.mono (by simp <;> omega)) | exact HW0.out.drew.trans (hcall.mono (by simp <;> omega))); have q1 : w'.cell? ⟨w.heap.size, 0, none⟩ = some (.int .i64 y) := below_cell2 hcall (by first | assumption | (simp; done) | (simp [go_sem]; done) | simp [*]); have q2 : w'.cell? ⟨w.heap.size, 1, none⟩ = some (.int .i64 d) := below_cell2 hcall (by first | assumption | (simp; done) | (simp [go_sem]; done) | simp [*]); have q3 : w'.cell? ⟨w.heap.size + 1, 0, none⟩ = some (.int .i64 y2) := below_cell2 hcall (by first | assumption | (simp; done) | (simp [go_sem]; done) | simp [*]); have q4 : w'.cell? ⟨w.heap.size + 1, 1, none⟩ = some (.int .i64 d2) := below_cell2 hcall (by first | assumption | (simp; done) | (simp [go_sem]; done) | simp [*]); clear hcall))
    go_ret
    exact ⟨rfl, hbw⟩

set_option maxHeartbeats 4000000 in
set_option maxRecDepth 100000 in
theorem imCompare_any (y d y2 d2 : Int) (w : World) (h1 : midI y) (h2 : midI d) (h3 : midI y2) (h4 : midI d2) : Calls Try.prog 54 #[.agg #[.int .i64 y, .int .i64 d], .agg #[.int .i64 y2, .int .i64 d2]] w (Ret (.int .i64 (dys (y, d) - dys (y2, d2))) w) := by
  have HW0 := Lib.hid (((Below.refl w.heap.size w).alloc (Nat.le_refl _) (.cells #[.int .i64 y, .int .i64 d] 34)).alloc (by simp) (.cells #[.int .i64 y2, .int .i64 d2] 34))
  have HA := Lib.hid (fun w => imDayOf_any y d w)
  have HB := Lib.hid (fun w => imDayOf_any y2 d2 w)
  have HC := Lib.hid (fun w => imDaysAfter_any y d y2 d2 w h1 h2 h3 h4)
  clear h1 h2 h3 h4
  generalize dys (y, d) - dys (y2, d2) = r at HC ⊢
  go_enter Try.func54, Try.ntmps54
  go_wp2_with fail
  go_region_with (first | (go_at_call_of 67 (Value.int IntKind.i64 y); refine (HA.out _).mono ?_; rintro e w' ⟨rfl, hcall⟩; have hbw : Below w.heap.size w w' := (by first | exact Below.trans (by assumption) (Below.mono hcall (Below.size (by assumption))) | exact Below.trans (Below.drew (by assumption)) (Below.mono hcall (Below.size (Below.drew (by assumption)))) | exact HW0.out.trans (hcall.mono (by simp <;> omega)) | exact HW0.out.drew.trans (hcall.mono (by simp <;> omega))); have q1 : w'.cell? ⟨w.heap.size, 0, none⟩ = some (.int .i64 y) := below_cell2 hcall (by first | assumption | (simp; done) | (simp [go_sem]; done) | simp [*]); have q2 : w'.cell? ⟨w.heap.size, 1, none⟩ = some (.int .i64 d) := below_cell2 hcall (by first | assumption | (simp; done) | (simp [go_sem]; done) | simp [*]); have q3 : w'.cell? ⟨w.heap.size + 1, 0, none⟩ = some (.int .i64 y2) := below_cell2 hcall (by first | assumption | (simp; done) | (simp [go_sem]; done) | simp [*]); have q4 : w'.cell? ⟨w.heap.size + 1, 1, none⟩ = some (.int .i64 d2) := below_cell2 hcall (by first | assumption | (simp; done) | (simp [go_sem]; done) | simp [*]); clear hcall) | (go_at_call_of 67 (Value.int IntKind.i64 y2); refine (HB.out _).mono ?_; rintro e w' ⟨rfl, hcall⟩; have hbw : Below w.heap.size w w' := (by first | exact Below.trans (by assumption) (Below.mono hcall (Below.size (by assumption))) | exact Below.trans (Below.drew (by assumption)) (Below.mono hcall (Below.size (Below.drew (by assumption)))) | exact HW0.out.trans (hcall.mono (by simp <;> omega)) | exact HW0.out.drew.trans (hcall.mono (by simp <;> omega))); have q1 : w'.cell? ⟨w.heap.size, 0, none⟩ = some (.int .i64 y) := below_cell2 hcall (by first | assumption | (simp; done) | (simp [go_sem]; done) | simp [*]); have q2 : w'.cell? ⟨w.heap.size, 1, none⟩ = some (.int .i64 d) := below_cell2 hcall (by first | assumption | (simp; done) | (simp [go_sem]; done) | simp [*]); have q3 : w'.cell? ⟨w.heap.size + 1, 0, none⟩ = some (.int .i64 y2) := below_cell2 hcall (by first | assumption | (simp; done) | (simp [go_sem]; done) | simp [*]); have q4 : w'.cell? ⟨w.heap.size + 1, 1, none⟩ = some (.int .i64 d2) := below_cell2 hcall (by first | assumption | (simp; done) | (simp [go_sem]; done) | simp [*]); clear hcall) | (go_at_call 60; refine (HC.out _).mono ?_; rintro e w' ⟨rfl, hcall⟩; have hbw : Below w.heap.size w w' := (by first | exact Below.trans (by assumption) (Below.mono hcall (Below.size (by assumption))) | exact Below.trans (Below.drew (by assumption)) (Below.mono hcall (Below.size (Below.drew (by assumption)))) | exact HW0.out.trans (hcall.mono (by simp <;> omega)) | exact HW0.out.drew.trans (hcall.mono (by simp <;> omega))); have q1 : w'.cell? ⟨w.heap.size, 0, none⟩ = some (.int .i64 y) := below_cell2 hcall (by first | assumption | (simp; done) | (simp [go_sem]; done) | simp [*]); have q2 : w'.cell? ⟨w.heap.size, 1, none⟩ = some (.int .i64 d) := below_cell2 hcall (by first | assumption | (simp; done) | (simp [go_sem]; done) | simp [*]); have q3 : w'.cell? ⟨w.heap.size + 1, 0, none⟩ = some (.int .i64 y2) := below_cell2 hcall (by first | assumption | (simp; done) | (simp [go_sem]; done) | simp [*]); have q4 : w'.cell? ⟨w.heap.size + 1, 1, none⟩ = some (.int .i64 d2) := below_cell2 hcall (by first | assumption | (simp; done) | (simp [go_sem]; done) | simp [*]); clear hcall))
  all_goals
    go_wp2_with fail
    go_ret
    exact ⟨rfl, by assumption⟩

end Go.Proofs.Ytbhceokapbnhhaa
