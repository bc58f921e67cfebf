/- The statement on AgesFromThen, walked over the contracts of what it calls. -/
import Derived.Test.YtmidobhfahpkcaaAth2
set_option linter.unusedVariables false
set_option linter.unusedSimpArgs false
namespace Go.Proofs.Ytmidobhfahpkcaa
open Go.RowKit

set_option maxHeartbeats 8000000 in
set_option maxRecDepth 100000 in
theorem law_AgesFromThen_of (y1 d1 : Int) (y2 d2 : Int) (x3 : Int) (x4 : Int) (r1 r2 r3 : Int) (ok : Bool) (w : World)
    (hs : ∀ w, Calls Try.prog 26 #[.agg #[.int .i64 y1, .int .i64 d1], .agg #[.int .i64 y2, .int .i64 d2], .int .i64 x3, .int .i64 x4] w (RetI3B r1 r2 r3 ok w))
    (hi : ∀ w, Calls Try.prog 27 #[.agg #[.int .i64 y1, .int .i64 d1], .agg #[.int .i64 y2, .int .i64 d2], .int .i64 x3, .int .i64 x4] w (RetI3B r1 r2 r3 ok w)) :
    Calls Try.prog 8 #[.agg #[.int .i64 y1, .int .i64 d1], .agg #[.int .i64 y2, .int .i64 d2], .int .i64 x3, .int .i64 x4] w (Ret (.bool true) w) := by
  have HS := Lib.hid hs
  have HI := Lib.hid hi
  have HW0 := Lib.hid (((Below.refl w.heap.size w).alloc (Nat.le_refl _) (.cells #[.int .i64 y1, .int .i64 d1] 23)).alloc (by simp) (.cells #[.int .i64 y2, .int .i64 d2] 23))
  clear hs hi
  go_enter Try.func8, Try.ntmps8
  go_wp2_with fail
  go_region_held3 (fun w' => Below w.heap.size w w' ∧ w'.cell? ⟨w.heap.size, 0, none⟩ = some (.int .i64 y1) ∧ w'.cell? ⟨w.heap.size, 1, none⟩ = some (.int .i64 d1) ∧ w'.cell? ⟨w.heap.size + 1, 0, none⟩ = some (.int .i64 y2) ∧ w'.cell? ⟨w.heap.size + 1, 1, none⟩ = some (.int .i64 d2))
    (first
      | exact ⟨HW0.out.drew, by simp [go_sem], by simp [go_sem], by simp [go_sem], by simp [go_sem]⟩
      | (exact ⟨Below.drew (by assumption), by first | assumption | simp [*], by first | assumption | simp [*], by first | assumption | simp [*], by first | assumption | simp [*]⟩)
      | (go_split_ands
         refine ⟨?_, ?_, ?_, ?_, ?_⟩
         · exact Below.trans (by assumption) (Below.mono hcall (Below.size (by assumption)))
         · exact below_cell2 hcall (by assumption)
         · exact below_cell2 hcall (by assumption)
         · exact below_cell2 hcall (by assumption)
         · exact below_cell2 hcall (by assumption)))
    (first | (go_at_call_of 16 (Value.int IntKind.i64 y1); refine (toDate_any y1 d1 _).mono ?_; rintro e w' ⟨rfl, hcall⟩) | (go_at_call_of 16 (Value.int IntKind.i64 y2); refine (toDate_any y2 d2 _).mono ?_; rintro e w' ⟨rfl, hcall⟩) | (go_at_call 26; refine (HS.out _).mono ?_; rintro e w' ⟨rfl, hcall⟩))
  all_goals
    obtain ⟨hbw, q1, q2, q3, q4⟩ := ‹Below w.heap.size w _ ∧ _›
    go_wp2_with fail
    go_region_held3 (fun w' => Below w.heap.size w w' ∧ w'.cell? ⟨w.heap.size, 0, none⟩ = some (.int .i64 y1) ∧ w'.cell? ⟨w.heap.size, 1, none⟩ = some (.int .i64 d1) ∧ w'.cell? ⟨w.heap.size + 1, 0, none⟩ = some (.int .i64 y2) ∧ w'.cell? ⟨w.heap.size + 1, 1, none⟩ = some (.int .i64 d2))
      (first
        | exact ⟨hbw.drew, by simpa using q1, by simpa using q2, by simpa using q3, by simpa using q4⟩
        | (exact ⟨Below.drew (by assumption), by first | assumption | simp [*], by first | assumption | simp [*], by first | assumption | simp [*], by first | assumption | simp [*]⟩)
        | (go_split_ands
           refine ⟨?_, ?_, ?_, ?_, ?_⟩
           · exact Below.trans (by assumption) (Below.mono hcall (Below.size (by assumption)))
           · exact below_cell2 hcall (by assumption)
           · exact below_cell2 hcall (by assumption)
           · exact below_cell2 hcall (by assumption)
           · exact below_cell2 hcall (by assumption)))
      (first | (go_at_call_of 16 (Value.int IntKind.i64 y1); refine (toDate_any y1 d1 _).mono ?_; rintro e w' ⟨rfl, hcall⟩) | (go_at_call_of 16 (Value.int IntKind.i64 y2); refine (toDate_any y2 d2 _).mono ?_; rintro e w' ⟨rfl, hcall⟩) | (go_at_call 27; refine (HI.out _).mono ?_; rintro e w' ⟨rfl, hcall⟩))
    all_goals
      obtain ⟨hbw, _⟩ := ‹Below w.heap.size w _ ∧ _›
      go_wp2_with fail
      go_ret
      exact ⟨rfl, hbw⟩

theorem law_AgesFromThen (y1 d1 : Int) (y2 d2 : Int) (x3 : Int) (x4 : Int) (w : World) (_w3 : (Lit.int .i64 x3).wf = true) (_w4 : (Lit.int .i64 x4).wf = true) :
    Calls Try.prog 8 #[.agg #[.int .i64 y1, .int .i64 d1], .agg #[.int .i64 y2, .int .i64 d2], .int .i64 x3, .int .i64 x4] w (Ret (.bool true) w) := by
  obtain ⟨r1, r2, r3, ok, hs, hi⟩ := ath_both y1 d1 y2 d2 x3 x4
  exact law_AgesFromThen_of y1 d1 y2 d2 x3 x4 r1 r2 r3 ok w hs hi
end Go.Proofs.Ytmidobhfahpkcaa
