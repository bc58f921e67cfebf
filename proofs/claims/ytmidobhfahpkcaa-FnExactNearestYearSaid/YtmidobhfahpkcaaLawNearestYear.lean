/- The statement on NearestYear, walked over the contracts of what it calls. -/
import Derived.Test.YtmidobhfahpkcaaNy3
set_option linter.unusedVariables false
set_option linter.unusedSimpArgs false
namespace Go.Proofs.Ytmidobhfahpkcaa
open Go.RowKit

set_option maxHeartbeats 8000000 in
set_option maxRecDepth 100000 in
theorem law_NearestYear_of (x1 : Int) (x2 : Int) (y3 d3 : Int) (r : Int) (ok : Bool) (w : World)
    (hs : ∀ w, Calls Try.prog 28 #[.int .i64 x1, .int .i64 x2, .agg #[.int .i64 y3, .int .i64 d3]] w (RetIB r ok w))
    (hi : ∀ w, Calls Try.prog 29 #[.int .i64 x1, .int .i64 x2, .agg #[.int .i64 y3, .int .i64 d3]] w (RetIB r ok w)) :
    Calls Try.prog 9 #[.int .i64 x1, .int .i64 x2, .agg #[.int .i64 y3, .int .i64 d3]] w (Ret (.bool true) w) := by
  have HS := Lib.hid hs
  have HI := Lib.hid hi
  have HW0 := Lib.hid ((Below.refl w.heap.size w).alloc (Nat.le_refl _) (.cells #[.int .i64 y3, .int .i64 d3] 23))
  clear hs hi
  go_enter Try.func9, Try.ntmps9
  go_wp2_with (first | (go_at_call_of 16 (Value.int IntKind.i64 y3); refine (toDate_any y3 d3 _).mono ?_; rintro e w' ⟨rfl, hcall⟩; have hbw : Below w.heap.size w w' := (by first | exact Below.trans (by assumption) (Below.mono hcall (Below.size (by assumption))) | exact Below.trans (Below.drew (by assumption)) (Below.mono hcall (Below.size (Below.drew (by assumption)))) | exact HW0.out.trans (hcall.mono (by simp <;> omega)) | exact HW0.out.drew.trans (hcall.mono (by simp <;> omega)) | exact (Below.alloc (by assumption) (Below.size (by assumption)) _).trans (hcall.mono (by have := Below.size ‹Below w.heap.size w _›; simp <;> omega)) | exact (Below.drew (Below.alloc (by assumption) (Below.size (by assumption)) _)).trans (hcall.mono (by have := Below.size ‹Below w.heap.size w _›; simp <;> omega))); have q1 : w'.cell? ⟨w.heap.size, 0, none⟩ = some (.int .i64 y3) := below_cell2 hcall (by first | assumption | (simp; done) | (simp [go_sem]; done) | (simp [go_sem, *]; done) | simp [*]); have q2 : w'.cell? ⟨w.heap.size, 1, none⟩ = some (.int .i64 d3) := below_cell2 hcall (by first | assumption | (simp; done) | (simp [go_sem]; done) | (simp [go_sem, *]; done) | simp [*]); clear hcall) | (go_at_call 28; refine (HS.out _).mono ?_; rintro e w2 ⟨rfl, hcall⟩; have hbw : Below w.heap.size w w2 := (by first | exact Below.trans (by assumption) (Below.mono hcall (Below.size (by assumption))) | exact Below.trans (Below.drew (by assumption)) (Below.mono hcall (Below.size (Below.drew (by assumption)))) | exact HW0.out.trans (hcall.mono (by simp <;> omega)) | exact HW0.out.drew.trans (hcall.mono (by simp <;> omega)) | exact (Below.alloc (by assumption) (Below.size (by assumption)) _).trans (hcall.mono (by have := Below.size ‹Below w.heap.size w _›; simp <;> omega)) | exact (Below.drew (Below.alloc (by assumption) (Below.size (by assumption)) _)).trans (hcall.mono (by have := Below.size ‹Below w.heap.size w _›; simp <;> omega))); have q1 : w2.cell? ⟨w.heap.size, 0, none⟩ = some (.int .i64 y3) := below_cell2 hcall (by first | assumption | (simp; done) | (simp [go_sem]; done) | (simp [go_sem, *]; done) | simp [*]); have q2 : w2.cell? ⟨w.heap.size, 1, none⟩ = some (.int .i64 d3) := below_cell2 hcall (by first | assumption | (simp; done) | (simp [go_sem]; done) | (simp [go_sem, *]; done) | simp [*]); clear hcall) | (go_at_call 29; refine (HI.out _).mono ?_; rintro e w4 ⟨rfl, hcall⟩; have hbw : Below w.heap.size w w4 := (by first | exact Below.trans (by assumption) (Below.mono hcall (Below.size (by assumption))) | exact Below.trans (Below.drew (by assumption)) (Below.mono hcall (Below.size (Below.drew (by assumption)))) | exact HW0.out.trans (hcall.mono (by simp <;> omega)) | exact HW0.out.drew.trans (hcall.mono (by simp <;> omega)) | exact (Below.alloc (by assumption) (Below.size (by assumption)) _).trans (hcall.mono (by have := Below.size ‹Below w.heap.size w _›; simp <;> omega)) | exact (Below.drew (Below.alloc (by assumption) (Below.size (by assumption)) _)).trans (hcall.mono (by have := Below.size ‹Below w.heap.size w _›; simp <;> omega))); have q1 : w4.cell? ⟨w.heap.size, 0, none⟩ = some (.int .i64 y3) := below_cell2 hcall (by first | assumption | (simp; done) | (simp [go_sem]; done) | (simp [go_sem, *]; done) | simp [*]); have q2 : w4.cell? ⟨w.heap.size, 1, none⟩ = some (.int .i64 d3) := below_cell2 hcall (by first | assumption | (simp; done) | (simp [go_sem]; done) | (simp [go_sem, *]; done) | simp [*]); clear hcall))
  go_ret
  exact ⟨rfl, by assumption⟩

theorem law_NearestYear (x1 : Int) (x2 : Int) (y3 d3 : Int) (w : World) (_w1 : (Lit.int .i64 x1).wf = true) (_w2 : (Lit.int .i64 x2).wf = true) :
    Calls Try.prog 9 #[.int .i64 x1, .int .i64 x2, .agg #[.int .i64 y3, .int .i64 d3]] w (Ret (.bool true) w) := by
  obtain ⟨r, ok, hs, hi⟩ := ny_both x1 x2 y3 d3
  exact law_NearestYear_of x1 x2 y3 d3 r ok w hs hi
end Go.Proofs.Ytmidobhfahpkcaa
