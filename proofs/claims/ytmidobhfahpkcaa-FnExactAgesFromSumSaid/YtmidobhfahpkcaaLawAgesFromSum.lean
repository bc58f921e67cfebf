/- The statement on AgesFromSum, walked over the contracts of what it calls. -/
import Derived.Test.YtmidobhfahpkcaaAfs
set_option linter.unusedVariables false
set_option linter.unusedSimpArgs false
namespace Go.Proofs.Ytmidobhfahpkcaa
open Go.RowKit

set_option maxHeartbeats 8000000 in
set_option maxRecDepth 100000 in
theorem law_AgesFromSum_of (x1 : Int) (y2 d2 : Int) (r1 r2 r3 : Int) (ok : Bool) (w : World)
    (hs : ∀ w, Calls Try.prog 20 #[.int .i64 x1, .agg #[.int .i64 y2, .int .i64 d2]] w (RetI3B r1 r2 r3 ok w))
    (hi : ∀ w, Calls Try.prog 21 #[.int .i64 x1, .agg #[.int .i64 y2, .int .i64 d2]] w (RetI3B r1 r2 r3 ok w)) :
    Calls Try.prog 5 #[.int .i64 x1, .agg #[.int .i64 y2, .int .i64 d2]] w (Ret (.bool true) w) := by
  have HS := Lib.hid hs
  have HI := Lib.hid hi
  have HW0 := Lib.hid ((Below.refl w.heap.size w).alloc (Nat.le_refl _) (.cells #[.int .i64 y2, .int .i64 d2] 23))
  clear hs hi
  go_enter Try.func5, Try.ntmps5
  go_wp2_with (first | (go_at_call_of 16 (Value.int IntKind.i64 y2); refine (toDate_any y2 d2 _).mono ?_; rintro e w' ⟨rfl, hcall⟩; have hbw : Below w.heap.size w w' := (by first | exact Below.trans (by assumption) (Below.mono hcall (Below.size (by assumption))) | exact Below.trans (Below.drew (by assumption)) (Below.mono hcall (Below.size (Below.drew (by assumption)))) | exact HW0.out.trans (hcall.mono (by simp <;> omega)) | exact HW0.out.drew.trans (hcall.mono (by simp <;> omega)) | exact (Below.alloc (by assumption) (Below.size (by assumption)) _).trans (hcall.mono (by have := Below.size ‹Below w.heap.size w _›; simp <;> omega)) | exact (Below.drew (Below.alloc (by assumption) (Below.size (by assumption)) _)).trans (hcall.mono (by have := Below.size ‹Below w.heap.size w _›; simp <;> omega))); have q1 : w'.cell? ⟨w.heap.size, 0, none⟩ = some (.int .i64 y2) := below_cell2 hcall (by first | assumption | (simp; done) | (simp [go_sem]; done) | (simp [go_sem, *]; done) | simp [*]); have q2 : w'.cell? ⟨w.heap.size, 1, none⟩ = some (.int .i64 d2) := below_cell2 hcall (by first | assumption | (simp; done) | (simp [go_sem]; done) | (simp [go_sem, *]; done) | simp [*]); clear hcall) | (go_at_call 20; refine (HS.out _).mono ?_; rintro e w2 ⟨rfl, hcall⟩; have hbw : Below w.heap.size w w2 := (by first | exact Below.trans (by assumption) (Below.mono hcall (Below.size (by assumption))) | exact Below.trans (Below.drew (by assumption)) (Below.mono hcall (Below.size (Below.drew (by assumption)))) | exact HW0.out.trans (hcall.mono (by simp <;> omega)) | exact HW0.out.drew.trans (hcall.mono (by simp <;> omega)) | exact (Below.alloc (by assumption) (Below.size (by assumption)) _).trans (hcall.mono (by have := Below.size ‹Below w.heap.size w _›; simp <;> omega)) | exact (Below.drew (Below.alloc (by assumption) (Below.size (by assumption)) _)).trans (hcall.mono (by have := Below.size ‹Below w.heap.size w _›; simp <;> omega))); have q1 : w2.cell? ⟨w.heap.size, 0, none⟩ = some (.int .i64 y2) := below_cell2 hcall (by first | assumption | (simp; done) | (simp [go_sem]; done) | (simp [go_sem, *]; done) | simp [*]); have q2 : w2.cell? ⟨w.heap.size, 1, none⟩ = some (.int .i64 d2) := below_cell2 hcall (by first | assumption | (simp; done) | (simp [go_sem]; done) | (simp [go_sem, *]; done) | simp [*]); clear hcall) | (go_at_call 21; refine (HI.out _).mono ?_; rintro e w4 ⟨rfl, hcall⟩; have hbw : Below w.heap.size w w4 := (by first | exact Below.trans (by assumption) (Below.mono hcall (Below.size (by assumption))) | exact Below.trans (Below.drew (by assumption)) (Below.mono hcall (Below.size (Below.drew (by assumption)))) | exact HW0.out.trans (hcall.mono (by simp <;> omega)) | exact HW0.out.drew.trans (hcall.mono (by simp <;> omega)) | exact (Below.alloc (by assumption) (Below.size (by assumption)) _).trans (hcall.mono (by have := Below.size ‹Below w.heap.size w _›; simp <;> omega)) | exact (Below.drew (Below.alloc (by assumption) (Below.size (by assumption)) _)).trans (hcall.mono (by have := Below.size ‹Below w.heap.size w _›; simp <;> omega))); have q1 : w4.cell? ⟨w.heap.size, 0, none⟩ = some (.int .i64 y2) := below_cell2 hcall (by first | assumption | (simp; done) | (simp [go_sem]; done) | (simp [go_sem, *]; done) | simp [*]); have q2 : w4.cell? ⟨w.heap.size, 1, none⟩ = some (.int .i64 d2) := below_cell2 hcall (by first | assumption | (simp; done) | (simp [go_sem]; done) | (simp [go_sem, *]; done) | simp [*]); clear hcall))
  go_ret
  exact ⟨rfl, by assumption⟩

theorem law_AgesFromSum (x1 : Int) (y2 d2 : Int) (w : World) (_w1 : (Lit.int .i64 x1).wf = true) :
    Calls Try.prog 5 #[.int .i64 x1, .agg #[.int .i64 y2, .int .i64 d2]] w (Ret (.bool true) w) := by
  obtain ⟨r1, r2, r3, ok, hs, hi⟩ := afs_both x1 y2 d2
  exact law_AgesFromSum_of x1 y2 d2 r1 r2 r3 ok w hs hi
end Go.Proofs.Ytmidobhfahpkcaa
