/- The statement on TurnRatio, walked over the contracts of what it calls. -/
import Derived.Test.YtmidobhfahpkcaaTurn
set_option linter.unusedVariables false
set_option linter.unusedSimpArgs false
namespace Go.Proofs.Ytmidobhfahpkcaa
open Go.RowKit

set_option maxHeartbeats 8000000 in
set_option maxRecDepth 100000 in
theorem law_TurnRatio_of (y1 d1 : Int) (p : Dt) (ok : Bool) (w : World)
    (hs : ∀ w, Calls Try.prog 32 #[.agg #[.int .i64 y1, .int .i64 d1]] w (RetPB p ok w))
    (hi : ∀ w, Calls Try.prog 33 #[.agg #[.int .i64 y1, .int .i64 d1]] w (RetPB p ok w)) :
    Calls Try.prog 11 #[.agg #[.int .i64 y1, .int .i64 d1]] w (Ret (.bool true) w) := by
  have HS := Lib.hid hs
  have HI := Lib.hid hi
  have HW0 := Lib.hid ((Below.refl w.heap.size w).alloc (Nat.le_refl _) (.cells #[.int .i64 y1, .int .i64 d1] 23))
  clear hs hi
  obtain ⟨u1, u2⟩ := p
  go_enter Try.func11, Try.ntmps11

  go_wp2_with fail
  refine (toDate_any y1 d1 _).mono ?_
  rintro e w1 ⟨rfl, hcall⟩
  (have hbw : Below w.heap.size w w1 := (by first | exact Below.trans (by assumption) (Below.mono hcall (Below.size (by assumption))) | exact Below.trans (Below.drew (by assumption)) (Below.mono hcall (Below.size (Below.drew (by assumption)))) | exact HW0.out.trans (hcall.mono (by simp <;> omega)) | exact HW0.out.drew.trans (hcall.mono (by simp <;> omega)) | exact (Below.alloc (by assumption) (Below.size (by assumption)) _).trans (hcall.mono (by have := Below.size ‹Below w.heap.size w _›; simp <;> omega)) | exact (Below.drew (Below.alloc (by assumption) (Below.size (by assumption)) _)).trans (hcall.mono (by have := Below.size ‹Below w.heap.size w _›; simp <;> omega))); have q1 : w1.cell? ⟨w.heap.size, 0, none⟩ = some (.int .i64 y1) := below_cell2 hcall (by first | assumption | (simp; done) | (simp [go_sem]; done) | (simp [go_sem, *]; done) | simp [*]); have q2 : w1.cell? ⟨w.heap.size, 1, none⟩ = some (.int .i64 d1) := below_cell2 hcall (by first | assumption | (simp; done) | (simp [go_sem]; done) | (simp [go_sem, *]; done) | simp [*]); clear hcall)
  go_wp2_with fail
  refine (HS.out _).mono ?_
  rintro e w2 ⟨rfl, hcall⟩
  (have hbw : Below w.heap.size w w2 := (by first | exact Below.trans (by assumption) (Below.mono hcall (Below.size (by assumption))) | exact Below.trans (Below.drew (by assumption)) (Below.mono hcall (Below.size (Below.drew (by assumption)))) | exact HW0.out.trans (hcall.mono (by simp <;> omega)) | exact HW0.out.drew.trans (hcall.mono (by simp <;> omega)) | exact (Below.alloc (by assumption) (Below.size (by assumption)) _).trans (hcall.mono (by have := Below.size ‹Below w.heap.size w _›; simp <;> omega)) | exact (Below.drew (Below.alloc (by assumption) (Below.size (by assumption)) _)).trans (hcall.mono (by have := Below.size ‹Below w.heap.size w _›; simp <;> omega))); have q1 : w2.cell? ⟨w.heap.size, 0, none⟩ = some (.int .i64 y1) := below_cell2 hcall (by first | assumption | (simp; done) | (simp [go_sem]; done) | (simp [go_sem, *]; done) | simp [*]); have q2 : w2.cell? ⟨w.heap.size, 1, none⟩ = some (.int .i64 d1) := below_cell2 hcall (by first | assumption | (simp; done) | (simp [go_sem]; done) | (simp [go_sem, *]; done) | simp [*]); clear hcall)
  have v_q1 := cell_above q1
  have v_q2 := cell_above q2
  go_wp2_with fail
  refine (toDate_any y1 d1 _).mono ?_
  rintro e w3 ⟨rfl, hcall⟩
  (have hbw : Below w.heap.size w w3 := (by first | exact Below.trans (by assumption) (Below.mono hcall (Below.size (by assumption))) | exact Below.trans (Below.drew (by assumption)) (Below.mono hcall (Below.size (Below.drew (by assumption)))) | exact HW0.out.trans (hcall.mono (by simp <;> omega)) | exact HW0.out.drew.trans (hcall.mono (by simp <;> omega)) | exact (Below.alloc (by assumption) (Below.size (by assumption)) _).trans (hcall.mono (by have := Below.size ‹Below w.heap.size w _›; simp <;> omega)) | exact (Below.drew (Below.alloc (by assumption) (Below.size (by assumption)) _)).trans (hcall.mono (by have := Below.size ‹Below w.heap.size w _›; simp <;> omega))); have c1 : w3.cell? ⟨w2.heap.size, 0, none⟩ = some (.int .i64 u1) := below_cell2 hcall (by first | assumption | (simp; done) | (simp [go_sem]; done) | (simp [go_sem, *]; done) | simp [*]); have c2 : w3.cell? ⟨w2.heap.size, 1, none⟩ = some (.int .i64 u2) := below_cell2 hcall (by first | assumption | (simp; done) | (simp [go_sem]; done) | (simp [go_sem, *]; done) | simp [*]); have q1 : w3.cell? ⟨w.heap.size, 0, none⟩ = some (.int .i64 y1) := below_cell2 hcall (by first | assumption | (simp; done) | (simp [go_sem]; done) | (simp [go_sem, *]; done) | simp [*]); have q2 : w3.cell? ⟨w.heap.size, 1, none⟩ = some (.int .i64 d1) := below_cell2 hcall (by first | assumption | (simp; done) | (simp [go_sem]; done) | (simp [go_sem, *]; done) | simp [*]); clear hcall)
  go_wp2_with fail
  refine (HI.out _).mono ?_
  rintro e w4 ⟨rfl, hcall⟩
  (have hbw : Below w.heap.size w w4 := (by first | exact Below.trans (by assumption) (Below.mono hcall (Below.size (by assumption))) | exact Below.trans (Below.drew (by assumption)) (Below.mono hcall (Below.size (Below.drew (by assumption)))) | exact HW0.out.trans (hcall.mono (by simp <;> omega)) | exact HW0.out.drew.trans (hcall.mono (by simp <;> omega)) | exact (Below.alloc (by assumption) (Below.size (by assumption)) _).trans (hcall.mono (by have := Below.size ‹Below w.heap.size w _›; simp <;> omega)) | exact (Below.drew (Below.alloc (by assumption) (Below.size (by assumption)) _)).trans (hcall.mono (by have := Below.size ‹Below w.heap.size w _›; simp <;> omega))); have c1 : w4.cell? ⟨w2.heap.size, 0, none⟩ = some (.int .i64 u1) := below_cell2 hcall (by first | assumption | (simp; done) | (simp [go_sem]; done) | (simp [go_sem, *]; done) | simp [*]); have c2 : w4.cell? ⟨w2.heap.size, 1, none⟩ = some (.int .i64 u2) := below_cell2 hcall (by first | assumption | (simp; done) | (simp [go_sem]; done) | (simp [go_sem, *]; done) | simp [*]); clear hcall)
  have z_c1 := cell_above c1
  have z_c2 := cell_above c2
  go_wp2_with fail
  refine (eqDate_same u1 u2 _).mono ?_
  rintro e w5 ⟨rfl, hcall⟩
  (have hbw : Below w.heap.size w w5 := (by first | exact Below.trans (by assumption) (Below.mono hcall (Below.size (by assumption))) | exact Below.trans (Below.drew (by assumption)) (Below.mono hcall (Below.size (Below.drew (by assumption)))) | exact HW0.out.trans (hcall.mono (by simp <;> omega)) | exact HW0.out.drew.trans (hcall.mono (by simp <;> omega)) | exact (Below.alloc (by assumption) (Below.size (by assumption)) _).trans (hcall.mono (by have := Below.size ‹Below w.heap.size w _›; simp <;> omega)) | exact (Below.drew (Below.alloc (by assumption) (Below.size (by assumption)) _)).trans (hcall.mono (by have := Below.size ‹Below w.heap.size w _›; simp <;> omega))); clear hcall)
  go_wp2_with fail
  go_ret
  exact ⟨rfl, by assumption⟩

theorem law_TurnRatio (y1 d1 : Int) (w : World) :
    Calls Try.prog 11 #[.agg #[.int .i64 y1, .int .i64 d1]] w (Ret (.bool true) w) := by
  obtain ⟨p, ok, hs, hi⟩ := turn_both y1 d1
  exact law_TurnRatio_of y1 d1 p ok w hs hi
end Go.Proofs.Ytmidobhfahpkcaa
