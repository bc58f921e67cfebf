/- Nearer to a ratio: the program's text. -/
import Derived.Test.YtmidobhfahpkcaaAfk
set_option linter.unusedVariables false
set_option linter.unusedSimpArgs false
namespace Go.Proofs.Ytmidobhfahpkcaa
open Go.RowKit

def apt (f s p d : Int) : Int := ((f * d - s * p).natAbs : Int)
theorem apt_bd {f s p d : Int} (hf : 0 ≤ f ∧ f ≤ 1000) (hs : 0 ≤ s ∧ s ≤ 1000) (hp : 1 ≤ p ∧ p ≤ 100) (hd : 1 ≤ d ∧ d ≤ 100) : 0 ≤ apt f s p d ∧ apt f s p d ≤ 100000 := by
  have m1 := mul_bd (x := f) (y := d) (X := 1000) (Y := 100) hf (by omega)
  have m2 := mul_bd (x := s) (y := p) (X := 1000) (Y := 100) hs (by omega)
  unfold apt; omega

set_option maxHeartbeats 2000000 in
theorem apart_any (f s z p d : Int) (w : World) (hf : 0 ≤ f ∧ f ≤ 1000) (hs : 0 ≤ s ∧ s ≤ 1000) (hp : 1 ≤ p ∧ p ≤ 100) (hd : 1 ≤ d ∧ d ≤ 100) :
    Calls Try.prog 78 #[.agg #[.int .i64 f, .int .i64 s, .int .i64 z], .agg #[.int .i64 p, .int .i64 d]] w (Ret (.int .i64 (apt f s p d)) w) := by
  have m1 := mul_bd (x := f) (y := d) (X := 1000) (Y := 100) hf (by omega)
  have m2 := mul_bd (x := s) (y := p) (X := 1000) (Y := 100) hs (by omega)
  have HA := Lib.hid (show ((f * d - s * p).natAbs : Int) = apt f s p d from rfl)
  generalize apt f s p d = q at HA ⊢
  go_enter Try.func78, Try.ntmps78
  go_wp2
  all_goals
    go_ret
    refine ⟨?_, ((Below.refl w.heap.size w).alloc (Nat.le_refl _) _).alloc (by simp) _⟩
    refine congrArg (fun x => Ending.returned (.int .i64 x)) (?_ : _ = _)
    have := HA.out
    omega

set_option maxHeartbeats 8000000 in
set_option maxRecDepth 100000 in
theorem nearer_any (f s z p d f2 s2 z2 : Int) (w : World) (hne : f ≠ f2) (hf : 0 ≤ f ∧ f ≤ 1000) (hs : 0 ≤ s ∧ s ≤ 1000) (hf2 : 0 ≤ f2 ∧ f2 ≤ 1000) (hs2 : 0 ≤ s2 ∧ s2 ≤ 1000) (hp : 1 ≤ p ∧ p ≤ 100) (hd : 1 ≤ d ∧ d ≤ 100) :
    Calls Try.prog 66 #[.agg #[.int .i64 f, .int .i64 s, .int .i64 z], .agg #[.int .i64 p, .int .i64 d], .agg #[.int .i64 f2, .int .i64 s2, .int .i64 z2]] w (Ret (.bool (decide (apt f s p d * s2 < apt f2 s2 p d * s))) w) := by
  have b1 := apt_bd hf hs hp hd
  have b2 := apt_bd hf2 hs2 hp hd
  have H1 := Lib.hid (fun w => apart_any f s z p d w hf hs hp hd)
  have H2 := Lib.hid (fun w => apart_any f2 s2 z2 p d w hf2 hs2 hp hd)
  generalize apt f s p d = x1 at *
  generalize apt f2 s2 p d = x2 at *
  have m1 := mul_bd (x := x1) (y := s2) (X := 100000) (Y := 1000) b1 hs2
  have m2 := mul_bd (x := x2) (y := s) (X := 100000) (Y := 1000) b2 hs
  have v1 : IntKind.i64.wrap (x1 * s2) = x1 * s2 := IntWalk.i64_in _ (by omega)
  have v2 : IntKind.i64.wrap (x2 * s) = x2 * s := IntWalk.i64_in _ (by omega)
  have HW0 := Lib.hid ((((Below.refl w.heap.size w).alloc (Nat.le_refl _) (.cells #[.int .i64 f, .int .i64 s, .int .i64 z] 70)).alloc (by simp) (.cells #[.int .i64 p, .int .i64 d] 25)).alloc (by simp; omega) (.cells #[.int .i64 f2, .int .i64 s2, .int .i64 z2] 70))
  clear m1 m2 b1 b2 hf hs hf2 hs2 hp hd
  go_enter Try.func66, Try.ntmps66
  go_wp2_with fail
  go_region_held3 (fun w' => Below w.heap.size w w' ∧ w'.cell? ⟨w.heap.size, 0, none⟩ = some (.int .i64 f) ∧ w'.cell? ⟨w.heap.size, 1, none⟩ = some (.int .i64 s) ∧ w'.cell? ⟨w.heap.size, 2, none⟩ = some (.int .i64 z) ∧ w'.cell? ⟨w.heap.size + 1, 0, none⟩ = some (.int .i64 p) ∧ w'.cell? ⟨w.heap.size + 1, 1, none⟩ = some (.int .i64 d) ∧ w'.cell? ⟨w.heap.size + 1 + 1, 0, none⟩ = some (.int .i64 f2) ∧ w'.cell? ⟨w.heap.size + 1 + 1, 1, none⟩ = some (.int .i64 s2) ∧ w'.cell? ⟨w.heap.size + 1 + 1, 2, none⟩ = some (.int .i64 z2))
    (first
      | exact ⟨HW0.out.drew, by simp [go_sem], by simp [go_sem], by simp [go_sem], by simp [go_sem], by simp [go_sem], by simp [go_sem], by simp [go_sem], by simp [go_sem]⟩
      | (exact ⟨Below.drew (by assumption), by first | assumption | simp [*], by first | assumption | simp [*], by first | assumption | simp [*], by first | assumption | simp [*], by first | assumption | simp [*], by first | assumption | simp [*], by first | assumption | simp [*], by first | assumption | simp [*]⟩)
      | (go_split_ands
         refine ⟨?_, ?_, ?_, ?_, ?_, ?_, ?_, ?_, ?_⟩
         · exact Below.trans (by assumption) (Below.mono hcall (Below.size (by assumption)))
         · exact below_cell2 hcall (by assumption)
         · exact below_cell2 hcall (by assumption)
         · exact below_cell2 hcall (by assumption)
         · exact below_cell2 hcall (by assumption)
         · exact below_cell2 hcall (by assumption)
         · exact below_cell2 hcall (by assumption)
         · exact below_cell2 hcall (by assumption)
         · exact below_cell2 hcall (by assumption)))
    (first | (go_at_call_of 78 (Value.agg #[Value.int IntKind.i64 f, Value.int IntKind.i64 s, Value.int IntKind.i64 z]); refine (H1.out _).mono ?_; rintro e w' ⟨rfl, hcall⟩) | (go_at_call_of 78 (Value.agg #[Value.int IntKind.i64 f2, Value.int IntKind.i64 s2, Value.int IntKind.i64 z2]); refine (H2.out _).mono ?_; rintro e w' ⟨rfl, hcall⟩))
  all_goals
    obtain ⟨hbw, _⟩ := ‹Below w.heap.size w _ ∧ _›
    go_wp2_with fail
    go_ret
    exact ⟨by first | rfl | simp only [v1, v2], hbw⟩
end Go.Proofs.Ytmidobhfahpkcaa
