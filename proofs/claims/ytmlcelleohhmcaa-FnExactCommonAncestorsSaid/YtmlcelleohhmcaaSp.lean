/- Steps to parents, to children, to both; who is reached. -/
import Derived.Test.YtmlcelleohhmcaaLf0
import Derived.Test.YtmlcelleohhmcaaKd
set_option linter.unusedVariables false
set_option linter.unusedSimpArgs false
namespace Go.Proofs.Ytmlcelleohhmcaa
open Go.RowKit

theorem chO_any (y1 f1 o1 y2 f2 o2 : Int) (a c : Int) (w : World) : Calls Try.prog 55 #[.agg #[.int .i64 y1, .int .i64 f1, .int .i64 o1, .int .i64 a], .agg #[.int .i64 y2, .int .i64 f2, .int .i64 o2, .int .i64 c]] w (Ret (.bool (f1 == c || o1 == c)) w) := by
  have HC := Lib.hid (fun w => isParO_any y2 f2 o2 y1 f1 o1 c a w)
  have HW := Lib.hid (((Below.refl w.heap.size w).alloc (Nat.le_refl _) (.cells #[.int .i64 y1, .int .i64 f1, .int .i64 o1, .int .i64 a] 70)).alloc (by simp) (.cells #[.int .i64 y2, .int .i64 f2, .int .i64 o2, .int .i64 c] 70))
  generalize (f1 == c || o1 == c) = r at HC ⊢
  go_enter Try.func55, Try.ntmps55
  go_wp2_with (go_at_call 47; refine (HC.out _).mono ?_; rintro e w2 ⟨rfl, hb2⟩)
  go_ret
  exact ⟨rfl, HW.out.trans (hb2.mono HW.out.size)⟩
/-- A step to a parent. -/
def stUp (fs : List Kn) (u t : Nat) : Bool := isPar fs t u
/-- A step to a child. -/
def stDn (fs : List Kn) (u t : Nat) : Bool := isPar fs u t
/-- A step to either. -/
def stNx (fs : List Kn) (u t : Nat) : Bool := isPar fs u t || isPar fs t u
theorem stepUp_any (fs : List Kn) : Hid (∀ (s t : Nat) (w : World), Calls Try.prog 55 #[.agg #[.int .i64 (at3 fs s).1, .int .i64 (at3 fs s).2.1, .int .i64 (at3 fs s).2.2, .int .i64 s], .agg #[.int .i64 (at3 fs t).1, .int .i64 (at3 fs t).2.1, .int .i64 (at3 fs t).2.2, .int .i64 t]] w (Ret (.bool (stUp fs s t)) w)) :=
  Lib.hid fun s t w => chO_any _ _ _ _ _ _ _ _ w
theorem stepDn_any (fs : List Kn) : Hid (∀ (s t : Nat) (w : World), Calls Try.prog 47 #[.agg #[.int .i64 (at3 fs s).1, .int .i64 (at3 fs s).2.1, .int .i64 (at3 fs s).2.2, .int .i64 s], .agg #[.int .i64 (at3 fs t).1, .int .i64 (at3 fs t).2.1, .int .i64 (at3 fs t).2.2, .int .i64 t]] w (Ret (.bool (stDn fs s t)) w)) :=
  Lib.hid fun s t w => isPar_any fs s t w
theorem nxO_any (y1 f1 o1 y2 f2 o2 : Int) (a c : Int) (w : World) : Calls Try.prog 50 #[.agg #[.int .i64 y1, .int .i64 f1, .int .i64 o1, .int .i64 a], .agg #[.int .i64 y2, .int .i64 f2, .int .i64 o2, .int .i64 c]] w (Ret (.bool ((f2 == a || o2 == a) || (f1 == c || o1 == c))) w) := by
  have HC := Lib.hid (fun w => isParO_any y1 f1 o1 y2 f2 o2 a c w)
  have HD := Lib.hid (fun w => chO_any y1 f1 o1 y2 f2 o2 a c w)
  have HW := Lib.hid (((Below.refl w.heap.size w).alloc (Nat.le_refl _) (.cells #[.int .i64 y1, .int .i64 f1, .int .i64 o1, .int .i64 a] 70)).alloc (by simp) (.cells #[.int .i64 y2, .int .i64 f2, .int .i64 o2, .int .i64 c] 70))
  generalize (f1 == c || o1 == c) = r at HD ⊢
  generalize (f2 == a || o2 == a) = q at HC ⊢
  have g : ∀ (W : World), W = ((w.alloc (.cells #[.int .i64 y1, .int .i64 f1, .int .i64 o1, .int .i64 a] 70)).alloc (.cells #[.int .i64 y2, .int .i64 f2, .int .i64 o2, .int .i64 c] 70)) → ∀ w2, Below W.heap.size W w2 →
     (w2.cell? ⟨w.heap.size, 0, none⟩ = some (.int .i64 y1) ∧ w2.cell? ⟨w.heap.size, 1, none⟩ = some (.int .i64 f1) ∧ w2.cell? ⟨w.heap.size, 2, none⟩ = some (.int .i64 o1) ∧ w2.cell? ⟨w.heap.size, 3, none⟩ = some (.int .i64 a)) ∧
     (w2.cell? ⟨w.heap.size + 1, 0, none⟩ = some (.int .i64 y2) ∧ w2.cell? ⟨w.heap.size + 1, 1, none⟩ = some (.int .i64 f2) ∧ w2.cell? ⟨w.heap.size + 1, 2, none⟩ = some (.int .i64 o2) ∧ w2.cell? ⟨w.heap.size + 1, 3, none⟩ = some (.int .i64 c)) := by
    intro W hW w2 hb2
    subst hW
    refine ⟨⟨?_, ?_, ?_, ?_⟩, ?_, ?_, ?_, ?_⟩ <;> exact (hb2.cell (p := ⟨_, _, none⟩) (by simp <;> omega)).trans (by simp [go_sem])
  have G := Lib.hid (g _ rfl)
  clear g
  cases q with
  | true =>
    go_enter Try.func50, Try.ntmps50
    go_wp2_with (go_at_call 47; refine (HC.out _).mono ?_; rintro e w2 ⟨rfl, hb2⟩)
    go_ret
    exact ⟨rfl, HW.out.trans (hb2.mono HW.out.size)⟩
  | false =>
    go_enter Try.func50, Try.ntmps50
    go_wp2_with (first | (go_at_call 47; refine (HC.out _).mono ?_; rintro e w2 ⟨rfl, hb2⟩; obtain ⟨⟨a1, a2, a3, a4⟩, b1, b2, b3, b4⟩ := G.out w2 hb2) | (go_at_call 55; refine (HD.out _).mono ?_; rintro e w3 ⟨rfl, hb3⟩))
    go_ret
    have hbb := HW.out.trans (hb2.mono HW.out.size)
    exact ⟨rfl, hbb.trans (hb3.mono hbb.size)⟩
theorem stepNx_any (fs : List Kn) : Hid (∀ (s t : Nat) (w : World), Calls Try.prog 50 #[.agg #[.int .i64 (at3 fs s).1, .int .i64 (at3 fs s).2.1, .int .i64 (at3 fs s).2.2, .int .i64 s], .agg #[.int .i64 (at3 fs t).1, .int .i64 (at3 fs t).2.1, .int .i64 (at3 fs t).2.2, .int .i64 t]] w (Ret (.bool (stNx fs s t)) w)) :=
  Lib.hid fun s t w => nxO_any _ _ _ _ _ _ _ _ w
theorem run_neq_rel (fs : List Kn) (a b : Nat) (w : World) : (binOp .neq 70 (keyV fs a) (keyV fs b)).run Try.prog w = .ok (.bool (!(decide (a = b)))) w := by
  have h := equal_rel fs a b w
  unfold keyV at h ⊢
  simp [binOp, h, Result.andThen]
end Go.Proofs.Ytmlcelleohhmcaa
