/- The question of reachedFrom. -/
import Derived.Test.YtmlcelleohhmcaaSp
import Derived.WalkSpells
set_option linter.unusedVariables false
set_option linter.unusedSimpArgs false
namespace Go.Proofs.Ytmlcelleohhmcaa
open Go.RowKit

set_option maxHeartbeats 1000000 in
theorem rchQ_any (fs : List Kn) (x a p m M : Nat) (l : List (Nat × Value)) (ad : Option Addr) (n c : Nat) (w : World) (h : RelAt fs w p a) (hm : w.cell? ⟨m, 0, none⟩ = some (.map (some M))) (hM : IsMapR fs w M l) (hx : (underN x l).getD (.slice none 0 0) = .slice ad n c) :
    Calls Try.prog 75 #[.agg #[.int .i64 (at3 fs x).1, .int .i64 (at3 fs x).2.1, .int .i64 (at3 fs x).2.2, .int .i64 x], .pointer (some ⟨p, 0, none⟩), .pointer (some ⟨m, 0, none⟩)] w (Ret (.bool (!(decide (x = a)) && ad.isSome)) w) := by
  have hne := run_neq_rel fs x a
  unfold keyV at hne
  obtain ⟨h1, h2, h3, h4⟩ := h
  have HB := Lib.hid ((Below.refl w.heap.size w).alloc (Nat.le_refl _) (.cells #[.int .i64 (at3 fs x).1, .int .i64 (at3 fs x).2.1, .int .i64 (at3 fs x).2.2, .int .i64 x] 70))
  have g1 := cell_above h1 (.cells #[.int .i64 (at3 fs x).1, .int .i64 (at3 fs x).2.1, .int .i64 (at3 fs x).2.2, .int .i64 x] 70)
  have g2 := cell_above h2 (.cells #[.int .i64 (at3 fs x).1, .int .i64 (at3 fs x).2.1, .int .i64 (at3 fs x).2.2, .int .i64 x] 70)
  have g3 := cell_above h3 (.cells #[.int .i64 (at3 fs x).1, .int .i64 (at3 fs x).2.1, .int .i64 (at3 fs x).2.2, .int .i64 x] 70)
  have g4 := cell_above h4 (.cells #[.int .i64 (at3 fs x).1, .int .i64 (at3 fs x).2.1, .int .i64 (at3 fs x).2.2, .int .i64 x] 70)
  have g5 := cell_above hm (.cells #[.int .i64 (at3 fs x).1, .int .i64 (at3 fs x).2.1, .int .i64 (at3 fs x).2.2, .int .i64 x] 70)
  have hlk := run_lookup1R (hM.kept HB.out) x
  rw [hx] at hlk
  unfold keyV at hlk
  have hnn : ∀ W : World, (binOp .neq 24 (.slice ad n c) (.slice none 0 0)).run Try.prog W = .ok (.bool ad.isSome) W := fun W => by
    have := run_neq_slice_nil_any W 24 _ ad n c 0 0 Try.underlying24
    cases ad <;> simpa using this
  clear h1 h2 h3 h4 hm hM hx
  generalize ad.isSome = b at hnn ⊢
  generalize decide (x = a) = d at hne ⊢
  cases d with
  | true =>
    go_enter Try.func75, Try.ntmps75
    go_wp2
    go_ret
    exact ⟨rfl, HB.out⟩
  | false =>
    go_enter Try.func75, Try.ntmps75
    go_wp2
    go_ret
    exact ⟨by simp, HB.out⟩
end Go.Proofs.Ytmlcelleohhmcaa
