/- A slice of dates as an answer: marking and checking it, nil too. -/
import Derived.Test.YtmidobhfahpkcaaRatHelp2
set_option linter.unusedVariables false
set_option linter.unusedSimpArgs false
namespace Go.Proofs.Ytmidobhfahpkcaa
open Go.RowKit

theorem OwnD.ownNe {T T' : TypeId} {B B' : Nat} {w w' : World} {v u : Value} {ds es : List Dt} (h : OwnD T B w v ds) (hle : w.heap.size ≤ B') (h' : OwnD T' B' w' u es) : v.ownBlock = none ∨ v.ownBlock ≠ u.ownBlock := by
  rcases h.block with h | ⟨g, h, _, h2⟩
  · exact .inl h
  · refine .inr ?_
    rcases h'.block with k | ⟨g', k, k1, _⟩
    · rw [h, k]; simp
    · rw [h, k]; simp; omega
theorem OwnD.grownV {T : TypeId} {B : Nat} {w w' : World} {v u : Value} {ds : List Dt} (h : OwnD T B w v ds) (hg : w.grownBy w' u.ownBlock) (hne : v.ownBlock = none ∨ v.ownBlock ≠ u.ownBlock) : OwnD T B w' v ds :=
  World.ownsRow.kept h hg hne
theorem below_ownDAbove {T : TypeId} {B : Nat} {a w w' : World} {v : Value} {ds : List Dt} (h : Below a.heap.size a w) (ho : OwnD T B w v ds) (hg : w.grownBy w' v.ownBlock) (hB : a.heap.size ≤ B) : Below a.heap.size a w' := by
  rcases ho.block with k | ⟨g, k, k1, _⟩
  · rw [k] at hg
    exact ⟨hg.os.trans h.os, hg.tape.trans h.tape, hg.output.trans h.output, Nat.le_trans h.size hg.size, fun i hi =>
      (hg.block i (Nat.lt_of_lt_of_le hi h.size) (by simp)).trans (h.block i hi)⟩
  · rw [k] at hg
    exact below_grownAbove h hg (Nat.le_trans hB k1)
/-- A call marked the dates of v. -/
def RetMarkDV (B : Nat) (v : Value) (n : Nat) (k : Int) (w : World) (e : Ending) (w' : World) : Prop :=
  e = .returned (.int .i64 (k + 2 * n)) ∧ OwnD 25 B w' v (marksD k n) ∧ w.grownBy w' v.ownBlock
theorem markDateS_nil (k : Int) (w : World) :
    Calls Try.prog 38 #[.slice none 0 0, .int .i64 k] w (Ret (.int .i64 k) w) := by
  go_enter Try.func38, Try.ntmps38
  go_wp2
  go_rounds 1
  go_ret
  exact ⟨rfl, Below.refl _ _⟩
theorem heldDateS_nil (k : Int) (w : World) :
    Calls Try.prog 39 #[.slice none 0 0, .int .i64 k] w (Ret (.int .i64 k) w) := by
  go_enter Try.func39, Try.ntmps39
  go_wp2
  go_rounds 1
  go_ret
  exact ⟨rfl, Below.refl _ _⟩
theorem markDateS_any (B : Nat) (v : Value) (ds : List Dt) (k : Int) (w : World) (hn : ds.length ≤ 1048576) (hk0 : 0 ≤ k) (hk1 : k ≤ 1099511627776) (h : OwnD 25 B w v ds) :
    Calls Try.prog 38 #[v, .int .i64 k] w (RetMarkDV B v ds.length k w) := by
  rcases h.cases with ⟨rfl, rfl⟩ | ⟨g, c, rfl, _⟩
  · refine (markDateS_nil k w).mono ?_
    rintro e w' ⟨rfl, hb⟩
    exact ⟨by simp, ownD_nil _ _ _, below_grown hb _⟩
  · exact markDateS_some B g c _ ds k w rfl hn hk0 hk1 h
theorem heldDateS_any (B : Nat) (v : Value) (ds : List Dt) (k : Int) (w : World) (hn : ds.length ≤ 1048576) (hk0 : 0 ≤ k) (hk1 : k ≤ 1099511627776) (h : OwnD 25 B w v (marksD k ds.length)) :
    Calls Try.prog 39 #[v, .int .i64 k] w (Ret (.int .i64 (k + 2 * ds.length)) w) := by
  rcases h.cases with ⟨rfl, h0⟩ | ⟨g, c, rfl, _⟩
  · have h1 : ds.length = 0 := by have := congrArg List.length h0; rw [marksD_length] at this; exact this
    rw [h1]
    refine (heldDateS_nil k w).mono ?_
    rintro e w' ⟨rfl, hb⟩
    exact ⟨by simp, hb⟩
  · rw [marksD_length] at h ⊢
    exact heldDateS_some _ B g c _ k w hn hk0 hk1 h
end Go.Proofs.Ytmidobhfahpkcaa
