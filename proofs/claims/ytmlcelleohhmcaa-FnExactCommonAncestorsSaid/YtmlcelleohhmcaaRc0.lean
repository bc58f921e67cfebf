/- Who is reached: the list, and the question of reachedFrom over it. -/
import Derived.Test.YtmlcelleohhmcaaWhRch
set_option linter.unusedVariables false
set_option linter.unusedSimpArgs false
namespace Go.Proofs.Ytmlcelleohhmcaa
open Go.RowKit

/-- Is there a line of steps? -/
noncomputable def rchB (st : Nat → Nat → Bool) (N a x : Nat) : Bool := @decide (∃ l, Pth st N a l x) (Classical.propDecidable _)
theorem rchB_iff {st : Nat → Nat → Bool} {N a x : Nat} : rchB st N a x = true ↔ ∃ l, Pth st N a l x := by unfold rchB; exact @decide_eq_true_iff _ (Classical.propDecidable _)
/-- Who is reached, but the first one. -/
noncomputable def rchN (st : Nat → Nat → Bool) (fs : List Kn) (a : Nat) : List Nat := (allN fs).filter fun x => !(decide (x = a)) && rchB st fs.length a x
/-- Lines have been found. -/
structure LnAt (fs : List Kn) (st : Nat → Nat → Bool) (a : Nat) (w w1 : World) (M : Nat) (l : List (Nat × Value)) : Prop where
  mp : IsMapR fs w1 M l
  rows : ∀ x, x < fs.length → ∃ ad n c, (underN x l).getD (.slice none 0 0) = .slice ad n c ∧ ad.isSome = rchB st fs.length a x
  below : Below w.heap.size w w1
  rel : RelAt fs w1 w.heap.size a
theorem lnAt_of {fs : List Kn} {st : Nat → Nat → Bool} {a : Nat} {w w1 : World} {e : Ending} (h : RetLn fs st a (w.alloc (.cells #[.int .i64 (at3 fs a).1, .int .i64 (at3 fs a).2.1, .int .i64 (at3 fs a).2.2, .int .i64 a] 70)) e w1) : ∃ M l, e = .returned (.map (some M)) ∧ LnAt fs st a w w1 M l := by
  obtain ⟨M, l, ln, c, rfl, hM, hm, hr, hbf, hb⟩ := h
  have hB := (Below.refl w.heap.size w).alloc (Nat.le_refl _) (.cells #[.int .i64 (at3 fs a).1, .int .i64 (at3 fs a).2.1, .int .i64 (at3 fs a).2.2, .int .i64 a] 70)
  refine ⟨M, l, rfl, hm, fun x hx => ?_, hB.trans (hb.mono hB.size), (relAt_new fs w a _ rfl).kept hb⟩
  have hrc : rchB st fs.length a x = true ↔ ln x ≠ [] := rchB_iff.trans ⟨fun ⟨l', hl'⟩ => hbf.reach hl', fun h => ⟨_, hbf.path x h⟩⟩
  rcases hr x hx with ⟨h1, h2⟩ | ⟨h1, v, h2, h3⟩
  · rw [h2]
    refine ⟨none, 0, 0, rfl, ?_⟩
    have : ¬ rchB st fs.length a x = true := fun h => hrc.1 h h1
    simp only [Option.isSome_none]
    exact ((Bool.not_eq_true _).mp this).symm
  · rw [h2]
    have hcl : (cstN (ln x)).length = (ln x).length := by unfold cstN; rw [List.length_map]
    rcases h3.cases with ⟨_, hv⟩ | ⟨g, cu, hv, _⟩
    · rw [hv] at hcl
      exact absurd (List.eq_nil_of_length_eq_zero hcl.symm) h1
    · exact ⟨_, _, _, hv, by rw [hrc.2 h1]; rfl⟩
theorem whenLn_any (st : Nat → Nat → Bool) (fs : List Kn) (g cc a : Nat) (w w1 : World) (M : Nat) (l : List (Nat × Value)) (hK : Kdr fs w g cc) (h : LnAt fs st a w w1 M l) :
    Calls Try.prog 58 #[.slice (some ⟨g, 0, none⟩) fs.length cc, (.func (.func 75) #[] #[.pointer (some ⟨w.heap.size, 0, none⟩), .pointer (some ⟨w1.heap.size, 0, none⟩)])] (w1.alloc (.cells #[.map (some M)] 80)) (RetR fs (rchN st fs a) (w1.alloc (.cells #[.map (some M)] 80))) := by
  have hb1 : Below w1.heap.size w1 (w1.alloc (.cells #[.map (some M)] 80)) := (Below.refl _ _).alloc (Nat.le_refl _) _
  have hc : (w1.alloc (.cells #[.map (some M)] 80)).cell? ⟨w1.heap.size, 0, none⟩ = some (.map (some M)) := by simp [go_sem]
  refine whenRch_any fs w.heap.size w1.heap.size (fun x => !(decide (x = a)) && rchB st fs.length a x) 0 _ (allN fs) _ ((hK.kept h.below).above _).1 (nsB_all hK.2) (fun W hb n hn => ?_)
  obtain ⟨ad, m, c, h1, h2⟩ := h.rows n hn
  have := rchQ_any fs n a w.heap.size w1.heap.size M l ad m c W ((h.rel.kept hb1).kept hb) (below_cell2 hb hc) ((h.mp.kept hb1).kept hb) h1
  rw [h2] at this
  exact this
end Go.Proofs.Ytmlcelleohhmcaa
