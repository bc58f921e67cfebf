/- Loops with a ghost, of the walk in one goroutine. No program. -/
import Derived.Test.YtmlcelleohhmcaaWn
set_option linter.unusedVariables false
set_option linter.unusedSimpArgs false
namespace Go.Proofs.Ytmlcelleohhmcaa
open Go Go.Conc
variable {P : Program} {Q : Exit → Act → World → Prop} {a : Act} {w : World}
theorem Wn.loopG {α : Type} {c : Code} (I : α → Act → World → Prop) (μ : α → Nat) (x0 : α) (h0 : I x0 a w)
    (round : ∀ x a w, I x a w → Wn P c (Exit.then (fun a' w' => ∃ x', I x' a' w' ∧ μ x' < μ x) Q) a w) : Wn P (.loop c) Q a w := by
  intro b k cs hb
  have key : ∀ n x a w, μ x = n → I x a w → ∃ e a' w', Q e a' w' ∧ Arrives P (lone (b.at a (.code c :: .inLoop c :: k)) cs w) b k cs e a' w' := by
    intro n
    induction n using Nat.strongRecOn with
    | _ n ih =>
      intro x a w hn hI
      obtain ⟨e, a1, w1, hq, harr⟩ := round x a w hI b (.inLoop c :: k) cs hb
      by_cases he : e = .normal
      · subst he
        obtain ⟨x1, hI1, hlt⟩ := hq
        obtain ⟨e2, a2, w2, hq2, harr2⟩ := ih (μ x1) (hn ▸ hlt) x1 a1 w1 rfl hI1
        exact ⟨e2, a2, w2, hq2, .of_steps (Steps.trans harr (.one step_inLoop)) harr2⟩
      · refine ⟨e, a1, w1, ?_, .pass (x := .inLoop c) rfl (fun _ _ => .inl he) harr⟩
        cases e <;> first | exact absurd rfl he | exact hq
  obtain ⟨e, a', w', hq, harr⟩ := key _ x0 a w rfl h0
  exact ⟨e, a', w', hq, .of_steps (.one step_loop) harr⟩
theorem Wn.loopL {α : Type} {c : Code} (I : α → Act → World → Prop) (μ : α → Nat) (x0 : α) (h0 : I x0 a w)
    (round : ∀ x a w (NX : Act → World → Prop), (∀ x' a' w', I x' a' w' → μ x' < μ x → NX a' w') → I x a w → Wn P c (Exit.then NX Q) a w) : Wn P (.loop c) Q a w :=
  Wn.loopG I μ x0 h0 fun x a w hI => round x a w _ (fun x' a' w' h1 h2 => ⟨x', h1, h2⟩) hI
/-- What is asked behind the code is asked of a letter. -/
theorem Wn.hide {c : Code} {Q' : Exit → Act → World → Prop} (hq : ∀ e a w, Q' e a w → Q e a w) (h : Wn P c Q' a w) : Wn P c Q a w := Wn.mono h hq
end Go.Proofs.Ytmlcelleohhmcaa
