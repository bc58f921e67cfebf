/- Arguments of statements: a struct of two integers by value, a slice of such. -/
import Derived.Test.YtmidobhfahpkcaaDate
import Derived.Deep.SlicePairs
import Derived.Lib.SmallJoins
import Derived.ChangeArms
set_option linter.unusedVariables false
set_option linter.unusedSimpArgs false
namespace Go.Proofs.Ytmidobhfahpkcaa
open Go.RowKit Go.WideShapes Go.ChangeShapes Go.Deep

section
variable {H : Type} {enc : TypeId × Value → H} {P : Program} {w : World} {base : Nat} {sp : Nat → Bool} {held : Bool}
/-- A slice of pairs of integers that came in. -/
theorem argD_of {t e : TypeId} {f0 f1 : Field} {fuel : Nat} {a : Option Addr} {len cap : Nat} {x : DataW H × List MemPlace} (ht : P.underlying t = some (.slice e)) (he : P.underlying e = some (.struct #[f0, f1]))
    (ce : P.cellsOf e = 2) (o0 : f0.offset = 0) (o1 : f1.offset = 1) (c0 : P.cellsOf f0.type = 1) (c1 : P.cellsOf f1.type = 1) (i0 : P.underlying f0.type = some (.int .i64)) (i1 : P.underlying f1.type = some (.int .i64))
    (h : DataW.trod enc P w base sp held fuel t [.slice a len cap] = some x) : ∃ ds : List Dt, ArgD w a len ds ∧ len ≤ maxLen := by
  rcases Go.Deep.open_slice_pairs ht he ce o0 o1 c0 c1 h with ⟨hcs, _⟩ | ⟨ad, l, c, m, n, V0, V1, D0, D1, P0, P1, hcs, _, hl, hm, hmm, _, hi⟩
  · simp only [List.cons.injEq, Value.slice.injEq, and_true] at hcs
    obtain ⟨rfl, rfl, rfl⟩ := hcs
    exact ⟨[], ⟨rfl, .inl rfl⟩, Nat.zero_le _⟩
  · simp only [List.cons.injEq, Value.slice.injEq, and_true] at hcs
    obtain ⟨rfl, rfl, rfl⟩ := hcs
    have hlm : len ≤ m := by rw [hmm]; split <;> omega
    have hz : ∀ i, i < len → ∃ p : Dt, w.cell? (ad.add (i * 2)) = some (.int .i64 p.1) ∧ w.cell? (ad.add (i * 2 + 1)) = some (.int .i64 p.2) := by
      intro i hil
      obtain ⟨e1, e2, t0, t1⟩ := hi i (by omega)
      obtain ⟨z0, hc0, _, _⟩ := DataW.trod_int i0 t0
      obtain ⟨z1, hc1, _, _⟩ := DataW.trod_int i1 t1
      simp only [List.cons.injEq, and_true] at hc0 hc1
      rw [hc0] at e1
      rw [hc1] at e2
      exact ⟨(z0, z1), e1, e2⟩
    let pk : Nat → Dt := fun i => if hil : i < len then Classical.choose (hz i hil) else (0, 0)
    have hpk : ∀ i, i < len → w.cell? (ad.add (i * 2)) = some (.int .i64 (pk i).1) ∧ w.cell? (ad.add (i * 2 + 1)) = some (.int .i64 (pk i).2) := by
      intro i hil
      have := Classical.choose_spec (hz i hil)
      simp only [pk, hil, dif_pos]
      exact this
    refine ⟨(List.range len).map pk, ⟨by simp, ?_⟩, by omega⟩
    by_cases h0 : len = 0
    · exact .inl h0
    · obtain ⟨b, off, spot⟩ := ad
      have hc0 := (hpk 0 (by omega)).1
      have hspot : spot = none := by simpa [Addr.add] using World.cell?_spot hc0
      subst hspot
      refine .inr ⟨b, off, rfl, World.block_lt_of_cell? w _ hc0, fun j hj => ?_⟩
      have hj' : j < len := by simpa using hj
      have e0 : ∀ k, (⟨b, off, none⟩ : Addr).add k = ⟨b, off + k, none⟩ := by
        intro k
        unfold Addr.add
        by_cases hk0 : k = 0
        · subst hk0; rfl
        · rw [if_neg hk0]
      have := hpk j hj'
      rw [e0, e0, ← Nat.add_assoc] at this
      have ea : at2 ((List.range len).map pk) j = pk j := by simp [at2, List.getElem?_map, List.getElem?_range hj']
      rw [ea]
      exact this
/-- A pair of integers that came in by value. -/
theorem pair_of {r : Reach} {b0 : Nat} {t : TypeId} {f0 f1 : Field} {v : Value} {d : DataW H} {p : List MemPlace} (hs : P.underlying t = some (.struct #[f0, f1])) (hone : oneCellFields P #[f0, f1] = true) (hC : P.cellsOf t = 2)
    (i0 : P.underlying f0.type = some (.int .i64)) (i1 : P.underlying f1.type = some (.int .i64))
    (hv : Value.okWide P w r b0 t v) (h : DataW.Trod enc P w base sp held t v d p) : ∃ q : Dt, v = dv q ∧ (Lit.int .i64 q.1).wf = true ∧ (Lit.int .i64 q.2).wf = true := by
  obtain ⟨v0, v1, y0, y1, n, rfl, _, _, t0, t1⟩ := Go.Joins.open_agg2 hs hone hC hv h
  obtain ⟨z0, hc0, _, w0⟩ := DataW.trod_int i0 t0
  obtain ⟨z1, hc1, _, w1⟩ := DataW.trod_int i1 t1
  simp only [List.cons.injEq, and_true] at hc0 hc1
  subst hc0 hc1
  exact ⟨(z0, z1), rfl, w0, w1⟩
end
end Go.Proofs.Ytmidobhfahpkcaa
