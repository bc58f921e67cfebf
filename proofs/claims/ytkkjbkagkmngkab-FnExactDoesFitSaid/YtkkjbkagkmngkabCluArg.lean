/- Arguments of statements: a struct of three integers by value, a slice of such. -/
import Derived.Test.YtkkjbkagkmngkabClu
import Derived.Deep.SlicePairs
import Derived.Lib.SmallJoins
import Derived.ChangeArms
set_option linter.unusedVariables false
set_option linter.unusedSimpArgs false
namespace Go.Proofs.Ytkkjbkagkmngkab
open Go.RowKit Go.WideShapes Go.ChangeShapes Go.Deep

section
variable {H : Type} {enc : TypeId × Value → H} {P : Program} {w : World} {base : Nat} {sp : Nat → Bool} {held : Bool}
/-- A slice of triples of integers that came in. -/
theorem argK_of {t e : TypeId} {f0 f1 f2 : Field} {fuel : Nat} {a : Option Addr} {len cap : Nat} {x : DataW H × List MemPlace} (ht : P.underlying t = some (.slice e)) (he : P.underlying e = some (.struct #[f0, f1, f2]))
    (ce : P.cellsOf e = 3) (o0 : f0.offset = 0) (o1 : f1.offset = 1) (o2 : f2.offset = 2) (c0 : P.cellsOf f0.type = 1) (c1 : P.cellsOf f1.type = 1) (c2 : P.cellsOf f2.type = 1) (i0 : P.underlying f0.type = some (.int .i64)) (i1 : P.underlying f1.type = some (.int .i64)) (i2 : P.underlying f2.type = some (.int .i64))
    (h : DataW.trod enc P w base sp held fuel t [.slice a len cap] = some x) : ∃ ds : List Kn, ArgK w a len ds ∧ len ≤ maxLen := by
  rcases Go.Deep.open_slice ht h with ⟨hcs, _⟩ | ⟨ad, l, c, m, n, D, Pl, hcs, _, hl, hm, hmm, _, hi⟩
  · simp only [List.cons.injEq, Value.slice.injEq, and_true] at hcs
    obtain ⟨rfl, rfl, rfl⟩ := hcs
    exact ⟨[], ⟨rfl, .inl rfl⟩, Nat.zero_le _⟩
  · simp only [List.cons.injEq, Value.slice.injEq, and_true] at hcs
    obtain ⟨rfl, rfl, rfl⟩ := hcs
    have hlm : len ≤ m := by rw [hmm]; split <;> omega
    have hz : ∀ i, i < len → ∃ p : Kn, w.cell? (ad.add (i * 3)) = some (.int .i64 p.1) ∧ w.cell? (ad.add (i * 3 + 1)) = some (.int .i64 p.2.1) ∧ w.cell? (ad.add (i * 3 + 2)) = some (.int .i64 p.2.2) := by
      intro i hil
      obtain ⟨cs', h1, h2⟩ := hi i (by omega)
      rw [ce] at h1
      obtain ⟨_, hlen, hcell⟩ := World.cells?_some h1
      obtain ⟨xs, k, hk, hxy, _, hxl, hf⟩ := DataW.trod_struct he h2
      match xs, hxl, cs', hlen with
      | [y0, y1, y2], _, [v0, v1, v2], _ =>
        have g0 := hf 0 f0 rfl
        have g1 := hf 1 f1 rfl
        have g2 := hf 2 f2 rfl
        simp [o0, o1, o2, c0, c1, c2] at g0 g1 g2
        have e0 := hcell 0 (by omega)
        have e1 := hcell 1 (by omega)
        have e2 := hcell 2 (by omega)
        rw [Go.Deep.add_add] at e0 e1 e2
        simp at e0 e1 e2
        obtain ⟨z0, hc0, _, _⟩ := DataW.trod_int i0 g0
        obtain ⟨z1, hc1, _, _⟩ := DataW.trod_int i1 g1
        obtain ⟨z2, hc2, _, _⟩ := DataW.trod_int i2 g2
        simp only [List.cons.injEq, and_true] at hc0 hc1 hc2
        rw [hc0] at e0
        rw [hc1] at e1
        rw [hc2] at e2
        exact ⟨(z0, z1, z2), e0, e1, e2⟩
    let pk : Nat → Kn := fun i => if hil : i < len then Classical.choose (hz i hil) else (0, 0, 0)
    have hpk : ∀ i, i < len → w.cell? (ad.add (i * 3)) = some (.int .i64 (pk i).1) ∧ w.cell? (ad.add (i * 3 + 1)) = some (.int .i64 (pk i).2.1) ∧ w.cell? (ad.add (i * 3 + 2)) = some (.int .i64 (pk i).2.2) := by
      intro i hil
      have := Classical.choose_spec (hz i hil)
      simp only [pk, hil, dif_pos]
      exact this
    refine ⟨(List.range len).map pk, ⟨by simp, ?_⟩, by omega⟩
    by_cases h0 : len = 0
    · exact .inl h0
    · obtain ⟨b, off, spot⟩ := ad
      have hc0 := (hpk 0 (by omega)).1
      have hspot : spot = none := by simpa [Addr.add] using World.cell?_spot hc0
      subst hspot
      refine .inr ⟨b, off, rfl, World.block_lt_of_cell? w _ hc0, fun j hj => ?_⟩
      have hj' : j < len := by simpa using hj
      have e0 : ∀ k, (⟨b, off, none⟩ : Addr).add k = ⟨b, off + k, none⟩ := by
        intro k
        unfold Addr.add
        by_cases hk0 : k = 0
        · subst hk0; rfl
        · rw [if_neg hk0]
      have := hpk j hj'
      rw [e0, e0, e0, ← Nat.add_assoc, ← Nat.add_assoc] at this
      have ea : at3 ((List.range len).map pk) j = pk j := by simp [at3, List.getElem?_map, List.getElem?_range hj']
      rw [ea]
      exact this
/-- A triple of integers that came in by value. -/
theorem triple_of {r : Reach} {b0 : Nat} {t : TypeId} {f0 f1 f2 : Field} {v : Value} {d : DataW H} {p : List MemPlace} (hs : P.underlying t = some (.struct #[f0, f1, f2])) (hone : oneCellFields P #[f0, f1, f2] = true) (hC : P.cellsOf t = 3)
    (i0 : P.underlying f0.type = some (.int .i64)) (i1 : P.underlying f1.type = some (.int .i64)) (i2 : P.underlying f2.type = some (.int .i64))
    (hv : Value.okWide P w r b0 t v) (h : DataW.Trod enc P w base sp held t v d p) : ∃ q : Kn, v = knv q ∧ (Lit.int .i64 q.1).wf = true ∧ (Lit.int .i64 q.2.1).wf = true ∧ (Lit.int .i64 q.2.2).wf = true := by
  obtain ⟨v0, v1, v2, y0, y1, y2, n, rfl, _, _, t0, t1, t2⟩ := Go.Joins.open_agg3 hs hone hC hv h
  obtain ⟨z0, hc0, _, w0⟩ := DataW.trod_int i0 t0
  obtain ⟨z1, hc1, _, w1⟩ := DataW.trod_int i1 t1
  obtain ⟨z2, hc2, _, w2⟩ := DataW.trod_int i2 t2
  simp only [List.cons.injEq, and_true] at hc0 hc1 hc2
  subst hc0 hc1 hc2
  exact ⟨(z0, z1, z2), rfl, w0, w1, w2⟩
/-- A puzzle that came in by value. -/
theorem puzzle_of {r : Reach} {b0 : Nat} {t e : TypeId} {g0 g1 f0 f1 f2 : Field} {v : Value} {d : DataW H} {p : List MemPlace} (hs : P.underlying t = some (.struct #[g0, g1])) (hone : oneCellFields P #[g0, g1] = true) (hC : P.cellsOf t = 2)
    (i0 : P.underlying g0.type = some (.int .i64)) (ht : P.underlying g1.type = some (.slice e)) (he : P.underlying e = some (.struct #[f0, f1, f2])) (ce : P.cellsOf e = 3) (o0 : f0.offset = 0) (o1 : f1.offset = 1) (o2 : f2.offset = 2)
    (c0 : P.cellsOf f0.type = 1) (c1 : P.cellsOf f1.type = 1) (c2 : P.cellsOf f2.type = 1) (k0 : P.underlying f0.type = some (.int .i64)) (k1 : P.underlying f1.type = some (.int .i64)) (k2 : P.underlying f2.type = some (.int .i64))
    (hv : Value.okWide P w r b0 t v) (h : DataW.Trod enc P w base sp held t v d p) : ∃ (q : Int) (a : Option Addr) (len cap : Nat) (ds : List Kn), v = .agg #[.int .i64 q, .slice a len cap] ∧ ArgK w a len ds ∧ len ≤ maxLen := by
  obtain ⟨v0, v1, y0, y1, n, rfl, _, _, t0, t1⟩ := Go.Joins.open_agg2 hs hone hC hv h
  obtain ⟨z0, hc0, _, w0⟩ := DataW.trod_int i0 t0
  simp only [List.cons.injEq, and_true] at hc0
  subst hc0
  have hsl : ∃ a len cap, v1 = .slice a len cap := by
    rcases Go.Deep.open_slice ht t1 with ⟨hcs, _⟩ | ⟨ad, l, c, m, k, D, Pl, hcs, _⟩
    · simp only [List.cons.injEq, and_true] at hcs; exact ⟨_, _, _, hcs⟩
    · simp only [List.cons.injEq, and_true] at hcs; exact ⟨_, _, _, hcs⟩
  obtain ⟨a, len, cap, rfl⟩ := hsl
  obtain ⟨ds, ha⟩ := argK_of ht he ce o0 o1 o2 c0 c1 c2 k0 k1 k2 t1
  exact ⟨z0, a, len, cap, ds, rfl, ha⟩
end
end Go.Proofs.Ytkkjbkagkmngkab
