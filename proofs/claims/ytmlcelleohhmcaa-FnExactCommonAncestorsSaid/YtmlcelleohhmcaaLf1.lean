/- A line is put, and who is met is sent: what the inner loop keeps. -/
import Derived.Test.YtmlcelleohhmcaaLf0
import Derived.Test.YtmlcelleohhmcaaLp
set_option linter.unusedVariables false
set_option linter.unusedSimpArgs false
namespace Go.Proofs.Ytmlcelleohhmcaa
open Go Go.Conc Go.RowKit

theorem vQ_len {st : Nat → Nat → Bool} {ln : Nat → List Nat} {u k N : Nat} (h : k ≤ N) : (vQ st ln u k).length ≤ unm ln N := by
  have h1 : (vQ st ln u k).length ≤ (vQ st ln u N).length := by
    unfold vQ
    exact ((List.range_sublist.2 h).filter _).length_le
  have h2 := unm_visit st ln u N
  omega
theorem RelAt.block {fs : List Kn} {w w' : World} {q n : Nat} (h : RelAt fs w q n) (hb : w'.heap[q]? = w.heap[q]?) : RelAt fs w' q n := by
  have hc : ∀ o, w'.cell? ⟨q, o, none⟩ = w.cell? ⟨q, o, none⟩ := fun o => World.cell?_of_block (w := w) (a := ⟨q, o, none⟩) hb
  exact ⟨(hc _).trans h.1, (hc _).trans h.2.1, (hc _).trans h.2.2.1, (hc _).trans h.2.2.2⟩
theorem updW_other {fs : List Kn} {w : World} {M : Nat} {l : List (Nat × Value)} (hm : IsMapR fs w M l) (k : Nat) (v : Value) (j : Nat) (h : j ≠ M) : (updW fs w M l k v).heap[j]? = w.heap[j]? :=
  ChangeMaps.heap_setBlock_other hm _ h
/-- What putLine asks. -/
theorem LfV.asks {fs : List Kn} {st : Nat → Nat → Bool} {a : Nat} {w w5 : World} {ln : Nat → List Nat} {u : Nat} {q : List Nat} {c k : Nat} {l : List (Nat × Value)} {V V2 : Nat} (h14 : fs.length ≤ 14) (hu : u < fs.length) (h : LfV fs st a w w5 ln u q c k l)
    (hV : RelAt fs w5 V u) (hV2 : RelAt fs w5 V2 k) (hVB : w.heap.size + 3 < V) (hVB2 : w.heap.size + 3 < V2) :
    (1 ≤ (ln u).length ∧ (ln u).length ≤ 1000) ∧ ∃ gu cu, PutS fs w5.heap.size (w.heap.size + 1) V V2 u k gu cu (ln u) w5 := by
  have hne := h.bfs.met u (by simp)
  have hln := h.len u hne
  have h1 : 1 ≤ (ln u).length := List.length_pos_iff.2 hne
  refine ⟨⟨h1, by omega⟩, ?_⟩
  rcases h.rows u hu with ⟨h2, _⟩ | ⟨_, v, h2, h3⟩
  · rw [vL_old hne] at h2; exact absurd h2 hne
  · rw [vL_old hne] at h3
    have hm := h.mp
    have hcl : (cstN (ln u)).length = (ln u).length := by unfold cstN; rw [List.length_map]
    have hfin : ∀ gu n cu, v = .slice (some ⟨gu, 0, none⟩) n cu → ∃ gu cu, PutS fs w5.heap.size (w.heap.size + 1) V V2 u k gu cu (ln u) w5 := by
      intro gu n cu e
      subst e
      obtain ⟨e1, e2, e3, e4, e5, _⟩ := h3.shape
      rw [hcl] at e1
      subst e1
      refine ⟨gu, cu, World.block_lt_of_cell? w5 _ hV.1, World.block_lt_of_cell? w5 _ hV2.1, hm.lt, e3, by omega, by omega, ?_, hV, hV2, ⟨l, hm, h2⟩, e5, Nat.le_refl _⟩
      intro e
      subst e
      have h6 := e5 0 (by omega)
      rw [Nat.zero_add] at h6
      unfold World.cell? at h6
      have hm' : w5.heap[w.heap.size + 1]? = _ := hm
      simp only at h6
      rw [hm'] at h6
      simp at h6
    rcases h3.cases with ⟨_, hv⟩ | ⟨g, cu, hv, _⟩
    · rw [hv] at hcl; simp at hcl; omega
    · exact hfin _ _ _ hv
/-- A line has been put. -/
theorem LfV.put {fs : List Kn} {st : Nat → Nat → Bool} {a : Nat} {w w5 w6 : World} {ln : Nat → List Nat} {u : Nat} {q : List Nat} {c k : Nat} {l : List (Nat × Value)} (h : LfV fs st a w w5 ln u q c k l) (hkN : k < fs.length) (h1 : ln k = []) (h2 : st u k = true) (hn : underN k l = none)
    {v6 : Value} (ho : Own w5.heap.size w6 v6 (cstN (ln u ++ [k]))) (hb : Below w5.heap.size w5 w6) (hm : IsMapR fs w6 (w.heap.size + 1) l) :
    Rws w.heap.size (updW fs w6 (w.heap.size + 1) l k v6) (l ++ [(k, v6)]) (vL st ln u (k + 1)) fs.length ∧ IsMapR fs (updW fs w6 (w.heap.size + 1) l k v6) (w.heap.size + 1) (l ++ [(k, v6)]) ∧
    (∃ s r tm, (updW fs w6 (w.heap.size + 1) l k v6).heap[w.heap.size + 3]? = some (.chan fs.length ((q ++ vQ st ln u k).map (keyV fs)).toArray false s r tm)) ∧ Below w.heap.size w (updW fs w6 (w.heap.size + 1) l k v6) := by
  have hno : ∀ cs t fz, w6.heap[w.heap.size + 1]? ≠ some (.cells cs t fz) := fun cs t fz e => by have := hm.symm.trans e; cases this
  obtain ⟨s, r, tm, hc⟩ := h.ch
  have hlt := (Array.getElem?_eq_some_iff.1 hc).1
  refine ⟨Rws.other (Rws.put (h.rows.kept hb) hn (by simp) (ho.mono h.below.size) (vL_take h1 h2).1) hno (fun j hj => updW_other hm k v6 j hj), updW_map hm k v6, ⟨s, r, tm, ?_⟩, ?_⟩
  · rw [updW_other hm k v6 _ (by omega), hb.block _ hlt, hc]
  · exact (h.below.trans (hb.mono h.below.size)).grown (updW_grown hm k v6) (by have := h.below.size; have := hb.size; omega) (by intro q hq; simp at hq; omega)
/-- Who is met has been sent. -/
theorem LfV.sent {fs : List Kn} {st : Nat → Nat → Bool} {a : Nat} {w w5 w7 : World} {ln : Nat → List Nat} {u : Nat} {q : List Nat} {c k : Nat} {l l' : List (Nat × Value)} (h : LfV fs st a w w5 ln u q c k l) (h1 : ln k = []) (h2 : st u k = true)
    (hr : Rws w.heap.size w7 l' (vL st ln u (k + 1)) fs.length) (hm : IsMapR fs w7 (w.heap.size + 1) l') {s r : Nat} {tm : Bool} (hc : w7.heap[w.heap.size + 3]? = some (.chan fs.length ((q ++ vQ st ln u k).map (keyV fs)).toArray false s r tm)) (hb : Below w.heap.size w w7)
    {buf : Array Value} (hbuf : buf = (((q ++ vQ st ln u k).map (keyV fs)).toArray).push (keyV fs k)) :
    LfV fs st a w (w7.setChan (w.heap.size + 3) fs.length buf false (s + 1) r tm) ln u q c (k + 1) l' := by
  subst hbuf
  have hlt := (Array.getElem?_eq_some_iff.1 hc).1
  have hno : ∀ cs t fz, w7.heap[w.heap.size + 3]? ≠ some (.cells cs t fz) := fun cs t fz e => by rw [hc] at e; cases e
  have hoth := fun j hj => setChan_other w7 (w.heap.size + 3) fs.length ((((q ++ vQ st ln u k).map (keyV fs)).toArray).push (keyV fs k)) false (s + 1) r tm j hj
  refine ⟨h.bfs, hr.other hno hoth, hm.heap (hoth _ (by omega)), ⟨s + 1, r, tm, ?_⟩, h.room, below_setChan hb (by omega) _ _ _ _ _ _, h.len⟩
  rw [(vL_take h1 h2).2, ← List.append_assoc, List.map_append]
  have := heap_setChan w7 (w.heap.size + 3) fs.length ((((q ++ vQ st ln u k).map (keyV fs)).toArray).push (keyV fs k)) false (s + 1) r tm hlt
  simpa using this
end Go.Proofs.Ytmlcelleohhmcaa
