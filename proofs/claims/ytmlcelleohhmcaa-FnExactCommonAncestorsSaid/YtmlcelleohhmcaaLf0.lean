/- What the search for lines keeps. -/
import Derived.Test.YtmlcelleohhmcaaWo
import Derived.Test.YtmlcelleohhmcaaWl
import Derived.Test.YtmlcelleohhmcaaMr
import Derived.Test.YtmlcelleohhmcaaBf
import Derived.Test.YtmlcelleohhmcaaPa1
set_option linter.unusedVariables false
set_option linter.unusedSimpArgs false
namespace Go.Proofs.Ytmlcelleohhmcaa
open Go Go.Conc Go.RowKit

def cstN (ns : List Nat) : List Int := ns.map fun (n : Nat) => (n : Int)
theorem own_other {B k : Nat} {w w' : World} {v : Value} {zs : List Int} (h : Own B w v zs) (hk : ∀ cs t fz, w.heap[k]? ≠ some (.cells cs t fz)) (hh : ∀ j, j ≠ k → w'.heap[j]? = w.heap[j]?) : Own B w' v zs := by
  obtain ⟨h1, h2⟩ := h
  refine ⟨h1, ?_⟩
  rcases h2 with h2 | ⟨g, cap, cur, h2, h3, h4, r⟩
  · exact .inl h2
  · refine .inr ⟨g, cap, cur, h2, h3, ?_, r⟩
    rw [hh g (fun e => hk _ _ _ (by rw [← e]; exact h4))]
    exact h4
/-- The map's rows are the lines. -/
def Rws (B : Nat) (w : World) (l : List (Nat × Value)) (ln : Nat → List Nat) (N : Nat) : Prop :=
  ∀ x, x < N → (ln x = [] ∧ underN x l = none) ∨ (ln x ≠ [] ∧ ∃ v, underN x l = some v ∧ Own B w v (cstN (ln x)))
theorem Rws.kept {B N : Nat} {w w' : World} {l : List (Nat × Value)} {ln : Nat → List Nat} (h : Rws B w l ln N) (hb : Below w.heap.size w w') : Rws B w' l ln N := by
  intro x hx
  rcases h x hx with h1 | ⟨h1, v, h2, h3⟩
  · exact .inl h1
  · exact .inr ⟨h1, v, h2, h3.kept hb⟩
theorem Rws.other {B N k : Nat} {w w' : World} {l : List (Nat × Value)} {ln : Nat → List Nat} (h : Rws B w l ln N) (hk : ∀ cs t fz, w.heap[k]? ≠ some (.cells cs t fz)) (hh : ∀ j, j ≠ k → w'.heap[j]? = w.heap[j]?) : Rws B w' l ln N := by
  intro x hx
  rcases h x hx with h1 | ⟨h1, v, h2, h3⟩
  · exact .inl h1
  · exact .inr ⟨h1, v, h2, own_other h3 hk hh⟩
/-- A line more. -/
theorem Rws.put {B N u : Nat} {w : World} {l : List (Nat × Value)} {ln ln' : Nat → List Nat} {v : Value} {L : List Nat} (h : Rws B w l ln N) (hu : underN u l = none) (hL : L ≠ []) (hv : Own B w v (cstN L)) (hln : ∀ x, ln' x = if x = u then L else ln x) : Rws B w (l ++ [(u, v)]) ln' N := by
  intro x hx
  rw [hln x]
  by_cases e : x = u
  · subst e
    rw [if_pos rfl]
    exact .inr ⟨hL, v, by rw [underN_snoc _ _ _ hu]; simp, hv⟩
  · rw [if_neg e]
    rcases h x hx with ⟨h1, h2⟩ | ⟨h1, v', h2, h3⟩
    · exact .inl ⟨h1, by rw [underN_snoc _ _ _ h2]; simp [e]⟩
    · exact .inr ⟨h1, v', underN_old _ _ _ _ h2, h3⟩
/-- Behind the map's first entry. -/
structure LfA (fs : List Kn) (a : Nat) (w w1 : World) : Prop where
  below : Below w.heap.size w w1
  size : w1.heap.size = w.heap.size + 3
  c0 : w1.cell? ⟨w.heap.size, 0, none⟩ = some (.int .i64 (at3 fs a).1)
  c1 : w1.cell? ⟨w.heap.size, 1, none⟩ = some (.int .i64 (at3 fs a).2.1)
  c2 : w1.cell? ⟨w.heap.size, 2, none⟩ = some (.int .i64 (at3 fs a).2.2)
  c3 : w1.cell? ⟨w.heap.size, 3, none⟩ = some (.int .i64 a)
  mp : IsMapR fs w1 (w.heap.size + 1) [(a, .slice (some ⟨w.heap.size + 2, 0, none⟩) 1 1)]
  row : Own w.heap.size w1 (.slice (some ⟨w.heap.size + 2, 0, none⟩) 1 1) [(a : Int)]
theorem lfA_start (fs : List Kn) (a : Nat) (w w1 : World) (t : TypeId)
    (hm : IsMapR fs w1 (w.heap.size + 1) ([] ++ [(a, .slice (some ⟨w.heap.size + 1 + 1, 0, none⟩) 1 1)]))
    (hg : (((w.alloc (.cells #[.int .i64 (at3 fs a).1, .int .i64 (at3 fs a).2.1, .int .i64 (at3 fs a).2.2, .int .i64 a] t)).alloc (.map #[] 0)).alloc (.cells #[.int .i64 a] 3)).grownBy w1 (some (w.heap.size + 1)))
    (hs : w1.heap.size = (((w.alloc (.cells #[.int .i64 (at3 fs a).1, .int .i64 (at3 fs a).2.1, .int .i64 (at3 fs a).2.2, .int .i64 a] t)).alloc (.map #[] 0)).alloc (.cells #[.int .i64 a] 3)).heap.size) : LfA fs a w w1 := by
  have hb0 : Below w.heap.size w (((w.alloc (.cells #[.int .i64 (at3 fs a).1, .int .i64 (at3 fs a).2.1, .int .i64 (at3 fs a).2.2, .int .i64 a] t)).alloc (.map #[] 0)).alloc (.cells #[.int .i64 a] 3)) := (((Below.refl _ _).alloc (Nat.le_refl _) _).alloc (by simp) _).alloc (by simp; omega) _
  have hc : ∀ j, w1.cell? ⟨w.heap.size, j, none⟩ = (((w.alloc (.cells #[.int .i64 (at3 fs a).1, .int .i64 (at3 fs a).2.1, .int .i64 (at3 fs a).2.2, .int .i64 a] t)).alloc (.map #[] 0)).alloc (.cells #[.int .i64 a] 3)).cell? ⟨w.heap.size, j, none⟩ := fun j =>
    World.cell?_of_block (hg.block w.heap.size (by simp; omega) (by simp))
  have hO : Own w.heap.size (((w.alloc (.cells #[.int .i64 (at3 fs a).1, .int .i64 (at3 fs a).2.1, .int .i64 (at3 fs a).2.2, .int .i64 a] t)).alloc (.map #[] 0)).alloc (.cells #[.int .i64 a] 3)) (.slice (some ⟨w.heap.size + 2, 0, none⟩) 1 1) [(a : Int)] := by
    have := World.ownsRow_lit (base := w.heap.size) (size := 1) (e := 3) ((w.alloc (.cells #[.int .i64 (at3 fs a).1, .int .i64 (at3 fs a).2.1, .int .i64 (at3 fs a).2.2, .int .i64 a] t)).alloc (.map #[] 0)) #[.int .i64 a] 1 (by simp; omega) (by unfold maxLen; omega) rfl
    unfold Own
    simpa using this
  refine ⟨hb0.grown hg (by simp; omega) (by intro k hk; simp at hk; omega), by rw [hs]; simp, by rw [hc]; simp [go_sem], by rw [hc]; simp [go_sem], by rw [hc]; simp [go_sem], by rw [hc]; simp [go_sem], hm, hO.grown hg (by simp [Value.ownBlock])⟩
/-- Behind the channel's making. -/
structure LfB (fs : List Kn) (a : Nat) (w w1 : World) : Prop where
  below : Below w.heap.size w w1
  size : w1.heap.size = w.heap.size + 4
  c0 : w1.cell? ⟨w.heap.size, 0, none⟩ = some (.int .i64 (at3 fs a).1)
  c1 : w1.cell? ⟨w.heap.size, 1, none⟩ = some (.int .i64 (at3 fs a).2.1)
  c2 : w1.cell? ⟨w.heap.size, 2, none⟩ = some (.int .i64 (at3 fs a).2.2)
  c3 : w1.cell? ⟨w.heap.size, 3, none⟩ = some (.int .i64 a)
  mp : IsMapR fs w1 (w.heap.size + 1) [(a, .slice (some ⟨w.heap.size + 2, 0, none⟩) 1 1)]
  row : Own w.heap.size w1 (.slice (some ⟨w.heap.size + 2, 0, none⟩) 1 1) [(a : Int)]
theorem LfA.chan {fs : List Kn} {a : Nat} {w w1 : World} (h : LfA fs a w w1) (o : Obj) : LfB fs a w (w1.alloc o) := by
  have hc : ∀ j, (w1.alloc o).cell? ⟨w.heap.size, j, none⟩ = w1.cell? ⟨w.heap.size, j, none⟩ := fun j => World.cell?_of_block (Below.heap_alloc _ _ _ (by have := h.size; show w.heap.size < _; omega))
  have hb : Below w1.heap.size w1 (w1.alloc o) := (Below.refl _ _).alloc (Nat.le_refl _) _
  exact ⟨h.below.alloc h.below.size o, by have := h.size; simp; omega, (hc 0).trans h.c0, (hc 1).trans h.c1, (hc 2).trans h.c2, (hc 3).trans h.c3, h.mp.kept hb, h.row.kept hb⟩
/-- What the outer loop keeps: the lines of those who are met, and who waits. -/
structure LfS (fs : List Kn) (st : Nat → Nat → Bool) (a : Nat) (w wr : World) (ln : Nat → List Nat) (q : List Nat) (c : Nat) (l : List (Nat × Value)) : Prop where
  bfs : Bfs st fs.length a ln q c
  rows : Rws w.heap.size wr l ln fs.length
  mp : IsMapR fs wr (w.heap.size + 1) l
  ch : ∃ s r tm, wr.heap[w.heap.size + 3]? = some (.chan fs.length (q.map (keyV fs)).toArray false s r tm)
  room : q.length + unm ln fs.length ≤ fs.length
  below : Below w.heap.size w wr
  len : ∀ x, ln x ≠ [] → (ln x).length + unm ln fs.length ≤ fs.length
theorem setChan_other (w : World) (c cap : Nat) (buf : Array Value) (cl : Bool) (s r : Nat) (tm : Bool) (j : Nat) (h : j ≠ c) : (w.setChan c cap buf cl s r tm).heap[j]? = w.heap[j]? := by
  simp only [World.setChan]; rw [Array.getElem?_setIfInBounds_ne (fun e => h e.symm)]
theorem unm_start (a N : Nat) (h : a < N) : unm (fun x => if x = a then [a] else []) N + 1 ≤ N := by
  unfold unm
  have h1 : ((List.range N).filter fun x => (if x = a then [a] else ([] : List Nat)).isEmpty).length < (List.range N).length := by
    rw [List.length_filter_lt_length_iff_exists]
    exact ⟨a, by simpa using h, by simp⟩
  rw [List.length_range] at h1
  exact h1
theorem lfS_start {fs : List Kn} {st : Nat → Nat → Bool} {a : Nat} {w w2 : World} (h15 : fs.length ≤ 14) (ha : a < fs.length) (h : LfB fs a w w2) (hc : w2.heap[w.heap.size + 3]? = some (.chan fs.length #[] false 0 0 false)) :
    LfS fs st a w (w2.setChan (w.heap.size + 3) fs.length (#[].push (keyV fs a)) false (0 + 1) 0 false) (fun x => if x = a then [a] else []) [a] 1 [(a, .slice (some ⟨w.heap.size + 2, 0, none⟩) 1 1)] := by
  have hlt : w.heap.size + 3 < w2.heap.size := by have := h.size; omega
  have hno : ∀ cs t fz, w2.heap[w.heap.size + 3]? ≠ some (.cells cs t fz) := fun cs t fz e => by rw [hc] at e; cases e
  have hoth := fun j hj => setChan_other w2 (w.heap.size + 3) fs.length (#[].push (keyV fs a)) false (0 + 1) 0 false j hj
  refine ⟨bfs_start st fs.length a ha (by omega), fun x hx => ?_, h.mp.heap (hoth _ (by omega)), ⟨_, _, _, heap_setChan w2 (w.heap.size + 3) fs.length _ false _ _ _ hlt⟩, ?_, below_setChan h.below (by omega) _ _ _ _ _ _, fun x hx => ?_⟩
  · by_cases e : x = a
    · subst e
      exact .inr ⟨by simp, .slice (some ⟨w.heap.size + 2, 0, none⟩) 1 1, by simp [underN], by simp only [if_true]; exact own_other h.row hno hoth⟩
    · exact .inl ⟨by simp [e], by simp [underN, e]⟩
  · have := unm_start a fs.length ha
    simp only [List.length_cons, List.length_nil]
    omega
  · have := unm_start a fs.length ha
    have e : x = a := Classical.byContradiction fun e => hx (if_neg e)
    simp only [if_pos e, List.length_cons, List.length_nil]
    omega
/-- What the inner loop keeps: the first k have been looked at from u. -/
structure LfV (fs : List Kn) (st : Nat → Nat → Bool) (a : Nat) (w wr : World) (ln : Nat → List Nat) (u : Nat) (q : List Nat) (c k : Nat) (l : List (Nat × Value)) : Prop where
  bfs : Bfs st fs.length a ln (u :: q) c
  rows : Rws w.heap.size wr l (vL st ln u k) fs.length
  mp : IsMapR fs wr (w.heap.size + 1) l
  ch : ∃ s r tm, wr.heap[w.heap.size + 3]? = some (.chan fs.length ((q ++ vQ st ln u k).map (keyV fs)).toArray false s r tm)
  room : q.length + 1 + unm ln fs.length ≤ fs.length
  below : Below w.heap.size w wr
  len : ∀ x, ln x ≠ [] → (ln x).length + unm ln fs.length ≤ fs.length
theorem LfV.ends {fs : List Kn} {st : Nat → Nat → Bool} {a : Nat} {w wr : World} {ln : Nat → List Nat} {u : Nat} {q : List Nat} {c : Nat} {l : List (Nat × Value)} (h15 : fs.length ≤ 14) (h : LfV fs st a w wr ln u q c fs.length l) :
    LfS fs st a w wr (vL st ln u fs.length) (q ++ vQ st ln u fs.length) (cd (ln u)) l := by
  refine ⟨h.bfs.visit (by omega), h.rows, h.mp, h.ch, ?_, h.below, fun x hx => ?_⟩
  · have := unm_visit st ln u fs.length
    have := h.room
    rw [List.length_append]; omega
  · have hv := unm_visit st ln u fs.length
    rcases vL_cases hx with h1 | h1
    · rw [vL_old h1]; have := h.len x h1; omega
    · rw [vL_new h1, List.length_append, List.length_cons, List.length_nil]
      have := h.len u (h.bfs.met u (by simp))
      have : 0 < (vQ st ln u fs.length).length := List.length_pos_of_mem h1
      omega
theorem LfV.kept {fs : List Kn} {st : Nat → Nat → Bool} {a : Nat} {w wr w' : World} {ln : Nat → List Nat} {u : Nat} {q : List Nat} {c k : Nat} {l : List (Nat × Value)} (h : LfV fs st a w wr ln u q c k l) (hb : Below wr.heap.size wr w') :
    LfV fs st a w w' ln u q c k l := by
  obtain ⟨s, r, tm, hc⟩ := h.ch
  have hlt := (Array.getElem?_eq_some_iff.1 hc).1
  exact ⟨h.bfs, h.rows.kept hb, h.mp.kept hb, ⟨s, r, tm, (hb.block _ hlt).trans hc⟩, h.room, h.below.trans (hb.mono h.below.size), h.len⟩
theorem LfV.same {fs : List Kn} {st : Nat → Nat → Bool} {a : Nat} {w wr : World} {ln : Nat → List Nat} {u : Nat} {q : List Nat} {c k k' : Nat} {l : List (Nat × Value)} (h : LfV fs st a w wr ln u q c k l) (e1 : vL st ln u k' = vL st ln u k) (e2 : vQ st ln u k' = vQ st ln u k) :
    LfV fs st a w wr ln u q c k' l := by
  refine ⟨h.bfs, ?_, h.mp, ?_, h.room, h.below, h.len⟩
  · rw [e1]; exact h.rows
  · rw [e2]; exact h.ch
/-- The head of the queue has been taken. -/
theorem LfS.take {fs : List Kn} {st : Nat → Nat → Bool} {a : Nat} {w wr : World} {ln : Nat → List Nat} {u : Nat} {q : List Nat} {c : Nat} {l : List (Nat × Value)} (h : LfS fs st a w wr ln (u :: q) c l)
    {s r : Nat} {tm : Bool} (hc : wr.heap[w.heap.size + 3]? = some (.chan fs.length ((u :: q).map (keyV fs)).toArray false s r tm)) {buf : Array Value} (hbuf : buf = (q.map (keyV fs)).toArray) :
    LfV fs st a w (wr.setChan (w.heap.size + 3) fs.length buf false s (r + 1) tm) ln u q c 0 l := by
  subst hbuf
  have hlt := (Array.getElem?_eq_some_iff.1 hc).1
  have hno : ∀ cs t fz, wr.heap[w.heap.size + 3]? ≠ some (.cells cs t fz) := fun cs t fz e => by rw [hc] at e; cases e
  have hoth := fun j hj => setChan_other wr (w.heap.size + 3) fs.length (q.map (keyV fs)).toArray false s (r + 1) tm j hj
  refine ⟨h.bfs, ?_, h.mp.heap (hoth _ (by omega)), ⟨_, _, _, by rw [vQ_zero, List.append_nil]; exact heap_setChan wr (w.heap.size + 3) fs.length _ false _ _ _ hlt⟩, ?_, below_setChan h.below (by omega) _ _ _ _ _ _, h.len⟩
  · rw [show vL st ln u 0 = ln from funext fun x => vL_zero st ln u x]
    exact h.rows.other hno hoth
  · have := h.room; rw [List.length_cons] at this; omega
theorem exec_move {P : Program} (ev : Operand → Value) (o : Oper) (x : Operand) (v : Value) (w : World) (ho : o.op = .move x) (hv : ev x = v) : (execOp ev o).run P w = .ok (.value v) w := by
  subst hv; simp [execOp, ho]
theorem exec_load4 (ev : Operand → Value) (o : Oper) (x : Operand) (b : Nat) (y1 y2 y3 y4 : Value) (w : World) (ho : o.op = .load 70 x) (hx : ev x = .pointer (some ⟨b, 0, none⟩))
    (h0 : w.cell? ⟨b, 0, none⟩ = some y1) (h1 : w.cell? ⟨b, 1, none⟩ = some y2) (h2 : w.cell? ⟨b, 2, none⟩ = some y3) (h3 : w.cell? ⟨b, 3, none⟩ = some y4) :
    (execOp ev o).run Try.prog w = .ok (.value (.agg #[y1, y2, y3, y4])) w := by
  unfold execOp
  simp only [ho, hx]
  go_simp
theorem exec_extract {P : Program} (ev : Operand → Value) (o : Oper) (x : Operand) (i : Nat) (xs : Array Value) (v : Value) (w : World) (ho : o.op = .extract x i) (hx : ev x = .tuple xs) (hi : xs[i]? = some v) : (execOp ev o).run P w = .ok (.value v) w := by
  unfold execOp
  simp only [ho, hx]
  simp [Instr.extract, hi]
theorem exec_eqz (ev : Operand → Value) (o : Oper) (x : Operand) (z : Int) (w : World) (ho : o.op = .binOp .eql 3 x (.const (.int .i64 0)) 3) (hx : ev x = .int .i64 z) (hc : ev (.const (.int .i64 0)) = .int .i64 0) : (execOp ev o).run Try.prog w = .ok (.value (.bool (z == 0))) w := by
  unfold execOp
  simp only [ho, hx, hc]
  go_simp
/-- A call returned the lines to all to whom steps lead. -/
def RetLn (fs : List Kn) (st : Nat → Nat → Bool) (a : Nat) (w : World) (e : Ending) (w' : World) : Prop :=
  ∃ M l ln c, e = .returned (.map (some M)) ∧ w.heap.size ≤ M ∧ IsMapR fs w' M l ∧ Rws w.heap.size w' l ln fs.length ∧ Bfs st fs.length a ln [] c ∧ Below w.heap.size w w'
end Go.Proofs.Ytmlcelleohhmcaa
