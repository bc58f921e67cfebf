/- Relatives: kin with their number. Lists of them are told by the numbers. -/
import Derived.Test.YtmlcelleohhmcaaKinHelp2
set_option linter.unusedVariables false
set_option linter.unusedSimpArgs false
namespace Go.Proofs.Ytmlcelleohhmcaa
open Go.RowKit

/-- The cells of the relative n of a family. -/
def relc (fs : List Kn) (n : Nat) : List Value := [.int .i64 (at3 fs n).1, .int .i64 (at3 fs n).2.1, .int .i64 (at3 fs n).2.2, .int .i64 n]
def flatR (fs : List Kn) (ns : List Nat) : List Value := ns.flatMap (relc fs)
theorem flatR_length (fs : List Kn) (ns : List Nat) : (flatR fs ns).length = ns.length * 4 := by
  induction ns with
  | nil => rfl
  | cons p r ih => simp only [flatR, List.flatMap_cons, List.length_append, List.length_cons] at ih ⊢; rw [ih, show (relc fs p).length = 4 from rfl]; omega
theorem flatR_snoc (fs : List Kn) (ns : List Nat) (n : Nat) : flatR fs (ns ++ [n]) = flatR fs ns ++ [.int .i64 (at3 fs n).1, .int .i64 (at3 fs n).2.1, .int .i64 (at3 fs n).2.2, .int .i64 n] := by
  simp [flatR, relc]
theorem flatR_cons (fs : List Kn) (n : Nat) (ns : List Nat) : flatR fs (n :: ns) = .int .i64 (at3 fs n).1 :: .int .i64 (at3 fs n).2.1 :: .int .i64 (at3 fs n).2.2 :: .int .i64 n :: flatR fs ns := by simp [flatR, relc]
theorem flatR_at (fs : List Kn) (ns : List Nat) : ∀ j, j < ns.length → (flatR fs ns)[j * 4]? = some (.int .i64 (at3 fs (ns.getD j 0)).1) ∧ (flatR fs ns)[j * 4 + 1]? = some (.int .i64 (at3 fs (ns.getD j 0)).2.1) ∧ (flatR fs ns)[j * 4 + 2]? = some (.int .i64 (at3 fs (ns.getD j 0)).2.2) ∧ (flatR fs ns)[j * 4 + 3]? = some (.int .i64 (ns.getD j 0)) := by
  induction ns with
  | nil => intro j h; simp at h
  | cons p r ih =>
    intro j h
    rw [flatR_cons]
    cases j with
    | zero => simp
    | succ j =>
      have := ih j (by simpa using h)
      rw [show (j + 1) * 4 = j * 4 + 1 + 1 + 1 + 1 by omega]
      simpa using this
/-- The cells of block b from off on read as the relatives ns. -/
def Rls (fs : List Kn) (w : World) (b off : Nat) (ns : List Nat) : Prop :=
  ∀ j, j < ns.length → w.cell? ⟨b, off + j * 4, none⟩ = some (.int .i64 (at3 fs (ns.getD j 0)).1) ∧ w.cell? ⟨b, off + j * 4 + 1, none⟩ = some (.int .i64 (at3 fs (ns.getD j 0)).2.1) ∧ w.cell? ⟨b, off + j * 4 + 2, none⟩ = some (.int .i64 (at3 fs (ns.getD j 0)).2.2) ∧ w.cell? ⟨b, off + j * 4 + 3, none⟩ = some (.int .i64 (ns.getD j 0))
theorem Rls.kept {fs : List Kn} {B : Nat} {w w' : World} {b off : Nat} {ns : List Nat} (h : Rls fs w b off ns) (hb : Below B w w') (hlt : b < B) : Rls fs w' b off ns :=
  fun j hj => ⟨(hb.cell (p := ⟨b, off + j * 4, none⟩) hlt).trans (h j hj).1, (hb.cell (p := ⟨b, off + j * 4 + 1, none⟩) hlt).trans (h j hj).2.1, (hb.cell (p := ⟨b, off + j * 4 + 2, none⟩) hlt).trans (h j hj).2.2.1, (hb.cell (p := ⟨b, off + j * 4 + 3, none⟩) hlt).trans (h j hj).2.2.2⟩
/-- The value v is a slice of the relatives ns in a block of number B or greater. -/
def OwnR (fs : List Kn) (B : Nat) (w : World) (v : Value) (ns : List Nat) : Prop := w.ownsRow B 70 4 v ns.length (flatR fs ns)
/-- A call returned a new slice of relatives. -/
def RetR (fs : List Kn) (ns : List Nat) (w : World) (e : Ending) (w' : World) : Prop :=
  ∃ v, e = .returned v ∧ OwnR fs w.heap.size w' v ns ∧ Below w.heap.size w w'
def RetRB (fs : List Kn) (ns : List Nat) (ok : Bool) (w : World) (e : Ending) (w' : World) : Prop :=
  ∃ v, e = .returned (.tuple #[v, .bool ok]) ∧ OwnR fs w.heap.size w' v ns ∧ Below w.heap.size w w'
section
variable {fs : List Kn}
theorem OwnR.kept {B : Nat} {w w' : World} {v : Value} {ds : List Nat} (h : OwnR fs B w v ds) (hb : Below w.heap.size w w') : OwnR fs B w' v ds :=
  World.ownsRow.kept h (below_grown hb none) (by cases hv : v.ownBlock <;> simp)
theorem OwnR.mono {B B' : Nat} {w : World} {v : Value} {ds : List Nat} (h : OwnR fs B w v ds) (hB : B' ≤ B) : OwnR fs B' w v ds := by
  obtain ⟨h1, h2⟩ := h
  refine ⟨h1, ?_⟩
  rcases h2 with h2 | ⟨g, cap, cur, hv, hg, r⟩
  · exact .inl h2
  · exact .inr ⟨g, cap, cur, hv, Nat.le_trans hB hg, r⟩
theorem ownR_nil (B : Nat) (w : World) : OwnR fs B w (.slice none 0 0) [] := World.ownsRow_nil _ _ _ _
theorem OwnR.cases {B : Nat} {w : World} {v : Value} {ds : List Nat} (h : OwnR fs B w v ds) :
    (v = .slice none 0 0 ∧ ds = []) ∨ ∃ g c, v = .slice (some ⟨g, 0, none⟩) ds.length c ∧ B ≤ g ∧ g < w.heap.size ∧ ds.length ≤ c ∧ c ≤ maxLen ∧ Rls fs w g 0 ds ∧ ∀ j, w.frozen? ⟨g, j, none⟩ = false := by
  have h' := h
  rcases h.2 with ⟨h2, h3⟩ | ⟨g, cap, cur, rfl, h2, h3, h4, h5, h6, h7⟩
  · exact .inl ⟨h2, List.eq_nil_of_length_eq_zero h3⟩
  · refine .inr ⟨g, cap, rfl, h2, (Array.getElem?_eq_some_iff.1 h3).1, h4, h5, fun j hj => ?_, fun j => World.ownsRow.frozenAt h' j⟩
    have e1 := World.ownsRow.cellAt h' (j * 4) (by omega)
    have e2 := World.ownsRow.cellAt h' (j * 4 + 1) (by omega)
    have e3 := World.ownsRow.cellAt h' (j * 4 + 2) (by omega)
    have e4 := World.ownsRow.cellAt h' (j * 4 + 3) (by omega)
    rw [Nat.zero_add, e1, e2, e3, e4]
    exact flatR_at fs ds j hj
theorem OwnR.shape {B : Nat} {w : World} {g c n : Nat} {ds : List Nat} (h : OwnR fs B w (.slice (some ⟨g, 0, none⟩) n c) ds) : n = ds.length ∧ B ≤ g ∧ g < w.heap.size ∧ n ≤ c ∧ Rls fs w g 0 ds ∧ ∀ j, w.frozen? ⟨g, j, none⟩ = false := by
  rcases h.cases with ⟨h1, _⟩ | ⟨g', c', h1, h2, h3, h4, _, h5, h6⟩
  · simp at h1
  · simp only [Value.slice.injEq, Option.some.injEq, Addr.mk.injEq, and_true, true_and] at h1
    obtain ⟨rfl, rfl, rfl⟩ := h1
    exact ⟨rfl, h2, h3, h4, h5, h6⟩
theorem OwnR.block {B : Nat} {w : World} {v : Value} {ds : List Nat} (h : OwnR fs B w v ds) : v.ownBlock = none ∨ ∃ g, v.ownBlock = some g ∧ B ≤ g ∧ g < w.heap.size := by
  rcases h.cases with ⟨rfl, _⟩ | ⟨g, c, rfl, h1, h2, _⟩
  · exact .inl rfl
  · exact .inr ⟨g, rfl, h1, h2⟩
theorem below_ownAboveR {B : Nat} {a w w' : World} {v : Value} {zs : List Nat} (h : Below a.heap.size a w) (ho : OwnR fs B w v zs) (hg : w.grownBy w' v.ownBlock) (hB : a.heap.size ≤ B) : Below a.heap.size a w' := by
  rcases ho.block with k | ⟨g, k, k1, _⟩
  · rw [k] at hg
    exact ⟨hg.os.trans h.os, hg.tape.trans h.tape, hg.output.trans h.output, Nat.le_trans h.size hg.size, fun i hi =>
      (hg.block i (Nat.lt_of_lt_of_le hi h.size) (by simp)).trans (h.block i hi)⟩
  · rw [k] at hg
    exact below_grownAbove h hg (Nat.le_trans hB k1)
theorem below_pushR {w wr w1 : World} {v : Value} {zs : List Nat} {o : Obj} (hb : Below w.heap.size w wr) (h : OwnR fs w.heap.size wr v zs) (hg : (wr.alloc o).grownBy w1 v.ownBlock) : Below w.heap.size w w1 :=
  below_ownAboveR (hb.alloc hb.size o) (World.ownsRow.alloc h o) hg (Nat.le_refl _)
theorem ownR_push {B : Nat} {w1 : World} {v' : Value} {ns : List Nat} {n : Nat} (h : w1.ownsRow B 70 4 v' (ns.length + 1) (flatR fs ns ++ [.int .i64 (at3 fs n).1, .int .i64 (at3 fs n).2.1, .int .i64 (at3 fs n).2.2, .int .i64 n])) : OwnR fs B w1 v' (ns ++ [n]) := by
  unfold OwnR
  rw [List.length_append, flatR_snoc]
  exact h
end
theorem four_ints (a b c d : Int) : ∀ u ∈ [Value.int .i64 a, Value.int .i64 b, Value.int .i64 c, Value.int .i64 d], u.oneCell' = true := by
  intro u hu; simp at hu; rcases hu with rfl | rfl | rfl | rfl <;> rfl
/-- The four cells of a block that was just made. -/
theorem newFourAt (W : World) (g : Nat) (a b c d : Value) (t : TypeId) (hg : g = W.heap.size) : ∀ j u, [a, b, c, d][j]? = some u → (W.alloc (.cells #[a, b, c, d] t)).cell? ((⟨g, 0, none⟩ : Addr).add j) = some u := by
  subst hg
  intro j u hj
  match j, hj with
  | 0, hj => simp at hj; subst hj; simp [Addr.add]
  | 1, hj => simp at hj; subst hj; simp [Addr.add]
  | 2, hj => simp at hj; subst hj; simp [Addr.add]
  | 3, hj => simp at hj; subst hj; simp [Addr.add]
theorem infoRel : (Try.prog.info? 70).map (fun i => (i.zero, i.size, i.bytes)) = some (some (.agg #[.int .i64 0, .int .i64 0, .int .i64 0, .int .i64 0]), 4, 32) := by kernel_rfl
/-- The first k fours of cells are the relatives. -/
def RlTo (fs : List Kn) (ds : List Nat) (k : Nat) (xs : List Value) : Prop := ∀ j, j < k → xs[j * 4]? = some (.int .i64 (at3 fs (ds.getD j 0)).1) ∧ xs[j * 4 + 1]? = some (.int .i64 (at3 fs (ds.getD j 0)).2.1) ∧ xs[j * 4 + 2]? = some (.int .i64 (at3 fs (ds.getD j 0)).2.2) ∧ xs[j * 4 + 3]? = some (.int .i64 (ds.getD j 0))
theorem rlTo_zero (fs : List Kn) (ds : List Nat) (xs : List Value) : RlTo fs ds 0 xs := fun j hj => absurd hj (by omega)
theorem rlTo_step {fs : List Kn} {ds : List Nat} {k : Nat} {xs : List Value} (h : RlTo fs ds k xs) (hl : k * 4 + 3 < xs.length) : RlTo fs ds (k + 1) ((((xs.set (k * 4) (.int .i64 (at3 fs (ds.getD k 0)).1)).set (k * 4 + 1) (.int .i64 (at3 fs (ds.getD k 0)).2.1)).set (k * 4 + 2) (.int .i64 (at3 fs (ds.getD k 0)).2.2)).set (k * 4 + 3) (.int .i64 (ds.getD k 0))) := by
  intro j hj
  by_cases hjk : j = k
  · subst hjk
    refine ⟨?_, ?_, ?_, ?_⟩
    · rw [List.getElem?_set_ne (by omega), List.getElem?_set_ne (by omega), List.getElem?_set_ne (by omega), List.getElem?_set_self (by omega)]
    · rw [List.getElem?_set_ne (by omega), List.getElem?_set_ne (by omega), List.getElem?_set_self (by simp; omega)]
    · rw [List.getElem?_set_ne (by omega), List.getElem?_set_self (by simp; omega)]
    · rw [List.getElem?_set_self (by simpa using hl)]
  · have := h j (by omega)
    refine ⟨?_, ?_, ?_, ?_⟩
    · rw [List.getElem?_set_ne (by omega), List.getElem?_set_ne (by omega), List.getElem?_set_ne (by omega), List.getElem?_set_ne (by omega)]; exact this.1
    · rw [List.getElem?_set_ne (by omega), List.getElem?_set_ne (by omega), List.getElem?_set_ne (by omega), List.getElem?_set_ne (by omega)]; exact this.2.1
    · rw [List.getElem?_set_ne (by omega), List.getElem?_set_ne (by omega), List.getElem?_set_ne (by omega), List.getElem?_set_ne (by omega)]; exact this.2.2.1
    · rw [List.getElem?_set_ne (by omega), List.getElem?_set_ne (by omega), List.getElem?_set_ne (by omega), List.getElem?_set_ne (by omega)]; exact this.2.2.2
theorem rlTo_all {fs : List Kn} {ds : List Nat} {n : Nat} {xs : List Value} (hl : ds.length = n) (hx : xs.length = n * 4) (h : RlTo fs ds n xs) : xs = flatR fs ds := by
  apply List.ext_getElem?
  intro i
  by_cases hi : i < n * 4
  · obtain ⟨j, hj⟩ : ∃ j, i = j * 4 ∨ i = j * 4 + 1 ∨ i = j * 4 + 2 ∨ i = j * 4 + 3 := ⟨i / 4, by omega⟩
    have hjn : j < n := by omega
    have h1 := h j hjn
    have h2 := flatR_at fs ds j (by omega)
    rcases hj with rfl | rfl | rfl | rfl
    · rw [h1.1, h2.1]
    · rw [h1.2.1, h2.2.1]
    · rw [h1.2.2.1, h2.2.2.1]
    · rw [h1.2.2.2, h2.2.2.2]
  · rw [List.getElem?_eq_none (by omega), List.getElem?_eq_none (by rw [flatR_length]; omega)]
theorem ownR_of {fs : List Kn} {B : Nat} {w : World} {v : Value} {n : Nat} {ds : List Nat} {xs : List Value} (hl : ds.length = n) (h : w.ownsRow B 70 4 v n xs) (hx : RlTo fs ds n xs) : OwnR fs B w v ds := by
  have hxl : xs.length = n * 4 := h.1
  rw [rlTo_all hl hxl hx] at h
  subst hl
  exact h
/-- All numbers of a family. -/
def allN (fs : List Kn) : List Nat := List.range fs.length
theorem allN_at (fs : List Kn) (j : Nat) (hj : j < fs.length) : (allN fs).getD j 0 = j := by simp [allN, List.getElem?_range hj]
theorem allN_len (fs : List Kn) : (allN fs).length = fs.length := by simp [allN]
/-- Those of the first k that answer with yes. -/
def pickN (q : Nat → Bool) (ns : List Nat) (k : Nat) : List Nat := (ns.take k).filter q
theorem pickN_succ (q : Nat → Bool) (ns : List Nat) (k : Nat) (hk : k < ns.length) : pickN q ns (k + 1) = if q (ns.getD k 0) = true then pickN q ns k ++ [ns.getD k 0] else pickN q ns k := by
  have e : ns.getD k 0 = ns[k] := by simp [List.getElem?_eq_getElem hk]
  unfold pickN
  rw [List.take_succ_eq_append_getElem hk, List.filter_append, e]
  split
  · rename_i h; rw [List.filter_cons, if_pos h, List.filter_nil]
  · rename_i h; rw [List.filter_cons, if_neg h, List.filter_nil, List.append_nil]
theorem pickN_len (q : Nat → Bool) (ns : List Nat) (k : Nat) : (pickN q ns k).length ≤ k :=
  Nat.le_trans (List.length_filter_le _ _) (by simp; omega)
theorem pickN_all (q : Nat → Bool) (ns : List Nat) (k : Nat) (hk : ns.length ≤ k) : pickN q ns k = ns.filter q := by unfold pickN; rw [List.take_of_length_le hk]
/-- Numbers of a family, not very many. -/
def NsB (fs : List Kn) (ns : List Nat) : Prop := ns.length ≤ 14 ∧ ∀ n ∈ ns, n < fs.length
theorem nsB_all {fs : List Kn} (h : fs.length ≤ 14) : NsB fs (allN fs) := ⟨by rw [allN_len]; exact h, fun n hn => by simpa [allN] using hn⟩
theorem nsB_filter {fs : List Kn} {ns : List Nat} (h : NsB fs ns) (q : Nat → Bool) : NsB fs (ns.filter q) :=
  ⟨Nat.le_trans (List.length_filter_le _ _) h.1, fun p hp => h.2 p (List.mem_filter.1 hp).1⟩
theorem nsB_at {fs : List Kn} {ns : List Nat} (h : NsB fs ns) (k : Nat) (hk : k < ns.length) : ns.getD k 0 < fs.length := by
  have e : ns.getD k 0 = ns[k] := by simp [List.getElem?_eq_getElem hk]
  rw [e]; exact h.2 _ (List.getElem_mem hk)
end Go.Proofs.Ytmlcelleohhmcaa
