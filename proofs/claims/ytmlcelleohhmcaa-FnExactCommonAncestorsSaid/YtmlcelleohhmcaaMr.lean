/- Maps whose keys are relatives, entry by entry. -/
import Derived.Test.YtmlcelleohhmcaaRel
import Derived.Maps.Own
import Derived.Maps.OwnOps
import Derived.DeepKeys3
set_option linter.unusedVariables false
set_option linter.unusedSimpArgs false
namespace Go.Proofs.Ytmlcelleohhmcaa
open Go.RowKit

/-- A relative as a value. -/
def keyV (fs : List Kn) (u : Nat) : Value := .agg #[.int .i64 (at3 fs u).1, .int .i64 (at3 fs u).2.1, .int .i64 (at3 fs u).2.2, .int .i64 u]
set_option maxHeartbeats 1000000 in
theorem equal_rel (fs : List Kn) (a b : Nat) (w : World) : (Op.equal 70 (keyV fs a) (keyV fs b)).run Try.prog w = .ok (decide (a = b)) w := by
  show (Op.equalIn 10000 70 (keyV fs a) (keyV fs b)).run Try.prog w = .ok (decide (a = b)) w
  unfold keyV
  by_cases h : a = b
  · subst h
    rw [decide_eq_true rfl]
    go_simp
  · rw [decide_eq_false h]
    have hn : ((a : Int) == (b : Int)) = false := beq_eq_false_iff_ne.2 (by omega)
    generalize (at3 fs a).1 = x1
    generalize (at3 fs a).2.1 = x2
    generalize (at3 fs a).2.2 = x3
    generalize (at3 fs b).1 = y1
    generalize (at3 fs b).2.1 = y2
    generalize (at3 fs b).2.2 = y3
    by_cases h1 : x1 = y1
    · by_cases h2 : x2 = y2
      · by_cases h3 : x3 = y3
        · subst h1; subst h2; subst h3
          go_simp
        · have e3 : (x3 == y3) = false := beq_eq_false_iff_ne.2 h3
          go_simp
      · have e2 : (x2 == y2) = false := beq_eq_false_iff_ne.2 h2
        go_simp
    · have e1 : (x1 == y1) = false := beq_eq_false_iff_ne.2 h1
      go_simp
theorem checkInt (em : Bool) (n : Nat) (x : Int) (w : World) : (Instr.checkKey em (n + 1) 3 (.int .i64 x)).run Try.prog w = .ok () w := by
  simp [Instr.checkKey, run_underlying Try.underlying3]
theorem checkKin (em : Bool) (n : Nat) (x1 x2 x3 : Int) (w : World) : (Instr.checkKey em (n + 2) 45 (.agg #[.int .i64 x1, .int .i64 x2, .int .i64 x3])).run Try.prog w = .ok () w := by
  rw [Instr.checkKey]
  simp [run_underlying Try.underlying45, checkInt, Result.andThen, go_sem]
theorem checkKey_four (em : Bool) (x1 x2 x3 x4 : Int) (w : World) : (Instr.checkKey em 10000 70 (.agg #[.int .i64 x1, .int .i64 x2, .int .i64 x3, .int .i64 x4])).run Try.prog w = .ok () w := by
  have h := checkKin em 9997 x1 x2 x3 w
  rw [show (10000 : Nat) = 9999 + 1 from rfl, Instr.checkKey]
  simp [run_underlying Try.underlying70, Result.andThen, go_sem]
  have h4 := checkInt em 9998 x4 w
  rw [show (9997 + 2 : Nat) = 9999 from rfl] at h
  rw [show (9998 + 1 : Nat) = 9999 from rfl] at h4
  rw [h]
  exact h4
theorem checkKey_rel (em : Bool) (fs : List Kn) (a : Nat) (w : World) : (Instr.checkKey em 10000 70 (keyV fs a)).run Try.prog w = .ok () w := checkKey_four em _ _ _ _ w

/-- The entries of a map, in the order in which they came. -/
def entR (fs : List Kn) : Nat → List (Nat × Value) → List MapEntry
  | _, [] => []
  | i, p :: r => ⟨keyV fs p.1, p.2, i⟩ :: entR fs (i + 1) r
theorem entR_snoc (fs : List Kn) (p : Nat × Value) : ∀ (l : List (Nat × Value)) (i : Nat), entR fs i (l ++ [p]) = entR fs i l ++ [⟨keyV fs p.1, p.2, i + l.length⟩] := by
  intro l
  induction l with
  | nil => intro i; rfl
  | cons q l ih =>
    intro i
    simp only [List.cons_append, entR, ih]
    congr 4
    simp
    omega
/-- Block b is a map of just these entries. -/
def IsMapR (fs : List Kn) (w : World) (b : Nat) (l : List (Nat × Value)) : Prop := w.heap[b]? = some (.map (entR fs 0 l).toArray l.length)
theorem IsMapR.lt {fs : List Kn} {w : World} {b : Nat} {l : List (Nat × Value)} (h : IsMapR fs w b l) : b < w.heap.size := (Array.getElem?_eq_some_iff.1 h).1
theorem IsMapR.heap {fs : List Kn} {w w' : World} {b : Nat} {l : List (Nat × Value)} (h : IsMapR fs w b l) (hh : w'.heap[b]? = w.heap[b]?) : IsMapR fs w' b l := hh.trans h
theorem IsMapR.kept {fs : List Kn} {w w' : World} {b : Nat} {l : List (Nat × Value)} (h : IsMapR fs w b l) (hb : Below w.heap.size w w') : IsMapR fs w' b l := (hb.block b h.lt).trans h
theorem isMapR_new (fs : List Kn) (w : World) : IsMapR fs (w.alloc (.map #[] 0)) w.heap.size [] := heap_alloc_new w _
/-- What stands under a number. -/
def underN (u : Nat) : List (Nat × Value) → Option Value
  | [] => none
  | p :: r => if u = p.1 then some p.2 else underN u r
theorem underN_snoc (u : Nat) (p : Nat × Value) : ∀ l : List (Nat × Value), underN u l = none → underN u (l ++ [p]) = if u = p.1 then some p.2 else none
  | [], _ => rfl
  | q :: r, h => by
    unfold underN at h
    by_cases e : u = q.1
    · rw [if_pos e] at h; cases h
    · rw [if_neg e] at h
      rw [List.cons_append, underN, if_neg e]
      exact underN_snoc u p r h
theorem underN_old (u : Nat) (v : Value) (p : Nat × Value) : ∀ l : List (Nat × Value), underN u l = some v → underN u (l ++ [p]) = some v
  | [], h => by cases h
  | q :: r, h => by
    unfold underN at h
    rw [List.cons_append, underN]
    by_cases e : u = q.1
    · rw [if_pos e] at h ⊢; exact h
    · rw [if_neg e] at h ⊢; exact underN_old u v p r h
theorem findAsk_entR (fs : List Kn) (u : Nat) (w : World) : ∀ (l : List (Nat × Value)) (i j : Nat), ∃ r, (Instr.findAsking 70 (keyV fs u) (entR fs i l) j).run Try.prog w = .ok r w ∧ r.map (·.2) = underN u l := by
  intro l
  induction l with
  | nil => intro i j; exact ⟨none, rfl, rfl⟩
  | cons p l ih =>
    intro i j
    obtain ⟨r, h1, h2⟩ := ih (i + 1) (j + 1)
    have hq := equal_rel fs u p.1 w
    by_cases e : u = p.1
    · rw [decide_eq_true e] at hq
      exact ⟨some (j, p.2), by simp [entR, Instr.findAsking, hq, Result.andThen], by simp [underN, e]⟩
    · rw [decide_eq_false e] at hq
      exact ⟨r, by simp [entR, Instr.findAsking, hq, h1, Result.andThen], by simp [underN, e, h2]⟩
theorem findKey_entR (fs : List Kn) (u : Nat) (w : World) (l : List (Nat × Value)) : ∃ r, (Instr.findKey 70 (keyV fs u) (entR fs 0 l)).run Try.prog w = .ok r w ∧ r.map (·.2) = underN u l := by
  obtain ⟨r, h1, h2⟩ := findAsk_entR fs u w l 0 0
  exact ⟨r, (run_findKey_eq w (by kernel_rfl) _ _).trans h1, h2⟩
theorem run_lookupR {fs : List Kn} {w : World} {b : Nat} {l : List (Nat × Value)} (hb : IsMapR fs w b l) (u : Nat) :
    (Instr.lookup 80 (.map (some b)) (keyV fs u) true).run Try.prog w = .ok (.tuple #[(underN u l).getD (.slice none 0 0), .bool (underN u l).isSome]) w := by
  obtain ⟨r, h1, h2⟩ := findKey_entR fs u w l
  have hz : (zeroValue 24).run Try.prog w = .ok (.slice none 0 0) w := Try.zeroValue24 w
  rw [← h2]
  cases r with
  | none => simp [Instr.lookup, run_underlying Try.underlying80, MapKept.run_getObj_map hb, checkKey_rel, h1, hz, Result.andThen]
  | some q =>
    obtain ⟨i, v⟩ := q
    simp [Instr.lookup, run_underlying Try.underlying80, MapKept.run_getObj_map hb, checkKey_rel, h1, Result.andThen]
theorem run_lookup1R {fs : List Kn} {w : World} {b : Nat} {l : List (Nat × Value)} (hb : IsMapR fs w b l) (u : Nat) :
    (Instr.lookup 80 (.map (some b)) (keyV fs u) false).run Try.prog w = .ok ((underN u l).getD (.slice none 0 0)) w := by
  obtain ⟨r, h1, h2⟩ := findKey_entR fs u w l
  have hz : (zeroValue 24).run Try.prog w = .ok (.slice none 0 0) w := Try.zeroValue24 w
  rw [← h2]
  cases r with
  | none => simp [Instr.lookup, run_underlying Try.underlying80, MapKept.run_getObj_map hb, checkKey_rel, h1, hz, Result.andThen]
  | some q =>
    obtain ⟨i, v⟩ := q
    simp [Instr.lookup, run_underlying Try.underlying80, MapKept.run_getObj_map hb, checkKey_rel, h1, Result.andThen]
theorem run_updateR {fs : List Kn} {w : World} {b : Nat} {l : List (Nat × Value)} (hb : IsMapR fs w b l) (u : Nat) (v : Value) (hn : underN u l = none) :
    ∃ w', (Instr.mapUpdate 80 (.map (some b)) (keyV fs u) v).run Try.prog w = .ok () w' ∧ IsMapR fs w' b (l ++ [(u, v)]) ∧ w.grownBy w' (some b) ∧ w'.heap.size = w.heap.size := by
  obtain ⟨r, h1, h2⟩ := findKey_entR fs u w l
  have hr : r = none := by rw [hn] at h2; cases r with | none => rfl | some q => cases h2
  subst hr
  refine ⟨ChangeMaps.setBlock w b (.map ((entR fs 0 l).toArray.push ⟨keyV fs u, v, l.length⟩) (l.length + 1)), ?_, ?_, ⟨rfl, rfl, rfl, by simp [ChangeMaps.setBlock], fun i _ hi => ?_⟩, by simp [ChangeMaps.setBlock]⟩
  · simp [Instr.mapUpdate, run_underlying Try.underlying80, MapKept.run_getObj_map hb, checkKey_rel, h1, MapKept.run_setObj_map _ hb, Result.andThen, ChangeMaps.setBlock]
  · unfold IsMapR
    rw [entR_snoc, List.length_append]
    simpa using ChangeMaps.heap_setBlock_same hb _
  · exact ChangeMaps.heap_setBlock_other hb _ (fun e => hi (by rw [e]))
theorem wpList_lookupR {ops : Array Oper} {rest : List Oper} {o : Oper} {a : Act} {w : World} {Q : Exit → Act → World → Prop} (hg : o.guard = none) (m x : Operand) (hop : o.op = Op.lookup 80 m x true)
    (fs : List Kn) (b : Nat) (l : List (Nat × Value)) (hm : a.eval m = .map (some b)) (hb : IsMapR fs w b l) (u : Nat) (hx : a.eval x = keyV fs u)
    (hK : wpList Try.prog ops Q rest (a.put o.dst (.tuple #[(underN u l).getD (.slice none 0 0), .bool (underN u l).isSome])) w) : wpList Try.prog ops Q (o :: rest) a w := by
  refine wpList_plain hg fun K' hK' => ?_
  have hrun := run_lookupR hb u
  unfold Oper.wp
  simp [execOp, hop, hm, hx, hrun, Result.andThen]
  exact hK' _ _ hK
theorem wpList_insertR {ops : Array Oper} {rest : List Oper} {o : Oper} {a : Act} {w : World} {Q : Exit → Act → World → Prop} (hg : o.guard = none) (m x y : Operand) (hop : o.op = Op.insert 80 m x y)
    (fs : List Kn) (b : Nat) (l : List (Nat × Value)) (hm : a.eval m = .map (some b)) (hb : IsMapR fs w b l) (u : Nat) (hx : a.eval x = keyV fs u) (v : Value) (hy : a.eval y = v) (hn : underN u l = none)
    (hK : ∀ w', IsMapR fs w' b (l ++ [(u, v)]) → w.grownBy w' (some b) → w'.heap.size = w.heap.size → wpList Try.prog ops Q rest (a.put o.dst undef) w') : wpList Try.prog ops Q (o :: rest) a w := by
  refine wpList_plain hg fun K' hK' => ?_
  obtain ⟨w', hrun, h1, h2, h3⟩ := run_updateR hb u v hn
  unfold Oper.wp
  simp [execOp, hop, hm, hx, hy, hrun, Result.andThen]
  exact hK' _ _ (hK w' h1 h2 h3)
end Go.Proofs.Ytmlcelleohhmcaa
