/- Whole arrays by value, and maps with strings as keys that a call made itself: plain laws, no program. -/
import Derived.Test.YtjabghojenhhiaaDoorKindM
import Derived.Deep.MidRow
import Derived.Deep.WholeRow
import Derived.Maps.Own
import Derived.Maps.OwnOps
set_option linter.unusedVariables false
set_option linter.unusedSimpArgs false
namespace Go.Proofs.YtjabghojenhhiaaDoor
open Go.RowKit
variable {P : Program}

/-- Block g is just these cells. -/
def Blk (w : World) (g : Nat) (t : TypeId) (cs : Array Value) : Prop := w.heap[g]? = some (.cells cs t (0, 0))
theorem Blk.lt {w : World} {g : Nat} {t : TypeId} {cs : Array Value} (h : Blk w g t cs) : g < w.heap.size := (Array.getElem?_eq_some_iff.1 h).1
theorem Blk.kept {B : Nat} {w w' : World} {g : Nat} {t : TypeId} {cs : Array Value} (h : Blk w g t cs) (hb : Below B w w') (hg : g < B) : Blk w' g t cs := (hb.block g hg).trans h
theorem Blk.cell {w : World} {g : Nat} {t : TypeId} {cs : Array Value} (h : Blk w g t cs) (i : Nat) : w.cell? ⟨g, i, none⟩ = cs[i]? := by simp [World.cell?, show w.heap[g]? = _ from h]
theorem Blk.frozen {w : World} {g : Nat} {t : TypeId} {cs : Array Value} (h : Blk w g t cs) (i : Nat) : w.frozen? ⟨g, i, none⟩ = false := by simp [World.frozen?, show w.heap[g]? = _ from h]
theorem blk_new (w : World) (t : TypeId) (cs : Array Value) : Blk (w.alloc (.cells cs t)) w.heap.size t cs := heap_alloc_last w _
theorem Blk.alloc {w : World} {g : Nat} {t : TypeId} {cs : Array Value} (h : Blk w g t cs) (o : Obj) : Blk (w.alloc o) g t cs := (Below.heap_alloc w o g h.lt).trans h
theorem Blk.grown {w w' : World} {row : Option Nat} {g : Nat} {t : TypeId} {cs : Array Value} (h : Blk w g t cs) (hg : w.grownBy w' row) (hne : some g ≠ row) : Blk w' g t cs := (hg.block g h.lt hne).trans h

theorem wpList_load_row {ops : Array Oper} {rest : List Oper} {o : Oper} {a : Act} {w : World} {Q : Exit → Act → World → Prop} (hgd : o.guard = none) (ty : TypeId) (x : Operand) (ho : o.op = .load ty x)
    (g : Nat) (t : TypeId) (cs : Array Value) (hx : a.eval x = .pointer (some ⟨g, 0, none⟩)) (hb : Blk w g t cs) (n : Nat) (e : TypeId) (hu : P.underlying ty = some (.array n e)) (hi : (P.info? ty).map (·.size) = some cs.size)
    (h : wpList P ops Q rest (a.put o.dst (.agg cs)) w) : wpList P ops Q (o :: rest) a w := by
  refine wpList_load_mid hgd ty x ho g 0 hx cs.toList (.array n e) ?_ hu rfl (by simpa using hi) (by simpa using h)
  intro j v hj
  rw [Nat.zero_add, hb.cell]
  simpa using hj
theorem wpList_store_row {ops : Array Oper} {rest : List Oper} {o : Oper} {a : Act} {w : World} {Q : Exit → Act → World → Prop} (hgd : o.guard = none) (ty : TypeId) (x y : Operand) (ho : o.op = .store ty x y)
    (g : Nat) (t : TypeId) (old cs : Array Value) (hx : a.eval x = .pointer (some ⟨g, 0, none⟩)) (hy : a.eval y = .agg cs) (hb : Blk w g t old) (hi : (P.info? ty).map (·.size) = some cs.size) (hs : old.size = cs.size) (h1 : cs.all (·.oneCell') = true)
    (h : ∀ w', Blk w' g t cs → w.grownBy w' (some g) → w'.heap.size = w.heap.size → wpList P ops Q rest (a.put o.dst undef) w') : wpList P ops Q (o :: rest) a w := by
  refine wpList_plain hgd fun _ hK => ?_
  unfold Oper.wp execOp
  simp only [ho, hx, hy, Instr.storeAt, Instr.sureAddr, Sem.run_bind, Sem.run_pure, Result.andThen_ok, run_storeVar_row w g t ty old cs hb hi hs h1]
  exact hK _ _ (h _ (setRow_heap w g old cs t (0, 0) hb) ⟨rfl, rfl, rfl, by simp, fun k _ hne => setRow_other w g k cs (fun e => hne (by rw [e]))⟩ (by simp))

/-! A map with strings as keys, entry by entry. -/
def entr : Nat → List (ByteArray × Value) → List MapEntry
  | _, [] => []
  | i, p :: r => ⟨.string p.1, p.2, i⟩ :: entr (i + 1) r
theorem entr_snoc (p : ByteArray × Value) : ∀ (l : List (ByteArray × Value)) (i : Nat), entr i (l ++ [p]) = entr i l ++ [⟨.string p.1, p.2, i + l.length⟩] := by
  intro l
  induction l with
  | nil => intro i; rfl
  | cons q l ih =>
    intro i
    simp only [List.cons_append, entr, ih]
    congr 4
    simp
    omega
/-- Block b is a map of just these entries, laid in this order. -/
def IsMap (w : World) (b : Nat) (l : List (ByteArray × Value)) : Prop := w.heap[b]? = some (.map (entr 0 l).toArray l.length)
theorem IsMap.lt {w : World} {b : Nat} {l : List (ByteArray × Value)} (h : IsMap w b l) : b < w.heap.size := (Array.getElem?_eq_some_iff.1 h).1
theorem IsMap.kept {B : Nat} {w w' : World} {b : Nat} {l : List (ByteArray × Value)} (h : IsMap w b l) (hb : Below B w w') (hg : b < B) : IsMap w' b l := (hb.block b hg).trans h
theorem isMap_new (w : World) : IsMap (w.alloc (.map #[] 0)) w.heap.size [] := heap_alloc_last w _
theorem beqS (a b : ByteArray) : (a == b) = decide (a = b) := by
  have h : (a == b) = (a.data == b.data) := by
    cases a; cases b; rfl
  rw [h, Bool.eq_iff_iff, beq_iff_eq, decide_eq_true_eq]
  exact ⟨fun e => by cases a; cases b; simp_all, fun e => by rw [e]⟩
/-- What stands under a key. -/
def under (s : ByteArray) : List (ByteArray × Value) → Option Value
  | [] => none
  | p :: r => if s = p.1 then some p.2 else under s r
theorem findNow_entr (s : ByteArray) : ∀ (l : List (ByteArray × Value)) (i j : Nat), ∃ r, Instr.findNow .string (.string s) (entr i l) j = some r ∧ r.map (·.2) = under s l := by
  intro l
  induction l with
  | nil => intro i j; exact ⟨none, rfl, rfl⟩
  | cons p l ih =>
    intro i j
    obtain ⟨r, h1, h2⟩ := ih (i + 1) (j + 1)
    by_cases e : s = p.1
    · refine ⟨some (j, p.2), ?_, ?_⟩
      · simp [entr, Instr.findNow, Instr.sameNow, beqS, e]
      · simp [under, e]
    · refine ⟨r, ?_, ?_⟩
      · simp [entr, Instr.findNow, Instr.sameNow, beqS, e, h1]
      · simp [under, e, h2]
theorem run_lookup_str {w : World} {b : Nat} {l : List (ByteArray × Value)} (hb : IsMap w b l) (t k e : TypeId) (ht : P.underlying t = some (.map k e)) (hk : P.underlying k = some .string) (z : Value) (hz : (zeroValue e).run P w = .ok z w) (s : ByteArray) :
    (Instr.lookup t (.map (some b)) (.string s) true).run P w = .ok (.tuple #[(under s l).getD z, .bool (under s l).isSome]) w := by
  obtain ⟨r, h1, h2⟩ := findNow_entr s l 0 0
  have hc : ∀ em : Bool, (Instr.checkKey em 10000 k (.string s)).run P w = .ok () w := fun em => MapKept.run_checkKey (k := .string s) hk (by simp [MapKept.IsKey]) em 9999
  have hf : (Instr.findKey k (.string s) (entr 0 l)).run P w = .ok r w := by simp [Instr.findKey, run_underlying hk, h1]
  rw [← h2]
  cases r with
  | none => simp [Instr.lookup, run_underlying ht, MapKept.run_getObj_map hb, hc, hf, hz, Result.andThen]
  | some q =>
    obtain ⟨i, v⟩ := q
    simp [Instr.lookup, run_underlying ht, MapKept.run_getObj_map hb, hc, hf, Result.andThen]
theorem run_insert_str {w : World} {b : Nat} {l : List (ByteArray × Value)} (hb : IsMap w b l) (t k e : TypeId) (ht : P.underlying t = some (.map k e)) (hk : P.underlying k = some .string) (s : ByteArray) (v : Value) (hn : under s l = none) :
    ∃ w', (Instr.mapUpdate t (.map (some b)) (.string s) v).run P w = .ok () w' ∧ IsMap w' b (l ++ [(s, v)]) ∧ w.grownBy w' (some b) ∧ w'.heap.size = w.heap.size := by
  obtain ⟨r, h1, h2⟩ := findNow_entr s l 0 0
  have hc : ∀ em : Bool, (Instr.checkKey em 10000 k (.string s)).run P w = .ok () w := fun em => MapKept.run_checkKey (k := .string s) hk (by simp [MapKept.IsKey]) em 9999
  have hr : r = none := by rw [hn] at h2; cases r with | none => rfl | some q => cases h2
  subst hr
  have hf : (Instr.findKey k (.string s) (entr 0 l)).run P w = .ok none w := by simp [Instr.findKey, run_underlying hk, h1]
  refine ⟨ChangeMaps.setBlock w b (.map ((entr 0 l).toArray.push ⟨.string s, v, l.length⟩) (l.length + 1)), ?_, ?_, ⟨rfl, rfl, rfl, by simp [ChangeMaps.setBlock], fun i _ hi => ?_⟩, by simp [ChangeMaps.setBlock]⟩
  · simp [Instr.mapUpdate, run_underlying ht, MapKept.run_getObj_map hb, hc, hf, MapKept.run_setObj_map _ hb, Result.andThen, ChangeMaps.setBlock]
  · unfold IsMap
    rw [entr_snoc, List.length_append]
    simpa using ChangeMaps.heap_setBlock_same hb _
  · exact ChangeMaps.heap_setBlock_other hb _ (fun e => hi (by rw [e]))
theorem wpList_lookup_str {ops : Array Oper} {rest : List Oper} {o : Oper} {a : Act} {w : World} {Q : Exit → Act → World → Prop} (hg : o.guard = none) (m x : Operand) (t : TypeId) (hop : o.op = Op.lookup t m x true)
    (k e : TypeId) (ht : P.underlying t = some (.map k e)) (hk : P.underlying k = some .string) (z : Value) (hz : (zeroValue e).run P w = .ok z w) (b : Nat) (l : List (ByteArray × Value)) (hm : a.eval m = .map (some b)) (hb : IsMap w b l) (s : ByteArray) (hx : a.eval x = .string s)
    (hK : wpList P ops Q rest (a.put o.dst (.tuple #[(under s l).getD z, .bool (under s l).isSome])) w) : wpList P ops Q (o :: rest) a w := by
  refine wpList_plain hg fun K' hK' => ?_
  have hrun := run_lookup_str hb t k e ht hk z hz s
  unfold Oper.wp
  simp [execOp, hop, hm, hx, hrun, Result.andThen]
  exact hK' _ _ hK
theorem wpList_insert_str {ops : Array Oper} {rest : List Oper} {o : Oper} {a : Act} {w : World} {Q : Exit → Act → World → Prop} (hg : o.guard = none) (m x y : Operand) (t : TypeId) (hop : o.op = Op.insert t m x y)
    (k e : TypeId) (ht : P.underlying t = some (.map k e)) (hk : P.underlying k = some .string) (b : Nat) (l : List (ByteArray × Value)) (hm : a.eval m = .map (some b)) (hb : IsMap w b l) (s : ByteArray) (hx : a.eval x = .string s) (v : Value) (hy : a.eval y = v) (hn : under s l = none)
    (hK : ∀ w', IsMap w' b (l ++ [(s, v)]) → w.grownBy w' (some b) → w'.heap.size = w.heap.size → wpList P ops Q rest (a.put o.dst undef) w') : wpList P ops Q (o :: rest) a w := by
  refine wpList_plain hg fun K' hK' => ?_
  obtain ⟨w', hrun, h1, h2, h3⟩ := run_insert_str hb t k e ht hk s v hn
  unfold Oper.wp
  simp [execOp, hop, hm, hx, hy, hrun, Result.andThen]
  exact hK' _ _ (hK w' h1 h2 h3)
end Go.Proofs.YtjabghojenhhiaaDoor
