/- A walk through one goroutine that may communicate: like a body's walk, but of frames that are not early ones. No program. -/
import Derived.Conc.LoneCalls
import Derived.Conc.Own
import Derived.Conc.LoneSelectN
import Derived.Calls
set_option linter.unusedVariables false
set_option linter.unusedSimpArgs false
namespace Go.Proofs.Ytmlcelleohhmcaa
open Go Go.Conc

variable {P : Program} {Q : Exit → Act → World → Prop} {a : Act} {w : World}

/-- From the code c on, in any frame that is not an early one, the machine arrives at an exit of which Q holds. -/
def Wn (P : Program) (c : Code) (Q : Exit → Act → World → Prop) (a : Act) (w : World) : Prop :=
  ∀ (b : Frame) (k : List Item) (cs : List Frame), b.kind ≠ .early → ∃ e a' w', Q e a' w' ∧ Arrives P (lone (b.at a (.code c :: k)) cs w) b k cs e a' w'
/-- The same from within a region: the operations l are still to come. -/
def WnL (P : Program) (ops : Array Oper) (Q : Exit → Act → World → Prop) (l : List Nat) (a : Act) (w : World) : Prop :=
  ∀ (b : Frame) (k : List Item) (cs : List Frame), b.kind ≠ .early → ∃ e a' w', Q e a' w' ∧ Arrives P (lone (b.at a (.inRegion ops l :: k)) cs w) b k cs e a' w'
theorem Wn.of_wp {c : Code} (h : c.wp P Q a w) : Wn P c Q a w := fun b k cs _ => h b k cs
theorem WnL.of_ops {ops : Array Oper} {l : List Nat} (h : wpOps P ops Q l a w) : WnL P ops Q l a w := fun b k cs _ => wp_ops l a w h b k cs
theorem Wn.mono {c : Code} {Q' : Exit → Act → World → Prop} (h : Wn P c Q a w) (hq : ∀ e a w, Q e a w → Q' e a w) : Wn P c Q' a w := fun b k cs hb => by
  obtain ⟨e, a', w', h1, h2⟩ := h b k cs hb
  exact ⟨e, a', w', hq _ _ _ h1, h2⟩
theorem Wn.seq {x y : Code} (h : Wn P x (Exit.then (Wn P y Q) Q) a w) : Wn P (.seq x y) Q a w := by
  intro b k cs hb
  obtain ⟨e, a1, w1, hq, harr⟩ := h b (.code y :: k) cs hb
  by_cases he : e = .normal
  · subst he
    obtain ⟨e2, a2, w2, hq2, harr2⟩ := hq b k cs hb
    exact ⟨e2, a2, w2, hq2, .of_steps (.head step_seq harr) harr2⟩
  · refine ⟨e, a1, w1, ?_, .of_steps (.one step_seq) (.pass (x := .code y) rfl (fun _ _ => .inl he) harr)⟩
    cases e <;> first | exact absurd rfl he | exact hq
theorem Wn.cond {c : Operand} {x y : Code} {t : Bool} (hc : a.eval c = .bool t) (h : Wn P (if t then x else y) Q a w) : Wn P (.cond c x y) Q a w := fun b k cs hb => by
  obtain ⟨e, a', w', h1, h2⟩ := h b k cs hb
  exact ⟨e, a', w', h1, .of_steps (.one (step_cond hc)) h2⟩
theorem Wn.block {id : Nat} {c : Code} (h : Wn P c (Exit.inBlock id Q) a w) : Wn P (.block id c) Q a w := by
  intro b k cs hb
  obtain ⟨e, a1, w1, hq, harr⟩ := h b (.inBlock id :: k) cs hb
  cases e with
  | normal => exact ⟨.normal, a1, w1, hq, .head step_block (Steps.trans harr (.one step_inBlock))⟩
  | exit i =>
    by_cases hid : i = id
    · subst hid
      simp only [Exit.inBlock, if_true] at hq
      exact ⟨.normal, a1, w1, hq, .head step_block (harr k (by simp [exitTo]))⟩
    · simp only [Exit.inBlock, hid, if_false] at hq
      have hne : (id == i) = false := by simp; exact fun h => hid h.symm
      exact ⟨.exit i, a1, w1, hq, fun k' hk => .head step_block (harr k' (by simp [exitTo, hne, hk]))⟩
  | goto l => exact ⟨_, a1, w1, hq, fun k' hk => .head step_block (harr k' (by simp [gotoIn, hk]))⟩
  | ret => exact ⟨_, a1, w1, hq, .of_steps (.one step_block) harr⟩
  | panic ch => exact ⟨_, a1, w1, hq, .of_steps (.one step_block) harr⟩
  | outgrown => exact ⟨_, a1, w1, hq, .of_steps (b := b) (k := k) (cs := cs) (e := .outgrown) (.one step_block) harr⟩
theorem Wn.loop {c : Code} (I : Act → World → Prop) (μ : Act → World → Nat) (h0 : I a w)
    (round : ∀ a w, I a w → Wn P c (Exit.then (fun a' w' => I a' w' ∧ μ a' w' < μ a w) Q) a w) : Wn P (.loop c) Q a w := by
  intro b k cs hb
  have key : ∀ n a w, μ a w = n → I a w → ∃ e a' w', Q e a' w' ∧ Arrives P (lone (b.at a (.code c :: .inLoop c :: k)) cs w) b k cs e a' w' := by
    intro n
    induction n using Nat.strongRecOn with
    | _ n ih =>
      intro a w hn hI
      obtain ⟨e, a1, w1, hq, harr⟩ := round a w hI b (.inLoop c :: k) cs hb
      by_cases he : e = .normal
      · subst he
        obtain ⟨hI1, hlt⟩ := hq
        obtain ⟨e2, a2, w2, hq2, harr2⟩ := ih (μ a1 w1) (hn ▸ hlt) a1 w1 rfl hI1
        exact ⟨e2, a2, w2, hq2, .of_steps (Steps.trans harr (.one step_inLoop)) harr2⟩
      · refine ⟨e, a1, w1, ?_, .pass (x := .inLoop c) rfl (fun _ _ => .inl he) harr⟩
        cases e <;> first | exact absurd rfl he | exact hq
  obtain ⟨e, a', w', hq, harr⟩ := key _ a w rfl h0
  exact ⟨e, a', w', hq, .of_steps (.one step_loop) harr⟩
theorem Wn.region {id : Nat} {ops : Array Oper} (h : WnL P ops Q (List.range ops.size) a w) : Wn P (.region id ops false) Q a w := fun b k cs hb => by
  obtain ⟨e, a', w', h1, h2⟩ := h b k cs hb
  exact ⟨e, a', w', h1, .of_steps (.one step_region) h2⟩
/-- One step of the machine from within a region. -/
theorem WnL.step {ops : Array Oper} {l l' : List Nat} {a' : Act} {w' : World} (h : ∀ (b : Frame) (k : List Item) (cs : List Frame), b.kind ≠ .early → step P (lone (b.at a (.inRegion ops l :: k)) cs w) = .next (lone (b.at a' (.inRegion ops l' :: k)) cs w')) (h' : WnL P ops Q l' a' w') : WnL P ops Q l a w := fun b k cs hb => by
  obtain ⟨e, a2, w2, h1, h2⟩ := h' b k cs hb
  exact ⟨e, a2, w2, h1, .of_steps (.one (h b k cs hb)) h2⟩
/-- A communication's result is put where the operation puts it. -/
theorem finish_put (b : Frame) (a : Act) (ops : Array Oper) (i : Nat) (o : Oper) (rest : List Nat) (k : List Item) (ho : ops[i]? = some o) (v : Value) :
    (b.at a (.inRegion ops (i :: rest) :: k)).finish v = b.at (a.put o.dst v) (.inRegion ops rest :: k) := by
  unfold Frame.finish Frame.at
  simp only [ho, Option.bind_some]
  cases hd : o.dst <;> rfl
section
variable {ops : Array Oper} {i : Nat} {rest : List Nat} {o : Oper} {w1 : World} {c cap s r : Nat} {buf : Array Value} {v z z' : Value} {tm closed : Bool}
/-- A send into a buffer with room. -/
theorem WnL.send (ho : ops[i]? = some o) (hw : Region.wanted o (yielded ops a.tmps) = true) (hr : (execOp a.eval o).run P w = .ok (.comm #[scase c v z'] true .send) w1)
    (hc : w1.heap[c]? = some (.chan cap buf false s r tm)) (hroom : buf.size < cap) (h : WnL P ops Q rest (a.put o.dst undef) (w1.setChan c cap (buf.push v) false (s + 1) r tm)) : WnL P ops Q (i :: rest) a w :=
  WnL.step (fun b k cs hb => by
    rw [lone_eq_solo, step_lone_send_room (stepG_comm (b := b) (k := k) (cs := cs) (rest := rest) ho hw hb hr) hc hroom, finish_put b a ops i o rest k ho]; rfl) h
/-- A select of receives, one of which has a value in its buffer. -/
theorem WnL.recv {cases : Array CommCase} {m : Nat} {blocking : Bool} (ho : ops[i]? = some o) (hw : Region.wanted o (yielded ops a.tmps) = true) (hr : (execOp a.eval o).run P w = .ok (.comm cases blocking .select) w1)
    (hk : cases[m]? = some (rcase c z)) (hno : ∀ (m' : Nat) (c' : CommCase), m' ≠ m → cases[m']? = some c' → NoWay w1 c') (hc : w1.heap[c]? = some (.chan cap buf closed s r tm)) (hsome : 0 < buf.size)
    (h : WnL P ops Q rest (a.put o.dst (commResult cases .select m (buf.getD 0 undef) true)) (w1.setChan c cap (buf.extract 1 buf.size) closed s (r + 1) tm)) : WnL P ops Q (i :: rest) a w :=
  WnL.step (fun b k cs hb => by
    rw [lone_eq_solo, step_lone_sel_recv_buf (stepG_comm (b := b) (k := k) (cs := cs) (rest := rest) ho hw hb hr) hk hno hc hsome, finish_put b a ops i o rest k ho]; rfl) h
/-- A select with a default, nothing being ready. -/
theorem WnL.default {cases : Array CommCase} (ho : ops[i]? = some o) (hw : Region.wanted o (yielded ops a.tmps) = true) (hr : (execOp a.eval o).run P w = .ok (.comm cases false .select) w1)
    (hno : ∀ cc ∈ cases, NoWay w1 cc) (h : WnL P ops Q rest (a.put o.dst (commResult cases .select (-1) undef false)) w1) : WnL P ops Q (i :: rest) a w :=
  WnL.step (fun b k cs hb => by
    rw [lone_eq_solo, step_lone_sel_default (stepG_comm (b := b) (k := k) (cs := cs) (rest := rest) ho hw hb hr) hno, finish_put b a ops i o rest k ho]; rfl) h
/-- An operation that yields a value. -/
theorem WnL.value (ho : ops[i]? = some o) (hw : Region.wanted o (yielded ops a.tmps) = true) (hr : (execOp a.eval o).run P w = .ok (.value v) w1) (h : WnL P ops Q rest (a.put o.dst v) w1) : WnL P ops Q (i :: rest) a w :=
  WnL.step (fun b k cs hb => by
    rw [lone_eq_solo, step_solo_go rfl (stepG_value (b := b) (k := k) (cs := cs) (rest := rest) ho hw hb hr)]; rfl) h
/-- An operation that yields nothing. -/
theorem WnL.nothing (ho : ops[i]? = some o) (hw : Region.wanted o (yielded ops a.tmps) = true) (hr : (execOp a.eval o).run P w = .ok .skip w1) (h : WnL P ops Q rest (a.put o.dst undef) w1) : WnL P ops Q (i :: rest) a w :=
  WnL.step (fun b k cs hb => by
    rw [lone_eq_solo, step_solo_go rfl (stepG_none (b := b) (k := k) (cs := cs) (rest := rest) ho hw hb hr)]; rfl) h
end
/-- A body walked so makes a contract. -/
theorem calls_of_wn {f : FuncId} {fn : Func} {c : Code} {args : Array Value} {R : Ending → World → Prop} (hf : P.funcs[f]? = some fn) (hb : fn.body = some c)
    (h : Wn P c (bodyPost P fn R) { tmps := args ++ Array.replicate (fn.ntmps - args.size) undef, defers := [] } w) : Calls P f args w R := by
  intro cs
  obtain ⟨e, a', w', hq, harr⟩ := h { (default : Frame) with fn := f, kind := .normal } [] cs (by simp)
  have henter : Frame.enter P f args .normal = Frame.at { (default : Frame) with fn := f, kind := .normal } { tmps := args ++ Array.replicate (fn.ntmps - args.size) undef, defers := [] } [.code c] := by
    simp [Frame.enter, Frame.at, hf, hb]
  rw [← henter] at harr
  cases e with
  | normal =>
    obtain ⟨hd, v, hr, hR⟩ := hq
    exact ⟨.returned v, w', _, hR, Steps.trans harr (.one step_end), rfl, rfl, hd, rfl, fn, hf, hr⟩
  | ret =>
    obtain ⟨hd, v, hr, hR⟩ := hq
    obtain ⟨todo, hs⟩ := harr
    exact ⟨.returned v, w', _, hR, hs, rfl, rfl, hd, rfl, fn, hf, hr⟩
  | panic chain =>
    obtain ⟨hd, hR⟩ := hq
    obtain ⟨todo, hs⟩ := harr
    exact ⟨.panicked chain, w', _, hR, hs, rfl, rfl, hd, fn, hf⟩
  | exit id => exact hq.elim
  | goto l => exact hq.elim
  | outgrown => exact ⟨.outgrown, w', { (default : Frame) with fn := f, kind := .normal }, hq, harr.resolve_left (by simp), rfl, trivial⟩
end Go.Proofs.Ytmlcelleohhmcaa
