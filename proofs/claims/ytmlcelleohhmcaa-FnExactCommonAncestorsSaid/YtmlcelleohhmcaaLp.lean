/- A line is put under somebody who is met: the program's text. -/
import Derived.Test.YtmlcelleohhmcaaLiP
import Derived.Test.YtmlcelleohhmcaaKinHelp
import Derived.Lib.SliceRun
import Derived.WideShapes
import Derived.Deep.RegionHeld3
set_option linter.unusedVariables false
set_option linter.unusedSimpArgs false
namespace Go.Proofs.Ytmlcelleohhmcaa
open Go.RowKit

theorem ints_cells {w : World} {b off : Nat} {zs : List Int} (h : Ints w b off zs) : ∀ j u, (zs.map (Value.int .i64))[j]? = some u → w.cell? ((⟨b, off, none⟩ : Addr).add j) = some u := by
  intro j u hj
  rw [WideShapes.add_plain]
  have hlt : j < zs.length := by
    have := (List.getElem?_eq_some_iff.1 hj).1
    simpa using this
  rw [h j hlt, ← hj]
  simp [List.getElem?_eq_getElem hlt]

set_option maxHeartbeats 400000 in
theorem cloneInt_any (b off c : Nat) (zs : List Int) (w : World) (hn : zs.length ≤ 1048576) (hbl : b < w.heap.size) (hI : Ints w b off zs) :
    Calls Try.prog 84 #[.slice (some ⟨b, off, none⟩) zs.length c] w (RetOwn zs w) := by
  obtain ⟨i0, hi, hz0, hz1, hz2⟩ := info_parts infoInt
  have qT : ∀ (w : World) (a : Option Addr) (n c n' c' : Nat), (binOp .eql 24 (.slice a n c) (.slice none n' c')).run Try.prog w = .ok (.bool a.isNone) w := fun w a n c n' c' => Lib.run_eql_slice_nil w _ _ a n c n' c' Try.underlying24
  have hI' := Lib.hid (hI.kept ((Below.refl w.heap.size w).alloc (Nat.le_refl _) (.cells #[] 3)) hbl)
  have hO := Lib.hid (World.ownsRow_lit (base := w.heap.size) (size := 1) (e := 3) w #[] 0 (Nat.le_refl _) (by unfold maxLen; omega) rfl)
  have HU := Lib.hid (ints_oneCell .i64 zs)
  have HLn : (zs.map (Value.int .i64)).length = zs.length * 1 := by simp
  generalize hxs : zs.map (Value.int .i64) = xs at HU HLn
  have HX := Lib.hid hxs
  have HC := Lib.hid (ints_cells hI'.out)
  rw [hxs] at HC
  clear hxs
  go_enter Try.func84, Try.ntmps84
  go_wp2_with (first | (at_builtin; refine wpList_append_own _ rfl _ _ 24 rfl w.heap.size 3 i0 _ 1 8 Try.underlying24 hi hz0 hz1 hz2 rfl (by decide) _ 0 [] rfl hO.out ⟨b, off, none⟩ zs.length c xs rfl HLn HC.out HU.out ?c3 ?c4 ?c5 ?_))
  case c3 => unfold maxLen; omega
  case c4 => omega
  intro v' w1 hown hgr _
  have hb : Below w.heap.size w w1 := (((Below.refl w.heap.size w).alloc (Nat.le_refl _) _).grown hgr (by simp) (by intro k hk; simp [Value.ownBlock] at hk; omega))
  have ho : Own w.heap.size w1 v' zs := by unfold Own; rw [HX.out]; exact hown
  clear hown hgr
  go_wp2_with fail
  go_ret
  exact ⟨_, rfl, ho, hb⟩

theorem step_append_mine {P : Program} {w : World} {ops : Array Oper} {o : Oper} {a : Act} {K : Act → World → Prop} {Q : Exit → Act → World → Prop} {E : Prop} (hgd : o.guard = none) (s x : Operand) (t : TypeId)
    (ho : o.op = .call { callee := .builtin .append, args := #[s, x], argTypes := #[t, t] })
    (base : Nat) (e : TypeId) (i : TypeInfo) (z : Value) (size bytes : Nat) (ht : P.underlying t = some (.slice e)) (hi : P.info? e = some i) (hz : i.zero = some z)
    (hsize : i.size = size) (hby : i.bytes = bytes) (hzs : z.cells.size = size) (hsz : 0 < size)
    (v : Value) (n : Nat) (xs : List Value) (hs : a.eval s = v) (hown : w.ownsRow base e size v n xs)
    (ad : Addr) (m c : Nat) (news : List Value) (hx : a.eval x = .slice (some ad) m c) (hl : news.length = m * size) (hnews : ∀ j u, news[j]? = some u → w.cell? (ad.add j) = some u) (h1 : ∀ u ∈ news, u.oneCell' = true)
    (h63 : n + m ≤ maxLen) (hbytes : (n + m) * bytes ≤ 140737488355328) (hbase : base ≤ w.heap.size)
    (h : ∀ v' w', w'.ownsRow base e size v' (n + m) (xs ++ news) → w.grownBy w' v.ownBlock → K (a.put o.dst v') w') :
    if Region.wanted o (yielded ops a.tmps) = true then Oper.wp P o a w K Q else E := by
  have hw : Region.wanted o (yielded ops a.tmps) = true := by simp [Region.wanted, hgd]
  rw [if_pos hw]
  exact wp_append_own w s x t ho base e i z size bytes ht hi hz hsize hby hzs hsz v n xs hs hown ad m c news hx hl hnews h1 h63 hbytes hbase fun v' w' h2 h3 _ => h v' w' h2 h3

theorem cell_rowE {w w' : World} {row : Option Nat} {b o : Nat} {u : Value} (hg : w.grownBy w' row) (hne : some b ≠ row) (h : w.cell? ⟨b, o, none⟩ = some u) : w'.cell? ⟨b, o, none⟩ = some u :=
  (World.cell?_of_block (w := w) (a := ⟨b, o, none⟩) (hg.block b (World.block_lt_of_cell? w _ h) hne)).trans h

/-- The map behind an entry more. -/
def updW (fs : List Kn) (w : World) (M : Nat) (l : List (Nat × Value)) (k : Nat) (v : Value) : World := ChangeMaps.setBlock w M (.map ((entR fs 0 l).toArray.push ⟨keyV fs k, v, l.length⟩) (l.length + 1))
theorem updW_run {fs : List Kn} {w : World} {M : Nat} {l : List (Nat × Value)} (hm : IsMapR fs w M l) (k : Nat) (v : Value) (hn : underN k l = none) :
    (Instr.mapUpdate 80 (.map (some M)) (keyV fs k) v).run Try.prog w = .ok () (updW fs w M l k v) := by
  obtain ⟨r, h1, h2⟩ := findKey_entR fs k w l
  have hr : r = none := by rw [hn] at h2; cases r with | none => rfl | some q => cases h2
  subst hr
  unfold updW
  simp [Instr.mapUpdate, run_underlying Try.underlying80, MapKept.run_getObj_map hm, checkKey_rel, h1, MapKept.run_setObj_map _ hm, Result.andThen, ChangeMaps.setBlock]
theorem updW_map {fs : List Kn} {w : World} {M : Nat} {l : List (Nat × Value)} (hm : IsMapR fs w M l) (k : Nat) (v : Value) : IsMapR fs (updW fs w M l k v) M (l ++ [(k, v)]) := by
  unfold IsMapR updW
  rw [entR_snoc, List.length_append]
  simpa using ChangeMaps.heap_setBlock_same hm _
theorem updW_grown {fs : List Kn} {w : World} {M : Nat} {l : List (Nat × Value)} (hm : IsMapR fs w M l) (k : Nat) (v : Value) : w.grownBy (updW fs w M l k v) (some M) :=
  ⟨rfl, rfl, rfl, by simp [updW, ChangeMaps.setBlock], fun i _ hi => ChangeMaps.heap_setBlock_other hm _ (fun e => hi (by rw [e]))⟩
theorem updW_size {fs : List Kn} {w : World} {M : Nat} {l : List (Nat × Value)} (k : Nat) (v : Value) : (updW fs w M l k v).heap.size = w.heap.size := by simp [updW, ChangeMaps.setBlock]

/-- What is held while the line is put. -/
structure PutS (fs : List Kn) (n0 M V V2 u k gu cu : Nat) (L : List Nat) (w : World) : Prop where
  lv : V < n0
  lv2 : V2 < n0
  lm : M < n0
  lg : gu < n0
  hv : V ≠ M
  hv2 : V2 ≠ M
  hg : gu ≠ M
  rv : RelAt fs w V u
  rk : RelAt fs w V2 k
  mp : ∃ l', IsMapR fs w M l' ∧ underN u l' = some (.slice (some ⟨gu, 0, none⟩) L.length cu)
  row : Ints w gu 0 (cstN L)
  sz : n0 ≤ w.heap.size
theorem PutS.grown {fs : List Kn} {n0 M V V2 u k gu cu : Nat} {L : List Nat} {w w' : World} {row : Option Nat} (h : PutS fs n0 M V V2 u k gu cu L w) (hg : w.grownBy w' row) (hr : ∀ q, row = some q → n0 ≤ q) : PutS fs n0 M V V2 u k gu cu L w' := by
  have hn : ∀ b, b < n0 → w'.heap[b]? = w.heap[b]? := fun b hb => hg.block b (Nat.lt_of_lt_of_le hb h.sz) (fun e => by have := hr b e.symm; omega)
  have hc : ∀ b o, b < n0 → w'.cell? ⟨b, o, none⟩ = w.cell? ⟨b, o, none⟩ := fun b o hb => World.cell?_of_block (w := w) (a := ⟨b, o, none⟩) (hn b hb)
  obtain ⟨l', m1, m2⟩ := h.mp
  exact ⟨h.lv, h.lv2, h.lm, h.lg, h.hv, h.hv2, h.hg, ⟨(hc _ _ h.lv).trans h.rv.1, (hc _ _ h.lv).trans h.rv.2.1, (hc _ _ h.lv).trans h.rv.2.2.1, (hc _ _ h.lv).trans h.rv.2.2.2⟩, ⟨(hc _ _ h.lv2).trans h.rk.1, (hc _ _ h.lv2).trans h.rk.2.1, (hc _ _ h.lv2).trans h.rk.2.2.1, (hc _ _ h.lv2).trans h.rk.2.2.2⟩, ⟨l', m1.heap (hn M h.lm), m2⟩, fun j hj => (hc _ _ h.lg).trans (h.row j hj), Nat.le_trans h.sz hg.size⟩
theorem PutS.kept {fs : List Kn} {n0 M V V2 u k gu cu : Nat} {L : List Nat} {w w' : World} (h : PutS fs n0 M V V2 u k gu cu L w) (hb : Below w.heap.size w w') : PutS fs n0 M V V2 u k gu cu L w' := h.grown (below_grown hb none) (by simp)
theorem PutS.upd {fs : List Kn} {n0 M V V2 u k gu cu : Nat} {L : List Nat} {w : World} {l : List (Nat × Value)} (h : PutS fs n0 M V V2 u k gu cu L w) (hm : IsMapR fs w M l) (kk : Nat) (v : Value) : PutS fs n0 M V V2 u k gu cu L (updW fs w M l kk v) := by
  have hg := updW_grown hm kk v
  have hn : ∀ b, b < n0 → b ≠ M → (updW fs w M l kk v).heap[b]? = w.heap[b]? := fun b hb hne => hg.block b (Nat.lt_of_lt_of_le hb h.sz) (fun e => hne (Option.some.inj e))
  have hc : ∀ b o, b < n0 → b ≠ M → (updW fs w M l kk v).cell? ⟨b, o, none⟩ = w.cell? ⟨b, o, none⟩ := fun b o hb hne => World.cell?_of_block (w := w) (a := ⟨b, o, none⟩) (hn b hb hne)
  obtain ⟨l', m1, m2⟩ := h.mp
  have hll : underN u l = some (.slice (some ⟨gu, 0, none⟩) L.length cu) := by
    obtain ⟨r, h1, h2⟩ := findKey_entR fs u w l
    obtain ⟨r', h1', h2'⟩ := findKey_entR fs u w l'
    have e : (entR fs 0 l) = entR fs 0 l' := by
      have := m1.symm.trans hm
      simp at this
      exact this.1.symm
    rw [e] at h1
    have := h1.symm.trans h1'
    simp at this
    rw [← h2, this, h2', m2]
  exact ⟨h.lv, h.lv2, h.lm, h.lg, h.hv, h.hv2, h.hg, ⟨(hc _ _ h.lv h.hv).trans h.rv.1, (hc _ _ h.lv h.hv).trans h.rv.2.1, (hc _ _ h.lv h.hv).trans h.rv.2.2.1, (hc _ _ h.lv h.hv).trans h.rv.2.2.2⟩, ⟨(hc _ _ h.lv2 h.hv2).trans h.rk.1, (hc _ _ h.lv2 h.hv2).trans h.rk.2.1, (hc _ _ h.lv2 h.hv2).trans h.rk.2.2.1, (hc _ _ h.lv2 h.hv2).trans h.rk.2.2.2⟩, ⟨_, updW_map hm kk v, underN_old _ _ _ _ hll⟩, fun j hj => (hc _ _ h.lg h.hg).trans (h.row j hj), by rw [updW_size]; exact h.sz⟩

theorem oneIntP (x : Int) : ∀ u ∈ [Value.int .i64 x], u.oneCell' = true := by
  intro u hu; simp at hu; subst hu; rfl
theorem newOneI (W : World) (g : Nat) (x : Int) (t : TypeId) (hg : g = W.heap.size) : ∀ j u, [Value.int .i64 x][j]? = some u → (W.alloc (.cells #[.int .i64 x] t)).cell? ((⟨g, 0, none⟩ : Addr).add j) = some u := by
  subst hg
  intro j u hj
  match j, hj with
  | 0, hj => simp at hj; subst hj; simp [Addr.add]
theorem oneKept {W W2 : World} {g : Nat} {x : Value} (hb : Below W.heap.size W W2) (h : ∀ j u, [x][j]? = some u → W.cell? ((⟨g, 0, none⟩ : Addr).add j) = some u) (hg : g < W.heap.size) : ∀ j u, [x][j]? = some u → W2.cell? ((⟨g, 0, none⟩ : Addr).add j) = some u := by
  intro j u hj
  have := h j u hj
  rw [WideShapes.add_plain] at this ⊢
  exact (hb.cell (p := ⟨g, 0 + j, none⟩) hg).trans this
theorem own_putP {B n : Nat} {w : World} {v : Value} {L : List Nat} {k : Nat} (hn : n = (cstN L).length) (h : w.ownsRow B 3 1 v (n + 1) ((cstN L).map (Value.int .i64) ++ [.int .i64 (k : Int)])) : Own B w v (cstN (L ++ [k])) := by
  subst hn
  have e : cstN (L ++ [k]) = cstN L ++ [(k : Int)] := by unfold cstN; simp
  unfold Own
  rw [e, List.length_append, List.map_append]
  exact h
theorem below_chain {n0 : Nat} {w W W2 : World} (h1 : Below n0 w W) (h2 : Below W.heap.size W W2) (hn : n0 ≤ W.heap.size) : Below n0 w W2 := h1.trans (h2.mono hn)

set_option maxHeartbeats 8000000 in
set_option maxRecDepth 100000 in
theorem putLine (fs : List Kn) (M V V2 u k gu cu : Nat) (l : List (Nat × Value)) (L : List Nat) (w4 : World) (hL : 1 ≤ L.length ∧ L.length ≤ 1000) (hm : IsMapR fs w4 M l) (hk : underN k l = none)
    (hS : PutS fs w4.heap.size M V V2 u k gu cu L w4) (u0 u1 u2 u3 u4 u5 u6 u8 u10 u12 u13 u14 u15 u16 u17 u18 u19 u20 u21 u22 u23 u24 u25 u26 u27 u28 u29 u30 u31 u32 u33 u34 u35 u36 u37 u38 u39 u40 u41 u42 u43 u44 u45 u46 u47 u48 u49 u50 u51 u52 u53 u54 u55 u56 u57 u58 u59 u60 u61 u62 u63 : Value) (Q : Exit → Act → World → Prop)
    (hQ : ∀ v6 w5 z51 z52 z53 z54 z55 z56 z57 z58 z59 z60, Own w4.heap.size w5 v6 (cstN (L ++ [k])) → Below w4.heap.size w4 w5 → IsMapR fs w5 M l → Q .normal ({ tmps := #[u0, u1, u2, u3, u4, u5, u6, .map (some M), u8, .pointer (some ⟨V, 0, none⟩), u10, .pointer (some ⟨V2, 0, none⟩), u12, u13, u14, u15, u16, u17, u18, u19, u20, u21, u22, u23, u24, u25, u26, u27, u28, u29, u30, u31, u32, u33, u34, u35, u36, u37, u38, u39, u40, u41, u42, u43, u44, u45, u46, u47, u48, u49, u50, z51, z52, z53, z54, z55, z56, z57, z58, z59, z60, u61, u62, u63], defers := [] } : Act) (updW fs w5 M l k v6)) :
    Code.wp Try.prog (codeFst (codeIn (codeSnd (codeSnd (codeSnd (codeIn (codeFst (codeSnd (codeSnd (codeIn (codeIn (codeSnd (codeSnd (codeIn (codeIn (codeSnd (codeSnd (codeIn (codeIn (codeIn (codeSnd (codeSnd (codeSnd (codeSnd ((Try.f72).body.getD .skip))))))))))))))))))))))))) Q ({ tmps := #[u0, u1, u2, u3, u4, u5, u6, .map (some M), u8, .pointer (some ⟨V, 0, none⟩), u10, .pointer (some ⟨V2, 0, none⟩), u12, u13, u14, u15, u16, u17, u18, u19, u20, u21, u22, u23, u24, u25, u26, u27, u28, u29, u30, u31, u32, u33, u34, u35, u36, u37, u38, u39, u40, u41, u42, u43, u44, u45, u46, u47, u48, u49, u50, u51, u52, u53, u54, u55, u56, u57, u58, u59, u60, u61, u62, u63], defers := [] } : Act) w4 := by
  obtain ⟨i0, hi, hz0, hz1, hz2⟩ := info_parts infoInt
  have HQ := Lib.hid hQ
  have HM := Lib.hid hm
  have hcl : (cstN L).length = L.length := by unfold cstN; rw [List.length_map]
  have HCL := Lib.hid fun (W : World) (S : PutS fs w4.heap.size M V V2 u k gu cu L W) => cloneInt_any gu 0 cu (cstN L) W (by omega) (Nat.lt_of_lt_of_le S.lg S.sz) S.row
  rw [hcl] at HCL
  have HOL := Lib.hid fun (W : World) (v : Value) (B : Nat) (h : Own B W v (cstN L)) (hB : w4.heap.size ≤ B) => (show W.ownsRow w4.heap.size 3 1 v L.length ((cstN L).map (Value.int .i64)) from by have h2 := Own.mono h hB; unfold Own at h2; rw [hcl] at h2; exact h2)
  have HMB := Lib.hid fun (W : World) (hb : Below w4.heap.size w4 W) => (hm.heap (hb.block _ hS.lm) : IsMapR fs W M l)
  have hlk : ∀ W : World, PutS fs w4.heap.size M V V2 u k gu cu L W → (Instr.lookup 80 (.map (some M)) (.agg #[.int .i64 (at3 fs u).1, .int .i64 (at3 fs u).2.1, .int .i64 (at3 fs u).2.2, .int .i64 u]) false).run Try.prog W = .ok (.slice (some ⟨gu, 0, none⟩) L.length cu) W := fun W S => by
    obtain ⟨l', m1, m2⟩ := S.mp
    have := run_lookup1R m1 u
    rw [m2] at this
    exact this
  have hup : ∀ (W : World) (v : Value), IsMapR fs W M l → (Instr.mapUpdate 80 (.map (some M)) (.agg #[.int .i64 (at3 fs k).1, .int .i64 (at3 fs k).2.1, .int .i64 (at3 fs k).2.2, .int .i64 k]) v).run Try.prog W = .ok () (updW fs W M l k v) := fun W v h => updW_run h k v hk
  have hall : ∀ W : World, PutS fs w4.heap.size M V V2 u k gu cu L W → PutS fs w4.heap.size M V V2 u k gu cu L W ∧ W.cell? ⟨V, 0, none⟩ = some (.int .i64 (at3 fs u).1) ∧ W.cell? ⟨V, 1, none⟩ = some (.int .i64 (at3 fs u).2.1) ∧ W.cell? ⟨V, 2, none⟩ = some (.int .i64 (at3 fs u).2.2) ∧ W.cell? ⟨V, 3, none⟩ = some (.int .i64 u) ∧ W.cell? ⟨V2, 0, none⟩ = some (.int .i64 (at3 fs k).1) ∧ W.cell? ⟨V2, 1, none⟩ = some (.int .i64 (at3 fs k).2.1) ∧ W.cell? ⟨V2, 2, none⟩ = some (.int .i64 (at3 fs k).2.2) ∧ W.cell? ⟨V2, 3, none⟩ = some (.int .i64 k) :=
    fun W S => ⟨S, S.rv.1, S.rv.2.1, S.rv.2.2.1, S.rv.2.2.2, S.rk.1, S.rk.2.1, S.rk.2.2.1, S.rk.2.2.2⟩
  have hcl := Lib.hid hcl
  clear hQ hm
  show Code.wp _ (Code.region _ _ true) _ _ _
  go_region_held3? (fun W => PutS fs w4.heap.size M V V2 u k gu cu L W ∧ W.cell? ⟨V, 0, none⟩ = some (.int .i64 (at3 fs u).1) ∧ W.cell? ⟨V, 1, none⟩ = some (.int .i64 (at3 fs u).2.1) ∧ W.cell? ⟨V, 2, none⟩ = some (.int .i64 (at3 fs u).2.2) ∧ W.cell? ⟨V, 3, none⟩ = some (.int .i64 u) ∧ W.cell? ⟨V2, 0, none⟩ = some (.int .i64 (at3 fs k).1) ∧ W.cell? ⟨V2, 1, none⟩ = some (.int .i64 (at3 fs k).2.1) ∧ W.cell? ⟨V2, 2, none⟩ = some (.int .i64 (at3 fs k).2.2) ∧ W.cell? ⟨V2, 3, none⟩ = some (.int .i64 k))
    (first
      | exact hall _ (hS.kept ((Below.refl _ _).drew))
      | assumption
      | exact hall _ (PutS.kept (‹PutS _ _ _ _ _ _ _ _ _ _ _ ∧ _›).1 hcall)
      | exact hall _ (PutS.kept (‹PutS _ _ _ _ _ _ _ _ _ _ _ ∧ _›).1 ((Below.refl _ _).alloc (Nat.le_refl _) _))
      | exact hall _ (PutS.upd (hS.kept hb6) hm6 _ _)
      | exact hall _ (hS.kept hb6))
    (first
      | (go_at_call 84; have hsz := (‹PutS _ _ _ _ _ _ _ _ _ _ _ ∧ _›).1.sz; refine (HCL.out _ (‹PutS _ _ _ _ _ _ _ _ _ _ _ ∧ _›).1).mono ?_; rintro e w5 ⟨vc, rfl, hoc0, hcall⟩; have hoc : w5.ownsRow w4.heap.size 3 1 vc L.length ((cstN L).map (Value.int .i64)) := HOL.out _ _ _ hoc0 hsz; (first | (have hb5 : Below w4.heap.size w4 w5 := below_chain ((Below.refl _ _).drew) hcall hsz) | (have hb5 : Below w4.heap.size w4 w5 := below_chain (((Below.refl _ _).drew).alloc (by simp) _) hcall hsz)); clear hoc0)
      | (refine step_append_mine (by rfl) _ _ 24 (by rfl) w4.heap.size 3 i0 (.int .i64 0) 1 8 Try.underlying24 hi hz0 hz1 hz2 rfl (by omega) vc L.length ((cstN L).map (Value.int .i64)) (by rfl) (hoc.alloc _) ⟨w5.heap.size, 0, none⟩ 1 1 [.int .i64 (k : Int)] (by rfl) (by rfl) (newOneI w5 _ _ _ rfl) (oneIntP _) (by unfold maxLen; omega) (by omega) (by have := hb5.size; simp; omega) ?_; intro v6 w6 hown hgr; have hgb : ∀ q, v6.ownBlock = some q → w4.heap.size ≤ q := fun q hq => (World.ownsRow.lt hown q hq).1; have hgb0 : ∀ q, vc.ownBlock = some q → w4.heap.size ≤ q := fun q hq => (World.ownsRow.lt hoc q hq).1; have hb6 : Below w4.heap.size w4 w6 := (hb5.alloc hb5.size _).grown hgr (by have := hb5.size; simp; omega) hgb0; have hm6 : IsMapR fs w6 M l := HMB.out _ hb6; have hown6 := own_putP hcl.out.symm hown; have hup6 := hup w6 v6 hm6; clear hown)
      | (refine step_append_mine (by rfl) _ _ 24 (by rfl) w4.heap.size 3 i0 (.int .i64 0) 1 8 Try.underlying24 hi hz0 hz1 hz2 rfl (by omega) vc L.length ((cstN L).map (Value.int .i64)) (by rfl) (hoc) ⟨w4.heap.size, 0, none⟩ 1 1 [.int .i64 (k : Int)] (by rfl) (by rfl) (oneKept hcall (newOneI w4.drew _ _ _ (by simp)) (by simp)) (oneIntP _) (by unfold maxLen; omega) (by omega) (by have := hb5.size; omega) ?_; intro v6 w6 hown hgr; have hgb : ∀ q, v6.ownBlock = some q → w4.heap.size ≤ q := fun q hq => (World.ownsRow.lt hown q hq).1; have hgb0 : ∀ q, vc.ownBlock = some q → w4.heap.size ≤ q := fun q hq => (World.ownsRow.lt hoc q hq).1; have hb6 : Below w4.heap.size w4 w6 := hb5.grown hgr hb5.size hgb0; have hm6 : IsMapR fs w6 M l := HMB.out _ hb6; have hown6 := own_putP hcl.out.symm hown; have hup6 := hup w6 v6 hm6; clear hown))
  all_goals exact HQ.out _ _ _ _ _ _ _ _ _ _ _ _ hown6 hb6 hm6
end Go.Proofs.Ytmlcelleohhmcaa
