/- A made puzzle: both texts. -/
import Derived.Test.YtkkjbkagkmngkabPz19
import Derived.Test.YtkkjbkagkmngkabPzHelp
import Derived.Deep.CutRange
import Derived.Deep.RegionHeld3
import Derived.StillTailTactics
import Derived.Deep.RegionWith
set_option linter.unusedVariables false
set_option linter.unusedSimpArgs false
namespace Go.Proofs.Ytkkjbkagkmngkab
open Go.RowKit

theorem step_append_mine {P : Program} {w : World} {ops : Array Oper} {o : Oper} {a : Act} {K : Act → World → Prop} {Q : Exit → Act → World → Prop} {E : Prop} (hgd : o.guard = none) (s x : Operand) (t : TypeId)
    (ho : o.op = .call { callee := .builtin .append, args := #[s, x], argTypes := #[t, t] })
    (base : Nat) (e : TypeId) (i : TypeInfo) (z : Value) (size bytes : Nat) (ht : P.underlying t = some (.slice e)) (hi : P.info? e = some i) (hz : i.zero = some z)
    (hsize : i.size = size) (hby : i.bytes = bytes) (hzs : z.cells.size = size) (hsz : 0 < size)
    (v : Value) (n : Nat) (xs : List Value) (hs : a.eval s = v) (hown : w.ownsRow base e size v n xs)
    (ad : Addr) (m c : Nat) (news : List Value) (hx : a.eval x = .slice (some ad) m c) (hl : news.length = m * size) (hnews : ∀ j u, news[j]? = some u → w.cell? (ad.add j) = some u) (h1 : ∀ u ∈ news, u.oneCell' = true)
    (h63 : n + m ≤ maxLen) (hbytes : (n + m) * bytes ≤ 140737488355328) (hbase : base ≤ w.heap.size)
    (h : ∀ v' w', w'.ownsRow base e size v' (n + m) (xs ++ news) → w.grownBy w' v.ownBlock → K (a.put o.dst v') w') :
    if Region.wanted o (yielded ops a.tmps) = true then Oper.wp P o a w K Q else E := by
  have hw : Region.wanted o (yielded ops a.tmps) = true := by simp [Region.wanted, hgd]
  rw [if_pos hw]
  exact wp_append_own w s x t ho base e i z size bytes ht hi hz hsize hby hzs hsz v n xs hs hown ad m c news hx hl hnews h1 h63 hbytes hbase fun v' w' h2 h3 _ => h v' w' h2 h3
theorem own_under2K {B g : Nat} {w : World} {v v0 v1 : Value} {zs : List Kn} (h : OwnK B w v zs) (hg : g < B) : OwnK B ((w.setCell ⟨g, 0, none⟩ v0).setCell ⟨g, 1, none⟩ v1) v zs :=
  (h.grownLt (g := g) (Lib.grownBy_setCell w g 0 v0) hg).grownLt (g := g) (Lib.grownBy_setCell _ g 1 v1) hg
theorem newThreeAt (W : World) (g : Nat) (a b c : Value) (t : TypeId) (hg : g = W.heap.size) : ∀ j u, [a, b, c][j]? = some u → (W.alloc (.cells #[a, b, c] t)).cell? ((⟨g, 0, none⟩ : Addr).add j) = some u := by
  subst hg
  intro j u hj
  match j, hj with
  | 0, hj => simp at hj; subst hj; simp [Addr.add]
  | 1, hj => simp at hj; subst hj; simp [Addr.add]
  | 2, hj => simp at hj; subst hj; simp [Addr.add]
theorem three_intsM (x y z : Int) : ∀ u ∈ [Value.int .i64 x, .int .i64 y, .int .i64 z], u.oneCell' = true := by
  intro u hu
  simp at hu
  rcases hu with rfl | rfl | rfl <;> rfl
theorem frz_low {B g o : Nat} {w w' : World} {f : Bool} (hb : Below B w w') (hlt : g < B) (hz : w.frozen? ⟨g, o, none⟩ = f) : w'.frozen? ⟨g, o, none⟩ = f :=
  (hb.frozen (p := ⟨g, o, none⟩) hlt).trans hz
theorem own_under1K {B g : Nat} {w : World} {v v1 : Value} {zs : List Kn} (h : OwnK B w v zs) (hg : g < B) : OwnK B (w.setCell ⟨g, 1, none⟩ v1) v zs :=
  h.grownLt (g := g) (Lib.grownBy_setCell w g 1 v1) hg
def nxt (z : Int) : Int := (299 * z + 811) % 10007
theorem nxt_bd (z : Int) : 0 ≤ nxt z ∧ nxt z ≤ 10006 := by unfold nxt; omega
/-- The number and the clues behind k clues. -/
def mkTo (l : List Int) (s : Int) : Nat → Int × List Kn
  | 0 => (s, [])
  | k + 1 => (nxt (nxt (mkTo l s k).1), (mkTo l s k).2 ++ [(nxt (mkTo l s k).1 % 6, whoK (nxt (mkTo l s k).1 % 6) (nxt (nxt (mkTo l s k).1) % (l.length : Int)).toNat, valK (nxt (mkTo l s k).1 % 6) (nxt (nxt (mkTo l s k).1) % (l.length : Int)).toNat l)])
theorem mkTo_len (l : List Int) (s : Int) : ∀ k, (mkTo l s k).2.length = k
  | 0 => rfl
  | k + 1 => by rw [mkTo]; simp [mkTo_len l s k]
theorem mkTo_bd (l : List Int) (s : Int) (hs : 0 ≤ s ∧ s ≤ 9999) : ∀ k, 0 ≤ (mkTo l s k).1 ∧ (mkTo l s k).1 ≤ 10006
  | 0 => by show 0 ≤ s ∧ s ≤ 10006; omega
  | k + 1 => nxt_bd _

theorem seedAfter_any (z : Int) (w : World) (h : 0 ≤ z ∧ z ≤ 10006) : Calls Try.prog 26 #[.int .i64 z] w (RetSame (.int .i64 (nxt z)) w) := by
  have t1 : IntKind.i64.wrap (z * 299) = z * 299 := IntWalk.i64_in _ (by omega)
  have t2 : IntKind.i64.wrap (z * 299 + 811) = z * 299 + 811 := IntWalk.i64_in _ (by omega)
  have t3 : (z * 299 + 811).tmod 10007 = nxt z := by rw [Int.tmod_eq_emod_of_nonneg (by omega)]; unfold nxt; first | rfl | (congr 1; omega)
  have t4 : IntKind.i64.wrap (nxt z) = nxt z := IntWalk.i64_in _ (by have := nxt_bd z; omega)
  generalize nxt z = r at t3 t4 ⊢
  go_enter Try.func26, Try.ntmps26
  go_wp2
  go_ret
  exact ⟨rfl, rfl⟩

theorem pzNext_any (z : Int) (w : World) (h : 0 ≤ z ∧ z ≤ 10006) : Calls Try.prog 23 #[.int .i64 z] w (RetSame (.int .i64 (nxt z)) w) := by
  have t1 : IntKind.i64.wrap (299 * z) = 299 * z := IntWalk.i64_in _ (by omega)
  have t2 : IntKind.i64.wrap (299 * z + 811) = 299 * z + 811 := IntWalk.i64_in _ (by omega)
  have t3 : (299 * z + 811).tmod 10007 = nxt z := by rw [Int.tmod_eq_emod_of_nonneg (by omega)]; unfold nxt; first | rfl | (congr 1; omega)
  have t4 : IntKind.i64.wrap (nxt z) = nxt z := IntWalk.i64_in _ (by have := nxt_bd z; omega)
  generalize nxt z = r at t3 t4 ⊢
  go_enter Try.func23, Try.ntmps23
  go_wp2
  go_ret
  exact ⟨rfl, rfl⟩

set_option maxHeartbeats 800000 in
theorem pzOf_0 (b c n a : Nat) (y : Int) (l : List Int) (w : World) (hl : l.length = n) (hn : 0 < n) (hn3 : n ≤ 3) (hy : 0 ≤ y ∧ y ≤ 10006) (ha : y % (n : Int) = (a : Int)) (han : a < n) (hd : Hdn l) (hbl : b < w.heap.size) (hI : Ints w b 0 l) :
    Calls Try.prog 24 #[.int .i64 0, .int .i64 y, .slice (some ⟨b, 0, none⟩) n c] w (Ret (.agg #[.int .i64 0, .int .i64 0, .int .i64 (valK 0 a l)]) w) := by
  have HW := Lib.hid ((Below.refl w.heap.size w).alloc (Nat.le_refl _) (.cells #[.int .i64 0, .int .i64 0, .int .i64 0] 27))
  have HV := Lib.hid (fun (W : World) (hb : Below w.heap.size w W) => pzValue_any b c n 0 0 l W hl (by omega) (by omega) hd (Nat.lt_of_lt_of_le hbl hb.size) (hI.kept hb hbl))
  rw [show valK 0 0 l = valK 0 a l from rfl] at HV
  have t0 : ¬ (n : Int) = 0 := by omega
  have t1 : ((n : Int) == 0) = false := beq_eq_false_iff_ne.2 t0
  have t2 : y.tmod (n : Int) = (a : Int) := by rw [Int.tmod_eq_emod_of_nonneg (by omega)]; exact ha
  have t3 : IntKind.i64.wrap (a : Int) = (a : Int) := IntWalk.i64_in _ (by omega)
  generalize valK 0 a l = r at HV ⊢
  clear hI hd ha
  go_enter Try.func24, Try.ntmps24
  go_wp2_with (first | (go_at_call 34; refine (HV.out _ HW.out).mono ?_; rintro e w' ⟨rfl, hcall⟩; have e0 := below_cell2 (a := w.heap.size) (b := 0) (x := .int .i64 0) hcall (by simp [go_sem]); have e1 := below_cell2 (a := w.heap.size) (b := 1) (x := .int .i64 0) hcall (by simp [go_sem]); have e2 := below_cell2 (a := w.heap.size) (b := 2) (x := .int .i64 0) hcall (by simp [go_sem]); have f0 := below_frz (g := w.heap.size) (o := 0) (f := false) hcall (by simp) (by simp [go_sem]); have f1 := below_frz (g := w.heap.size) (o := 1) (f := false) hcall (by simp) (by simp [go_sem]); have f2 := below_frz (g := w.heap.size) (o := 2) (f := false) hcall (by simp) (by simp [go_sem])))
  obtain ⟨s0, s1, s2⟩ := zero3 w' w.heap.size e0 e1 e2
  refine bodyPost_ret (v := .agg #[.int .i64 0, .int .i64 0, .int .i64 r]) (by simp [results, Try.results24, go_sem, s0, s1, s2]) rfl ?_
  exact ⟨rfl, (((HW.out.trans (hcall.mono HW.out.size)).setCell (p := ⟨w.heap.size, 0, none⟩) (Nat.le_refl _) _).setCell (p := ⟨w.heap.size, 1, none⟩) (Nat.le_refl _) _).setCell (p := ⟨w.heap.size, 2, none⟩) (Nat.le_refl _) _⟩

set_option maxHeartbeats 800000 in
theorem pzOf_1 (b c n a : Nat) (y : Int) (l : List Int) (w : World) (hl : l.length = n) (hn : 0 < n) (hn3 : n ≤ 3) (hy : 0 ≤ y ∧ y ≤ 10006) (ha : y % (n : Int) = (a : Int)) (han : a < n) (hd : Hdn l) (hbl : b < w.heap.size) (hI : Ints w b 0 l) :
    Calls Try.prog 24 #[.int .i64 1, .int .i64 y, .slice (some ⟨b, 0, none⟩) n c] w (Ret (.agg #[.int .i64 1, .int .i64 (a : Int), .int .i64 (valK 1 a l)]) w) := by
  have HW := Lib.hid ((Below.refl w.heap.size w).alloc (Nat.le_refl _) (.cells #[.int .i64 0, .int .i64 0, .int .i64 0] 27))
  have HV := Lib.hid (fun (W : World) (hb : Below w.heap.size w W) => pzValue_any b c n a 1 l W hl (by omega) (by omega) hd (Nat.lt_of_lt_of_le hbl hb.size) (hI.kept hb hbl))
  
  have t0 : ¬ (n : Int) = 0 := by omega
  have t1 : ((n : Int) == 0) = false := beq_eq_false_iff_ne.2 t0
  have t2 : y.tmod (n : Int) = (a : Int) := by rw [Int.tmod_eq_emod_of_nonneg (by omega)]; exact ha
  have t3 : IntKind.i64.wrap (a : Int) = (a : Int) := IntWalk.i64_in _ (by omega)
  generalize valK 1 a l = r at HV ⊢
  clear hI hd ha
  go_enter Try.func24, Try.ntmps24
  go_wp2_with (first | (go_at_call 34; refine (HV.out _ HW.out).mono ?_; rintro e w' ⟨rfl, hcall⟩; have e0 := below_cell2 (a := w.heap.size) (b := 0) (x := .int .i64 0) hcall (by simp [go_sem]); have e1 := below_cell2 (a := w.heap.size) (b := 1) (x := .int .i64 0) hcall (by simp [go_sem]); have e2 := below_cell2 (a := w.heap.size) (b := 2) (x := .int .i64 0) hcall (by simp [go_sem]); have f0 := below_frz (g := w.heap.size) (o := 0) (f := false) hcall (by simp) (by simp [go_sem]); have f1 := below_frz (g := w.heap.size) (o := 1) (f := false) hcall (by simp) (by simp [go_sem]); have f2 := below_frz (g := w.heap.size) (o := 2) (f := false) hcall (by simp) (by simp [go_sem])))
  obtain ⟨s0, s1, s2⟩ := zero3 w' w.heap.size e0 e1 e2
  refine bodyPost_ret (v := .agg #[.int .i64 1, .int .i64 (a : Int), .int .i64 r]) (by simp [results, Try.results24, go_sem, s0, s1, s2]) rfl ?_
  exact ⟨rfl, (((HW.out.trans (hcall.mono HW.out.size)).setCell (p := ⟨w.heap.size, 0, none⟩) (Nat.le_refl _) _).setCell (p := ⟨w.heap.size, 1, none⟩) (Nat.le_refl _) _).setCell (p := ⟨w.heap.size, 2, none⟩) (Nat.le_refl _) _⟩

set_option maxHeartbeats 800000 in
theorem pzOf_2 (b c n a : Nat) (y : Int) (l : List Int) (w : World) (hl : l.length = n) (hn : 0 < n) (hn3 : n ≤ 3) (hy : 0 ≤ y ∧ y ≤ 10006) (ha : y % (n : Int) = (a : Int)) (han : a < n) (hd : Hdn l) (hbl : b < w.heap.size) (hI : Ints w b 0 l) :
    Calls Try.prog 24 #[.int .i64 2, .int .i64 y, .slice (some ⟨b, 0, none⟩) n c] w (Ret (.agg #[.int .i64 2, .int .i64 0, .int .i64 (valK 2 a l)]) w) := by
  have HW := Lib.hid ((Below.refl w.heap.size w).alloc (Nat.le_refl _) (.cells #[.int .i64 0, .int .i64 0, .int .i64 0] 27))
  have HV := Lib.hid (fun (W : World) (hb : Below w.heap.size w W) => pzValue_any b c n 0 2 l W hl (by omega) (by omega) hd (Nat.lt_of_lt_of_le hbl hb.size) (hI.kept hb hbl))
  rw [show valK 2 0 l = valK 2 a l from rfl] at HV
  have t0 : ¬ (n : Int) = 0 := by omega
  have t1 : ((n : Int) == 0) = false := beq_eq_false_iff_ne.2 t0
  have t2 : y.tmod (n : Int) = (a : Int) := by rw [Int.tmod_eq_emod_of_nonneg (by omega)]; exact ha
  have t3 : IntKind.i64.wrap (a : Int) = (a : Int) := IntWalk.i64_in _ (by omega)
  generalize valK 2 a l = r at HV ⊢
  clear hI hd ha
  go_enter Try.func24, Try.ntmps24
  go_wp2_with (first | (go_at_call 34; refine (HV.out _ HW.out).mono ?_; rintro e w' ⟨rfl, hcall⟩; have e0 := below_cell2 (a := w.heap.size) (b := 0) (x := .int .i64 0) hcall (by simp [go_sem]); have e1 := below_cell2 (a := w.heap.size) (b := 1) (x := .int .i64 0) hcall (by simp [go_sem]); have e2 := below_cell2 (a := w.heap.size) (b := 2) (x := .int .i64 0) hcall (by simp [go_sem]); have f0 := below_frz (g := w.heap.size) (o := 0) (f := false) hcall (by simp) (by simp [go_sem]); have f1 := below_frz (g := w.heap.size) (o := 1) (f := false) hcall (by simp) (by simp [go_sem]); have f2 := below_frz (g := w.heap.size) (o := 2) (f := false) hcall (by simp) (by simp [go_sem])))
  obtain ⟨s0, s1, s2⟩ := zero3 w' w.heap.size e0 e1 e2
  refine bodyPost_ret (v := .agg #[.int .i64 2, .int .i64 0, .int .i64 r]) (by simp [results, Try.results24, go_sem, s0, s1, s2]) rfl ?_
  exact ⟨rfl, (((HW.out.trans (hcall.mono HW.out.size)).setCell (p := ⟨w.heap.size, 0, none⟩) (Nat.le_refl _) _).setCell (p := ⟨w.heap.size, 1, none⟩) (Nat.le_refl _) _).setCell (p := ⟨w.heap.size, 2, none⟩) (Nat.le_refl _) _⟩

set_option maxHeartbeats 800000 in
theorem pzOf_3 (b c n a : Nat) (y : Int) (l : List Int) (w : World) (hl : l.length = n) (hn : 0 < n) (hn3 : n ≤ 3) (hy : 0 ≤ y ∧ y ≤ 10006) (ha : y % (n : Int) = (a : Int)) (han : a < n) (hd : Hdn l) (hbl : b < w.heap.size) (hI : Ints w b 0 l) :
    Calls Try.prog 24 #[.int .i64 3, .int .i64 y, .slice (some ⟨b, 0, none⟩) n c] w (Ret (.agg #[.int .i64 3, .int .i64 (a : Int), .int .i64 (valK 3 a l)]) w) := by
  have HW := Lib.hid ((Below.refl w.heap.size w).alloc (Nat.le_refl _) (.cells #[.int .i64 0, .int .i64 0, .int .i64 0] 27))
  have HV := Lib.hid (fun (W : World) (hb : Below w.heap.size w W) => pzValue_any b c n a 3 l W hl (by omega) (by omega) hd (Nat.lt_of_lt_of_le hbl hb.size) (hI.kept hb hbl))
  
  have t0 : ¬ (n : Int) = 0 := by omega
  have t1 : ((n : Int) == 0) = false := beq_eq_false_iff_ne.2 t0
  have t2 : y.tmod (n : Int) = (a : Int) := by rw [Int.tmod_eq_emod_of_nonneg (by omega)]; exact ha
  have t3 : IntKind.i64.wrap (a : Int) = (a : Int) := IntWalk.i64_in _ (by omega)
  generalize valK 3 a l = r at HV ⊢
  clear hI hd ha
  go_enter Try.func24, Try.ntmps24
  go_wp2_with (first | (go_at_call 34; refine (HV.out _ HW.out).mono ?_; rintro e w' ⟨rfl, hcall⟩; have e0 := below_cell2 (a := w.heap.size) (b := 0) (x := .int .i64 0) hcall (by simp [go_sem]); have e1 := below_cell2 (a := w.heap.size) (b := 1) (x := .int .i64 0) hcall (by simp [go_sem]); have e2 := below_cell2 (a := w.heap.size) (b := 2) (x := .int .i64 0) hcall (by simp [go_sem]); have f0 := below_frz (g := w.heap.size) (o := 0) (f := false) hcall (by simp) (by simp [go_sem]); have f1 := below_frz (g := w.heap.size) (o := 1) (f := false) hcall (by simp) (by simp [go_sem]); have f2 := below_frz (g := w.heap.size) (o := 2) (f := false) hcall (by simp) (by simp [go_sem])))
  obtain ⟨s0, s1, s2⟩ := zero3 w' w.heap.size e0 e1 e2
  refine bodyPost_ret (v := .agg #[.int .i64 3, .int .i64 (a : Int), .int .i64 r]) (by simp [results, Try.results24, go_sem, s0, s1, s2]) rfl ?_
  exact ⟨rfl, (((HW.out.trans (hcall.mono HW.out.size)).setCell (p := ⟨w.heap.size, 0, none⟩) (Nat.le_refl _) _).setCell (p := ⟨w.heap.size, 1, none⟩) (Nat.le_refl _) _).setCell (p := ⟨w.heap.size, 2, none⟩) (Nat.le_refl _) _⟩

set_option maxHeartbeats 800000 in
theorem pzOf_4 (b c n a : Nat) (y : Int) (l : List Int) (w : World) (hl : l.length = n) (hn : 0 < n) (hn3 : n ≤ 3) (hy : 0 ≤ y ∧ y ≤ 10006) (ha : y % (n : Int) = (a : Int)) (han : a < n) (hd : Hdn l) (hbl : b < w.heap.size) (hI : Ints w b 0 l) :
    Calls Try.prog 24 #[.int .i64 4, .int .i64 y, .slice (some ⟨b, 0, none⟩) n c] w (Ret (.agg #[.int .i64 4, .int .i64 0, .int .i64 (valK 4 a l)]) w) := by
  have HW := Lib.hid ((Below.refl w.heap.size w).alloc (Nat.le_refl _) (.cells #[.int .i64 0, .int .i64 0, .int .i64 0] 27))
  have HV := Lib.hid (fun (W : World) (hb : Below w.heap.size w W) => pzValue_any b c n 0 4 l W hl (by omega) (by omega) hd (Nat.lt_of_lt_of_le hbl hb.size) (hI.kept hb hbl))
  rw [show valK 4 0 l = valK 4 a l from rfl] at HV
  have t0 : ¬ (n : Int) = 0 := by omega
  have t1 : ((n : Int) == 0) = false := beq_eq_false_iff_ne.2 t0
  have t2 : y.tmod (n : Int) = (a : Int) := by rw [Int.tmod_eq_emod_of_nonneg (by omega)]; exact ha
  have t3 : IntKind.i64.wrap (a : Int) = (a : Int) := IntWalk.i64_in _ (by omega)
  generalize valK 4 a l = r at HV ⊢
  clear hI hd ha
  go_enter Try.func24, Try.ntmps24
  go_wp2_with (first | (go_at_call 34; refine (HV.out _ HW.out).mono ?_; rintro e w' ⟨rfl, hcall⟩; have e0 := below_cell2 (a := w.heap.size) (b := 0) (x := .int .i64 0) hcall (by simp [go_sem]); have e1 := below_cell2 (a := w.heap.size) (b := 1) (x := .int .i64 0) hcall (by simp [go_sem]); have e2 := below_cell2 (a := w.heap.size) (b := 2) (x := .int .i64 0) hcall (by simp [go_sem]); have f0 := below_frz (g := w.heap.size) (o := 0) (f := false) hcall (by simp) (by simp [go_sem]); have f1 := below_frz (g := w.heap.size) (o := 1) (f := false) hcall (by simp) (by simp [go_sem]); have f2 := below_frz (g := w.heap.size) (o := 2) (f := false) hcall (by simp) (by simp [go_sem])))
  obtain ⟨s0, s1, s2⟩ := zero3 w' w.heap.size e0 e1 e2
  refine bodyPost_ret (v := .agg #[.int .i64 4, .int .i64 0, .int .i64 r]) (by simp [results, Try.results24, go_sem, s0, s1, s2]) rfl ?_
  exact ⟨rfl, (((HW.out.trans (hcall.mono HW.out.size)).setCell (p := ⟨w.heap.size, 0, none⟩) (Nat.le_refl _) _).setCell (p := ⟨w.heap.size, 1, none⟩) (Nat.le_refl _) _).setCell (p := ⟨w.heap.size, 2, none⟩) (Nat.le_refl _) _⟩

set_option maxHeartbeats 800000 in
theorem pzOf_5 (b c n a : Nat) (y : Int) (l : List Int) (w : World) (hl : l.length = n) (hn : 0 < n) (hn3 : n ≤ 3) (hy : 0 ≤ y ∧ y ≤ 10006) (ha : y % (n : Int) = (a : Int)) (han : a < n) (hd : Hdn l) (hbl : b < w.heap.size) (hI : Ints w b 0 l) :
    Calls Try.prog 24 #[.int .i64 5, .int .i64 y, .slice (some ⟨b, 0, none⟩) n c] w (Ret (.agg #[.int .i64 5, .int .i64 (a : Int), .int .i64 (valK 5 a l)]) w) := by
  have HW := Lib.hid ((Below.refl w.heap.size w).alloc (Nat.le_refl _) (.cells #[.int .i64 0, .int .i64 0, .int .i64 0] 27))
  have HV := Lib.hid (fun (W : World) (hb : Below w.heap.size w W) => pzValue_any b c n a 5 l W hl (by omega) (by omega) hd (Nat.lt_of_lt_of_le hbl hb.size) (hI.kept hb hbl))
  
  have t0 : ¬ (n : Int) = 0 := by omega
  have t1 : ((n : Int) == 0) = false := beq_eq_false_iff_ne.2 t0
  have t2 : y.tmod (n : Int) = (a : Int) := by rw [Int.tmod_eq_emod_of_nonneg (by omega)]; exact ha
  have t3 : IntKind.i64.wrap (a : Int) = (a : Int) := IntWalk.i64_in _ (by omega)
  generalize valK 5 a l = r at HV ⊢
  clear hI hd ha
  go_enter Try.func24, Try.ntmps24
  go_wp2_with (first | (go_at_call 34; refine (HV.out _ HW.out).mono ?_; rintro e w' ⟨rfl, hcall⟩; have e0 := below_cell2 (a := w.heap.size) (b := 0) (x := .int .i64 0) hcall (by simp [go_sem]); have e1 := below_cell2 (a := w.heap.size) (b := 1) (x := .int .i64 0) hcall (by simp [go_sem]); have e2 := below_cell2 (a := w.heap.size) (b := 2) (x := .int .i64 0) hcall (by simp [go_sem]); have f0 := below_frz (g := w.heap.size) (o := 0) (f := false) hcall (by simp) (by simp [go_sem]); have f1 := below_frz (g := w.heap.size) (o := 1) (f := false) hcall (by simp) (by simp [go_sem]); have f2 := below_frz (g := w.heap.size) (o := 2) (f := false) hcall (by simp) (by simp [go_sem])))
  obtain ⟨s0, s1, s2⟩ := zero3 w' w.heap.size e0 e1 e2
  refine bodyPost_ret (v := .agg #[.int .i64 5, .int .i64 (a : Int), .int .i64 r]) (by simp [results, Try.results24, go_sem, s0, s1, s2]) rfl ?_
  exact ⟨rfl, (((HW.out.trans (hcall.mono HW.out.size)).setCell (p := ⟨w.heap.size, 0, none⟩) (Nat.le_refl _) _).setCell (p := ⟨w.heap.size, 1, none⟩) (Nat.le_refl _) _).setCell (p := ⟨w.heap.size, 2, none⟩) (Nat.le_refl _) _⟩

theorem pzOf_any (b c n a : Nat) (k y : Int) (l : List Int) (w : World) (hl : l.length = n) (hn : 0 < n) (hn3 : n ≤ 3) (hk : 0 ≤ k ∧ k ≤ 5) (hy : 0 ≤ y ∧ y ≤ 10006) (ha : y % (n : Int) = (a : Int)) (han : a < n) (hd : Hdn l) (hbl : b < w.heap.size) (hI : Ints w b 0 l) :
    Calls Try.prog 24 #[.int .i64 k, .int .i64 y, .slice (some ⟨b, 0, none⟩) n c] w (Ret (.agg #[.int .i64 k, .int .i64 (whoK k a), .int .i64 (valK k a l)]) w) := by
  have hc : k = 0 ∨ k = 1 ∨ k = 2 ∨ k = 3 ∨ k = 4 ∨ k = 5 := by omega
  rcases hc with rfl | rfl | rfl | rfl | rfl | rfl

  · exact pzOf_0 b c n a y l w hl hn hn3 hy ha han hd hbl hI
  · exact pzOf_1 b c n a y l w hl hn hn3 hy ha han hd hbl hI
  · exact pzOf_2 b c n a y l w hl hn hn3 hy ha han hd hbl hI
  · exact pzOf_3 b c n a y l w hl hn hn3 hy ha han hd hbl hI
  · exact pzOf_4 b c n a y l w hl hn hn3 hy ha han hd hbl hI
  · exact pzOf_5 b c n a y l w hl hn hn3 hy ha han hd hbl hI
def mkOk (l : List Int) (x s : Int) : Bool := hdB l && (inB x 0 6 && inB s 0 9999)
def mkP (l : List Int) (x s : Int) : Int := if mkOk l x s = true then (l.length : Int) else 0
def mkL (l : List Int) (x s : Int) : List Kn := if mkOk l x s = true then (mkTo l s x.toNat).2 else []

set_option maxHeartbeats 800000 in
theorem imMake_no (l : List Int) (b n c : Nat) (x s : Int) (w : World) (hl : l.length = n) (hn : n ≤ 1048576) (hbl : b < w.heap.size) (hI : Ints w b 0 l) (h : hdB l = false) : Calls Try.prog 11 #[.slice (some ⟨b, 0, none⟩) n c, .int .i64 x, .int .i64 s] w (RetPB 0 [] false w) := by
  have HW := Lib.hid ((Below.refl w.heap.size w).alloc (Nat.le_refl _) (.cells #[.int .i64 0, .slice none 0 0] 34))
  have HH := Lib.hid (fun (W : World) (hb : Below w.heap.size w W) => areHidden_any b n c l W hl hn (Nat.lt_of_lt_of_le hbl hb.size) (hI.kept hb hbl))
  rw [h] at HH
  clear hI h hl
  go_enter Try.func11, Try.ntmps11
  go_wp2_with (first | (go_at_call 19; refine (HH.out _ HW.out).mono ?_; rintro e w1 ⟨rfl, hb1⟩; have hb1' := HW.out.trans (hb1.mono HW.out.size); have r0 : w1.cell? ⟨w.heap.size, 0, none⟩ = some (.int .i64 0) := below_cell2 hb1 (by simp [go_sem]); have r1 : w1.cell? ⟨w.heap.size, 1, none⟩ = some (.slice none 0 0) := below_cell2 hb1 (by simp [go_sem]); have z0 : w1.frozen? ⟨w.heap.size, 0, none⟩ = false := below_frz hb1 (by simp) (by simp [go_sem]); have z1 : w1.frozen? ⟨w.heap.size, 1, none⟩ = false := below_frz hb1 (by simp) (by simp [go_sem])))
  obtain ⟨s0, s1⟩ := two_cells r0 r1
  refine bodyPost_ret (v := .tuple #[.agg #[.int .i64 0, .slice none 0 0], .bool false]) (by simp [results, Try.results11, go_sem, s0, s1]) rfl ?_
  exact ⟨_, rfl, ownK_nil _ _, (hb1'.setCell (p := ⟨w.heap.size, 0, none⟩) (Nat.le_refl _) _).setCell (p := ⟨w.heap.size, 1, none⟩) (Nat.le_refl _) _⟩

set_option maxHeartbeats 800000 in
theorem imMake_x (l : List Int) (b n c : Nat) (x s : Int) (w : World) (hl : l.length = n) (hn : n ≤ 1048576) (hbl : b < w.heap.size) (hI : Ints w b 0 l) (h : hdB l = true) (hx : inB x 0 6 = false) : Calls Try.prog 11 #[.slice (some ⟨b, 0, none⟩) n c, .int .i64 x, .int .i64 s] w (RetPB 0 [] false w) := by
  have HW := Lib.hid ((Below.refl w.heap.size w).alloc (Nat.le_refl _) (.cells #[.int .i64 0, .slice none 0 0] 34))
  have HH := Lib.hid (fun (W : World) (hb : Below w.heap.size w W) => areHidden_any b n c l W hl hn (Nat.lt_of_lt_of_le hbl hb.size) (hI.kept hb hbl))
  rw [h] at HH
  have HX := Lib.hid (fun W => isWithin_any x 0 6 W)
  rw [hx] at HX
  clear hx
  clear hI h hl
  go_enter Try.func11, Try.ntmps11
  go_wp2_with (first | (go_at_call 19; refine (HH.out _ HW.out).mono ?_; rintro e w1 ⟨rfl, hb1⟩; have hb1' := HW.out.trans (hb1.mono HW.out.size); have r0 : w1.cell? ⟨w.heap.size, 0, none⟩ = some (.int .i64 0) := below_cell2 hb1 (by simp [go_sem]); have r1 : w1.cell? ⟨w.heap.size, 1, none⟩ = some (.slice none 0 0) := below_cell2 hb1 (by simp [go_sem]); have z0 : w1.frozen? ⟨w.heap.size, 0, none⟩ = false := below_frz hb1 (by simp) (by simp [go_sem]); have z1 : w1.frozen? ⟨w.heap.size, 1, none⟩ = false := below_frz hb1 (by simp) (by simp [go_sem])) | (go_at_call_of 25 (Value.int IntKind.i64 6); refine (HX.out _).mono ?_; rintro e w' ⟨rfl, rfl⟩))
  obtain ⟨s0, s1⟩ := two_cells r0 r1
  refine bodyPost_ret (v := .tuple #[.agg #[.int .i64 0, .slice none 0 0], .bool false]) (by simp [results, Try.results11, go_sem, s0, s1]) rfl ?_
  exact ⟨_, rfl, ownK_nil _ _, (hb1'.setCell (p := ⟨w.heap.size, 0, none⟩) (Nat.le_refl _) _).setCell (p := ⟨w.heap.size, 1, none⟩) (Nat.le_refl _) _⟩

set_option maxHeartbeats 800000 in
theorem imMake_s (l : List Int) (b n c : Nat) (x s : Int) (w : World) (hl : l.length = n) (hn : n ≤ 1048576) (hbl : b < w.heap.size) (hI : Ints w b 0 l) (h : hdB l = true) (hx : inB x 0 6 = true) (hs : inB s 0 9999 = false) : Calls Try.prog 11 #[.slice (some ⟨b, 0, none⟩) n c, .int .i64 x, .int .i64 s] w (RetPB 0 [] false w) := by
  have HW := Lib.hid ((Below.refl w.heap.size w).alloc (Nat.le_refl _) (.cells #[.int .i64 0, .slice none 0 0] 34))
  have HH := Lib.hid (fun (W : World) (hb : Below w.heap.size w W) => areHidden_any b n c l W hl hn (Nat.lt_of_lt_of_le hbl hb.size) (hI.kept hb hbl))
  rw [h] at HH
  have HX := Lib.hid (fun W => isWithin_any x 0 6 W)
  rw [hx] at HX
  clear hx
  have HY := Lib.hid (fun W => isWithin_any s 0 9999 W)
  rw [hs] at HY
  clear hs
  clear hI h hl
  go_enter Try.func11, Try.ntmps11
  go_wp2_with (first | (go_at_call 19; refine (HH.out _ HW.out).mono ?_; rintro e w1 ⟨rfl, hb1⟩; have hb1' := HW.out.trans (hb1.mono HW.out.size); have r0 : w1.cell? ⟨w.heap.size, 0, none⟩ = some (.int .i64 0) := below_cell2 hb1 (by simp [go_sem]); have r1 : w1.cell? ⟨w.heap.size, 1, none⟩ = some (.slice none 0 0) := below_cell2 hb1 (by simp [go_sem]); have z0 : w1.frozen? ⟨w.heap.size, 0, none⟩ = false := below_frz hb1 (by simp) (by simp [go_sem]); have z1 : w1.frozen? ⟨w.heap.size, 1, none⟩ = false := below_frz hb1 (by simp) (by simp [go_sem])) | (go_at_call_of 25 (Value.int IntKind.i64 6); refine (HX.out _).mono ?_; rintro e w' ⟨rfl, rfl⟩) | (go_at_call_of 25 (Value.int IntKind.i64 9999); refine (HY.out _).mono ?_; rintro e w' ⟨rfl, rfl⟩))
  obtain ⟨s0, s1⟩ := two_cells r0 r1
  refine bodyPost_ret (v := .tuple #[.agg #[.int .i64 0, .slice none 0 0], .bool false]) (by simp [results, Try.results11, go_sem, s0, s1]) rfl ?_
  exact ⟨_, rfl, ownK_nil _ _, (hb1'.setCell (p := ⟨w.heap.size, 0, none⟩) (Nat.le_refl _) _).setCell (p := ⟨w.heap.size, 1, none⟩) (Nat.le_refl _) _⟩

set_option maxHeartbeats 1600000 in
set_option maxRecDepth 100000 in
theorem imMake_yes (l : List Int) (b n c m : Nat) (s : Int) (w : World) (hl : l.length = n) (hn : n ≤ 1048576) (hm : m ≤ 6) (hs : 0 ≤ s ∧ s ≤ 9999) (hbl : b < w.heap.size) (hI : Ints w b 0 l) (h : hdB l = true) : Calls Try.prog 11 #[.slice (some ⟨b, 0, none⟩) n c, .int .i64 (m : Int), .int .i64 s] w (RetPB (n : Int) (mkTo l s m).2 true w) := by
  obtain ⟨i0, hi, hz0, hz1, hz2⟩ := info_parts infoClue
  have hd := hdB_hdn h
  have hn3 : n = 2 ∨ n = 3 := by have := hd.1; omega
  have HW := Lib.hid ((Below.refl w.heap.size w).alloc (Nat.le_refl _) (.cells #[.int .i64 0, .slice none 0 0] 34))
  have HH := Lib.hid (fun (W : World) (hb : Below w.heap.size w W) => areHidden_any b n c l W hl hn (Nat.lt_of_lt_of_le hbl hb.size) (hI.kept hb hbl))
  rw [h] at HH
  have HX := Lib.hid (fun W => isWithin_any (m : Int) 0 6 W)
  rw [show inB (m : Int) 0 6 = true from inB_true (by omega) (by omega)] at HX
  have HY := Lib.hid (fun W => isWithin_any s 0 9999 W)
  rw [show inB s 0 9999 = true from inB_true (by omega) (by omega)] at HY
  have HB := Lib.hid (fun k => mkTo_bd l s hs k)
  have HL := Lib.hid (fun k => mkTo_len l s k)
  have HN := Lib.hid (fun k => (show mkTo l s (k + 1) = (nxt (nxt (mkTo l s k).1), (mkTo l s k).2 ++ [(nxt (mkTo l s k).1 % 6, whoK (nxt (mkTo l s k).1 % 6) (nxt (nxt (mkTo l s k).1) % (n : Int)).toNat, valK (nxt (mkTo l s k).1 % 6) (nxt (nxt (mkTo l s k).1) % (n : Int)).toNat l)]) by subst hl; rfl))
  have HC := Lib.hid (fun (W : World) (kd : Int) (z : Int) (a : Nat) (hk : 0 ≤ kd ∧ kd ≤ 5) (hz : 0 ≤ z ∧ z ≤ 10006) (ha : z % (n : Int) = (a : Int)) (han : a < n) (hb : Below w.heap.size w W) => clueOf_any b c n a kd l W hl hk han hd (Nat.lt_of_lt_of_le hbl hb.size) (hI.kept hb hbl))
  clear hd
  clear hI h hl
  go_enter Try.func11, Try.ntmps11
  go_wp2_with (first | (go_at_call 19; refine (HH.out _ HW.out).mono ?_; rintro e w1 ⟨rfl, hb1⟩; have hb1' := HW.out.trans (hb1.mono HW.out.size); have r0 : w1.cell? ⟨w.heap.size, 0, none⟩ = some (.int .i64 0) := below_cell2 hb1 (by simp [go_sem]); have r1 : w1.cell? ⟨w.heap.size, 1, none⟩ = some (.slice none 0 0) := below_cell2 hb1 (by simp [go_sem]); have z0 : w1.frozen? ⟨w.heap.size, 0, none⟩ = false := below_frz hb1 (by simp) (by simp [go_sem]); have z1 : w1.frozen? ⟨w.heap.size, 1, none⟩ = false := below_frz hb1 (by simp) (by simp [go_sem])) | (go_at_call_of 25 (Value.int IntKind.i64 6); refine (HX.out _).mono ?_; rintro e w' ⟨rfl, rfl⟩) | (go_at_call_of 25 (Value.int IntKind.i64 9999); refine (HY.out _).mono ?_; rintro e w' ⟨rfl, rfl⟩))
  have hw1 : w.heap.size < w1.heap.size := World.block_lt_of_cell? _ ⟨w.heap.size, 0, none⟩ r0
  have hbx := hb1'.alloc (by omega) (.cells #[.int .i64 (n : Int), .slice none 0 0] 34)
  have x0 : (w1.alloc (.cells #[.int .i64 (n : Int), .slice none 0 0] 34)).cell? ⟨w1.heap.size, 0, none⟩ = some (.int .i64 (n : Int)) := by simp [go_sem]
  have x1 : (w1.alloc (.cells #[.int .i64 (n : Int), .slice none 0 0] 34)).cell? ⟨w1.heap.size, 1, none⟩ = some (.slice none 0 0) := by simp [go_sem]
  have y1 : (w1.alloc (.cells #[.int .i64 (n : Int), .slice none 0 0] 34)).frozen? ⟨w1.heap.size, 1, none⟩ = false := by simp [go_sem]
  have hba : Below w1.heap.size w1 (w1.alloc (.cells #[.int .i64 (n : Int), .slice none 0 0] 34)) := (Below.refl _ _).alloc (Nat.le_refl _) _
  replace r0 := below_cell2 hba r0
  replace r1 := below_cell2 hba r1
  replace z0 := below_frz hba hw1 z0
  replace z1 := below_frz hba hw1 z1

  go_loopw [9, 30] (fun z q wr => ∃ (k : Nat) (va : Option Addr) (vn vc : Nat), k ≤ m ∧ z = .int .i64 (mkTo l s k).1 ∧ q = .int .i64 (k : Int) ∧ Hid (OwnK (w1.heap.size + 1) wr (.slice va vn vc) (mkTo l s k).2) ∧ Below w.heap.size w wr ∧ wr.cell? ⟨w1.heap.size, 0, none⟩ = some (.int .i64 (n : Int)) ∧ wr.cell? ⟨w1.heap.size, 1, none⟩ = some (.slice va vn vc) ∧ wr.frozen? ⟨w1.heap.size, 1, none⟩ = false ∧ wr.cell? ⟨w.heap.size, 0, none⟩ = some (.int .i64 0) ∧ wr.cell? ⟨w.heap.size, 1, none⟩ = some (.slice none 0 0) ∧ wr.frozen? ⟨w.heap.size, 0, none⟩ = false ∧ wr.frozen? ⟨w.heap.size, 1, none⟩ = false) (fun _ q _ => m - (intOf q).toNat)
  case atStart => exact ⟨0, none, 0, 0, Nat.zero_le _, rfl, rfl, Lib.hid (ownK_nil _ _), hbx, x0, x1, y1, r0, r1, z0, z1⟩
  case round =>
    obtain ⟨k, va, vn, vc, hk, rfl, rfl, HO, hb, c0, c1, c2, c3, c4, c5, c6⟩ := hrel
    have hsz := hb.size
    have hgw : w1.heap.size < wr.heap.size := World.block_lt_of_cell? _ ⟨w1.heap.size, 0, none⟩ c0
    by_cases hlt : k < m
    · have HNk := Lib.hid (HN.out k)
      have hln := HL.out k
      have hzb := HB.out k
      obtain ⟨a, ha⟩ : ∃ a : Nat, (nxt (nxt (mkTo l s k).1) % (n : Int)) = (a : Int) := ⟨(nxt (nxt (mkTo l s k).1) % (n : Int)).toNat, (Int.toNat_of_nonneg (Int.emod_nonneg _ (by omega))).symm⟩
      have han : a < n := by have := Int.emod_lt_of_pos (nxt (nxt (mkTo l s k).1)) (show (0 : Int) < (n : Int) by omega); omega
      have h1 := nxt_bd (mkTo l s k).1
      have h2 := nxt_bd (nxt (mkTo l s k).1)
      have HS1 := Lib.hid (fun W => seedAfter_any (mkTo l s k).1 W hzb)
      have HS2 := Lib.hid (fun W => seedAfter_any (nxt (mkTo l s k).1) W h1)
      have HCk := Lib.hid (fun (W : World) hb => HC.out W (nxt (mkTo l s k).1 % 6) (nxt (nxt (mkTo l s k).1)) a (by omega) h2 ha han hb)
      rw [ha, Int.toNat_natCast] at HNk
      generalize (mkTo l s k).2 = L at HNk hln HO
      generalize (mkTo l s k).1 = zz at HNk HS1 HS2 HCk ha h1 h2 ⊢
      generalize nxt (nxt zz) = z2 at HNk HS2 HCk ha h2
      generalize nxt zz = z1' at HNk HS1 HS2 HCk h1
      obtain ⟨kd, hkd⟩ : ∃ kd, z1' % 6 = kd := ⟨_, rfl⟩
      rw [hkd] at HNk HCk
      generalize whoK kd a = wv at HNk HCk
      generalize valK kd a l = vv at HNk HCk
      have HB0 := Lib.hid hb
      have t1 : z1'.tmod 6 = kd := by rw [Int.tmod_eq_emod_of_nonneg (by omega)]; exact hkd
      have t2 : IntKind.i64.wrap kd = kd := IntWalk.i64_in _ (by omega)
      have t3 : z2.tmod (n : Int) = (a : Int) := by rw [Int.tmod_eq_emod_of_nonneg (by omega)]; exact ha
      have t4 : IntKind.i64.wrap (a : Int) = (a : Int) := IntWalk.i64_in _ (by omega)
      have t5 : ¬ (n : Int) = 0 := by omega
      have t5n : ¬ n = 0 := by omega
      have t6 : ((n : Int) == 0) = false := beq_eq_false_iff_ne.2 t5
      have t7 : (k : Int) < (m : Int) := by omega
      have t8 : (0 : Int) < (m : Int) - (k : Int) := by omega
      have t9 : IntKind.i64.wrap ((m : Int) - (k : Int) - 1) = (m : Int) - (k : Int) - 1 := IntWalk.i64_in _ (by omega)
      clear hkd ha HN HL HB HC
      go_upto_region 10 with (first | (go_at_call_of 26 (Value.int IntKind.i64 zz); refine (HS1.out _).mono ?_; rintro e w' ⟨rfl, rfl⟩) | (go_at_call_of 26 (Value.int IntKind.i64 z1'); refine (HS2.out _).mono ?_; rintro e w' ⟨rfl, rfl⟩))
      refine wp_region_any (by kernel_rfl) ?_
      change wpAny _ _ _ _ _ _ _ (World.drew _)
      refine wpAny_take (i := 0) (v := ?_) rfl (by kernel_rfl) (by kernel_rfl) (by kernel_rfl) (fun _ _ _ h => h) (Or.inl ⟨by rfl, ?_⟩) ?_
      rotate_left
      · intro w; go_simp; first | done | with_reducible rfl
      refine wpAny_take (i := 2) (v := ?_) rfl (by kernel_rfl) (by kernel_rfl) (by kernel_rfl) (fun _ _ _ h => h) (Or.inl ⟨by rfl, ?_⟩) ?_
      rotate_left
      · intro w; go_simp; first | done | with_reducible rfl
      refine wpAny_take (i := 3) (v := ?_) rfl (by kernel_rfl) (by kernel_rfl) (by kernel_rfl) (fun _ _ _ h => h) (Or.inl ⟨by rfl, ?_⟩) ?_
      rotate_left
      · intro w; go_simp; first | done | with_reducible rfl
      refine wpAny_take (i := 4) (v := ?_) rfl (by kernel_rfl) (by kernel_rfl) (by kernel_rfl) (fun _ _ _ h => h) (Or.inl ⟨by rfl, ?_⟩) ?_
      rotate_left
      · intro w; go_simp; first | done | with_reducible rfl
      refine wpAny_take (i := 5) (v := ?_) rfl (by kernel_rfl) (by kernel_rfl) (by kernel_rfl) (fun _ _ _ h => h) (Or.inl ⟨by rfl, ?_⟩) ?_
      rotate_left
      · intro w; go_simp; first | done | with_reducible rfl
      refine wpAny_take (i := 6) (v := ?_) rfl (by kernel_rfl) (by kernel_rfl) (by kernel_rfl) (fun _ _ _ h => h) (Or.inl ⟨by rfl, ?_⟩) ?_
      rotate_left
      · intro w; go_simp; first | done | with_reducible rfl
      refine wpAny_take (i := 7) (v := ?_) rfl (by kernel_rfl) (by kernel_rfl) (by kernel_rfl) (fun _ _ _ h => h) (Or.inl ⟨by rfl, ?_⟩) ?_
      rotate_left
      · intro w; go_simp; first | done | with_reducible rfl
      refine wpAny_ready (rs := [1, 8]) (by kernel_rfl) (by simp) ?_
      refine AllReady.cons rfl (fun K hK => ?_) (AllReady.cons rfl (fun K hK => ?_) AllReady.nil)
      · go_simp
        refine hK _ _ ?_
        clear hK K
        refine wpAny_ready (rs := [8]) (by kernel_rfl) (by simp) ?_
        refine AllReady.cons rfl (fun K hK => ?_) AllReady.nil
        go_simp
        go_wp2_with (go_at_call 27; refine (HCk.out _ ?_).mono ?_; exact HB0.out.drew; rintro e w2 ⟨rfl, hcall⟩)
        have hbw : Below wr.heap.size wr w2 := (Below.refl _ _).drew.trans hcall
        clear hcall
        have hb2 := HB0.out.trans (hbw.mono hsz)
        have hsz2 := hbw.size
        have d0 := below_cell2 hbw c0
        have d1 := below_cell2 hbw c1
        have d2 := below_frz hbw hgw c2
        have d3 := below_cell2 hbw c3
        have d4 := below_cell2 hbw c4
        have d5 := below_frz hbw (by omega) c5
        have d6 := below_frz hbw (by omega) c6
        have HO2 := Lib.hid (HO.out.kept hbw)
        have x1 := cell_above d1 (.cells #[.int .i64 kd, .int .i64 wv, .int .i64 vv] 27)
        refine wpAny_ready (rs := [9]) (by kernel_rfl) (by simp) ?_
        refine AllReady.cons rfl (fun K hK => ?_) AllReady.nil
        go_simp
        refine hK _ _ ?_
        clear hK K
        refine wpAny_ready (rs := [10]) (by kernel_rfl) (by simp) ?_
        refine AllReady.cons rfl (fun K hK => ?_) AllReady.nil
        refine step_append_mine (by rfl) _ _ 32 (by rfl) (w1.heap.size + 1) 27 i0 _ 3 24 Try.underlying32 hi hz0 hz1 hz2 rfl (by decide) (.slice va vn vc) _ _ (by rfl) (World.ownsRow.alloc HO2.out _) ⟨w2.heap.size, 0, none⟩ 1 1 [.int .i64 kd, .int .i64 wv, .int .i64 vv] (by rfl) rfl (newThreeAt w2 _ _ _ _ _ rfl) (three_intsM _ _ _) (by unfold maxLen; omega) (by omega) (by simp; omega) ?_
        intro v' w3 hown' hgrow
        have hkb := Lib.hid (((Below.refl (w1.heap.size + 1) w2).alloc (by omega) (.cells #[.int .i64 kd, .int .i64 wv, .int .i64 vv] 27)).grown hgrow (by simp; omega) (fun q hq => (World.ownsRow.lt HO2.out q hq).1))
        have ho3 : OwnK (w1.heap.size + 1) w3 v' (L ++ [(kd, wv, vv)]) := by
          unfold OwnK
          rw [List.length_append, flatK_append]
          simpa [flatK] using hown'
        obtain ⟨sa, sn, sc, rfl⟩ := ownK_slice ho3
        have hb3 := hb2.trans (hkb.out.mono (by omega))
        have g0 := (hkb.out.cell (p := ⟨w1.heap.size, 0, none⟩) (by show w1.heap.size < w1.heap.size + 1; omega)).trans d0
        have g1 := (hkb.out.cell (p := ⟨w1.heap.size, 1, none⟩) (by show w1.heap.size < w1.heap.size + 1; omega)).trans d1
        have g3 := (hkb.out.cell (p := ⟨w.heap.size, 0, none⟩) (by show w.heap.size < w1.heap.size + 1; omega)).trans d3
        have g4 := (hkb.out.cell (p := ⟨w.heap.size, 1, none⟩) (by show w.heap.size < w1.heap.size + 1; omega)).trans d4
        have g2 := frz_low hkb.out (g := w1.heap.size) (o := 1) (by omega) d2
        have g5 := frz_low hkb.out (g := w.heap.size) (o := 0) (by omega) d5
        have g6 := frz_low hkb.out (g := w.heap.size) (o := 1) (by omega) d6
        clear hown' hgrow hkb
        refine hK _ _ ?_
        clear hK K
        refine wpAny_ready (rs := [11]) (by kernel_rfl) (by simp) ?_
        refine AllReady.cons rfl (fun K hK => ?_) AllReady.nil
        go_simp
        refine hK _ _ ?_
        clear hK K
        refine wpAny_ready (rs := [12]) (by kernel_rfl) (by simp) ?_
        refine AllReady.cons rfl (fun K hK => ?_) AllReady.nil
        go_simp
        refine hK _ _ ?_
        clear hK K
        refine wpAny_done (by kernel_rfl) ?_ _
        go_wp2_with fail
        go_roundw
        case rel => exact ⟨k + 1, sa, sn, sc, by omega, by rw [HNk.out], by go_num, Lib.hid (by rw [HNk.out]; exact own_under1K (v1 := .slice sa sn sc) ho3 (by omega)), hb3.setCell (p := ⟨w1.heap.size, 1, none⟩) (by show w.heap.size ≤ w1.heap.size; omega) _, (World.cell?_setCell_other _ _ _ _ (by first | (simp; done) | (simp; omega))).trans g0, World.cell?_setCell_same _ _ _ g1, by simpa [go_sem] using g2, (World.cell?_setCell_other _ _ _ _ (by first | (simp; done) | (simp; omega))).trans g3, (World.cell?_setCell_other _ _ _ _ (by first | (simp; done) | (simp; omega))).trans g4, by simpa [go_sem] using g5, by simpa [go_sem] using g6⟩
        case measure => simp [intOf]; omega
      · go_simp
        go_wp2_with (go_at_call 27; refine (HCk.out _ ?_).mono ?_; exact HB0.out.drew; rintro e w2 ⟨rfl, hcall⟩)
        have hbw : Below wr.heap.size wr w2 := (Below.refl _ _).drew.trans hcall
        clear hcall
        have hb2 := HB0.out.trans (hbw.mono hsz)
        have hsz2 := hbw.size
        have d0 := below_cell2 hbw c0
        have d1 := below_cell2 hbw c1
        have d2 := below_frz hbw hgw c2
        have d3 := below_cell2 hbw c3
        have d4 := below_cell2 hbw c4
        have d5 := below_frz hbw (by omega) c5
        have d6 := below_frz hbw (by omega) c6
        have HO2 := Lib.hid (HO.out.kept hbw)
        have x1 := cell_above d1 (.cells #[.int .i64 kd, .int .i64 wv, .int .i64 vv] 27)
        refine wpAny_ready (rs := [1, 9]) (by kernel_rfl) (by simp) ?_
        refine AllReady.cons rfl (fun K hK => ?_) (AllReady.cons rfl (fun K hK => ?_) AllReady.nil)
        all_goals
          go_simp
          refine hK _ _ ?_
          clear hK K
        rotate_left
        refine wpAny_ready (rs := [1]) (by kernel_rfl) (by simp) ?_
        refine AllReady.cons rfl (fun K hK => ?_) AllReady.nil
        go_simp
        refine hK _ _ ?_
        clear hK K
        refine wpAny_ready (rs := [10]) (by kernel_rfl) (by simp) ?_
        refine AllReady.cons rfl (fun K hK => ?_) AllReady.nil
        refine step_append_mine (by rfl) _ _ 32 (by rfl) (w1.heap.size + 1) 27 i0 _ 3 24 Try.underlying32 hi hz0 hz1 hz2 rfl (by decide) (.slice va vn vc) _ _ (by rfl) (World.ownsRow.alloc HO2.out _) ⟨w2.heap.size, 0, none⟩ 1 1 [.int .i64 kd, .int .i64 wv, .int .i64 vv] (by rfl) rfl (newThreeAt w2 _ _ _ _ _ rfl) (three_intsM _ _ _) (by unfold maxLen; omega) (by omega) (by simp; omega) ?_
        intro v' w3 hown' hgrow
        have hkb := Lib.hid (((Below.refl (w1.heap.size + 1) w2).alloc (by omega) (.cells #[.int .i64 kd, .int .i64 wv, .int .i64 vv] 27)).grown hgrow (by simp; omega) (fun q hq => (World.ownsRow.lt HO2.out q hq).1))
        have ho3 : OwnK (w1.heap.size + 1) w3 v' (L ++ [(kd, wv, vv)]) := by
          unfold OwnK
          rw [List.length_append, flatK_append]
          simpa [flatK] using hown'
        obtain ⟨sa, sn, sc, rfl⟩ := ownK_slice ho3
        have hb3 := hb2.trans (hkb.out.mono (by omega))
        have g0 := (hkb.out.cell (p := ⟨w1.heap.size, 0, none⟩) (by show w1.heap.size < w1.heap.size + 1; omega)).trans d0
        have g1 := (hkb.out.cell (p := ⟨w1.heap.size, 1, none⟩) (by show w1.heap.size < w1.heap.size + 1; omega)).trans d1
        have g3 := (hkb.out.cell (p := ⟨w.heap.size, 0, none⟩) (by show w.heap.size < w1.heap.size + 1; omega)).trans d3
        have g4 := (hkb.out.cell (p := ⟨w.heap.size, 1, none⟩) (by show w.heap.size < w1.heap.size + 1; omega)).trans d4
        have g2 := frz_low hkb.out (g := w1.heap.size) (o := 1) (by omega) d2
        have g5 := frz_low hkb.out (g := w.heap.size) (o := 0) (by omega) d5
        have g6 := frz_low hkb.out (g := w.heap.size) (o := 1) (by omega) d6
        clear hown' hgrow hkb
        refine hK _ _ ?_
        clear hK K
        refine wpAny_ready (rs := [11]) (by kernel_rfl) (by simp) ?_
        refine AllReady.cons rfl (fun K hK => ?_) AllReady.nil
        go_simp
        refine hK _ _ ?_
        clear hK K
        refine wpAny_ready (rs := [12]) (by kernel_rfl) (by simp) ?_
        refine AllReady.cons rfl (fun K hK => ?_) AllReady.nil
        go_simp
        refine hK _ _ ?_
        clear hK K
        refine wpAny_done (by kernel_rfl) ?_ _
        go_wp2_with fail
        go_roundw
        case rel => exact ⟨k + 1, sa, sn, sc, by omega, by rw [HNk.out], by go_num, Lib.hid (by rw [HNk.out]; exact own_under1K (v1 := .slice sa sn sc) ho3 (by omega)), hb3.setCell (p := ⟨w1.heap.size, 1, none⟩) (by show w.heap.size ≤ w1.heap.size; omega) _, (World.cell?_setCell_other _ _ _ _ (by first | (simp; done) | (simp; omega))).trans g0, World.cell?_setCell_same _ _ _ g1, by simpa [go_sem] using g2, (World.cell?_setCell_other _ _ _ _ (by first | (simp; done) | (simp; omega))).trans g3, (World.cell?_setCell_other _ _ _ _ (by first | (simp; done) | (simp; omega))).trans g4, by simpa [go_sem] using g5, by simpa [go_sem] using g6⟩
        case measure => simp [intOf]; omega
        refine wpAny_ready (rs := [9]) (by kernel_rfl) (by simp) ?_
        refine AllReady.cons rfl (fun K hK => ?_) AllReady.nil
        go_simp
        refine hK _ _ ?_
        clear hK K
        refine wpAny_ready (rs := [10]) (by kernel_rfl) (by simp) ?_
        refine AllReady.cons rfl (fun K hK => ?_) AllReady.nil
        refine step_append_mine (by rfl) _ _ 32 (by rfl) (w1.heap.size + 1) 27 i0 _ 3 24 Try.underlying32 hi hz0 hz1 hz2 rfl (by decide) (.slice va vn vc) _ _ (by rfl) (World.ownsRow.alloc HO2.out _) ⟨w2.heap.size, 0, none⟩ 1 1 [.int .i64 kd, .int .i64 wv, .int .i64 vv] (by rfl) rfl (newThreeAt w2 _ _ _ _ _ rfl) (three_intsM _ _ _) (by unfold maxLen; omega) (by omega) (by simp; omega) ?_
        intro v' w3 hown' hgrow
        have hkb := Lib.hid (((Below.refl (w1.heap.size + 1) w2).alloc (by omega) (.cells #[.int .i64 kd, .int .i64 wv, .int .i64 vv] 27)).grown hgrow (by simp; omega) (fun q hq => (World.ownsRow.lt HO2.out q hq).1))
        have ho3 : OwnK (w1.heap.size + 1) w3 v' (L ++ [(kd, wv, vv)]) := by
          unfold OwnK
          rw [List.length_append, flatK_append]
          simpa [flatK] using hown'
        obtain ⟨sa, sn, sc, rfl⟩ := ownK_slice ho3
        have hb3 := hb2.trans (hkb.out.mono (by omega))
        have g0 := (hkb.out.cell (p := ⟨w1.heap.size, 0, none⟩) (by show w1.heap.size < w1.heap.size + 1; omega)).trans d0
        have g1 := (hkb.out.cell (p := ⟨w1.heap.size, 1, none⟩) (by show w1.heap.size < w1.heap.size + 1; omega)).trans d1
        have g3 := (hkb.out.cell (p := ⟨w.heap.size, 0, none⟩) (by show w.heap.size < w1.heap.size + 1; omega)).trans d3
        have g4 := (hkb.out.cell (p := ⟨w.heap.size, 1, none⟩) (by show w.heap.size < w1.heap.size + 1; omega)).trans d4
        have g2 := frz_low hkb.out (g := w1.heap.size) (o := 1) (by omega) d2
        have g5 := frz_low hkb.out (g := w.heap.size) (o := 0) (by omega) d5
        have g6 := frz_low hkb.out (g := w.heap.size) (o := 1) (by omega) d6
        clear hown' hgrow hkb
        refine hK _ _ ?_
        clear hK K
        refine wpAny_ready (rs := [11]) (by kernel_rfl) (by simp) ?_
        refine AllReady.cons rfl (fun K hK => ?_) AllReady.nil
        go_simp
        refine hK _ _ ?_
        clear hK K
        refine wpAny_ready (rs := [12]) (by kernel_rfl) (by simp) ?_
        refine AllReady.cons rfl (fun K hK => ?_) AllReady.nil
        go_simp
        refine hK _ _ ?_
        clear hK K
        refine wpAny_done (by kernel_rfl) ?_ _
        go_wp2_with fail
        go_roundw
        case rel => exact ⟨k + 1, sa, sn, sc, by omega, by rw [HNk.out], by go_num, Lib.hid (by rw [HNk.out]; exact own_under1K (v1 := .slice sa sn sc) ho3 (by omega)), hb3.setCell (p := ⟨w1.heap.size, 1, none⟩) (by show w.heap.size ≤ w1.heap.size; omega) _, (World.cell?_setCell_other _ _ _ _ (by first | (simp; done) | (simp; omega))).trans g0, World.cell?_setCell_same _ _ _ g1, by simpa [go_sem] using g2, (World.cell?_setCell_other _ _ _ _ (by first | (simp; done) | (simp; omega))).trans g3, (World.cell?_setCell_other _ _ _ _ (by first | (simp; done) | (simp; omega))).trans g4, by simpa [go_sem] using g5, by simpa [go_sem] using g6⟩
        case measure => simp [intOf]; omega
    · have hkm : k = m := by omega
      subst hkm
      have t7 : ¬ (k : Int) < (k : Int) := by omega
      have t8 : ¬ (0 : Int) < (k : Int) - (k : Int) := by omega
      go_wp2_with fail
      obtain ⟨s0, s1⟩ := two_cells c3 c4
      have ho3 := own_under2K (v0 := .int .i64 (n : Int)) (v1 := .slice va vn vc) HO.out (g := w.heap.size) (by omega)
      refine bodyPost_ret (v := .tuple #[.agg #[.int .i64 (n : Int), .slice va vn vc], .bool true]) (by simp [results, Try.results11, go_sem, s0, s1]) rfl ?_
      exact ⟨_, rfl, ho3.mono (by omega), (hb.setCell (p := ⟨w.heap.size, 0, none⟩) (Nat.le_refl _) _).setCell (p := ⟨w.heap.size, 1, none⟩) (Nat.le_refl _) _⟩

theorem imMake_any (l : List Int) (b c : Nat) (x s : Int) (w : World) (hn : l.length ≤ 1048576) (hbl : b < w.heap.size) (hI : Ints w b 0 l) :
    Calls Try.prog 11 #[.slice (some ⟨b, 0, none⟩) l.length c, .int .i64 x, .int .i64 s] w (RetPB (mkP l x s) (mkL l x s) (mkOk l x s) w) := by
  cases h : mkOk l x s with
  | false =>
    rw [show mkP l x s = 0 by unfold mkP; rw [if_neg (by rw [h]; simp)], show mkL l x s = [] by unfold mkL; rw [if_neg (by rw [h]; simp)]]
    unfold mkOk at h
    cases h1 : hdB l with
    | false => exact imMake_no l b _ c x s w rfl hn hbl hI h1
    | true =>
      rw [h1, Bool.true_and] at h
      cases h2 : inB x 0 6 with
      | false => exact imMake_x l b _ c x s w rfl hn hbl hI h1 h2
      | true =>
        rw [h2, Bool.true_and] at h
        exact imMake_s l b _ c x s w rfl hn hbl hI h1 h2 h
  | true =>
    rw [show mkP l x s = (l.length : Int) by unfold mkP; rw [if_pos h], show mkL l x s = (mkTo l s x.toNat).2 by unfold mkL; rw [if_pos h]]
    unfold mkOk at h
    rw [Bool.and_eq_true, Bool.and_eq_true, inB_iff, inB_iff] at h
    have := imMake_yes l b _ c x.toNat s w rfl hn (by omega) (by omega) hbl hI h.1
    rwa [Int.toNat_of_nonneg h.2.1.1] at this

set_option maxHeartbeats 800000 in
theorem spMake_no (l : List Int) (b n c : Nat) (x s : Int) (w : World) (hl : l.length = n) (hn : n ≤ 1048576) (hbl : b < w.heap.size) (hI : Ints w b 0 l) (h : hdB l = false) : Calls Try.prog 10 #[.slice (some ⟨b, 0, none⟩) n c, .int .i64 x, .int .i64 s] w (RetPB 0 [] false w) := by
  have HW := Lib.hid ((Below.refl w.heap.size w).alloc (Nat.le_refl _) (.cells #[.int .i64 0, .slice none 0 0] 34))
  have HH := Lib.hid (fun (W : World) (hb : Below w.heap.size w W) => pzHidden_any b n c l W hl hn (Nat.lt_of_lt_of_le hbl hb.size) (hI.kept hb hbl))
  rw [h] at HH
  clear hI h hl
  go_enter Try.func10, Try.ntmps10
  go_wp2_with (first | (go_at_call 16; refine (HH.out _ HW.out).mono ?_; rintro e w1 ⟨rfl, hb1⟩; have hb1' := HW.out.trans (hb1.mono HW.out.size); have r0 : w1.cell? ⟨w.heap.size, 0, none⟩ = some (.int .i64 0) := below_cell2 hb1 (by simp [go_sem]); have r1 : w1.cell? ⟨w.heap.size, 1, none⟩ = some (.slice none 0 0) := below_cell2 hb1 (by simp [go_sem]); have z0 : w1.frozen? ⟨w.heap.size, 0, none⟩ = false := below_frz hb1 (by simp) (by simp [go_sem]); have z1 : w1.frozen? ⟨w.heap.size, 1, none⟩ = false := below_frz hb1 (by simp) (by simp [go_sem])))
  obtain ⟨s0, s1⟩ := two_cells r0 r1
  refine bodyPost_ret (v := .tuple #[.agg #[.int .i64 0, .slice none 0 0], .bool false]) (by simp [results, Try.results10, go_sem, s0, s1]) rfl ?_
  exact ⟨_, rfl, ownK_nil _ _, (hb1'.setCell (p := ⟨w.heap.size, 0, none⟩) (Nat.le_refl _) _).setCell (p := ⟨w.heap.size, 1, none⟩) (Nat.le_refl _) _⟩

set_option maxHeartbeats 800000 in
theorem spMake_x (l : List Int) (b n c : Nat) (x s : Int) (w : World) (hl : l.length = n) (hn : n ≤ 1048576) (hbl : b < w.heap.size) (hI : Ints w b 0 l) (h : hdB l = true) (hx : inB x 0 6 = false) : Calls Try.prog 10 #[.slice (some ⟨b, 0, none⟩) n c, .int .i64 x, .int .i64 s] w (RetPB 0 [] false w) := by
  have HW := Lib.hid ((Below.refl w.heap.size w).alloc (Nat.le_refl _) (.cells #[.int .i64 0, .slice none 0 0] 34))
  have HH := Lib.hid (fun (W : World) (hb : Below w.heap.size w W) => pzHidden_any b n c l W hl hn (Nat.lt_of_lt_of_le hbl hb.size) (hI.kept hb hbl))
  rw [h] at HH
  have HX := Lib.hid (fun W => l1In_any x 0 6 W)
  rw [hx] at HX
  clear hx
  clear hI h hl
  go_enter Try.func10, Try.ntmps10
  go_wp2_with (first | (go_at_call 16; refine (HH.out _ HW.out).mono ?_; rintro e w1 ⟨rfl, hb1⟩; have hb1' := HW.out.trans (hb1.mono HW.out.size); have r0 : w1.cell? ⟨w.heap.size, 0, none⟩ = some (.int .i64 0) := below_cell2 hb1 (by simp [go_sem]); have r1 : w1.cell? ⟨w.heap.size, 1, none⟩ = some (.slice none 0 0) := below_cell2 hb1 (by simp [go_sem]); have z0 : w1.frozen? ⟨w.heap.size, 0, none⟩ = false := below_frz hb1 (by simp) (by simp [go_sem]); have z1 : w1.frozen? ⟨w.heap.size, 1, none⟩ = false := below_frz hb1 (by simp) (by simp [go_sem])) | (go_at_call_of 22 (Value.int IntKind.i64 6); refine (HX.out _).mono ?_; rintro e w' ⟨rfl, rfl⟩))
  obtain ⟨s0, s1⟩ := two_cells r0 r1
  refine bodyPost_ret (v := .tuple #[.agg #[.int .i64 0, .slice none 0 0], .bool false]) (by simp [results, Try.results10, go_sem, s0, s1]) rfl ?_
  exact ⟨_, rfl, ownK_nil _ _, (hb1'.setCell (p := ⟨w.heap.size, 0, none⟩) (Nat.le_refl _) _).setCell (p := ⟨w.heap.size, 1, none⟩) (Nat.le_refl _) _⟩

set_option maxHeartbeats 800000 in
theorem spMake_s (l : List Int) (b n c : Nat) (x s : Int) (w : World) (hl : l.length = n) (hn : n ≤ 1048576) (hbl : b < w.heap.size) (hI : Ints w b 0 l) (h : hdB l = true) (hx : inB x 0 6 = true) (hs : inB s 0 9999 = false) : Calls Try.prog 10 #[.slice (some ⟨b, 0, none⟩) n c, .int .i64 x, .int .i64 s] w (RetPB 0 [] false w) := by
  have HW := Lib.hid ((Below.refl w.heap.size w).alloc (Nat.le_refl _) (.cells #[.int .i64 0, .slice none 0 0] 34))
  have HH := Lib.hid (fun (W : World) (hb : Below w.heap.size w W) => pzHidden_any b n c l W hl hn (Nat.lt_of_lt_of_le hbl hb.size) (hI.kept hb hbl))
  rw [h] at HH
  have HX := Lib.hid (fun W => l1In_any x 0 6 W)
  rw [hx] at HX
  clear hx
  have HY := Lib.hid (fun W => l1In_any s 0 9999 W)
  rw [hs] at HY
  clear hs
  clear hI h hl
  go_enter Try.func10, Try.ntmps10
  go_wp2_with (first | (go_at_call 16; refine (HH.out _ HW.out).mono ?_; rintro e w1 ⟨rfl, hb1⟩; have hb1' := HW.out.trans (hb1.mono HW.out.size); have r0 : w1.cell? ⟨w.heap.size, 0, none⟩ = some (.int .i64 0) := below_cell2 hb1 (by simp [go_sem]); have r1 : w1.cell? ⟨w.heap.size, 1, none⟩ = some (.slice none 0 0) := below_cell2 hb1 (by simp [go_sem]); have z0 : w1.frozen? ⟨w.heap.size, 0, none⟩ = false := below_frz hb1 (by simp) (by simp [go_sem]); have z1 : w1.frozen? ⟨w.heap.size, 1, none⟩ = false := below_frz hb1 (by simp) (by simp [go_sem])) | (go_at_call_of 22 (Value.int IntKind.i64 6); refine (HX.out _).mono ?_; rintro e w' ⟨rfl, rfl⟩) | (go_at_call_of 22 (Value.int IntKind.i64 9999); refine (HY.out _).mono ?_; rintro e w' ⟨rfl, rfl⟩))
  obtain ⟨s0, s1⟩ := two_cells r0 r1
  refine bodyPost_ret (v := .tuple #[.agg #[.int .i64 0, .slice none 0 0], .bool false]) (by simp [results, Try.results10, go_sem, s0, s1]) rfl ?_
  exact ⟨_, rfl, ownK_nil _ _, (hb1'.setCell (p := ⟨w.heap.size, 0, none⟩) (Nat.le_refl _) _).setCell (p := ⟨w.heap.size, 1, none⟩) (Nat.le_refl _) _⟩

set_option maxHeartbeats 1600000 in
set_option maxRecDepth 100000 in
theorem spMake_yes (l : List Int) (b n c m : Nat) (s : Int) (w : World) (hl : l.length = n) (hn : n ≤ 1048576) (hm : m ≤ 6) (hs : 0 ≤ s ∧ s ≤ 9999) (hbl : b < w.heap.size) (hI : Ints w b 0 l) (h : hdB l = true) : Calls Try.prog 10 #[.slice (some ⟨b, 0, none⟩) n c, .int .i64 (m : Int), .int .i64 s] w (RetPB (n : Int) (mkTo l s m).2 true w) := by
  obtain ⟨i0, hi, hz0, hz1, hz2⟩ := info_parts infoClue
  have hd := hdB_hdn h
  have hn3 : n = 2 ∨ n = 3 := by have := hd.1; omega
  have HW := Lib.hid ((Below.refl w.heap.size w).alloc (Nat.le_refl _) (.cells #[.int .i64 0, .slice none 0 0] 34))
  have HH := Lib.hid (fun (W : World) (hb : Below w.heap.size w W) => pzHidden_any b n c l W hl hn (Nat.lt_of_lt_of_le hbl hb.size) (hI.kept hb hbl))
  rw [h] at HH
  have HX := Lib.hid (fun W => l1In_any (m : Int) 0 6 W)
  rw [show inB (m : Int) 0 6 = true from inB_true (by omega) (by omega)] at HX
  have HY := Lib.hid (fun W => l1In_any s 0 9999 W)
  rw [show inB s 0 9999 = true from inB_true (by omega) (by omega)] at HY
  have HB := Lib.hid (fun k => mkTo_bd l s hs k)
  have HL := Lib.hid (fun k => mkTo_len l s k)
  have HN := Lib.hid (fun k => (show mkTo l s (k + 1) = (nxt (nxt (mkTo l s k).1), (mkTo l s k).2 ++ [(nxt (mkTo l s k).1 % 6, whoK (nxt (mkTo l s k).1 % 6) (nxt (nxt (mkTo l s k).1) % (n : Int)).toNat, valK (nxt (mkTo l s k).1 % 6) (nxt (nxt (mkTo l s k).1) % (n : Int)).toNat l)]) by subst hl; rfl))
  have HC := Lib.hid (fun (W : World) (kd : Int) (z : Int) (a : Nat) (hk : 0 ≤ kd ∧ kd ≤ 5) (hz : 0 ≤ z ∧ z ≤ 10006) (ha : z % (n : Int) = (a : Int)) (han : a < n) (hb : Below w.heap.size w W) => pzOf_any b c n a kd z l W hl (by omega) (by omega) hk hz ha han hd (Nat.lt_of_lt_of_le hbl hb.size) (hI.kept hb hbl))
  clear hd
  clear hI h hl
  go_enter Try.func10, Try.ntmps10
  go_wp2_with (first | (go_at_call 16; refine (HH.out _ HW.out).mono ?_; rintro e w1 ⟨rfl, hb1⟩; have hb1' := HW.out.trans (hb1.mono HW.out.size); have r0 : w1.cell? ⟨w.heap.size, 0, none⟩ = some (.int .i64 0) := below_cell2 hb1 (by simp [go_sem]); have r1 : w1.cell? ⟨w.heap.size, 1, none⟩ = some (.slice none 0 0) := below_cell2 hb1 (by simp [go_sem]); have z0 : w1.frozen? ⟨w.heap.size, 0, none⟩ = false := below_frz hb1 (by simp) (by simp [go_sem]); have z1 : w1.frozen? ⟨w.heap.size, 1, none⟩ = false := below_frz hb1 (by simp) (by simp [go_sem])) | (go_at_call_of 22 (Value.int IntKind.i64 6); refine (HX.out _).mono ?_; rintro e w' ⟨rfl, rfl⟩) | (go_at_call_of 22 (Value.int IntKind.i64 9999); refine (HY.out _).mono ?_; rintro e w' ⟨rfl, rfl⟩))
  have hw1 : w.heap.size < w1.heap.size := World.block_lt_of_cell? _ ⟨w.heap.size, 0, none⟩ r0
  have hbx := hb1'.alloc (by omega) (.cells #[.int .i64 (n : Int), .slice none 0 0] 34)
  have x0 : (w1.alloc (.cells #[.int .i64 (n : Int), .slice none 0 0] 34)).cell? ⟨w1.heap.size, 0, none⟩ = some (.int .i64 (n : Int)) := by simp [go_sem]
  have x1 : (w1.alloc (.cells #[.int .i64 (n : Int), .slice none 0 0] 34)).cell? ⟨w1.heap.size, 1, none⟩ = some (.slice none 0 0) := by simp [go_sem]
  have y1 : (w1.alloc (.cells #[.int .i64 (n : Int), .slice none 0 0] 34)).frozen? ⟨w1.heap.size, 1, none⟩ = false := by simp [go_sem]
  have hba : Below w1.heap.size w1 (w1.alloc (.cells #[.int .i64 (n : Int), .slice none 0 0] 34)) := (Below.refl _ _).alloc (Nat.le_refl _) _
  replace r0 := below_cell2 hba r0
  replace r1 := below_cell2 hba r1
  replace z0 := below_frz hba hw1 z0
  replace z1 := below_frz hba hw1 z1

  go_loopw [1, 9] (fun q z wr => ∃ (k : Nat) (va : Option Addr) (vn vc : Nat), k ≤ m ∧ z = .int .i64 (mkTo l s k).1 ∧ q = .int .i64 ((m : Int) - (k : Int)) ∧ Hid (OwnK (w1.heap.size + 1) wr (.slice va vn vc) (mkTo l s k).2) ∧ Below w.heap.size w wr ∧ wr.cell? ⟨w1.heap.size, 0, none⟩ = some (.int .i64 (n : Int)) ∧ wr.cell? ⟨w1.heap.size, 1, none⟩ = some (.slice va vn vc) ∧ wr.frozen? ⟨w1.heap.size, 1, none⟩ = false ∧ wr.cell? ⟨w.heap.size, 0, none⟩ = some (.int .i64 0) ∧ wr.cell? ⟨w.heap.size, 1, none⟩ = some (.slice none 0 0) ∧ wr.frozen? ⟨w.heap.size, 0, none⟩ = false ∧ wr.frozen? ⟨w.heap.size, 1, none⟩ = false) (fun q _ _ => (intOf q).toNat)
  case atStart => exact ⟨0, none, 0, 0, Nat.zero_le _, rfl, by simp, Lib.hid (ownK_nil _ _), hbx, x0, x1, y1, r0, r1, z0, z1⟩
  case round =>
    obtain ⟨k, va, vn, vc, hk, rfl, rfl, HO, hb, c0, c1, c2, c3, c4, c5, c6⟩ := hrel
    have hsz := hb.size
    have hgw : w1.heap.size < wr.heap.size := World.block_lt_of_cell? _ ⟨w1.heap.size, 0, none⟩ c0
    by_cases hlt : k < m
    · have HNk := Lib.hid (HN.out k)
      have hln := HL.out k
      have hzb := HB.out k
      obtain ⟨a, ha⟩ : ∃ a : Nat, (nxt (nxt (mkTo l s k).1) % (n : Int)) = (a : Int) := ⟨(nxt (nxt (mkTo l s k).1) % (n : Int)).toNat, (Int.toNat_of_nonneg (Int.emod_nonneg _ (by omega))).symm⟩
      have han : a < n := by have := Int.emod_lt_of_pos (nxt (nxt (mkTo l s k).1)) (show (0 : Int) < (n : Int) by omega); omega
      have h1 := nxt_bd (mkTo l s k).1
      have h2 := nxt_bd (nxt (mkTo l s k).1)
      have HS1 := Lib.hid (fun W => pzNext_any (mkTo l s k).1 W hzb)
      have HS2 := Lib.hid (fun W => pzNext_any (nxt (mkTo l s k).1) W h1)
      have HCk := Lib.hid (fun (W : World) hb => HC.out W (nxt (mkTo l s k).1 % 6) (nxt (nxt (mkTo l s k).1)) a (by omega) h2 ha han hb)
      rw [ha, Int.toNat_natCast] at HNk
      generalize (mkTo l s k).2 = L at HNk hln HO
      generalize (mkTo l s k).1 = zz at HNk HS1 HS2 HCk ha h1 h2 ⊢
      generalize nxt (nxt zz) = z2 at HNk HS2 HCk ha h2
      generalize nxt zz = z1' at HNk HS1 HS2 HCk h1
      obtain ⟨kd, hkd⟩ : ∃ kd, z1' % 6 = kd := ⟨_, rfl⟩
      rw [hkd] at HNk HCk
      generalize whoK kd a = wv at HNk HCk
      generalize valK kd a l = vv at HNk HCk
      have HB0 := Lib.hid hb
      have t1 : z1'.tmod 6 = kd := by rw [Int.tmod_eq_emod_of_nonneg (by omega)]; exact hkd
      have t2 : IntKind.i64.wrap kd = kd := IntWalk.i64_in _ (by omega)
      have t3 : z2.tmod (n : Int) = (a : Int) := by rw [Int.tmod_eq_emod_of_nonneg (by omega)]; exact ha
      have t4 : IntKind.i64.wrap (a : Int) = (a : Int) := IntWalk.i64_in _ (by omega)
      have t5 : ¬ (n : Int) = 0 := by omega
      have t5n : ¬ n = 0 := by omega
      have t6 : ((n : Int) == 0) = false := beq_eq_false_iff_ne.2 t5
      have t7 : (k : Int) < (m : Int) := by omega
      have t8 : (0 : Int) < (m : Int) - (k : Int) := by omega
      have t9 : IntKind.i64.wrap ((m : Int) - (k : Int) - 1) = (m : Int) - (k : Int) - 1 := IntWalk.i64_in _ (by omega)
      clear hkd ha HN HL HB HC
      go_upto_region 10 with (first | (go_at_call_of 23 (Value.int IntKind.i64 zz); refine (HS1.out _).mono ?_; rintro e w' ⟨rfl, rfl⟩) | (go_at_call_of 23 (Value.int IntKind.i64 z1'); refine (HS2.out _).mono ?_; rintro e w' ⟨rfl, rfl⟩))
      refine wp_region_any (by kernel_rfl) ?_
      change wpAny _ _ _ _ _ _ _ (World.drew _)
      refine wpAny_take (i := 0) (v := ?_) rfl (by kernel_rfl) (by kernel_rfl) (by kernel_rfl) (fun _ _ _ h => h) (Or.inl ⟨by rfl, ?_⟩) ?_
      rotate_left
      · intro w; go_simp; first | done | with_reducible rfl
      refine wpAny_take (i := 2) (v := ?_) rfl (by kernel_rfl) (by kernel_rfl) (by kernel_rfl) (fun _ _ _ h => h) (Or.inl ⟨by rfl, ?_⟩) ?_
      rotate_left
      · intro w; go_simp; first | done | with_reducible rfl
      refine wpAny_take (i := 3) (v := ?_) rfl (by kernel_rfl) (by kernel_rfl) (by kernel_rfl) (fun _ _ _ h => h) (Or.inl ⟨by rfl, ?_⟩) ?_
      rotate_left
      · intro w; go_simp; first | done | with_reducible rfl
      refine wpAny_take (i := 4) (v := ?_) rfl (by kernel_rfl) (by kernel_rfl) (by kernel_rfl) (fun _ _ _ h => h) (Or.inl ⟨by rfl, ?_⟩) ?_
      rotate_left
      · intro w; go_simp; first | done | with_reducible rfl
      refine wpAny_ready (rs := [1, 5]) (by kernel_rfl) (by simp) ?_
      refine AllReady.cons rfl (fun K hK => ?_) (AllReady.cons rfl (fun K hK => ?_) AllReady.nil)
      · go_simp
        refine hK _ _ ?_
        clear hK K
        refine wpAny_ready (rs := [5]) (by kernel_rfl) (by simp) ?_
        refine AllReady.cons rfl (fun K hK => ?_) AllReady.nil
        go_simp
        go_wp2_with (go_at_call 24; refine (HCk.out _ ?_).mono ?_; exact HB0.out.drew; rintro e w2 ⟨rfl, hcall⟩)
        have hbw : Below wr.heap.size wr w2 := (Below.refl _ _).drew.trans hcall
        clear hcall
        have hb2 := HB0.out.trans (hbw.mono hsz)
        have hsz2 := hbw.size
        have d0 := below_cell2 hbw c0
        have d1 := below_cell2 hbw c1
        have d2 := below_frz hbw hgw c2
        have d3 := below_cell2 hbw c3
        have d4 := below_cell2 hbw c4
        have d5 := below_frz hbw (by omega) c5
        have d6 := below_frz hbw (by omega) c6
        have HO2 := Lib.hid (HO.out.kept hbw)
        have x1 := cell_above d1 (.cells #[.int .i64 kd, .int .i64 wv, .int .i64 vv] 27)
        refine wpAny_ready (rs := [6]) (by kernel_rfl) (by simp) ?_
        refine AllReady.cons rfl (fun K hK => ?_) AllReady.nil
        go_simp
        refine hK _ _ ?_
        clear hK K
        refine wpAny_ready (rs := [7]) (by kernel_rfl) (by simp) ?_
        refine AllReady.cons rfl (fun K hK => ?_) AllReady.nil
        refine step_append_mine (by rfl) _ _ 32 (by rfl) (w1.heap.size + 1) 27 i0 _ 3 24 Try.underlying32 hi hz0 hz1 hz2 rfl (by decide) (.slice va vn vc) _ _ (by rfl) (World.ownsRow.alloc HO2.out _) ⟨w2.heap.size, 0, none⟩ 1 1 [.int .i64 kd, .int .i64 wv, .int .i64 vv] (by rfl) rfl (newThreeAt w2 _ _ _ _ _ rfl) (three_intsM _ _ _) (by unfold maxLen; omega) (by omega) (by simp; omega) ?_
        intro v' w3 hown' hgrow
        have hkb := Lib.hid (((Below.refl (w1.heap.size + 1) w2).alloc (by omega) (.cells #[.int .i64 kd, .int .i64 wv, .int .i64 vv] 27)).grown hgrow (by simp; omega) (fun q hq => (World.ownsRow.lt HO2.out q hq).1))
        have ho3 : OwnK (w1.heap.size + 1) w3 v' (L ++ [(kd, wv, vv)]) := by
          unfold OwnK
          rw [List.length_append, flatK_append]
          simpa [flatK] using hown'
        obtain ⟨sa, sn, sc, rfl⟩ := ownK_slice ho3
        have hb3 := hb2.trans (hkb.out.mono (by omega))
        have g0 := (hkb.out.cell (p := ⟨w1.heap.size, 0, none⟩) (by show w1.heap.size < w1.heap.size + 1; omega)).trans d0
        have g1 := (hkb.out.cell (p := ⟨w1.heap.size, 1, none⟩) (by show w1.heap.size < w1.heap.size + 1; omega)).trans d1
        have g3 := (hkb.out.cell (p := ⟨w.heap.size, 0, none⟩) (by show w.heap.size < w1.heap.size + 1; omega)).trans d3
        have g4 := (hkb.out.cell (p := ⟨w.heap.size, 1, none⟩) (by show w.heap.size < w1.heap.size + 1; omega)).trans d4
        have g2 := frz_low hkb.out (g := w1.heap.size) (o := 1) (by omega) d2
        have g5 := frz_low hkb.out (g := w.heap.size) (o := 0) (by omega) d5
        have g6 := frz_low hkb.out (g := w.heap.size) (o := 1) (by omega) d6
        clear hown' hgrow hkb
        refine hK _ _ ?_
        clear hK K
        refine wpAny_ready (rs := [8]) (by kernel_rfl) (by simp) ?_
        refine AllReady.cons rfl (fun K hK => ?_) AllReady.nil
        go_simp
        refine hK _ _ ?_
        clear hK K
        refine wpAny_ready (rs := [9]) (by kernel_rfl) (by simp) ?_
        refine AllReady.cons rfl (fun K hK => ?_) AllReady.nil
        go_simp
        refine hK _ _ ?_
        clear hK K
        refine wpAny_done (by kernel_rfl) ?_ _
        go_wp2_with fail
        go_roundw
        case rel => exact ⟨k + 1, sa, sn, sc, by omega, by rw [HNk.out], by first | go_num | (congr 1; omega), Lib.hid (by rw [HNk.out]; exact own_under1K (v1 := .slice sa sn sc) ho3 (by omega)), hb3.setCell (p := ⟨w1.heap.size, 1, none⟩) (by show w.heap.size ≤ w1.heap.size; omega) _, (World.cell?_setCell_other _ _ _ _ (by first | (simp; done) | (simp; omega))).trans g0, World.cell?_setCell_same _ _ _ g1, by simpa [go_sem] using g2, (World.cell?_setCell_other _ _ _ _ (by first | (simp; done) | (simp; omega))).trans g3, (World.cell?_setCell_other _ _ _ _ (by first | (simp; done) | (simp; omega))).trans g4, by simpa [go_sem] using g5, by simpa [go_sem] using g6⟩
        case measure => simp [intOf]; omega
      · go_simp
        go_wp2_with (go_at_call 24; refine (HCk.out _ ?_).mono ?_; exact HB0.out.drew; rintro e w2 ⟨rfl, hcall⟩)
        have hbw : Below wr.heap.size wr w2 := (Below.refl _ _).drew.trans hcall
        clear hcall
        have hb2 := HB0.out.trans (hbw.mono hsz)
        have hsz2 := hbw.size
        have d0 := below_cell2 hbw c0
        have d1 := below_cell2 hbw c1
        have d2 := below_frz hbw hgw c2
        have d3 := below_cell2 hbw c3
        have d4 := below_cell2 hbw c4
        have d5 := below_frz hbw (by omega) c5
        have d6 := below_frz hbw (by omega) c6
        have HO2 := Lib.hid (HO.out.kept hbw)
        have x1 := cell_above d1 (.cells #[.int .i64 kd, .int .i64 wv, .int .i64 vv] 27)
        refine wpAny_ready (rs := [1, 6]) (by kernel_rfl) (by simp) ?_
        refine AllReady.cons rfl (fun K hK => ?_) (AllReady.cons rfl (fun K hK => ?_) AllReady.nil)
        all_goals
          go_simp
          refine hK _ _ ?_
          clear hK K
        rotate_left
        refine wpAny_ready (rs := [1]) (by kernel_rfl) (by simp) ?_
        refine AllReady.cons rfl (fun K hK => ?_) AllReady.nil
        go_simp
        refine hK _ _ ?_
        clear hK K
        refine wpAny_ready (rs := [7]) (by kernel_rfl) (by simp) ?_
        refine AllReady.cons rfl (fun K hK => ?_) AllReady.nil
        refine step_append_mine (by rfl) _ _ 32 (by rfl) (w1.heap.size + 1) 27 i0 _ 3 24 Try.underlying32 hi hz0 hz1 hz2 rfl (by decide) (.slice va vn vc) _ _ (by rfl) (World.ownsRow.alloc HO2.out _) ⟨w2.heap.size, 0, none⟩ 1 1 [.int .i64 kd, .int .i64 wv, .int .i64 vv] (by rfl) rfl (newThreeAt w2 _ _ _ _ _ rfl) (three_intsM _ _ _) (by unfold maxLen; omega) (by omega) (by simp; omega) ?_
        intro v' w3 hown' hgrow
        have hkb := Lib.hid (((Below.refl (w1.heap.size + 1) w2).alloc (by omega) (.cells #[.int .i64 kd, .int .i64 wv, .int .i64 vv] 27)).grown hgrow (by simp; omega) (fun q hq => (World.ownsRow.lt HO2.out q hq).1))
        have ho3 : OwnK (w1.heap.size + 1) w3 v' (L ++ [(kd, wv, vv)]) := by
          unfold OwnK
          rw [List.length_append, flatK_append]
          simpa [flatK] using hown'
        obtain ⟨sa, sn, sc, rfl⟩ := ownK_slice ho3
        have hb3 := hb2.trans (hkb.out.mono (by omega))
        have g0 := (hkb.out.cell (p := ⟨w1.heap.size, 0, none⟩) (by show w1.heap.size < w1.heap.size + 1; omega)).trans d0
        have g1 := (hkb.out.cell (p := ⟨w1.heap.size, 1, none⟩) (by show w1.heap.size < w1.heap.size + 1; omega)).trans d1
        have g3 := (hkb.out.cell (p := ⟨w.heap.size, 0, none⟩) (by show w.heap.size < w1.heap.size + 1; omega)).trans d3
        have g4 := (hkb.out.cell (p := ⟨w.heap.size, 1, none⟩) (by show w.heap.size < w1.heap.size + 1; omega)).trans d4
        have g2 := frz_low hkb.out (g := w1.heap.size) (o := 1) (by omega) d2
        have g5 := frz_low hkb.out (g := w.heap.size) (o := 0) (by omega) d5
        have g6 := frz_low hkb.out (g := w.heap.size) (o := 1) (by omega) d6
        clear hown' hgrow hkb
        refine hK _ _ ?_
        clear hK K
        refine wpAny_ready (rs := [8]) (by kernel_rfl) (by simp) ?_
        refine AllReady.cons rfl (fun K hK => ?_) AllReady.nil
        go_simp
        refine hK _ _ ?_
        clear hK K
        refine wpAny_ready (rs := [9]) (by kernel_rfl) (by simp) ?_
        refine AllReady.cons rfl (fun K hK => ?_) AllReady.nil
        go_simp
        refine hK _ _ ?_
        clear hK K
        refine wpAny_done (by kernel_rfl) ?_ _
        go_wp2_with fail
        go_roundw
        case rel => exact ⟨k + 1, sa, sn, sc, by omega, by rw [HNk.out], by first | go_num | (congr 1; omega), Lib.hid (by rw [HNk.out]; exact own_under1K (v1 := .slice sa sn sc) ho3 (by omega)), hb3.setCell (p := ⟨w1.heap.size, 1, none⟩) (by show w.heap.size ≤ w1.heap.size; omega) _, (World.cell?_setCell_other _ _ _ _ (by first | (simp; done) | (simp; omega))).trans g0, World.cell?_setCell_same _ _ _ g1, by simpa [go_sem] using g2, (World.cell?_setCell_other _ _ _ _ (by first | (simp; done) | (simp; omega))).trans g3, (World.cell?_setCell_other _ _ _ _ (by first | (simp; done) | (simp; omega))).trans g4, by simpa [go_sem] using g5, by simpa [go_sem] using g6⟩
        case measure => simp [intOf]; omega
        refine wpAny_ready (rs := [6]) (by kernel_rfl) (by simp) ?_
        refine AllReady.cons rfl (fun K hK => ?_) AllReady.nil
        go_simp
        refine hK _ _ ?_
        clear hK K
        refine wpAny_ready (rs := [7]) (by kernel_rfl) (by simp) ?_
        refine AllReady.cons rfl (fun K hK => ?_) AllReady.nil
        refine step_append_mine (by rfl) _ _ 32 (by rfl) (w1.heap.size + 1) 27 i0 _ 3 24 Try.underlying32 hi hz0 hz1 hz2 rfl (by decide) (.slice va vn vc) _ _ (by rfl) (World.ownsRow.alloc HO2.out _) ⟨w2.heap.size, 0, none⟩ 1 1 [.int .i64 kd, .int .i64 wv, .int .i64 vv] (by rfl) rfl (newThreeAt w2 _ _ _ _ _ rfl) (three_intsM _ _ _) (by unfold maxLen; omega) (by omega) (by simp; omega) ?_
        intro v' w3 hown' hgrow
        have hkb := Lib.hid (((Below.refl (w1.heap.size + 1) w2).alloc (by omega) (.cells #[.int .i64 kd, .int .i64 wv, .int .i64 vv] 27)).grown hgrow (by simp; omega) (fun q hq => (World.ownsRow.lt HO2.out q hq).1))
        have ho3 : OwnK (w1.heap.size + 1) w3 v' (L ++ [(kd, wv, vv)]) := by
          unfold OwnK
          rw [List.length_append, flatK_append]
          simpa [flatK] using hown'
        obtain ⟨sa, sn, sc, rfl⟩ := ownK_slice ho3
        have hb3 := hb2.trans (hkb.out.mono (by omega))
        have g0 := (hkb.out.cell (p := ⟨w1.heap.size, 0, none⟩) (by show w1.heap.size < w1.heap.size + 1; omega)).trans d0
        have g1 := (hkb.out.cell (p := ⟨w1.heap.size, 1, none⟩) (by show w1.heap.size < w1.heap.size + 1; omega)).trans d1
        have g3 := (hkb.out.cell (p := ⟨w.heap.size, 0, none⟩) (by show w.heap.size < w1.heap.size + 1; omega)).trans d3
        have g4 := (hkb.out.cell (p := ⟨w.heap.size, 1, none⟩) (by show w.heap.size < w1.heap.size + 1; omega)).trans d4
        have g2 := frz_low hkb.out (g := w1.heap.size) (o := 1) (by omega) d2
        have g5 := frz_low hkb.out (g := w.heap.size) (o := 0) (by omega) d5
        have g6 := frz_low hkb.out (g := w.heap.size) (o := 1) (by omega) d6
        clear hown' hgrow hkb
        refine hK _ _ ?_
        clear hK K
        refine wpAny_ready (rs := [8]) (by kernel_rfl) (by simp) ?_
        refine AllReady.cons rfl (fun K hK => ?_) AllReady.nil
        go_simp
        refine hK _ _ ?_
        clear hK K
        refine wpAny_ready (rs := [9]) (by kernel_rfl) (by simp) ?_
        refine AllReady.cons rfl (fun K hK => ?_) AllReady.nil
        go_simp
        refine hK _ _ ?_
        clear hK K
        refine wpAny_done (by kernel_rfl) ?_ _
        go_wp2_with fail
        go_roundw
        case rel => exact ⟨k + 1, sa, sn, sc, by omega, by rw [HNk.out], by first | go_num | (congr 1; omega), Lib.hid (by rw [HNk.out]; exact own_under1K (v1 := .slice sa sn sc) ho3 (by omega)), hb3.setCell (p := ⟨w1.heap.size, 1, none⟩) (by show w.heap.size ≤ w1.heap.size; omega) _, (World.cell?_setCell_other _ _ _ _ (by first | (simp; done) | (simp; omega))).trans g0, World.cell?_setCell_same _ _ _ g1, by simpa [go_sem] using g2, (World.cell?_setCell_other _ _ _ _ (by first | (simp; done) | (simp; omega))).trans g3, (World.cell?_setCell_other _ _ _ _ (by first | (simp; done) | (simp; omega))).trans g4, by simpa [go_sem] using g5, by simpa [go_sem] using g6⟩
        case measure => simp [intOf]; omega
    · have hkm : k = m := by omega
      subst hkm
      have t7 : ¬ (k : Int) < (k : Int) := by omega
      have t8 : ¬ (0 : Int) < (k : Int) - (k : Int) := by omega
      go_wp2_with fail
      obtain ⟨s0, s1⟩ := two_cells c3 c4
      have ho3 := own_under2K (v0 := .int .i64 (n : Int)) (v1 := .slice va vn vc) HO.out (g := w.heap.size) (by omega)
      refine bodyPost_ret (v := .tuple #[.agg #[.int .i64 (n : Int), .slice va vn vc], .bool true]) (by simp [results, Try.results10, go_sem, s0, s1]) rfl ?_
      exact ⟨_, rfl, ho3.mono (by omega), (hb.setCell (p := ⟨w.heap.size, 0, none⟩) (Nat.le_refl _) _).setCell (p := ⟨w.heap.size, 1, none⟩) (Nat.le_refl _) _⟩

theorem spMake_any (l : List Int) (b c : Nat) (x s : Int) (w : World) (hn : l.length ≤ 1048576) (hbl : b < w.heap.size) (hI : Ints w b 0 l) :
    Calls Try.prog 10 #[.slice (some ⟨b, 0, none⟩) l.length c, .int .i64 x, .int .i64 s] w (RetPB (mkP l x s) (mkL l x s) (mkOk l x s) w) := by
  cases h : mkOk l x s with
  | false =>
    rw [show mkP l x s = 0 by unfold mkP; rw [if_neg (by rw [h]; simp)], show mkL l x s = [] by unfold mkL; rw [if_neg (by rw [h]; simp)]]
    unfold mkOk at h
    cases h1 : hdB l with
    | false => exact spMake_no l b _ c x s w rfl hn hbl hI h1
    | true =>
      rw [h1, Bool.true_and] at h
      cases h2 : inB x 0 6 with
      | false => exact spMake_x l b _ c x s w rfl hn hbl hI h1 h2
      | true =>
        rw [h2, Bool.true_and] at h
        exact spMake_s l b _ c x s w rfl hn hbl hI h1 h2 h
  | true =>
    rw [show mkP l x s = (l.length : Int) by unfold mkP; rw [if_pos h], show mkL l x s = (mkTo l s x.toNat).2 by unfold mkL; rw [if_pos h]]
    unfold mkOk at h
    rw [Bool.and_eq_true, Bool.and_eq_true, inB_iff, inB_iff] at h
    have := spMake_yes l b _ c x.toNat s w rfl hn (by omega) (by omega) hbl hI h.1
    rwa [Int.toNat_of_nonneg h.2.1.1] at this

theorem mkL_le (l : List Int) (x s : Int) : (mkL l x s).length ≤ 1048576 := by
  unfold mkL
  split
  · rename_i h
    unfold mkOk at h
    rw [Bool.and_eq_true, Bool.and_eq_true, inB_iff] at h
    rw [mkTo_len]
    omega
  · simp
theorem makePuzzle_both (l : List Int) (x s : Int) : ∃ rp rs ok, rs.length ≤ 1048576 ∧
    (∀ b c w, l.length ≤ 1048576 → b < w.heap.size → Ints w b 0 l → Calls Try.prog 10 #[.slice (some ⟨b, 0, none⟩) l.length c, .int .i64 x, .int .i64 s] w (RetPB rp rs ok w)) ∧
    (∀ b c w, l.length ≤ 1048576 → b < w.heap.size → Ints w b 0 l → Calls Try.prog 11 #[.slice (some ⟨b, 0, none⟩) l.length c, .int .i64 x, .int .i64 s] w (RetPB rp rs ok w)) :=
  ⟨_, _, _, mkL_le l x s, fun b c w hn hb hI => spMake_any l b c x s w hn hb hI, fun b c w hn hb hI => imMake_any l b c x s w hn hb hI⟩
end Go.Proofs.Ytkkjbkagkmngkab
