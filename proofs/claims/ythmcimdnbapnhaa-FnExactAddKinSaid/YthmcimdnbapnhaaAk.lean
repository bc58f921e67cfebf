/- AddKin: both texts. -/
import Derived.Test.YthmcimdnbapnhaaFb3
import Derived.Test.YthmcimdnbapnhaaRetK
import Derived.Lib.SliceRun
import Derived.WideShapes
set_option linter.unusedVariables false
set_option linter.unusedSimpArgs false
namespace Go.Proofs.Ythmcimdnbapnhaa
open Go.RowKit

theorem step_append_mine {P : Program} {w : World} {ops : Array Oper} {o : Oper} {a : Act} {K : Act → World → Prop} {Q : Exit → Act → World → Prop} {E : Prop} (hgd : o.guard = none) (s x : Operand) (t : TypeId)
    (ho : o.op = .call { callee := .builtin .append, args := #[s, x], argTypes := #[t, t] })
    (base : Nat) (e : TypeId) (i : TypeInfo) (z : Value) (size bytes : Nat) (ht : P.underlying t = some (.slice e)) (hi : P.info? e = some i) (hz : i.zero = some z)
    (hsize : i.size = size) (hby : i.bytes = bytes) (hzs : z.cells.size = size) (hsz : 0 < size)
    (v : Value) (n : Nat) (xs : List Value) (hs : a.eval s = v) (hown : w.ownsRow base e size v n xs)
    (ad : Addr) (m c : Nat) (news : List Value) (hx : a.eval x = .slice (some ad) m c) (hl : news.length = m * size) (hnews : ∀ j u, news[j]? = some u → w.cell? (ad.add j) = some u) (h1 : ∀ u ∈ news, u.oneCell' = true)
    (h63 : n + m ≤ maxLen) (hbytes : (n + m) * bytes ≤ 140737488355328) (hbase : base ≤ w.heap.size)
    (h : ∀ v' w', w'.ownsRow base e size v' (n + m) (xs ++ news) → w.grownBy w' v.ownBlock → K (a.put o.dst v') w') :
    if Region.wanted o (yielded ops a.tmps) = true then Oper.wp P o a w K Q else E := by
  have hw : Region.wanted o (yielded ops a.tmps) = true := by simp [Region.wanted, hgd]
  rw [if_pos hw]
  exact wp_append_own w s x t ho base e i z size bytes ht hi hz hsize hby hzs hsz v n xs hs hown ad m c news hx hl hnews h1 h63 hbytes hbase fun v' w' h2 h3 _ => h v' w' h2 h3

theorem kns_cells {w : World} {b : Nat} {ds : List Kn} (h : Kns w b 0 ds) : ∀ j u, (flatK ds)[j]? = some u → w.cell? ((⟨b, 0, none⟩ : Addr).add j) = some u := by
  intro j u hj
  rw [WideShapes.add_plain]
  have hlt : j < ds.length * 3 := by
    have := (List.getElem?_eq_some_iff.1 hj).1
    rwa [flatK_length] at this
  obtain ⟨k, hk⟩ : ∃ k, j = k * 3 ∨ j = k * 3 + 1 ∨ j = k * 3 + 2 := ⟨j / 3, by omega⟩
  have hkl : k < ds.length := by omega
  have h1 := h k hkl
  have h2 := flatK_at ds k hkl
  rcases hk with rfl | rfl | rfl
  · rw [h2.1] at hj; simp only [Option.some.injEq] at hj; rw [← hj]; exact h1.1
  · rw [h2.2.1] at hj; simp only [Option.some.injEq] at hj; rw [← hj, ← Nat.add_assoc]; exact h1.2.1
  · rw [h2.2.2] at hj; simp only [Option.some.injEq] at hj; rw [← hj, ← Nat.add_assoc]; exact h1.2.2
theorem kns_oneCell (ds : List Kn) : ∀ u ∈ flatK ds, u.oneCell' = true := by
  intro u hu
  unfold flatK at hu
  rw [List.mem_flatMap] at hu
  obtain ⟨p, _, hp⟩ := hu
  simp at hp
  rcases hp with rfl | rfl | rfl <;> rfl
theorem three_ints (a b c : Int) : ∀ u ∈ [Value.int .i64 a, Value.int .i64 b, Value.int .i64 c], u.oneCell' = true := by
  intro u hu; simp at hu; rcases hu with rfl | rfl | rfl <;> rfl
theorem newThreeAt (W : World) (g : Nat) (a b c : Value) (t : TypeId) (hg : g = W.heap.size) : ∀ j u, [a, b, c][j]? = some u → (W.alloc (.cells #[a, b, c] t)).cell? ((⟨g, 0, none⟩ : Addr).add j) = some u := by
  subst hg
  intro j u hj
  match j, hj with
  | 0, hj => simp at hj; subst hj; simp [Addr.add]
  | 1, hj => simp at hj; subst hj; simp [Addr.add]
  | 2, hj => simp at hj; subst hj; simp [Addr.add]
theorem threeKept {W W2 : World} {g : Nat} {a b c : Value} (hb : Below W.heap.size W W2) (h : ∀ j u, [a, b, c][j]? = some u → W.cell? ((⟨g, 0, none⟩ : Addr).add j) = some u) (hg : g < W.heap.size) : ∀ j u, [a, b, c][j]? = some u → W2.cell? ((⟨g, 0, none⟩ : Addr).add j) = some u := by
  intro j u hj
  have := h j u hj
  rw [WideShapes.add_plain] at this ⊢
  exact (hb.cell (p := ⟨g, 0 + j, none⟩) hg).trans this
theorem cell_row {C e size n : Nat} {w w' W : World} {v : Value} {xs : List Value} {b o : Nat} {u : Value} (ho : W.ownsRow C e size v n xs) (hg : w.grownBy w' v.ownBlock) (hne : b < C) (h : w.cell? ⟨b, o, none⟩ = some u) : w'.cell? ⟨b, o, none⟩ = some u := by
  refine (World.cell?_of_block (w := w) (a := ⟨b, o, none⟩) (hg.block b (World.block_lt_of_cell? w _ h) ?_)).trans h
  intro e
  have := (World.ownsRow.lt ho b e.symm).1
  omega
theorem cell_rowE {w w' : World} {row : Option Nat} {b o : Nat} {u : Value} (hg : w.grownBy w' row) (hne : some b ≠ row) (h : w.cell? ⟨b, o, none⟩ = some u) : w'.cell? ⟨b, o, none⟩ = some u :=
  (World.cell?_of_block (w := w) (a := ⟨b, o, none⟩) (hg.block b (World.block_lt_of_cell? w _ h) hne)).trans h
theorem ownK_push {B : Nat} {w1 : World} {v' : Value} {ds : List Kn} {y f o : Int} (h : w1.ownsRow B 33 3 v' (ds.length + 1) (flatK ds ++ [.int .i64 y, .int .i64 f, .int .i64 o])) : OwnK B w1 v' (ds ++ [(y, f, o)]) := by
  unfold OwnK
  rw [List.length_append, flatK_snoc]
  exact h
set_option maxHeartbeats 1000000 in
theorem cloneK_any (b c : Nat) (ds : List Kn) (w : World) (hn : ds.length ≤ 14) (hbl : b < w.heap.size) (hI : Kns w b 0 ds) :
    Calls Try.prog 56 #[.slice (some ⟨b, 0, none⟩) ds.length c] w (RetOwnK ds w) := by
  obtain ⟨i0, hi, hz0, hz1, hz2⟩ := info_parts infoKin
  have qT : ∀ (w : World) (a : Option Addr) (n c n' c' : Nat), (binOp .eql 25 (.slice a n c) (.slice none n' c')).run Try.prog w = .ok (.bool a.isNone) w := fun w a n c n' c' => Lib.run_eql_slice_nil w _ _ a n c n' c' Try.underlying25
  have hI' := Lib.hid (hI.kept ((Below.refl w.heap.size w).alloc (Nat.le_refl _) (.cells #[] 33)) hbl)
  have hO := Lib.hid (World.ownsRow_lit (base := w.heap.size) (size := 3) (e := 33) w #[] 0 (Nat.le_refl _) (by unfold maxLen; omega) rfl)
  have HU := Lib.hid (kns_oneCell ds)
  have HLn := flatK_length ds
  generalize hxs : flatK ds = xs at HU HLn
  have HX := Lib.hid hxs
  have HC := Lib.hid (kns_cells hI'.out)
  rw [hxs] at HC
  clear hxs
  go_enter Try.func56, Try.ntmps56
  go_wp2_with (first | (at_builtin; refine wpList_append_own _ rfl _ _ 25 rfl w.heap.size 33 i0 _ 3 24 Try.underlying25 hi hz0 hz1 hz2 rfl (by decide) _ 0 [] rfl hO.out ⟨b, 0, none⟩ ds.length c xs rfl HLn HC.out HU.out ?c3 ?c4 ?c5 ?_))
  case c3 => unfold maxLen; omega
  case c4 => omega
  intro v' w1 hown hgr _
  have hb : Below w.heap.size w w1 := (((Below.refl w.heap.size w).alloc (Nat.le_refl _) _).grown hgr (by simp) (by intro k hk; simp [Value.ownBlock] at hk; omega))
  have ho : OwnK w.heap.size w1 v' ds := by unfold OwnK; rw [HX.out]; simpa using hown
  clear hown hgr
  go_wp2_with fail
  go_ret
  exact ⟨_, rfl, ho, hb⟩
def addOkK (fs : List Kn) (y f o : Int) : Bool := famB fs && (!((fs.length : Int) == 14) && fitB fs fs.length (y, f, o))
theorem kns_first {w : World} {b : Nat} {fs : List Kn} (h : Kns w b 0 fs) : ∀ j, j < fs.length → w.cell? ⟨b, j * 3, none⟩ = some (.int .i64 (at3 fs j).1) := fun j hj => by
  have := (h j hj).1; rwa [Nat.zero_add] at this
theorem famB_fits {fs : List Kn} (h : famB fs = true) : fitsTo fs fs.length = true := by unfold famB at h; rw [Bool.and_eq_true] at h; exact h.2
set_option maxHeartbeats 2000000 in
theorem imAdd_no (b c : Nat) (y f o : Int) (fs : List Kn) (w : World) (hc : fs.length ≤ c) (hbl : b < w.heap.size) (hI : Kns w b 0 fs) (hok : addOkK fs y f o = false) :
    Calls Try.prog 22 #[.slice (some ⟨b, 0, none⟩) fs.length c, .agg #[.int .i64 y, .int .i64 f, .int .i64 o]] w (RetOwnKB [] false w) := by
  have HW := Lib.hid ((Below.refl w.heap.size w).alloc (Nat.le_refl _) (.cells #[.int .i64 y, .int .i64 f, .int .i64 o] 33))
  have hx1 : (w.alloc (.cells #[.int .i64 y, .int .i64 f, .int .i64 o] 33)).cell? ⟨w.heap.size, 0, none⟩ = some (.int .i64 y) := by simp [go_sem]
  have hx2 : (w.alloc (.cells #[.int .i64 y, .int .i64 f, .int .i64 o] 33)).cell? ⟨w.heap.size, 1, none⟩ = some (.int .i64 f) := by simp [go_sem]
  have hx3 : (w.alloc (.cells #[.int .i64 y, .int .i64 f, .int .i64 o] 33)).cell? ⟨w.heap.size, 2, none⟩ = some (.int .i64 o) := by simp [go_sem]
  have HG := Lib.hid (imFam_any b fs.length c fs (w.alloc (.cells #[.int .i64 y, .int .i64 f, .int .i64 o] 33)) rfl hc (Nat.lt_of_lt_of_le hbl HW.out.size) (hI.kept HW.out hbl))
  cases h0 : famB fs with
  | false =>
    rw [h0] at HG
    clear hok hI
    go_enter Try.func22, Try.ntmps22
    go_wp2_with (first | (go_at_call 18; refine HG.out.mono ?_; rintro e w1 ⟨rfl, hb1⟩; have hb1' := HW.out.trans (hb1.mono HW.out.size); have x1 := below_cell2 hb1 hx1; have x2 := below_cell2 hb1 hx2; have x3 := below_cell2 hb1 hx3) | (go_at_call 53; refine (HK.out _ hb1').mono ?_; rintro e w2 ⟨rfl, hb2⟩; have hb2' := hb1'.trans (hb2.mono hb1'.size)))
    go_ret2
    exact ⟨_, rfl, ownK_nil _ _, hb1'⟩
  | true =>
    have hn := (famB_len h0).2
    have HK := Lib.hid (fun (W : World) (hb : Below w.heap.size w W) => behind_any b fs.length c fs y f o W hn (Nat.lt_of_lt_of_le hbl hb.size) (kns_first (hI.kept hb hbl)) (bd_of (famB_fits h0)))
    rw [h0] at HG
    cases h1 : ((fs.length : Int) == 14) with
    | true =>
      clear hok hI HK
      go_enter Try.func22, Try.ntmps22
      go_wp2_with (first | (go_at_call 18; refine HG.out.mono ?_; rintro e w1 ⟨rfl, hb1⟩; have hb1' := HW.out.trans (hb1.mono HW.out.size); have x1 := below_cell2 hb1 hx1; have x2 := below_cell2 hb1 hx2; have x3 := below_cell2 hb1 hx3) | (go_at_call 53; refine (HK.out _ hb1').mono ?_; rintro e w2 ⟨rfl, hb2⟩; have hb2' := hb1'.trans (hb2.mono hb1'.size)))
      go_ret2
      exact ⟨_, rfl, ownK_nil _ _, hb1'⟩
    | false =>
      have h2 : fitB fs fs.length (y, f, o) = false := by unfold addOkK at hok; rw [h0, h1] at hok; simpa using hok
      rw [h2] at HK
      clear hok hI h2
      go_enter Try.func22, Try.ntmps22
      go_wp2_with (first | (go_at_call 18; refine HG.out.mono ?_; rintro e w1 ⟨rfl, hb1⟩; have hb1' := HW.out.trans (hb1.mono HW.out.size); have x1 := below_cell2 hb1 hx1; have x2 := below_cell2 hb1 hx2; have x3 := below_cell2 hb1 hx3) | (go_at_call 53; refine (HK.out _ hb1').mono ?_; rintro e w2 ⟨rfl, hb2⟩; have hb2' := hb1'.trans (hb2.mono hb1'.size)))
      go_ret2
      exact ⟨_, rfl, ownK_nil _ _, hb2'⟩
set_option maxHeartbeats 2000000 in
theorem spAdd_no (b c : Nat) (y f o : Int) (fs : List Kn) (w : World) (hc : fs.length ≤ c) (hbl : b < w.heap.size) (hI : Kns w b 0 fs) (hok : addOkK fs y f o = false) :
    Calls Try.prog 20 #[.slice (some ⟨b, 0, none⟩) fs.length c, .agg #[.int .i64 y, .int .i64 f, .int .i64 o]] w (RetOwnKB [] false w) := by
  have HW := Lib.hid ((Below.refl w.heap.size w).alloc (Nat.le_refl _) (.cells #[.int .i64 y, .int .i64 f, .int .i64 o] 33))
  have hx1 : (w.alloc (.cells #[.int .i64 y, .int .i64 f, .int .i64 o] 33)).cell? ⟨w.heap.size, 0, none⟩ = some (.int .i64 y) := by simp [go_sem]
  have hx2 : (w.alloc (.cells #[.int .i64 y, .int .i64 f, .int .i64 o] 33)).cell? ⟨w.heap.size, 1, none⟩ = some (.int .i64 f) := by simp [go_sem]
  have hx3 : (w.alloc (.cells #[.int .i64 y, .int .i64 f, .int .i64 o] 33)).cell? ⟨w.heap.size, 2, none⟩ = some (.int .i64 o) := by simp [go_sem]
  have HG := Lib.hid (faGood_any b fs.length c fs (w.alloc (.cells #[.int .i64 y, .int .i64 f, .int .i64 o] 33)) rfl hc (Nat.lt_of_lt_of_le hbl HW.out.size) (hI.kept HW.out hbl))
  cases h0 : famB fs with
  | false =>
    rw [h0] at HG
    clear hok hI
    go_enter Try.func20, Try.ntmps20
    go_wp2_with (first | (go_at_call 51; refine HG.out.mono ?_; rintro e w1 ⟨rfl, hb1⟩; have hb1' := HW.out.trans (hb1.mono HW.out.size); have x1 := below_cell2 hb1 hx1; have x2 := below_cell2 hb1 hx2; have x3 := below_cell2 hb1 hx3) | (go_at_call 55; refine (HK.out _ hb1').mono ?_; rintro e w2 ⟨rfl, hb2⟩; have hb2' := hb1'.trans (hb2.mono hb1'.size)))
    go_ret2
    exact ⟨_, rfl, ownK_nil _ _, hb1'⟩
  | true =>
    have hn := (famB_len h0).2
    have HK := Lib.hid (fun (W : World) (hb : Below w.heap.size w W) => faFits_any b fs.length c fs y f o W hn (Nat.lt_of_lt_of_le hbl hb.size) (kns_first (hI.kept hb hbl)) (bd_of (famB_fits h0)))
    rw [h0] at HG
    cases h1 : ((fs.length : Int) == 14) with
    | true =>
      clear hok hI HK
      go_enter Try.func20, Try.ntmps20
      go_wp2_with (first | (go_at_call 51; refine HG.out.mono ?_; rintro e w1 ⟨rfl, hb1⟩; have hb1' := HW.out.trans (hb1.mono HW.out.size); have x1 := below_cell2 hb1 hx1; have x2 := below_cell2 hb1 hx2; have x3 := below_cell2 hb1 hx3) | (go_at_call 55; refine (HK.out _ hb1').mono ?_; rintro e w2 ⟨rfl, hb2⟩; have hb2' := hb1'.trans (hb2.mono hb1'.size)))
      go_ret2
      exact ⟨_, rfl, ownK_nil _ _, hb1'⟩
    | false =>
      have h2 : fitB fs fs.length (y, f, o) = false := by unfold addOkK at hok; rw [h0, h1] at hok; simpa using hok
      rw [h2] at HK
      clear hok hI h2
      go_enter Try.func20, Try.ntmps20
      go_wp2_with (first | (go_at_call 51; refine HG.out.mono ?_; rintro e w1 ⟨rfl, hb1⟩; have hb1' := HW.out.trans (hb1.mono HW.out.size); have x1 := below_cell2 hb1 hx1; have x2 := below_cell2 hb1 hx2; have x3 := below_cell2 hb1 hx3) | (go_at_call 55; refine (HK.out _ hb1').mono ?_; rintro e w2 ⟨rfl, hb2⟩; have hb2' := hb1'.trans (hb2.mono hb1'.size)))
      go_ret2
      exact ⟨_, rfl, ownK_nil _ _, hb2'⟩
set_option maxHeartbeats 4000000 in
set_option maxRecDepth 100000 in
theorem imAdd_yes (b c : Nat) (y f o : Int) (fs : List Kn) (w : World) (hc : fs.length ≤ c) (hbl : b < w.heap.size) (hI : Kns w b 0 fs) (h0 : famB fs = true) (h1 : ((fs.length : Int) == 14) = false) (h2 : fitB fs fs.length (y, f, o) = true) :
    Calls Try.prog 22 #[.slice (some ⟨b, 0, none⟩) fs.length c, .agg #[.int .i64 y, .int .i64 f, .int .i64 o]] w (RetOwnKB (fs ++ [(y, f, o)]) true w) := by
  obtain ⟨i0, hi, hz0, hz1, hz2⟩ := info_parts infoKin
  have HW := Lib.hid ((Below.refl w.heap.size w).alloc (Nat.le_refl _) (.cells #[.int .i64 y, .int .i64 f, .int .i64 o] 33))
  have hx1 : (w.alloc (.cells #[.int .i64 y, .int .i64 f, .int .i64 o] 33)).cell? ⟨w.heap.size, 0, none⟩ = some (.int .i64 y) := by simp [go_sem]
  have hx2 : (w.alloc (.cells #[.int .i64 y, .int .i64 f, .int .i64 o] 33)).cell? ⟨w.heap.size, 1, none⟩ = some (.int .i64 f) := by simp [go_sem]
  have hx3 : (w.alloc (.cells #[.int .i64 y, .int .i64 f, .int .i64 o] 33)).cell? ⟨w.heap.size, 2, none⟩ = some (.int .i64 o) := by simp [go_sem]
  have HG := Lib.hid (imFam_any b fs.length c fs (w.alloc (.cells #[.int .i64 y, .int .i64 f, .int .i64 o] 33)) rfl hc (Nat.lt_of_lt_of_le hbl HW.out.size) (hI.kept HW.out hbl))
  have hn := (famB_len h0).2
  have HK := Lib.hid (fun (W : World) (hb : Below w.heap.size w W) => behind_any b fs.length c fs y f o W hn (Nat.lt_of_lt_of_le hbl hb.size) (kns_first (hI.kept hb hbl)) (bd_of (famB_fits h0)))
  have HC := Lib.hid (fun (W : World) (hb : Below w.heap.size w W) => cloneK_any b c fs W hn (Nat.lt_of_lt_of_le hbl hb.size) (hI.kept hb hbl))
  have HPU := Lib.hid (fun (w3 : World) (v' : Value) (C : Nat) (h : w3.ownsRow C 33 3 v' (fs.length + 1) (flatK fs ++ [.int .i64 y, .int .i64 f, .int .i64 o])) => ownK_push h)
  have HT := Lib.hid (show (fs ++ [(y, f, o)]).length = fs.length + 1 by simp)
  have HOX := Lib.hid (fun (W : World) (v : Value) (C B : Nat) (hB : C ≤ B) (h : OwnK B W v fs) => (show W.ownsRow C 33 3 v fs.length (flatK fs) from h.mono hB))
  rw [h0] at HG
  rw [h2] at HK
  clear hI h0 h2
  generalize flatK fs = xs at HPU HOX
  generalize fs ++ [(y, f, o)] = res at HPU HT ⊢
  go_enter Try.func22, Try.ntmps22
  go_wp2_with (first | (go_at_call 18; refine HG.out.mono ?_; rintro e w1 ⟨rfl, hb1⟩; have hb1' := HW.out.trans (hb1.mono HW.out.size); have x1 := below_cell2 hb1 hx1; have x2 := below_cell2 hb1 hx2; have x3 := below_cell2 hb1 hx3) | (go_at_call 53; refine (HK.out _ hb1').mono ?_; rintro e w2 ⟨rfl, hb2⟩; have hb2' := hb1'.trans (hb2.mono hb1'.size); have p1 := below_cell2 hb2 x1; have p2 := below_cell2 hb2 x2; have p3 := below_cell2 hb2 x3))
  clear hx1 hx2 hx3 x1 x2 x3
  have hlw : w.heap.size < w2.heap.size := World.block_lt_of_cell? w2 _ p1
  go_region_held3 (fun w' => Below w.heap.size w w' ∧ w'.cell? ⟨w.heap.size, 0, none⟩ = some (.int .i64 y) ∧ w'.cell? ⟨w.heap.size, 1, none⟩ = some (.int .i64 f) ∧ w'.cell? ⟨w.heap.size, 2, none⟩ = some (.int .i64 o))
    (first
      | (exact ⟨hb2'.drew, p1, p2, p3⟩)
      | (obtain ⟨z0, z1, z2, z3⟩ := ‹Below w.heap.size w _ ∧ _›; exact ⟨z0.drew, z1, z2, z3⟩)
      | (obtain ⟨z0, z1, z2, z3⟩ := ‹Below w.heap.size w _ ∧ _›; exact ⟨z0.trans (hcall.mono z0.size), below_cell2 hcall z1, below_cell2 hcall z2, below_cell2 hcall z3⟩)
      | (obtain ⟨z0, z1, z2, z3⟩ := ‹Below w.heap.size w _ ∧ _›; exact ⟨z0.alloc z0.size _, cell_above z1 _, cell_above z2 _, cell_above z3 _⟩)
      | (obtain ⟨z0, z1, z2, z3⟩ := ‹Below w.heap.size w _ ∧ _›; exact ⟨z0.grown hgr z0.size (fun k hk => by have := (World.ownsRow.lt ho k hk).1; omega), cell_row ho hgr hlw z1, cell_row ho hgr hlw z2, cell_row ho hgr hlw z3⟩)
      | go_keep)
    (first
      | (go_at_call 56; refine (HC.out _ (‹Below w.heap.size w _ ∧ _›).1).mono ?_; rintro e w3 ⟨v, rfl, ho', hcall⟩; have ho := HOX.out _ _ w2.heap.size _ (by first | exact Nat.le_refl _ | (simp; done) | (simp; omega)) ho'; clear ho')
      | (refine step_append_mine (by rfl) _ _ 25 (by rfl) w2.heap.size 33 i0 (.agg #[.int .i64 0, .int .i64 0, .int .i64 0]) 3 24 Try.underlying25 hi hz0 hz1 hz2 rfl (by omega) v fs.length xs (by rfl) (World.ownsRow.alloc ho _) ⟨w3.heap.size, 0, none⟩ 1 1 [.int .i64 y, .int .i64 f, .int .i64 o] (by rfl) (by rfl) (newThreeAt w3 _ _ _ _ _ rfl) (three_ints _ _ _) (by unfold maxLen; omega) (by omega) (by have := hcall.size; have := hb2'.size; simp at *; omega) ?_; intro v' w4 hown hgr)
      | (refine step_append_mine (by rfl) _ _ 25 (by rfl) w2.heap.size 33 i0 (.agg #[.int .i64 0, .int .i64 0, .int .i64 0]) 3 24 Try.underlying25 hi hz0 hz1 hz2 rfl (by omega) v fs.length xs (by rfl) ho ⟨w2.heap.size, 0, none⟩ 1 1 [.int .i64 y, .int .i64 f, .int .i64 o] (by rfl) (by rfl) (threeKept hcall (newThreeAt w2.drew _ _ _ _ _ rfl) (by simp)) (three_ints _ _ _) (by unfold maxLen; omega) (by omega) (by have := hcall.size; have := hb2'.size; simp at *; omega) ?_; intro v' w4 hown hgr))
  all_goals
    have hbf := (‹Below w.heap.size w _ ∧ _›).1
    go_wp2_with fail
    go_ret2
    exact ⟨v', rfl, (HPU.out _ _ _ hown).mono hb2'.size, hbf⟩
theorem S3 {w W W2 : World} {row : Option Nat} {c0 c1 c2 : Value} (h : Below w.heap.size w W ∧ W.cell? ⟨w.heap.size, 0, none⟩ = some c0 ∧ W.cell? ⟨w.heap.size, 1, none⟩ = some c1 ∧ W.cell? ⟨w.heap.size, 2, none⟩ = some c2) (hg : W.grownBy W2 row) (hr : ∀ k, row = some k → w.heap.size < k) :
    Below w.heap.size w W2 ∧ W2.cell? ⟨w.heap.size, 0, none⟩ = some c0 ∧ W2.cell? ⟨w.heap.size, 1, none⟩ = some c1 ∧ W2.cell? ⟨w.heap.size, 2, none⟩ = some c2 := by
  obtain ⟨h0, h1, h2, h3⟩ := h
  have hne : some w.heap.size ≠ row := fun e => by have := hr _ e.symm; omega
  exact ⟨h0.grown hg h0.size (fun k hk => by have := hr k hk; omega), cell_rowE hg hne h1, cell_rowE hg hne h2, cell_rowE hg hne h3⟩
theorem litAt (W : World) (B g : Nat) (hg : g = W.heap.size) (hB : B ≤ W.heap.size) : (W.alloc (.cells #[] 33)).ownsRow B 33 3 (.slice (some ⟨g, 0, none⟩) 0 0) 0 [] := by
  subst hg
  exact World.ownsRow_lit W #[] 0 hB (by unfold maxLen; omega) rfl
theorem threeGrown {W W2 : World} {g : Nat} {a b c : Value} {row : Option Nat} (hg : W.grownBy W2 row) (h : ∀ j u, [a, b, c][j]? = some u → W.cell? ((⟨g, 0, none⟩ : Addr).add j) = some u) (hl : g < W.heap.size) (hne : some g ≠ row) : ∀ j u, [a, b, c][j]? = some u → W2.cell? ((⟨g, 0, none⟩ : Addr).add j) = some u := by
  intro j u hj
  have := h j u hj
  rw [WideShapes.add_plain] at this ⊢
  exact (World.cell?_of_block (w := W) (a := ⟨g, 0 + j, none⟩) (hg.block g hl hne)).trans this
theorem threeAbove {W : World} {g : Nat} {a b c : Value} (h : ∀ j u, [a, b, c][j]? = some u → W.cell? ((⟨g, 0, none⟩ : Addr).add j) = some u) (hl : g < W.heap.size) (A : Obj) : ∀ j u, [a, b, c][j]? = some u → (W.alloc A).cell? ((⟨g, 0, none⟩ : Addr).add j) = some u :=
  threeKept ((Below.refl _ _).alloc (Nat.le_refl _) A) h hl
set_option maxHeartbeats 4000000 in
set_option maxRecDepth 100000 in
theorem spAdd_yes (b c : Nat) (y f o : Int) (fs : List Kn) (w : World) (hc : fs.length ≤ c) (hbl : b < w.heap.size) (hI : Kns w b 0 fs) (h0 : famB fs = true) (h1 : ((fs.length : Int) == 14) = false) (h2 : fitB fs fs.length (y, f, o) = true) :
    Calls Try.prog 20 #[.slice (some ⟨b, 0, none⟩) fs.length c, .agg #[.int .i64 y, .int .i64 f, .int .i64 o]] w (RetOwnKB (fs ++ [(y, f, o)]) true w) := by
  obtain ⟨i0, hi, hz0, hz1, hz2⟩ := info_parts infoKin
  have HW := Lib.hid ((Below.refl w.heap.size w).alloc (Nat.le_refl _) (.cells #[.int .i64 y, .int .i64 f, .int .i64 o] 33))
  have hx1 : (w.alloc (.cells #[.int .i64 y, .int .i64 f, .int .i64 o] 33)).cell? ⟨w.heap.size, 0, none⟩ = some (.int .i64 y) := by simp [go_sem]
  have hx2 : (w.alloc (.cells #[.int .i64 y, .int .i64 f, .int .i64 o] 33)).cell? ⟨w.heap.size, 1, none⟩ = some (.int .i64 f) := by simp [go_sem]
  have hx3 : (w.alloc (.cells #[.int .i64 y, .int .i64 f, .int .i64 o] 33)).cell? ⟨w.heap.size, 2, none⟩ = some (.int .i64 o) := by simp [go_sem]
  have HG := Lib.hid (faGood_any b fs.length c fs (w.alloc (.cells #[.int .i64 y, .int .i64 f, .int .i64 o] 33)) rfl hc (Nat.lt_of_lt_of_le hbl HW.out.size) (hI.kept HW.out hbl))
  have hn := (famB_len h0).2
  have HK := Lib.hid (fun (W : World) (hb : Below w.heap.size w W) => faFits_any b fs.length c fs y f o W hn (Nat.lt_of_lt_of_le hbl hb.size) (kns_first (hI.kept hb hbl)) (bd_of (famB_fits h0)))
  have HPU := Lib.hid (fun (w3 : World) (v' : Value) (C : Nat) (h : w3.ownsRow C 33 3 v' (fs.length + 1) (flatK fs ++ [.int .i64 y, .int .i64 f, .int .i64 o])) => ownK_push h)
  have HCX := Lib.hid (fun (W : World) (hb : Below w.heap.size w W) => kns_cells (hI.kept hb hbl))
  have HUX := Lib.hid (kns_oneCell fs)
  have HLX := Lib.hid (flatK_length fs)
  rw [h0] at HG
  rw [h2] at HK
  clear hI h0 h2
  generalize flatK fs = xs at HPU HCX HUX HLX
  have HS1 := Lib.hid (fun (C : Nat) (W : World) (v : Value) (h : W.ownsRow C 33 3 v (0 + fs.length) ([] ++ xs)) => (show W.ownsRow C 33 3 v fs.length xs from by rw [Nat.zero_add, List.nil_append] at h; exact h))
  generalize fs ++ [(y, f, o)] = res at HPU ⊢
  go_enter Try.func20, Try.ntmps20
  go_wp2_with (first | (go_at_call 51; refine HG.out.mono ?_; rintro e w1 ⟨rfl, hb1⟩; have hb1' := HW.out.trans (hb1.mono HW.out.size); have x1 := below_cell2 hb1 hx1; have x2 := below_cell2 hb1 hx2; have x3 := below_cell2 hb1 hx3) | (go_at_call 55; refine (HK.out _ hb1').mono ?_; rintro e w2 ⟨rfl, hb2⟩; have hb2' := hb1'.trans (hb2.mono hb1'.size); have p1 := below_cell2 hb2 x1; have p2 := below_cell2 hb2 x2; have p3 := below_cell2 hb2 x3))
  clear hx1 hx2 hx3 x1 x2 x3
  have hlw : w.heap.size < w2.heap.size := World.block_lt_of_cell? w2 _ p1
  go_region_held3 (fun w' => Below w.heap.size w w' ∧ w'.cell? ⟨w.heap.size, 0, none⟩ = some (.int .i64 y) ∧ w'.cell? ⟨w.heap.size, 1, none⟩ = some (.int .i64 f) ∧ w'.cell? ⟨w.heap.size, 2, none⟩ = some (.int .i64 o))
    (first
      | (exact ⟨hb2'.drew, p1, p2, p3⟩)
      | (obtain ⟨z0, z1, z2, z3⟩ := ‹Below w.heap.size w _ ∧ _›; exact ⟨z0.drew, z1, z2, z3⟩)
      | (obtain ⟨z0, z1, z2, z3⟩ := ‹Below w.heap.size w _ ∧ _›; exact ⟨z0.alloc z0.size _, cell_above z1 _, cell_above z2 _, cell_above z3 _⟩)
      | (obtain ⟨z0, z1, z2, z3⟩ := ‹Below w.heap.size w _ ∧ _›; exact ⟨z0.grown hgr z0.size (fun k hk => by have := (World.ownsRow.lt ho k hk).1; omega), cell_row ho hgr hlw z1, cell_row ho hgr hlw z2, cell_row ho hgr hlw z3⟩)
      | (exact ⟨hq0, hq1, hq2, hq3⟩)
      | go_keep)
    (first
      | (refine step_append_mine (by rfl) _ _ 25 (by rfl) w2.heap.size 33 i0 (.agg #[.int .i64 0, .int .i64 0, .int .i64 0]) 3 24 Try.underlying25 hi hz0 hz1 hz2 rfl (by omega) (.slice (some ⟨w2.heap.size, 0, none⟩) 0 0) 0 [] (by rfl) (litAt w2.drew w2.heap.size _ rfl (Nat.le_refl _)) ⟨b, 0, none⟩ fs.length c xs (by rfl) HLX.out (HCX.out _ (‹Below w.heap.size w _ ∧ _›).1) HUX.out (by unfold maxLen; omega) (by omega) (by simp <;> omega) ?_; intro v w3 hown1 hgr1; have hlw3 := hgr1.size; have ho := HS1.out _ _ _ hown1; clear hown1; obtain ⟨hq0, hq1, hq2, hq3⟩ := S3 (‹Below w.heap.size w _ ∧ _›) hgr1 (fun k hk => by simp [Value.ownBlock] at hk; omega))
      | (refine step_append_mine (by rfl) _ _ 25 (by rfl) w2.heap.size 33 i0 (.agg #[.int .i64 0, .int .i64 0, .int .i64 0]) 3 24 Try.underlying25 hi hz0 hz1 hz2 rfl (by omega) (.slice (some ⟨w2.heap.size, 0, none⟩) 0 0) 0 [] (by rfl) (World.ownsRow.alloc (litAt w2.drew w2.heap.size _ rfl (Nat.le_refl _)) _) ⟨b, 0, none⟩ fs.length c xs (by rfl) HLX.out (HCX.out _ (‹Below w.heap.size w _ ∧ _›).1) HUX.out (by unfold maxLen; omega) (by omega) (by simp <;> omega) ?_; intro v w3 hown1 hgr1; have hlw3 := hgr1.size; have ho := HS1.out _ _ _ hown1; clear hown1; obtain ⟨hq0, hq1, hq2, hq3⟩ := S3 (‹Below w.heap.size w _ ∧ _›) hgr1 (fun k hk => by simp [Value.ownBlock] at hk; omega))
      | (refine step_append_mine (by rfl) _ _ 25 (by rfl) w2.heap.size 33 i0 (.agg #[.int .i64 0, .int .i64 0, .int .i64 0]) 3 24 Try.underlying25 hi hz0 hz1 hz2 rfl (by omega) (.slice (some ⟨w2.heap.size + 1, 0, none⟩) 0 0) 0 [] (by rfl) (litAt (w2.drew.alloc (.cells #[.int .i64 y, .int .i64 f, .int .i64 o] 33)) w2.heap.size _ (by simp) (by simp)) ⟨b, 0, none⟩ fs.length c xs (by rfl) HLX.out (HCX.out _ (‹Below w.heap.size w _ ∧ _›).1) HUX.out (by unfold maxLen; omega) (by omega) (by simp <;> omega) ?_; intro v w3 hown1 hgr1; have hlw3 := hgr1.size; have ho := HS1.out _ _ _ hown1; clear hown1; obtain ⟨hq0, hq1, hq2, hq3⟩ := S3 (‹Below w.heap.size w _ ∧ _›) hgr1 (fun k hk => by simp [Value.ownBlock] at hk; omega))
      | (refine step_append_mine (by rfl) _ _ 25 (by rfl) w2.heap.size 33 i0 (.agg #[.int .i64 0, .int .i64 0, .int .i64 0]) 3 24 Try.underlying25 hi hz0 hz1 hz2 rfl (by omega) v fs.length xs (by rfl) (World.ownsRow.alloc ho _) ⟨w3.heap.size, 0, none⟩ 1 1 [.int .i64 y, .int .i64 f, .int .i64 o] (by rfl) (by rfl) (newThreeAt w3 _ _ _ _ _ rfl) (three_ints _ _ _) (by unfold maxLen; omega) (by omega) (by simp at hlw3 ⊢ <;> omega) ?_; intro v' w4 hown hgr)
      | (refine step_append_mine (by rfl) _ _ 25 (by rfl) w2.heap.size 33 i0 (.agg #[.int .i64 0, .int .i64 0, .int .i64 0]) 3 24 Try.underlying25 hi hz0 hz1 hz2 rfl (by omega) v fs.length xs (by rfl) (ho) ⟨w2.heap.size + 1, 0, none⟩ 1 1 [.int .i64 y, .int .i64 f, .int .i64 o] (by rfl) (by rfl) (threeGrown hgr1 (newThreeAt (w2.drew.alloc (.cells #[] 33)) _ _ _ _ _ (by simp <;> omega)) (by simp <;> omega) (by simp [Value.ownBlock] <;> omega)) (three_ints _ _ _) (by unfold maxLen; omega) (by omega) (by simp at hlw3 ⊢ <;> omega) ?_; intro v' w4 hown hgr)
      | (refine step_append_mine (by rfl) _ _ 25 (by rfl) w2.heap.size 33 i0 (.agg #[.int .i64 0, .int .i64 0, .int .i64 0]) 3 24 Try.underlying25 hi hz0 hz1 hz2 rfl (by omega) v fs.length xs (by rfl) (ho) ⟨w2.heap.size, 0, none⟩ 1 1 [.int .i64 y, .int .i64 f, .int .i64 o] (by rfl) (by rfl) (threeGrown hgr1 (threeAbove (newThreeAt w2.drew _ _ _ _ _ rfl) (by simp <;> omega) _) (by simp <;> omega) (by simp [Value.ownBlock] <;> omega)) (three_ints _ _ _) (by unfold maxLen; omega) (by omega) (by simp at hlw3 ⊢ <;> omega) ?_; intro v' w4 hown hgr))
  all_goals
    have hbf := (‹Below w.heap.size w _ ∧ _›).1
    go_wp2_with fail
    go_ret2
    exact ⟨v', rfl, (HPU.out _ _ _ hown).mono hb2'.size, hbf⟩
theorem addK_cases {fs : List Kn} {y f o : Int} (h : addOkK fs y f o = true) : famB fs = true ∧ ((fs.length : Int) == 14) = false ∧ fitB fs fs.length (y, f, o) = true := by
  unfold addOkK at h
  rw [Bool.and_eq_true, Bool.and_eq_true, Bool.not_eq_true'] at h
  exact ⟨h.1, h.2.1, h.2.2⟩
theorem addKin_both (ds : List Kn) (y1 d1 o1 : Int) : ∃ rs ok, rs.length ≤ 1048576 ∧
    (∀ b c w, ds.length ≤ 1048576 → ds.length ≤ c → b < w.heap.size → Kns w b 0 ds → Calls Try.prog 20 #[.slice (some ⟨b, 0, none⟩) ds.length c, .agg #[.int .i64 y1, .int .i64 d1, .int .i64 o1]] w (RetOwnKB rs ok w)) ∧
    (∀ b c w, ds.length ≤ 1048576 → ds.length ≤ c → b < w.heap.size → Kns w b 0 ds → Calls Try.prog 22 #[.slice (some ⟨b, 0, none⟩) ds.length c, .agg #[.int .i64 y1, .int .i64 d1, .int .i64 o1]] w (RetOwnKB rs ok w)) := by
  cases hok : addOkK ds y1 d1 o1 with
  | false => exact ⟨[], false, by simp, fun b c w _ hc hb hI => spAdd_no b c y1 d1 o1 ds w hc hb hI hok, fun b c w _ hc hb hI => imAdd_no b c y1 d1 o1 ds w hc hb hI hok⟩
  | true =>
    obtain ⟨h0, h1, h2⟩ := addK_cases hok
    have := (famB_len h0).2
    exact ⟨ds ++ [(y1, d1, o1)], true, by simp; omega, fun b c w _ hc hb hI => spAdd_yes b c y1 d1 o1 ds w hc hb hI h0 h1 h2, fun b c w _ hc hb hI => imAdd_yes b c y1 d1 o1 ds w hc hb hI h0 h1 h2⟩
end Go.Proofs.Ythmcimdnbapnhaa
