/- The years that fit, out of a map, at one question. -/
import Derived.Test.YtmidobhfahpkcabYf
set_option linter.unusedVariables false
set_option linter.unusedSimpArgs false
namespace Go.Proofs.Ytmidobhfahpkcab
open Go.RowKit Go.Maps

theorem lawWl : Keyed Try.prog 3 := int_keyed Try.underlying3
/-- What the question answers of a year. -/
def AsksWl (q0 : Nat) (p : Int → Bool) (a : Int) (n : Nat) (w : World) : Prop :=
  ∀ (W : World), Below w.heap.size w W → ∀ j : Nat, j < n → Calls Try.prog 35 #[.int .i64 (a + j), .pointer (some ⟨q0, 0, none⟩)] W (Ret (.bool (p (a + j))) W)
def muYWl (g : Nat) (w : World) : Nat := match w.heap[g]? with | some (.map es _) => es.size | _ => 0
theorem muYWl_eq {P : Program} {k : TypeId} {R : Value → Option (DataW Nat × List MemPlace)} {w : World} {b n : Nat} {D : DataW Nat} (h : w.ownsMap P k R b n D) : muYWl b w = Maps.size D := by
  obtain ⟨es, clock, hb, F, hs, rfl⟩ := h
  unfold muYWl
  rw [hb, Maps.size_eq, length_read]
theorem wfWl (x : Int) (h : -1000000 ≤ x ∧ x ≤ 1000000) : (Lit.int .i64 x).wf = true := by
  have := wrap64_wf x
  rwa [IntWalk.wrap64_in x (by omega)] at this
theorem scope_jumpsWl {P : Program} {a : Act} {w : World} {Q : Exit → Act → World → Prop} {c rest : Code} (l : Nat) (J : Act → World → Prop) (μ : Act → World → Nat) (hf : findLabel c l = some (Code.seq Code.skip rest))
    (first : c.wp P (Exit.jump l J Q) a w)
    (pass : ∀ a w, J a w → rest.wp P (Exit.jump l (fun a' w' => J a' w' ∧ μ a' w' < μ a w) Q) a w) : (Code.scope c).wp P Q a w :=
  wp_scope_jumps l J μ hf first (fun a w h => wp_seq (wp_skip (pass a w h)))
/-- The keys that are left: the years from a + k on that fit. -/
def LftWl (p : Int → Bool) (a : Int) (n k : Nat) (y : Int) : Prop := a + k ≤ y ∧ y < a + n ∧ p y = true
/-- Where the label stands: k years are through. -/
structure AtWl (g : Nat) (p : Int → Bool) (a : Int) (n k m : Nat) (v : Value) (D : DataW Nat) (w0 w : World) : Prop where
  map : w.ownsMap Try.prog 3 (plainElem Try.prog 4) g m D
  keys : KeyIs D (LftWl p a n k)
  le : k ≤ n
  own : Own (g + 1) w v (yF p a k)
  below : Below w0.heap.size w0 w
/-- While the least one is looked for: l is the least of those that are through. -/
structure MinAtWl (g r m : Nat) (D : DataW Nat) (p : Int → Bool) (a b : Int) (n k : Nat) (v : Value) (w0 : World) (l : Int) (w2 : World) : Prop where
  ex : ∃ (left : Lit → Bool) (cnt : Nat), w2.ranges Try.prog 3 (plainElem Try.prog 4) g r m D left cnt ∧ (∀ y, LftWl p a n k y → left (.int .i64 y) = false → l ≤ y) ∧ (LftWl p a n k l ∨ l = b) ∧ (l ≤ b ∧ a ≤ l) ∧ Own (g + 1) w2 v (yF p a k) ∧ Below w0.heap.size w0 w2

set_option maxHeartbeats 8000000 in
set_option maxRecDepth 100000 in
theorem ytfWl_any (q0 : Nat) (p : Int → Bool) (a b : Int) (n : Nat) (w : World) (ha : -1000 ≤ a ∧ a ≤ 1000) (hn : n ≤ 1000) (hb : b = a + n - 1) (H0 : AsksWl q0 p a n w) :
    Calls Try.prog 34 #[.int .i64 a, .int .i64 b, .func (.func 35) #[] #[.pointer (some ⟨q0, 0, none⟩)]] w (RetOwn (yF p a n) w) := by
  have HQ := Lib.hid H0
  clear H0
  have hbl : b ≤ a + n - 1 := by omega
  have hbg : a + n - 1 ≤ b := by omega
  clear hb
  have hmm := @run_makeMap Try.prog
  obtain ⟨i0, hi, hz0, hz1, hz2⟩ := info_parts infoInt
  generalize hg : w.heap.size = g
  go_enter Try.func34, Try.ntmps34
  go_wp2
  refine (fun pass => scope_jumpsWl 0 (fun a' w' => ∃ (k m : Nat) (v : Value) (D : DataW Nat), (∃ (u3 u4 u5 u6 u8 u9 u11 u12 u13 u14 u15 u16 u17 u18 u19 u20 u21 u22 u23 u24 u25 u26 u27 u28 u29 u30 u31 u32 u33 u34 u35 u36 u37 u38 u39 u40 u41 u42 u43 u44 u45 u46 u47 u48 u49 u50 u51 u52 u53 : Value), a' = { tmps := #[.int .i64 a, .int .i64 b, .func (.func 35) #[] #[.pointer (some ⟨q0, 0, none⟩)], u3, u4, u5, u6, .map (some g), u8, u9, v, u11, u12, u13, u14, u15, u16, u17, u18, u19, u20, u21, u22, u23, u24, u25, u26, u27, u28, u29, u30, u31, u32, u33, u34, u35, u36, u37, u38, u39, u40, u41, u42, u43, u44, u45, u46, u47, u48, u49, u50, u51, u52, u53], defers := [] }) ∧ Hid (AtWl g p a n k m v D w w')) (fun _ w' => muYWl g w') rfl ?first pass) ?pass
  case first =>
    go_wp2
    go_loopw [8] (fun u wr => ∃ (k : Nat) (D : DataW Nat), k ≤ n ∧ u = .int .i64 (a + k) ∧ wr.ownsMap Try.prog 3 (plainElem Try.prog 4) g k D ∧ KeyIs D (fun y => a ≤ y ∧ y < a + k) ∧ Below w.heap.size w wr) (fun u _ => (b + 1 - intOf u).toNat)
    case atStart =>
      refine ⟨0, .map [], Nat.zero_le _, by simp, ?_, ?_, (Below.refl _ _).alloc (Nat.le_refl _) _⟩
      · rw [← hg]; exact World.ownsMap_made _ _ _ _
      · exact keyIs_empty.congr fun y => ⟨fun h => h.elim, fun h => by omega⟩
    case round =>
      obtain ⟨k, D, hk, rfl, hown, hkeys, hbr⟩ := hrel
      by_cases hlt : k < n
      · have hwf := wfWl (a + k) (by omega)
        go_wp2_with (first | (at_mapUpdate; refine wpList_mapUpdate_own _ rfl _ _ _ 59 rfl 3 4 lawWl Try.underlying59 _ g k _ rfl hown (by unfold maxLen; omega) _ _ _ rfl rfl (keyOf_int_mk Try.underlying3 hwf) _ [] (plainElem_bool Try.underlying4 true) ?_))
        intro w1 hown1 hgrow1
        have hb1 := hbr.grown hgrow1 hbr.size (fun j hj => by cases hj; omega)
        have hk1 := (hkeys.put hown.isMap (a + k) (.lit (.bool true))).congr (S' := fun y => a ≤ y ∧ y < a + ((k + 1 : Nat) : Int)) (fun y => by omega)
        clear hown hgrow1 hbr hkeys
        go_wp2
        go_roundw
        case rel => exact ⟨k + 1, _, by omega, by go_num, hown1, hk1, hb1⟩
        case measure => simp [intOf]; omega
      · have hkn : k = n := by omega
        subst hkn
        go_wp2_with (first | (at_range; refine wpList_range_own _ rfl _ 59 rfl 3 4 lawWl Try.underlying59 _ g k _ rfl hown ?_; intro w1 hrg0 hg0 hs0))
        go_frame
        have hsz0 := hbr.size
        have hlt0 := hown.lt
        have HS1 : Hid (∀ kl, Maps.has D kl = true ↔ ∃ y : Int, kl = .int .i64 y ∧ (a ≤ y ∧ y < a + k)) := Lib.hid hkeys
        go_loopw [9] (fun _ w2 => ∃ (left : Lit → Bool) (cnt : Nat) (D : DataW Nat), w2.ranges Try.prog 3 (plainElem Try.prog 4) g wr.heap.size k D left cnt ∧ Hid (KeyIs D (fun y => a ≤ y ∧ y < a + k ∧ (p y = true ∨ left (.int .i64 y) = true))) ∧ Below w.heap.size w w2) (fun _ w2 => w2.rangeLeft g wr.heap.size)
        case atStart =>
          refine ⟨_, _, D, hrg0, Lib.hid ?_, hbr.grown hg0 hsz0 (by simp)⟩
          refine hkeys.congr fun y => ⟨fun h => ⟨h.1, h.2, .inr ?_⟩, fun h => ⟨h.1, h.2.1⟩⟩
          exact (hkeys _).2 ⟨y, rfl, h⟩
        case round =>
          obtain ⟨left, cnt, D2, hrg, hkeys2, hb2⟩ := hrel
          go_wp2_with (first | (at_next; refine wpList_next_ranges _ rfl _ rfl 3 lawWl (plainElem Try.prog 4) (Value.int .i64) (fun v : Value => v) (fun key kl hkey => by obtain ⟨x, rfl, _⟩ := Maps.keyOf_int_inv Try.underlying3 hkey; exact ⟨x, rfl⟩) (fun v y hv => ⟨v, rfl⟩) _ _ _ _ _ _ rfl hrg ?_ ?_))
          · -- nothing is left
            intro _ hl0
            have hown2 := hrg.owns
            have hk2 := Lib.hid (hkeys2.out.congr (S' := LftWl p a k 0) (fun y => by
              unfold LftWl
              rw [hl0]
              constructor
              · rintro ⟨h1, h2, h3 | h3⟩
                · exact ⟨by omega, h2, h3⟩
                · cases h3
              · rintro ⟨h1, h2, h3⟩
                exact ⟨by omega, h2, .inl h3⟩))
            go_wp2
            go_step3
            simp only [Exit.then]
            rename_i K hK
            refine hK _ _ ?_
            refine wp_mono (pass _ _ ⟨0, k, _, D2, ⟨_, _, _, _, _, _, _, _, _, _, _, _, _, _, _, _, _, _, _, _, _, _, _, _, _, _, _, _, _, _, _, _, _, _, _, _, _, _, _, _, _, _, _, _, _, _, _, _, _, rfl⟩, Lib.hid ⟨hown2, hk2.out, Nat.zero_le _, own_nil _ _, hb2⟩⟩) ?_
            intro e a w h
            cases e <;> first | exact h | exact ⟨h.1, h.2.1⟩
          · -- an entry has come
            intro x c kl y1 y2 w3 cnt3 hkey hlk hvy hat hrg3 hlt3 hg3 hs3 hen
            obtain ⟨x', ex, rfl, hwx⟩ := Maps.keyOf_int_inv Try.underlying3 hkey
            cases ex
            have hhas := Maps.has_true_of_atKey hat
            obtain ⟨y', ey, hy1, hy2, _⟩ := (hkeys2.out _).1 hhas
            cases ey
            obtain ⟨j, rfl⟩ : ∃ j : Nat, x = a + j := ⟨(x - a).toNat, by omega⟩
            have hj : j < k := by omega
            have hb3 : Below w.heap.size w w3 := hb2.grown hg3 hb2.size (fun i hi => by cases hi; omega)
            cases hp : p (a + j) with
            | true =>
              have HQ1 := Lib.hid (fun (W : World) (hB : Below w.heap.size w W) => (show Calls Try.prog 35 #[.int .i64 (a + j), .pointer (some ⟨q0, 0, none⟩)] W (Ret (.bool true) W) from by rw [← hp]; exact HQ.out W hB j hj))
              have hk3 := Lib.hid (hkeys2.out.congr (S' := fun y => a ≤ y ∧ y < a + k ∧ (p y = true ∨ (left (.int .i64 y) && !(Lit.int .i64 y).sameKey (.int .i64 (a + j))) = true)) (fun y => by
                rw [sameKey_int]
                by_cases e : y = a + j
                · subst e; simp [hp]
                · simp [e]))
              clear hp hkeys2 hat hvy hkey
              go_wp2_with (first | (go_at_call 35; refine (HQ1.out _ hb3).mono ?_; rintro e w4 ⟨rfl, hcall⟩; have hb4 : Below w.heap.size w w4 := hb3.trans (hcall.mono hb3.size); have hrg4 := hrg3.kept (below_grown hcall none) (by simp) (by simp); clear hcall))
              go_roundw
              case rel => exact ⟨_, cnt3, D2, hrg4, hk3, hb4⟩
              case measure => rw [hrg4.left_eq, hrg.left_eq]; exact hlt3
            | false =>
              have HQ1 := Lib.hid (fun (W : World) (hB : Below w.heap.size w W) => (show Calls Try.prog 35 #[.int .i64 (a + j), .pointer (some ⟨q0, 0, none⟩)] W (Ret (.bool false) W) from by rw [← hp]; exact HQ.out W hB j hj))
              have hk3 := Lib.hid ((hkeys2.out.del (a + j)).congr (S' := fun y => a ≤ y ∧ y < a + k ∧ (p y = true ∨ (left (.int .i64 y) && !(Lit.int .i64 y).sameKey (.int .i64 (a + j))) = true)) (fun y => by
                rw [sameKey_int]
                by_cases e : y = a + j
                · subst e; simp [hp]
                · simp [e]))
              clear hp hkeys2 hat hvy
              go_wp2_with (first | (go_at_call 35; refine (HQ1.out _ hb3).mono ?_; rintro e w4 ⟨rfl, hcall⟩; have hb4 : Below w.heap.size w w4 := hb3.trans (hcall.mono hb3.size); have hrg4 := hrg3.kept (below_grown hcall none) (by simp) (by simp); clear hcall) | (at_delete; refine wpList_delete_ranges _ rfl _ _ 59 3 rfl 4 lawWl Try.underlying59 _ _ _ _ _ _ _ rfl hrg4 _ _ rfl hkey ?_; intro w5 cnt5 hrg5 hle5 hturn5; go_frame))
              rw [Maps.strike_twice] at hrg5
              have hb5 : Below w.heap.size w w5 := hb4.grown hturn5.grown hb4.size (fun i hi => by cases hi; omega)
              go_roundw
              case rel => exact ⟨_, cnt5, _, hrg5, hk3, hb5⟩
              case measure => rw [hrg5.left_eq, hrg.left_eq]; omega
  case pass =>
    rintro a' wr ⟨k, m, v, D, ⟨u3, u4, u5, u6, u8, u9, u11, u12, u13, u14, u15, u16, u17, u18, u19, u20, u21, u22, u23, u24, u25, u26, u27, u28, u29, u30, u31, u32, u33, u34, u35, u36, u37, u38, u39, u40, u41, u42, u43, u44, u45, u46, u47, u48, u49, u50, u51, u52, u53, rfl⟩, HAT⟩
    have hb := HAT.out.below
    have hsz := hb.size
    have hown := HAT.out.map
    have hlt0 := hown.lt
    have hmu := muYWl_eq hown
    have HMU := Lib.hid hmu
    clear hmu
    have hgr := HAT.out.le
    have hwg : w.heap.size ≤ g := by omega
    have hwg2 : g ≤ w.heap.size := by omega
    clear hg
    by_cases h0 : Maps.size D = 0
    · -- nothing is left
      have hno := HAT.out.keys.none (hown.tidy lawWl) h0
      have HR := Lib.hid (show yF p a n = yF p a k from yF_skip n hgr fun j h1 h2 => by
        cases e : p (a + j) with
        | false => rfl
        | true => exact absurd ⟨by omega, by omega, e⟩ (hno (a + j)))
      clear hno
      have hs0 : ((Maps.size D : Nat) : Int) = 0 := by omega
      go_wp2_with (first | (at_len; refine wpList_len_own _ rfl _ 59 rfl 3 4 Try.underlying59 _ g m _ rfl hown ?_))
      go_ret
      rw [HR.out]
      exact ⟨v, rfl, HAT.out.own.mono (by omega), hb⟩
    · have hs0 : ¬ ((Maps.size D : Nat) : Int) = 0 := by omega
      have hs0b : (((Maps.size D : Nat) : Int) == 0) = false := beq_eq_false_iff_ne.2 hs0
      have HE := Lib.hid (HAT.out.keys.some (hown.tidy lawWl) (by
        intro es he
        obtain ⟨es', he', _, hk'⟩ := hown.entries lawWl
        rw [he] at he'
        cases he'
        exact hk') h0)
      go_wp2_with (first | (at_len; refine wpList_len_own _ rfl _ 59 rfl 3 4 Try.underlying59 _ g m _ rfl hown ?_) | (at_range; refine wpList_range_own _ rfl _ 59 rfl 3 4 lawWl Try.underlying59 _ g m _ rfl hown ?_; intro w1 hrg0 hg0 hs1))
      go_frame
      have hvr : v.ownBlock = none ∨ v.ownBlock ≠ some wr.heap.size := by
        rcases HAT.out.own.block with h | ⟨q, h, _, hq⟩
        · exact .inl h
        · refine .inr fun e => ?_
          rw [h] at e; cases e; omega
      go_loopw [11, 12] (fun u _ w2 => ∃ l : Int, u = .int .i64 l ∧ MinAtWl g wr.heap.size m D p a b n k v w l w2) (fun _ _ w2 => w2.rangeLeft g wr.heap.size)
      case atStart =>
        obtain ⟨y0, hy0⟩ := HE.out
        have hy1 := hy0.1
        have hy2 := hy0.2.1
        refine ⟨b, rfl, ⟨⟨_, _, hrg0, ?_, .inr rfl, ⟨Int.le_refl _, by omega⟩, ?_, hb.grown hg0 hsz (by simp)⟩⟩⟩
        · intro y hy hl
          have := (HAT.out.keys _).2 ⟨y, rfl, hy⟩
          rw [this] at hl; cases hl
        · exact World.ownsRow.kept HAT.out.own hg0 (by cases hv : v.ownBlock <;> simp)
      case round =>
        obtain ⟨l, rfl, HREL⟩ := hrel
        obtain ⟨left, cnt, hrg, hall0, hin0, ⟨hlb, hal⟩, ho0, hb2⟩ := HREL.ex
        have hall := Lib.hid hall0
        have hin := Lib.hid hin0
        have ho := Lib.hid ho0
        clear hall0 hin0 ho0 HREL
        go_wp2_with (first | (at_next; refine wpList_next_ranges _ rfl _ rfl 3 lawWl (plainElem Try.prog 4) (Value.int .i64) (fun v : Value => v) (fun key kl hkey => by obtain ⟨x, rfl, _⟩ := Maps.keyOf_int_inv Try.underlying3 hkey; exact ⟨x, rfl⟩) (fun v y hv => ⟨v, rfl⟩) _ _ _ _ _ _ rfl hrg ?_ ?_))
        · intro _ hl0
          have hmin : ∀ y, LftWl p a n k y → l ≤ y := fun y hy => hall.out y hy (hl0 _)
          have hL : LftWl p a n k l := by
            rcases hin.out with h | h
            · exact h
            · obtain ⟨y, hy⟩ := HE.out
              have h1 := hmin y hy
              have h2 := hy.2.1
              rw [show l = y by omega]; exact hy
          have hk1 := hL.1
          have hk2 := hL.2.1
          obtain ⟨i, rfl⟩ : ∃ i : Nat, l = a + i := ⟨(l - a).toNat, by omega⟩
          have HY := Lib.hid (yF_take (p := p) (a := a) (k := k) (l := i) (by omega) (fun j h1 h2 => by
            cases e : p (a + j) with
            | false => rfl
            | true => have := hmin (a + j) ⟨by omega, by omega, e⟩; omega) hL.2.2)
          have HK4 := Lib.hid ((HAT.out.keys.del (a + i)).congr (S' := LftWl p a n (i + 1)) (fun y => by
            constructor
            · rintro ⟨hy, hne⟩
              have := hmin y hy
              exact ⟨by omega, hy.2.1, hy.2.2⟩
            · rintro ⟨h1, h2, h3⟩
              exact ⟨⟨by omega, h2, h3⟩, by omega⟩))
          have HH := Lib.hid ((HAT.out.keys (.int .i64 (a + i))).2 ⟨_, rfl, hL⟩)
          have hown2 := hrg.owns
          have hlen := yF_length p a k
          have hvg : v.ownBlock ≠ some g := by
            rcases HAT.out.own.block with h | ⟨q, h, hq, _⟩
            · rw [h]; simp
            · rw [h]; intro e; cases e; omega
          have hwf := wfWl (a + i) (by omega)
          clear hmin hL hall hin
          go_wp2_with (first | (at_delete; refine wpList_delete_own _ rfl _ _ 59 3 rfl 4 lawWl Try.underlying59 _ g m _ rfl hown2 _ _ rfl (keyOf_int_mk Try.underlying3 hwf) ?_; intro w3 hown3 hturn3; have ho3 := Lib.hid (Own.grown ho.out hturn3.grown hvg); have hb3 : Below w.heap.size w w3 := hb2.grown hturn3.grown hb2.size (fun i hi => by cases hi; omega); have hsz3 := hb3.size; go_frame) | (at_builtin; refine wpList_append_own _ rfl _ _ 32 rfl (g + 1) 3 i0 (.int .i64 0) 1 8 Try.underlying32 hi hz0 hz1 hz2 rfl (by decide) _ _ _ rfl (World.ownsRow.alloc ho3.out _) ⟨w3.heap.size, 0, none⟩ 1 1 [.int .i64 (a + i)] rfl rfl (newCell _ _ _) (oneInt _) ?c3 ?c4 ?c5 ?_))
          case c3 => unfold maxLen; omega
          case c4 => have := hown3.lt; simp; omega
          case c5 => simp; omega
          intro v' w4 hown' hgrow _
          have hb4 := below_push hb3 (ho3.out.mono (by omega)) hgrow
          have ho4 := own_push hown'
          rw [← HY.out] at ho4
          have hown4 := (hown3.alloc _).kept hgrow (fun e => hvg e.symm)
          have hsd : Maps.size (D.del (.int .i64 (a + i))) < Maps.size D := by
            have := Maps.size_del (k := .int .i64 (a + i)) (hown2.tidy lawWl)
            rw [HH.out] at this
            simp at this
            omega
          clear hown' hgrow
          go_wp2
          go_step3
          refine ⟨rfl, ⟨i + 1, m, v', _, ⟨_, _, _, _, _, _, _, _, _, _, _, _, _, _, _, _, _, _, _, _, _, _, _, _, _, _, _, _, _, _, _, _, _, _, _, _, _, _, _, _, _, _, _, _, _, _, _, _, _, rfl⟩, Lib.hid ⟨hown4, HK4.out, by omega, ho4, hb4⟩⟩, ?_⟩
          rw [HMU.out, muYWl_eq hown4]
          exact hsd
        · intro x c kl y1 y2 w3 cnt3 hkey hlk hvy hat hrg3 hlt3 hg3 hs3 hen
          obtain ⟨x', ex, rfl, hwx⟩ := Maps.keyOf_int_inv Try.underlying3 hkey
          cases ex
          have hhas := Maps.has_true_of_atKey hat
          obtain ⟨y', ey, hy⟩ := (HAT.out.keys _).1 hhas
          cases ey
          have hx1 := hy.1
          have hx2 := hy.2.1
          have HXL := Lib.hid hy
          have ho3 := Lib.hid (World.ownsRow.kept ho.out hg3 hvr)
          have hb3 : Below w.heap.size w w3 := hb2.grown hg3 hb2.size (fun i hi => by cases hi; omega)
          clear hy hat hvy hkey hhas
          by_cases hlx : l ≤ x
          · skip
            have A1 : Hid (∀ y, LftWl p a n k y → (left (.int .i64 y) && !(Lit.int .i64 y).sameKey (.int .i64 x)) = false → l ≤ y) := Lib.hid (by
              intro y hy hl
              rw [sameKey_int] at hl
              by_cases e : y = x
              · omega
              · have := hall.out y hy (by simpa [e] using hl)
                omega)
            have A2 : Hid (LftWl p a n k l ∨ l = b) := hin
            clear hall hin HXL
            go_wp2
            go_roundw
            case rel =>
              first | exact ⟨_, _, _, _, _, _, _, _, _, ⟨_, rfl, ⟨⟨_, cnt3, hrg3, A1.out, A2.out, ⟨by omega, by omega⟩, ho3.out, hb3⟩⟩⟩, rfl⟩ | exact ⟨x, by rw [if_pos (by omega)], ⟨⟨_, cnt3, hrg3, A1.out, A2.out, ⟨by omega, by omega⟩, ho3.out, hb3⟩⟩⟩ | exact ⟨_, rfl, ⟨⟨_, cnt3, hrg3, A1.out, A2.out, ⟨by omega, by omega⟩, ho3.out, hb3⟩⟩⟩ | exact ⟨⟨_, cnt3, hrg3, A1.out, A2.out, ⟨by omega, by omega⟩, ho3.out, hb3⟩⟩
            case measure => rw [hrg3.left_eq, hrg.left_eq]; exact hlt3
          · skip
            have A1 : Hid (∀ y, LftWl p a n k y → (left (.int .i64 y) && !(Lit.int .i64 y).sameKey (.int .i64 x)) = false → x ≤ y) := Lib.hid (by
              intro y hy hl
              rw [sameKey_int] at hl
              by_cases e : y = x
              · omega
              · have := hall.out y hy (by simpa [e] using hl)
                omega)
            have A2 : Hid (LftWl p a n k x ∨ x = b) := Lib.hid (.inl HXL.out)
            clear hall hin HXL
            go_wp2
            go_roundw
            case rel =>
              first | exact ⟨_, _, _, _, _, _, _, _, _, ⟨_, rfl, ⟨⟨_, cnt3, hrg3, A1.out, A2.out, ⟨by omega, by omega⟩, ho3.out, hb3⟩⟩⟩, rfl⟩ | exact ⟨x, by rw [if_pos (by omega)], ⟨⟨_, cnt3, hrg3, A1.out, A2.out, ⟨by omega, by omega⟩, ho3.out, hb3⟩⟩⟩ | exact ⟨_, rfl, ⟨⟨_, cnt3, hrg3, A1.out, A2.out, ⟨by omega, by omega⟩, ho3.out, hb3⟩⟩⟩ | exact ⟨⟨_, cnt3, hrg3, A1.out, A2.out, ⟨by omega, by omega⟩, ho3.out, hb3⟩⟩
            case measure => rw [hrg3.left_eq, hrg.left_eq]; exact hlt3
end Go.Proofs.Ytmidobhfahpkcab
