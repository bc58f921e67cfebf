/- The model's own gathering of sets with a product. -/
import Derived.Test.YtmdhdbkeiennmaaSet0
import Derived.Test.YtmdhdbkeiennmaaOwnI
import Derived.Test.YtmdhdbkeiennmaaGood
import Derived.Deep.RegionWith
set_option linter.unusedVariables false
set_option linter.unusedSimpArgs false
namespace Go.Proofs.Ytmdhdbkeiennmaa
open Go.RowKit

theorem boxL {W : World} {k : Nat} {v : Value} {t : TypeId} (h : W.heap[k]? = some (.cells #[v] t (0, 0))) : W.cell? ⟨k, 0, none⟩ = some v ∧ W.frozen? ⟨k, 0, none⟩ = false := by
  refine ⟨by simp [World.cell?, h], by simp [World.frozen?, h]⟩
theorem box_newL {W : World} {k : Nat} {A : Obj} (hk : k = W.heap.size) : (W.alloc A).heap[k]? = some A := by
  subst hk; exact heap_alloc_new W A
/-- From which age on the next child is. -/
def fromL (l : List Int) : Int := if l.length = 0 then 1 else l.getD (l.length - 1) 0
theorem fromL_snoc (l : List Int) (a : Int) : fromL (l ++ [a]) = a := by
  unfold fromL
  rw [if_neg (by simp), getD_last]
theorem step_append_mine {P : Program} {w : World} {ops : Array Oper} {o : Oper} {a : Act} {K : Act → World → Prop} {Q : Exit → Act → World → Prop} {E : Prop} (hgd : o.guard = none) (s x : Operand) (t : TypeId)
    (ho : o.op = .call { callee := .builtin .append, args := #[s, x], argTypes := #[t, t] })
    (base : Nat) (e : TypeId) (i : TypeInfo) (z : Value) (size bytes : Nat) (ht : P.underlying t = some (.slice e)) (hi : P.info? e = some i) (hz : i.zero = some z)
    (hsize : i.size = size) (hby : i.bytes = bytes) (hzs : z.cells.size = size) (hsz : 0 < size)
    (v : Value) (n : Nat) (xs : List Value) (hs : a.eval s = v) (hown : w.ownsRow base e size v n xs)
    (ad : Addr) (m c : Nat) (news : List Value) (hx : a.eval x = .slice (some ad) m c) (hl : news.length = m * size) (hnews : ∀ j u, news[j]? = some u → w.cell? (ad.add j) = some u) (h1 : ∀ u ∈ news, u.oneCell' = true)
    (h63 : n + m ≤ maxLen) (hbytes : (n + m) * bytes ≤ 140737488355328) (hbase : base ≤ w.heap.size)
    (h : ∀ v' w', w'.ownsRow base e size v' (n + m) (xs ++ news) → w.grownBy w' v.ownBlock → K (a.put o.dst v') w') :
    if Region.wanted o (yielded ops a.tmps) = true then Oper.wp P o a w K Q else E := by
  have hw : Region.wanted o (yielded ops a.tmps) = true := by simp [Region.wanted, hgd]
  rw [if_pos hw]
  exact wp_append_own w s x t ho base e i z size bytes ht hi hz hsize hby hzs hsz v n xs hs hown ad m c news hx hl hnews h1 h63 hbytes hbase fun v' w' h2 h3 _ => h v' w' h2 h3
theorem cellAtKept {W W1 : World} {g : Nat} {x : Value} (hc : W.cell? ⟨g, 0, none⟩ = some x) (hb : Below W.heap.size W W1) : ∀ j u, [x][j]? = some u → W1.cell? ((⟨g, 0, none⟩ : Addr).add j) = some u := by
  intro j u hj
  match j, hj with
  | 0, hj =>
    simp at hj
    subst hj
    rw [WideShapes.add_plain]
    exact (hb.cell (p := ⟨g, 0, none⟩) (World.block_lt_of_cell? W _ hc)).trans hc
def LookAt (B go : Nat) (n : Nat) : Prop :=
  ∀ (left : Int) (bgn : List Int) (vb : Value) (UB Ud : Nat) (D : List (List Int)) (v : Value) (vs : List Value) (w : World) (total : List (List Int)),
    bgn.length + n ≤ 4 → 1 ≤ bgn.length + n → (bgn = [] → vb = .slice none 0 0) → (∀ x ∈ bgn, 1 ≤ x ∧ x ≤ 20) → (1 ≤ left ∧ left ≤ 160000) → go < B →
    w.cell? ⟨go, 0, none⟩ = some v → w.frozen? ⟨go, 0, none⟩ = false → OwnSS B Ud w v vs D → B ≤ Ud → Ud ≤ w.heap.size → Own UB w vb bgn → UB ≤ w.heap.size → Ud ≤ UB →
    total = D ++ lookL n (21 - fromL bgn).toNat left bgn → total.length ≤ 160000 →
    Calls Try.prog 63 #[.int .i64 n, .int .i64 left, vb, .pointer (some ⟨go, 0, none⟩)] w (RetMore B go total w)

set_option maxHeartbeats 4000000 in
set_option maxRecDepth 100000 in
theorem look_leaf (B go : Nat) : LookAt B go 0 := by
  intro left bgn vb UB Ud D v vs w total h4 h1 hvb hg hleft hgo hc hf hO hBU hUw hbg hUB hUU htot htl
  obtain ⟨i0, hi, hz0, hz1, hz2⟩ := info_parts infoSlice
  rw [lookL_zero] at htot
  rcases hbg.cases with ⟨rfl, rfl⟩ | ⟨gb, cb, rfl, _⟩
  · simp at h1
  have HB := Lib.hid hbg
  have hone := oneU hbg
  have HO := Lib.hid hO
  have hout := hO.outer
  have HVL := Lib.hid hO.len
  clear hbg hO hvb
  by_cases h0 : left = 1
  · subst h0
    rw [if_pos rfl] at htot
    have HTot := Lib.hid htot
    have hDl : D.length + 1 ≤ 160000 := by have := htl; rw [htot] at this; simpa using this
    clear htot
    go_enter Try.func63, Try.ntmps63
    go_wp2_with (first | (at_builtin; refine wpList_append_own _ rfl _ _ 22 rfl B 30 i0 (.slice none 0 0) 1 24 Try.underlying22 hi hz0 hz1 hz2 rfl (by decide) _ _ _ rfl (World.ownsRow.alloc hout _) ⟨w.heap.size, 0, none⟩ 1 1 [.slice (some ⟨gb, 0, none⟩) bgn.length cb] rfl rfl (newCellAt _ _ _ _ rfl) hone ?c4 ?c5 ?c6 ?_))
    case c4 => have := HVL.out; unfold maxLen; omega
    case c5 => have := HVL.out; omega
    case c6 => simp; omega
    intro v' w1 hown' hgrow _
    have hbo := ButO.grown (go := go) hout hgrow
    have hb1 := hbo.size
    have hO1 := HO.out.pushRow hBU hUw (HB.out.mono hUU) hown' hgrow
    have hk := hbo.block go (World.block_lt_of_cell? w _ hc) 
    have hgg : w1.heap[go]? = w.heap[go]? := by
      have e := hgrow.block go (by simp; have := World.block_lt_of_cell? w _ hc; simp at this; omega) (fun e => by
        have := (World.ownsRow.lt hout go e.symm).1
        omega)
      rw [e, Below.heap_alloc _ _ _ (World.block_lt_of_cell? w _ hc)]
    have hc1 : w1.cell? ⟨go, 0, none⟩ = some v := (World.cell?_of_block (w := w) hgg).trans hc
    have hf1 : w1.frozen? ⟨go, 0, none⟩ = false := (World.frozen?_of_block (w := w) hgg).trans hf
    have HO1 := Lib.hid hO1
    have HBo := Lib.hid hbo
    clear hk hown' hgrow hO1 hbo hgg hout
    rcases HO1.out.cases with ⟨_, h0⟩ | ⟨g', c', rfl, _⟩
    · simp at h0
    go_wp2
    go_end0
    refine ⟨rfl, _, vs ++ [.slice (some ⟨gb, 0, none⟩) bgn.length cb], cellIn_set _ _ _ _ hc1, ?_, ?_, HBo.out.set 0 _⟩
    · rw [← hf1]; exact World.frozen?_setCell w1 ⟨go, 0, none⟩ _ _
    · rw [HTot.out]
      have hs : ∀ x, (w1.setCell ⟨go, 0, none⟩ x).heap.size = w1.heap.size := fun x => by simp [World.setCell]
      rw [hs]
      have hq := HO1.out
      simp only [List.length_append, List.length_singleton] at hq
      exact hq.keep fun k h1 _ => Below.heap_setCell w1 ⟨go, 0, none⟩ _ k (by simp; omega)
  · rw [if_neg h0, List.append_nil] at htot
    subst htot
    clear hout
    go_enter Try.func63, Try.ntmps63
    go_wp2
    go_end0
    exact ⟨rfl, v, vs, hc, hf, HO.out.upTo _ hUw, ButO.refl _ _ _⟩

set_option maxHeartbeats 8000000 in
set_option maxRecDepth 100000 in
theorem look_step (B go : Nat) (n : Nat) (ih : LookAt B go n) : LookAt B go (n + 1) := by
  intro left bgn vb UB Ud D v vs w total h4 h1 hvb hg hleft hgo hc hf hO hBU hUw hbg hUB hUU htot htl
  obtain ⟨i0, hi, hz0, hz1, hz2⟩ := info_parts infoInt
  have IH := Lib.hid ih
  have HO := Lib.hid hO
  have HTl := Lib.hid htl
  have HG := Lib.hid hg
  have HT := Lib.hid htot.symm
  have HBg := Lib.hid hbg
  obtain ⟨N, hN⟩ : ∃ N : Nat, N = n + 1 := ⟨_, rfl⟩
  rw [show ((n + 1 : Nat) : Int) = (N : Int) by rw [hN]]
  have hnz : ((N : Int) == 0) = false := by rw [beq_eq_false_iff_ne]; omega
  have hnm : (N : Int) - 1 = (n : Int) := by omega
  have hnw : IntKind.i64.wrap (n : Int) = (n : Int) := IntWalk.i64_in _ (by omega)
  clear hN
  have hbgo : ∀ g, vb.ownBlock = some g → g ≠ go := fun g e => by have := (World.ownsRow.lt hbg g e).1; omega
  have hl4 : bgn.length ≤ 3 := by omega
  clear ih hO htl hg htot
  rcases hbg.cases with ⟨rfl, rfl⟩ | ⟨gb, cb, rfl, hb1, hb2, hb3, hb4, hbI, hbF⟩
  · have HLO : Hid (1 ≤ fromL [] ∧ fromL [] ≤ 21) := Lib.hid (show (1 : Int) ≤ 1 ∧ (1 : Int) ≤ 21 by omega)
    have e0 : fromL [] = 1 := rfl
    rw [e0] at HLO HT
    generalize hbge : ([] : List Int) = bgn at HG HT HBg hl4
    have hbn : bgn.length + (n + 1) ≤ 4 := by rw [← hbge]; simp at h4 ⊢; omega
    have HLL : Hid (bgn.length = 0) := Lib.hid (by rw [← hbge]; rfl)
    clear hbge h4 h1 hvb hbg
    go_enter Try.func63, Try.ntmps63
    go_wp2_with fail
    go_loopw [9] (fun u wr => ∃ (age : Int) (D' : List (List Int)) (v' : Value) (vs' : List Value), u = .int .i64 age ∧ 1 ≤ age ∧ age ≤ 21 ∧ wr.cell? ⟨go, 0, none⟩ = some v' ∧ wr.frozen? ⟨go, 0, none⟩ = false ∧ Hid (OwnSS B wr.heap.size wr v' vs' D') ∧ ButO B go w wr ∧ Hid (D' ++ lookL (n + 1) (21 - age).toNat left bgn = total)) (fun u _ => (41 - intOf u).toNat)
    case atStart => exact ⟨_, D, v, vs, rfl, HLO.out.1, HLO.out.2, hc, hf, Lib.hid (HO.out.upTo _ hUw), ButO.refl _ _ _, HT⟩
    case round =>
      obtain ⟨age, D', v', vs', rfl, ha1, ha2, hc', hf', HO', hbo, HT'⟩ := hrel
      have hsz := hbo.size
      by_cases h20 : age ≤ 20
      · have ek : (21 - age).toNat = (20 - age).toNat + 1 := by omega
        have ek2 : 20 - (((20 - age).toNat : Nat) : Int) = age := by omega
        have ek3 : (21 - (age + 1)).toNat = (20 - age).toNat := by omega
        have HT1 := Lib.hid HT'.out
        rw [ek, lookL_succ, ek2] at HT1
        rw [← ek, ← ek3] at HT1
        have hmod : left.tmod age = left % age := Int.tmod_eq_emod_of_nonneg (by omega)
        have hdiv : left.tdiv age = left / age := Int.tdiv_eq_ediv_of_nonneg (by omega)
        have hne : ¬ age = 0 := by omega
        have hne2 : (age == 0) = false := by rw [beq_eq_false_iff_ne]; omega
        have hqm := Int.mul_ediv_add_emod left age
        have hrm : 0 ≤ left % age ∧ left % age < age := ⟨Int.emod_nonneg _ hne, Int.emod_lt_of_pos _ (by omega)⟩
        have hwm : IntKind.i64.wrap (left % age) = left % age := IntWalk.i64_in _ (by omega)
        have hq0 : 0 ≤ left / age := Int.ediv_nonneg (by omega) (by omega)
        have hq1 : left / age ≤ left := Int.ediv_le_self _ (by omega)
        have hwq : IntKind.i64.wrap (left / age) = left / age := IntWalk.i64_in _ (by omega)
        clear ek ek2 ek3
        by_cases hal : left % age = 0
        · rw [if_pos hal] at HT1
          have HT2 : Hid ((D' ++ lookL n (21 - age).toNat (left / age) (bgn ++ [age])) ++ lookL (n + 1) (21 - (age + 1)).toNat left bgn = total) := Lib.hid (by
            rw [List.append_assoc]; exact HT1.out)
          have hq2 : 1 ≤ left / age := by
            rcases Int.lt_or_le (left / age) 1 with h | h
            · exfalso
              have h0 : left / age = 0 := by omega
              rw [h0, hal, Int.mul_zero] at hqm
              omega
            · exact h
          have HB1 := Lib.hid (HBg.out.butO (w' := wr) hbo hbgo)
          have HOwn := Lib.hid (fun (W : World) (hb : Below wr.heap.size wr W) => ((ownOf_any UB (Value.slice none 0 0) bgn W (by have := HLL.out; omega) (HB1.out.kept hb)).mono (fun e W' h => (show ∃ u, e = .returned u ∧ Own wr.heap.size W' u bgn ∧ Below wr.heap.size wr W' ∧ Below W.heap.size W W' from by
            obtain ⟨u, he, hu, hb2⟩ := h
            exact ⟨u, he, hu.mono hb.size, hb.trans (hb2.mono hb.size), hb2⟩))))
          have HIH := Lib.hid (fun (W : World) (u : Value) (hb : Below wr.heap.size wr W) (hu : Own wr.heap.size W u (bgn ++ [age])) =>
            IH.out (left / age) (bgn ++ [age]) u wr.heap.size wr.heap.size D' v' vs' W (D' ++ lookL n (21 - age).toNat (left / age) (bgn ++ [age])) (by have := HLL.out; simp; omega) (by have := HLL.out; simp; omega) (by simp) (by intro x hx; rcases List.mem_append.1 hx with hx | hx; exact HG.out x hx; simp at hx; omega) (by omega) hgo (below_cells2 hb hc') ((hb.frozen (p := ⟨go, 0, none⟩) (World.block_lt_of_cell? wr _ hc')).trans hf') (HO'.out.kept (Nat.le_refl _) hb) (by omega) hb.size hu hb.size (by omega)
              (by rw [fromL_snoc]) (by have := HTl.out; rw [← HT2.out, List.length_append] at this; omega))
          have hkl := World.block_lt_of_cell? wr _ hc'
          have HB0 := Lib.hid (show Below wr.heap.size wr wr.drew from (Below.refl _ _).drew)
          have HOA := Lib.hid (fun (W : World) (A : Obj) (u : Value) (hu : Own wr.heap.size W u bgn) => (show Own wr.heap.size (W.alloc A) u bgn from World.ownsRow.alloc hu A))
          have HPush := Lib.hid (fun (W W2 : World) (u u2 : Value) (hb : Below wr.heap.size wr W) (hu : Own wr.heap.size W u bgn) (hg : W.grownBy W2 u.ownBlock) (hr : W2.ownsRow wr.heap.size 3 1 u2 (bgn.length + 1) (bgn.map (Value.int .i64) ++ [.int .i64 age])) => (show Below wr.heap.size wr W2 ∧ Own wr.heap.size W2 u2 (bgn ++ [age]) from ⟨below_ownAbove (B := wr.heap.size) hb hu hg (Nat.le_refl _), own_push hr⟩))
          clear hqm hrm hq0 hq1 hsz
          go_wp2_with fail
          refine wp_region_any (by kernel_rfl) ?_
          change wpAny _ _ _ _ _ _ _ (World.drew _)
          refine wpAny_take (i := 0) (v := ?_) rfl (by kernel_rfl) (by kernel_rfl) (by kernel_rfl) (fun _ _ _ h => h) (Or.inl ⟨by rfl, ?_⟩) ?_
          rotate_left
          · intro w; go_simp; first | done | with_reducible rfl
          refine wpAny_take (i := 1) (v := ?_) rfl (by kernel_rfl) (by kernel_rfl) (by kernel_rfl) (fun _ _ _ h => h) (Or.inl ⟨by rfl, ?_⟩) ?_
          rotate_left
          · intro w; go_simp; first | done | with_reducible rfl
          refine wpAny_take (i := 2) (v := ?_) rfl (by kernel_rfl) (by kernel_rfl) (by kernel_rfl) (fun _ _ _ h => h) (Or.inl ⟨by rfl, ?_⟩) ?_
          rotate_left
          · intro w; go_simp; first | done | with_reducible rfl
          refine wpAny_take (i := 3) (v := ?_) rfl (by kernel_rfl) (by kernel_rfl) (by kernel_rfl) (fun _ _ _ h => h) (Or.inl ⟨by rfl, ?_⟩) ?_
          rotate_left
          · intro w; go_simp; first | done | with_reducible rfl
          refine wpAny_take (i := 4) (v := ?_) rfl (by kernel_rfl) (by kernel_rfl) (by kernel_rfl) (fun _ _ _ h => h) (Or.inl ⟨by rfl, ?_⟩) ?_
          rotate_left
          · intro w; go_simp; first | done | with_reducible rfl
          refine wpAny_take (i := 5) (v := ?_) rfl (by kernel_rfl) (by kernel_rfl) (by kernel_rfl) (fun _ _ _ h => h) (Or.inl ⟨by rfl, ?_⟩) ?_
          rotate_left
          · intro w; go_simp; first | done | with_reducible rfl
          refine wpAny_take (i := 7) (v := ?_) rfl (by kernel_rfl) (by kernel_rfl) (by kernel_rfl) (fun _ _ _ h => h) (Or.inl ⟨by rfl, ?_⟩) ?_
          rotate_left
          · intro w; go_simp; first | done | with_reducible rfl
          refine wpAny_take (i := 10) (v := ?_) rfl (by kernel_rfl) (by kernel_rfl) (by kernel_rfl) (fun _ _ _ h => h) (Or.inl ⟨by rfl, ?_⟩) ?_
          rotate_left
          · intro w; go_simp; first | done | with_reducible rfl
          refine wpAny_ready (rs := [6, 8]) (by kernel_rfl) (by simp) ?_
          refine AllReady.cons rfl (fun K hK => ?_) ?_
          · go_simp
            go_wp2_with (go_at_call 78; refine (HOwn.out _ (HB0.out)).mono ?_; rintro e w1 ⟨u, rfl, hu, hb1, hbw⟩)
            refine wpAny_ready (rs := [8]) (by kernel_rfl) (by simp) ?_
            refine AllReady.cons rfl (fun K hK => ?_) ?_
            · go_simp
              refine hK _ _ ?_
              clear hK K
              refine wpAny_ready (rs := [9]) (by kernel_rfl) (by simp) ?_
              refine AllReady.cons rfl (fun K hK => ?_) ?_
              · refine step_append_mine (by rfl) _ _ 30 (by rfl) wr.heap.size 3 i0 (.int .i64 0) 1 8 Try.underlying30 hi hz0 hz1 hz2 rfl (by decide) u bgn.length (bgn.map (Value.int .i64)) (by rfl) (HOA.out _ _ _ hu) ⟨w1.heap.size, 0, none⟩ 1 1 [.int .i64 age] (by rfl) rfl (newCell _ _ _) (oneInt _) (by have := HLL.out; unfold maxLen; omega) (by have := HLL.out; omega) (by have := hb1.size; simp; omega) ?_
                intro u2 w2 hown2 hgrow2
                obtain ⟨hb2, hu2⟩ := HPush.out _ _ _ _ (hb1.alloc hb1.size _) (HOA.out _ _ _ hu) hgrow2 hown2
                refine hK _ _ ?_
                clear hK K hown2 hgrow2
                have HCall := Lib.hid (HIH.out w2 u2 hb2 hu2)
                refine wpAny_ready (rs := [11]) (by kernel_rfl) (by simp) ?_
                refine AllReady.cons rfl (fun K hK => ?_) ?_
                · go_simp
                  go_wp2_with (go_at_call 63; refine HCall.out.mono ?_; rintro e w3 ⟨rfl, v3, vs3, hc3, hf3, ho3, hbo3⟩)
                  refine wpAny_done (by kernel_rfl) ?_ _
                  have HO3 := Lib.hid ho3
                  have hbo4 : ButO B go w w3 := (hbo.below hb2).trans hbo3
                  clear ho3 hbo3 hbo
                  go_wp2
                  go_roundw
                  case rel => exact ⟨age + 1, _, v3, vs3, by go_num, by omega, by omega, hc3, hf3, HO3, hbo4, HT2⟩
                  case measure => simp [intOf]; omega
                · exact AllReady.nil
              · exact AllReady.nil
            · exact AllReady.nil
          · refine AllReady.cons rfl (fun K hK => ?_) ?_
            · go_simp
              refine hK _ _ ?_
              clear hK K
              refine wpAny_ready (rs := [6]) (by kernel_rfl) (by simp) ?_
              refine AllReady.cons rfl (fun K hK => ?_) ?_
              · go_simp
                go_wp2_with (go_at_call 78; refine (HOwn.out _ (HB0.out.alloc (by simp) _)).mono ?_; rintro e w1 ⟨u, rfl, hu, hb1, hbw⟩)
                refine wpAny_ready (rs := [9]) (by kernel_rfl) (by simp) ?_
                refine AllReady.cons rfl (fun K hK => ?_) ?_
                · refine step_append_mine (by rfl) _ _ 30 (by rfl) wr.heap.size 3 i0 (.int .i64 0) 1 8 Try.underlying30 hi hz0 hz1 hz2 rfl (by decide) u bgn.length (bgn.map (Value.int .i64)) (by rfl) (hu) ⟨wr.heap.size, 0, none⟩ 1 1 [.int .i64 age] (by rfl) rfl (cellAtKept (boxL (box_newL (by simp))).1 hbw) (oneInt _) (by have := HLL.out; unfold maxLen; omega) (by have := HLL.out; omega) (by have := hb1.size; exact this) ?_
                  intro u2 w2 hown2 hgrow2
                  obtain ⟨hb2, hu2⟩ := HPush.out _ _ _ _ (hb1) (hu) hgrow2 hown2
                  refine hK _ _ ?_
                  clear hK K hown2 hgrow2
                  have HCall := Lib.hid (HIH.out w2 u2 hb2 hu2)
                  refine wpAny_ready (rs := [11]) (by kernel_rfl) (by simp) ?_
                  refine AllReady.cons rfl (fun K hK => ?_) ?_
                  · go_simp
                    go_wp2_with (go_at_call 63; refine HCall.out.mono ?_; rintro e w3 ⟨rfl, v3, vs3, hc3, hf3, ho3, hbo3⟩)
                    refine wpAny_done (by kernel_rfl) ?_ _
                    have HO3 := Lib.hid ho3
                    have hbo4 : ButO B go w w3 := (hbo.below hb2).trans hbo3
                    clear ho3 hbo3 hbo
                    go_wp2
                    go_roundw
                    case rel => exact ⟨age + 1, _, v3, vs3, by go_num, by omega, by omega, hc3, hf3, HO3, hbo4, HT2⟩
                    case measure => simp [intOf]; omega
                  · exact AllReady.nil
                · exact AllReady.nil
              · exact AllReady.nil
            · exact AllReady.nil
        · rw [if_neg hal, List.nil_append] at HT1
          clear hqm hrm hq0 hq1
          go_wp2
          go_roundw
          case rel => exact ⟨age + 1, D', v', vs', by go_num, by omega, by omega, hc', hf', HO', hbo, HT1⟩
          case measure => simp [intOf]; omega
      · have HE : Hid (D' = total) := Lib.hid (by
          have h := HT'.out
          have ek : (21 - age).toNat = 0 := by omega
          rw [ek, lookL_none, List.append_nil] at h
          exact h)
        go_wp2
        go_end0
        exact ⟨rfl, v', vs', hc', hf', HE.out ▸ HO'.out, hbo⟩
  · obtain ⟨L, hL⟩ : ∃ L, bgn.length = L := ⟨_, rfl⟩
    have hL1 : 1 ≤ L := by
      rcases Nat.eq_zero_or_pos L with h0 | h0
      · have := hvb (List.eq_nil_of_length_eq_zero (by omega))
        simp at this
      · exact h0
    have hlx : 1 ≤ bgn.getD (L - 1) 0 ∧ bgn.getD (L - 1) 0 ≤ 20 := by
      have hm := HG.out bgn[L - 1] (List.getElem_mem (by omega))
      simpa [List.getElem?_eq_getElem (show L - 1 < bgn.length by omega)] using hm
    have hcx : w.cell? ⟨gb, L - 1, none⟩ = some (.int .i64 (bgn.getD (L - 1) 0)) := by
      have := hbI (L - 1) (by omega)
      rwa [Nat.zero_add] at this
    have hfr : fromL bgn = bgn.getD (L - 1) 0 := by
      unfold fromL
      rw [hL, if_neg (by omega)]
    rw [hfr] at HT
    rw [hL] at HBg hbgo hl4 hb3 h4 ⊢
    have HLL := Lib.hid hL
    generalize bgn.getD (L - 1) 0 = x at hlx hcx HT
    have HLO : Hid (1 ≤ x ∧ x ≤ 21) := Lib.hid (by omega)
    have ei : (L : Int) - 1 = ((L - 1 : Nat) : Int) := by omega
    have ew : IntKind.i64.wrap ((L - 1 : Nat) : Int) = ((L - 1 : Nat) : Int) := IntWalk.i64_in _ (by omega)
    have eb1 : (0 : Int) ≤ ((L - 1 : Nat) : Int) := by omega
    have eb2 : ((L - 1 : Nat) : Int) < (L : Int) := by omega
    have eb3 : (0 : Int) < (L : Int) := by omega
    have eb4 : 0 < L := by omega
    clear hfr hL hbI hbF h1 hvb hbg
    go_enter Try.func63, Try.ntmps63
    go_wp2_with fail
    go_loopw [9] (fun u wr => ∃ (age : Int) (D' : List (List Int)) (v' : Value) (vs' : List Value), u = .int .i64 age ∧ 1 ≤ age ∧ age ≤ 21 ∧ wr.cell? ⟨go, 0, none⟩ = some v' ∧ wr.frozen? ⟨go, 0, none⟩ = false ∧ Hid (OwnSS B wr.heap.size wr v' vs' D') ∧ ButO B go w wr ∧ Hid (D' ++ lookL (n + 1) (21 - age).toNat left bgn = total)) (fun u _ => (41 - intOf u).toNat)
    case atStart => exact ⟨_, D, v, vs, rfl, HLO.out.1, HLO.out.2, hc, hf, Lib.hid (HO.out.upTo _ hUw), ButO.refl _ _ _, HT⟩
    case round =>
      obtain ⟨age, D', v', vs', rfl, ha1, ha2, hc', hf', HO', hbo, HT'⟩ := hrel
      have hsz := hbo.size
      by_cases h20 : age ≤ 20
      · have ek : (21 - age).toNat = (20 - age).toNat + 1 := by omega
        have ek2 : 20 - (((20 - age).toNat : Nat) : Int) = age := by omega
        have ek3 : (21 - (age + 1)).toNat = (20 - age).toNat := by omega
        have HT1 := Lib.hid HT'.out
        rw [ek, lookL_succ, ek2] at HT1
        rw [← ek, ← ek3] at HT1
        have hmod : left.tmod age = left % age := Int.tmod_eq_emod_of_nonneg (by omega)
        have hdiv : left.tdiv age = left / age := Int.tdiv_eq_ediv_of_nonneg (by omega)
        have hne : ¬ age = 0 := by omega
        have hne2 : (age == 0) = false := by rw [beq_eq_false_iff_ne]; omega
        have hqm := Int.mul_ediv_add_emod left age
        have hrm : 0 ≤ left % age ∧ left % age < age := ⟨Int.emod_nonneg _ hne, Int.emod_lt_of_pos _ (by omega)⟩
        have hwm : IntKind.i64.wrap (left % age) = left % age := IntWalk.i64_in _ (by omega)
        have hq0 : 0 ≤ left / age := Int.ediv_nonneg (by omega) (by omega)
        have hq1 : left / age ≤ left := Int.ediv_le_self _ (by omega)
        have hwq : IntKind.i64.wrap (left / age) = left / age := IntWalk.i64_in _ (by omega)
        clear ek ek2 ek3
        by_cases hal : left % age = 0
        · rw [if_pos hal] at HT1
          have HT2 : Hid ((D' ++ lookL n (21 - age).toNat (left / age) (bgn ++ [age])) ++ lookL (n + 1) (21 - (age + 1)).toNat left bgn = total) := Lib.hid (by
            rw [List.append_assoc]; exact HT1.out)
          have hq2 : 1 ≤ left / age := by
            rcases Int.lt_or_le (left / age) 1 with h | h
            · exfalso
              have h0 : left / age = 0 := by omega
              rw [h0, hal, Int.mul_zero] at hqm
              omega
            · exact h
          have HB1 := Lib.hid (HBg.out.butO (w' := wr) hbo hbgo)
          have HOwn := Lib.hid (fun (W : World) (hb : Below wr.heap.size wr W) => ((ownOf_any UB (Value.slice (some ⟨gb, 0, none⟩) L cb) bgn W (by have := HLL.out; omega) (HB1.out.kept hb)).mono (fun e W' h => (show ∃ u, e = .returned u ∧ Own wr.heap.size W' u bgn ∧ Below wr.heap.size wr W' ∧ Below W.heap.size W W' from by
            obtain ⟨u, he, hu, hb2⟩ := h
            exact ⟨u, he, hu.mono hb.size, hb.trans (hb2.mono hb.size), hb2⟩))))
          have HIH := Lib.hid (fun (W : World) (u : Value) (hb : Below wr.heap.size wr W) (hu : Own wr.heap.size W u (bgn ++ [age])) =>
            IH.out (left / age) (bgn ++ [age]) u wr.heap.size wr.heap.size D' v' vs' W (D' ++ lookL n (21 - age).toNat (left / age) (bgn ++ [age])) (by have := HLL.out; simp; omega) (by have := HLL.out; simp; omega) (by simp) (by intro x hx; rcases List.mem_append.1 hx with hx | hx; exact HG.out x hx; simp at hx; omega) (by omega) hgo (below_cells2 hb hc') ((hb.frozen (p := ⟨go, 0, none⟩) (World.block_lt_of_cell? wr _ hc')).trans hf') (HO'.out.kept (Nat.le_refl _) hb) (by omega) hb.size hu hb.size (by omega)
              (by rw [fromL_snoc]) (by have := HTl.out; rw [← HT2.out, List.length_append] at this; omega))
          have hkl := World.block_lt_of_cell? wr _ hc'
          have HB0 := Lib.hid (show Below wr.heap.size wr wr.drew from (Below.refl _ _).drew)
          have HOA := Lib.hid (fun (W : World) (A : Obj) (u : Value) (hu : Own wr.heap.size W u bgn) => (show Own wr.heap.size (W.alloc A) u bgn from World.ownsRow.alloc hu A))
          have HPush := Lib.hid (fun (W W2 : World) (u u2 : Value) (hb : Below wr.heap.size wr W) (hu : Own wr.heap.size W u bgn) (hg : W.grownBy W2 u.ownBlock) (hr : W2.ownsRow wr.heap.size 3 1 u2 (bgn.length + 1) (bgn.map (Value.int .i64) ++ [.int .i64 age])) => (show Below wr.heap.size wr W2 ∧ Own wr.heap.size W2 u2 (bgn ++ [age]) from ⟨below_ownAbove (B := wr.heap.size) hb hu hg (Nat.le_refl _), own_push hr⟩))
          clear hqm hrm hq0 hq1 hsz
          go_wp2_with fail
          refine wp_region_any (by kernel_rfl) ?_
          change wpAny _ _ _ _ _ _ _ (World.drew _)
          refine wpAny_take (i := 0) (v := ?_) rfl (by kernel_rfl) (by kernel_rfl) (by kernel_rfl) (fun _ _ _ h => h) (Or.inl ⟨by rfl, ?_⟩) ?_
          rotate_left
          · intro w; go_simp; first | done | with_reducible rfl
          refine wpAny_take (i := 1) (v := ?_) rfl (by kernel_rfl) (by kernel_rfl) (by kernel_rfl) (fun _ _ _ h => h) (Or.inl ⟨by rfl, ?_⟩) ?_
          rotate_left
          · intro w; go_simp; first | done | with_reducible rfl
          refine wpAny_take (i := 2) (v := ?_) rfl (by kernel_rfl) (by kernel_rfl) (by kernel_rfl) (fun _ _ _ h => h) (Or.inl ⟨by rfl, ?_⟩) ?_
          rotate_left
          · intro w; go_simp; first | done | with_reducible rfl
          refine wpAny_take (i := 3) (v := ?_) rfl (by kernel_rfl) (by kernel_rfl) (by kernel_rfl) (fun _ _ _ h => h) (Or.inl ⟨by rfl, ?_⟩) ?_
          rotate_left
          · intro w; go_simp; first | done | with_reducible rfl
          refine wpAny_take (i := 4) (v := ?_) rfl (by kernel_rfl) (by kernel_rfl) (by kernel_rfl) (fun _ _ _ h => h) (Or.inl ⟨by rfl, ?_⟩) ?_
          rotate_left
          · intro w; go_simp; first | done | with_reducible rfl
          refine wpAny_take (i := 5) (v := ?_) rfl (by kernel_rfl) (by kernel_rfl) (by kernel_rfl) (fun _ _ _ h => h) (Or.inl ⟨by rfl, ?_⟩) ?_
          rotate_left
          · intro w; go_simp; first | done | with_reducible rfl
          refine wpAny_take (i := 7) (v := ?_) rfl (by kernel_rfl) (by kernel_rfl) (by kernel_rfl) (fun _ _ _ h => h) (Or.inl ⟨by rfl, ?_⟩) ?_
          rotate_left
          · intro w; go_simp; first | done | with_reducible rfl
          refine wpAny_take (i := 10) (v := ?_) rfl (by kernel_rfl) (by kernel_rfl) (by kernel_rfl) (fun _ _ _ h => h) (Or.inl ⟨by rfl, ?_⟩) ?_
          rotate_left
          · intro w; go_simp; first | done | with_reducible rfl
          refine wpAny_ready (rs := [6, 8]) (by kernel_rfl) (by simp) ?_
          refine AllReady.cons rfl (fun K hK => ?_) ?_
          · go_simp
            go_wp2_with (go_at_call 78; refine (HOwn.out _ (HB0.out)).mono ?_; rintro e w1 ⟨u, rfl, hu, hb1, hbw⟩)
            refine wpAny_ready (rs := [8]) (by kernel_rfl) (by simp) ?_
            refine AllReady.cons rfl (fun K hK => ?_) ?_
            · go_simp
              refine hK _ _ ?_
              clear hK K
              refine wpAny_ready (rs := [9]) (by kernel_rfl) (by simp) ?_
              refine AllReady.cons rfl (fun K hK => ?_) ?_
              · refine step_append_mine (by rfl) _ _ 30 (by rfl) wr.heap.size 3 i0 (.int .i64 0) 1 8 Try.underlying30 hi hz0 hz1 hz2 rfl (by decide) u bgn.length (bgn.map (Value.int .i64)) (by rfl) (HOA.out _ _ _ hu) ⟨w1.heap.size, 0, none⟩ 1 1 [.int .i64 age] (by rfl) rfl (newCell _ _ _) (oneInt _) (by have := HLL.out; unfold maxLen; omega) (by have := HLL.out; omega) (by have := hb1.size; simp; omega) ?_
                intro u2 w2 hown2 hgrow2
                obtain ⟨hb2, hu2⟩ := HPush.out _ _ _ _ (hb1.alloc hb1.size _) (HOA.out _ _ _ hu) hgrow2 hown2
                refine hK _ _ ?_
                clear hK K hown2 hgrow2
                have HCall := Lib.hid (HIH.out w2 u2 hb2 hu2)
                refine wpAny_ready (rs := [11]) (by kernel_rfl) (by simp) ?_
                refine AllReady.cons rfl (fun K hK => ?_) ?_
                · go_simp
                  go_wp2_with (go_at_call 63; refine HCall.out.mono ?_; rintro e w3 ⟨rfl, v3, vs3, hc3, hf3, ho3, hbo3⟩)
                  refine wpAny_done (by kernel_rfl) ?_ _
                  have HO3 := Lib.hid ho3
                  have hbo4 : ButO B go w w3 := (hbo.below hb2).trans hbo3
                  clear ho3 hbo3 hbo
                  go_wp2
                  go_roundw
                  case rel => exact ⟨age + 1, _, v3, vs3, by go_num, by omega, by omega, hc3, hf3, HO3, hbo4, HT2⟩
                  case measure => simp [intOf]; omega
                · exact AllReady.nil
              · exact AllReady.nil
            · exact AllReady.nil
          · refine AllReady.cons rfl (fun K hK => ?_) ?_
            · go_simp
              refine hK _ _ ?_
              clear hK K
              refine wpAny_ready (rs := [6]) (by kernel_rfl) (by simp) ?_
              refine AllReady.cons rfl (fun K hK => ?_) ?_
              · go_simp
                go_wp2_with (go_at_call 78; refine (HOwn.out _ (HB0.out.alloc (by simp) _)).mono ?_; rintro e w1 ⟨u, rfl, hu, hb1, hbw⟩)
                refine wpAny_ready (rs := [9]) (by kernel_rfl) (by simp) ?_
                refine AllReady.cons rfl (fun K hK => ?_) ?_
                · refine step_append_mine (by rfl) _ _ 30 (by rfl) wr.heap.size 3 i0 (.int .i64 0) 1 8 Try.underlying30 hi hz0 hz1 hz2 rfl (by decide) u bgn.length (bgn.map (Value.int .i64)) (by rfl) (hu) ⟨wr.heap.size, 0, none⟩ 1 1 [.int .i64 age] (by rfl) rfl (cellAtKept (boxL (box_newL (by simp))).1 hbw) (oneInt _) (by have := HLL.out; unfold maxLen; omega) (by have := HLL.out; omega) (by have := hb1.size; exact this) ?_
                  intro u2 w2 hown2 hgrow2
                  obtain ⟨hb2, hu2⟩ := HPush.out _ _ _ _ (hb1) (hu) hgrow2 hown2
                  refine hK _ _ ?_
                  clear hK K hown2 hgrow2
                  have HCall := Lib.hid (HIH.out w2 u2 hb2 hu2)
                  refine wpAny_ready (rs := [11]) (by kernel_rfl) (by simp) ?_
                  refine AllReady.cons rfl (fun K hK => ?_) ?_
                  · go_simp
                    go_wp2_with (go_at_call 63; refine HCall.out.mono ?_; rintro e w3 ⟨rfl, v3, vs3, hc3, hf3, ho3, hbo3⟩)
                    refine wpAny_done (by kernel_rfl) ?_ _
                    have HO3 := Lib.hid ho3
                    have hbo4 : ButO B go w w3 := (hbo.below hb2).trans hbo3
                    clear ho3 hbo3 hbo
                    go_wp2
                    go_roundw
                    case rel => exact ⟨age + 1, _, v3, vs3, by go_num, by omega, by omega, hc3, hf3, HO3, hbo4, HT2⟩
                    case measure => simp [intOf]; omega
                  · exact AllReady.nil
                · exact AllReady.nil
              · exact AllReady.nil
            · exact AllReady.nil
        · rw [if_neg hal, List.nil_append] at HT1
          clear hqm hrm hq0 hq1
          go_wp2
          go_roundw
          case rel => exact ⟨age + 1, D', v', vs', by go_num, by omega, by omega, hc', hf', HO', hbo, HT1⟩
          case measure => simp [intOf]; omega
      · have HE : Hid (D' = total) := Lib.hid (by
          have h := HT'.out
          have ek : (21 - age).toNat = 0 := by omega
          rw [ek, lookL_none, List.append_nil] at h
          exact h)
        go_wp2
        go_end0
        exact ⟨rfl, v', vs', hc', hf', HE.out ▸ HO'.out, hbo⟩
end Go.Proofs.Ytmdhdbkeiennmaa
