/- AllMultiples: both texts. -/
import Derived.Test.YtonnknhmmljmaaaMultRows
import Derived.Deep.AppendLies
set_option linter.unusedVariables false
set_option linter.unusedSimpArgs false
namespace Go.Proofs.Ytonnknhmmljmaaa
open Go.RowKit

theorem step_append_ss {P : Program} {w : World} {ops : Array Oper} {o : Oper} {a : Act} {K : Act → World → Prop} {Q : Exit → Act → World → Prop} {E : Prop} (hgd : o.guard = none) (s x : Operand) (t : TypeId)
    (ho : o.op = .call { callee := .builtin .append, args := #[s, x], argTypes := #[t, t] })
    (base : Nat) (e : TypeId) (i : TypeInfo) (z : Value) (size bytes : Nat) (ht : P.underlying t = some (.slice e)) (hi : P.info? e = some i) (hz : i.zero = some z)
    (hsize : i.size = size) (hby : i.bytes = bytes) (hzs : z.cells.size = size) (hsz : 0 < size)
    (v : Value) (n : Nat) (xs : List Value) (hs : a.eval s = v) (hown : w.ownsRow base e size v n xs)
    (ad : Addr) (m c : Nat) (news : List Value) (hx : a.eval x = .slice (some ad) m c) (hl : news.length = m * size) (hnews : ∀ j u, news[j]? = some u → w.cell? (ad.add j) = some u) (h1 : ∀ u ∈ news, u.oneCell' = true)
    (h63 : n + m ≤ maxLen) (hbytes : (n + m) * bytes ≤ 140737488355328) (hbase : base ≤ w.heap.size)
    (h : ∀ v' w', w'.ownsRow base e size v' (n + m) (xs ++ news) → w.grownBy w' v.ownBlock → K (a.put o.dst v') w') :
    if Region.wanted o (yielded ops a.tmps) = true then Oper.wp P o a w K Q else E := by
  have hw : Region.wanted o (yielded ops a.tmps) = true := by simp [Region.wanted, hgd]
  rw [if_pos hw]
  exact wp_append_own w s x t ho base e i z size bytes ht hi hz hsize hby hzs hsz v n xs hs hown ad m c news hx hl hnews h1 h63 hbytes hbase fun v' w' h2 h3 _ => h v' w' h2 h3

theorem found_at {test : Int → Bool} {zs : List Int} (i : Nat) (hi : i < (found test zs).length) : test ((found test zs).getD i 0) = true ∧ loY zs ≤ (found test zs).getD i 0 ∧ (found test zs).getD i 0 ≤ hiY zs := by
  have hm : (found test zs).getD i 0 ∈ found test zs := by
    have e : (found test zs).getD i 0 = (found test zs)[i] := by simp [List.getElem?_eq_getElem hi]
    rw [e]; exact List.getElem_mem hi
  unfold found yTo at hm
  rw [List.mem_filter, List.mem_map] at hm
  obtain ⟨⟨j, hj, hjy⟩, ht⟩ := hm
  have hj2 := List.mem_range.1 hj
  refine ⟨ht, ?_, ?_⟩
  · unfold found yTo; omega
  · unfold found yTo; unfold nY at hj2; omega
theorem rows_succ (f : Int → List Int) (l : List Int) (i : Nat) (hi : i < l.length) : (l.take (i + 1)).map f = (l.take i).map f ++ [f (l.getD i 0)] := by
  rw [List.take_succ_eq_append_getElem hi, List.map_append]
  simp [List.getElem?_eq_getElem hi]
def rowsTo (zs : List Int) (A B : Nat) (l : List Int) (i : Nat) : List (List Int) := (l.take i).map (rowOf zs A B)
theorem rowsTo_zero (zs : List Int) (A B : Nat) (l : List Int) : rowsTo zs A B l 0 = [] := rfl
theorem rowsTo_succ (zs : List Int) (A B : Nat) (l : List Int) (i : Nat) (hi : i < l.length) : rowsTo zs A B l (i + 1) = rowsTo zs A B l i ++ [[l.getD i 0, (zs.getD A 0 + l.getD i 0) / (zs.getD B 0 + l.getD i 0)]] := rows_succ _ l i hi
theorem rowsTo_len (zs : List Int) (A B : Nat) (l : List Int) (i : Nat) : (rowsTo zs A B l i).length ≤ l.length := by unfold rowsTo; rw [List.length_map, List.length_take]; omega

theorem OwnSS.mono {B B' U : Nat} {w : World} {v : Value} {vs : List Value} {rss : List (List Int)} (h : OwnSS B U w v vs rss) (hB : B' ≤ B) : OwnSS B' U w v vs rss := by
  refine ⟨h.len, ?_, h.obl, fun i hi => (h.row i hi).mono hB, h.rbl, h.apart⟩
  obtain ⟨q1, q2⟩ := h.outer
  refine ⟨q1, ?_⟩
  rcases q2 with q | ⟨a, b, d, q3, q4, q5⟩
  · exact .inl q
  · exact .inr ⟨a, b, d, q3, Nat.le_trans hB q4, q5⟩
theorem specAllMultiples_no (b off c : Nat) (x y : Int) (zs : List Int) (w : World) (hn : zs.length ≤ 1048576) (hI : Ints w b off zs) (h : (whoB zs x && whoB zs y && (x != y)) = false) :
    Calls Try.prog 39 #[.slice (some ⟨b, off, none⟩) zs.length c, .int .i64 x, .int .i64 y] w (RetSSB [] false w) := by
  have H1 := Lib.hid h
  clear h
  go_enter Try.func39, Try.ntmps39
  go_wp2_with fail
  refine (agTwo_any _ _ _ _ _ zs _ hn hI).mono ?_
  rw [H1.out]
  rintro e w' ⟨rfl, rfl⟩
  go_wp2_with fail
  go_ret2
  exact ⟨_, [], rfl, ownSS_nil _ _ _, Below.refl _ _⟩
theorem specAllMultiples_yes (b off c A B : Nat) (zs : List Int) (w : World) (hn : zs.length ≤ 1048576) (hI : Ints w b off zs) (h1 : (whoB zs A && whoB zs B && ((A : Int) != (B : Int))) = true) (hA : A < zs.length) (hB : B < zs.length) (hg : goodB zs 120 = true) :
    Calls Try.prog 39 #[.slice (some ⟨b, off, none⟩) zs.length c, .int .i64 A, .int .i64 B] w (RetSSB (mulRows zs A B (nY zs)) true w) := by
  have H1 := Lib.hid h1
  clear h1
  go_enter Try.func39, Try.ntmps39
  go_wp2_with fail
  refine (agTwo_any _ _ _ _ _ zs _ hn hI).mono ?_
  rw [H1.out]
  rintro e w' ⟨rfl, rfl⟩
  go_wp2_with fail
  refine (agMultiples_any _ _ _ _ _ zs _ hn hI hg hA hB).mono ?_
  rintro e w1 ⟨v, vs, rfl, ho, hb⟩
  have HO := Lib.hid ho
  clear ho
  go_wp2_with fail
  go_ret2
  exact ⟨_, vs, rfl, HO.out, hb⟩
theorem allMultiples_no (b off c : Nat) (x y : Int) (zs : List Int) (w : World) (hn : zs.length ≤ 1048576) (hbl : b < w.heap.size) (hI : Ints w b off zs) (h : (whoB zs x && whoB zs y && (x != y)) = false) :
    Calls Try.prog 40 #[.slice (some ⟨b, off, none⟩) zs.length c, .int .i64 x, .int .i64 y] w (RetSSB [] false w) := by
  have hW := Lib.hid fun A => ((Below.refl w.heap.size w).alloc (Nat.le_refl _) A)
  have hI' := Lib.hid fun A => hI.kept (hW.out A) hbl
  have H1 := Lib.hid h
  clear h
  go_enter Try.func40, Try.ntmps40
  go_wp2_with fail
  refine (areDifferent_any _ _ _ _ _ zs _ hn (by simp; omega) (hI'.out _)).mono ?_
  rw [H1.out]
  rintro e w1 ⟨rfl, hb⟩
  go_wp2_with fail
  go_ret2
  exact ⟨_, [], rfl, ownSS_nil _ _ _, (hW.out _).trans (hb.mono (by simp))⟩

set_option maxHeartbeats 3200000 in
theorem allMultiples_yes (b off c A B : Nat) (zs : List Int) (w : World) (hn : zs.length ≤ 1048576) (hI : Ints w b off zs) (h1 : (whoB zs A && whoB zs B && ((A : Int) != (B : Int))) = true) (hA : A < zs.length) (hB : B < zs.length) (hg : goodB zs 120 = true) :
    Calls Try.prog 40 #[.slice (some ⟨b, off, none⟩) zs.length c, .int .i64 A, .int .i64 B] w (RetSSB (mulRows zs A B (nY zs)) true w) := by
  obtain ⟨i0, hi, hz0, hz1, hz2⟩ := info_parts infoSlice
  have h8 := goodB_len hg
  have hbl := ints_lt hI (by omega)
  have hW := Lib.hid fun A => ((Below.refl w.heap.size w).alloc (Nat.le_refl _) A)
  have hI' := Lib.hid fun A => hI.kept (hW.out A) hbl
  have HL := Lib.hid (found_len hg (mulT zs A B))
  have hq1 : (w.alloc (.cells #[.int .i64 (B : Int)] 3)).cell? ⟨w.heap.size, 0, none⟩ = some (.int .i64 (B : Int)) := by simp
  have HT := Lib.hid (show ∀ W1, Below (w.alloc (.cells #[.int .i64 (B : Int)] 3)).heap.size (w.alloc (.cells #[.int .i64 (B : Int)] 3)) W1 → TestsAllMultiples (.pointer (some ⟨w.heap.size, 0, none⟩)) A zs (mulT zs A B) W1 from
    fun W1 hW1 y y1 y2 g c W hB' hgs hP => by
      have hf : fitB zs y = true := by unfold fitB; rw [hg, inB_true y1 y2]; rfl
      obtain ⟨_, _, hl, hz⟩ := fit_in hf
      have e1 := agesIn_getD zs y A hA
      have e2 := agesIn_getD zs y B hB
      have z1 := hz A (by omega)
      have z2 := hz B (by omega)
      have := allTest _ g c _ B A ((agesIn zs y).getD A 0) (agesIn zs y) W hl (by omega) hB hgs hP z1 z2.1 (below_cells hB' (below_cells hW1 hq1))
      rw [e2] at this
      rw [e1] at this ⊢
      exact this)
  have hct := Lib.hid (fun W1 (h : Below (w.alloc (.cells #[.int .i64 (B : Int)] 3)).heap.size (w.alloc (.cells #[.int .i64 (B : Int)] 3)) W1) => below_cells h hq1)
  have HA := Lib.hid (fun i hi => found_at (test := mulT zs A B) (zs := zs) i hi)
  have HM := Lib.hid (show ∀ y, mulT zs A B y = mulB (zs.getD A 0 + y) (zs.getD B 0 + y) from fun y => rfl)
  have HR := Lib.hid (show mulRows zs A B (nY zs) = rowsTo zs A B (found (mulT zs A B) zs) (found (mulT zs A B) zs).length by unfold rowsTo; rw [List.take_length]; rfl)
  have hcA0 := Lib.hid (hI A hA)
  have hcB0 := Lib.hid (hI B hB)
  have HfA := Lib.hid (fun y h1 h2 => fit_bd (zs := zs) (y := y) h1 h2 A hA)
  have HfB := Lib.hid (fun y h1 h2 => fit_bd (zs := zs) (y := y) h1 h2 B hB)
  have HRS := Lib.hid (fun l i hi => rowsTo_succ zs A B l i hi)
  generalize mulT zs A B = test at HL HT HA HM HR
  generalize hfd : found test zs = fd at HL HA HR
  have HF := Lib.hid hfd
  have HG := Lib.hid hg
  have H1 := Lib.hid h1
  have hbd := loY_bd hg
  clear hfd hg h1 hq1
  go_enter Try.func40, Try.ntmps40
  go_wp2_with fail
  refine (areDifferent_any _ _ _ _ _ zs _ hn (by simp; omega) (hI'.out _)).mono ?_
  rw [H1.out]
  rintro e w1 ⟨rfl, hb⟩
  have hb' := (hW.out _).trans (hb.mono (by simp))
  have hc1 := Lib.hid (hct.out w1 hb)
  have HT1 := Lib.hid (HT.out w1 hb)
  have hI1 := (hI'.out _).kept hb (by simp; omega)
  clear hct HT
  go_wp2_with fail
  refine (yearsFor_AllMultiples _ _ _ A _ test zs _ HG.out hA hI1 HT1.out).mono ?_
  rw [HF.out]
  rintro e w2 ⟨v, rfl, hof, hb2⟩
  have hb2' := hb'.trans (hb2.mono hb'.size)
  have hcb2 := Lib.hid (below_cells hb2 hc1.out)
  rcases hof.cases with ⟨rfl, h0⟩ | ⟨gf, cf, rfl, hgf, hgf2, _, _, hIf, _⟩
  · have HE := Lib.hid (show mulRows zs A B (nY zs) = [] by rw [HR.out, h0]; rfl)
    clear h0
    go_wp2
    go_rounds 1
    go_ret2
    exact ⟨_, [], rfl, by rw [HE.out]; exact ownSS_nil _ _ _, hb2'⟩
  · clear hof
    have hw2s : w.heap.size < w2.heap.size := World.block_lt_of_cell? w2 _ hcb2.out
    have hbl2 : b < w2.heap.size := by omega
    have hA2 := Lib.hid ((hb2'.cell (p := ⟨b, off + A, none⟩) hbl).trans hcA0.out)
    have hB2 := Lib.hid ((hb2'.cell (p := ⟨b, off + B, none⟩) hbl).trans hcB0.out)
    have hfl := HL.out
    generalize zs.getD A 0 = pA at hA2 HfA HM HRS
    generalize zs.getD B 0 = pB at hB2 HfB HM HRS
    go_wp2
    go_loopw [8, 21] (fun u v wr => ∃ (i : Nat) (vs : List Value), i ≤ fd.length ∧ v = .int .i64 i ∧ OwnSS w2.heap.size wr.heap.size wr u vs (rowsTo zs A B fd i) ∧ Below w2.heap.size w2 wr) (fun _ v _ => fd.length - (intOf v).toNat)
    case atStart => exact ⟨0, [], Nat.zero_le _, rfl, ownSS_nil _ _ _, Below.refl _ _⟩
    case round =>
      obtain ⟨i, vs, hi', rfl, ho, hbr⟩ := hrel
      have hsz := hbr.size
      have hlen := rowsTo_len zs A B fd i
      have hvl := ho.len
      rw [← hvl] at hlen
      clear hvl
      have HO := Lib.hid ho
      clear ho
      by_cases hlt : i < fd.length
      · have d0 : wr.cell? ⟨gf, i, none⟩ = some (.int .i64 (fd.getD i 0)) := by
          have := (hIf.kept hbr hgf2) i hlt
          rwa [Nat.zero_add] at this
        have dA := (hbr.cell (p := ⟨b, off + A, none⟩) hbl2).trans hA2.out
        have dB := (hbr.cell (p := ⟨b, off + B, none⟩) hbl2).trans hB2.out
        have dq := (hbr.cell (p := ⟨w.heap.size, 0, none⟩) hw2s).trans hcb2.out
        obtain ⟨t1, t2, t3⟩ := HA.out i hlt
        have hS := Lib.hid (HRS.out fd i hlt)
        generalize fd.getD i 0 = y at d0 t1 t2 t3 hS
        have fA := HfA.out y t2 t3
        have fB := HfB.out y t2 t3
        rw [HM.out y] at t1
        unfold mulB at t1
        rw [Bool.and_eq_true, Bool.and_eq_true, decide_eq_true_eq, decide_eq_true_eq] at t1
        obtain ⟨⟨t4, _⟩, _⟩ := t1
        obtain ⟨m1, m2⟩ := quo_bd (p := pA + y) (q := pB + y) fA (by omega)
        have t4' : ¬ (pB + y = 0) := by omega
        have a0 : (0 : Int) ≤ (A : Int) := by omega
        have a1 : (A : Int) < (zs.length : Int) := by omega
        have b0 : (0 : Int) ≤ (B : Int) := by omega
        have b1 : (B : Int) < (zs.length : Int) := by omega
        have i0' : (0 : Int) ≤ (i : Int) := by omega
        have i1' : (i : Int) < (fd.length : Int) := by omega
        have k1 : IntKind.i64.wrap (pA + y) = pA + y := IntWalk.i64_in _ (by omega)
        have k2 : IntKind.i64.wrap (pB + y) = pB + y := IntWalk.i64_in _ (by omega)
        have k3 : IntKind.i64.wrap ((pA + y).tdiv (pB + y)) = (pA + y) / (pB + y) := by rw [Int.tdiv_eq_ediv_of_nonneg fA.1]; exact IntWalk.i64_in _ (by omega)
        have hvne : ∀ k, k < w2.heap.size → some k ≠ u8.ownBlock := fun k hk e => by
          have := (World.ownsRow.lt HO.out.outer k e.symm).1
          omega
        go_wp2_with fail
        go_region_held3 (fun w' => w'.cell? ⟨b, off + A, none⟩ = some (.int .i64 pA) ∧ w'.cell? ⟨b, off + B, none⟩ = some (.int .i64 pB) ∧ w'.cell? ⟨w.heap.size, 0, none⟩ = some (.int .i64 B))
          (first
            | go_keep
            | (go_split_ands
               refine ⟨?_, ?_, ?_⟩
               · (rw [World.grownBy.cell_far hgr _ (by simp; omega) (hvne _ (by simp; omega))]; assumption)
               · (rw [World.grownBy.cell_far hgr _ (by simp; omega) (hvne _ (by simp; omega))]; assumption)
               · (rw [World.grownBy.cell_far hgr _ (by simp; omega) (hvne _ (by simp; omega))]; assumption)))
          ((refine step_append_ss (by rfl) _ _ 39 (by rfl) w2.heap.size 22 i0 _ 1 24 Try.underlying39 hi hz0 hz1 hz2 rfl (by omega) u8 vs.length vs (by rfl) (World.ownsRow.drew (World.ownsRow.alloc (World.ownsRow.alloc HO.out.outer (.cells #[.int .i64 y, .int .i64 ((pA + y) / (pB + y))] 3)) (.cells #[.slice (some ⟨wr.heap.size, 0, none⟩) 2 2] 22))) ⟨wr.heap.size + 1, 0, none⟩ 1 1 [.slice (some ⟨wr.heap.size, 0, none⟩) 2 2] (by rfl) (by rfl) (newCellAt (wr.alloc (.cells #[.int .i64 y, .int .i64 ((pA + y) / (pB + y))] 3)) _ _ _ (by simp)) (oneSlice _ _ _) (by unfold maxLen; omega) (by omega) (by simp; omega) ?_; intro v' w3 hown hgr))
        have hp := OwnSS.push (wr := wr) HO.out hsz hown ⟨hgr.os, hgr.tape, hgr.output, hgr.size, hgr.block⟩
        have hb3 : Below w2.heap.size w2 w3 := ((hbr.alloc hsz _).alloc (by simp; omega) _).grown (⟨hgr.os, hgr.tape, hgr.output, hgr.size, hgr.block⟩ : World.grownBy ((wr.alloc (.cells #[.int .i64 y, .int .i64 ((pA + y) / (pB + y))] 3)).alloc (.cells #[.slice (some ⟨wr.heap.size, 0, none⟩) 2 2] 22)) w3 u8.ownBlock) (by simp; omega) (fun k hk => (World.ownsRow.lt HO.out.outer k hk).1)
        rw [← hS.out] at hp
        have HP := Lib.hid hp
        clear hp hown hgr k1 k2 k3
        go_wp2
        go_roundw
        case rel => exact ⟨i + 1, _, by omega, by go_num, HP.out, hb3⟩
        case measure => simp [intOf]; omega
      · have hin : i = fd.length := by omega
        have HE := Lib.hid (show mulRows zs A B (nY zs) = rowsTo zs A B fd i by rw [HR.out, hin])
        go_wp2
        go_ret2
        exact ⟨_, vs, rfl, by rw [HE.out]; exact HO.out.mono hb2'.size, hb2'.trans (hbr.mono hb2'.size)⟩

theorem smallMul {zs : List Int} (A B : Nat) (hg : goodB zs 120 = true) : Small (mulRows zs A B (nY zs)) := by
  have h1 := mulRows_len zs A B (nY zs)
  have h2 := loY_bd hg
  have h3 : nY zs ≤ 241 := by unfold nY; omega
  refine ⟨by omega, fun i hi => ?_⟩
  have e : (mulRows zs A B (nY zs)).getD i [] ∈ mulRows zs A B (nY zs) := by
    have e : (mulRows zs A B (nY zs)).getD i [] = (mulRows zs A B (nY zs))[i] := by simp [List.getElem?_eq_getElem hi]
    rw [e]; exact List.getElem_mem hi
  unfold mulRows at e
  obtain ⟨y, _, hy⟩ := List.mem_map.1 e
  have : (rowOf zs A B y).length = 2 := rfl
  unfold mulRows
  rw [← hy, this]
  omega
theorem allMultiples_both (zs : List Int) (x y : Int) : ∃ rss ok, Small rss ∧
    (∀ b c w, zs.length ≤ 1048576 → b < w.heap.size → Ints w b 0 zs → Calls Try.prog 39 #[.slice (some ⟨b, 0, none⟩) zs.length c, .int .i64 x, .int .i64 y] w (RetSSB rss ok w)) ∧
    (∀ b c w, zs.length ≤ 1048576 → b < w.heap.size → Ints w b 0 zs → Calls Try.prog 40 #[.slice (some ⟨b, 0, none⟩) zs.length c, .int .i64 x, .int .i64 y] w (RetSSB rss ok w)) := by
  cases h : (whoB zs x && whoB zs y && (x != y)) with
  | false => exact ⟨[], false, ⟨by simp, fun i hi => by simp at hi⟩, fun b c w hn hbl hI => specAllMultiples_no _ _ _ _ _ _ _ hn hI h, fun b c w hn hbl hI => allMultiples_no _ _ _ _ _ _ _ hn hbl hI h⟩
  | true =>
    have h2 := h
    rw [Bool.and_eq_true, Bool.and_eq_true] at h2
    obtain ⟨A, rfl, hA⟩ := whoB_nat h2.1.1
    obtain ⟨B, rfl, hB⟩ := whoB_nat h2.1.2
    have hg := whoB_good h2.1.1
    exact ⟨_, true, smallMul A B hg, fun b c w hn hbl hI => specAllMultiples_yes _ _ _ _ _ _ _ hn hI h hA hB hg, fun b c w hn hbl hI => allMultiples_yes _ _ _ _ _ _ _ hn hI h hA hB hg⟩
end Go.Proofs.Ytonnknhmmljmaaa
