/- All are looked at from one: the program's text, at one kind of steps. -/
import Derived.Test.YtmlcelleohhmcaaLf1
set_option linter.unusedVariables false
set_option linter.unusedSimpArgs false
namespace Go.Proofs.Ytmlcelleohhmcaa
open Go Go.Conc Go.RowKit

set_option maxHeartbeats 8000000 in
set_option maxRecDepth 100000 in
theorem visitDn_any (st : Nat → Nat → Bool) (fs : List Kn) (g cc a : Nat) (w wv : World) (hK : Kdr fs w g cc) (ln : Nat → List Nat) (u : Nat) (q : List Nat) (c : Nat) (l0 : List (Nat × Value)) (V : Nat)
    (hF : Hid (∀ (s t : Nat) (w : World), Calls Try.prog 47 #[.agg #[.int .i64 (at3 fs s).1, .int .i64 (at3 fs s).2.1, .int .i64 (at3 fs s).2.2, .int .i64 s], .agg #[.int .i64 (at3 fs t).1, .int .i64 (at3 fs t).2.1, .int .i64 (at3 fs t).2.2, .int .i64 t]] w (Ret (.bool ((st) s t)) w)))
    (hv : LfV fs (st) a w wv ln u q c 0 l0) (hvar : RelAt fs wv V u) (hVB : w.heap.size + 3 < V) (hu : u < fs.length) (u3 u5 u10 u11 u12 u13 u14 u15 u16 u17 u18 u19 u20 u21 u22 u23 u24 u25 u26 u27 u28 u29 u30 u34 u35 u36 u37 u38 u39 u40 u41 u42 u43 u44 u45 u46 u47 u48 u49 u50 u51 u52 u53 u54 u55 u56 u57 u58 u59 u60 u61 u62 u63 : Value) (Q : Exit → Act → World → Prop)
    (hQ : ∀ l b wr, LfV fs (st) a w wr ln u q c fs.length l → (∃ u3 u5 u9 u10 u11 u12 u13 u14 u15 u16 u17 u18 u19 u20 u21 u22 u23 u24 u25 u26 u27 u28 u29 u30 u31 u32 u33 u34 u35 u36 u37 u38 u39 u40 u41 u42 u43 u44 u45 u46 u47 u48 u49 u50 u51 u52 u53 u54 u55 u56 u57 u58 u59 u60 u61 u62 u63, b = { tmps := #[.slice (some ⟨g, 0, none⟩) fs.length cc, .agg #[.int .i64 (at3 fs a).1, .int .i64 (at3 fs a).2.1, .int .i64 (at3 fs a).2.2, .int .i64 a], .func (.func 47) #[] #[], u3, .pointer (some ⟨w.heap.size, 0, none⟩), u5, .map none, .map (some (w.heap.size + 1)), .chan (some (w.heap.size + 3)), u9, u10, u11, u12, u13, u14, u15, u16, u17, u18, u19, u20, u21, u22, u23, u24, u25, u26, u27, u28, u29, u30, u31, u32, u33, u34, u35, u36, u37, u38, u39, u40, u41, u42, u43, u44, u45, u46, u47, u48, u49, u50, u51, u52, u53, u54, u55, u56, u57, u58, u59, u60, u61, u62, u63], defers := [] }) → Q .normal b wr) :
    Wn Try.prog (codeSnd (codeSnd (codeIn (codeIn (codeSnd (codeSnd (codeIn (codeIn (codeIn (codeSnd (codeSnd (codeSnd (codeSnd ((Try.f72).body.getD .skip)))))))))))))) Q { tmps := #[.slice (some ⟨g, 0, none⟩) fs.length cc, .agg #[.int .i64 (at3 fs a).1, .int .i64 (at3 fs a).2.1, .int .i64 (at3 fs a).2.2, .int .i64 a], .func (.func 47) #[] #[], u3, .pointer (some ⟨w.heap.size, 0, none⟩), u5, .map none, .map (some (w.heap.size + 1)), .chan (some (w.heap.size + 3)), .pointer (some ⟨V, 0, none⟩), u10, u11, u12, u13, u14, u15, u16, u17, u18, u19, u20, u21, u22, u23, u24, u25, u26, u27, u28, u29, u30, .slice (some ⟨g, 0, none⟩) fs.length cc, .int .i64 (fs.length : Int), .int .i64 0, u34, u35, u36, u37, u38, u39, u40, u41, u42, u43, u44, u45, u46, u47, u48, u49, u50, u51, u52, u53, u54, u55, u56, u57, u58, u59, u60, u61, u62, u63], defers := [] } wv := by
  have h14 := hK.2
  have hgs := hK.1.shape.2.2.1
  have HRL := Lib.hid hK.1.shape.2.2.2.2.1
  refine Wn.block (Wn.loopL (fun (x : Nat × List (Nat × Value)) b wr => (x.1 ≤ fs.length ∧ LfV fs (st) a w wr ln u q c x.1 x.2 ∧ RelAt fs wr V u) ∧ ∃ u3 u5 u10 u11 u12 u13 u14 u15 u16 u17 u18 u19 u20 u21 u22 u23 u24 u25 u26 u27 u28 u29 u30 u34 u35 u36 u37 u38 u39 u40 u41 u42 u43 u44 u45 u46 u47 u48 u49 u50 u51 u52 u53 u54 u55 u56 u57 u58 u59 u60 u61 u62 u63, b = { tmps := #[.slice (some ⟨g, 0, none⟩) fs.length cc, .agg #[.int .i64 (at3 fs a).1, .int .i64 (at3 fs a).2.1, .int .i64 (at3 fs a).2.2, .int .i64 a], .func (.func 47) #[] #[], u3, .pointer (some ⟨w.heap.size, 0, none⟩), u5, .map none, .map (some (w.heap.size + 1)), .chan (some (w.heap.size + 3)), .pointer (some ⟨V, 0, none⟩), u10, u11, u12, u13, u14, u15, u16, u17, u18, u19, u20, u21, u22, u23, u24, u25, u26, u27, u28, u29, u30, .slice (some ⟨g, 0, none⟩) fs.length cc, .int .i64 (fs.length : Int), .int .i64 (x.1 : Int), u34, u35, u36, u37, u38, u39, u40, u41, u42, u43, u44, u45, u46, u47, u48, u49, u50, u51, u52, u53, u54, u55, u56, u57, u58, u59, u60, u61, u62, u63], defers := [] }) (fun x => fs.length - x.1) (0, l0) ⟨⟨Nat.zero_le _, hv, hvar⟩, _, _, _, _, _, _, _, _, _, _, _, _, _, _, _, _, _, _, _, _, _, _, _, _, _, _, _, _, _, _, _, _, _, _, _, _, _, _, _, _, _, _, _, _, _, _, _, _, _, _, _, _, _, rfl⟩ ?_)
  clear hv hvar
  rintro ⟨k, l⟩ b wr NX hNX ⟨⟨hk, hv, hvar⟩, u3, u5, u10, u11, u12, u13, u14, u15, u16, u17, u18, u19, u20, u21, u22, u23, u24, u25, u26, u27, u28, u29, u30, u34, u35, u36, u37, u38, u39, u40, u41, u42, u43, u44, u45, u46, u47, u48, u49, u50, u51, u52, u53, u54, u55, u56, u57, u58, u59, u60, u61, u62, u63, rfl⟩
  simp only at hk hv
  by_cases hlt : k < fs.length
  · have HNX : Hid (∀ (l' : List (Nat × Value)) (b' : Act) (w' : World), LfV fs (st) a w w' ln u q c (k + 1) l' → RelAt fs w' V u → (∃ u3 u5 u10 u11 u12 u13 u14 u15 u16 u17 u18 u19 u20 u21 u22 u23 u24 u25 u26 u27 u28 u29 u30 u34 u35 u36 u37 u38 u39 u40 u41 u42 u43 u44 u45 u46 u47 u48 u49 u50 u51 u52 u53 u54 u55 u56 u57 u58 u59 u60 u61 u62 u63, b' = { tmps := #[.slice (some ⟨g, 0, none⟩) fs.length cc, .agg #[.int .i64 (at3 fs a).1, .int .i64 (at3 fs a).2.1, .int .i64 (at3 fs a).2.2, .int .i64 a], .func (.func 47) #[] #[], u3, .pointer (some ⟨w.heap.size, 0, none⟩), u5, .map none, .map (some (w.heap.size + 1)), .chan (some (w.heap.size + 3)), .pointer (some ⟨V, 0, none⟩), u10, u11, u12, u13, u14, u15, u16, u17, u18, u19, u20, u21, u22, u23, u24, u25, u26, u27, u28, u29, u30, .slice (some ⟨g, 0, none⟩) fs.length cc, .int .i64 (fs.length : Int), .int .i64 ((k + 1 : Nat) : Int), u34, u35, u36, u37, u38, u39, u40, u41, u42, u43, u44, u45, u46, u47, u48, u49, u50, u51, u52, u53, u54, u55, u56, u57, u58, u59, u60, u61, u62, u63], defers := [] }) → NX b' w') :=
      Lib.hid fun l' b' w' h1 h2 h3 => hNX (k + 1, l') b' w' ⟨⟨by omega, h1, h2⟩, h3⟩ (by simp only; omega)
    clear hNX hQ
    refine Wn.seq (Wn.of_wp ?_)
    go_wp2
    show Wn _ _ _ _ _
    refine Wn.seq (Wn.cond (t := true) rfl ?_)
    simp only [if_true]
    refine Wn.of_wp ?_
    go_wp2
    show Wn _ _ _ _ _
    refine Wn.seq (Wn.block ?_)
    obtain ⟨d0, d1, d2, d3⟩ := (HRL.out.kept hv.below hgs) k (by rw [allN_len]; exact hlt)
    rw [Nat.zero_add, allN_at fs k hlt] at d0 d1 d2 d3
    have hn0 : (0 : Int) ≤ (k : Int) := by omega
    have hn1 : (k : Int) < (fs.length : Int) := by omega
    refine Wn.seq (Wn.of_wp ?_)
    go_wp2
    show Wn _ _ _ _ _
    have hb4 := (Below.refl wr.heap.size wr).alloc (Nat.le_refl _) (.cells #[.int .i64 (at3 fs k).1, .int .i64 (at3 fs k).2.1, .int .i64 (at3 fs k).2.2, .int .i64 k] 70)
    have hv4 := hv.kept hb4
    have hvar4 := hvar.kept hb4
    have hnew4 := relAt_new fs wr k wr.heap.size rfl
    have hVB2 : w.heap.size + 3 < wr.heap.size := by obtain ⟨_, _, _, hc⟩ := hv.ch; exact (Array.getElem?_eq_some_iff.1 hc).1
    clear hv hvar hb4 d0 d1 d2 d3
    generalize wr.alloc (.cells #[.int .i64 (at3 fs k).1, .int .i64 (at3 fs k).2.1, .int .i64 (at3 fs k).2.2, .int .i64 k] 70) = w4 at hv4 hvar4 hnew4 ⊢
    generalize wr.heap.size = V2 at hnew4 hVB2 ⊢
    have hnw5 := Lib.hid hnew4
    obtain ⟨x0, x1, x2, x3⟩ := hnew4
    refine Wn.seq (Wn.of_wp ?_)
    have hrow := hv4.rows k hlt
    rw [vL_same] at hrow
    have hmp := hv4.mp
    rcases hrow with ⟨hr1, hr2⟩ | ⟨hr1, v, hr2, _⟩
    · cases hst : (st) u k with
      | false =>
        have hC := Lib.hid fun w => hF.out u k w
        rw [hst] at hC
        obtain ⟨e1, e2⟩ := vL_skip (st := st) (ln := ln) (u := u) (k := k) (fun h => by rw [hst] at h; exact absurd h.2 (by simp))
        have hv5 := Lib.hid (hv4.same (funext e1) e2)
        have hvar5 := Lib.hid hvar4
        obtain ⟨y0, y1, y2, y3⟩ := hvar4
        clear hst e1 e2 hv4
        go_wp2_with (refine wpList_lookupR rfl _ _ rfl fs (w.heap.size + 1) l rfl hmp k rfl ?_; simp only [hr2, Option.getD_none, Option.isSome_none])
        show Wn _ _ _ _ _
        refine Wn.seq (Wn.of_wp ?_)
        go_wp2_with (go_at_call 47; refine (hC.out _).mono ?_; rintro e w5 ⟨rfl, hcall⟩)
        show Wn _ _ _ _ _
        refine Wn.cond (t := false) rfl ?_
        simp only [Bool.false_eq_true, if_false]
        refine Wn.of_wp ?_
        go_wp2
        show Wn _ _ _ _ _
        refine Wn.of_wp ?_
        go_wp2
        exact HNX.out l _ _ (hv5.out.kept hcall) (hvar5.out.kept hcall) ⟨_, _, _, _, _, _, _, _, _, _, _, _, _, _, _, _, _, _, _, _, _, _, _, _, _, _, _, _, _, _, _, _, _, _, _, _, _, _, _, _, _, _, _, _, _, _, _, _, _, _, _, _, _, by go_num⟩
      | true =>
        have hC := Lib.hid fun w => hF.out u k w
        rw [hst] at hC
        have hST := Lib.hid hst
        have hv5 := Lib.hid hv4
        have hvar5 := Lib.hid hvar4
        obtain ⟨y0, y1, y2, y3⟩ := hvar4
        clear hst hv4
        go_wp2_with (refine wpList_lookupR rfl _ _ rfl fs (w.heap.size + 1) l rfl hmp k rfl ?_; simp only [hr2, Option.getD_none, Option.isSome_none])
        show Wn _ _ _ _ _
        refine Wn.seq (Wn.of_wp ?_)
        go_wp2_with (go_at_call 47; refine (hC.out _).mono ?_; rintro e w5 ⟨rfl, hcall⟩)
        show Wn _ _ _ _ _
        have hv6 := hv5.out.kept hcall
        have hvar6 := hvar5.out.kept hcall
        have hnw6 := hnw5.out.kept hcall
        obtain ⟨hLn, gu, cu, hP⟩ := hv6.asks h14 hu hvar6 hnw6 hVB hVB2
        clear hv5 hvar5 hnw5 hcall y0 y1 y2 y3 x0 x1 x2 x3 hC
        refine Wn.cond (t := true) rfl ?_
        simp only [if_true]
        refine Wn.seq (Wn.of_wp ?_)
        refine putLine fs (w.heap.size + 1) V V2 u k gu cu l (ln u) w5 hLn hv6.mp hr2 hP _ _ _ _ _ _ _ _ _ _ _ _ _ _ _ _ _ _ _ _ _ _ _ _ _ _ _ _ _ _ _ _ _ _ _ _ _ _ _ _ _ _ _ _ _ _ _ _ _ _ _ _ _ _ _ _ _ _ _ _ _ _ ?_
        rintro v6 w6 z51 z52 z53 z54 z55 z56 z57 z58 z59 z60 ho hb hm
        show Wn _ _ _ _ _
        obtain ⟨hr7, hm7, ⟨s, r, tm, hc7⟩, hb7⟩ := hv6.put hlt hr1 hST.out hr2 ho hb hm
        have hvar7 := (hvar6.kept hb).block (updW_other hm k v6 V (by omega))
        have hnw7 := (hnw6.kept hb).block (updW_other hm k v6 V2 (by omega))
        generalize updW fs w6 (w.heap.size + 1) l k v6 = w7 at hr7 hm7 hc7 hb7 hvar7 hnw7 ⊢
        obtain ⟨e0, e1, e2, e3⟩ := hnw7
        refine Wn.region ?_
        show WnL _ _ _ [0, 1, 2] _ _
        refine WnL.value (o := _) rfl rfl (exec_move _ _ _ (.chan (some (w.heap.size + 3))) _ rfl rfl) ?_
        refine WnL.value (o := _) rfl rfl (exec_load4 _ _ _ V2 _ _ _ _ _ rfl rfl e0 e1 e2 e3) ?_
        refine WnL.send (o := _) (v := keyV fs k) rfl rfl (exec_send _ _ _ (w.heap.size + 3) (keyV fs k) _ _ rfl rfl rfl) hc7 (by have h1 := hv6.room; have h2 := @vQ_len st ln u k fs.length hk; simp; omega) ?_
        refine WnL.of_ops ?_
        show Wn _ _ _ _ _
        have hv8 := hv6.sent hr1 hST.out hr7 hm7 hc7 hb7 rfl
        have hvar8 := hvar7.block (setChan_other w7 (w.heap.size + 3) fs.length ((((q ++ vQ st ln u k).map (keyV fs)).toArray).push (keyV fs k)) false (s + 1) r tm V (by omega))
        generalize w7.setChan (w.heap.size + 3) fs.length ((((q ++ vQ st ln u k).map (keyV fs)).toArray).push (keyV fs k)) false (s + 1) r tm = w8 at hv8 hvar8 ⊢
        simp only [Act.put, List.setIfInBounds_toArray, List.set_cons_zero, List.set_cons_succ]
        refine Wn.of_wp ?_
        go_wp2
        exact HNX.out (l ++ [(k, v6)]) _ _ hv8 hvar8 ⟨_, _, _, _, _, _, _, _, _, _, _, _, _, _, _, _, _, _, _, _, _, _, _, _, _, _, _, _, _, _, _, _, _, _, _, _, _, _, _, _, _, _, _, _, _, _, _, _, _, _, _, _, _, by go_num⟩
    · obtain ⟨e1, e2⟩ := vL_skip (st := st) (ln := ln) (u := u) (k := k) (fun h => hr1 h.1)
      have hv5 := Lib.hid (hv4.same (funext e1) e2)
      have hvar5 := Lib.hid hvar4
      clear hr1 e1 e2 hv4 hvar4
      go_wp2_with (refine wpList_lookupR rfl _ _ rfl fs (w.heap.size + 1) l rfl hmp k rfl ?_; simp only [hr2, Option.getD_some, Option.isSome_some])
      show Wn _ _ _ _ _
      refine Wn.seq (Wn.of_wp ?_)
      go_wp2
      show Wn _ _ _ _ _
      refine Wn.cond (t := false) rfl ?_
      simp only [Bool.false_eq_true, if_false]
      refine Wn.of_wp ?_
      go_wp2
      show Wn _ _ _ _ _
      refine Wn.of_wp ?_
      go_wp2
      exact HNX.out l _ _ hv5.out hvar5.out ⟨_, _, _, _, _, _, _, _, _, _, _, _, _, _, _, _, _, _, _, _, _, _, _, _, _, _, _, _, _, _, _, _, _, _, _, _, _, _, _, _, _, _, _, _, _, _, _, _, _, _, _, _, _, by go_num⟩
  · have hkn : k = fs.length := by omega
    subst hkn
    refine Wn.seq (Wn.of_wp ?_)
    go_wp2
    show Wn _ _ _ _ _
    refine Wn.seq (Wn.cond (t := false) rfl ?_)
    simp only [Bool.false_eq_true, if_false]
    refine Wn.of_wp ?_
    go_wp2
    exact hQ l _ _ hv ⟨_, _, _, _, _, _, _, _, _, _, _, _, _, _, _, _, _, _, _, _, _, _, _, _, _, _, _, _, _, _, _, _, _, _, _, _, _, _, _, _, _, _, _, _, _, _, _, _, _, _, _, _, _, _, _, _, _, rfl⟩
end Go.Proofs.Ytmlcelleohhmcaa
