/- Lines from somebody on: the program's text, at one kind of steps. -/
import Derived.Test.YtmlcelleohhmcaaLiUp
import Derived.Carry
import Derived.Conc.SmallLaws
set_option linter.unusedVariables false
set_option linter.unusedSimpArgs false
namespace Go.Proofs.Ytmlcelleohhmcaa
open Go Go.Conc Go.RowKit

set_option maxHeartbeats 8000000 in
set_option maxRecDepth 100000 in
theorem linesUp_any (st : Nat → Nat → Bool) (fs : List Kn) (g cc a : Nat) (w : World) (hK : Kdr fs w g cc) (ha : a < fs.length)
    (hF : Hid (∀ (s t : Nat) (w : World), Calls Try.prog 55 #[.agg #[.int .i64 (at3 fs s).1, .int .i64 (at3 fs s).2.1, .int .i64 (at3 fs s).2.2, .int .i64 s], .agg #[.int .i64 (at3 fs t).1, .int .i64 (at3 fs t).2.1, .int .i64 (at3 fs t).2.2, .int .i64 t]] w (Ret (.bool ((st) s t)) w))) : Calls Try.prog 72 #[.slice (some ⟨g, 0, none⟩) fs.length cc, .agg #[.int .i64 (at3 fs a).1, .int .i64 (at3 fs a).2.1, .int .i64 (at3 fs a).2.2, .int .i64 a], .func (.func 55) #[] #[]] w (RetLn fs (st) a w) := by
  have h14 := hK.2
  have hgs := hK.1.shape.2.2.1
  have hRl := hK.1.shape.2.2.2.2.1
  have HRL := Lib.hid hRl
  have hmm := @run_makeMap Try.prog
  have hn1 : 1 ≤ fs.length := by omega
  clear hRl
  refine calls_of_wn (c := _) Try.func72 rfl ?_
  simp only [Try.ntmps72, List.size_toArray, List.length_cons, List.length_nil, Nat.reduceAdd, Nat.reduceSub, Array.replicate_succ, Array.replicate_zero, List.push_toArray, List.append_toArray, List.nil_append, List.cons_append]
  refine Wn.seq (Wn.of_wp ?_)
  go_wp2
  show Wn _ _ _ _ _
  refine Wn.seq (Wn.of_wp ?_)
  have hm : IsMapR fs ((w.alloc (.cells #[.int .i64 (at3 fs a).1, .int .i64 (at3 fs a).2.1, .int .i64 (at3 fs a).2.2, .int .i64 a] 70)).alloc (.map #[] 0)) (w.heap.size + 1) [] := by
    have := isMapR_new fs (w.alloc (.cells #[.int .i64 (at3 fs a).1, .int .i64 (at3 fs a).2.1, .int .i64 (at3 fs a).2.2, .int .i64 a] 70))
    simpa using this
  have HM := Lib.hid fun A => IsMapR.kept hm ((Below.refl _ _).alloc (Nat.le_refl _) A)
  clear hm
  go_wp2_with (refine wpList_insertR rfl _ _ _ rfl fs (w.heap.size + 1) [] rfl (HM.out _) a rfl _ rfl rfl ?_; intro w1 hm1 hg1 hs1)
  show Wn _ _ _ _ _
  have hS1 : LfA fs a w w1 := lfA_start fs a w w1 _ hm1 hg1 hs1
  clear hm1 hg1 hs1 HM
  have c0 := hS1.c0
  have c1 := hS1.c1
  have c2 := hS1.c2
  have c3 := hS1.c3
  refine Wn.seq (Wn.of_wp ?_)
  have hsz1 := hS1.size
  have hmc : ∀ W : World, (Instr.makeChan 87 (.int .i64 (fs.length : Int))).run Try.prog W = .ok (.chan (some W.heap.size)) (W.alloc (.chan fs.length #[] false 0 0 false)) := by
    obtain ⟨i0, hi, hz0, hz1, hz2⟩ := info_parts infoRel
    intro W
    exact run_makeChan (w := W) Try.underlying87 hi .i64 fs.length (by omega) (by rw [hz2]; omega)
  go_wp2
  show Wn _ _ _ _ _
  refine Wn.seq (Wn.region ?_)
  show WnL _ _ _ [0, 1, 2] _ _
  have hc0 : (w1.alloc (.chan fs.length #[] false 0 0 false)).heap[w.heap.size + 3]? = some (.chan fs.length #[] false 0 0 false) := by rw [← hsz1]; exact heap_alloc_new w1 _
  have hS2 : LfB fs a w (w1.alloc (.chan fs.length #[] false 0 0 false)) := hS1.chan _
  have e0 := hS2.c0
  have e1 := hS2.c1
  have e2 := hS2.c2
  have e3 := hS2.c3
  generalize w1.alloc (.chan fs.length #[] false 0 0 false) = w2 at hS2 hc0 e0 e1 e2 e3 ⊢
  refine WnL.value (o := _) rfl rfl (exec_move _ _ _ (.chan (some (w.heap.size + 3))) _ rfl rfl) ?_
  refine WnL.value (o := _) rfl rfl (exec_load4 _ _ _ w.heap.size _ _ _ _ _ rfl rfl e0 e1 e2 e3) ?_
  refine WnL.send (o := _) (v := keyV fs a) rfl rfl (exec_send _ _ _ (w.heap.size + 3) (keyV fs a) _ _ rfl rfl rfl) hc0 (by simp; omega) ?_
  refine WnL.of_ops ?_
  show Wn _ _ _ _ _
  have hS3 := lfS_start (st := st) h14 ha hS2 hc0
  generalize w2.setChan (w.heap.size + 3) fs.length (#[].push (keyV fs a)) false (0 + 1) 0 false = w3 at hS3 ⊢
  clear hS2 hc0 e0 e1 e2 e3 hS1 hsz1 hmc hmm c0 c1 c2 c3
  refine Wn.block (Wn.loopG (fun (x : (Nat → List Nat) × List Nat × Nat × List (Nat × Value)) b wr => LfS fs (st) a w wr x.1 x.2.1 x.2.2.1 x.2.2.2 ∧ ∃ u3 u5 u9 u10 u11 u12 u13 u14 u15 u16 u17 u18 u19 u20 u21 u22 u23 u24 u25 u26 u27 u28 u29 u30 u31 u32 u33 u34 u35 u36 u37 u38 u39 u40 u41 u42 u43 u44 u45 u46 u47 u48 u49 u50 u51 u52 u53 u54 u55 u56 u57 u58 u59 u60 u61 u62 u63, b = { tmps := #[.slice (some ⟨g, 0, none⟩) fs.length cc, .agg #[.int .i64 (at3 fs a).1, .int .i64 (at3 fs a).2.1, .int .i64 (at3 fs a).2.2, .int .i64 a], .func (.func 55) #[] #[], u3, .pointer (some ⟨w.heap.size, 0, none⟩), u5, .map none, .map (some (w.heap.size + 1)), .chan (some (w.heap.size + 3)), u9, u10, u11, u12, u13, u14, u15, u16, u17, u18, u19, u20, u21, u22, u23, u24, u25, u26, u27, u28, u29, u30, u31, u32, u33, u34, u35, u36, u37, u38, u39, u40, u41, u42, u43, u44, u45, u46, u47, u48, u49, u50, u51, u52, u53, u54, u55, u56, u57, u58, u59, u60, u61, u62, u63], defers := [] }) (fun x => 2 * unm x.1 fs.length + x.2.1.length) (_, _, _, _) ⟨hS3, _, _, _, _, _, _, _, _, _, _, _, _, _, _, _, _, _, _, _, _, _, _, _, _, _, _, _, _, _, _, _, _, _, _, _, _, _, _, _, _, _, _, _, _, _, _, _, _, _, _, _, _, _, _, _, _, _, rfl⟩ ?_)
  rintro ⟨ln, q, c, l⟩ b wr ⟨hS, u3, u5, u9, u10, u11, u12, u13, u14, u15, u16, u17, u18, u19, u20, u21, u22, u23, u24, u25, u26, u27, u28, u29, u30, u31, u32, u33, u34, u35, u36, u37, u38, u39, u40, u41, u42, u43, u44, u45, u46, u47, u48, u49, u50, u51, u52, u53, u54, u55, u56, u57, u58, u59, u60, u61, u62, u63, rfl⟩
  simp only at hS ⊢
  clear hS3
  refine Wn.block ?_
  refine Wn.seq (Wn.of_wp ?_)
  go_wp2
  show Wn _ _ _ _ _
  refine Wn.seq (Wn.region ?_)
  show WnL _ _ _ [0, 1, 2] _ _
  obtain ⟨cs, cr, tm, hch⟩ := hS.ch
  cases q with
  | nil =>
    refine WnL.default (o := _) rfl rfl (exec_select _ _ (w.heap.size + 3) _ _ rfl rfl) (fun c' hc' => ?_) ?_
    · simp at hc'
      subst hc'
      exact noWay_recv hch
    have hcr : commResult #[rcase (w.heap.size + 3) (.agg #[.int .i64 0, .int .i64 0, .int .i64 0, .int .i64 0])] .select (-1) undef false = .tuple #[.int .i64 (-1), .bool false, .agg #[.int .i64 0, .int .i64 0, .int .i64 0, .int .i64 0]] := by
      first | rfl | (simp [commResult, rcase, goInt]; done)
    rw [hcr]
    refine WnL.value (o := _) rfl rfl (exec_extract _ _ _ 0 #[.int .i64 (-1), .bool false, .agg #[.int .i64 0, .int .i64 0, .int .i64 0, .int .i64 0]] (.int .i64 (-1)) _ rfl rfl rfl) ?_
    refine WnL.value (o := _) rfl rfl (exec_eqz _ _ _ (-1) _ rfl rfl rfl) ?_
    refine WnL.of_ops ?_
    show Wn _ _ _ _ _
    simp only [Act.put, List.setIfInBounds_toArray, List.set_cons_zero, List.set_cons_succ]
    refine Wn.block (Wn.cond (t := false) rfl ?_)
    simp only [Bool.false_eq_true, if_false]
    refine Wn.seq (Wn.of_wp ?_)
    go_wp2
    show Wn _ _ _ _ _
    refine Wn.of_wp ?_
    go_wp2
    go_ret
    exact ⟨_, l, ln, c, rfl, by omega, hS.mp, hS.rows, hS.bfs, hS.below⟩
  | cons u q =>
    refine WnL.recv (o := _) (m := 0) (z := .agg #[.int .i64 0, .int .i64 0, .int .i64 0, .int .i64 0]) rfl rfl (exec_select _ _ (w.heap.size + 3) _ _ rfl rfl) rfl (fun m' c' hm' hc' => ?_) hch (by simp) ?_
    · exfalso
      have h1 := (Array.getElem?_eq_some_iff.1 hc').1
      simp at h1
      omega
    have hv := hS.take hch (buf := ((((u :: q).map (keyV fs)).toArray).extract 1 (((u :: q).map (keyV fs)).toArray).size)) (by simp [List.take_of_length_le])
    generalize wr.setChan (w.heap.size + 3) fs.length ((((u :: q).map (keyV fs)).toArray).extract 1 (((u :: q).map (keyV fs)).toArray).size) false cs (cr + 1) tm = wv at hv ⊢
    have hcr : commResult #[rcase (w.heap.size + 3) (.agg #[.int .i64 0, .int .i64 0, .int .i64 0, .int .i64 0])] .select (0 : Nat) ((((u :: q).map (keyV fs)).toArray).getD 0 undef) true = .tuple #[.int .i64 0, .bool true, keyV fs u] := by
      have e0 : (((u :: q).map (keyV fs)).toArray).getD 0 undef = keyV fs u := by simp
      rw [e0]
      first | rfl | (simp [commResult, rcase, goInt]; done)
    rw [hcr]
    refine WnL.value (o := _) rfl rfl (exec_extract _ _ _ 0 #[.int .i64 0, .bool true, keyV fs u] (.int .i64 0) _ rfl rfl rfl) ?_
    refine WnL.value (o := _) rfl rfl (exec_eqz _ _ _ 0 _ rfl rfl rfl) ?_
    refine WnL.of_ops ?_
    show Wn _ _ _ _ _
    simp only [Act.put, List.setIfInBounds_toArray, List.set_cons_zero, List.set_cons_succ]
    clear hS hch hcr
    refine Wn.block (Wn.cond (t := true) rfl ?_)
    simp only [if_true]
    refine Wn.seq (Wn.of_wp ?_)
    have hvb := hv.below
    unfold keyV
    go_wp2
    show Wn _ _ _ _ _
    refine Wn.seq (Wn.of_wp ?_)
    go_wp2
    show Wn _ _ _ _ _
    have hvar := relAt_new fs wv u wv.heap.size rfl
    have hVB : w.heap.size + 3 < wv.heap.size := by obtain ⟨_, _, _, hc⟩ := hv.ch; exact (Array.getElem?_eq_some_iff.1 hc).1
    have hvA := hv.kept ((Below.refl wv.heap.size wv).alloc (Nat.le_refl _) (.cells #[.int .i64 (at3 fs u).1, .int .i64 (at3 fs u).2.1, .int .i64 (at3 fs u).2.2, .int .i64 u] 70))
    have hu := (hv.bfs.path u (hv.bfs.met u (by simp))).lt ha
    clear hv hvb
    generalize wv.alloc (.cells #[.int .i64 (at3 fs u).1, .int .i64 (at3 fs u).2.1, .int .i64 (at3 fs u).2.2, .int .i64 u] 70) = wa at hvA hvar ⊢
    generalize wv.heap.size = V at hvar hVB ⊢
    refine visitUp_any st fs g cc a w wa hK ln u q c l V hF hvA hvar hVB hu _ _ _ _ _ _ _ _ _ _ _ _ _ _ _ _ _ _ _ _ _ _ _ _ _ _ _ _ _ _ _ _ _ _ _ _ _ _ _ _ _ _ _ _ _ _ _ _ _ _ _ _ _ _ ?_
    rintro l' b' wb hE ⟨u3, u5, u9, u10, u11, u12, u13, u14, u15, u16, u17, u18, u19, u20, u21, u22, u23, u24, u25, u26, u27, u28, u29, u30, u31, u32, u33, u34, u35, u36, u37, u38, u39, u40, u41, u42, u43, u44, u45, u46, u47, u48, u49, u50, u51, u52, u53, u54, u55, u56, u57, u58, u59, u60, u61, u62, u63, rfl⟩
    have hE' := hE.ends h14
    refine ⟨(vL st ln u fs.length, q ++ vQ st ln u fs.length, cd (ln u), l'), ⟨hE', _, _, _, _, _, _, _, _, _, _, _, _, _, _, _, _, _, _, _, _, _, _, _, _, _, _, _, _, _, _, _, _, _, _, _, _, _, _, _, _, _, _, _, _, _, _, _, _, _, _, _, _, _, _, _, _, _, rfl⟩, ?_⟩
    have := unm_visit st ln u fs.length
    simp only [List.length_append, List.length_cons]
    omega
end Go.Proofs.Ytmlcelleohhmcaa
