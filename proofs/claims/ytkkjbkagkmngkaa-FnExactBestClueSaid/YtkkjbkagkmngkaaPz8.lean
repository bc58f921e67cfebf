/- The model's gathering of hidden ages that fit clues. -/
import Derived.Test.YtkkjbkagkmngkaaPz7
import Derived.Test.YtkkjbkagkmngkaaPz6
import Derived.Test.YtkkjbkagkmngkaaOwnI
set_option linter.unusedVariables false
set_option linter.unusedSimpArgs false
namespace Go.Proofs.Ytkkjbkagkmngkaa
open Go.RowKit

/-- A slice of clues in blocks below B, not in block go. -/
def ArgP (B go : Nat) (w : World) (a : Option Addr) (n : Nat) (ds : List Kn) : Prop :=
  ds.length = n ∧ (n = 0 ∨ ∃ b off, a = some ⟨b, off, none⟩ ∧ b < B ∧ b ≠ go ∧ Kns w b off ds)
theorem ArgP.kept {B go : Nat} {w w' : World} {a : Option Addr} {n : Nat} {ds : List Kn} (h : ArgP B go w a n ds) (hB : B ≤ w.heap.size) (hb : Below w.heap.size w w') : ArgP B go w' a n ds := by
  obtain ⟨h1, h2⟩ := h
  refine ⟨h1, ?_⟩
  rcases h2 with h2 | ⟨b, off, ha, hlt, hne, hi⟩
  · exact .inl h2
  · exact .inr ⟨b, off, ha, hlt, hne, hi.kept hb (by omega)⟩
theorem ArgP.butO {B go : Nat} {w w' : World} {a : Option Addr} {n : Nat} {ds : List Kn} (h : ArgP B go w a n ds) (hB : B ≤ w.heap.size) (hbo : ButO B go w w') : ArgP B go w' a n ds := by
  obtain ⟨h1, h2⟩ := h
  refine ⟨h1, ?_⟩
  rcases h2 with h2 | ⟨b, off, ha, hlt, hne, hi⟩
  · exact .inl h2
  · refine .inr ⟨b, off, ha, hlt, hne, fun j hj => ?_⟩
    have hk := hi j hj
    have e : w'.heap[b]? = w.heap[b]? := hbo.block b (by omega) hne (.inl hlt)
    exact ⟨(World.cell?_of_block (w := w) (a := ⟨b, off + j * 3, none⟩) e).trans hk.1, (World.cell?_of_block (w := w) (a := ⟨b, off + j * 3 + 1, none⟩) e).trans hk.2.1, (World.cell?_of_block (w := w) (a := ⟨b, off + j * 3 + 2, none⟩) e).trans hk.2.2⟩
def LookP (B go : Nat) (ac : Option Addr) (nc cc : Nat) (cs : List Kn) (P : Nat) (n : Nat) : Prop :=
  ∀ (bgn : List Int) (vb : Value) (UB Ud : Nat) (D : List (List Int)) (v : Value) (vs : List Value) (w : World) (total : List (List Int)),
    bgn.length + n = P → (∀ x ∈ bgn, 1 ≤ x ∧ x ≤ 12) → go < B → ArgP B go w ac nc cs →
    w.cell? ⟨go, 0, none⟩ = some v → w.frozen? ⟨go, 0, none⟩ = false → OwnSS B Ud w v vs D → B ≤ Ud → Ud ≤ w.heap.size → Own UB w vb bgn → UB ≤ w.heap.size → Ud ≤ UB →
    total = D ++ lookX (fitB cs) n 12 bgn → total.length ≤ 160000 →
    Calls Try.prog 79 #[.int .i64 n, .slice ac nc cc, vb, .pointer (some ⟨go, 0, none⟩)] w (RetMore B go total w)

set_option maxHeartbeats 4000000 in
set_option maxRecDepth 100000 in
theorem pz_leaf (B go : Nat) (ac : Option Addr) (nc cc : Nat) (cs : List Kn) (P : Nat) (hP : P = 2 ∨ P = 3) (hcl : cs.length = nc) (hn6 : nc ≤ 1048576) (hcs : ∀ j, j < nc → icB P (at3 cs j) = true) : LookP B go ac nc cc cs P 0 := by
  intro bgn vb UB Ud D v vs w total h4 hg hgo hK hc hf hO hBU hUw hbg hUB hUU htot htl
  obtain ⟨i0, hi, hz0, hz1, hz2⟩ := info_parts infoSlice
  rw [lookX_zero] at htot
  have hdn : Hdn bgn := ⟨by omega, hg⟩
  have hlen : bgn.length = P := by omega
  rcases hbg.cases with ⟨rfl, rfl⟩ | ⟨gb, cb, rfl, hgb1, hgb2, _, _, hbI, _⟩
  · simp at hlen; omega
  have HB := Lib.hid hbg
  have HO := Lib.hid hO
  have HK := Lib.hid hK
  have HCs := Lib.hid hcs
  have HCl := Lib.hid hcl
  have HTot := Lib.hid htot
  have HTl := Lib.hid htl
  have HFit := Lib.hid (fun (W : World) (hb : Below w.heap.size w W) (k : Kn) (hk : icB P k = true) => pzFits_any gb cb bgn.length P k bgn W (by omega) rfl hk hdn (Nat.lt_of_lt_of_le hgb2 hb.size) (hbI.kept hb hgb2))
  have HDef := Lib.hid (show fitB cs bgn = fitTo cs nc bgn by unfold fitB; rw [hcl])
  clear hbg hO hK hcs hcl htot hg hdn hlen hbI htl h4
  generalize bgn.length = L at HFit HB ⊢
  rw [show (((0 : Nat)) : Int) = 0 from rfl]
  go_enter Try.func79, Try.ntmps79
  go_wp2_with fail
  go_loopw [29] (fun u wr => ∃ k : Nat, k ≤ nc ∧ u = .int .i64 k ∧ Hid (fitTo cs k bgn = true) ∧ Below w.heap.size w wr) (fun u _ => nc - (intOf u).toNat)
  case atStart => exact ⟨0, Nat.zero_le _, rfl, Lib.hid rfl, Below.refl _ _⟩
  case round =>
    obtain ⟨k, hk, rfl, HA, hb⟩ := hrel
    have hsz := hb.size
    by_cases hlt : k < nc
    · rcases HK.out.2 with h0 | ⟨bc, oc, hac, hbB, hbgo, hkn⟩
      · omega
      subst hac
      obtain ⟨p1, p2, p3⟩ := (hkn.kept hb (by omega)) k (by rw [HCl.out]; exact hlt)
      clear hkn
      have HS := Lib.hid (fitTo_succ cs k bgn)
      rw [HA.out, Bool.true_and] at HS
      have HN := Lib.hid (fun h => fitTo_not (cs := cs) (n := nc) (l := bgn) k hlt h)
      have HR := Lib.hid (fun (W : World) (hbW : Below w.heap.size w W) => HFit.out W hbW (at3 cs k) (HCs.out k hlt))
      have HBA := Lib.hid (hb.alloc hsz (.cells #[.int .i64 (at3 cs k).1, .int .i64 (at3 cs k).2.1, .int .i64 (at3 cs k).2.2] 54))
      cases hz1 : fitI (at3 cs k) bgn with
      | true =>
        rw [hz1] at HS HR
        clear hz1 HN
        generalize (at3 cs k).1 = y at p1 HR HBA
        generalize (at3 cs k).2.1 = d at p2 HR HBA
        generalize (at3 cs k).2.2 = o at p3 HR HBA
        go_wp2_with (go_at_call 87; refine (HR.out _ HBA.out).mono ?_; rintro e w' ⟨rfl, hcall⟩)
        go_roundw
        case rel => exact ⟨k + 1, by omega, by go_num, Lib.hid HS.out, HBA.out.trans (hcall.mono HBA.out.size)⟩
        case measure => simp [intOf]; omega
      | false =>
        rw [hz1] at HR
        have HZ := Lib.hid (HN.out hz1)
        clear hz1 HN HS
        generalize (at3 cs k).1 = y at p1 HR HBA
        generalize (at3 cs k).2.1 = d at p2 HR HBA
        generalize (at3 cs k).2.2 = o at p3 HR HBA
        go_wp2_with (go_at_call 87; refine (HR.out _ HBA.out).mono ?_; rintro e w' ⟨rfl, hcall⟩)
        refine bodyPost_ret (results_none rfl _ _ _) rfl ?_
        have hb' := HBA.out.trans (hcall.mono HBA.out.size)
        have ht : total = D := by
          have := HTot.out
          rw [HDef.out, HZ.out] at this
          simpa using this
        rw [ht]
        have hgl := World.block_lt_of_cell? w ⟨go, 0, none⟩ hc
        exact ⟨rfl, v, vs, below_cell2 hb' hc, below_frz hb' hgl hf, (HO.out.kept hUw hb').upTo _ (Nat.le_trans hUw hb'.size), (ButO.refl _ _ _).below hb'⟩
    · have hkn : k = nc := by omega
      subst hkn
      have ht : total = D ++ [bgn] := by
        have := HTot.out
        rw [HDef.out, HA.out] at this
        simpa using this
      have HTot2 := Lib.hid ht
      have hDl : D.length + 1 ≤ 160000 := by have := HTl.out; rw [ht] at this; simpa using this
      have hgl := World.block_lt_of_cell? w ⟨go, 0, none⟩ hc
      have hc' := below_cell2 hb hc
      have hf' := below_frz hb hgl hf
      have hO' := HO.out.kept hUw hb
      have HO' := Lib.hid hO'
      have hout := hO'.outer
      have HB' := Lib.hid (HB.out.kept hb)
      have HVL := Lib.hid hO'.len
      have hone := oneU HB'.out
      have HBB := Lib.hid hb
      clear ht hO' hc hf hb HTot HTl
      go_wp2_with (first | (at_builtin; refine wpList_append_own _ rfl _ _ 33 rfl B 41 i0 (.slice none 0 0) 1 24 Try.underlying33 hi hz0 hz1 hz2 rfl (by decide) _ _ _ rfl (World.ownsRow.alloc hout _) ⟨wr.heap.size, 0, none⟩ 1 1 [.slice (some ⟨gb, 0, none⟩) L cb] rfl rfl (newCellAt _ _ _ _ rfl) hone ?c4 ?c5 ?c6 ?_))
      case c4 => have := HVL.out; unfold maxLen; omega
      case c5 => have := HVL.out; omega
      case c6 => first | omega | (simp; omega)
      intro v' w1 hown' hgrow _
      have hbo := ButO.grown (go := go) hout hgrow
      have hb1 := hbo.size
      have hO1 := HO'.out.pushRow hBU (Nat.le_trans hUw hsz) (HB'.out.mono hUU) hown' hgrow
      have hgg : w1.heap[go]? = wr.heap[go]? := by
        have e := hgrow.block go (by simp; have := World.block_lt_of_cell? wr ⟨go, 0, none⟩ hc'; simp at this; omega) (fun e => by
          have := (World.ownsRow.lt hout go e.symm).1
          omega)
        rw [e, Below.heap_alloc _ _ _ (World.block_lt_of_cell? wr ⟨go, 0, none⟩ hc')]
      have hc1 : w1.cell? ⟨go, 0, none⟩ = some v := (World.cell?_of_block (w := wr) hgg).trans hc'
      have hf1 : w1.frozen? ⟨go, 0, none⟩ = false := (World.frozen?_of_block (w := wr) hgg).trans hf'
      have HO1 := Lib.hid hO1
      have HBo := Lib.hid (((ButO.refl B go w).below HBB.out).trans hbo)
      clear hown' hgrow hO1 hbo hgg hout
      rcases HO1.out.cases with ⟨_, h0⟩ | ⟨g', c', rfl, _⟩
      · simp at h0
      go_wp2_with fail
      go_end0
      refine ⟨rfl, _, vs ++ [.slice (some ⟨gb, 0, none⟩) L cb], cellIn_set _ _ _ _ hc1, ?_, ?_, HBo.out.set 0 _⟩
      · rw [← hf1]; exact World.frozen?_setCell w1 ⟨go, 0, none⟩ _ _
      · rw [HTot2.out]
        have hs : ∀ x, (w1.setCell ⟨go, 0, none⟩ x).heap.size = w1.heap.size := fun x => by simp [World.setCell]
        rw [hs]
        have hq := HO1.out
        simp only [List.length_append, List.length_singleton] at hq
        exact hq.keep fun k h1 _ => Below.heap_setCell w1 ⟨go, 0, none⟩ _ k (by simp; omega)

set_option maxHeartbeats 8000000 in
set_option maxRecDepth 100000 in
theorem pz_step (B go : Nat) (ac : Option Addr) (nc cc : Nat) (cs : List Kn) (P : Nat) (hP : P = 2 ∨ P = 3) (n : Nat) (ih : LookP B go ac nc cc cs P n) : LookP B go ac nc cc cs P (n + 1) := by
  intro bgn vb UB Ud D v vs w total h4 hg hgo hK hc hf hO hBU hUw hbg hUB hUU htot htl
  obtain ⟨i0, hi, hz0, hz1, hz2⟩ := info_parts infoInt
  have IH := Lib.hid ih
  have HO := Lib.hid hO
  have HTl := Lib.hid htl
  have HG := Lib.hid hg
  have HT := Lib.hid htot.symm
  have HBg := Lib.hid hbg
  have HK := Lib.hid hK
  obtain ⟨N, hN⟩ : ∃ N : Nat, N = n + 1 := ⟨_, rfl⟩
  rw [show ((n + 1 : Nat) : Int) = (N : Int) by rw [hN]]
  have hnz : (0 : Int) < (N : Int) := by omega
  have hnzN : 0 < N := by omega
  have hnzD : decide (0 < N) = true := decide_eq_true hnzN
  have hnm : (N : Int) - 1 = (n : Int) := by omega
  have hnw : IntKind.i64.wrap (n : Int) = (n : Int) := IntWalk.i64_in _ (by omega)
  have hbgo2 : ∀ g, vb.ownBlock = some g → g ≠ go := fun g e => by have := (World.ownsRow.lt hbg g e).1; omega
  have HLL : Hid (bgn.length ≤ 3 ∧ bgn.length + (n + 1) = P) := Lib.hid ⟨by omega, h4⟩
  clear ih hO htl hg htot hbg hK h4 hN
  go_enter Try.func79, Try.ntmps79
  go_wp2_with fail
  go_loopw [8] (fun u wr => ∃ (age : Int) (D' : List (List Int)) (v' : Value) (vs' : List Value), u = .int .i64 age ∧ 1 ≤ age ∧ age ≤ 13 ∧ wr.cell? ⟨go, 0, none⟩ = some v' ∧ wr.frozen? ⟨go, 0, none⟩ = false ∧ Hid (OwnSS B wr.heap.size wr v' vs' D') ∧ ButO B go w wr ∧ Hid (D' ++ lookX (fitB cs) (n + 1) (13 - age).toNat bgn = total)) (fun u _ => (41 - intOf u).toNat)
  case atStart => exact ⟨_, D, v, vs, rfl, by omega, by omega, hc, hf, Lib.hid (HO.out.upTo _ hUw), ButO.refl _ _ _, HT⟩
  case round =>
    obtain ⟨age, D', v', vs', rfl, ha1, ha2, hc', hf', HO', hbo, HT'⟩ := hrel
    have hsz := hbo.size
    by_cases h20 : age ≤ 12
    · have ek : (13 - age).toNat = (12 - age).toNat + 1 := by omega
      have ek2 : 12 - (((12 - age).toNat : Nat) : Int) = age := by omega
      have ek3 : (13 - (age + 1)).toNat = (12 - age).toNat := by omega
      have HT1 := Lib.hid HT'.out
      rw [ek, lookX_succ, ek2, ← ek3] at HT1
      have HT2 : Hid ((D' ++ lookX (fitB cs) n 12 (bgn ++ [age])) ++ lookX (fitB cs) (n + 1) (13 - (age + 1)).toNat bgn = total) := Lib.hid (by
        rw [List.append_assoc]; exact HT1.out)
      clear ek ek2 ek3
      have HKw := Lib.hid (HK.out.butO (by omega) hbo)
      have HB1 := Lib.hid (HBg.out.butO (w' := wr) hbo hbgo2)
      have HOwn := Lib.hid ((ownOf_any UB vb bgn wr (by have := HLL.out; omega) HB1.out).mono (fun e W' h => (show ∃ u, e = .returned u ∧ Own wr.heap.size W' u bgn ∧ Below wr.heap.size wr W' from h)))
      have HIH := Lib.hid (fun (W : World) (u : Value) (hb : Below wr.heap.size wr W) (hu : Own wr.heap.size W u (bgn ++ [age])) =>
        IH.out (bgn ++ [age]) u wr.heap.size wr.heap.size D' v' vs' W (D' ++ lookX (fitB cs) n 12 (bgn ++ [age])) (by have := HLL.out; simp; omega) (by intro x hx; rcases List.mem_append.1 hx with hx | hx; exact HG.out x hx; simp at hx; omega) hgo (HKw.out.kept (by omega) hb) (below_cells2 hb hc') ((hb.frozen (p := ⟨go, 0, none⟩) (World.block_lt_of_cell? wr ⟨go, 0, none⟩ hc')).trans hf') (HO'.out.kept (Nat.le_refl _) hb) (by omega) hb.size hu hb.size (Nat.le_refl _)
          rfl (by have := HTl.out; rw [← HT2.out, List.length_append] at this; omega))
      have hkl := World.block_lt_of_cell? wr ⟨go, 0, none⟩ hc'
      have HPush := Lib.hid (fun (W W2 : World) (u u2 : Value) (hb : Below wr.heap.size wr W) (hu : Own wr.heap.size W u bgn) (hg : W.grownBy W2 u.ownBlock) (hr : W2.ownsRow wr.heap.size 3 1 u2 (bgn.length + 1) (bgn.map (Value.int .i64) ++ [.int .i64 age])) => (show Below wr.heap.size wr W2 ∧ Own wr.heap.size W2 u2 (bgn ++ [age]) from ⟨below_ownAbove (B := wr.heap.size) hb hu hg (Nat.le_refl _), own_push hr⟩))
      clear hsz
      go_wp2_with (first | (go_at_call 60; refine HOwn.out.mono ?_; rintro e w1 ⟨u, rfl, hu, hb1⟩) | (at_builtin; refine wpList_append_own _ rfl _ _ 41 rfl wr.heap.size 3 i0 (.int .i64 0) 1 8 Try.underlying41 hi hz0 hz1 hz2 rfl (by decide) _ _ _ rfl (World.ownsRow.alloc hu _) ⟨w1.heap.size, 0, none⟩ 1 1 [.int .i64 age] rfl rfl (newCell _ _ _) (oneInt _) ?c3 ?c4 ?c5 ?_))
      case c3 => have := HLL.out; unfold maxLen; omega
      case c4 => have := HLL.out; omega
      case c5 => have := hb1.size; first | omega | (simp; omega)
      intro u2 w2 hown2 hgrow2 _
      obtain ⟨hb2, hu2⟩ := HPush.out _ _ _ _ (hb1.alloc hb1.size _) (World.ownsRow.alloc hu _) hgrow2 hown2
      have HCall := Lib.hid (HIH.out w2 u2 hb2 hu2)
      clear hown2 hgrow2
      go_wp2_with fail
      refine HCall.out.mono ?_
      rintro e w3 ⟨rfl, v3, vs3, hc3, hf3, ho3, hbo3⟩
      have HO3 := Lib.hid ho3
      have hbo4 : ButO B go w w3 := (hbo.below hb2).trans hbo3
      clear ho3 hbo3 hbo
      go_wp2_with fail
      go_roundw
      case rel => exact ⟨age + 1, _, v3, vs3, by go_num, by omega, by omega, hc3, hf3, HO3, hbo4, HT2⟩
      case measure => simp [intOf]; omega
    · have HE : Hid (D' = total) := Lib.hid (by
        have h := HT'.out
        have ek : (13 - age).toNat = 0 := by omega
        rw [ek, lookX_none, List.append_nil] at h
        exact h)
      go_wp2_with fail
      refine bodyPost_ret (results_none rfl _ _ _) rfl ?_
      exact ⟨rfl, v', vs', hc', hf', HE.out ▸ HO'.out, hbo⟩
theorem pz_every (B go : Nat) (ac : Option Addr) (nc cc : Nat) (cs : List Kn) (P : Nat) (hP : P = 2 ∨ P = 3) (hcl : cs.length = nc) (hn6 : nc ≤ 1048576) (hcs : ∀ j, j < nc → icB P (at3 cs j) = true) : ∀ n, LookP B go ac nc cc cs P n
  | 0 => pz_leaf B go ac nc cc cs P hP hcl hn6 hcs
  | n + 1 => pz_step B go ac nc cc cs P hP n (pz_every B go ac nc cc cs P hP hcl hn6 hcs n)
theorem boxP {W : World} {k : Nat} {v : Value} {t : TypeId} (h : W.heap[k]? = some (.cells #[v] t (0, 0))) : W.cell? ⟨k, 0, none⟩ = some v ∧ W.frozen? ⟨k, 0, none⟩ = false := by
  refine ⟨by simp [World.cell?, h], by simp [World.frozen?, h]⟩
theorem box_newP {W : World} {k : Nat} {A : Obj} (hk : k = W.heap.size) : (W.alloc A).heap[k]? = some A := by
  subst hk; exact heap_alloc_new W A
theorem OwnSS.monoB {B B' U : Nat} {w : World} {v : Value} {vs : List Value} {rss : List (List Int)} (h : OwnSS B U w v vs rss) (hB : B' ≤ B) : OwnSS B' U w v vs rss := by
  refine ⟨h.len, ?_, h.obl, fun i hi => (h.row i hi).mono hB, h.rbl, h.apart⟩
  refine ⟨h.outer.1, ?_⟩
  rcases h.outer.2 with h2 | ⟨g, cap, cur, hv, hg, r⟩
  · exact .inl h2
  · exact .inr ⟨g, cap, cur, hv, Nat.le_trans hB hg, r⟩
set_option maxHeartbeats 1600000 in
theorem pzAll_any (n : Nat) (a : Option Addr) (nc c : Nat) (cs : List Kn) (w : World) (h : n = 2 ∨ n = 3) (hn6 : nc ≤ 1048576) (hcs : ∀ j, j < nc → icB n (at3 cs j) = true) (hK : ArgK w a nc cs) :
    Calls Try.prog 57 #[.int .i64 n, .slice a nc c] w (RetSets (solL n cs) w) := by
  have HC := Lib.hid (fun (W : World) (hW : W.heap.size = w.heap.size + 1) (hk : ArgP (w.heap.size + 1) w.heap.size W a nc cs) (hc : W.cell? ⟨w.heap.size, 0, none⟩ = some (.slice none 0 0)) (hf : W.frozen? ⟨w.heap.size, 0, none⟩ = false) =>
    pz_every (w.heap.size + 1) w.heap.size a nc c cs n h hK.1 hn6 hcs n [] (.slice none 0 0) (w.heap.size + 1) (w.heap.size + 1) [] (.slice none 0 0) [] W (solL n cs) (by simp) (by intro x hx; simp at hx) (by omega) hk hc hf (ownSS_nil _ _ _) (Nat.le_refl _) (by omega) (own_nil _ _) (by omega) (Nat.le_refl _)
      (by rw [List.nil_append, look_sol n h]) (Nat.le_trans (solL_len (by omega) cs) (by omega)))
  have HKA : Hid (ArgP (w.heap.size + 1) w.heap.size (w.alloc (.cells #[.slice none 0 0] 33)) a nc cs) := Lib.hid (by
    refine ⟨hK.1, ?_⟩
    rcases hK.2 with h0 | ⟨b, off, ha, hlt, hi⟩
    · exact .inl h0
    · exact .inr ⟨b, off, ha, by omega, by omega, hi.kept ((Below.refl w.heap.size w).alloc (Nat.le_refl _) _) hlt⟩)
  clear hK hcs
  go_enter Try.func57, Try.ntmps57
  go_wp2_with (go_at_call 79; refine (HC.out _ (by simp) HKA.out (boxP (box_newP rfl)).1 (boxP (box_newP rfl)).2).mono ?_; rintro e w' ⟨rfl, v', vs', hc', hf', ho', hbo⟩)
  go_ret
  refine ⟨v', vs', rfl, (ho'.monoB (by omega)), ⟨hbo.os, hbo.tape, hbo.output, ?_, fun k hk => ?_⟩⟩
  · have := hbo.size; simp at this; omega
  · rw [hbo.block k (by simp; omega) (by omega) (.inl (by omega)), Below.heap_alloc _ _ _ hk]
end Go.Proofs.Ytkkjbkagkmngkaa
