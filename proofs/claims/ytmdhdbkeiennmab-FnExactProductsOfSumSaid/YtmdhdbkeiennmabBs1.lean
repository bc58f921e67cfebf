/- The model's own gathering of sets with a sum. -/
import Derived.Test.YtmdhdbkeiennmabSet0
import Derived.Test.YtmdhdbkeiennmabOwnI
import Derived.Test.YtmdhdbkeiennmabSi1
set_option linter.unusedVariables false
set_option linter.unusedSimpArgs false
namespace Go.Proofs.Ytmdhdbkeiennmab
open Go.RowKit

/-- From which age on the next child is. -/
def fromL (ap : Int) (l : List Int) : Int := if l.length = 0 then 1 else l.getD (l.length - 1) 0 + ap
theorem fromL_snoc (ap : Int) (l : List Int) (a : Int) : fromL ap (l ++ [a]) = a + ap := by
  unfold fromL
  rw [if_neg (by simp), getD_last]
def BySumAt (B go : Nat) (ap : Int) (n : Nat) : Prop :=
  ∀ (left : Int) (bgn : List Int) (vb : Value) (UB Ud : Nat) (D : List (List Int)) (v : Value) (vs : List Value) (w : World) (total : List (List Int)),
    bgn.length + n ≤ 4 → 1 ≤ bgn.length + n → (bgn = [] → vb = .slice none 0 0) → (∀ x ∈ bgn, 1 ≤ x ∧ x ≤ 20) → (0 ≤ left ∧ left ≤ 80) → go < B →
    w.cell? ⟨go, 0, none⟩ = some v → w.frozen? ⟨go, 0, none⟩ = false → OwnSS B Ud w v vs D → B ≤ Ud → Ud ≤ w.heap.size → Own UB w vb bgn → UB ≤ w.heap.size → Ud ≤ UB →
    total = D ++ bySum ap n (21 - fromL ap bgn).toNat left bgn → total.length ≤ 160000 →
    Calls Try.prog 71 #[.int .i64 n, .int .i64 left, .int .i64 ap, vb, .pointer (some ⟨go, 0, none⟩)] w (RetMore B go total w)

set_option maxHeartbeats 4000000 in
set_option maxRecDepth 100000 in
theorem bySum_leaf (B go : Nat) (ap : Int) : BySumAt B go ap 0 := by
  intro left bgn vb UB Ud D v vs w total h4 h1 hvb hg hleft hgo hc hf hO hBU hUw hbg hUB hUU htot htl
  obtain ⟨i0, hi, hz0, hz1, hz2⟩ := info_parts infoSlice
  rw [bySum_zero] at htot
  rcases hbg.cases with ⟨rfl, rfl⟩ | ⟨gb, cb, rfl, _⟩
  · simp at h1
  have HB := Lib.hid hbg
  have hone := oneU hbg
  have HO := Lib.hid hO
  have hout := hO.outer
  have HVL := Lib.hid hO.len
  clear hbg hO hvb
  by_cases h0 : left = 0
  · subst h0
    rw [if_pos rfl] at htot
    have HTot := Lib.hid htot
    have hDl : D.length + 1 ≤ 160000 := by have := htl; rw [htot] at this; simpa using this
    clear htot
    go_enter Try.func71, Try.ntmps71
    go_wp2_with (first | (at_builtin; refine wpList_append_own _ rfl _ _ 35 rfl B 22 i0 (.slice none 0 0) 1 24 Try.underlying35 hi hz0 hz1 hz2 rfl (by decide) _ _ _ rfl (World.ownsRow.alloc hout _) ⟨w.heap.size, 0, none⟩ 1 1 [.slice (some ⟨gb, 0, none⟩) bgn.length cb] rfl rfl (newCellAt _ _ _ _ rfl) hone ?c4 ?c5 ?c6 ?_))
    case c4 => have := HVL.out; unfold maxLen; omega
    case c5 => have := HVL.out; omega
    case c6 => simp; omega
    intro v' w1 hown' hgrow _
    have hbo := ButO.grown (go := go) hout hgrow
    have hb1 := hbo.size
    have hO1 := HO.out.pushRow hBU hUw (HB.out.mono hUU) hown' hgrow
    have hk := hbo.block go (World.block_lt_of_cell? w _ hc) 
    have hgg : w1.heap[go]? = w.heap[go]? := by
      have e := hgrow.block go (by simp; have := World.block_lt_of_cell? w _ hc; simp at this; omega) (fun e => by
        have := (World.ownsRow.lt hout go e.symm).1
        omega)
      rw [e, Below.heap_alloc _ _ _ (World.block_lt_of_cell? w _ hc)]
    have hc1 : w1.cell? ⟨go, 0, none⟩ = some v := (World.cell?_of_block (w := w) hgg).trans hc
    have hf1 : w1.frozen? ⟨go, 0, none⟩ = false := (World.frozen?_of_block (w := w) hgg).trans hf
    have HO1 := Lib.hid hO1
    have HBo := Lib.hid hbo
    clear hk hown' hgrow hO1 hbo hgg hout
    rcases HO1.out.cases with ⟨_, h0⟩ | ⟨g', c', rfl, _⟩
    · simp at h0
    go_wp2
    go_end0
    refine ⟨rfl, _, vs ++ [.slice (some ⟨gb, 0, none⟩) bgn.length cb], cellIn_set _ _ _ _ hc1, ?_, ?_, HBo.out.set 0 _⟩
    · rw [← hf1]; exact World.frozen?_setCell w1 ⟨go, 0, none⟩ _ _
    · rw [HTot.out]
      have hs : ∀ x, (w1.setCell ⟨go, 0, none⟩ x).heap.size = w1.heap.size := fun x => by simp [World.setCell]
      rw [hs]
      have hq := HO1.out
      simp only [List.length_append, List.length_singleton] at hq
      exact hq.keep fun k h1 _ => Below.heap_setCell w1 ⟨go, 0, none⟩ _ k (by simp; omega)
  · rw [if_neg h0, List.append_nil] at htot
    subst htot
    clear hout
    go_enter Try.func71, Try.ntmps71
    go_wp2
    go_end0
    exact ⟨rfl, v, vs, hc, hf, HO.out.upTo _ hUw, ButO.refl _ _ _⟩

set_option maxHeartbeats 8000000 in
set_option maxRecDepth 100000 in
theorem bySum_step (B go : Nat) (ap : Int) (hap : 0 ≤ ap ∧ ap ≤ 20) (n : Nat) (ih : BySumAt B go ap n) : BySumAt B go ap (n + 1) := by
  intro left bgn vb UB Ud D v vs w total h4 h1 hvb hg hleft hgo hc hf hO hBU hUw hbg hUB hUU htot htl
  obtain ⟨i0, hi, hz0, hz1, hz2⟩ := info_parts infoInt
  have IH := Lib.hid ih
  have HO := Lib.hid hO
  have HTl := Lib.hid htl
  have HG := Lib.hid hg
  have HT := Lib.hid htot.symm
  have HBg := Lib.hid hbg
  obtain ⟨N, hN⟩ : ∃ N : Nat, N = n + 1 := ⟨_, rfl⟩
  rw [show ((n + 1 : Nat) : Int) = (N : Int) by rw [hN]]
  have hnz : ((N : Int) == 0) = false := by rw [beq_eq_false_iff_ne]; omega
  have hnm : (N : Int) - 1 = (n : Int) := by omega
  have hnw : IntKind.i64.wrap (n : Int) = (n : Int) := IntWalk.i64_in _ (by omega)
  clear hN
  have hbgo : ∀ g, vb.ownBlock = some g → g ≠ go := fun g e => by have := (World.ownsRow.lt hbg g e).1; omega
  have hl4 : bgn.length ≤ 3 := by omega
  clear ih hO htl hg htot
  rcases hbg.cases with ⟨rfl, rfl⟩ | ⟨gb, cb, rfl, hb1, hb2, hb3, hb4, hbI, hbF⟩
  · have HLO : Hid (1 ≤ fromL ap [] ∧ fromL ap [] ≤ 41) := Lib.hid (show (1 : Int) ≤ 1 ∧ (1 : Int) ≤ 41 by omega)
    have e0 : fromL ap [] = 1 := rfl
    rw [e0] at HLO HT
    generalize hbge : ([] : List Int) = bgn at HG HT HBg hl4
    have hbn : bgn.length + (n + 1) ≤ 4 := by rw [← hbge]; simp at h4 ⊢; omega
    clear hbge h4 h1 hvb hbg
    go_enter Try.func71, Try.ntmps71
    go_wp2_with fail
    go_loopw [11] (fun u wr => ∃ (age : Int) (D' : List (List Int)) (v' : Value) (vs' : List Value), u = .int .i64 age ∧ 1 ≤ age ∧ age ≤ 41 ∧ wr.cell? ⟨go, 0, none⟩ = some v' ∧ wr.frozen? ⟨go, 0, none⟩ = false ∧ Hid (OwnSS B wr.heap.size wr v' vs' D') ∧ ButO B go w wr ∧ Hid (D' ++ bySum ap (n + 1) (21 - age).toNat left bgn = total)) (fun u _ => (41 - intOf u).toNat)
    case atStart => exact ⟨_, D, v, vs, rfl, HLO.out.1, HLO.out.2, hc, hf, Lib.hid (HO.out.upTo _ hUw), ButO.refl _ _ _, HT⟩
    case round =>
      obtain ⟨age, D', v', vs', rfl, ha1, ha2, hc', hf', HO', hbo, HT'⟩ := hrel
      have hsz := hbo.size
      by_cases h20 : age ≤ 20
      · by_cases hal : age ≤ left
        · have ek : (21 - age).toNat = (20 - age).toNat + 1 := by omega
          have ek2 : 20 - (((20 - age).toNat : Nat) : Int) = age := by omega
          have ek3 : (21 - (age + 1)).toNat = (20 - age).toNat := by omega
          have HT2 : Hid ((D' ++ bySum ap n (21 - (age + ap)).toNat (left - age) (bgn ++ [age])) ++ bySum ap (n + 1) (21 - (age + 1)).toNat left bgn = total) := Lib.hid (by
            have h := HT'.out
            rw [ek, bySum_succ, ek2, if_pos hal] at h
            rw [ek3, List.append_assoc]
            exact h)
          have HB1 := Lib.hid (HBg.out.butO (w' := wr) hbo hbgo)
          have HOwn := Lib.hid (ownOf_any UB (Value.slice none 0 0) bgn wr (by omega) HB1.out)
          have HIH := Lib.hid (fun (W : World) (u : Value) (hb : Below wr.heap.size wr W) (hu : Own wr.heap.size W u (bgn ++ [age])) =>
            IH.out (left - age) (bgn ++ [age]) u wr.heap.size wr.heap.size D' v' vs' W (D' ++ bySum ap n (21 - (age + ap)).toNat (left - age) (bgn ++ [age])) (by simp; omega) (by simp; omega) (by simp) (by intro x hx; rcases List.mem_append.1 hx with hx | hx; exact HG.out x hx; simp at hx; omega) (by omega) hgo (below_cells2 hb hc') ((hb.frozen (p := ⟨go, 0, none⟩) (World.block_lt_of_cell? wr _ hc')).trans hf') (HO'.out.kept (Nat.le_refl _) hb) (by omega) hb.size hu hb.size (by omega)
              (by rw [fromL_snoc]) (by have := HTl.out; rw [← HT2.out, List.length_append] at this; omega))
          have hkl := World.block_lt_of_cell? wr _ hc'
          clear ek ek2 ek3
          go_wp2_with (first | (go_at_call 62; refine HOwn.out.mono ?_; rintro e w1 ⟨u, rfl, hu, hb1⟩) | (at_builtin; refine wpList_append_own _ rfl _ _ 22 rfl wr.heap.size 3 i0 _ 1 8 Try.underlying22 hi hz0 hz1 hz2 rfl (by decide) _ _ _ rfl (World.ownsRow.alloc hu _) ⟨w1.heap.size, 0, none⟩ 1 1 [.int .i64 age] rfl rfl (newCell _ _ _) (oneInt _) ?c3 ?c4 ?c5 ?_))
          case c3 => unfold maxLen; omega
          case c4 => omega
          case c5 => have := hb1.size; simp; omega
          intro u' w2 hown' hgrow _
          have hb2 : Below wr.heap.size wr w2 := below_ownAbove (B := wr.heap.size) (hb1.alloc hb1.size _) (World.ownsRow.alloc hu _) hgrow (Nat.le_refl _)
          have hu2 := own_push hown'
          have HCall := Lib.hid (HIH.out w2 u' hb2 hu2)
          clear hown' hgrow hu hb1
          go_wp2_with (first | (go_at_call 71; refine HCall.out.mono ?_; rintro e w3 ⟨rfl, v3, vs3, hc3, hf3, ho3, hbo3⟩))
          have HO3 := Lib.hid ho3
          have hbo4 : ButO B go w w3 := (hbo.below hb2).trans hbo3
          clear ho3 hbo3 hbo
          go_wp2
          go_roundw
          case rel => exact ⟨age + 1, _, v3, vs3, by go_num, by omega, by omega, hc3, hf3, HO3, hbo4, HT2⟩
          case measure => simp [intOf]; omega
        · have HE : Hid (D' = total) := Lib.hid (by
            have h := HT'.out
            have ek : (21 - age).toNat = (20 - age).toNat + 1 := by omega
            have ek2 : 20 - (((20 - age).toNat : Nat) : Int) = age := by omega
            rw [ek, bySum_succ, ek2, if_neg hal, List.append_nil] at h
            exact h)
          go_wp2
          go_end0
          exact ⟨rfl, v', vs', hc', hf', HE.out ▸ HO'.out, hbo⟩
      · have HE : Hid (D' = total) := Lib.hid (by
          have h := HT'.out
          have ek : (21 - age).toNat = 0 := by omega
          rw [ek, bySum_none, List.append_nil] at h
          exact h)
        go_wp2
        go_end0
        exact ⟨rfl, v', vs', hc', hf', HE.out ▸ HO'.out, hbo⟩
  · obtain ⟨L, hL⟩ : ∃ L, bgn.length = L := ⟨_, rfl⟩
    have hL1 : 1 ≤ L := by
      rcases Nat.eq_zero_or_pos L with h0 | h0
      · have := hvb (List.eq_nil_of_length_eq_zero (by omega))
        simp at this
      · exact h0
    have hlx : 1 ≤ bgn.getD (L - 1) 0 ∧ bgn.getD (L - 1) 0 ≤ 20 := by
      have hm := HG.out bgn[L - 1] (List.getElem_mem (by omega))
      simpa [List.getElem?_eq_getElem (show L - 1 < bgn.length by omega)] using hm
    have hcx : w.cell? ⟨gb, L - 1, none⟩ = some (.int .i64 (bgn.getD (L - 1) 0)) := by
      have := hbI (L - 1) (by omega)
      rwa [Nat.zero_add] at this
    have hfr : fromL ap bgn = bgn.getD (L - 1) 0 + ap := by
      unfold fromL
      rw [hL, if_neg (by omega)]
    rw [hfr] at HT
    rw [hL] at HBg hbgo hl4 hb3 h4 ⊢
    have HLL := Lib.hid hL
    generalize bgn.getD (L - 1) 0 = x at hlx hcx HT
    have HLO : Hid (1 ≤ x + ap ∧ x + ap ≤ 41) := Lib.hid (by omega)
    have ei : (L : Int) - 1 = ((L - 1 : Nat) : Int) := by omega
    have ew : IntKind.i64.wrap ((L - 1 : Nat) : Int) = ((L - 1 : Nat) : Int) := IntWalk.i64_in _ (by omega)
    have eb1 : (0 : Int) ≤ ((L - 1 : Nat) : Int) := by omega
    have eb2 : ((L - 1 : Nat) : Int) < (L : Int) := by omega
    have eb3 : (0 : Int) < (L : Int) := by omega
    have eb4 : 0 < L := by omega
    have ex : IntKind.i64.wrap (x + ap) = x + ap := IntWalk.i64_in _ (by omega)
    clear hfr hL hbI hbF h1 hvb hbg
    go_enter Try.func71, Try.ntmps71
    go_wp2_with fail
    go_loopw [11] (fun u wr => ∃ (age : Int) (D' : List (List Int)) (v' : Value) (vs' : List Value), u = .int .i64 age ∧ 1 ≤ age ∧ age ≤ 41 ∧ wr.cell? ⟨go, 0, none⟩ = some v' ∧ wr.frozen? ⟨go, 0, none⟩ = false ∧ Hid (OwnSS B wr.heap.size wr v' vs' D') ∧ ButO B go w wr ∧ Hid (D' ++ bySum ap (n + 1) (21 - age).toNat left bgn = total)) (fun u _ => (41 - intOf u).toNat)
    case atStart => exact ⟨_, D, v, vs, rfl, HLO.out.1, HLO.out.2, hc, hf, Lib.hid (HO.out.upTo _ hUw), ButO.refl _ _ _, HT⟩
    case round =>
      obtain ⟨age, D', v', vs', rfl, ha1, ha2, hc', hf', HO', hbo, HT'⟩ := hrel
      have hsz := hbo.size
      by_cases h20 : age ≤ 20
      · by_cases hal : age ≤ left
        · have ek : (21 - age).toNat = (20 - age).toNat + 1 := by omega
          have ek2 : 20 - (((20 - age).toNat : Nat) : Int) = age := by omega
          have ek3 : (21 - (age + 1)).toNat = (20 - age).toNat := by omega
          have HT2 : Hid ((D' ++ bySum ap n (21 - (age + ap)).toNat (left - age) (bgn ++ [age])) ++ bySum ap (n + 1) (21 - (age + 1)).toNat left bgn = total) := Lib.hid (by
            have h := HT'.out
            rw [ek, bySum_succ, ek2, if_pos hal] at h
            rw [ek3, List.append_assoc]
            exact h)
          have HB1 := Lib.hid (HBg.out.butO (w' := wr) hbo hbgo)
          have HOwn := Lib.hid (ownOf_any UB (Value.slice (some ⟨gb, 0, none⟩) L cb) bgn wr (by have := HLL.out; omega) HB1.out)
          have HIH := Lib.hid (fun (W : World) (u : Value) (hb : Below wr.heap.size wr W) (hu : Own wr.heap.size W u (bgn ++ [age])) =>
            IH.out (left - age) (bgn ++ [age]) u wr.heap.size wr.heap.size D' v' vs' W (D' ++ bySum ap n (21 - (age + ap)).toNat (left - age) (bgn ++ [age])) (by have := HLL.out; simp; omega) (by have := HLL.out; simp; omega) (by simp) (by intro x hx; rcases List.mem_append.1 hx with hx | hx; exact HG.out x hx; simp at hx; omega) (by omega) hgo (below_cells2 hb hc') ((hb.frozen (p := ⟨go, 0, none⟩) (World.block_lt_of_cell? wr _ hc')).trans hf') (HO'.out.kept (Nat.le_refl _) hb) (by omega) hb.size hu hb.size (by omega)
              (by rw [fromL_snoc]) (by have := HTl.out; rw [← HT2.out, List.length_append] at this; omega))
          have hkl := World.block_lt_of_cell? wr _ hc'
          clear ek ek2 ek3
          go_wp2_with (first | (go_at_call 62; refine HOwn.out.mono ?_; rintro e w1 ⟨u, rfl, hu, hb1⟩) | (at_builtin; refine wpList_append_own _ rfl _ _ 22 rfl wr.heap.size 3 i0 _ 1 8 Try.underlying22 hi hz0 hz1 hz2 rfl (by decide) _ _ _ rfl (World.ownsRow.alloc hu _) ⟨w1.heap.size, 0, none⟩ 1 1 [.int .i64 age] rfl rfl (newCell _ _ _) (oneInt _) ?c3 ?c4 ?c5 ?_))
          case c3 => have := HLL.out; unfold maxLen; omega
          case c4 => have := HLL.out; omega
          case c5 => have := hb1.size; simp; omega
          intro u' w2 hown' hgrow _
          have hb2 : Below wr.heap.size wr w2 := below_ownAbove (B := wr.heap.size) (hb1.alloc hb1.size _) (World.ownsRow.alloc hu _) hgrow (Nat.le_refl _)
          have hu2 := own_push hown'
          have HCall := Lib.hid (HIH.out w2 u' hb2 hu2)
          clear hown' hgrow hu hb1
          go_wp2_with (first | (go_at_call 71; refine HCall.out.mono ?_; rintro e w3 ⟨rfl, v3, vs3, hc3, hf3, ho3, hbo3⟩))
          have HO3 := Lib.hid ho3
          have hbo4 : ButO B go w w3 := (hbo.below hb2).trans hbo3
          clear ho3 hbo3 hbo
          go_wp2
          go_roundw
          case rel => exact ⟨age + 1, _, v3, vs3, by go_num, by omega, by omega, hc3, hf3, HO3, hbo4, HT2⟩
          case measure => simp [intOf]; omega
        · have HE : Hid (D' = total) := Lib.hid (by
            have h := HT'.out
            have ek : (21 - age).toNat = (20 - age).toNat + 1 := by omega
            have ek2 : 20 - (((20 - age).toNat : Nat) : Int) = age := by omega
            rw [ek, bySum_succ, ek2, if_neg hal, List.append_nil] at h
            exact h)
          go_wp2
          go_end0
          exact ⟨rfl, v', vs', hc', hf', HE.out ▸ HO'.out, hbo⟩
      · have HE : Hid (D' = total) := Lib.hid (by
          have h := HT'.out
          have ek : (21 - age).toNat = 0 := by omega
          rw [ek, bySum_none, List.append_nil] at h
          exact h)
        go_wp2
        go_end0
        exact ⟨rfl, v', vs', hc', hf', HE.out ▸ HO'.out, hbo⟩
end Go.Proofs.Ytmdhdbkeiennmab
