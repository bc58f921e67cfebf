/- The sets that are told: the model's (siTold, true). -/
import Derived.Test.YtmdhdbkeiennmaaToO1
set_option linter.unusedVariables false
set_option linter.unusedSimpArgs false
namespace Go.Proofs.Ytmdhdbkeiennmaa
open Go.RowKit

def FamMO (rss : List (List Int)) : Prop := ∀ r, r ∈ rss → oldB r = oldM r
theorem getD_inO (rss : List (List Int)) (k : Nat) (h : k < rss.length) : rss.getD k [] ∈ rss := by
  rw [List.getD_eq_getElem?_getD, List.getElem?_eq_getElem h]
  exact List.getElem_mem h
/-- What siBoth gives for the sum of a set that is there: a slice that is not nil. -/
def RetLitO (B : Nat) (rf : List (List Int)) (w : World) (e : Ending) (w' : World) : Prop :=
  ∃ g c vs, e = .returned (.slice (some ⟨g, 0, none⟩) rf.length c) ∧ OwnSS B w'.heap.size w' (.slice (some ⟨g, 0, none⟩) rf.length c) vs rf ∧ Below w.heap.size w w' ∧ (∀ i, i < rf.length → w'.cell? ⟨g, i, none⟩ = some (vs.getD i (.slice none 0 0)))
theorem retLitO {B : Nat} {rf : List (List Int)} {w w' : World} {e : Ending} {r : List Int} (hr : r ∈ rf) (h : RetSub B rf w e w') : RetLitO B rf w e w' := by
  obtain ⟨v, vs, rfl, ho, hb⟩ := h
  have ho2 := ho
  rcases ho.cases with ⟨_, rfl⟩ | ⟨g, c, rfl, hc⟩
  · simp at hr
  · exact ⟨g, c, vs, rfl, ho2, hb, hc⟩
set_option maxHeartbeats 16000000 in
set_option maxRecDepth 100000 in
theorem siToldO_some (B U go n c : Nat) (vs : List Value) (rss : List (List Int)) (w : World) (hl : rss.length = n) (hO : OwnSS B U w (.slice (some ⟨go, 0, none⟩) n c) vs rss) (hB : B ≤ U) (hU : U ≤ w.heap.size) (hF : FamA rss) (hM : FamMO rss) (hcell : ∀ i, i < n → w.cell? ⟨go, i, none⟩ = some (vs.getD i (.slice none 0 0))) :
    Calls Try.prog 56 #[.slice (some ⟨go, 0, none⟩) n c, .bool true] w (RetSub B (rss.filter (toldO rss)) w) := by
  obtain ⟨j0, hj, jz0, jz1, jz2⟩ := info_parts infoSlice
  have HO := Lib.hid hO
  have HF := Lib.hid hF
  have HM := Lib.hid hM
  have HL := Lib.hid hl
  have HCell := Lib.hid hcell
  have hn : n ≤ 160000 := by have := hF.1; omega
  have HV0 := Lib.hid (subV_zero (toldO rss) vs rss)
  have HVl := Lib.hid (fun k => subV_len (toldO rss) vs rss k)
  clear hO hF hM hl hcell
  go_enter Try.func56, Try.ntmps56
  go_wp2
  go_loopw [5, 8, 9, 11, 14] (fun u _ _ _ v wr => ∃ k : Nat, k ≤ n ∧ v = .int .i64 k ∧ Hid (wr.ownsRow w.heap.size 30 1 u (subV (toldO rss) vs rss k).length (subV (toldO rss) vs rss k)) ∧ Below w.heap.size w wr) (fun _ _ _ _ v _ => n - (intOf v).toNat)
  case atStart => exact ⟨0, Nat.zero_le _, rfl, Lib.hid (by rw [HV0.out]; exact World.ownsRow_nil _ _ _ _), Below.refl _ _⟩
  case round =>
    obtain ⟨k, hk, rfl, Ho, hb⟩ := hrel
    have hsz := hb.size
    have hvl := HVl.out k
    by_cases hlt : k < n
    · have hkr : k < rss.length := by rw [HL.out]; exact hlt
      have hrow := ((HO.out.kept hU hb).row k hkr)
      have hfam := HF.out.2 k hkr
      have hin := getD_inO rss k hkr
      have HY := Lib.hid (fun h => subV_yes (q := toldO rss) (vs := vs) (rss := rss) (k := k) h)
      have HN := Lib.hid (fun h => subV_no (q := toldO rss) (vs := vs) (rss := rss) (k := k) h)
      have hc := below_cells2 hb (HCell.out k hlt)
      generalize vs.getD k (.slice none 0 0) = x at hc hrow HY
      generalize rss.getD k [] = r at hrow hfam hin HY HN
      have hone := oneU hrow
      rcases hrow.cases with ⟨rfl, rfl⟩ | ⟨gk, ck, rfl, _, hgl, _, _, hIk, _⟩
      · have := hfam.2; simp at this
      have HC := Lib.hid (agSum_kids gk 0 r.length ck r wr rfl hfam.1 hIk)
      have hrin : r ∈ rss.filter (sumIs (sumL r)) := by
        rw [List.mem_filter]; exact ⟨hin, by simp [sumIs]⟩
      have HWs := Lib.hid ((siBoth_any (sumL r) B U _ vs rss wr (HO.out.kept hU hb) hB (Nat.le_trans hU hsz) HF.out).mono (fun e w' h => retLitO hrin h))
      have HFf := Lib.hid (famA_filter HF.out (sumIs (sumL r)))
      have HMf := Lib.hid (show FamMO (rss.filter (sumIs (sumL r))) from fun r2 h2 => HM.out r2 (List.mem_filter.1 h2).1)
      have HSp := Lib.hid (fun (W : World) (hbW : Below wr.heap.size wr W) => spOld_any gk r.length ck r W rfl hfam.2 hfam.1.1 (hIk.kept hbW hgl))
      rw [← HM.out r hin] at HSp
      have HD := Lib.hid (show toldO rss r = (oldB r && (decide (2 ≤ (rss.filter (sumIs (sumL r))).length) && (cntFO (rss.filter (sumIs (sumL r))) == 1))) from rfl)
      have HK := Lib.hid (fun (w2 : World) (hb2 : Below wr.heap.size wr w2) => (show Below w.heap.size w w2 ∧ w2.ownsRow w.heap.size 30 1 u5 (subV (toldO rss) vs rss k).length (subV (toldO rss) vs rss k) ∧ w.heap.size ≤ w2.heap.size from ⟨hb.trans (hb2.mono hsz), World.ownsRow.kept Ho.out (below_grown hb2 none) (by cases hv : u5.ownBlock <;> simp), Nat.le_trans hsz hb2.size⟩))
      clear hrow hfam hIk hgl hin Ho hb hrin
      generalize sumL r = s at HC HWs HFf HMf HD
      generalize rss.filter (sumIs s) = rf at HWs HFf HMf HD
      have hrl : rf.length ≤ 160000 := HFf.out.1
      have HKK := Lib.hid (fun k => cntFO_bd (rf.take k))
      have HT := Lib.hid (fun k h => cntFO_take rf k h)
      have hcb := cntFO_bd rf
      obtain ⟨m, hm⟩ : ∃ m, m = rf.length := ⟨_, rfl⟩
      have HE := Lib.hid (show cntFO (rf.take m) = cntFO rf by rw [hm, List.take_length])
      have HLm := Lib.hid hm.symm
      unfold RetLitO at HWs
      rw [← hm] at HWs hrl HD hcb
      clear hm
      go_wp2_with (first | (go_at_call 71; refine HC.out.mono ?_; rintro e w' ⟨rfl, rfl⟩) | (go_at_call 50; refine HWs.out.mono ?_; rintro e w2 ⟨g2, c2, vs2, rfl, ho2, hb2, hc2⟩))
      have HO2 := Lib.hid ho2
      have HC2 := Lib.hid hc2
      clear ho2 hc2
      go_loopw [8, 11, 24] (fun s _ v wr2 => ∃ j : Nat, j ≤ m ∧ v = .int .i64 j ∧ s = .int .i64 (cntFO (rf.take j)) ∧ Below w2.heap.size w2 wr2) (fun _ _ v _ => m - (intOf v).toNat)
      case atStart => exact ⟨0, Nat.zero_le _, rfl, rfl, Below.refl _ _⟩
      case round =>
        obtain ⟨j, hj2, rfl, rfl, hb3⟩ := hrel
        have hs := HKK.out j
        have htl : (rf.take j).length ≤ 160000 := by simp; omega
        by_cases hlt2 : j < m
        · have hjr : j < rf.length := by rw [HLm.out]; exact hlt2
          have hrow2 := ((HO2.out.kept (Nat.le_refl _) hb3).row j hjr)
          have hfam2 := HFf.out.2 j hjr
          have hM2 := HMf.out _ (getD_inO rf j hjr)
          have HS := Lib.hid (HT.out j hjr)
          have hcc := below_cells2 hb3 (HC2.out j hlt2)
          generalize vs2.getD j (.slice none 0 0) = x2 at hcc hrow2
          generalize rf.getD j [] = r2 at hrow2 hfam2 HS hM2
          rcases hrow2.cases with ⟨rfl, rfl⟩ | ⟨gj, cj, rfl, _, hgl2, _, _, hIj, _⟩
          · have := hfam2.2; simp at this
          have HQ := Lib.hid (spOld_any gj r2.length cj r2 wr rfl hfam2.2 hfam2.1.1 hIj)
          rw [← hM2] at HQ
          clear hrow2 hfam2 hIj hgl2 hM2
          have hs2 : 0 ≤ cntFO (rf.take j) ∧ cntFO (rf.take j) ≤ 160000 := by omega
          generalize cntFO (rf.take j) = sj at hs2 HS ⊢
          clear hs htl
          cases hx : oldB r2 with
          | true =>
            have HS1 := Lib.hid (show cntFO (rf.take (j + 1)) = sj + 1 by rw [HS.out]; unfold bIO; rw [if_pos hx])
            rw [hx] at HQ
            clear hx HS
            go_wp2_with (go_at_call 73; refine HQ.out.mono ?_; rintro e w' ⟨rfl, hb4⟩)
            go_roundw
            case rel => exact ⟨j + 1, by omega, by go_num, by rw [HS1.out], hb3.trans (hb4.mono hb3.size)⟩
            case measure => simp [intOf]; omega
          | false =>
            have HS1 := Lib.hid (show cntFO (rf.take (j + 1)) = sj by rw [HS.out]; unfold bIO; rw [if_neg (by rw [hx]; simp), Int.add_zero])
            rw [hx] at HQ
            clear hx HS
            go_wp2_with (go_at_call 73; refine HQ.out.mono ?_; rintro e w' ⟨rfl, hb4⟩)
            go_roundw
            case rel => exact ⟨j + 1, by omega, by go_num, by rw [HS1.out], hb3.trans (hb4.mono hb3.size)⟩
            case measure => simp [intOf]; omega
        · have hkn2 : j = m := by omega
          subst hkn2
          rw [HE.out]
          clear hs htl
          have HbX := Lib.hid (hb2.trans (hb3.mono hb2.size))
          generalize cntFO rf = cn at hcb HD
          clear HE HT HKK
          by_cases h2 : 2 ≤ j
          · have g1 : decide ((1 : Int) < (j : Int)) = true := decide_eq_true (by omega)
            have g1' : (1 : Int) < (j : Int) := by omega
            have d1 : decide (2 ≤ j) = true := decide_eq_true h2
            rw [d1, Bool.true_and] at HD
            clear d1
            by_cases h1 : cn = 1
            · subst h1
              rw [show ((1 : Int) == 1) = true from rfl, Bool.and_true] at HD
              cases hx : oldB r with
              | true =>
                rw [hx] at HSp HD
                have HY2 := Lib.hid (HY.out HD.out)
                clear hx HY HN HD
                go_wp2_with (first | (go_at_call 73; refine (HSp.out _ HbX.out).mono ?_; rintro e w4 ⟨rfl, hb4⟩; obtain ⟨hbw, how, hsw⟩ := HK.out w4 (HbX.out.trans (hb4.mono HbX.out.size))) | (at_builtin; refine wpList_append_own _ rfl _ _ 22 rfl w.heap.size 30 j0 (.slice none 0 0) 1 24 Try.underlying22 hj jz0 jz1 jz2 rfl (by decide) _ _ _ rfl (World.ownsRow.alloc how _) ⟨w4.heap.size, 0, none⟩ 1 1 [.slice (some ⟨gk, 0, none⟩) r.length ck] rfl rfl (newCellAt _ _ _ _ rfl) hone ?c4 ?c5 ?c6 ?_))
                case c4 => unfold maxLen; omega
                case c5 => omega
                case c6 => simp; omega
                intro v' w3 hown' hgrow _
                have hb5 := sub_push (B := B) (v' := v') (x := v') hbw how hgrow
                have Ho3 : Hid (w3.ownsRow w.heap.size 30 1 v' (subV (toldO rss) vs rss (k + 1)).length (subV (toldO rss) vs rss (k + 1))) := Lib.hid (by
                  rw [HY2.out, List.length_append]
                  exact hown')
                clear hown' hgrow how hbw
                go_wp2
                go_roundw
                case rel => exact ⟨k + 1, by omega, by go_num, Ho3, hb5⟩
                case measure => simp [intOf]; omega
              | false =>
                rw [hx] at HSp HD
                have HN2 := Lib.hid (HN.out HD.out)
                clear hx HY HN HD
                go_wp2_with (go_at_call 73; refine (HSp.out _ HbX.out).mono ?_; rintro e w4 ⟨rfl, hb4⟩; obtain ⟨hbw, how, hsw⟩ := HK.out w4 (HbX.out.trans (hb4.mono HbX.out.size)))
                have Ho3 : Hid (w4.ownsRow w.heap.size 30 1 u5 (subV (toldO rss) vs rss (k + 1)).length (subV (toldO rss) vs rss (k + 1))) := Lib.hid (by rw [HN2.out]; exact how)
                clear how
                go_roundw
                case rel => exact ⟨k + 1, by omega, by go_num, Ho3, hbw⟩
                case measure => simp [intOf]; omega
            · have g2 : (cn == 1) = false := by rw [beq_eq_false_iff_ne]; exact h1
              rw [g2, Bool.and_false] at HD
              have HN2 := Lib.hid (HN.out HD.out)
              obtain ⟨hbw, how, hsw⟩ := HK.out wr HbX.out
              have Ho3 : Hid (wr.ownsRow w.heap.size 30 1 u5 (subV (toldO rss) vs rss (k + 1)).length (subV (toldO rss) vs rss (k + 1))) := Lib.hid (by rw [HN2.out]; exact how)
              clear HY HN HD how
              go_wp2
              go_roundw
              case rel => exact ⟨k + 1, by omega, by go_num, Ho3, hbw⟩
              case measure => simp [intOf]; omega
          · have g1 : decide ((1 : Int) < (j : Int)) = false := decide_eq_false (by omega)
            have g1' : ¬ (1 : Int) < (j : Int) := by omega
            have d1 : decide (2 ≤ j) = false := decide_eq_false h2
            rw [d1, Bool.false_and, Bool.and_false] at HD
            clear d1
            have HN2 := Lib.hid (HN.out HD.out)
            obtain ⟨hbw, how, hsw⟩ := HK.out wr HbX.out
            have Ho3 : Hid (wr.ownsRow w.heap.size 30 1 u5 (subV (toldO rss) vs rss (k + 1)).length (subV (toldO rss) vs rss (k + 1))) := Lib.hid (by rw [HN2.out]; exact how)
            clear HY HN HD how
            go_wp2
            go_roundw
            case rel => exact ⟨k + 1, by omega, by go_num, Ho3, hbw⟩
            case measure => simp [intOf]; omega
    · have hkn : k = n := by omega
      have HS := Lib.hid (sub_own (q := toldO rss) (show k = rss.length by rw [HL.out]; exact hkn) HO.out hU hB hb Ho.out)
      clear hkn hk
      go_wp2
      go_ret
      exact ⟨_, _, rfl, HS.out, hb⟩
end Go.Proofs.Ytmdhdbkeiennmaa
