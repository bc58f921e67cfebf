/- ProductsOfSum: the model's text. -/
import Derived.Test.YtmdhdbkeiennmabLh
import Derived.Test.YtmdhdbkeiennmabNoP
import Derived.Test.YtmdhdbkeiennmabSaBoth
set_option linter.unusedVariables false
set_option linter.unusedSimpArgs false
namespace Go.Proofs.Ytmdhdbkeiennmab
open Go.RowKit

theorem prods_at (rss : List (List Int)) (k : Nat) (h : k < rss.length) : (rss.map prodL).getD k 0 = prodL (rss.getD k []) := by
  simp [List.getElem?_eq_getElem h]
theorem fam_setsSP {n : Nat} (S ap : Int) (hn : n ≤ 4) (h1 : 1 ≤ n) : FamP (setsS n S ap) := by
  refine ⟨setsS_length S ap hn, fun i hi => ?_⟩
  have hm : (setsS n S ap).getD i [] ∈ setsS n S ap := by
    simp only [List.getD_eq_getElem?_getD, List.getElem?_eq_getElem hi, Option.getD_some]
    exact List.getElem_mem hi
  obtain ⟨a, b, _⟩ := setsS_mem hm
  exact ⟨⟨by omega, b⟩, by omega⟩
set_option maxHeartbeats 16000000 in
set_option maxRecDepth 100000 in
theorem spProds_some (n : Nat) (S : Int) (rss : List (List Int)) (w : World) (hF : FamP rss) (hS : ∀ W, Calls Try.prog 51 #[.int .i64 n, .int .i64 S] W (RetSame (.bool true) W))
    (hR : ∀ W, Calls Try.prog 52 #[.int .i64 n, .int .i64 S, .int .i64 0] W (RetSets rss W)) :
    Calls Try.prog 23 #[.int .i64 n, .int .i64 S] w (RetOwnB (cps (rss.map prodL)) true w) := by
  obtain ⟨i0, hi, hz0, hz1, hz2⟩ := info_parts infoInt
  have HF := Lib.hid hF
  have HS := Lib.hid hS
  have HE := Lib.hid (iso_cps (rss.map prodL))
  have HPL := Lib.hid (show (rss.map prodL).length = rss.length from List.length_map _)
  have HAt := Lib.hid (fun k h => prods_at rss k h)
  obtain ⟨m, hm⟩ : ∃ m, m = rss.length := ⟨_, rfl⟩
  have HL := Lib.hid hm.symm
  have hml : m ≤ 160000 := by have := hF.1; omega
  have HR := Lib.hid hR
  clear hF hS hR hm
  generalize rss.map prodL = ps at HE HPL HAt ⊢
  have HD0 := Lib.hid (ddTo_zero ps)
  have HDo := Lib.hid (fun k h => ddTo_old (ps := ps) (k := k) h)
  have HDn := Lib.hid (fun k h => ddTo_new (ps := ps) (k := k) h)
  have HDl := Lib.hid (fun k => ddTo_len ps k)
  have HDj := Lib.hid (inj_nodup (ddTo_nodup ps m))
  go_enter Try.func23, Try.ntmps23
  go_wp2_with (first | (go_at_call 51; refine (HS.out _).mono ?_; rintro e w' ⟨rfl, rfl⟩))
  refine (HR.out _).mono ?_
  rintro e w1 ⟨v, vs, rfl, hss, hb1⟩
  have hs1 := hb1.size
  have HO := Lib.hid hss
  rcases hss.cases with ⟨rfl, h0⟩ | ⟨go, c, rfl, hcell⟩
  · have hps : ps = [] := List.eq_nil_of_length_eq_zero (by rw [HPL.out, h0]; rfl)
    have HE3 := Lib.hid (show cps ps = [] by rw [hps, cps_nilP])
    clear hps h0 HO hss HE HAt HPL HL HF
    go_wp2
    go_loop [6, 23] (fun u v => u = .slice none 0 0 ∧ v = .int .i64 0) (fun _ _ => 0)
    case atStart => exact ⟨rfl, rfl⟩
    case round =>
      obtain ⟨rfl, rfl⟩ := hrel
      go_wp2
      go_loop [48] (fun v => v = .int .i64 0) (fun _ => 0)
      case atStart => exact rfl
      case round =>
        obtain rfl := hrel
        go_wp2
        go_ret2
        exact ⟨_, rfl, by rw [HE3.out]; exact own_nil _ _, hb1⟩
  have HCell := Lib.hid hcell
  rw [HL.out] at HCell HO ⊢
  clear hss hcell
  go_wp2
  go_loopw [6, 8, 9, 11, 23] (fun u _ _ _ v wr => ∃ k : Nat, k ≤ m ∧ v = .int .i64 k ∧ Hid (Own w1.heap.size wr u (ddTo ps k)) ∧ Below w1.heap.size w1 wr) (fun _ _ _ _ v _ => m - (intOf v).toNat)
  case atStart => exact ⟨0, Nat.zero_le _, rfl, Lib.hid (by rw [HD0.out]; exact own_nil _ _), Below.refl _ _⟩
  case round =>
    obtain ⟨k, hk, rfl, Ho, hb⟩ := hrel
    have hsz := hb.size
    have hdl := HDl.out k
    by_cases hlt : k < m
    · have hkr : k < rss.length := by rw [HL.out]; exact hlt
      have hrow := ((HO.out.kept (Nat.le_refl _) hb).row k hkr)
      have hfam := HF.out.2 k hkr
      have hc := below_cells2 hb (HCell.out k hlt)
      have HY := Lib.hid (fun h => HDo.out k h)
      have HN := Lib.hid (fun h => HDn.out k h)
      rw [HAt.out k hkr] at HY HN
      generalize vs.getD k (.slice none 0 0) = x at hc hrow
      generalize rss.getD k [] = r at hrow hfam HY HN
      rcases hrow.cases with ⟨rfl, rfl⟩ | ⟨gk, ck, rfl, _, hgl, _, _, hIk, _⟩
      · have := hfam.2; simp at this
      have HI := Lib.hid hIk
      have hk4 := hfam.1.1
      have HK := Lib.hid (fun k h => kid_prod4 hfam.1 k h)
      have HA := Lib.hid (fun k h => kid_at hfam.1 k h)
      have HT := Lib.hid (fun k h => prodL_take r k h)
      obtain ⟨L, hL⟩ : ∃ L, L = r.length := ⟨_, rfl⟩
      have HE2 := Lib.hid (show prodL (r.take L) = prodL r by rw [hL, List.take_length])
      have HLr := Lib.hid hL.symm
      rw [← hL] at hc hk4
      clear hrow hfam hIk hgl hL
      go_wp2
      go_loop [9, 11, 29] (fun s _ v => ∃ j : Nat, j ≤ L ∧ v = .int .i64 j ∧ s = .int .i64 (prodL (r.take j))) (fun _ _ v => L - (intOf v).toNat)
      case atStart => exact ⟨0, Nat.zero_le _, rfl, rfl⟩
      case round =>
        obtain ⟨j, hjn, rfl, rfl⟩ := hrel
        by_cases hlt2 : j < L
        · have hcj := HI.out j (by rw [HLr.out]; exact hlt2)
          have hs := HK.out (j + 1) (by rw [HLr.out]; exact hlt2)
          have HSj := Lib.hid (HT.out j (by rw [HLr.out]; exact hlt2))
          rw [HT.out j (by rw [HLr.out]; exact hlt2)] at hs
          rw [Nat.zero_add] at hcj
          generalize r.getD j 0 = x at hcj hs HSj
          generalize prodL (r.take j) = s at hs HSj ⊢
          have hw : IntKind.i64.wrap (s * x) = s * x := IntWalk.i64_in _ (by omega)
          go_wp2
          go_round
          case rel => exact ⟨j + 1, by omega, by go_num, by rw [HSj.out]⟩
          case measure => simp [intOf]; omega
        · have hkn2 : j = L := by omega
          subst hkn2
          rw [HE2.out]
          clear HK HA HT HE2
          generalize prodL r = y at HY HN ⊢
          have HH := Lib.hid (l1Has_any w1.heap.size _ (ddTo ps k) y wr (by omega) Ho.out)
          cases hq : (ddTo ps k).contains y with
          | true =>
            rw [hq] at HH
            have HY2 := Lib.hid (HY.out hq)
            have Ho2 : Hid (Own w1.heap.size wr _ (ddTo ps (k + 1))) := Lib.hid (by rw [HY2.out]; exact Ho.out)
            clear hq HY HN Ho
            go_wp2_with (go_at_call 53; refine HH.out.mono ?_; rintro e w' ⟨rfl, rfl⟩)
            go_roundw
            case rel => exact ⟨k + 1, by omega, by go_num, Ho2, hb⟩
            case measure => simp [intOf]; omega
          | false =>
            rw [hq] at HH
            have HN2 := Lib.hid (HN.out hq)
            have ho := Ho.out
            clear hq HY HN Ho
            go_wp2_with (first | (go_at_call 53; refine HH.out.mono ?_; rintro e w' ⟨rfl, rfl⟩) | (at_builtin; refine wpList_append_own _ rfl _ _ 22 rfl w1.heap.size 3 i0 (.int .i64 0) 1 8 Try.underlying22 hi hz0 hz1 hz2 rfl (by decide) _ _ _ rfl (World.ownsRow.alloc ho _) ⟨wr.heap.size, 0, none⟩ 1 1 [.int .i64 y] rfl rfl (newCell _ _ _) (oneInt _) ?c3 ?c4 ?c5 ?_))
            case c3 => unfold maxLen; omega
            case c4 => omega
            case c5 => simp; omega
            intro v' w2 hown' hgrow _
            have hb2 := below_push hb ho hgrow
            have HO2 := Lib.hid (own_push hown')
            rw [← HN2.out] at HO2
            clear hown' hgrow ho
            go_wp2
            go_roundw
            case rel => exact ⟨k + 1, by omega, by go_num, HO2, hb2⟩
            case measure => simp [intOf]; omega
    · have hkn : k = m := by omega
      rw [HPL.out, HL.out] at HE
      have ho := Ho.out
      rw [hkn] at ho hdl
      clear Ho hkn hk
      generalize ddTo ps m = d at HE HDj ho hdl
      clear HDo HDn HDl HD0 HAt HCell HO HF HR HS
      rcases ho.cases with ⟨rfl, rfl⟩ | ⟨g, cg, rfl, hgB, hgl, _⟩
      · have HE3 := Lib.hid (show cps ps = [] from HE.out.symm)
        go_wp2
        go_loop [48] (fun v => v = .int .i64 0) (fun _ => 0)
        case atStart => exact rfl
        case round =>
          obtain rfl := hrel
          go_wp2
          go_ret2
          exact ⟨_, rfl, by rw [HE3.out]; exact own_nil _ _, hb1.trans (hb.mono hs1)⟩
      · have HIl := Lib.hid (fun i h => isoI_len d HDj.out i h)
        generalize d.length = N at HE ho hdl HIl ⊢
        have HO0 := Lib.hid ho
        clear ho
        go_wp2
        go_loopw [12, 13, 14, 48] (fun _ _ _ v wr => ∃ i : Nat, i ≤ N ∧ v = .int .i64 i ∧ Hid (Own w1.heap.size wr (.slice (some ⟨g, 0, none⟩) N cg) (isoI i d)) ∧ Below w1.heap.size w1 wr) (fun _ _ _ v _ => N - (intOf v).toNat)
        case atStart => exact ⟨0, Nat.zero_le _, rfl, HO0, hb⟩
        case round =>
          clear hb HO0
          obtain ⟨i, hi2, rfl, HO1, hb⟩ := hrel
          by_cases hlt3 : i < N
          · go_wp2
            go_loopw [13, 14] (fun v _ wr => ∃ (k : Nat) (cur : List Int), k ≤ i ∧ v = .int .i64 k ∧ Hid (Own w1.heap.size wr (.slice (some ⟨g, 0, none⟩) N cg) cur) ∧ Hid (siftI k cur = isoI (i + 1) d) ∧ Below w1.heap.size w1 wr) (fun v _ _ => (intOf v).toNat)
            case atStart => exact ⟨i, isoI i d, Nat.le_refl _, rfl, HO1, Lib.hid (by rfl), hb⟩
            case round =>
              clear hb HO1
              obtain ⟨k2, cur, hk2, rfl, HO2, HSf, hb⟩ := hrel
              cases k2 with
              | zero =>
                have HE4 := Lib.hid (show cur = isoI (i + 1) d from HSf.out)
                have HO3 : ∀ dn, Hid (Own w1.heap.size (wr.drewN dn) (.slice (some ⟨g, 0, none⟩) N cg) (isoI (i + 1) d)) := fun dn => Lib.hid (by rw [← HE4.out]; exact HO2.out.kept (below_drewN (Below.refl _ _) _))
                have g1 : decide ((0 : Int) < ((0 : Nat) : Int)) = false := by decide
                go_wp2
                go_big_quiet (fail)
                go_wp2
                go_roundw
                case rel => exact ⟨i + 1, by omega, by go_num, HO3 _, below_drewN hb _⟩
                case measure => simp [intOf]; omega
              | succ k =>
                have hsh := HO2.out.shape
                obtain ⟨hNc, _, _, _, hI, hfz⟩ := hsh
                have hcx : wr.cell? ⟨g, k + 1, none⟩ = some (.int .i64 (cur.getD (k + 1) 0)) := by
                  have := hI (k + 1) (by omega)
                  rwa [Nat.zero_add] at this
                have hcy : wr.cell? ⟨g, k, none⟩ = some (.int .i64 (cur.getD k 0)) := by
                  have := hI k (by omega)
                  rwa [Nat.zero_add] at this
                have hfx := hfz (k + 1)
                have hfy := hfz k
                have HSy := Lib.hid (fun h => siftI_yes (k := k) (zs := cur) h)
                have HSn := Lib.hid (fun h => siftI_no (k := k) (zs := cur) h)
                have HSw := Lib.hid (show swI cur (k + 1) = (cur.set (k + 1) (cur.getD k 0)).set k (cur.getD (k + 1) 0) from rfl)
                generalize cur.getD (k + 1) 0 = x at hcx HSy HSn HSw
                generalize cur.getD k 0 = y at hcy HSy HSn HSw
                have k5 : IntKind.i64.wrap ((k : Int) + 1 - 1) = (k : Int) := by rw [show (k : Int) + 1 - 1 = (k : Int) by omega]; exact IntWalk.i64_in _ (by omega)
                have k7 : IntKind.i64.wrap (k : Int) = (k : Int) := IntWalk.i64_in _ (by omega)
                have k8 : IntKind.i64.wrap ((k : Int) + 1) = (k : Int) + 1 := IntWalk.i64_in _ (by omega)
                have b1 : (0 : Int) ≤ (k : Int) := by omega
                have b2 : (k : Int) < (N : Int) := by omega
                have b3 : (0 : Int) ≤ (k : Int) + 1 := by omega
                have b4 : (k : Int) + 1 < (N : Int) := by omega
                have b6 : ((k : Int) + 1).toNat = k + 1 := by omega
                have b7 : k + 1 < N := by omega
                have b8 : k < N := by omega
                have b9 : decide ((0 : Int) < (k : Int) + 1) = true := decide_eq_true (by omega)
                have b10 : (0 : Int) < (k : Int) + 1 := by omega
                clear hI hfz hNc
                by_cases hxy : x < y
                · have g2 : decide (x < y) = true := decide_eq_true hxy
                  have HS2 : Hid (siftI k ((cur.set (k + 1) y).set k x) = isoI (i + 1) d) := Lib.hid (by rw [← HSw.out, ← HSy.out hxy]; exact HSf.out)
                  clear HSy HSn HSw HSf
                  go_wp2
                  go_big_quiet (fail)
                  go_wp2
                  go_roundw
                  case rel => exact ⟨k, _, by omega, by first | rfl | go_num, Lib.hid (own_set (own_set (HO2.out.kept (below_drewN (Below.refl _ _) _)) (k + 1) y) k x), HS2, ((below_drewN hb _).setCell (by exact hgB) _).setCell (by exact hgB) _⟩
                  case measure => simp [intOf]
                · have g2 : decide (x < y) = false := decide_eq_false hxy
                  have HO3 : ∀ dn, Hid (Own w1.heap.size (wr.drewN dn) (.slice (some ⟨g, 0, none⟩) N cg) (isoI (i + 1) d)) := fun dn => Lib.hid (by rw [← HSf.out, HSn.out hxy]; exact HO2.out.kept (below_drewN (Below.refl _ _) _))
                  clear HSy HSn HSw HSf
                  go_wp2
                  go_big_quiet (fail)
                  go_wp2
                  go_roundw
                  case rel => exact ⟨i + 1, by omega, by go_num, HO3 _, below_drewN hb _⟩
                  case measure => simp [intOf]; omega
          · have hin : i = N := by omega
            have HE5 := Lib.hid (show cps ps = isoI i d by rw [hin]; exact HE.out.symm)
            clear hin
            go_wp2
            go_ret2
            exact ⟨_, rfl, by rw [HE5.out]; exact HO1.out.mono hs1, hb1.trans (hb.mono hs1)⟩
end Go.Proofs.Ytmdhdbkeiennmab
