/- SumsOfProduct: both texts. -/
import Derived.Test.YtmdhdbkeiennmaaWi1
import Derived.Test.YtmdhdbkeiennmaaLk2
set_option linter.unusedVariables false
set_option linter.unusedSimpArgs false
namespace Go.Proofs.Ytmdhdbkeiennmaa
open Go.RowKit

set_option maxHeartbeats 1600000 in
theorem siSums_none (w : World) : Calls Try.prog 66 #[.slice none 0 0] w (RetRow (cnts []) w) := by
  obtain ⟨i0, hi, hz0, hz1, hz2⟩ := info_parts infoInt
  go_enter Try.func66, Try.ntmps66
  go_wp2_with (first | (at_make; refine wpList_make_full _ rfl _ _ 30 rfl w.heap.size 3 i0 (.int .i64 0) 1 Try.underlying30 hi hz0 hz1 .i64 .i64 81 81 81 rfl rfl rfl rfl ?c1 ?c2 ?c3 ?_))
  case c1 => rw [hz2]; omega
  case c2 => unfold maxLen; omega
  case c3 => exact Nat.le_refl _
  intro w1 hown hg
  have hb1 : Below w.heap.size w w1 := (Below.refl _ _).grown hg (Nat.le_refl _) (by simp)
  have HO1 : Hid (Own w.heap.size w1 (.slice (some ⟨w.heap.size, 0, none⟩) 81 81) (cnts [])) := Lib.hid (by
    have e : (madeCells #[Value.int IntKind.i64 0] 81).toList = (cnts []).map (Value.int .i64) := by
      rw [toList_madeCells_one, cnts_nil, List.map_replicate]
    unfold Own
    rw [cnts_length, ← e]
    simpa using hown)
  clear hown hg
  go_wp2
  go_loopw [9] (fun v wr => v = .int .i64 0 ∧ wr = w1) (fun _ _ => 0)
  case atStart => exact ⟨rfl, rfl⟩
  case round =>
    obtain ⟨rfl, rfl⟩ := hrel
    go_wp2
    go_ret
    refine ⟨w.heap.size, Nat.le_refl _, by rw [cnts_length]; rfl, ?_, hb1⟩
    rw [cnts_length]
    exact HO1.out
theorem siSums_any (B U : Nat) (v : Value) (vs : List Value) (rss : List (List Int)) (w : World) (hO : OwnSS B U w v vs rss) (hU : U ≤ w.heap.size) (hF : FamS rss) :
    Calls Try.prog 66 #[v] w (RetRow (cnts (rss.map sumL)) w) := by
  rcases hO.cases with ⟨rfl, rfl⟩ | ⟨g, c, rfl, hc⟩
  · exact siSums_none w
  · exact siSums_some B U g rss.length c vs rss w rfl hO hU hF hc
set_option maxHeartbeats 4000000 in
set_option maxRecDepth 100000 in
theorem siWith_any (B U : Nat) (v : Value) (vs : List Value) (rss : List (List Int)) (many : Int) (w : World) (hO : OwnSS B U w v vs rss) (hU : U ≤ w.heap.size) (hF : FamS rss) :
    Calls Try.prog 46 #[v, .int .i64 many] w (RetOwn (withTo (rss.map sumL) many 81) w) := by
  obtain ⟨i0, hi, hz0, hz1, hz2⟩ := info_parts infoInt
  have HS := Lib.hid ((siSums_any B U v vs rss w hO hU hF).mono (fun e w' h => (show ∃ g, e = .returned (.slice (some ⟨g, 0, none⟩) 81 81) ∧ Own w.heap.size w' (.slice (some ⟨g, 0, none⟩) 81 81) (cnts (rss.map sumL)) ∧ Below w.heap.size w w' from by
    obtain ⟨g, hg, he, ho, hb⟩ := h
    rw [cnts_length] at he ho
    exact ⟨g, he, ho, hb⟩)))
  have HT := Lib.hid (fun k => withTo_succ (rss.map sumL) many k)
  have HTl := Lib.hid (fun k => withTo_len (rss.map sumL) many k)
  have HCn := Lib.hid (fun s h => cnts_getD (rss.map sumL) s h)
  have HT0 := Lib.hid (show withTo (rss.map sumL) many 0 = [] from rfl)
  clear hO hF
  generalize rss.map sumL = l at HS HT HTl HCn HT0 ⊢
  go_enter Try.func46, Try.ntmps46
  go_wp2_with (first | (go_at_call 66; refine HS.out.mono ?_; rintro e w1 ⟨g, rfl, hoc, hb1⟩))
  have HOc := Lib.hid hoc
  have hsz1 := hb1.size
  clear hoc
  go_loopw [5, 11] (fun u t wr => ∃ k : Nat, k ≤ 81 ∧ t = .int .i64 k ∧ Hid (Own w1.heap.size wr u (withTo l many k)) ∧ Below w1.heap.size w1 wr) (fun _ t _ => 81 - (intOf t).toNat)
  case atStart => exact ⟨0, by omega, rfl, Lib.hid (by rw [HT0.out]; exact own_nil _ _), Below.refl _ _⟩
  case round =>
    obtain ⟨k, hk, rfl, HO, hb⟩ := hrel
    have hsz := hb.size
    by_cases hlt : k < 81
    · have hoc := (HOc.out.kept hb).shape.2.2.2.2.1 k (by rw [cnts_length]; exact hlt)
      rw [HCn.out k hlt, Nat.zero_add] at hoc
      have hl := HTl.out k
      have HS2 := Lib.hid (HT.out k)
      have k1 : (0 : Int) ≤ (k : Int) := by omega
      have k2 : (k : Int) < 81 := by omega
      by_cases hm : many ≤ cntL (k : Int) l
      · rw [if_pos hm] at HS2
        generalize cntL (k : Int) l = cn at hoc hm
        have ho := HO.out
        clear HO
        go_wp2_with (first | (at_builtin; refine wpList_append_own _ rfl _ _ 30 rfl w1.heap.size 3 i0 (.int .i64 0) 1 8 Try.underlying30 hi hz0 hz1 hz2 rfl (by decide) _ _ _ rfl (World.ownsRow.alloc ho _) ⟨wr.heap.size, 0, none⟩ 1 1 [.int .i64 (k : Int)] rfl rfl (newCell _ _ _) (oneInt _) ?c3 ?c4 ?c5 ?_))
        case c3 => unfold maxLen; omega
        case c4 => omega
        case c5 => simp; omega
        intro v' w2 hown' hgrow _
        have hb2 := below_push hb ho hgrow
        have HO2 := Lib.hid (own_push hown')
        rw [← HS2.out] at HO2
        clear hown' hgrow ho
        go_wp2
        go_roundw
        case rel => exact ⟨k + 1, by omega, by go_num, HO2, hb2⟩
        case measure => simp [intOf]; omega
      · rw [if_neg hm, List.append_nil] at HS2
        have HO2 : Hid (Own w1.heap.size wr _ (withTo l many (k + 1))) := Lib.hid (by rw [HS2.out]; exact HO.out)
        generalize cntL (k : Int) l = cn at hoc hm
        clear HO
        go_wp2
        go_roundw
        case rel => exact ⟨k + 1, by omega, by go_num, HO2, hb⟩
        case measure => simp [intOf]; omega
    · have hkn : k = 81 := by omega
      subst hkn
      go_wp2
      go_ret
      exact ⟨_, rfl, HO.out.mono hsz1, hb1.trans (hb.mono hsz1)⟩
theorem fam_setsP {n : Nat} (P : Int) (h1 : 1 ≤ n) (hn : n ≤ 4) : FamS (setsP n P) := by
  refine ⟨setsP_length P hn, fun i hi => ?_⟩
  have hm : (setsP n P).getD i [] ∈ setsP n P := by
    simp only [List.getD_eq_getElem?_getD, List.getElem?_eq_getElem hi, Option.getD_some]
    exact List.getElem_mem hi
  obtain ⟨a, b, _⟩ := setsP_mem hm
  exact ⟨⟨by omega, b⟩, by omega⟩
/-- The sums of sets are those that one has at least. -/
theorem sums_within {rss : List (List Int)} (hF : FamS rss) (x : Int) (hx : x ∈ rss.map sumL) : 1 ≤ x ∧ x ≤ 80 := by
  obtain ⟨r, hr, rfl⟩ := List.mem_map.1 hx
  obtain ⟨i, hi, rfl⟩ := List.getElem_of_mem hr
  have h := hF.2 i hi
  have e : rss.getD i [] = rss[i] := by simp [List.getElem?_eq_getElem hi]
  rw [e] at h
  have hs := kid_sum h.1 rss[i].length (Nat.le_refl _)
  rw [List.take_length] at hs
  have := h.1.1
  have := h.2
  omega
theorem with_one {rss : List (List Int)} (hF : FamS rss) : withTo (rss.map sumL) 1 81 = cps (rss.map sumL) := by
  refine incr_eq (withTo_sorted _ _ _) (cps_sorted _) fun x => ?_
  rw [withTo_mem, cps_mem]
  constructor
  · rintro ⟨s, _, h, rfl⟩; exact (cntL_pos _ _).1 h
  · intro h
    have := sums_within hF x h
    refine ⟨x.toNat, by omega, ?_, by omega⟩
    rw [show ((x.toNat : Nat) : Int) = x by omega]
    exact (cntL_pos _ _).2 h
set_option maxHeartbeats 1600000 in
theorem spSums_no (N P : Int) (w : World) (h : prodOk N P = false) :
    Calls Try.prog 20 #[.int .i64 N, .int .i64 P] w (RetOwnB [] false w) := by
  have HS := Lib.hid (fun W => siChildren_any N P W)
  rw [h] at HS
  go_enter Try.func20, Try.ntmps20
  go_wp2_with (first | (go_at_call 39; refine (HS.out _).mono ?_; rintro e w' ⟨rfl, rfl⟩))
  go_ret2
  exact ⟨_, rfl, own_nil _ _, Below.refl _ _⟩
set_option maxHeartbeats 1600000 in
theorem spSums_yes (n : Nat) (P : Int) (w : World) (h : prodOk n P = true) :
    Calls Try.prog 20 #[.int .i64 n, .int .i64 P] w (RetOwnB (cps ((setsP n P).map sumL)) true w) := by
  have HS := Lib.hid (fun W => siChildren_any n P W)
  rw [h] at HS
  obtain ⟨n', hn', h4, h1, hP⟩ := nat_of h
  have hF := fam_setsP (n := n) P (by omega) (by omega)
  have HR := Lib.hid (fun (W : World) => siSets_any n P W (by omega) (by omega) hP)
  have HW := Lib.hid (fun (W : World) (B U : Nat) (v : Value) (vs : List Value) (ho : OwnSS B U W v vs (setsP n P)) (hU : U ≤ W.heap.size) => siWith_any B U v vs (setsP n P) 1 W ho hU hF)
  rw [with_one hF] at HW
  clear h hn' h4 h1 hP hF
  generalize cps ((setsP n P).map sumL) = ys at HW ⊢
  generalize setsP n P = rss at HR HW
  go_enter Try.func20, Try.ntmps20
  go_wp2_with (first | (go_at_call 39; refine (HS.out _).mono ?_; rintro e w' ⟨rfl, rfl⟩) | (go_at_call 40; refine (HR.out _).mono ?_; rintro e w1 ⟨v, vs, rfl, hss, hb⟩) | (go_at_call 46; refine (HW.out _ _ _ _ _ hss (Nat.le_refl _)).mono ?_; rintro e w2 ⟨u, rfl, ho, hb2⟩))
  go_ret2
  exact ⟨u, rfl, ho.mono hb.size, hb.trans (hb2.mono hb.size)⟩
set_option maxHeartbeats 1600000 in
theorem imSums_of (N P : Int) (rss : List (List Int)) (ok : Bool) (hF : FamS rss) (w : World) (h : ∀ w, Calls Try.prog 14 #[.int .i64 N, .int .i64 P] w (RetSSB rss ok w)) :
    Calls Try.prog 21 #[.int .i64 N, .int .i64 P] w (RetOwnB (cps (rss.map sumL)) ok w) := by
  have H := Lib.hid h
  have HW := Lib.hid (fun (W : World) (B U : Nat) (v : Value) (vs : List Value) (ho : OwnSS B U W v vs rss) (hU : U ≤ W.heap.size) => numbersS_any B U v vs rss W ho hU hF)
  clear h hF
  generalize cps (rss.map sumL) = ys at HW ⊢
  go_enter Try.func21, Try.ntmps21
  go_wp2_with (first | (go_at_call 14; refine (H.out _).mono ?_; rintro e w1 ⟨v, vs, rfl, hss, hb⟩) | (go_at_call 47; refine (HW.out _ _ _ _ _ hss (Nat.le_refl _)).mono ?_; rintro e w2 ⟨u, rfl, ho, hb2⟩))
  go_ret2
  exact ⟨u, rfl, ho.mono hb.size, hb.trans (hb2.mono hb.size)⟩
theorem fam_nil : FamS [] := ⟨by simp, fun i hi => by simp at hi⟩
theorem cps_short (l : List Int) (h : l.length ≤ 160000) : (cps l).length ≤ 1048576 := by have := cps_len l; omega
theorem sums_both (N P : Int) : ∃ rs ok, rs.length ≤ 1048576 ∧
    (∀ w, Calls Try.prog 20 #[.int .i64 N, .int .i64 P] w (RetOwnB rs ok w)) ∧
    (∀ w, Calls Try.prog 21 #[.int .i64 N, .int .i64 P] w (RetOwnB rs ok w)) := by
  cases h : prodOk N P with
  | false =>
    refine ⟨[], false, by simp, fun w => spSums_no N P w h, fun w => ?_⟩
    have := imSums_of N P [] false fam_nil w (fun w => imSetsOf_no N P w h)
    rw [List.map_nil, cps_nilS] at this
    exact this
  | true =>
    obtain ⟨n, rfl, hn, h1, _⟩ := nat_of h
    exact ⟨_, true, cps_short _ (by rw [List.length_map]; exact setsP_length P hn), fun w => spSums_yes n P w h, fun w => imSums_of n P _ true (fam_setsP P h1 hn) w (fun w => imSetsOf_yes n P w h)⟩
end Go.Proofs.Ytmdhdbkeiennmaa
