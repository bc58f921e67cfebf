/- LaterSet: both texts. -/
import Derived.Test.YtmdhdbkeiennmabSi1
import Derived.Test.YtmdhdbkeiennmabSt0
import Derived.Test.YtmdhdbkeiennmabSrLib
set_option linter.unusedVariables false
set_option linter.unusedSimpArgs false
namespace Go.Proofs.Ytmdhdbkeiennmab
open Go.RowKit

theorem clone_lit (g n cp : Nat) (zs : List Int) (w : World) (hl : zs.length = n) (hn : n ≤ 1000000) (h1 : 0 < n) (hI : Ints w g 0 zs) :
    Calls Try.prog 64 #[.slice (some ⟨g, 0, none⟩) n cp] w (fun e w' => ∃ g' c', e = .returned (.slice (some ⟨g', 0, none⟩) n c') ∧ Own w.heap.size w' (.slice (some ⟨g', 0, none⟩) n c') zs ∧ w.heap.size ≤ g' ∧ Below w.heap.size w w') := by
  refine (clone_any g n cp zs w hl hn h1 hI).mono ?_
  rintro e w' ⟨v', rfl, ho, hnn, hb⟩
  rcases ho.cases with ⟨rfl, _⟩ | ⟨g', c', rfl, hg, _⟩
  · exact absurd rfl hnn
  · subst hl
    exact ⟨g', c', rfl, ho, hg, hb⟩
/-- The first k numbers have y more. -/
def addTo (zs : List Int) (y : Int) (k : Nat) : List Int := (zs.take k).map (· + y) ++ zs.drop k
theorem addTo_zero (zs : List Int) (y : Int) : addTo zs y 0 = zs := rfl
theorem addTo_all (zs : List Int) (y : Int) (k : Nat) (h : zs.length ≤ k) : addTo zs y k = zs.map (· + y) := by
  unfold addTo; rw [List.take_of_length_le h, List.drop_of_length_le h, List.append_nil]
theorem addTo_length (zs : List Int) (y : Int) (k : Nat) : (addTo zs y k).length = zs.length := by simp [addTo]; omega
theorem addTo_at (zs : List Int) (y : Int) (k : Nat) (h : k < zs.length) : (addTo zs y k).getD k 0 = zs.getD k 0 := by
  unfold addTo
  rw [List.getD_eq_getElem?_getD, List.getElem?_append_right (by simp; omega), List.length_map, List.length_take, Nat.min_eq_left (by omega), Nat.sub_self]
  simp [List.getElem?_drop]
theorem addTo_set (zs : List Int) (y : Int) (k : Nat) (h : k < zs.length) : (addTo zs y k).set k (zs.getD k 0 + y) = addTo zs y (k + 1) := by
  unfold addTo
  have hl : ((zs.take k).map (· + y)).length = k := by simp; omega
  rw [List.set_append, hl, if_neg (by omega), Nat.sub_self, List.take_succ_eq_append_getElem h, List.map_append]
  simp [List.getElem?_eq_getElem h]
  rw [List.drop_eq_getElem_cons h, List.set_cons_zero]
def laterOk (zs : List Int) (y : Int) : Bool := setB zs && inB y (-20) 20

set_option maxHeartbeats 1600000 in
theorem agInSet_any (b c : Nat) (y : Int) (zs : List Int) (w : World) (hbl : b < w.heap.size) (hI : Ints w b 0 zs) (hs : setB zs = true) (hy : -20 ≤ y ∧ y ≤ 20) :
    Calls Try.prog 66 #[.slice (some ⟨b, 0, none⟩) zs.length c, .int .i64 y] w (RetOwn (zs.map (· + y)) w) := by
  obtain ⟨i0, hi, hz0, hz1, hz2⟩ := info_parts infoInt
  obtain ⟨h4, hag, _⟩ := setB_parts hs
  have HAg := Lib.hid hag
  clear hag hs
  go_enter Try.func66, Try.ntmps66
  go_wp2
  go_loopw [5, 10] (fun v i wr => ∃ k : Nat, k ≤ zs.length ∧ i = .int .i64 k ∧ Own w.heap.size wr v (mapTo (· + y) zs k) ∧ Below w.heap.size w wr) (fun _ i _ => zs.length - (intOf i).toNat)
  case atStart => exact ⟨0, Nat.zero_le _, rfl, own_nil _ _, Below.refl _ _⟩
  case round =>
    obtain ⟨k, hk, rfl, ho, hb⟩ := hrel
    by_cases hlt : k < zs.length
    · have hc := (hI.kept hb hbl) k (by omega)
      rw [Nat.zero_add] at hc
      have hz := HAg.out k (by omega)
      have HT := Lib.hid (mapTo_succ (· + y) zs k (by omega))
      have hs := mapTo_len (· + y) zs k
      have hsz := hb.size
      generalize zs.getD k 0 = z at hc hz HT
      go_wp2_with (first | (at_builtin; refine wpList_append_own _ rfl _ _ 22 rfl w.heap.size 3 i0 (.int .i64 0) 1 8 Try.underlying22 hi hz0 hz1 hz2 rfl (by decide) _ _ _ rfl (World.ownsRow.alloc ho _) ⟨wr.heap.size, 0, none⟩ 1 1 [.int .i64 (z + y)] rfl rfl (newCell _ _ _) (oneInt _) ?c3 ?c4 ?c5 ?_))
      case c3 => unfold maxLen; omega
      case c4 => omega
      case c5 => simp; omega
      intro v' w1 hown' hgrow _
      have hb1 := below_push hb ho hgrow
      have ho1 := own_push hown'
      rw [← HT.out] at ho1
      clear hown' hgrow hc
      go_wp2
      go_roundw
      case rel => exact ⟨k + 1, by omega, by go_num, ho1, hb1⟩
      case measure => simp [intOf]; omega
    · have HM := Lib.hid (mapTo_all (· + y) zs k (by omega))
      go_wp2
      go_ret
      exact ⟨_, rfl, by rw [← HM.out]; exact ho, hb⟩
/-- A set that a call owns, asked whether it is one. -/
theorem siGoodOwn (B : Nat) (v : Value) (zs : List Int) (w : World) (h1 : 1 ≤ zs.length) (h4 : zs.length ≤ 4) (h : Own B w v zs) : Calls Try.prog 40 #[v] w (Ret (.bool (setB zs)) w) := by
  rcases h.cases with ⟨rfl, rfl⟩ | ⟨g, c, rfl, _, _, _, _, hI, _⟩
  · simp at h1
  · exact siGood_any g 0 _ c zs w rfl (by omega) hI
set_option maxHeartbeats 1600000 in
theorem spLater_any (b c : Nat) (zs : List Int) (y : Int) (w : World) (hn : zs.length ≤ 1048576) (hbl : b < w.heap.size) (hI : Ints w b 0 zs) :
    Calls Try.prog 38 #[.slice (some ⟨b, 0, none⟩) zs.length c, .int .i64 y] w (RetOwnB (if laterOk zs y && setB (zs.map (· + y)) then zs.map (· + y) else []) (laterOk zs y && setB (zs.map (· + y))) w) := by
  have HG := Lib.hid (siGood_any b 0 zs.length c zs w rfl hn hI)
  have HY := Lib.hid (fun W => l1In_any y (-20) 20 W)
  unfold laterOk
  cases h : setB zs with
  | false =>
    rw [h] at HG
    simp only [Bool.false_and, Bool.false_eq_true, if_false]
    clear h hI
    go_enter Try.func38, Try.ntmps38
    go_wp2_with (first | (go_at_call 40; refine HG.out.mono ?_; rintro e w' ⟨rfl, hb⟩))
    go_ret2
    exact ⟨_, rfl, own_nil _ _, hb⟩
  | true =>
    rw [h] at HG
    cases h2 : inB y (-20) 20 with
    | false =>
      rw [h2] at HY
      simp only [Bool.true_and, Bool.false_and, Bool.false_eq_true, if_false]
      clear h h2 hI
      go_enter Try.func38, Try.ntmps38
      go_wp2_with (first | (go_at_call 40; refine HG.out.mono ?_; rintro e w' ⟨rfl, hb⟩) | (go_at_call 57; refine (HY.out _).mono ?_; rintro e w' ⟨rfl, rfl⟩))
      go_ret2
      exact ⟨_, rfl, own_nil _ _, hb⟩
    | true =>
      rw [h2] at HY
      have hy := inB_iff.1 h2
      have h4 := (setB_parts h).1
      have HA := Lib.hid (fun (W : World) (hb : Below w.heap.size w W) => agInSet_any b c y zs W (Nat.lt_of_lt_of_le hbl hb.size) (hI.kept hb hbl) h hy)
      have hl : (zs.map (· + y)).length = zs.length := List.length_map _
      simp only [Bool.true_and]
      generalize zs.map (· + y) = ys at HA hl ⊢
      have HS := Lib.hid (fun (B : Nat) (v : Value) (W : World) (ho : Own B W v ys) => siGoodOwn B v ys W (by omega) (by omega) ho)
      clear h h2 hI
      cases h3 : setB ys with
      | false =>
        rw [h3] at HS
        simp only [Bool.false_eq_true, if_false]
        clear h3
        go_enter Try.func38, Try.ntmps38
        go_wp2_with (first | (go_at_call_of 40 b; refine HG.out.mono ?_; rintro e w' ⟨rfl, hb⟩) | (go_at_call 57; refine (HY.out _).mono ?_; rintro e w' ⟨rfl, rfl⟩) | (go_at_call 66; refine (HA.out _ hb).mono ?_; rintro e w2 ⟨v, rfl, ho, hb2⟩) | (go_at_call 40; refine (HS.out _ _ _ ho).mono ?_; rintro e w3 ⟨rfl, hb3⟩))
        go_ret2
        exact ⟨_, rfl, own_nil _ _, (hb.trans (hb2.mono hb.size)).trans (hb3.mono (Nat.le_trans hb.size hb2.size))⟩
      | true =>
        rw [h3] at HS
        simp only [if_true]
        clear h3
        go_enter Try.func38, Try.ntmps38
        go_wp2_with (first | (go_at_call_of 40 b; refine HG.out.mono ?_; rintro e w' ⟨rfl, hb⟩) | (go_at_call 57; refine (HY.out _).mono ?_; rintro e w' ⟨rfl, rfl⟩) | (go_at_call 66; refine (HA.out _ hb).mono ?_; rintro e w2 ⟨v, rfl, ho, hb2⟩) | (go_at_call 40; refine (HS.out _ _ _ ho).mono ?_; rintro e w3 ⟨rfl, hb3⟩))
        go_ret2
        exact ⟨_, rfl, (ho.mono hb.size).kept hb3, (hb.trans (hb2.mono hb.size)).trans (hb3.mono (Nat.le_trans hb.size hb2.size))⟩
set_option maxHeartbeats 4000000 in
theorem imLater_any (b c : Nat) (zs : List Int) (y : Int) (w : World) (hn : zs.length ≤ 1048576) (hbl : b < w.heap.size) (hI : Ints w b 0 zs) :
    Calls Try.prog 39 #[.slice (some ⟨b, 0, none⟩) zs.length c, .int .i64 y] w (RetOwnB (if laterOk zs y && setB (zs.map (· + y)) then zs.map (· + y) else []) (laterOk zs y && setB (zs.map (· + y))) w) := by
  have HG := Lib.hid (isSet_any b 0 zs.length c zs w rfl hn hI)
  have HY := Lib.hid (fun W => isWithin_any y (-20) 20 W)
  unfold laterOk
  cases h : setB zs with
  | false =>
    rw [h] at HG
    simp only [Bool.false_and, Bool.false_eq_true, if_false]
    clear h hI
    go_enter Try.func39, Try.ntmps39
    go_wp2_with (first | (go_at_call 15; refine HG.out.mono ?_; rintro e w' ⟨rfl, hb⟩))
    go_ret2
    exact ⟨_, rfl, own_nil _ _, hb⟩
  | true =>
    rw [h] at HG
    cases h2 : inB y (-20) 20 with
    | false =>
      rw [h2] at HY
      simp only [Bool.true_and, Bool.false_and, Bool.false_eq_true, if_false]
      clear h h2 hI
      go_enter Try.func39, Try.ntmps39
      go_wp2_with (first | (go_at_call 15; refine HG.out.mono ?_; rintro e w' ⟨rfl, hb⟩) | (go_at_call 42; refine (HY.out _).mono ?_; rintro e w' ⟨rfl, rfl⟩))
      go_ret2
      exact ⟨_, rfl, own_nil _ _, hb⟩
    | true =>
      rw [h2] at HY
      have hy := inB_iff.1 h2
      obtain ⟨h4, hag, _⟩ := setB_parts h
      have HAg := Lib.hid hag
      have HC := Lib.hid (fun (W : World) (hb : Below w.heap.size w W) => clone_lit b zs.length c zs W rfl (by omega) (by omega) (hI.kept hb hbl))
      have HIs := Lib.hid (fun (W : World) (g cg : Nat) (hI2 : Ints W g 0 (zs.map (· + y))) => isSet_any g 0 zs.length cg (zs.map (· + y)) W (List.length_map _) (by omega) hI2)
      have HAll := Lib.hid (fun k h => addTo_all zs y k h)
      have HAt := Lib.hid (fun k h => addTo_at zs y k h)
      have HSet := Lib.hid (fun k h => addTo_set zs y k h)
      simp only [Bool.true_and]
      clear h h2 hI hag
      obtain ⟨R, hR⟩ : ∃ R, R = RetOwnB (if setB (zs.map (· + y)) = true then zs.map (· + y) else []) (setB (zs.map (· + y))) w := ⟨_, rfl⟩
      rw [← hR]
      have HR := Lib.hid hR
      clear hR
      go_enter Try.func39, Try.ntmps39
      go_wp2_with (first | (go_at_call 15; refine HG.out.mono ?_; rintro e w1 ⟨rfl, hb⟩) | (go_at_call 42; refine (HY.out _).mono ?_; rintro e w' ⟨rfl, rfl⟩) | (go_at_call 64; refine (HC.out _ hb).mono ?_; rintro e w2 ⟨g, cg, rfl, ho, hgB, hb2⟩))
      have hb12 : Below w.heap.size w w2 := hb.trans (hb2.mono hb.size)
      have ho' : Own w.heap.size w2 (.slice (some ⟨g, 0, none⟩) zs.length cg) (addTo zs y 0) := ho.mono hb.size
      have hgw : w.heap.size ≤ g := Nat.le_trans hb.size hgB
      clear ho hb2 hb
      go_loopw [20] (fun v wr => ∃ k : Nat, k ≤ zs.length ∧ v = .int .i64 k ∧ Own w.heap.size wr (.slice (some ⟨g, 0, none⟩) zs.length cg) (addTo zs y k) ∧ Below w.heap.size w wr) (fun v _ => zs.length - (intOf v).toNat)
      case atStart => exact ⟨0, Nat.zero_le _, rfl, ho', hb12⟩
      case round =>
        obtain ⟨k, hk, rfl, ho, hbw⟩ := hrel
        by_cases hlt : k < zs.length
        · have hc := ho.shape.2.2.2.2.1 k (by rw [addTo_length]; exact hlt)
          rw [HAt.out k hlt, Nat.zero_add] at hc
          have hf := ho.shape.2.2.2.2.2 k
          have HO2 := Lib.hid (own_set ho k (zs.getD k 0 + y))
          rw [HSet.out k hlt] at HO2
          have hz := HAg.out k hlt
          generalize zs.getD k 0 = z at hc HO2 hz
          clear ho
          go_wp2
          go_roundw
          case rel => exact ⟨k + 1, by omega, by go_num, HO2.out, hbw.setCell hgw _⟩
          case measure => simp [intOf]; omega
        · rw [HAll.out k (by omega)] at ho
          have hIy := ho.shape.2.2.2.2.1
          cases h3 : setB (zs.map (· + y)) with
          | false =>
            have HX := Lib.hid (HIs.out wr g cg hIy)
            rw [h3] at HX
            have H3 := Lib.hid h3
            clear h3 hIy
            go_wp2_with (go_at_call 15; refine HX.out.mono ?_; rintro e w3 ⟨rfl, hb3⟩)
            (try go_ret2)
            rw [HR.out, H3.out]
            exact ⟨_, rfl, own_nil _ _, hbw.trans (hb3.mono hbw.size)⟩
          | true =>
            have HX := Lib.hid (HIs.out wr g cg hIy)
            rw [h3] at HX
            have H3 := Lib.hid h3
            clear h3 hIy
            go_wp2_with (go_at_call 15; refine HX.out.mono ?_; rintro e w3 ⟨rfl, hb3⟩)
            (try go_ret2)
            rw [HR.out, H3.out]
            exact ⟨_, rfl, ho.kept hb3, hbw.trans (hb3.mono hbw.size)⟩
theorem laterSet_both (zs : List Int) (x1 : Int) : ∃ rs ok, rs.length ≤ 1048576 ∧
    (∀ b c w, zs.length ≤ 1048576 → b < w.heap.size → Ints w b 0 zs → Calls Try.prog 38 #[.slice (some ⟨b, 0, none⟩) zs.length c, .int .i64 x1] w (RetOwnB rs ok w)) ∧
    (∀ b c w, zs.length ≤ 1048576 → b < w.heap.size → Ints w b 0 zs → Calls Try.prog 39 #[.slice (some ⟨b, 0, none⟩) zs.length c, .int .i64 x1] w (RetOwnB rs ok w)) := by
  refine ⟨_, _, ?_, fun b c w hn hbl hI => spLater_any b c zs x1 w hn hbl hI, fun b c w hn hbl hI => imLater_any b c zs x1 w hn hbl hI⟩
  split
  · rename_i h
    rw [Bool.and_eq_true] at h
    have := (setB_parts h.2).1
    omega
  · simp
end Go.Proofs.Ytmdhdbkeiennmab
