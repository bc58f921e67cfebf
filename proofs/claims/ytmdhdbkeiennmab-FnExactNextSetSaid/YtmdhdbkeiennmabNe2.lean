/- NextSet, the model's; both texts. -/
import Derived.Test.YtmdhdbkeiennmabNe1
set_option linter.unusedVariables false
set_option linter.unusedSimpArgs false
namespace Go.Proofs.Ytmdhdbkeiennmab
open Go.RowKit

theorem own_lit {B : Nat} {w : World} {v : Value} {zs : List Int} (h : Own B w v zs) : ∃ a c, v = .slice a zs.length c := by
  rcases h.cases with ⟨rfl, rfl⟩ | ⟨g, c, rfl, _⟩
  · exact ⟨none, 0, rfl⟩
  · exact ⟨_, c, rfl⟩
theorem ints_takeK {w : World} {b off : Nat} {zs : List Int} (h : Ints w b off zs) (k : Nat) : Ints w b off (zs.take k) := by
  intro j hj
  rw [List.length_take] at hj
  have := h j (by omega)
  simpa [List.getElem?_take, show j < k by omega] using this
theorem ownTake_any (b c k : Nat) (zs : List Int) (w : World) (hn : zs.length ≤ 1048576) (hk : k ≤ zs.length) (hbl : b < w.heap.size) (hI : Ints w b 0 zs) :
    Calls Try.prog 62 #[.slice (some ⟨b, 0, none⟩) k c] w (fun e w' => ∃ a c', e = .returned (.slice a k c') ∧ Own w.heap.size w' (.slice a k c') (zs.take k) ∧ Below w.heap.size w w') := by
  have hl : (zs.take k).length = k := by simp; omega
  have h := own_any b 0 c (zs.take k) w (by omega) hbl (ints_takeK hI k)
  rw [hl] at h
  refine h.mono ?_
  rintro e w' ⟨v, rfl, ho, hb⟩
  obtain ⟨a, c', rfl⟩ := own_lit ho
  rw [hl] at ho
  exact ⟨a, c', by rw [hl], ho, hb⟩
theorem lowT_succ (zs : List Int) (j : Nat) : lowT zs (j + 1) = if zs.getD j 0 = 20 then lowT zs j else j + 1 := rfl
theorem nextR_of {zs : List Int} {k : Nat} (h : lowT zs zs.length = k + 1) : nextR zs = nextL zs zs.length k ∧ nextOk zs = true := by
  unfold nextR nextOk; rw [h]; exact ⟨rfl, rfl⟩
theorem nextR_none {zs : List Int} (h : lowT zs zs.length = 0) : nextR zs = [] ∧ nextOk zs = false := by
  unfold nextR nextOk; rw [h]; exact ⟨rfl, rfl⟩
/-- The first k ages and i of the next one. -/
def grow1 (zs : List Int) (k : Nat) (i : Nat) : List Int := zs.take k ++ List.replicate i (zs.getD k 0 + 1)
theorem grow1_succ (zs : List Int) (k i : Nat) : grow1 zs k (i + 1) = grow1 zs k i ++ [zs.getD k 0 + 1] := by
  unfold grow1
  rw [List.replicate_succ', List.append_assoc]
theorem grow1_len (zs : List Int) (k i : Nat) (h : k ≤ zs.length) : (grow1 zs k i).length = k + i := by unfold grow1; simp; omega
set_option maxHeartbeats 8000000 in
theorem spNext_any (b c : Nat) (zs : List Int) (w : World) (hn : zs.length ≤ 1048576) (hc : zs.length ≤ c) (hbl : b < w.heap.size) (hI : Ints w b 0 zs) :
    Calls Try.prog 36 #[.slice (some ⟨b, 0, none⟩) zs.length c] w (RetOwnB (if setB zs then nextR zs else []) (setB zs && nextOk zs) w) := by
  obtain ⟨i0, hi, hz0, hz1, hz2⟩ := info_parts infoInt
  have HG := Lib.hid (siGood_any b 0 zs.length c zs w rfl hn hI)
  cases h : setB zs with
  | false =>
    rw [h] at HG
    rw [if_neg (by simp), Bool.false_and]
    clear h hI
    go_enter Try.func36, Try.ntmps36
    go_wp2_with (first | (go_at_call 40; refine HG.out.mono ?_; rintro e w' ⟨rfl, hb⟩))
    go_ret2
    exact ⟨_, rfl, own_nil _ _, hb⟩
  | true =>
    rw [h] at HG
    rw [if_pos rfl, Bool.true_and]
    obtain ⟨h4, hag, _⟩ := setB_parts h
    have HAg := Lib.hid hag
    have HI := Lib.hid hI
    have HLs := Lib.hid (fun j => lowT_succ zs j)
    have HRn := Lib.hid (fun h => nextR_none (zs := zs) h)
    have HRk := Lib.hid (fun k h => nextR_of (zs := zs) (k := k) h)
    clear h hI hag
    go_enter Try.func36, Try.ntmps36
    go_wp2_with (first | (go_at_call 40; refine HG.out.mono ?_; rintro e w1 ⟨rfl, hb1⟩))
    have HIw := Lib.hid (HI.out.kept hb1 hbl)
    have hbl1 : b < w1.heap.size := Nat.lt_of_lt_of_le hbl hb1.size
    go_loop [4] (fun v => ∃ (j : Nat) (q : Int), j ≤ zs.length ∧ q = (j : Int) - 1 ∧ v = .int .i64 q ∧ Hid (lowT zs zs.length = lowT zs j)) (fun v => (intOf v + 1).toNat)
    case atStart => exact ⟨zs.length, _, Nat.le_refl _, rfl, rfl, Lib.hid rfl⟩
    case round =>
      obtain ⟨j, q, hj, hq, rfl, HL⟩ := hrel
      have HQ := Lib.hid hq
      cases j with
      | zero =>
        have hq0 : q = -1 := by omega
        subst hq0
        obtain ⟨e1, e2⟩ := HRn.out HL.out
        have HE1 := Lib.hid e1
        have HE2 := Lib.hid e2
        clear hq e1 e2
        go_wp2
        go_ret2
        rw [HE1.out, HE2.out]
        exact ⟨_, rfl, own_nil _ _, hb1⟩
      | succ j =>
        have hqj : q = (j : Int) := by omega
        subst hqj
        clear hq HQ
        have hcx : w1.cell? ⟨b, j, none⟩ = some (.int .i64 (zs.getD j 0)) := by
          have := HIw.out j (by omega)
          rwa [Nat.zero_add] at this
        have hz := HAg.out j (by omega)
        have j1 : (0 : Int) ≤ (j : Int) := by omega
        have j2 : (j : Int) < (zs.length : Int) := by omega
        have j3 : j < zs.length := by omega
        by_cases h20 : zs.getD j 0 = 20
        · have HL2 : Hid (lowT zs zs.length = lowT zs j) := Lib.hid (by rw [HL.out, HLs.out j, if_pos h20])
          rw [h20] at hcx
          clear h20 hz
          go_wp2
          go_round
          case rel => exact ⟨j, (j : Int) - 1, by omega, rfl, by go_num, HL2⟩
          case measure => first | (simp [intOf]; omega) | simp [intOf]
        · obtain ⟨e1, e2⟩ := HRk.out j (by rw [HL.out, HLs.out j, if_neg h20])
          have HE1 := Lib.hid e1
          have HE2 := Lib.hid e2
          have HOw := Lib.hid (ownTake_any b c j zs w1 hn (by omega) hbl1 HIw.out)
          have HGs := Lib.hid (fun i => grow1_succ zs j i)
          have HGl := Lib.hid (fun i => grow1_len zs j i (by omega))
          have HG0 := Lib.hid (show grow1 zs j 0 = zs.take j by unfold grow1; simp)
          have HGe := Lib.hid (show nextL zs zs.length j = grow1 zs j (zs.length - j) from rfl)
          have HL3 := Lib.hid j3
          generalize zs.getD j 0 = z at hcx hz h20 HGs
          have hd : (z == 20) = false := beq_eq_false_iff_ne.2 h20
          have hjc : (j : Int) ≤ (c : Int) := by omega
          have hjz : ¬ (j : Int) < 0 := by omega
          clear e1 e2 HL HLs HRn HRk HAg
          go_wp2_with (first | (go_at_call 62; refine HOw.out.mono ?_; rintro e w2 ⟨a, c', rfl, ho, hb2⟩))
          have HO2 := Lib.hid ho
          have hs2 := hb2.size
          have HCx := Lib.hid (fun (W : World) (hb : Below w1.heap.size w1 W) => below_cells2 hb hcx)
          have hz21 : 1 ≤ z + 1 ∧ z + 1 ≤ 21 := by omega
          clear ho hcx h20
          go_loopw [5] (fun v wr => ∃ (i L : Nat) (a : Option Addr) (c' : Nat), j + i = L ∧ L ≤ zs.length ∧ v = .slice a L c' ∧ Hid (Own w1.heap.size wr (.slice a L c') (grow1 zs j i)) ∧ Below w1.heap.size w1 wr) (fun v _ => zs.length - (match v with | .slice _ n _ => n | _ => 0))
          case atStart => exact ⟨0, j, a, c', rfl, by omega, rfl, Lib.hid (by rw [HG0.out]; exact HO2.out), hb2⟩
          case round =>
            obtain ⟨i, L, a, c', hL, hLe, rfl, HO, hbw⟩ := hrel
            have hcw := HCx.out wr hbw
            have hsz := hbw.size
            have hgl := HGl.out i
            have HLi := Lib.hid hL
            by_cases hlt : L < zs.length
            · have ho := HO.out
              have hl5 : (grow1 zs j i).length ≤ 4 := by omega
              have HGl2 := Lib.hid hgl
              clear HO hL hgl
              go_wp2_with (first | (at_builtin; refine wpList_append_own _ rfl _ _ 22 rfl w1.heap.size 3 i0 (.int .i64 0) 1 8 Try.underlying22 hi hz0 hz1 hz2 rfl (by decide) _ _ _ rfl (World.ownsRow.alloc ho _) ⟨wr.heap.size, 0, none⟩ 1 1 [.int .i64 (z + 1)] rfl rfl (newCell _ _ _) (oneInt _) ?c3 ?c4 ?c5 ?_))
              case c3 => unfold maxLen; omega
              case c4 => omega
              case c5 => simp; omega
              intro v' w3 hown' hgrow _
              have hb3 := below_push hbw ho hgrow
              have ho3 := own_push hown'
              rw [← HGs.out] at ho3
              obtain ⟨a2, c2, rfl⟩ := own_lit ho3
              rw [HGl.out] at ho3
              have HO3 := Lib.hid ho3
              have hle2 := HGl.out (i + 1)
              rw [hle2]
              clear hown' hgrow ho ho3
              go_wp2
              go_roundw
              case rel => exact ⟨i + 1, j + (i + 1), a2, c2, rfl, by have := HLi.out; omega, rfl, HO3, hb3⟩
              case measure => have := HLi.out; simp; omega
            · have hie : i = zs.length - j := by omega
              have HGe2 : Hid (nextR zs = grow1 zs j i) := Lib.hid (by rw [HE1.out, HGe.out, hie])
              clear hie hL hgl
              go_wp2
              go_ret2
              rw [HGe2.out, HE2.out]
              exact ⟨_, rfl, HO.out.mono hb1.size, hb1.trans (hbw.mono hb1.size)⟩
theorem nextSet_both (zs : List Int) : ∃ rs ok, rs.length ≤ 1048576 ∧
    (∀ b c w, zs.length ≤ 1048576 → zs.length ≤ c → b < w.heap.size → Ints w b 0 zs → Calls Try.prog 36 #[.slice (some ⟨b, 0, none⟩) zs.length c] w (RetOwnB rs ok w)) ∧
    (∀ b c w, zs.length ≤ 1048576 → zs.length ≤ c → b < w.heap.size → Ints w b 0 zs → Calls Try.prog 37 #[.slice (some ⟨b, 0, none⟩) zs.length c] w (RetOwnB rs ok w)) := by
  refine ⟨_, _, ?_, fun b c w hn hc hbl hI => spNext_any b c zs w hn hc hbl hI, fun b c w hn hc hbl hI => imNext_any b c zs w hn hbl hI⟩
  split
  · rename_i h
    have h4 := (setB_parts h).1
    unfold nextR
    have := lowT_le zs zs.length
    split
    · simp
    · rename_i k hk
      unfold nextL
      simp
      omega
  · simp
end Go.Proofs.Ytmdhdbkeiennmab
