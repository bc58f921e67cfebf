/- GapsOfAges: both texts. -/
import Derived.Test.YtjabghojenhhiaaMOrd2
import Derived.Deep.RegionHeld3
import Derived.IntWalk
set_option linter.unusedVariables false
set_option linter.unusedSimpArgs false
namespace Go.Proofs.Ytjabghojenhhiaa
open Go.RowKit

def gapAt (zs : List Int) (j : Nat) : Int := (ordAs zs).getD j 0 - (ordAs zs).getD (j + 1) 0
/-- The first k gaps. -/
def gapsTo (zs : List Int) (k : Nat) : List Int := (List.range k).map (gapAt zs)
theorem gapsTo_succ (zs : List Int) (k : Nat) : gapsTo zs (k + 1) = gapsTo zs k ++ [gapAt zs k] := by
  unfold gapsTo; rw [List.range_succ, List.map_append]; rfl
theorem gapsTo_len (zs : List Int) (k : Nat) : (gapsTo zs k).length = k := by simp [gapsTo]
theorem gapsTo_getD (zs : List Int) (k j : Nat) (h : j < k) : (gapsTo zs k).getD j 0 = gapAt zs j := by
  simp [gapsTo, List.getD_eq_getElem?_getD, List.getElem?_map, List.getElem?_range, h]
/-- Who comes at place k. -/
theorem ord_at (zs : List Int) (k : Nat) (h : k < zs.length) : ∃ i : Nat, i < zs.length ∧ (ordNs zs).getD k 0 = (i : Int) ∧ (ordAs zs).getD k 0 = zs.getD i 0 := by
  obtain ⟨i, h1, h2⟩ := PO_at zs zs.length k (Nat.le_refl _) h
  rw [PO_all] at h2
  have hl := ordP_length zs
  refine ⟨i, h1, ?_, ?_⟩
  · rw [ordNs_getD zs k h, h2]
  · unfold ordAs
    rw [List.getD_eq_getElem?_getD, List.getElem?_eq_getElem (show k < (ordP zs).length by omega)] at h2
    simp only [Option.getD_some] at h2
    rw [List.getD_eq_getElem?_getD, List.getElem?_map, List.getElem?_eq_getElem (show k < (ordP zs).length by omega)]
    simp [h2]

set_option maxHeartbeats 1000000 in
theorem specGaps_yes (b off c n : Nat) (zs : List Int) (w : World) (hl : zs.length = n) (hn : n ≤ 1048576) (hI : Ints w b off zs) (hg : goodB zs 120 = true) :
    Calls Try.prog 18 #[.slice (some ⟨b, off, none⟩) n c] w (RetOwnB (gapsTo zs (n - 1)) true w) := by
  obtain ⟨i0, hi, hz0, hz1, hz2⟩ := info_parts infoInt
  have h8 := goodB_len hg
  have HG := Lib.hid (goodB_at hg)
  have hbl := ints_lt hI (by omega)
  have HL := Lib.hid hl
  have HI := Lib.hid hI
  rw [hl] at h8
  go_enter Try.func18, Try.ntmps18
  go_wp2_with (first | (go_at_call 34; refine (agGood_any _ _ _ _ zs _ hl hn hI).mono ?_; rintro e w' ⟨rfl, rfl⟩))
  clear hl hI
  refine (agOrder_any _ _ _ n zs _ HL.out h8.2 HI.out (by omega)).mono ?_
  rintro e w1 ⟨v, rfl, ho, hb⟩
  have hol := ordNs_length zs
  rw [HL.out] at hol
  have HO := Lib.hid hol
  rcases ho.cases with ⟨rfl, hnil⟩ | ⟨g, cap, rfl, hg1, hg2, hcap, hcm, hIo, _⟩
  · exfalso
    rw [hnil] at hol
    simp at hol
    omega
  rw [hol] at hcap ⊢
  clear hol ho
  have HIo := Lib.hid hIo
  clear hIo
  go_wp2
  go_loopw [5, 6] (fun v i wr => ∃ k : Nat, k + 1 ≤ n ∧ i = .int .i64 (k + 1) ∧ Own w1.heap.size wr v (gapsTo zs k) ∧ Below w1.heap.size w1 wr) (fun _ i _ => n - (intOf i).toNat)
  case atStart => exact ⟨0, by omega, rfl, own_nil _ _, Below.refl _ _⟩
  case round =>
    obtain ⟨k, hk, rfl, ho1, hb1⟩ := hrel
    have hs := gapsTo_len zs k
    have hsz := hb1.size
    have hsz0 := hb.size
    by_cases hlt : k + 1 < n
    · obtain ⟨p, hp1, hp2, hp3⟩ := ord_at zs k (by rw [HL.out]; omega)
      obtain ⟨q, hq1, hq2, hq3⟩ := ord_at zs (k + 1) (by rw [HL.out]; omega)
      have hc1 : wr.cell? ⟨g, k, none⟩ = some (.int .i64 (p : Int)) := by
        have := (HIo.out.kept hb1 hg2) k (by rw [HO.out]; omega)
        rw [hp2] at this
        simpa using this
      have hc2 : wr.cell? ⟨g, k + 1, none⟩ = some (.int .i64 (q : Int)) := by
        have := (HIo.out.kept hb1 hg2) (k + 1) (by rw [HO.out]; omega)
        rw [hq2] at this
        simpa using this
      have HC4 : Hid (∀ w3, Below w1.heap.size w1 w3 → w3.cell? ⟨g, k, none⟩ = some (.int .i64 p) ∧ w3.cell? ⟨g, k + 1, none⟩ = some (.int .i64 q) ∧ w3.cell? ⟨b, off + p, none⟩ = some (.int .i64 (zs.getD p 0)) ∧ w3.cell? ⟨b, off + q, none⟩ = some (.int .i64 (zs.getD q 0))) := Lib.hid (fun w3 h => by
        have e1 := (HIo.out.kept h hg2) k (by rw [HO.out]; omega)
        have e2 := (HIo.out.kept h hg2) (k + 1) (by rw [HO.out]; omega)
        rw [hp2] at e1
        rw [hq2] at e2
        have hbb := hb.trans (h.mono hsz0)
        exact ⟨by simpa using e1, by simpa using e2, (HI.out.kept hbb hbl) p hp1, (HI.out.kept hbb hbl) q hq1⟩)
      have hbb := hb.trans (hb1.mono hsz0)
      have hc3 := (HI.out.kept hbb hbl) p hp1
      have hc4 := (HI.out.kept hbb hbl) q hq1
      have hp0 := HG.out p hp1
      have hq0 := HG.out q hq1
      have HS := Lib.hid (show gapsTo zs (k + 1) = gapsTo zs k ++ [zs.getD p 0 - zs.getD q 0] by rw [gapsTo_succ]; unfold gapAt; rw [hp3, hq3])
      rw [HL.out] at hp1 hq1
      clear hp2 hp3 hq2 hq3 hbb
      generalize zs.getD p 0 = x at *
      generalize zs.getD q 0 = y at *
      have HS0 := Lib.hid hs
      clear hs
      have hvne : ∀ j, j < w1.heap.size → some j ≠ u5.ownBlock := fun j hj e => by
        have := (World.ownsRow.lt ho1 j e.symm).1
        omega
      have ho1' : wr.ownsRow w1.heap.size 3 1 u5 k ((gapsTo zs k).map (Value.int .i64)) := by have := ho1; unfold Own at this; rw [HS0.out] at this; exact this
      have hbw := Lib.hid (fun w3 (h : World.grownBy (wr.alloc (.cells #[.int .i64 (x - y)] 3)) w3 u5.ownBlock) => below_push hb1 ho1 h)
      generalize hxs : (gapsTo zs k).map (Value.int .i64) = xs at ho1'
      have HX := Lib.hid hxs
      have k1 : IntKind.i64.wrap (x - y) = x - y := IntWalk.i64_in _ (by omega)
      have k2 : IntKind.i64.wrap (k : Int) = (k : Int) := IntWalk.i64_in _ (by omega)
      have k3 : (0 : Int) ≤ (k : Int) := by omega
      have k4 : (k : Int) < (n : Int) := by omega
      have k5 : (0 : Int) ≤ (k : Int) + 1 := by omega
      have k6 : (k : Int) + 1 < (n : Int) := by omega
      have k7 : ((k : Int) + 1).toNat = k + 1 := by omega
      have p1 : (0 : Int) ≤ (p : Int) := by omega
      have p2 : (p : Int) < (n : Int) := by omega
      have q1 : (0 : Int) ≤ (q : Int) := by omega
      have q2 : (q : Int) < (n : Int) := by omega
      clear hxs ho1
      go_wp2_with fail
      go_region_held3 (fun w' => w'.cell? ⟨g, k, none⟩ = some (.int .i64 p) ∧ w'.cell? ⟨g, k + 1, none⟩ = some (.int .i64 q) ∧ w'.cell? ⟨b, off + p, none⟩ = some (.int .i64 x) ∧ w'.cell? ⟨b, off + q, none⟩ = some (.int .i64 y))
        (first
          | go_keep
          | (go_split_ands
             exact HC4.out _ (hbw.out _ ⟨hgr.os, hgr.tape, hgr.output, hgr.size, hgr.block⟩)))
        ((refine step_append_mine (by rfl) _ _ 22 (by rfl) w1.heap.size 3 i0 (.int .i64 0) 1 8 Try.underlying22 hi hz0 hz1 hz2 rfl (by omega) u5 k xs (by rfl) (World.ownsRow.drew (World.ownsRow.alloc ho1' (.cells #[.int .i64 (x - y)] 3))) ⟨wr.heap.size, 0, none⟩ 1 1 [.int .i64 (x - y)] (by rfl) (by rfl) (newCell wr _ _) (oneInt _) (by unfold maxLen; omega) (by omega) (by simp; omega) ?_; intro v' w3 hown hgr))
      have hb3 := hbw.out w3 ⟨hgr.os, hgr.tape, hgr.output, hgr.size, hgr.block⟩
      have ho3 : Own w1.heap.size w3 v' (gapsTo zs (k + 1)) := by
        unfold Own
        rw [HS.out, List.length_append, List.map_append, HX.out, HS0.out]
        exact hown
      clear hown hgr k1 k2 k7
      go_wp2
      go_roundw
      case rel => exact ⟨k + 1, by omega, by go_num, ho3, hb3⟩
      case measure => simp [intOf]; omega
    · have hkn : k = n - 1 := by omega
      clear hlt
      go_wp2
      go_ret2
      exact ⟨_, rfl, by rw [hkn] at ho1; exact ho1.mono hsz0, hb.trans (hb1.mono hsz0)⟩
end Go.Proofs.Ytjabghojenhhiaa
