/- LeastChain: the program's text. -/
import Derived.Test.YtmidobhfahpkcaaLc1
import Derived.StillTailTactics
set_option linter.unusedVariables false
set_option linter.unusedSimpArgs false
namespace Go.Proofs.Ytmidobhfahpkcaa
open Go.RowKit

theorem own_lit1 {B : Nat} {w : World} (h : B ≤ w.heap.size) : Own B (w.alloc (.cells #[.int .i64 1] 3)) (.slice (some ⟨w.heap.size, 0, none⟩) 1 1) [1] := by
  refine ⟨rfl, .inr ⟨w.heap.size, 1, #[.int .i64 1], rfl, h, ?_, Nat.le_refl _, by unfold maxLen; omega, rfl, rfl⟩⟩
  exact (MapKept.heap_alloc w _).1
def lcR (ds : List Dt) : List Int := if chB ds = true then zc (lcL ds) else []
/-- A list of k + 1 numbers that a call owns, in block g. -/
structure LsAt (B g c k : Nat) (l : List Nat) (w : World) : Prop where
  own : Own B w (.slice (some ⟨g, 0, none⟩) (k + 1) c) (zc l)
  len : l.length = k + 1
  ge : B ≤ g
theorem LsAt.lt {B g c k : Nat} {l : List Nat} {w : World} (h : LsAt B g c k l w) : g < w.heap.size := h.own.shape.2.2.1
theorem LsAt.cell {B g c k : Nat} {l : List Nat} {w : World} (h : LsAt B g c k l w) (i : Nat) (hi : i < k + 1) : w.cell? ⟨g, i, none⟩ = some (.int .i64 ((l.getD i 0 : Nat) : Int)) := by
  have := h.own.shape.2.2.2.2.1 i (by rw [zc_length, h.len]; exact hi)
  rw [Nat.zero_add, zc_getD] at this
  exact this
theorem LsAt.frz {B g c k : Nat} {l : List Nat} {w : World} (h : LsAt B g c k l w) (i : Nat) : w.frozen? ⟨g, i, none⟩ = false := h.own.shape.2.2.2.2.2 i
theorem LsAt.kept {B g c k : Nat} {l : List Nat} {w w' : World} (h : LsAt B g c k l w) (hb : Below w.heap.size w w') : LsAt B g c k l w' := ⟨h.own.kept hb, h.len, h.ge⟩
theorem LsAt.drew {B g c k : Nat} {l : List Nat} {w : World} (h : LsAt B g c k l w) : LsAt B g c k l w.drew := ⟨h.own, h.len, h.ge⟩
theorem LsAt.alloc {B g c k : Nat} {l : List Nat} {w : World} (h : LsAt B g c k l w) (o : Obj) : LsAt B g c k l (w.alloc o) := ⟨World.ownsRow.alloc h.own o, h.len, h.ge⟩
theorem LsAt.set {B g c k : Nat} {l : List Nat} {w : World} (h : LsAt B g c k l w) (i x : Nat) : LsAt B g c k (l.set i x) (w.setCell ⟨g, i, none⟩ (.int .i64 (x : Int))) := by
  have h1 : (zc l).length = k + 1 := by rw [zc_length, h.len]
  have := own_set (zs := zc l) (by rw [h1]; exact h.own) i (x : Int)
  rw [h1] at this
  exact ⟨by rw [zc_set]; exact this, by rw [List.length_set, h.len], h.ge⟩
theorem getD_mem {l : List Nat} {i : Nat} (h : i < l.length) : l.getD i 0 ∈ l := by
  rw [List.getD_eq_getElem?_getD, List.getElem?_eq_getElem h]
  exact List.getElem_mem h

set_option maxHeartbeats 8000000 in
set_option maxRecDepth 100000 in
theorem lc_any (b c n : Nat) (ds : List Dt) (w : World) (hl : ds.length = n) (hI : Dts w b 0 ds) (hbl : b < w.heap.size) :
    Calls Try.prog 43 #[.slice (some ⟨b, 0, none⟩) n c] w (RetOwnB (lcR ds) (chB ds) w) := by
  have HA0 := areRatios_any b 0 n c ds w hl hI hbl
  cases hc : chB ds with
  | false =>
    rw [show lcR ds = [] by simp [lcR, hc]]
    rw [hc] at HA0
    have HA := Lib.hid HA0
    clear HA0 hc
    go_enter Try.func43, Try.ntmps43
    go_wp2_with (first | (go_at_call 71; refine (HA.out).mono ?_; rintro e w1 ⟨rfl, hcall⟩; have hb1 : Below w.heap.size w w1 := hcall; clear hcall))
    go_ret2
    exact ⟨_, rfl, own_nil _ _, hb1⟩
  | true =>
    rw [show lcR ds = zc (lcL ds) by simp [lcR, hc]]
    rw [hc] at HA0
    have HA := Lib.hid HA0
    have HC := Lib.hid hc
    have HL0 := Lib.hid hl
    have h6 : n ≤ 6 := by have := chB_len hc; omega
    have h61 : 1 ≤ n := by have := chB_len hc; omega
    clear HA0 hc hl
    obtain ⟨i0, hi, hz0, hz1, hz2⟩ := info_parts infoInt
    go_enter Try.func43, Try.ntmps43
    go_wp2_with (first | (go_at_call 71; refine (HA.out).mono ?_; rintro e w1 ⟨rfl, hcall⟩; have hb1 : Below w.heap.size w w1 := hcall; clear hcall))
    have HST : Hid (LsAt w.heap.size w1.heap.size 1 0 (chI ds 0) (w1.alloc (.cells #[.int .i64 1] 3))) := Lib.hid ⟨own_lit1 hb1.size, rfl, hb1.size⟩
    go_loopw [4, 17] (fun v u wr => ∃ (k g cp : Nat), k ≤ n ∧ u = .int .i64 k ∧ v = .slice (some ⟨g, 0, none⟩) (k + 1) cp ∧ Hid (LsAt w.heap.size g cp k (chI ds k) wr) ∧ Below w.heap.size w wr) (fun _ u _ => n - (intOf u).toNat)
    case atStart => exact ⟨0, w1.heap.size, 1, Nat.zero_le _, rfl, rfl, HST, hb1.alloc hb1.size _⟩
    case round =>
      obtain ⟨k, g, cp, hk, rfl, rfl, HLs, hb⟩ := hrel
      have hsz := hb.size
      by_cases hlt : k < n
      · obtain ⟨p1, p2⟩ := (hI.kept hb hbl) k (by rw [HL0.out]; exact hlt)
        rw [Nat.zero_add] at p1 p2
        obtain ⟨ha, hd⟩ := ratB_iff.1 (chB_at HC.out k (by rw [HL0.out]; exact hlt))
        have HBD := Lib.hid (chI_bd HC.out k (by rw [HL0.out]; omega))
        have hbn := bnN_le (k := k) (by omega)
        have hlen := chI_length ds k
        have HNX : Hid (chI ds (k + 1) = (chI ds k).map (· * (at2 ds k).1.toNat) ++ [(chI ds k).getLastD 0 * (at2 ds k).2.toNat]) := Lib.hid rfl
        obtain ⟨a, hA⟩ : ∃ a : Nat, (at2 ds k).1 = (a : Int) := ⟨(at2 ds k).1.toNat, by omega⟩
        obtain ⟨d, hD⟩ : ∃ d : Nat, (at2 ds k).2 = (d : Int) := ⟨(at2 ds k).2.toNat, by omega⟩
        rw [hA] at p1 ha HNX
        rw [hD] at p2 hd HNX
        rw [Int.toNat_natCast, Int.toNat_natCast] at HNX
        clear hA hD
        have hlast := HBD.out _ (last_mem (l := chI ds k) (by intro e; rw [e] at hlen; simp at hlen))
        have hcl := HLs.out.cell k (by omega)
        rw [last_at _ k hlen] at hcl
        generalize (chI ds k).getLastD 0 = q at hcl hlast HNX
        have m1 : q * d ≤ 1000000000000 * 100 := Nat.mul_le_mul (by omega) (by omega)
        have m2 : ((q : Int) * (d : Int)) = ((q * d : Nat) : Int) := by simp
        have v1 : IntKind.i64.wrap ((q : Int) * (d : Int)) = ((q * d : Nat) : Int) := by rw [m2]; exact IntWalk.i64_in _ (by omega)
        have v2 : IntKind.i64.wrap ((k : Int) + 1 - 1) = (k : Int) := by rw [show (k : Int) + 1 - 1 = (k : Int) by omega]; exact IntWalk.i64_in _ (by omega)
        have i0' : (0 : Int) ≤ (k : Int) := by omega
        have i1' : (k : Int) < (k : Int) + 1 := by omega
        have HLs2 := Lib.hid (LsAt.alloc HLs.out (.cells #[.int .i64 a, .int .i64 d] 25))
        have hb2 := hb.alloc hsz (.cells #[.int .i64 a, .int .i64 d] 25)
        have r0 : (wr.alloc (.cells #[.int .i64 a, .int .i64 d] 25)).cell? ⟨wr.heap.size, 0, none⟩ = some (.int .i64 a) := by simp
        have r1 : (wr.alloc (.cells #[.int .i64 a, .int .i64 d] 25)).cell? ⟨wr.heap.size, 1, none⟩ = some (.int .i64 d) := by simp
        have hcl2 := cell_above hcl (.cells #[.int .i64 a, .int .i64 d] 25)
        obtain ⟨r, hr⟩ : ∃ r, r = wr.heap.size := ⟨_, rfl⟩
        have hgr : g < r := by rw [hr]; exact HLs.out.lt
        have hwr : w.heap.size ≤ r := by omega
        rw [← hr] at r0 r1
        go_wp2
        rw [← hr]
        generalize wr.alloc (.cells #[.int .i64 (a : Int), .int .i64 (d : Int)] 25) = w2 at *
        clear hr hcl p1 p2 hsz hb
        have hwm : IntKind.i64.wrap ((q : Int) * (d : Int)) = (q : Int) * (d : Int) := v1.trans m2.symm
        clear v1
        have HM2 := Lib.hid m2
        clear m2 m1
        go_quiet (fail)
        go_wp2
        have hlz := hlen
        go_loopw [32] (fun u w3 => ∃ i : Nat, i ≤ k + 1 ∧ u = .int .i64 i ∧ Hid (LsAt w.heap.size g cp k (mulTo (chI ds k) a i) w3) ∧ w3.cell? ⟨r, 0, none⟩ = some (.int .i64 a) ∧ Below w.heap.size w w3) (fun u _ => k + 1 - (intOf u).toNat)
        case atStart => exact ⟨0, Nat.zero_le _, rfl, by rw [mulTo_zero]; exact Lib.hid (HLs2.out.kept (below_drewN (Below.refl _ _) _)), by simpa using r0, below_drewN hb2 _⟩
        case round =>
          obtain ⟨i, hi', rfl, HL3, s0, hb3⟩ := hrel
          by_cases hil : i < k + 1
          · have hx := HBD.out _ (getD_mem (l := chI ds k) (i := i) (by rw [hlen]; exact hil))
            have hcx := HL3.out.cell i hil
            have hfx := HL3.out.frz i
            rw [mulTo_at _ _ _ (by rw [hlen]; exact hil)] at hcx
            have HS := Lib.hid (LsAt.set HL3.out i ((chI ds k).getD i 0 * a))
            rw [mulTo_step _ _ _ (by rw [hlen]; exact hil)] at HS
            generalize (chI ds k).getD i 0 = x at hx hcx HS
            have m1 : x * a ≤ 1000000000000 * 100 := Nat.mul_le_mul (by omega) (by omega)
            have v1 : IntKind.i64.wrap ((x : Int) * (a : Int)) = (x : Int) * (a : Int) := by rw [show (x : Int) * (a : Int) = ((x * a : Nat) : Int) by simp]; exact IntWalk.i64_in _ (by omega)
            have k3 : (0 : Int) ≤ (i : Int) := by omega
            have k4 : (i : Int) < (k : Int) + 1 := by omega
            have hgr' : g ≠ r := by omega
            have hwg := HL3.out.ge
            have HR := Lib.hid (fun y => show (wr.setCell ⟨g, i, none⟩ y).cell? ⟨r, 0, none⟩ = some (.int .i64 a) from (World.cell?_setCell_other _ _ _ _ (by first | (simp; done) | (simp; omega))).trans s0)
            clear m1
            rw [show ((x * a : Nat) : Int) = (x : Int) * (a : Int) by simp] at HS
            go_wp2
            go_still_tail 8, (by kernel_rfl)
            change wpList _ _ _ _ _ wr.drew
            have hcx' : wr.drew.cell? ⟨g, i, none⟩ = some (.int .i64 (x : Int)) := hcx
            have hfx' : wr.drew.frozen? ⟨g, i, none⟩ = false := hfx
            clear hcx hfx
            go_wp2
            go_roundw
            case rel => exact ⟨i + 1, by omega, by go_num, Lib.hid (LsAt.drew HS.out), HR.out _, (hb3.setCell hwg _).drew⟩
            case measure => simp [intOf]; omega
          · have hik : i = k + 1 := by omega
            have hml : mulTo (chI ds k) a i = (chI ds k).map (· * a) := by rw [hik, ← hlen]; exact mulTo_all _ _
            rw [hml] at HL3
            have ho := HL3.out.own
            have hzl : (zc ((chI ds k).map (· * a))).length = k + 1 := by rw [zc_length, List.length_map, hlen]
            have hsz3 := hb3.size
            clear hml hil
            go_wp2_with (first | (at_builtin; refine wpList_append_own _ rfl _ _ 53 rfl w.heap.size 3 i0 (.int .i64 0) 1 8 Try.underlying53 hi hz0 hz1 hz2 rfl (by decide) _ _ _ rfl (World.ownsRow.alloc ho _) ⟨wr.heap.size, 0, none⟩ 1 1 [.int .i64 ((q : Int) * (d : Int))] rfl rfl (newCell _ _ _) (oneInt _) ?c3 ?c4 ?c5 ?_))
            case c3 => rw [hzl]; unfold maxLen; omega
            case c4 => omega
            case c5 => simp; omega
            intro v' w4 hown' hgrow _
            have hb4 := below_push hb3 ho hgrow
            have ho4 := own_push (zs := zc ((chI ds k).map (· * a))) (by rw [hzl]; exact hown')
            have hz4 : zc ((chI ds k).map (· * a)) ++ [(q : Int) * (d : Int)] = zc (chI ds (k + 1)) := by
              rw [HNX.out, zc_append, HM2.out]
              rfl
            rw [hz4] at ho4
            have hl4 : (zc (chI ds (k + 1))).length = k + 1 + 1 := by rw [zc_length, chI_length]
            clear hown' hgrow hz4
            rcases ho4.cases with ⟨_, h0⟩ | ⟨g4, c4, rfl, hg4, _⟩
            · rw [h0] at hl4; simp at hl4
            · rw [hl4] at ho4 ⊢
              have HL4 : Hid (LsAt w.heap.size g4 c4 (k + 1) (chI ds (k + 1)) w4) := Lib.hid ⟨ho4, chI_length ds (k + 1), hg4⟩
              clear ho4 hl4
              go_wp2
              go_roundw
              case rel => exact ⟨k + 1, g4, c4, by omega, by go_num, rfl, HL4, hb4⟩
              case measure => simp [intOf]; omega
      · have hkn : k = n := by omega
        have HBD := Lib.hid (chI_bd HC.out k (by rw [HL0.out]; omega))
        have hbn := bnN_le (k := k) (by omega)
        have hlen := chI_length ds k
        have HLC : Hid (lcL ds = (chI ds k).map (· / gcdL (chI ds k))) := Lib.hid (by rw [hkn, ← HL0.out]; rfl)
        have HGD0 := fun (W : World) (hI : Ints W g 0 (zc (chI ds k))) => greatDiv_any g cp (k + 1) (zc (chI ds k)) W (by rw [zc_length, hlen]) (by omega) (by omega) (fun j hj => by
          rw [zc_getD]
          have := HBD.out _ (getD_mem (l := chI ds k) (i := j) (by rw [hlen]; exact hj))
          omega) hI
        rw [gcT_gcdL _ _ hlen (by omega)] at HGD0
        have HGD := Lib.hid HGD0
        have hgp : 1 ≤ gcdL (chI ds k) := gcdL_pos _ _ (getD_mem (l := chI ds k) (i := 0) (by omega)) (HBD.out _ (getD_mem (l := chI ds k) (i := 0) (by omega))).1
        clear HGD0 hkn
        generalize gcdL (chI ds k) = G at *
        have HI4 := Lib.hid HLs.out.own.shape.2.2.2.2.1
        go_wp2_with (first | (go_at_call 72; refine (HGD.out _ HI4.out).mono ?_; rintro e w5 ⟨rfl, hcall⟩; have HL5 := Lib.hid (LsAt.kept HLs.out hcall); have hb5 : Below w.heap.size w w5 := hb.trans (hcall.mono hsz); clear hcall))
        go_loopw [53] (fun u w6 => ∃ i : Nat, i ≤ k + 1 ∧ u = .int .i64 i ∧ Hid (LsAt w.heap.size g cp k (divTo (chI ds k) G i) w6) ∧ Below w.heap.size w w6) (fun u _ => k + 1 - (intOf u).toNat)
        case atStart => exact ⟨0, Nat.zero_le _, rfl, by rw [divTo_zero]; exact HL5, hb5⟩
        case round =>
          obtain ⟨i, hi', rfl, HL6, hb6⟩ := hrel
          by_cases hil : i < k + 1
          · have hx := HBD.out _ (getD_mem (l := chI ds k) (i := i) (by rw [hlen]; exact hil))
            have hcx := HL6.out.cell i hil
            have hfx := HL6.out.frz i
            rw [divTo_at _ _ _ (by rw [hlen]; exact hil)] at hcx
            have HS := Lib.hid (LsAt.set HL6.out i ((chI ds k).getD i 0 / G))
            rw [divTo_step _ _ _ (by rw [hlen]; exact hil)] at HS
            generalize (chI ds k).getD i 0 = x at hx hcx HS
            rw [Int.natCast_ediv] at HS
            have v1 : wrap64 ((x : Int) / (G : Int)) = (x : Int) / (G : Int) := (wrapN x G (by omega)).trans (Int.natCast_ediv x G)
            have k3 : (0 : Int) ≤ (i : Int) := by omega
            have k4 : (i : Int) < (k : Int) + 1 := by omega
            have k5 : (1 : Int) ≤ (G : Int) := by omega
            have k6 : ((G : Int) == 0) = false := beq_eq_false_iff_ne.2 (by omega)
            have hwg := HL6.out.ge
            go_wp2
            go_roundw
            case rel => exact ⟨i + 1, by omega, by go_num, HS, hb6.setCell hwg _⟩
            case measure => simp [intOf]; omega
          · have hik : i = k + 1 := by omega
            have hml : divTo (chI ds k) G i = lcL ds := by rw [hik, ← hlen, divTo_all, HLC.out]
            rw [hml] at HL6
            clear hml hil
            go_wp2
            go_ret2
            exact ⟨_, rfl, HL6.out.own, hb6⟩
end Go.Proofs.Ytmidobhfahpkcaa
