/- The least ages of a chain: the model's text. -/
import Derived.Test.YtmidobhfahpkcaaLc3
set_option linter.unusedVariables false
set_option linter.unusedSimpArgs false
namespace Go.Proofs.Ytmidobhfahpkcaa
open Go.RowKit

theorem LsAt.other {B g c k : Nat} {l : List Nat} {w w' : World} {v : Value} {g7 n7 c7 : Nat} (h : LsAt B g c k l w) (hv : v = .slice (some ⟨g7, 0, none⟩) n7 c7) (hne : g ≠ g7) (hg : w.grownBy w' v.ownBlock) : LsAt B g c k l w' := by
  refine ⟨World.ownsRow.kept h.own hg (.inr ?_), h.len, h.ge⟩
  rw [hv]
  simp [Value.ownBlock]
  exact hne
theorem own_litN {B : Nat} {w : World} (h : B ≤ w.heap.size) (x : Nat) : Own B (w.alloc (.cells #[.int .i64 (x : Int)] 3)) (.slice (some ⟨w.heap.size, 0, none⟩) 1 1) (zc [x]) := by
  refine ⟨rfl, .inr ⟨w.heap.size, 1, #[.int .i64 (x : Int)], rfl, h, ?_, Nat.le_refl _, by unfold maxLen; omega, rfl, rfl⟩⟩
  exact (MapKept.heap_alloc w _).1
/-- The next list, so far. -/
def nxL (num : Nat) (l : List Nat) (den i : Nat) : List Nat := num :: (l.take i).map (· * den)
theorem nxL_zero (num : Nat) (l : List Nat) (den : Nat) : nxL num l den 0 = [num] := by simp [nxL]
theorem take_more (l : List Nat) (d i : Nat) (h : i < l.length) : (l.take (i + 1)).map (· * d) = (l.take i).map (· * d) ++ [l.getD i 0 * d] := by
  rw [List.take_succ_eq_append_getElem h, List.map_append, List.getD_eq_getElem?_getD, List.getElem?_eq_getElem h]
  rfl
theorem nxL_succ (num : Nat) (l : List Nat) (den i : Nat) (h : i < l.length) : nxL num l den (i + 1) = nxL num l den i ++ [l.getD i 0 * den] := by
  unfold nxL
  rw [take_more l den i h]
  rfl
theorem nxL_all (num : Nat) (l : List Nat) (den : Nat) : nxL num l den l.length = num :: l.map (· * den) := by unfold nxL; rw [List.take_length]

set_option maxHeartbeats 16000000 in
set_option maxRecDepth 100000 in
theorem raLeast_any (b c n : Nat) (ds : List Dt) (w : World) (hc : chB ds = true) (hl : ds.length = n) (hI : Dts w b 0 ds) (hbl : b < w.heap.size) :
    Calls Try.prog 70 #[.slice (some ⟨b, 0, none⟩) n c] w (RetOwn (zc (lcL ds)) w) := by
  have HC := Lib.hid hc
  have HL0 := Lib.hid hl
  have h6 : n ≤ 6 := by have := chB_len hc; omega
  have h61 : 1 ≤ n := by have := chB_len hc; omega
  have HLS := Lib.hid (lcS hc)
  clear hc hl
  obtain ⟨i0, hi, hz0, hz1, hz2⟩ := info_parts infoInt
  go_enter Try.func70, Try.ntmps70
  go_wp2
  go_loopw [3, 4] (fun v u wr => ∃ (j g cp : Nat) (x : Int), j ≤ n ∧ Hid (x = (n : Int) - 1 - j) ∧ u = .int .i64 x ∧ v = .slice (some ⟨g, 0, none⟩) (j + 1) cp ∧ Hid (LsAt w.heap.size g cp j (chS ds j) wr) ∧ Below w.heap.size w wr) (fun _ u _ => (intOf u + 1).toNat)
  case atStart => exact ⟨0, w.heap.size, 1, (n : Int) - 1, Nat.zero_le _, Lib.hid (by simp), by first | rfl | simp, rfl, Lib.hid ⟨own_lit1 (Nat.le_refl _), rfl, Nat.le_refl _⟩, (Below.refl _ _).alloc (Nat.le_refl _) _⟩
  case round =>
    obtain ⟨j, g, cp, x, hj, HX, rfl, rfl, HLs, hb⟩ := hrel
    have hsz := hb.size
    by_cases hlt : j < n
    · obtain ⟨m, rfl⟩ : ∃ m : Nat, x = (m : Int) := ⟨x.toNat, by have := HX.out; omega⟩
      have hmn : m < n := by have := HX.out; omega
      have hmj : m = n - 1 - j := by have := HX.out; omega
      have HMJ := Lib.hid hmj
      obtain ⟨p1, p2⟩ := (hI.kept hb hbl) m (by rw [HL0.out]; exact hmn)
      rw [Nat.zero_add] at p1 p2
      obtain ⟨ha, hd⟩ := ratB_iff.1 (chB_at HC.out m (by rw [HL0.out]; exact hmn))
      have HBD := Lib.hid (chS_bd HC.out j (by rw [HL0.out]; omega))
      have hbn := bnN_le (k := j) (by omega)
      have hlen := chS_length ds j
      have HNX : Hid (chS ds (j + 1) = (at2 ds m).1.toNat * (chS ds j).headD 0 / Nat.gcd ((at2 ds m).1.toNat * (chS ds j).headD 0) (at2 ds m).2.toNat :: (chS ds j).map (· * ((at2 ds m).2.toNat / Nat.gcd ((at2 ds m).1.toNat * (chS ds j).headD 0) (at2 ds m).2.toNat))) := Lib.hid (by rw [hmj, ← HL0.out]; rfl)
      clear hmj
      obtain ⟨a, hA⟩ : ∃ a : Nat, (at2 ds m).1 = (a : Int) := ⟨(at2 ds m).1.toNat, by omega⟩
      obtain ⟨d, hD⟩ : ∃ d : Nat, (at2 ds m).2 = (d : Int) := ⟨(at2 ds m).2.toNat, by omega⟩
      rw [hA] at p1 ha HNX
      rw [hD] at p2 hd HNX
      rw [Int.toNat_natCast, Int.toNat_natCast] at HNX
      clear hA hD
      have hhd := HBD.out _ (head_mem hlen)
      have hcl := HLs.out.cell 0 (by omega)
      rw [head_at] at hcl
      generalize (chS ds j).headD 0 = y at hcl hhd HNX
      have m1 : a * y ≤ 100 * 1000000000000 := Nat.mul_le_mul (by omega) (by omega)
      have ec : ((a : Int) * (y : Int)) = ((a * y : Nat) : Int) := by simp
      have hwm : IntKind.i64.wrap ((a : Int) * (y : Int)) = (a : Int) * (y : Int) := by rw [ec]; exact IntWalk.i64_in _ (by omega)
      have HL : Hid (∀ (x z : Int) (w : World), x = (a : Int) * (y : Int) → z = (d : Int) → Calls Try.prog 52 #[.int .i64 x, .int .i64 z] w (RetTwo ((a * y / Nat.gcd (a * y) d : Nat) : Int) ((d / Nat.gcd (a * y) d : Nat) : Int) w)) := Lib.hid (by
        rintro x z w rfl rfl
        have := raLow_any (((a * y : Nat)) : Int) (d : Int) w (by omega) (by omega) (by omega)
        rw [rlN_nat, rlD_nat] at this
        rw [ec]
        exact this)
      have hq2 := Nat.div_le_self d (Nat.gcd (a * y) d)
      generalize a * y / Nat.gcd (a * y) d = num at *
      generalize d / Nat.gcd (a * y) d = den at *
      have hden : den ≤ 100 := by omega
      have k1 : (0 : Int) ≤ (m : Int) := by omega
      have k2 : (m : Int) < (n : Int) := by omega
      have k3 : (0 : Int) < (j : Int) + 1 := by omega
      have hls := HLs.out
      clear ec m1 hq2 ha hd
      go_wp2
      go_region_held3 (fun w' => Below w.heap.size w w' ∧ w'.cell? ⟨b, m * 2, none⟩ = some (.int .i64 (a : Int)) ∧ w'.cell? ⟨b, m * 2 + 1, none⟩ = some (.int .i64 (d : Int)) ∧ w'.cell? ⟨g, 0, none⟩ = some (.int .i64 (y : Int)) ∧ LsAt w.heap.size g cp j (chS ds j) w')
        (first
          | (exact ⟨hb.drew, by simpa using p1, by simpa using p2, by simpa using hcl, hls.drew⟩)
          | (exact ⟨Below.drew (by assumption), by first | assumption | simp [*], by first | assumption | simp [*], by first | assumption | simp [*], LsAt.drew (by assumption)⟩)
          | (go_split_ands
             refine ⟨?_, ?_, ?_, ?_, ?_⟩
             · exact Below.trans (by assumption) (Below.mono hcall (Below.size (by assumption)))
             · exact below_cell2 hcall (by assumption)
             · exact below_cell2 hcall (by assumption)
             · exact below_cell2 hcall (by assumption)
             · exact LsAt.kept (by assumption) hcall))
        (first | (go_at_call 52; refine (HL.out _ _ _ (by first | rfl | exact hwm | assumption) (by first | rfl | assumption)).mono ?_; rintro e w' ⟨rfl, hcall⟩))
      all_goals
        obtain ⟨hbw, _, _, _, hls2⟩ := ‹Below w.heap.size w _ ∧ _›
        go_wp2
        have hglt := hls2.lt
        have hwsz := hbw.size
        have hls3 := Lib.hid (LsAt.alloc hls2 (.cells #[.int .i64 (num : Int)] 3))
        have hb3 := hbw.alloc hwsz (.cells #[.int .i64 (num : Int)] 3)
        have hnx0 : Hid (LsAt (g + 1) w'.heap.size 1 0 [num] (w'.alloc (.cells #[.int .i64 (num : Int)] 3))) := Lib.hid ⟨own_litN (by omega) num, rfl, by omega⟩
        rw [← nxL_zero num (chS ds j) den] at hnx0
        go_loopw [7, 46] (fun v u w3 => ∃ (i g7 c7 : Nat), i ≤ j + 1 ∧ u = .int .i64 i ∧ v = .slice (some ⟨g7, 0, none⟩) (i + 1) c7 ∧ Hid (LsAt (g + 1) g7 c7 i (nxL num (chS ds j) den i) w3) ∧ Hid (LsAt w.heap.size g cp j (chS ds j) w3) ∧ Below w.heap.size w w3) (fun _ u _ => j + 1 - (intOf u).toNat)
        case atStart => exact ⟨0, _, 1, Nat.zero_le _, rfl, rfl, hnx0, hls3, hb3⟩
        case round =>
          obtain ⟨i, g7, c7, hi', rfl, rfl, HN, HO, hb4⟩ := hrel
          have hsz4 := hb4.size
          by_cases hil : i < j + 1
          · have hx := HBD.out _ (getD_mem (l := chS ds j) (i := i) (by rw [hlen]; exact hil))
            have hcx := HO.out.cell i hil
            have HTM := Lib.hid (nxL_succ num (chS ds j) den i (by rw [hlen]; exact hil))
            have hglt4 := HO.out.lt
            generalize (chS ds j).getD i 0 = x at hx hcx HTM
            have m1 : x * den ≤ 1000000000000 * 100 := Nat.mul_le_mul (by omega) hden
            have ex : ((x : Int) * (den : Int)) = ((x * den : Nat) : Int) := by simp
            have hxb : 0 ≤ (x : Int) * (den : Int) ∧ (x : Int) * (den : Int) ≤ 100000000000000 := by rw [ex]; omega
            have HEX := Lib.hid ex
            have k3 : (0 : Int) ≤ (i : Int) := by omega
            have k4 : (i : Int) < (j : Int) + 1 := by omega
            have ho := HN.out.own
            have hll : (nxL num (chS ds j) den i).length = i + 1 := HN.out.len
            have hzl : (zc (nxL num (chS ds j) den i)).length = i + 1 := by rw [zc_length, hll]
            have hg7 := HN.out.ge
            clear ex m1 hll
            go_wp2_with (first | (at_builtin; refine wpList_append_own _ rfl _ _ 53 rfl (g + 1) 3 i0 (.int .i64 0) 1 8 Try.underlying53 hi hz0 hz1 hz2 rfl (by decide) _ _ _ rfl (World.ownsRow.alloc ho _) ⟨wr.heap.size, 0, none⟩ 1 1 [.int .i64 ((x : Int) * (den : Int))] rfl rfl (newCell _ _ _) (oneInt _) ?c3 ?c4 ?c5 ?_))
            case c3 => rw [hzl]; unfold maxLen; omega
            case c4 => first | (rw [hzl]; omega) | omega
            case c5 => first | omega | (simp; omega) | (simp; done)
            intro v' w4 hown' hgrow _
            have hb5 := below_push hb4 (ho.mono (by have := HO.out.ge; omega)) hgrow
            have ho5 := own_push (zs := zc (nxL num (chS ds j) den i)) (by rw [hzl]; exact hown')
            have hz5 : zc (nxL num (chS ds j) den i) ++ [(x : Int) * (den : Int)] = zc (nxL num (chS ds j) den (i + 1)) := by
              rw [HTM.out, HEX.out, zc_append]
              rfl
            rw [hz5] at ho5
            have hl5 : (zc (nxL num (chS ds j) den (i + 1))).length = i + 1 + 1 := by rw [← hz5, List.length_append, hzl]; rfl
            have HO5 := Lib.hid (LsAt.other (LsAt.alloc HO.out _) rfl (by omega) hgrow)
            clear hown' hgrow hz5
            rcases ho5.cases with ⟨_, h0⟩ | ⟨g4, c4, rfl, hg4, _⟩
            · rw [h0] at hl5; simp at hl5
            · rw [hl5] at ho5 ⊢
              have HL5 : Hid (LsAt (g + 1) g4 c4 (i + 1) (nxL num (chS ds j) den (i + 1)) w4) := Lib.hid ⟨ho5, by rw [zc_length] at hl5; exact hl5, hg4⟩
              clear ho5 hl5
              go_wp2
              go_roundw
              case rel => exact ⟨i + 1, g4, c4, by omega, by go_num, rfl, HL5, HO5, hb5⟩
              case measure => simp [intOf]; omega
          · have hik : i = j + 1 := by omega
            have hft : (nxL num (chS ds j) den i) = chS ds (j + 1) := by rw [HNX.out, hik, ← hlen, nxL_all]
            rw [hft] at HN
            have hge1 := HN.out.ge
            have hge2 := HO.out.ge
            have HN2 : Hid (LsAt w.heap.size g7 c7 (j + 1) (chS ds (j + 1)) wr) := Lib.hid ⟨by have h3 := HN.out.own; rw [hik] at h3; exact h3.mono (by omega), chS_length ds (j + 1), Nat.le_trans hge2 (by omega)⟩
            subst hik
            clear hft hil
            go_wp2
            go_roundw
            case rel => exact ⟨j + 1, g7, c7, (m : Int) - 1, by omega, Lib.hid (by have := HX.out; omega), by go_num, rfl, HN2, hb4⟩
            case measure => first | (simp [intOf]; done) | (simp [intOf]; omega)
    · have hjn : j = n := by omega
      have hxv : x < 0 := by have := HX.out; omega
      have HBD := Lib.hid (chS_bd HC.out j (by rw [HL0.out]; omega))
      have hbn := bnN_le (k := j) (by omega)
      have hlen := chS_length ds j
      have HLC : Hid (lcL ds = (chS ds j).map (· / gcdL (chS ds j))) := Lib.hid (by rw [← HLS.out, HL0.out, ← hjn]; rfl)
      have HGT := Lib.hid (gcT_gcdL (chS ds j) (j + 1) hlen (by omega))
      have HGS := Lib.hid (fun i (hi : i < j + 1) => gcT_succ (zc (chS ds j)) i (by rw [zc_length, hlen]; exact hi))
      have HGP := Lib.hid (fun i (hi : i ≤ j + 1) => gcT_pos (zc (chS ds j)) (by
        rw [zc_getD]
        have := HBD.out _ (getD_mem (l := chS ds j) (i := 0) (by omega))
        omega) i (by rw [zc_length, hlen]; exact hi))
      have hc0 := HLs.out.cell 0 (by omega)
      have HG0 : Hid (((gcT (zc (chS ds j)) 0 : Nat) : Int) = (((chS ds j).getD 0 0 : Nat) : Int)) := Lib.hid (by rw [gcT_zero, zc_getD]; simp)
      have hfst := HBD.out _ (getD_mem (l := chS ds j) (i := 0) (by omega))
      clear hjn hlt
      have k3 : (0 : Int) < (j : Int) + 1 := by omega
      generalize hx0 : (chS ds j).getD 0 0 = x0 at hc0 hfst HG0
      have HX0 := Lib.hid hx0
      clear hx0
      go_wp2
      go_loopw [10, 63] (fun q u w3 => ∃ i : Nat, i ≤ j + 1 ∧ u = .int .i64 i ∧ q = .int .i64 ((gcT (zc (chS ds j)) i : Nat) : Int) ∧ Hid (LsAt w.heap.size g cp j (chS ds j) w3) ∧ Below w.heap.size w w3) (fun _ u _ => j + 1 - (intOf u).toNat)
      case atStart => exact ⟨0, Nat.zero_le _, rfl, by rw [HG0.out], HLs, hb⟩
      case round =>
        obtain ⟨i, hi', rfl, rfl, HO, hb4⟩ := hrel
        by_cases hil : i < j + 1
        · have hx := HBD.out _ (getD_mem (l := chS ds j) (i := i) (by rw [hlen]; exact hil))
          have hcx := HO.out.cell i hil
          have HS0 := HGS.out i hil
          rw [zc_getD] at HS0
          have hgp := HGP.out i (by omega)
          have hgb : gcT (zc (chS ds j)) i ≤ 1000000000000 := by
            have := hgp.2
            rw [zc_getD, HX0.out] at this
            simp at this
            omega
          generalize (chS ds j).getD i 0 = y at hx hcx HS0
          have HS : Hid (gcT (zc (chS ds j)) (i + 1) = Nat.gcd (gcT (zc (chS ds j)) i) y) := Lib.hid (by rw [HS0, Int.natAbs_natCast])
          have hgp1 := hgp.1
          clear HS0 hgp
          generalize gcT (zc (chS ds j)) i = G at *
          have k4 : (0 : Int) ≤ (i : Int) := by omega
          have k5 : (i : Int) < (j : Int) + 1 := by omega
          go_wp2
          go_loopw [13, 14] (fun p q w5 => ∃ (A B : Nat), p = .int .i64 A ∧ q = .int .i64 B ∧ Hid (Nat.gcd A B = Nat.gcd G y) ∧ A ≤ 1000000000000 ∧ B ≤ 1000000000000 ∧ Hid (LsAt w.heap.size g cp j (chS ds j) w5) ∧ Below w.heap.size w w5) (fun _ q _ => (intOf q).toNat)
          case atStart => exact ⟨G, y, rfl, rfl, Lib.hid rfl, hgb, by omega, HO, hb4⟩
          case round =>
            obtain ⟨A, B, rfl, rfl, hAB, hA, hB, HO5, hb5⟩ := hrel
            by_cases hB0 : B = 0
            · subst hB0
              have HF : Hid (gcT (zc (chS ds j)) (i + 1) = A) := Lib.hid (by rw [HS.out, ← hAB.out, Nat.gcd_zero_right])
              clear hAB
              go_wp2
              go_roundw
              case rel => exact ⟨i + 1, by omega, by go_num, by rw [HF.out], HO5, hb5⟩
              case measure => simp [intOf]; omega
            · have hp : (1 : Int) ≤ (B : Int) := by omega
              have hne2 : ((B : Int) == 0) = false := beq_eq_false_iff_ne.2 (by omega)
              have hG2 : Hid (Nat.gcd B (A % B) = Nat.gcd G y) := Lib.hid (by rw [Nat.gcd_comm, ← Nat.gcd_rec, Nat.gcd_comm]; exact hAB.out)
              have hlt : A % B < B := Nat.mod_lt _ (by omega)
              have HO6 := Lib.hid (fun n => LsAt.kept HO5.out (below_drewN (Below.refl wr.heap.size wr) n))
              clear hAB
              go_wp2
              go_quiet (fail)
              go_wp2
              go_roundw
              case rel => exact ⟨B, A % B, rfl, by go_num, hG2, hB, by omega, Lib.hid (HO6.out _), below_drewN hb5 _⟩
              case measure => simp [intOf]; omega
        · have hik : i = j + 1 := by omega
          have hgg : gcT (zc (chS ds j)) i = gcdL (chS ds j) := by rw [hik]; exact HGT.out
          have hgp : 1 ≤ gcdL (chS ds j) := by rw [← hgg]; exact (HGP.out i (by omega)).1
          rw [hgg]
          clear hgg hik
          generalize gcdL (chS ds j) = G at *
          go_wp2
          go_loopw [79] (fun u w6 => ∃ i : Nat, i ≤ j + 1 ∧ u = .int .i64 i ∧ Hid (LsAt w.heap.size g cp j (divTo (chS ds j) G i) w6) ∧ Below w.heap.size w w6) (fun u _ => j + 1 - (intOf u).toNat)
          case atStart => exact ⟨0, Nat.zero_le _, rfl, by rw [divTo_zero]; exact HO, hb4⟩
          case round =>
            obtain ⟨i, hi', rfl, HL6, hb6⟩ := hrel
            by_cases hil : i < j + 1
            · have hx := HBD.out _ (getD_mem (l := chS ds j) (i := i) (by rw [hlen]; exact hil))
              have hcx := HL6.out.cell i hil
              have hfx := HL6.out.frz i
              rw [divTo_at _ _ _ (by rw [hlen]; exact hil)] at hcx
              have HS := Lib.hid (LsAt.set HL6.out i ((chS ds j).getD i 0 / G))
              rw [divTo_step _ _ _ (by rw [hlen]; exact hil)] at HS
              generalize (chS ds j).getD i 0 = x at hx hcx HS
              rw [Int.natCast_ediv] at HS
              have v1 : wrap64 ((x : Int) / (G : Int)) = (x : Int) / (G : Int) := (wrapN x G (by omega)).trans (Int.natCast_ediv x G)
              have k3 : (0 : Int) ≤ (i : Int) := by omega
              have k4 : (i : Int) < (j : Int) + 1 := by omega
              have k5 : (1 : Int) ≤ (G : Int) := by omega
              have k6 : ((G : Int) == 0) = false := beq_eq_false_iff_ne.2 (by omega)
              have hwg := HL6.out.ge
              go_wp2
              go_roundw
              case rel => exact ⟨i + 1, by omega, by go_num, HS, hb6.setCell hwg _⟩
              case measure => simp [intOf]; omega
            · have hik : i = j + 1 := by omega
              have hml : divTo (chS ds j) G i = lcL ds := by rw [hik, ← hlen, divTo_all, HLC.out]
              rw [hml] at HL6
              clear hml hil
              go_wp2
              go_ret
              exact ⟨_, rfl, HL6.out.own, hb6⟩
end Go.Proofs.Ytmidobhfahpkcaa
