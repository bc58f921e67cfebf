/- OrderOfAges: the model's loop. -/
import Derived.Test.YtjabghojenhhiaaMOrd
import Derived.Test.YtjabghojenhhiaaDropKit
set_option linter.unusedVariables false
set_option linter.unusedSimpArgs false
namespace Go.Proofs.Ytjabghojenhhiaa
open Go.RowKit

theorem row_above {w w1 w2 : World} {v : Value} {n : Nat} {xs : List Value} (hb : Below w.heap.size w w1) (h : w1.ownsRow w.heap.size 3 1 v n xs) (hg : w1.grownBy w2 v.ownBlock) : Below w.heap.size w w2 := by
  rcases h.2 with ⟨rfl, _⟩ | ⟨g, cap, cur, rfl, h2, _⟩
  · have hg' : w1.grownBy w2 none := hg
    exact ⟨hg'.os.trans hb.os, hg'.tape.trans hb.tape, hg'.output.trans hb.output, Nat.le_trans hb.size hg'.size, fun k hk => (hg'.block k (Nat.lt_of_lt_of_le hk hb.size) (by simp)).trans (hb.block k hk)⟩
  · exact below_grownAbove hb hg h2

set_option maxHeartbeats 1000000 in
theorem agOrder_any (b off c n : Nat) (zs : List Int) (w : World) (hl : zs.length = n) (h8 : n ≤ 8) (hI : Ints w b off zs) (h0 : 0 < n) :
    Calls Try.prog 35 #[.slice (some ⟨b, off, none⟩) n c] w (RetOwn (ordNs zs) w) := by
  obtain ⟨i0, hi, hz0, hz1, hz2⟩ := info_parts infoInt
  have hbl := ints_lt hI (by omega)
  have HL := Lib.hid hl
  have HI := Lib.hid hI
  clear hl hI
  go_enter Try.func35, Try.ntmps35
  go_wp2
  go_loopw [3, 10] (fun v i wr => ∃ j : Nat, j ≤ n ∧ i = .int .i64 j ∧ Own w.heap.size wr v (nsTo zs j) ∧ Below w.heap.size w wr) (fun _ i _ => n - (intOf i).toNat)
  case atStart => exact ⟨0, Nat.zero_le _, rfl, own_nil _ _, Below.refl _ _⟩
  case round =>
    obtain ⟨j, hj, rfl, ho, hb⟩ := hrel
    have hsz := hb.size
    by_cases hlt : j < n
    · have hc0 := (HI.out.kept hb hbl) j (by rw [HL.out]; exact hlt)
      have HS := Lib.hid (nsTo_succ zs j (by rw [HL.out]; exact hlt))
      have HN := Lib.hid (nsTo_len zs j (by rw [HL.out]; exact hj))
      have hsp := spot_le zs j (by rw [HL.out]; exact hj)
      have HP := Lib.hid (fun k (h : k < j) => nsTo_at zs j k (by rw [HL.out]; exact hj) h)
      have HT := Lib.hid (fun k (h : k < spot zs j) => spot_lt h)
      have HA := Lib.hid (fun (h : spot zs j < j) => spot_at (by rw [HL.out]; exact hj) h)
      generalize hz : zs.getD j 0 = z at hc0 HT HA
      clear hz
      generalize hsq : spot zs j = q at HS hsp HT HA
      clear hsq
      generalize hns : nsTo zs j = ns at *
      clear hns
      rcases ho.cases with ⟨rfl, hnil⟩ | ⟨g, cap, rfl, hg1, hg2, hcap, hcm, hIo, _⟩
      · have hj0 : j = 0 := by have := congrArg List.length hnil; rw [HN.out] at this; simpa using this
        have hq0 : q = 0 := by omega
        subst hq0
        have HS2 : Hid (nsTo zs (j + 1) = [] ++ [(j : Int)]) := Lib.hid (by rw [HS.out, hnil]; rfl)
        clear hnil hj0
        go_wp2_with fail
        go_loop [6] (fun v => v = .int .i64 0) (fun _ => 0)
        case atStart => rfl
        case round =>
          obtain rfl := hrel
          go_wp2_with fail
          refine (own_none _).mono ?_
          rintro e w1 ⟨v, rfl, ho1, hb1⟩
          have hb1' := hb.trans (hb1.mono hsz)
          have hsz1 := hb1.size
          have ho1' := ho1.mono hsz
          go_wp2_with (first | (at_builtin; refine wpList_append_own _ rfl _ _ 22 rfl w.heap.size 3 i0 (.int .i64 0) 1 8 Try.underlying22 hi hz0 hz1 hz2 rfl (by decide) _ _ _ rfl (World.ownsRow.alloc ho1' _) ⟨w1.heap.size, 0, none⟩ 1 1 [.int .i64 j] rfl rfl (newCell _ _ _) (oneInt _) ?c3 ?c4 ?c5 ?_))
          case c3 => unfold maxLen; simp
          case c4 => simp
          case c5 => simp; omega
          intro v' w2 hown' hgrow _
          have hb2 := below_push hb1' ho1' hgrow
          have ho2 := own_push (zs := []) hown'
          clear hown' hgrow
          go_wp2_with (first | (at_builtin; refine wpList_append_own_none rfl _ _ 22 rfl w.heap.size 3 i0 1 Try.underlying22 hi _ _ _ rfl ho2 rfl ?_))
          go_wp2
          go_roundw
          case rel => exact ⟨j + 1, by omega, by go_num, by rw [HS2.out]; exact ho2, hb2⟩
          case measure => simp [intOf]; omega
      · rw [HN.out] at hcap ⊢
        have hbz : g < wr.heap.size := hg2
        go_wp2_with fail
        go_loop [6] (fun v => ∃ k : Nat, k ≤ q ∧ v = .int .i64 k) (fun v => j - (intOf v).toNat)
        case atStart => exact ⟨0, Nat.zero_le _, rfl⟩
        case round =>
          obtain ⟨k, hk, rfl⟩ := hrel
          by_cases hkj : k < j
          · obtain ⟨i, hi1, hi2, hi3⟩ := HP.out k hkj
            have hi4 : i < n := by rw [← HL.out]; exact hi1
            have hc1 : wr.cell? ⟨g, k, none⟩ = some (.int .i64 (i : Int)) := by
              have := hIo k (by rw [HN.out]; exact hkj)
              rw [hi2] at this
              simpa using this
            have hc2 := (HI.out.kept hb hbl) i hi1
            by_cases hkq : k < q
            · have hge := HT.out k hkq
              rw [hi3] at hge
              clear hi2 hi3
              generalize zs.getD i 0 = y at hc2 hge
              go_wp2_with fail
              go_round
              case rel => exact ⟨k + 1, by omega, by go_num⟩
              case measure => simp [intOf]; omega
            · have hkq : k = q := by omega
              subst hkq
              have hge := HA.out hkj
              rw [hi3] at hge
              clear hi2 hi3
              generalize zs.getD i 0 = y at hc2 hge
              have HS2 : Hid (nsTo zs (j + 1) = (ns.take k ++ [(j : Int)]) ++ ns.drop k) := HS
              have HTl : Hid ((ns.take k).length = k) := Lib.hid (by rw [List.length_take, HN.out]; omega)
              have HDl : Hid ((ns.drop k).length = j - k) := Lib.hid (by rw [List.length_drop, HN.out])
              have HTI := Lib.hid (ints_take hIo k)
              have HDI : Hid (∀ W, Ints W g 0 ns → Ints W g k (ns.drop k)) := Lib.hid (fun W h => by have := ints_drop h k; rw [Nat.zero_add] at this; exact this)
              clear HS
              generalize ns.take k = tk at *
              generalize ns.drop k = dk at *
              go_wp2_with fail
              clear hc1 hc2 hge
              refine (own_len g 0 cap k tk _ HTl.out (by omega) hbz HTI.out).mono ?_
              rintro e w1 ⟨v, rfl, ho1, hb1⟩
              have hsz1 := hb1.size
              have HO1 := Lib.hid ho1
              have ho1' : w1.ownsRow w.heap.size 3 1 v k (tk.map (Value.int .i64)) := by have := ho1.mono hsz; unfold Own at this; rw [HTl.out] at this; exact this
              generalize hxs : tk.map (Value.int .i64) = xs at ho1'
              have HX := Lib.hid hxs
              clear hxs ho1
              go_wp2_with (first | (at_builtin; refine wpList_append_own _ rfl _ _ 22 rfl w.heap.size 3 i0 (.int .i64 0) 1 8 Try.underlying22 hi hz0 hz1 hz2 rfl (by decide) _ k xs rfl (World.ownsRow.alloc ho1' _) ⟨w1.heap.size, 0, none⟩ 1 1 [.int .i64 j] rfl rfl (newCell _ _ _) (oneInt _) ?c3 ?c4 ?c5 ?_))
              case c3 => unfold maxLen; omega
              case c4 => omega
              case c5 => simp; omega
              intro v' w2 hown' hgrow _
              have hbw := below_push hb1 HO1.out hgrow
              have hb2 := hb.trans (hbw.mono hsz)
              have hI2 := Lib.hid (HDI.out w2 (hIo.kept hbw hg2))
              have HO2 : Hid (w2.ownsRow w.heap.size 3 1 v' (k + 1) (xs ++ [.int .i64 j])) := Lib.hid hown'
              have hsz2 := hb2.size
              have HC := Lib.hid (ints_cells hI2.out)
              have HU := Lib.hid (ints_oneCell .i64 dk)
              have HLn : Hid ((dk.map (Value.int .i64)).length = (j - k) * 1) := Lib.hid (by rw [List.length_map, HDl.out]; omega)
              generalize hys : dk.map (Value.int .i64) = ys at *
              have HY := Lib.hid hys
              clear hys hown' hgrow hbw ho1' hb1
              have hck : ¬ cap = k := by omega
              go_wp2_with (first | (at_builtin; refine wpList_append_own _ rfl _ _ 22 rfl w.heap.size 3 i0 (.int .i64 0) 1 8 Try.underlying22 hi hz0 hz1 hz2 rfl (by decide) _ (k + 1) _ rfl HO2.out ⟨g, k, none⟩ (j - k) _ ys rfl HLn.out HC.out HU.out ?c3 ?c4 ?c5 ?_))
              case c3 => unfold maxLen; omega
              case c4 => omega
              case c5 => omega
              intro v3 w3 hown3 hgrow3 _
              have hb3 : Below w.heap.size w w3 := row_above hb2 HO2.out hgrow3
              have ho3 : Own w.heap.size w3 v3 (nsTo zs (j + 1)) := by
                have e1 : k + 1 + (j - k) = (nsTo zs (j + 1)).length := by rw [HS2.out, List.length_append, List.length_append, HTl.out, HDl.out]; simp
                have e2 : xs ++ Value.int .i64 j :: ys = (nsTo zs (j + 1)).map (Value.int .i64) := by rw [HS2.out, ← HX.out, ← HY.out]; simp
                unfold Own
                rw [← e1, ← e2]
                exact hown3
              clear hown3 hgrow3
              go_wp2
              go_roundw
              case rel => exact ⟨j + 1, by omega, by go_num, ho3, hb3⟩
              case measure => simp [intOf]; omega
          · have hkq : k = j := by omega
            have hqj : q = j := by omega
            subst hkq
            subst hqj
            have HTl : Hid (ns.take q = ns) := Lib.hid (by rw [← HN.out, List.take_length])
            have HS2 : Hid (nsTo zs (q + 1) = ns ++ [(q : Int)]) := Lib.hid (by rw [HS.out, HTl.out, List.drop_of_length_le (by rw [HN.out]; exact Nat.le_refl _), List.append_nil])
            clear HS
            go_wp2_with fail
            refine (own_len g 0 cap q ns _ HN.out (by omega) hbz hIo).mono ?_
            rintro e w1 ⟨v, rfl, ho1, hb1⟩
            have hsz1 := hb1.size
            have HO1 := Lib.hid ho1
            have ho1' : w1.ownsRow w.heap.size 3 1 v q (ns.map (Value.int .i64)) := by have := ho1.mono hsz; unfold Own at this; rw [HN.out] at this; exact this
            generalize hxs : ns.map (Value.int .i64) = xs at ho1'
            have HX := Lib.hid hxs
            clear hxs ho1
            go_wp2_with (first | (at_builtin; refine wpList_append_own _ rfl _ _ 22 rfl w.heap.size 3 i0 (.int .i64 0) 1 8 Try.underlying22 hi hz0 hz1 hz2 rfl (by decide) _ q xs rfl (World.ownsRow.alloc ho1' _) ⟨w1.heap.size, 0, none⟩ 1 1 [.int .i64 q] rfl rfl (newCell _ _ _) (oneInt _) ?c3 ?c4 ?c5 ?_))
            case c3 => unfold maxLen; omega
            case c4 => omega
            case c5 => simp; omega
            intro v' w2 hown' hgrow _
            have hbw := below_push hb1 HO1.out hgrow
            have hb2 := hb.trans (hbw.mono hsz)
            have HO2 : Hid (w2.ownsRow w.heap.size 3 1 v' (q + 1) (xs ++ [.int .i64 q])) := Lib.hid hown'
            have hsz2 := hb2.size
            clear hown' hgrow hbw ho1' hb1
            have HC : Hid (∀ ad : Addr, ∀ j u, ([] : List Value)[j]? = some u → w2.cell? (ad.add j) = some u) := Lib.hid (fun ad j u h => by simp at h)
            by_cases hck : cap = q
            all_goals
              try (have hck2 := hck.symm; clear hck; subst hck2)
              go_wp2_with (first | (at_builtin; refine wpList_append_own _ rfl _ _ 22 rfl w.heap.size 3 i0 (.int .i64 0) 1 8 Try.underlying22 hi hz0 hz1 hz2 rfl (by decide) _ _ _ rfl HO2.out _ 0 _ [] rfl rfl (HC.out _) (fun u h => absurd h (by simp)) ?c3 ?c4 ?c5 ?_))
              case c3 => unfold maxLen; omega
              case c4 => omega
              case c5 => omega
              intro v3 w3 hown3 hgrow3 _
              have hb3 : Below w.heap.size w w3 := row_above hb2 HO2.out hgrow3
              have ho3 : Own w.heap.size w3 v3 (nsTo zs (q + 1)) := by
                have e1 := congrArg List.length HS2.out
                rw [List.length_append, HN.out] at e1
                unfold Own
                rw [HS2.out, List.map_append, HX.out, List.length_append, HN.out]
                exact hown3
              clear hown3 hgrow3
              go_wp2
              go_roundw
              case rel => exact ⟨q + 1, by omega, by go_num, ho3, hb3⟩
              case measure => simp [intOf]; omega
    · have hkn : j = n := by omega
      clear hlt
      go_wp2
      go_ret
      exact ⟨_, rfl, by rw [hkn, ← HL.out, nsTo_all] at ho; exact ho, hb⟩

theorem specOrder_yes (b off c : Nat) (zs : List Int) (w : World) (hn : zs.length ≤ 1048576) (hI : Ints w b off zs) (hg : goodB zs 120 = true) :
    Calls Try.prog 12 #[.slice (some ⟨b, off, none⟩) zs.length c] w (RetOwnB (ordNs zs) true w) := by
  have h8 := goodB_len hg
  go_enter Try.func12, Try.ntmps12
  go_wp2_with (first | (go_at_call 34; refine (agGood_any _ _ _ _ zs _ rfl hn hI).mono ?_; rintro e w' ⟨rfl, rfl⟩))
  refine (agOrder_any _ _ _ _ zs _ rfl h8.2 hI (by omega)).mono ?_
  rintro e w1 ⟨v, rfl, ho, hb⟩
  go_wp2_with fail
  go_ret2
  exact ⟨_, rfl, ho, hb⟩
theorem specOrder_no (b off c : Nat) (zs : List Int) (w : World) (hn : zs.length ≤ 1048576) (hI : Ints w b off zs) (hg : goodB zs 120 = false) :
    Calls Try.prog 12 #[.slice (some ⟨b, off, none⟩) zs.length c] w (RetOwnB [] false w) := by
  go_enter Try.func12, Try.ntmps12
  go_wp2_with (first | (go_at_call 34; refine (agGood_any _ _ _ _ zs _ rfl hn hI).mono ?_; rintro e w' ⟨rfl, rfl⟩))
  go_ret2
  exact ⟨_, rfl, own_nil _ _, Below.refl _ _⟩
theorem order_no (b off c : Nat) (zs : List Int) (w : World) (hn : zs.length ≤ 1048576) (hbl : b < w.heap.size) (hI : Ints w b off zs) (hg : goodB zs 120 = false) :
    Calls Try.prog 14 #[.slice (some ⟨b, off, none⟩) zs.length c] w (RetOwnB [] false w) := by
  go_enter Try.func14, Try.ntmps14
  go_wp2_with fail
  refine (householdOf_nozero _ _ _ _ zs _ rfl hn hI hbl hg).mono ?_
  rintro e w1 ⟨rfl, hb⟩
  go_wp2_with fail
  go_ret2
  exact ⟨_, rfl, own_nil _ _, hb.alloc hb.size _⟩
theorem order_both (zs : List Int) : ∃ rs ok, rs.length ≤ 1048576 ∧
    (∀ b c w, zs.length ≤ 1048576 → b < w.heap.size → Ints w b 0 zs → Calls Try.prog 12 #[.slice (some ⟨b, 0, none⟩) zs.length c] w (RetOwnB rs ok w)) ∧
    (∀ b c w, zs.length ≤ 1048576 → b < w.heap.size → Ints w b 0 zs → Calls Try.prog 14 #[.slice (some ⟨b, 0, none⟩) zs.length c] w (RetOwnB rs ok w)) := by
  cases hg : goodB zs 120 with
  | false => exact ⟨[], false, by simp, fun b c w hn hbl hI => specOrder_no _ _ _ _ _ hn hI hg, fun b c w hn hbl hI => order_no _ _ _ _ _ hn hbl hI hg⟩
  | true =>
    have := goodB_len hg
    exact ⟨ordNs zs, true, by rw [ordNs_length]; omega, fun b c w hn hbl hI => specOrder_yes _ _ _ _ _ hn hI hg, fun b c w hn hbl hI => order_yes _ _ _ _ zs _ rfl hn hI hg⟩
end Go.Proofs.Ytjabghojenhhiaa
