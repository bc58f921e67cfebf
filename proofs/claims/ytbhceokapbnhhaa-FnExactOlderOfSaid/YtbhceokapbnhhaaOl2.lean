/- The order of births, of the model. -/
import Derived.Test.YtbhceokapbnhhaaOl1
import Derived.Test.YtbhceokapbnhhaaBi2
import Derived.Lib.SliceRun
import Derived.WideShapes
import Derived.Deep.RegionHeld3
import Derived.Laws.AppendOwnNone
set_option linter.unusedVariables false
set_option linter.unusedSimpArgs false
namespace Go.Proofs.Ytbhceokapbnhhaa
open Go.RowKit

theorem ints_cells {w : World} {b off : Nat} {zs : List Int} (h : Ints w b off zs) : ∀ j u, (zs.map (Value.int .i64))[j]? = some u → w.cell? ((⟨b, off, none⟩ : Addr).add j) = some u := by
  intro j u hj
  rw [WideShapes.add_plain]
  have hlt : j < zs.length := by
    have := (List.getElem?_eq_some_iff.1 hj).1
    simpa using this
  rw [h j hlt, ← hj]
  simp [List.getElem?_eq_getElem hlt]
set_option maxHeartbeats 400000 in
theorem own_any (b off c : Nat) (zs : List Int) (w : World) (hn : zs.length ≤ 1048576) (hbl : b < w.heap.size) (hI : Ints w b off zs) :
    Calls Try.prog 62 #[.slice (some ⟨b, off, none⟩) zs.length c] w (RetOwn zs w) := by
  obtain ⟨i0, hi, hz0, hz1, hz2⟩ := info_parts infoInt
  have hI' := Lib.hid (hI.kept ((Below.refl w.heap.size w).alloc (Nat.le_refl _) (.cells #[] 3)) hbl)
  have hO := Lib.hid (World.ownsRow_lit (base := w.heap.size) (size := 1) (e := 3) w #[] 0 (Nat.le_refl _) (by unfold maxLen; omega) rfl)
  have HU := Lib.hid (ints_oneCell .i64 zs)
  have HLn : (zs.map (Value.int .i64)).length = zs.length * 1 := by simp
  generalize hxs : zs.map (Value.int .i64) = xs at HU HLn
  have HX := Lib.hid hxs
  have HC := Lib.hid (ints_cells hI'.out)
  rw [hxs] at HC
  clear hxs
  go_enter Try.func62, Try.ntmps62
  go_wp2_with (first | (at_builtin; refine wpList_append_own _ rfl _ _ 31 rfl w.heap.size 3 i0 _ 1 8 Try.underlying31 hi hz0 hz1 hz2 rfl (by decide) _ 0 [] rfl hO.out ⟨b, off, none⟩ zs.length c xs rfl HLn HC.out HU.out ?c3 ?c4 ?c5 ?_))
  case c3 => unfold maxLen; omega
  case c4 => omega
  intro v' w1 hown hgr _
  have hb : Below w.heap.size w w1 := (((Below.refl w.heap.size w).alloc (Nat.le_refl _) _).grown hgr (by simp) (by intro k hk; simp [Value.ownBlock] at hk; omega))
  have ho : Own w.heap.size w1 v' zs := by unfold Own; rw [HX.out]; exact hown
  clear hown hgr
  go_wp2_with fail
  go_ret
  exact ⟨_, rfl, ho, hb⟩
set_option maxHeartbeats 400000 in
theorem own_none (w : World) : Calls Try.prog 62 #[.slice none 0 0] w (RetOwn [] w) := by
  obtain ⟨i0, hi, hz0, hz1, hz2⟩ := info_parts infoInt
  have hO := Lib.hid (World.ownsRow_lit (base := w.heap.size) (size := 1) (e := 3) w #[] 0 (Nat.le_refl _) (by unfold maxLen; omega) rfl)
  go_enter Try.func62, Try.ntmps62
  go_wp2_with (first | (at_builtin; refine wpList_append_own_none rfl _ _ 31 rfl w.heap.size 3 i0 1 Try.underlying31 hi _ 0 [] rfl hO.out rfl ?_))
  go_wp2_with fail
  go_ret
  exact ⟨_, rfl, hO.out, (Below.refl w.heap.size w).alloc (Nat.le_refl _) _⟩
theorem ints_take {w : World} {b off : Nat} {zs : List Int} (h : Ints w b off zs) (k : Nat) : Ints w b off (zs.take k) := by
  intro j hj
  rw [List.length_take] at hj
  have := h j (by omega)
  simpa [List.getElem?_take, show j < k by omega] using this
theorem ints_drop {w : World} {b off : Nat} {zs : List Int} (h : Ints w b off zs) (k : Nat) : Ints w b (off + k) (zs.drop k) := by
  intro j hj
  rw [List.length_drop] at hj
  have := h (k + j) (by omega)
  rw [Nat.add_assoc, this]
  simp [List.getElem?_drop]
theorem own_len (b off c n : Nat) (zs : List Int) (w : World) (hl : zs.length = n) (hn : n ≤ 1048576) (hbl : b < w.heap.size) (hI : Ints w b off zs) :
    Calls Try.prog 62 #[.slice (some ⟨b, off, none⟩) n c] w (RetOwn zs w) := by
  subst hl; exact own_any b off c zs w hn hbl hI
theorem row_above {w w1 w2 : World} {v : Value} {n : Nat} {xs : List Value} (hb : Below w.heap.size w w1) (h : w1.ownsRow w.heap.size 3 1 v n xs) (hg : w1.grownBy w2 v.ownBlock) : Below w.heap.size w w2 := by
  rcases h.2 with ⟨rfl, _⟩ | ⟨g, cap, cur, rfl, h2, _⟩
  · have hg' : w1.grownBy w2 none := hg
    exact ⟨hg'.os.trans hb.os, hg'.tape.trans hb.tape, hg'.output.trans hb.output, Nat.le_trans hb.size hg'.size, fun k hk => (hg'.block k (Nat.lt_of_lt_of_le hk hb.size) (by simp)).trans (hb.block k hk)⟩
  · exact below_grownAbove hb hg h2
/-- Who was born first comes first. -/
def olderR (ds : List Dt) : List Int := if birthsB ds = true then ordNs (negD ds) else []
theorem neg_le {ds : List Dt} {i j : Nat} (hi : i < ds.length) (hj : j < ds.length) (h : (negD ds).getD j 0 ≤ (negD ds).getD i 0) : dys (at2 ds i) ≤ dys (at2 ds j) := by
  rw [negD_at ds i hi, negD_at ds j hj] at h; omega
theorem neg_lt {ds : List Dt} {i j : Nat} (hi : i < ds.length) (hj : j < ds.length) (h : (negD ds).getD i 0 < (negD ds).getD j 0) : ¬ dys (at2 ds i) ≤ dys (at2 ds j) := by
  rw [negD_at ds i hi, negD_at ds j hj] at h; omega

set_option maxHeartbeats 8000000 in
set_option maxRecDepth 100000 in
theorem specOlder_yes (b off n c : Nat) (ds : List Dt) (w : World) (hl : ds.length = n) (hI : Dts w b off ds) (hbl : b < w.heap.size) (hg : birthsB ds = true) :
    Calls Try.prog 34 #[.slice (some ⟨b, off, none⟩) n c] w (RetOwnB (ordNs (negD ds)) true w) := by
  obtain ⟨i0, hi, hz0, hz1, hz2⟩ := info_parts infoInt
  have h8 := birthsB_len hg
  rw [hl] at h8
  have HL := Lib.hid hl
  have HNL := Lib.hid ((negD_length ds).trans hl)
  have HDY := Lib.hid (fun (j : Nat) (hj : j < n) (W : World) => biDays_any (at2 ds j).1 (at2 ds j).2 W (birthsB_at hg j (by omega)))
  have HG0 := fun (W : World) (h : Dts W b off ds) (h2 : b < W.heap.size) => biGood_any b off n c ds W hl h h2
  rw [hg] at HG0
  have HG := Lib.hid HG0
  have HLE := Lib.hid (fun (i j : Nat) (hi : i < n) (hj : j < n) h => neg_le (ds := ds) (i := i) (j := j) (by omega) (by omega) h)
  have HLT := Lib.hid (fun (i j : Nat) (hi : i < n) (hj : j < n) h => neg_lt (ds := ds) (i := i) (j := j) (by omega) (by omega) h)
  clear hl hg HG0
  obtain ⟨zs, hzs⟩ : ∃ zs, zs = negD ds := ⟨_, rfl⟩
  rw [← hzs] at HNL HLE HLT ⊢
  clear hzs
  go_enter Try.func34, Try.ntmps34
  go_wp2_with (first | (go_at_call 45; refine (HG.out _ hI hbl).mono ?_; rintro e w' ⟨rfl, hbw⟩))
  go_loopw [4, 14] (fun v i wr => ∃ j : Nat, j ≤ n ∧ i = .int .i64 j ∧ Own w.heap.size wr v (nsTo zs j) ∧ Below w.heap.size w wr) (fun _ i _ => n - (intOf i).toNat)
  case atStart => exact ⟨0, Nat.zero_le _, rfl, own_nil _ _, hbw⟩
  case round =>
    clear hbw
    obtain ⟨j, hj, rfl, ho, hb⟩ := hrel
    have hsz := hb.size
    by_cases hlt : j < n
    · obtain ⟨p1, p2⟩ := (hI.kept hb hbl) j (by rw [HL.out]; exact hlt)
      have HS := Lib.hid (nsTo_succ zs j (by rw [HNL.out]; exact hlt))
      have HN := Lib.hid (nsTo_len zs j (by rw [HNL.out]; exact hj))
      have hsp := spot_le zs j (by rw [HNL.out]; exact hj)
      have HP := Lib.hid (fun k (h : k < j) => nsTo_at zs j k (by rw [HNL.out]; exact hj) h)
      have HT := Lib.hid (fun k (h : k < spot zs j) => spot_lt h)
      have HA := Lib.hid (fun (h : spot zs j < j) => spot_at (by rw [HNL.out]; exact hj) h)
      have HKX := Lib.hid (HDY.out j hlt)
      have HLEj := Lib.hid (fun i hi h => HLE.out i j hi hlt h)
      have HLTj := Lib.hid (fun i hi h => HLT.out i j hi hlt h)
      generalize hz : zs.getD j 0 = z at HT HA HLEj HLTj
      clear hz
      generalize hsq : spot zs j = q at HS hsp HT HA
      clear hsq
      generalize hns : nsTo zs j = ns at *
      clear hns
      generalize at2 ds j = ex at p1 p2 HKX HLEj HLTj
      obtain ⟨ye, de⟩ := ex
      simp only at p1 p2
      rcases ho.cases with ⟨rfl, hnil⟩ | ⟨g, cap, rfl, hg1, hg2, hcap, hcm, hIo, _⟩
      · have hj0 : j = 0 := by have := congrArg List.length hnil; rw [HN.out] at this; simpa using this
        have hq0 : q = 0 := by omega
        subst hq0
        have HS2 : Hid (nsTo zs (j + 1) = [] ++ [(j : Int)]) := Lib.hid (by rw [HS.out, hnil]; rfl)
        clear hnil hj0
        have hbq := hb.alloc hsz (.cells #[.int .i64 ye, .int .i64 de] 34)
        go_wp2_with fail
        clear p1 p2
        generalize wr.alloc (.cells #[.int .i64 ye, .int .i64 de] 34) = wq at hbq ⊢
        clear ho hb hsz
        have hsz := hbq.size
        go_loopw [7] (fun v wr => v = .int .i64 0 ∧ Below w.heap.size w wr) (fun _ _ => 0)
        case atStart => exact ⟨rfl, hbq⟩
        case round =>
          obtain ⟨rfl, hb⟩ := hrel
          have hsz := hb.size
          have hd : decide ((0 : Int) < 0) = false := by decide
          go_wp2_with fail
          go_quiet (fail)
          have hbd := fun d => below_drewN hb d
          generalize hwz : World.drewN wr _ = wz
          have hbz : Below w.heap.size w wz := by rw [← hwz]; exact hbd _
          clear hbd hwz
          have hsz := hbz.size
          all_goals
            go_wp2_with fail
            refine (own_none _).mono ?_
            rintro e w1 ⟨v, rfl, ho1, hb1⟩
            have hb1' := hbz.trans (hb1.mono hsz)
            have hsz1 := hb1.size
            have ho1' := ho1.mono hsz
            go_wp2_with (first | (at_builtin; refine wpList_append_own _ rfl _ _ 31 rfl w.heap.size 3 i0 (.int .i64 0) 1 8 Try.underlying31 hi hz0 hz1 hz2 rfl (by decide) _ _ _ rfl (World.ownsRow.alloc ho1' _) ⟨w1.heap.size, 0, none⟩ 1 1 [.int .i64 j] rfl rfl (newCell _ _ _) (oneInt _) ?c3 ?c4 ?c5 ?_))
            case c3 => unfold maxLen; simp
            case c4 => simp
            case c5 => simp; omega
            intro v' w2 hown' hgrow _
            have hb2 := below_push hb1' ho1' hgrow
            have ho2 := own_push (zs := []) hown'
            clear hown' hgrow
            go_wp2_with (first | (at_builtin; refine wpList_append_own_none rfl _ _ 31 rfl w.heap.size 3 i0 1 Try.underlying31 hi _ _ _ rfl ho2 rfl ?_))
            go_wp2
            go_roundw
            case rel => exact ⟨j + 1, by omega, by go_num, by rw [HS2.out]; exact ho2, hb2⟩
            case measure => simp [intOf]; omega
      · rw [HN.out] at hcap ⊢
        have hoq := World.ownsRow.alloc ho (.cells #[.int .i64 ye, .int .i64 de] 34)
        have hbq := hb.alloc hsz (.cells #[.int .i64 ye, .int .i64 de] 34)
        have hIq : Ints (wr.alloc (.cells #[.int .i64 ye, .int .i64 de] 34)) g 0 ns := hIo.kept ((Below.refl wr.heap.size wr).alloc (Nat.le_refl _) _) hg2
        have x1 : (wr.alloc (.cells #[.int .i64 ye, .int .i64 de] 34)).cell? ⟨wr.heap.size, 0, none⟩ = some (.int .i64 ye) := by simp [go_sem]
        have x2 : (wr.alloc (.cells #[.int .i64 ye, .int .i64 de] 34)).cell? ⟨wr.heap.size, 1, none⟩ = some (.int .i64 de) := by simp [go_sem]
        have hgq : g < (wr.alloc (.cells #[.int .i64 ye, .int .i64 de] 34)).heap.size := by simp; omega
        go_wp2_with fail
        clear p1 p2 ho hb hIo hsz hg2
        generalize wr.alloc (.cells #[.int .i64 ye, .int .i64 de] 34) = wq at hbq hoq hIq x1 x2 hgq ⊢
        generalize wr.heap.size = g0 at x1 x2 ⊢
        have HOQ := Lib.hid hoq
        clear hoq
        go_loopw [7] (fun v wr => ∃ k : Nat, k ≤ q ∧ v = .int .i64 k ∧ Below wq.heap.size wq wr) (fun v _ => j - (intOf v).toNat)
        case atStart => exact ⟨0, Nat.zero_le _, rfl, Below.refl _ _⟩
        case round =>
          obtain ⟨k, hk, rfl, hbr⟩ := hrel
          have hb := hbq.trans (hbr.mono hbq.size)
          have hsz := hb.size
          have hIo := hIq.kept hbr hgq
          have hg2 : g < wr.heap.size := Nat.lt_of_lt_of_le hgq hbr.size
          by_cases hkj : k < j
          · obtain ⟨i, hi1, hi2, hi3⟩ := HP.out k hkj
            have hi4 : i < n := by rw [← HNL.out]; exact hi1
            have c1 : wr.cell? ⟨g, k, none⟩ = some (.int .i64 (i : Int)) := by
              have := hIo k (by rw [HN.out]; exact hkj)
              rw [hi2] at this
              simpa using this
            obtain ⟨c2, c3⟩ := (hI.kept hb hbl) i (by rw [HL.out]; exact hi4)
            have y1 := below_cell2 hbr x1
            have y2 := below_cell2 hbr x2
            have HKY := Lib.hid (HDY.out i hi4)
            by_cases hkq : k < q
            · have hge := HT.out k hkq
              rw [hi3] at hge
              have hcmp := HLEj.out i hi4 hge
              clear hi2 hi3 hge
              generalize at2 ds i = ey at c2 c3 HKY hcmp
              obtain ⟨yp, dp⟩ := ey
              simp only at c2 c3
              have KY := Lib.hid (fun W => (HKY.out W : Calls Try.prog 53 #[.agg #[.int .i64 yp, .int .i64 dp]] W (Ret (.int .i64 (dys (yp, dp))) W)))
              have KX := Lib.hid (fun W => (HKX.out W : Calls Try.prog 53 #[.agg #[.int .i64 ye, .int .i64 de]] W (Ret (.int .i64 (dys (ye, de))) W)))
              clear HKY
              generalize dys (yp, dp) = ny at KY hcmp
              generalize dys (ye, de) = nx at KX hcmp
              go_wp2_with fail
              go_region_held3 (fun w' => Below wq.heap.size wq w' ∧ w'.cell? ⟨g, k, none⟩ = some (.int .i64 (i : Int)) ∧ w'.cell? ⟨b, off + i * 2, none⟩ = some (.int .i64 yp) ∧ w'.cell? ⟨b, off + i * 2 + 1, none⟩ = some (.int .i64 dp) ∧ w'.cell? ⟨g0, 0, none⟩ = some (.int .i64 ye) ∧ w'.cell? ⟨g0, 1, none⟩ = some (.int .i64 de))
                (first
                  | exact ⟨hbr.drew, c1, c2, c3, y1, y2⟩
                  | (exact ⟨Below.drew (by assumption), by first | assumption | simp [*], by first | assumption | simp [*], by first | assumption | simp [*], by first | assumption | simp [*], by first | assumption | simp [*]⟩)
                  | (go_split_ands
                     refine ⟨?_, ?_, ?_, ?_, ?_, ?_⟩
                     · exact (by first | assumption | exact Below.trans (by assumption) (Below.mono hcall (Below.size (by assumption))) | exact Below.trans (Below.drew (by assumption)) (Below.mono hcall (Below.size (Below.drew (by assumption)))))
                     · exact (by first | assumption | exact below_cell2 hcall (by first | assumption | (simp; assumption)))
                     · exact (by first | assumption | exact below_cell2 hcall (by first | assumption | (simp; assumption)))
                     · exact (by first | assumption | exact below_cell2 hcall (by first | assumption | (simp; assumption)))
                     · exact (by first | assumption | exact below_cell2 hcall (by first | assumption | (simp; assumption)))
                     · exact (by first | assumption | exact below_cell2 hcall (by first | assumption | (simp; assumption)))))
                (first | (go_at_call_of 53 (Value.int IntKind.i64 yp); refine (KY.out _).mono ?_; rintro e w' ⟨rfl, hcall⟩) | (go_at_call_of 53 (Value.int IntKind.i64 ye); refine (KX.out _).mono ?_; rintro e w' ⟨rfl, hcall⟩))
              all_goals
                obtain ⟨hbf, _, _, _, _, _⟩ := ‹Below wq.heap.size wq _ ∧ _›
                go_wp2_with fail
                go_roundw
              case rel => exact ⟨k + 1, by omega, by go_num, hbf⟩
              case measure => simp [intOf]; omega
            · have hkq : k = q := by omega
              subst hkq
              have hge := HA.out hkj
              rw [hi3] at hge
              have hcmp := HLTj.out i hi4 hge
              clear hi2 hi3 hge
              generalize at2 ds i = ey at c2 c3 HKY hcmp
              obtain ⟨yp, dp⟩ := ey
              simp only at c2 c3
              have KY := Lib.hid (fun W => (HKY.out W : Calls Try.prog 53 #[.agg #[.int .i64 yp, .int .i64 dp]] W (Ret (.int .i64 (dys (yp, dp))) W)))
              have KX := Lib.hid (fun W => (HKX.out W : Calls Try.prog 53 #[.agg #[.int .i64 ye, .int .i64 de]] W (Ret (.int .i64 (dys (ye, de))) W)))
              clear HKY
              generalize dys (yp, dp) = ny at KY hcmp
              generalize dys (ye, de) = nx at KX hcmp
              have HS2 : Hid (nsTo zs (j + 1) = (ns.take k ++ [(j : Int)]) ++ ns.drop k) := HS
              have HTl : Hid ((ns.take k).length = k) := Lib.hid (by rw [List.length_take, HN.out]; omega)
              have HDl : Hid ((ns.drop k).length = j - k) := Lib.hid (by rw [List.length_drop, HN.out])
              have HTI : Hid (∀ W, Ints W g 0 ns → Ints W g 0 (ns.take k)) := Lib.hid (fun W h => ints_take h k)
              have HDI : Hid (∀ W, Ints W g 0 ns → Ints W g k (ns.drop k)) := Lib.hid (fun W h => by have := ints_drop h k; rw [Nat.zero_add] at this; exact this)
              clear HS
              generalize ns.take k = tk at *
              generalize ns.drop k = dk at *
              go_wp2_with fail
              go_region_held3 (fun w' => Below wq.heap.size wq w' ∧ w'.cell? ⟨g, k, none⟩ = some (.int .i64 (i : Int)) ∧ w'.cell? ⟨b, off + i * 2, none⟩ = some (.int .i64 yp) ∧ w'.cell? ⟨b, off + i * 2 + 1, none⟩ = some (.int .i64 dp) ∧ w'.cell? ⟨g0, 0, none⟩ = some (.int .i64 ye) ∧ w'.cell? ⟨g0, 1, none⟩ = some (.int .i64 de))
                (first
                  | exact ⟨hbr.drew, c1, c2, c3, y1, y2⟩
                  | (exact ⟨Below.drew (by assumption), by first | assumption | simp [*], by first | assumption | simp [*], by first | assumption | simp [*], by first | assumption | simp [*], by first | assumption | simp [*]⟩)
                  | (go_split_ands
                     refine ⟨?_, ?_, ?_, ?_, ?_, ?_⟩
                     · exact (by first | assumption | exact Below.trans (by assumption) (Below.mono hcall (Below.size (by assumption))) | exact Below.trans (Below.drew (by assumption)) (Below.mono hcall (Below.size (Below.drew (by assumption)))))
                     · exact (by first | assumption | exact below_cell2 hcall (by first | assumption | (simp; assumption)))
                     · exact (by first | assumption | exact below_cell2 hcall (by first | assumption | (simp; assumption)))
                     · exact (by first | assumption | exact below_cell2 hcall (by first | assumption | (simp; assumption)))
                     · exact (by first | assumption | exact below_cell2 hcall (by first | assumption | (simp; assumption)))
                     · exact (by first | assumption | exact below_cell2 hcall (by first | assumption | (simp; assumption)))))
                (first | (go_at_call_of 53 (Value.int IntKind.i64 yp); refine (KY.out _).mono ?_; rintro e w' ⟨rfl, hcall⟩) | (go_at_call_of 53 (Value.int IntKind.i64 ye); refine (KX.out _).mono ?_; rintro e w' ⟨rfl, hcall⟩))
              all_goals
                obtain ⟨hbf, _, _, _, _, _⟩ := ‹Below wq.heap.size wq _ ∧ _›
                clear KY KX
                have hbz := hbq.trans (hbf.mono hbq.size)
                have hszz := hbz.size
                have hIz := hIq.kept hbf hgq
                have hgz := Nat.lt_of_lt_of_le hgq hbf.size
                go_wp2_with fail
                refine (own_len g 0 cap k tk _ HTl.out (by omega) hgz (HTI.out _ hIz)).mono ?_
                rintro e w1 ⟨v, rfl, ho1, hb1⟩
                have hsz1 := hb1.size
                have HO1 := Lib.hid ho1
                have ho1' : w1.ownsRow w.heap.size 3 1 v k (tk.map (Value.int .i64)) := by have := ho1.mono hszz; unfold Own at this; rw [HTl.out] at this; exact this
                generalize hxs : tk.map (Value.int .i64) = xs at ho1'
                have HX := Lib.hid hxs
                clear hxs ho1
                go_wp2_with (first | (at_builtin; refine wpList_append_own _ rfl _ _ 31 rfl w.heap.size 3 i0 (.int .i64 0) 1 8 Try.underlying31 hi hz0 hz1 hz2 rfl (by decide) _ k xs rfl (World.ownsRow.alloc ho1' _) ⟨w1.heap.size, 0, none⟩ 1 1 [.int .i64 j] rfl rfl (newCell _ _ _) (oneInt _) ?c3 ?c4 ?c5 ?_))
                case c3 => unfold maxLen; omega
                case c4 => omega
                case c5 => simp; omega
                intro v' w2 hown' hgrow _
                have hbw := below_push hb1 HO1.out hgrow
                have hb2 := hbz.trans (hbw.mono hszz)
                have hI2 := Lib.hid (HDI.out w2 (hIz.kept hbw hgz))
                have HO2 : Hid (w2.ownsRow w.heap.size 3 1 v' (k + 1) (xs ++ [.int .i64 j])) := Lib.hid hown'
                have hsz2 := hb2.size
                have HC := Lib.hid (ints_cells hI2.out)
                have HU := Lib.hid (ints_oneCell .i64 dk)
                have HLn : Hid ((dk.map (Value.int .i64)).length = (j - k) * 1) := Lib.hid (by rw [List.length_map, HDl.out]; omega)
                generalize hys : dk.map (Value.int .i64) = ys at *
                have HY := Lib.hid hys
                clear hys hown' hgrow hbw ho1' hb1
                have hck : ¬ cap = k := by omega
                go_wp2_with (first | (at_builtin; refine wpList_append_own _ rfl _ _ 31 rfl w.heap.size 3 i0 (.int .i64 0) 1 8 Try.underlying31 hi hz0 hz1 hz2 rfl (by decide) _ (k + 1) _ rfl HO2.out ⟨g, k, none⟩ (j - k) _ ys rfl HLn.out HC.out HU.out ?c3 ?c4 ?c5 ?_))
                case c3 => unfold maxLen; omega
                case c4 => omega
                case c5 => omega
                intro v3 w3 hown3 hgrow3 _
                have hb3 : Below w.heap.size w w3 := row_above hb2 HO2.out hgrow3
                have ho3 : Own w.heap.size w3 v3 (nsTo zs (j + 1)) := by
                  have e1 : k + 1 + (j - k) = (nsTo zs (j + 1)).length := by rw [HS2.out, List.length_append, List.length_append, HTl.out, HDl.out]; simp
                  have e2 : xs ++ Value.int .i64 j :: ys = (nsTo zs (j + 1)).map (Value.int .i64) := by rw [HS2.out, ← HX.out, ← HY.out]; simp
                  unfold Own
                  rw [← e1, ← e2]
                  exact hown3
                clear hown3 hgrow3
                go_wp2
                go_roundw
              case rel => exact ⟨j + 1, by omega, by go_num, ho3, hb3⟩
              case measure => simp [intOf]; omega
          · have hkq : k = j := by omega
            have hqj : q = j := by omega
            subst hkq
            subst hqj
            have HTl : Hid (ns.take q = ns) := Lib.hid (by rw [← HN.out, List.take_length])
            have HS2 : Hid (nsTo zs (q + 1) = ns ++ [(q : Int)]) := Lib.hid (by rw [HS.out, HTl.out, List.drop_of_length_le (by rw [HN.out]; exact Nat.le_refl _), List.append_nil])
            clear HS
            have hd : decide ((q : Int) < (q : Int)) = false := decide_eq_false (by omega)
            go_wp2_with fail
            go_quiet (fail)
            have hbd := fun d => below_drewN hbr d
            generalize hwz : World.drewN wr _ = wz
            have hbz : Below wq.heap.size wq wz := by rw [← hwz]; exact hbd _
            clear hbd hwz hIo hg2 hb hsz
            have hIo := hIq.kept hbz hgq
            have hb := hbq.trans (hbz.mono hbq.size)
            have hsz := hb.size
            have hg2 : g < wz.heap.size := Nat.lt_of_lt_of_le hgq hbz.size
            all_goals
              go_wp2_with fail
              refine (own_len g 0 cap q ns _ HN.out (by omega) hg2 hIo).mono ?_
              rintro e w1 ⟨v, rfl, ho1, hb1⟩
              have hsz1 := hb1.size
              have HO1 := Lib.hid ho1
              have ho1' : w1.ownsRow w.heap.size 3 1 v q (ns.map (Value.int .i64)) := by have := ho1.mono hsz; unfold Own at this; rw [HN.out] at this; exact this
              generalize hxs : ns.map (Value.int .i64) = xs at ho1'
              have HX := Lib.hid hxs
              clear hxs ho1
              go_wp2_with (first | (at_builtin; refine wpList_append_own _ rfl _ _ 31 rfl w.heap.size 3 i0 (.int .i64 0) 1 8 Try.underlying31 hi hz0 hz1 hz2 rfl (by decide) _ q xs rfl (World.ownsRow.alloc ho1' _) ⟨w1.heap.size, 0, none⟩ 1 1 [.int .i64 q] rfl rfl (newCell _ _ _) (oneInt _) ?c3 ?c4 ?c5 ?_))
              case c3 => unfold maxLen; omega
              case c4 => omega
              case c5 => simp; omega
              intro v' w2 hown' hgrow _
              have hbw := below_push hb1 HO1.out hgrow
              have hb2 : Below w.heap.size w w2 := by first | exact hb.trans (hbw.mono hsz) | exact hb.drew.trans (hbw.mono hsz)
              have HO2 : Hid (w2.ownsRow w.heap.size 3 1 v' (q + 1) (xs ++ [.int .i64 q])) := Lib.hid hown'
              have hsz2 := hb2.size
              clear hown' hgrow hbw ho1' hb1
              have HC : Hid (∀ ad : Addr, ∀ j u, ([] : List Value)[j]? = some u → w2.cell? (ad.add j) = some u) := Lib.hid (fun ad j u h => by simp at h)
              by_cases hck : cap = q
              all_goals
                try (have hck2 := hck.symm; clear hck; subst hck2)
                go_wp2_with (first | (at_builtin; refine wpList_append_own _ rfl _ _ 31 rfl w.heap.size 3 i0 (.int .i64 0) 1 8 Try.underlying31 hi hz0 hz1 hz2 rfl (by decide) _ _ _ rfl HO2.out _ 0 _ [] rfl rfl (HC.out _) (fun u h => absurd h (by simp)) ?c3 ?c4 ?c5 ?_))
                case c3 => unfold maxLen; omega
                case c4 => omega
                case c5 => omega
                intro v3 w3 hown3 hgrow3 _
                have hb3 : Below w.heap.size w w3 := row_above hb2 HO2.out hgrow3
                have ho3 : Own w.heap.size w3 v3 (nsTo zs (q + 1)) := by
                  have e1 := congrArg List.length HS2.out
                  rw [List.length_append, HN.out] at e1
                  unfold Own
                  rw [HS2.out, List.map_append, HX.out, List.length_append, HN.out]
                  exact hown3
                clear hown3 hgrow3
                go_wp2
                go_roundw
                case rel => exact ⟨q + 1, by omega, by go_num, ho3, hb3⟩
                case measure => simp [intOf]; omega
    · have hkn : j = n := by omega
      clear hlt
      go_wp2
      go_ret2
      exact ⟨_, rfl, by rw [hkn, ← HNL.out, nsTo_all] at ho; exact ho, hb⟩

theorem specOlderOf_any (b off n c : Nat) (ds : List Dt) (w : World) (hl : ds.length = n) (hI : Dts w b off ds) (hbl : b < w.heap.size) :
    Calls Try.prog 34 #[.slice (some ⟨b, off, none⟩) n c] w (RetOwnB (olderR ds) (birthsB ds) w) := by
  cases hg : birthsB ds with
  | true =>
    rw [show olderR ds = ordNs (negD ds) by unfold olderR; rw [hg]; rfl]
    exact specOlder_yes b off n c ds w hl hI hbl hg
  | false =>
    rw [show olderR ds = [] by unfold olderR; rw [hg]; rfl]
    have HG0 := fun (W : World) (h : Dts W b off ds) (h2 : b < W.heap.size) => biGood_any b off n c ds W hl h h2
    rw [hg] at HG0
    have HG := Lib.hid HG0
    clear HG0 hg hl
    go_enter Try.func34, Try.ntmps34
    go_wp2_with (first | (go_at_call 45; refine (HG.out _ hI hbl).mono ?_; rintro e w' ⟨rfl, hbw⟩))
    go_ret2
    exact ⟨_, rfl, own_nil _ _, hbw⟩
end Go.Proofs.Ytbhceokapbnhhaa
