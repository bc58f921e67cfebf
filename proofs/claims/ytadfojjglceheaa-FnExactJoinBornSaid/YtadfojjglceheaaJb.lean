/- Births joined: both texts. -/
import Derived.Test.YtadfojjglceheaaRo
import Derived.Lib.SliceRun
import Derived.Lib.AppendZeros
import Derived.WideShapes
set_option linter.unusedVariables false
set_option linter.unusedSimpArgs false
namespace Go.Proofs.Ytadfojjglceheaa
open Go.RowKit

theorem ints_cells {w : World} {b off : Nat} {zs : List Int} (h : Ints w b off zs) : ∀ j u, (zs.map (Value.int .i64))[j]? = some u → w.cell? ((⟨b, off, none⟩ : Addr).add j) = some u := by
  intro j u hj
  rw [WideShapes.add_plain]
  have hlt : j < zs.length := by
    have := (List.getElem?_eq_some_iff.1 hj).1
    simpa using this
  rw [h j hlt, ← hj]
  simp [List.getElem?_eq_getElem hlt]

set_option maxHeartbeats 400000 in
theorem own_any (b off c : Nat) (zs : List Int) (w : World) (hn : zs.length ≤ 1048576) (hbl : b < w.heap.size) (hI : Ints w b off zs) :
    Calls Try.prog 59 #[.slice (some ⟨b, off, none⟩) zs.length c] w (RetOwn zs w) := by
  obtain ⟨i0, hi, hz0, hz1, hz2⟩ := info_parts infoInt
  have hI' := Lib.hid (hI.kept ((Below.refl w.heap.size w).alloc (Nat.le_refl _) (.cells #[] 3)) hbl)
  have hO := Lib.hid (World.ownsRow_lit (base := w.heap.size) (size := 1) (e := 3) w #[] 0 (Nat.le_refl _) (by unfold maxLen; omega) rfl)
  have HU := Lib.hid (ints_oneCell .i64 zs)
  have HLn : (zs.map (Value.int .i64)).length = zs.length * 1 := by simp
  generalize hxs : zs.map (Value.int .i64) = xs at HU HLn
  have HX := Lib.hid hxs
  have HC := Lib.hid (ints_cells hI'.out)
  rw [hxs] at HC
  clear hxs
  go_enter Try.func59, Try.ntmps59
  go_wp2_with (first | (at_builtin; refine wpList_append_own _ rfl _ _ 22 rfl w.heap.size 3 i0 _ 1 8 Try.underlying22 hi hz0 hz1 hz2 rfl (by decide) _ 0 [] rfl hO.out ⟨b, off, none⟩ zs.length c xs rfl HLn HC.out HU.out ?c3 ?c4 ?c5 ?_))
  case c3 => unfold maxLen; omega
  case c4 => omega
  intro v' w1 hown hgr _
  have hb : Below w.heap.size w w1 := (((Below.refl w.heap.size w).alloc (Nat.le_refl _) _).grown hgr (by simp) (by intro k hk; simp [Value.ownBlock] at hk; omega))
  have ho : Own w.heap.size w1 v' zs := by unfold Own; rw [HX.out]; exact hown
  clear hown hgr
  go_wp2_with fail
  go_ret
  exact ⟨_, rfl, ho, hb⟩


set_option maxHeartbeats 1000000 in
theorem grow_nil (n : Nat) (w : World) (h1 : 1 ≤ n) (hn : n ≤ 1048576) :
    Calls Try.prog 67 #[.slice none 0 0, .int .i64 n] w (RetOwn [] w) := by
  obtain ⟨i0, hi, hz0, hz1, hz2⟩ := info_parts infoInt
  have happ := Lib.run_append_nil_zeros (P := Try.prog) w 22 3 22 3 i0 (.int .i64 0) .i64 .i64 Try.underlying22 Try.underlying3 hi hz0 n (by omega) (by omega) (by omega) (by rw [hz2]; omega)
  generalize hcap : grownCap w n 0 3 = cap2 at happ
  have hcapge : n ≤ cap2 := by rw [← hcap]; exact grownCap_ge w _ 0 3
  have hcaple : cap2 ≤ maxLen := by rw [← hcap]; exact grownCap_le_maxLen w _ 0 3 (by unfold maxLen; omega)
  generalize hZ : (Builtin.zeroCells (Value.int .i64 0).cells n ++ Builtin.zeroCells (Value.int .i64 0).cells (cap2 - n)) = Z at happ
  have hZs : Z.size = cap2 := by rw [← hZ]; simp [size_zeroCells, Value.cells]; omega
  clear hcap hZ
  have hO : Own w.heap.size (w.drew.alloc (.cells Z 3)) (.slice (some ⟨w.heap.size, 0, none⟩) 0 cap2) [] :=
    ⟨rfl, .inr ⟨w.heap.size, cap2, Z, rfl, Nat.le_refl _, heap_alloc_new w.drew _, by simp, hcaple, by omega, by simp⟩⟩
  have HO := Lib.hid hO
  have HB := Lib.hid (show Below w.heap.size w (w.drew.alloc (.cells Z 3)) from (Below.drew (Below.refl _ _)).alloc (Nat.le_refl _) _)
  have hp : (0 : Int) < (n : Int) := by omega
  have hp0 : ¬ ((n : Int) < 0) := by omega
  clear hO
  go_enter Try.func67, Try.ntmps67
  go_wp2_with (at_builtin; refine Lib.wpList_append_run _ rfl _ _ _ _ rfl _ _ rfl rfl _ _ happ ?_)
  go_ret
  exact ⟨_, rfl, HO.out, HB.out⟩

set_option maxHeartbeats 2000000 in
theorem concat_two (q b1 o1 n1 c1 b2 o2 n2 c2 : Nat) (xs ys : List Int) (w : World) (hx : xs.length = n1) (hy : ys.length = n2) (h1 : 1 ≤ n1) (hn1 : n1 ≤ 10) (hn2 : n2 ≤ 10)
    (hq0 : w.cell? ⟨q, 0, none⟩ = some (.slice (some ⟨b1, o1, none⟩) n1 c1)) (hq1 : w.cell? ⟨q, 1, none⟩ = some (.slice (some ⟨b2, o2, none⟩) n2 c2))
    (hb1 : b1 < w.heap.size) (hb2 : b2 < w.heap.size) (hX : Ints w b1 o1 xs) (hY : Ints w b2 o2 ys) :
    Calls Try.prog 60 #[.slice (some ⟨q, 0, none⟩) 2 2] w (RetOwn (xs ++ ys) w) := by
  obtain ⟨i0, hi, hz0, hz1, hz2⟩ := info_parts infoInt
  have hqs := World.block_lt_of_cell? w _ hq0
  have HQ0 := Lib.hid hq0
  have HQ1 := Lib.hid hq1
  have HX := Lib.hid hX
  have HY := Lib.hid hY
  have HLX := Lib.hid hx
  have HLY := Lib.hid hy
  clear hX hY hx hy
  go_enter Try.func60, Try.ntmps60
  go_wp2
  go_loop [3, 11] (fun s i => (i = .int .i64 0 ∧ s = .int .i64 0) ∨ (i = .int .i64 1 ∧ s = .int .i64 n1) ∨ (i = .int .i64 2 ∧ s = .int .i64 ((n1 : Int) + n2))) (fun _ i => 2 - (intOf i).toNat)
  case atStart => exact .inl ⟨rfl, rfl⟩
  case round =>
    rcases hrel with ⟨rfl, rfl⟩ | ⟨rfl, rfl⟩ | ⟨rfl, rfl⟩
    · go_wp2
      go_round
      case rel => exact .inr (.inl ⟨by go_num, by first | rfl | go_num⟩)
      case measure => simp [intOf]
    · have hp : ¬ ((n1 : Int) + (n2 : Int) < 0) := by omega
      go_wp2
      go_round
      case rel => exact .inr (.inr ⟨by go_num, by first | rfl | go_num⟩)
      case measure => simp [intOf]
    · clear hq0 hq1
      go_wp2_with fail
      rw [show ((n1 : Int) + (n2 : Int)) = ((n1 + n2 : Nat) : Int) by omega]
      refine (grow_nil (n1 + n2) _ (by omega) (by omega)).mono ?_
      rintro e w1 ⟨v, rfl, ho, hb⟩
      have hcs : ∃ g c, v = .slice (some ⟨g, 0, none⟩) 0 c ∨ v = .slice none 0 0 := by
        rcases ho.cases with ⟨h, _⟩ | ⟨g, c, h, _⟩
        · exact ⟨0, 0, .inr h⟩
        · exact ⟨g, c, .inl h⟩
      have HO := Lib.hid ho
      have HB := Lib.hid hb
      obtain ⟨g, c, hv⟩ := hcs
      rcases hv with rfl | rfl
      all_goals
        clear ho hb
        go_wp2
        go_loopw [6, 27] (fun v i wr => Below w.heap.size w wr ∧ ((i = .int .i64 0 ∧ Own w.heap.size wr v []) ∨ (i = .int .i64 1 ∧ Own w.heap.size wr v xs) ∨ (i = .int .i64 2 ∧ Own w.heap.size wr v (xs ++ ys)))) (fun _ i _ => 2 - (intOf i).toNat)
        case atStart => exact ⟨HB.out, .inl ⟨rfl, HO.out⟩⟩
        case round =>
          obtain ⟨hbr, hcase⟩ := hrel
          have hsz := hbr.size
          rcases hcase with ⟨rfl, hor⟩ | ⟨rfl, hor⟩ | ⟨rfl, hor⟩
          · have hr0 := (hbr.cell (p := ⟨q, 0, none⟩) hqs).trans HQ0.out
            have HC := Lib.hid (ints_cells (HX.out.kept hbr hb1))
            have HU := Lib.hid (ints_oneCell .i64 xs)
            have HOR := Lib.hid hor
            have HLn : Hid ((xs.map (Value.int .i64)).length = n1 * 1) := Lib.hid (by rw [List.length_map, Nat.mul_one]; exact HLX.out)
            clear hor
            go_wp2_with (first | (at_builtin; refine wpList_append_own _ rfl _ _ 22 rfl w.heap.size 3 i0 _ 1 8 Try.underlying22 hi hz0 hz1 hz2 rfl (by decide) _ 0 [] rfl HOR.out ⟨b1, o1, none⟩ n1 c1 _ rfl HLn.out HC.out HU.out ?c3 ?c4 ?c5 ?_))
            case c3 => unfold maxLen; omega
            case c4 => omega
            case c5 => first | omega | (simp; omega) | exact Nat.le_refl _
            intro v' w2 hown hgr _
            have hown1 : Own w.heap.size w2 v' xs := by
              unfold Own
              rw [← HLX.out] at hown
              exact hown
            have hblk : ∀ k, u6.ownBlock = some k → w.heap.size ≤ k := fun k hk => (World.ownsRow.lt HOR.out k hk).1
            have hbz := hbr.grown hgr (by omega) hblk
            clear hown hgr
            go_wp2
            go_roundw
            case rel => exact ⟨hbz, .inr (.inl ⟨by go_num, hown1⟩)⟩
            case measure => simp [intOf]
          · have hr1 := (hbr.cell (p := ⟨q, 1, none⟩) hqs).trans HQ1.out
            have HC := Lib.hid (ints_cells (HY.out.kept hbr hb2))
            have HU := Lib.hid (ints_oneCell .i64 ys)
            have HOR := Lib.hid hor
            have HLn : Hid ((ys.map (Value.int .i64)).length = n2 * 1) := Lib.hid (by rw [List.length_map, Nat.mul_one]; exact HLY.out)
            clear hor
            have hxl := HLX.out
            go_wp2_with (first | (at_builtin; refine wpList_append_own _ rfl _ _ 22 rfl w.heap.size 3 i0 _ 1 8 Try.underlying22 hi hz0 hz1 hz2 rfl (by decide) _ _ _ rfl HOR.out ⟨b2, o2, none⟩ n2 c2 _ rfl HLn.out HC.out HU.out ?c3 ?c4 ?c5 ?_))
            case c3 => unfold maxLen; omega
            case c4 => omega
            case c5 => first | omega | (simp; omega) | exact Nat.le_refl _
            intro v' w2 hown hgr _
            have hown1 : Own w.heap.size w2 v' (xs ++ ys) := by
              unfold Own
              rw [List.length_append, List.map_append, HLX.out, HLY.out]
              exact hown
            have hblk : ∀ k, u6.ownBlock = some k → w.heap.size ≤ k := fun k hk => (World.ownsRow.lt HOR.out k hk).1
            have hbz := hbr.grown hgr (by omega) hblk
            clear hown hgr
            go_wp2
            go_roundw
            case rel => exact ⟨hbz, .inr (.inr ⟨by go_num, hown1⟩)⟩
            case measure => simp [intOf]
          · have HOR := Lib.hid hor
            rcases hor.cases with ⟨rfl, hnil⟩ | ⟨g2, c2', rfl, _⟩
            · have := congrArg List.length hnil
              rw [List.length_append, HLX.out] at this
              simp at this; omega
            · clear hor
              go_wp2
              go_ret
              exact ⟨_, rfl, HOR.out, hbr⟩

/-- Two lists of births that are together not too many. -/
def jbB (xs ys : List Int) : Bool := bornB xs && bornB ys && decide (xs.length + ys.length ≤ 10)

set_option maxHeartbeats 1000000 in
theorem joinI_any (b1 n1 c1 b2 n2 c2 : Nat) (xs ys : List Int) (w : World) (hx : xs.length = n1) (hy : ys.length = n2) (hn1 : n1 ≤ 1048576) (hn2 : n2 ≤ 1048576) (hb1 : b1 < w.heap.size) (hb2 : b2 < w.heap.size) (hX : Ints w b1 0 xs) (hY : Ints w b2 0 ys) :
    Calls Try.prog 33 #[.slice (some ⟨b1, 0, none⟩) n1 c1, .slice (some ⟨b2, 0, none⟩) n2 c2] w (RetOwnB (if jbB xs ys = true then xs ++ ys else []) (jbB xs ys) w) := by
  have H1 := Lib.hid fun w hI => areBirths_any b1 0 n1 c1 xs w hx hn1 hI
  have H2 := Lib.hid fun w hI => areBirths_any b2 0 n2 c2 ys w hy hn2 hI
  have hjb : jbB xs ys = (bornB xs && bornB ys && decide (xs.length + ys.length ≤ 10)) := rfl
  have hl1 : bornB xs = true → 1 ≤ n1 := fun h => by have := bornB_len h; omega
  rw [hx, hy] at hjb
  generalize bornB xs = r1 at H1 hjb hl1
  generalize bornB ys = r2 at H2 hjb
  rcases r1 with _ | _
  · rw [hjb]
    go_enter Try.func33, Try.ntmps33
    go_wp2_with (first | (go_at_call 14; refine (H1.out _ hX).mono ?_; rintro e w' ⟨rfl, rfl⟩))
    go_ret2
    exact ⟨_, rfl, own_nil _ _, Below.refl _ _⟩
  · rcases r2 with _ | _
    · rw [hjb]
      go_enter Try.func33, Try.ntmps33
      go_wp2_with fail
      refine (H1.out _ hX).mono ?_
      rintro e w' ⟨rfl, rfl⟩
      go_wp2_with fail
      refine (H2.out _ hY).mono ?_
      rintro e w' ⟨rfl, rfl⟩
      go_wp2_with fail
      go_ret2
      exact ⟨_, rfl, own_nil _ _, Below.refl _ _⟩
    · by_cases h10 : n1 + n2 ≤ 10
      · rw [hjb, decide_eq_true h10]
        have h1 := hl1 rfl
        have h10' : ¬ ((10 : Int) < (n1 : Int) + (n2 : Int)) := by omega
        have HX := Lib.hid hX
        have HY := Lib.hid hY
        have HC := Lib.hid fun q w h0 h1' h2 h3 h4 h5 => concat_two q b1 0 n1 c1 b2 0 n2 c2 xs ys w hx hy h1 (by omega) (by omega) h0 h1' h2 h3 h4 h5
        simp only [Bool.and_self, if_true]
        generalize xs ++ ys = rs at HC ⊢
        go_enter Try.func33, Try.ntmps33
        go_wp2_with fail
        refine (H1.out _ hX).mono ?_
        rintro e w' ⟨rfl, rfl⟩
        go_wp2_with fail
        refine (H2.out _ hY).mono ?_
        rintro e w' ⟨rfl, rfl⟩
        clear hX hY
        go_wp2_with fail
        refine (HC.out _ _ (by simp) (by simp) (by simp; omega) (by simp; omega) (HX.out.kept ((Below.refl _ _).alloc (Nat.le_refl _) _) hb1) (HY.out.kept ((Below.refl _ _).alloc (Nat.le_refl _) _) hb2)).mono ?_
        rintro e w1 ⟨v, rfl, ho, hb⟩
        have HB := Lib.hid (((Below.refl w.heap.size w).alloc (Nat.le_refl _) _).trans (hb.mono (by simp)))
        have HO := Lib.hid (ho.mono (B' := w.heap.size) (by simp))
        rcases ho.cases with ⟨rfl, _⟩ | ⟨g, c, rfl, _⟩
        all_goals
          clear ho hb
          go_wp2
          go_ret2
          exact ⟨_, rfl, HO.out, HB.out⟩
      · rw [hjb, decide_eq_false h10]
        have h10' : (10 : Int) < (n1 : Int) + (n2 : Int) := by omega
        go_enter Try.func33, Try.ntmps33
        go_wp2_with fail
        refine (H1.out _ hX).mono ?_
        rintro e w' ⟨rfl, rfl⟩
        go_wp2_with fail
        refine (H2.out _ hY).mono ?_
        rintro e w' ⟨rfl, rfl⟩
        go_wp2_with fail
        go_ret2
        exact ⟨_, rfl, own_nil _ _, Below.refl _ _⟩

set_option maxHeartbeats 1000000 in
theorem joinS_any (b1 n1 c1 b2 n2 c2 : Nat) (xs ys : List Int) (w : World) (hx : xs.length = n1) (hy : ys.length = n2) (hn1 : n1 ≤ 1048576) (hn2 : n2 ≤ 1048576) (hb1 : b1 < w.heap.size) (hb2 : b2 < w.heap.size) (hX : Ints w b1 0 xs) (hY : Ints w b2 0 ys) :
    Calls Try.prog 32 #[.slice (some ⟨b1, 0, none⟩) n1 c1, .slice (some ⟨b2, 0, none⟩) n2 c2] w (RetOwnB (if jbB xs ys = true then xs ++ ys else []) (jbB xs ys) w) := by
  obtain ⟨i0, hi, hz0, hz1, hz2⟩ := info_parts infoInt
  have H1 := Lib.hid fun w hI => roBorn_any b1 0 n1 c1 xs w hx hn1 hI
  have H2 := Lib.hid fun w hI => roBorn_any b2 0 n2 c2 ys w hy hn2 hI
  have hjb : jbB xs ys = (bornB xs && bornB ys && decide (xs.length + ys.length ≤ 10)) := rfl
  have hl1 : bornB xs = true → 1 ≤ n1 := fun h => by have := bornB_len h; omega
  rw [hx, hy] at hjb
  generalize bornB xs = r1 at H1 hjb hl1
  generalize bornB ys = r2 at H2 hjb
  rcases r1 with _ | _
  · rw [hjb]
    go_enter Try.func32, Try.ntmps32
    go_wp2_with (first | (go_at_call 34; refine (H1.out _ hX).mono ?_; rintro e w' ⟨rfl, rfl⟩))
    go_ret2
    exact ⟨_, rfl, own_nil _ _, Below.refl _ _⟩
  · rcases r2 with _ | _
    · rw [hjb]
      go_enter Try.func32, Try.ntmps32
      go_wp2_with fail
      refine (H1.out _ hX).mono ?_
      rintro e w' ⟨rfl, rfl⟩
      go_wp2_with fail
      refine (H2.out _ hY).mono ?_
      rintro e w' ⟨rfl, rfl⟩
      go_wp2_with fail
      go_ret2
      exact ⟨_, rfl, own_nil _ _, Below.refl _ _⟩
    · by_cases h10 : n1 + n2 ≤ 10
      · rw [hjb, decide_eq_true h10]
        have h1 := hl1 rfl
        have h10' : ¬ ((10 : Int) < (n1 : Int) + (n2 : Int)) := by omega
        have HX := Lib.hid hX
        have HY := Lib.hid hY
        have HC := Lib.hid fun w (hI : Ints w b1 0 xs) hb => own_any b1 0 c1 xs w (by omega) hb hI
        rw [hx] at HC
        simp only [Bool.and_self, if_true]
        have HXL := Lib.hid hx
        have HYL := Lib.hid hy
        clear hjb hx hy
        go_enter Try.func32, Try.ntmps32
        go_wp2_with fail
        refine (H1.out _ hX).mono ?_
        rintro e w' ⟨rfl, rfl⟩
        go_wp2_with fail
        refine (H2.out _ hY).mono ?_
        rintro e w' ⟨rfl, rfl⟩
        clear hX hY
        go_wp2_with fail
        refine (HC.out _ HX.out hb1).mono ?_
        rintro e w1 ⟨v, rfl, ho, hb⟩
        have HB := Lib.hid hb
        have HO := Lib.hid ho
        have hcs : ∃ g c, v = .slice (some ⟨g, 0, none⟩) n1 c ∧ w.heap.size ≤ g := by
          rcases ho.cases with ⟨_, h⟩ | ⟨g, c, h, hg, _⟩
          · have := HXL.out; rw [h] at this; simp at this; omega
          · exact ⟨g, c, by rw [← HXL.out]; exact h, hg⟩
        obtain ⟨g, c, rfl, hgw⟩ := hcs
        have HCC := Lib.hid (ints_cells (HY.out.kept hb hb2))
        have HU := Lib.hid (ints_oneCell .i64 ys)
        have HLn : Hid ((ys.map (Value.int .i64)).length = n2 * 1) := Lib.hid (by rw [List.length_map, Nat.mul_one]; exact HYL.out)
        have HO2 : Hid (w1.ownsRow w.heap.size 3 1 (.slice (some ⟨g, 0, none⟩) n1 c) n1 (xs.map (Value.int .i64))) := Lib.hid (by have := HO.out; unfold Own at this; rw [HXL.out] at this; exact this)
        clear ho hb
        go_wp2_with (first | (at_builtin; refine wpList_append_own _ rfl _ _ 22 rfl w.heap.size 3 i0 _ 1 8 Try.underlying22 hi hz0 hz1 hz2 rfl (by decide) _ _ _ rfl HO2.out ⟨b2, 0, none⟩ n2 c2 _ rfl HLn.out HCC.out HU.out ?c3 ?c4 ?c5 ?_))
        case c3 => unfold maxLen; omega
        case c4 => omega
        case c5 => have := HB.out.size; first | omega | (simp; omega) | exact Nat.le_refl _
        intro v' w2 hown hgr _
        have hown1 : Own w.heap.size w2 v' (xs ++ ys) := by
          unfold Own
          rw [List.length_append, List.map_append, HYL.out, HXL.out]
          exact hown
        have hbz := HB.out.grown hgr HB.out.size (by intro k hk; simp [Value.ownBlock] at hk; omega)
        have HW := Lib.hid hown1
        have HBZ := Lib.hid hbz
        rcases hown1.cases with ⟨_, hnil⟩ | ⟨g3, c3, rfl, _⟩
        · have := congrArg List.length hnil
          rw [List.length_append, HXL.out] at this
          simp at this; omega
        · clear hown1 hown hgr hbz
          go_wp2
          go_ret2
          exact ⟨_, rfl, HW.out, HBZ.out⟩
      · rw [hjb, decide_eq_false h10]
        have h10' : (10 : Int) < (n1 : Int) + (n2 : Int) := by omega
        go_enter Try.func32, Try.ntmps32
        go_wp2_with fail
        refine (H1.out _ hX).mono ?_
        rintro e w' ⟨rfl, rfl⟩
        go_wp2_with fail
        refine (H2.out _ hY).mono ?_
        rintro e w' ⟨rfl, rfl⟩
        go_wp2_with fail
        go_ret2
        exact ⟨_, rfl, own_nil _ _, Below.refl _ _⟩

theorem join_both (xs ys : List Int) : ∃ rs ok, rs.length ≤ 1048576 ∧
    (∀ b1 c1 b2 c2 w, xs.length ≤ 1048576 → ys.length ≤ 1048576 → b1 < w.heap.size → b2 < w.heap.size → Ints w b1 0 xs → Ints w b2 0 ys → Calls Try.prog 32 #[.slice (some ⟨b1, 0, none⟩) xs.length c1, .slice (some ⟨b2, 0, none⟩) ys.length c2] w (RetOwnB rs ok w)) ∧
    (∀ b1 c1 b2 c2 w, xs.length ≤ 1048576 → ys.length ≤ 1048576 → b1 < w.heap.size → b2 < w.heap.size → Ints w b1 0 xs → Ints w b2 0 ys → Calls Try.prog 33 #[.slice (some ⟨b1, 0, none⟩) xs.length c1, .slice (some ⟨b2, 0, none⟩) ys.length c2] w (RetOwnB rs ok w)) := by
  refine ⟨_, _, ?_, fun b1 c1 b2 c2 w h1 h2 h3 h4 h5 h6 => joinS_any b1 _ c1 b2 _ c2 xs ys w rfl rfl h1 h2 h3 h4 h5 h6, fun b1 c1 b2 c2 w h1 h2 h3 h4 h5 h6 => joinI_any b1 _ c1 b2 _ c2 xs ys w rfl rfl h1 h2 h3 h4 h5 h6⟩
  split
  · rename_i h
    unfold jbB at h
    rw [Bool.and_eq_true, decide_eq_true_eq] at h
    rw [List.length_append]; omega
  · simp
end Go.Proofs.Ytadfojjglceheaa
