/- The birthdays of all, day by day: both texts. -/
import Derived.Test.YtbhceokapbnhhaaIb1
import Derived.Test.YtbhceokapbnhhaaRowsAdd
import Derived.Test.YtbhceokapbnhhaaDateRows
set_option linter.unusedVariables false
set_option linter.unusedSimpArgs false
namespace Go.Proofs.Ytbhceokapbnhhaa
open Go.RowKit

/-- A day and the people among the first k who have their birthday on it. -/
def rowTo (ds : List Dt) (day : Int) : Nat → List Int
  | 0 => [day]
  | k + 1 => if (at2 ds k).2 = day then rowTo ds day k ++ [(k : Int)] else rowTo ds day k
theorem rowTo_len (ds : List Dt) (day : Int) : ∀ k, 1 ≤ (rowTo ds day k).length ∧ (rowTo ds day k).length ≤ k + 1
  | 0 => by simp [rowTo]
  | k + 1 => by
    have := rowTo_len ds day k
    unfold rowTo
    split
    · rw [List.length_append]; simp; omega
    · omega
theorem rowTo_yes {ds : List Dt} {day : Int} {k : Nat} (h : (at2 ds k).2 = day) : rowTo ds day (k + 1) = rowTo ds day k ++ [(k : Int)] := by rw [rowTo, if_pos h]
theorem rowTo_no {ds : List Dt} {day : Int} {k : Nat} (h : ¬ (at2 ds k).2 = day) : rowTo ds day (k + 1) = rowTo ds day k := by rw [rowTo, if_neg h]
/-- The rows of the first m days. -/
def bdTo (ds : List Dt) : Nat → List (List Int)
  | 0 => []
  | m + 1 => if 1 < (rowTo ds ((m : Int) + 1) ds.length).length then bdTo ds m ++ [rowTo ds ((m : Int) + 1) ds.length] else bdTo ds m
theorem bdTo_len (ds : List Dt) : ∀ m, (bdTo ds m).length ≤ m
  | 0 => by simp [bdTo]
  | m + 1 => by
    have := bdTo_len ds m
    unfold bdTo
    split
    · rw [List.length_append]; simp; omega
    · omega
theorem bdTo_row (ds : List Dt) : ∀ m, ∀ r ∈ bdTo ds m, r.length ≤ ds.length + 1
  | 0, r, h => by simp [bdTo] at h
  | m + 1, r, h => by
    unfold bdTo at h
    split at h
    · rcases List.mem_append.1 h with h | h
      · exact bdTo_row ds m r h
      · simp at h; subst h; exact (rowTo_len ds _ _).2
    · exact bdTo_row ds m r h
def bdR (ds : List Dt) : List (List Int) := if birthsB ds = true then bdTo ds 365 else []
theorem bdR_small (ds : List Dt) : Small (bdR ds) := by
  unfold bdR
  split
  · have h8 := birthsB_len ‹_›
    refine ⟨by have := bdTo_len ds 365; omega, fun i hi => ?_⟩
    have hm : (bdTo ds 365).getD i [] ∈ bdTo ds 365 := by
      have e : (bdTo ds 365).getD i [] = (bdTo ds 365)[i] := by simp [List.getElem?_eq_getElem hi]
      rw [e]; exact List.getElem_mem hi
    have := bdTo_row ds 365 _ hm
    omega
  · exact ⟨by simp, fun i hi => by simp at hi⟩
theorem bd_yes1 {ds : List Dt} {m : Nat} (h : 1 < (rowTo ds ((m : Int) + 1) ds.length).length) : bdTo ds (m + 1) = bdTo ds m ++ [rowTo ds ((m : Int) + 1) ds.length] := by rw [bdTo, if_pos h]
theorem bd_no1 {ds : List Dt} {m : Nat} (h : ¬ 1 < (rowTo ds ((m : Int) + 1) ds.length).length) : bdTo ds (m + 1) = bdTo ds m := by rw [bdTo, if_neg h]
theorem own_shape1 {B : Nat} {w : World} {v : Value} {zs : List Int} (h : Own B w v zs) : ∃ p c, v = .slice p zs.length c := by
  rcases h.2 with ⟨h1, h2⟩ | ⟨g, cap, cur, h1, -⟩
  · exact ⟨none, 0, by rw [h1, h2]⟩
  · exact ⟨_, _, h1⟩
theorem ret_bd {ds : List Dt} {w w' : World} {v : Value} {vs : List Value} {rss : List (List Int)} {t : Bool} (hB : birthsB ds = t) (hR : bdR ds = rss) (ho : OwnSS w.heap.size w'.heap.size w' v vs rss) (hb : Below w.heap.size w w') :
    RetSSB (bdR ds) (birthsB ds) w (.returned (.tuple #[v, .bool t])) w' := by
  rw [hB, hR]; exact ⟨v, vs, rfl, ho, hb⟩
theorem below_pushB {B : Nat} {w wr w1 : World} {v : Value} {zs : List Int} {o : Obj} (hb : Below B w wr) (hB : B ≤ wr.heap.size) (h : Own B wr v zs) (hg : (wr.alloc o).grownBy w1 v.ownBlock) : Below B w w1 :=
  (hb.alloc hB o).grown hg (by simp; omega) fun k hk => (World.ownsRow.lt h k hk).1

set_option maxHeartbeats 8000000 in
set_option maxRecDepth 100000 in
theorem specBirthdaysOf_any (b off n c : Nat) (ds : List Dt) (w : World) (hl : ds.length = n) (hI : Dts w b off ds) (hbl : b < w.heap.size) :
    Calls Try.prog 38 #[.slice (some ⟨b, off, none⟩) n c] w (RetSSB (bdR ds) (birthsB ds) w) := by
  obtain ⟨i0, hi, hz0, hz1, hz2⟩ := info_parts infoInt
  obtain ⟨j0, gi, gz0, gz1, gz2⟩ := info_parts infoSlice
  have HB0 := fun (W : World) (h : Dts W b off ds) (h2 : b < W.heap.size) => biGood_any b off n c ds W hl h h2
  have HL := Lib.hid hl
  cases h : birthsB ds with
  | false =>
    have HE := Lib.hid (show bdR ds = [] by unfold bdR; rw [h]; rfl)
    have HF := Lib.hid h
    rw [h] at HB0
    rw [← h]
    have HB := Lib.hid HB0
    clear HB0 h hl
    go_enter Try.func38, Try.ntmps38
    go_wp2_with (first | (go_at_call 45; refine (HB.out _ hI hbl).mono ?_; rintro e w3 ⟨rfl, hbw⟩))
    go_ret2
    exact ret_bd HF.out HE.out (ownSS_nil _ _ _) hbw
  | true =>
    have h8 := birthsB_len h
    rw [hl] at h8
    have HE := Lib.hid (show bdR ds = bdTo ds 365 by unfold bdR; rw [h]; rfl)
    have HF := Lib.hid h
    rw [h] at HB0
    rw [← h]
    have HB := Lib.hid HB0
    clear HB0 h hl
    go_enter Try.func38, Try.ntmps38
    go_wp2_with (first | (go_at_call 45; refine (HB.out _ hI hbl).mono ?_; rintro e w3 ⟨rfl, hbw⟩))
    have hsz3 := hbw.size
    have HBW := Lib.hid hbw
    clear hbw
    go_loopw [4, 5] (fun v i wr => ∃ (m : Nat) (vs : List Value), m ≤ 365 ∧ i = .int .i64 ((m : Int) + 1) ∧ OwnSS w.heap.size wr.heap.size wr v vs (bdTo ds m) ∧ Below w.heap.size w wr) (fun _ i _ => 366 - (intOf i).toNat)
    case atStart => exact ⟨0, [], Nat.zero_le _, by go_num, ownSS_nil _ _ _, HBW.out⟩
    case round =>
      obtain ⟨m, vs, hm, rfl, ho, hb⟩ := hrel
      have hsz := hb.size
      have hml := bdTo_len ds m
      have hvl := ho.len
      rw [← hvl] at hml
      clear hvl
      by_cases hlt : m < 365
      · have hd1 : (m : Int) + 1 ≤ 365 := by omega
        have HO := Lib.hid ho
        clear ho
        have HD : Hid (∀ k, k ≤ n → (rowTo ds ((m : Int) + 1) k).length ≤ k + 1) := Lib.hid (fun k _ => (rowTo_len ds _ k).2)
        have HR0 := Lib.hid (show rowTo ds ((m : Int) + 1) 0 = [(m : Int) + 1] from rfl)
        have HY := Lib.hid (fun k => @rowTo_yes ds ((m : Int) + 1) k)
        have HN := Lib.hid (fun k => @rowTo_no ds ((m : Int) + 1) k)
        have HBY := Lib.hid (@bd_yes1 ds m)
        have HBN := Lib.hid (@bd_no1 ds m)
        rw [HL.out] at HBY HBN
        have hd2 : Hid ((m : Int) + 1 ≤ 365 ∧ 1 ≤ (m : Int) + 1) := Lib.hid (by omega)
        go_wp2_with fail
        obtain ⟨wo, rfl⟩ : ∃ wo : World, wo = wr := ⟨_, rfl⟩
        have hlit := World.ownsRow_lit (base := wo.heap.size) (size := 1) (e := 3) wo #[.int .i64 ((m : Int) + 1)] 1 (Nat.le_refl _) (by unfold maxLen; omega) rfl
        go_loopw [6, 20] (fun s v wi => ∃ k : Nat, k ≤ n ∧ v = .int .i64 k ∧ Own wo.heap.size wi s (rowTo ds ((m : Int) + 1) k) ∧ Below wo.heap.size wo wi) (fun _ v _ => n - (intOf v).toNat)
        case atStart => exact ⟨0, Nat.zero_le _, rfl, hlit, (Below.refl _ _).alloc (Nat.le_refl _) _⟩
        case round =>
          obtain ⟨k, hk, rfl, ho, hbi⟩ := hrel
          have hszi := hbi.size
          have hbz := hb.trans (hbi.mono hsz)
          have hrl := HD.out k hk
          obtain ⟨pp, cc, rfl⟩ := own_shape1 ho
          by_cases hkn : k < n
          · obtain ⟨p1, p2⟩ := (hI.kept hbz hbl) k (by rw [HL.out]; exact hkn)
            have hyy := HY.out k
            have hnn := HN.out k
            generalize (at2 ds k).1 = ye at p1
            by_cases hday : (at2 ds k).2 = (m : Int) + 1
            · have HS := Lib.hid (hyy hday)
              rw [hday] at p2
              clear hyy hnn hday
              generalize hrr : rowTo ds ((m : Int) + 1) k = rr at *
              clear hrr
              go_wp2_with (first | (at_builtin; refine wpList_append_own _ rfl _ _ 31 rfl wo.heap.size 3 i0 (.int .i64 0) 1 8 Try.underlying31 hi hz0 hz1 hz2 rfl (by decide) _ _ _ rfl (World.ownsRow.alloc (World.ownsRow.alloc ho _) _) ⟨wr.heap.size + 1, 0, none⟩ 1 1 [.int .i64 (k : Int)] rfl rfl (newCellAt _ _ _ _ (by simp)) (oneInt _) ?c3 ?c4 ?c5 ?_))
              case c3 => unfold maxLen; omega
              case c4 => omega
              case c5 => first | omega | (simp; omega)
              intro v' w1 hown' hgrow _
              have hb1 := below_pushB (hbi.alloc hszi _) (by simp; omega) (World.ownsRow.alloc ho _) hgrow
              have ho1 := own_push hown'
              rw [← HS.out] at ho1
              clear hown' hgrow
              go_wp2_with fail
              go_roundw
              case rel => exact ⟨k + 1, by omega, by go_num, ho1, hb1⟩
              case measure => simp [intOf]; omega
            · have HS := Lib.hid (hnn hday)
              generalize (at2 ds k).2 = de at p2 hday
              clear hyy hnn
              go_wp2_with fail
              go_roundw
              case rel => exact ⟨k + 1, by omega, by go_num, by rw [HS.out]; exact World.ownsRow.alloc ho _, hbi.alloc hszi _⟩
              case measure => simp [intOf]; omega
          · have hkn2 : k = n := by omega
            subst hkn2
            have hoo := HO.out.keep (w' := wr) (fun q _ h2 => hbi.block q h2)
            have hR1 := (rowTo_len ds ((m : Int) + 1) k).1
            by_cases h1 : 1 < (rowTo ds ((m : Int) + 1) k).length
            · have HS := Lib.hid (HBY.out h1)
              have hgt : (1 : Int) < ((rowTo ds ((m : Int) + 1) k).length : Int) := by omega
              have HOO := Lib.hid hoo
              have hone := oneU ho
              clear hoo
              generalize hrr : rowTo ds ((m : Int) + 1) k = rr at *
              clear hrr
              go_wp2_with (first | (at_builtin; refine wpList_append_own _ rfl _ _ 51 rfl w.heap.size 31 j0 _ 1 24 Try.underlying51 gi gz0 gz1 gz2 rfl (by decide) _ _ _ rfl (World.ownsRow.alloc HOO.out.outer _) ⟨wr.heap.size, 0, none⟩ 1 1 [.slice pp rr.length cc] rfl rfl (newCell _ _ _) hone ?c3 ?c4 ?c5 ?_))
              case c3 => unfold maxLen; omega
              case c4 => omega
              case c5 => first | omega | (simp; omega)
              intro v' w1 hown' hgrow _
              have hp := OwnSS.pushRow HOO.out hsz hszi ho hown' hgrow
              rw [← HS.out] at hp
              have hb1 := (hbz.alloc hbz.size _).grown hgrow (by have := hbz.size; simp; omega) (fun q hq => (World.ownsRow.lt HOO.out.outer q hq).1)
              clear hown' hgrow
              go_wp2_with fail
              go_roundw
              case rel => exact ⟨m + 1, _, by omega, by go_num, hp, hb1⟩
              case measure => simp [intOf]; omega
            · have HS := Lib.hid (HBN.out h1)
              have hgt : ¬ (1 : Int) < ((rowTo ds ((m : Int) + 1) k).length : Int) := by omega
              go_wp2_with fail
              go_roundw
              case rel => exact ⟨m + 1, vs, by omega, by go_num, by rw [HS.out]; exact ⟨hoo.len, hoo.outer, fun g hg => Nat.lt_of_lt_of_le (hoo.obl g hg) hszi, hoo.row, fun i hi g hg => Nat.lt_of_lt_of_le (hoo.rbl i hi g hg) hszi, hoo.apart⟩, hbz⟩
              case measure => simp [intOf]; omega
      · obtain rfl : m = 365 := by omega
        have HO := Lib.hid ho
        clear ho
        have hd1 : ¬ ((365 : Nat) : Int) + 1 ≤ 365 := by omega
        go_wp2_with fail
        go_ret2
        exact ret_bd HF.out HE.out HO.out hb

set_option maxHeartbeats 8000000 in
set_option maxRecDepth 100000 in
theorem imBirthdaysOf_any (b off n c : Nat) (ds : List Dt) (w : World) (hl : ds.length = n) (hI : Dts w b off ds) (hbl : b < w.heap.size) :
    Calls Try.prog 39 #[.slice (some ⟨b, off, none⟩) n c] w (RetSSB (bdR ds) (birthsB ds) w) := by
  obtain ⟨i0, hi, hz0, hz1, hz2⟩ := info_parts infoInt
  obtain ⟨j0, gi, gz0, gz1, gz2⟩ := info_parts infoSlice
  have HB0 := fun (W : World) (h : Dts W b off ds) (h2 : b < W.heap.size) => imBirths_any b off n c ds W hl h h2
  have HL := Lib.hid hl
  cases h : birthsB ds with
  | false =>
    have HE := Lib.hid (show bdR ds = [] by unfold bdR; rw [h]; rfl)
    have HF := Lib.hid h
    rw [h] at HB0
    rw [← h]
    have HB := Lib.hid HB0
    clear HB0 h hl
    go_enter Try.func39, Try.ntmps39
    go_wp2_with (first | (go_at_call 16; refine (HB.out _ hI hbl).mono ?_; rintro e w3 ⟨rfl, hbw⟩))
    go_ret2
    exact ret_bd HF.out HE.out (ownSS_nil _ _ _) hbw
  | true =>
    have h8 := birthsB_len h
    rw [hl] at h8
    have HE := Lib.hid (show bdR ds = bdTo ds 365 by unfold bdR; rw [h]; rfl)
    have HF := Lib.hid h
    rw [h] at HB0
    rw [← h]
    have HB := Lib.hid HB0
    clear HB0 h hl
    go_enter Try.func39, Try.ntmps39
    go_wp2_with (first | (go_at_call 16; refine (HB.out _ hI hbl).mono ?_; rintro e w3 ⟨rfl, hbw⟩))
    have hsz3 := hbw.size
    have HBW := Lib.hid hbw
    clear hbw
    go_loopw [4, 5] (fun v i wr => ∃ (m : Nat) (vs : List Value), m ≤ 365 ∧ i = .int .i64 ((m : Int) + 1) ∧ OwnSS w.heap.size wr.heap.size wr v vs (bdTo ds m) ∧ Below w.heap.size w wr) (fun _ i _ => 366 - (intOf i).toNat)
    case atStart => exact ⟨0, [], Nat.zero_le _, by go_num, ownSS_nil _ _ _, HBW.out⟩
    case round =>
      obtain ⟨m, vs, hm, rfl, ho, hb⟩ := hrel
      have hsz := hb.size
      have hml := bdTo_len ds m
      have hvl := ho.len
      rw [← hvl] at hml
      clear hvl
      by_cases hlt : m < 365
      · have hd1 : (m : Int) + 1 ≤ 365 := by omega
        have HO := Lib.hid ho
        clear ho
        have HD : Hid (∀ k, k ≤ n → (rowTo ds ((m : Int) + 1) k).length ≤ k + 1) := Lib.hid (fun k _ => (rowTo_len ds _ k).2)
        have HR0 := Lib.hid (show rowTo ds ((m : Int) + 1) 0 = [(m : Int) + 1] from rfl)
        have HY := Lib.hid (fun k => @rowTo_yes ds ((m : Int) + 1) k)
        have HN := Lib.hid (fun k => @rowTo_no ds ((m : Int) + 1) k)
        have HBY := Lib.hid (@bd_yes1 ds m)
        have HBN := Lib.hid (@bd_no1 ds m)
        rw [HL.out] at HBY HBN
        have hd2 : Hid ((m : Int) + 1 ≤ 365 ∧ 1 ≤ (m : Int) + 1) := Lib.hid (by omega)
        go_wp2_with fail
        obtain ⟨wo, rfl⟩ : ∃ wo : World, wo = wr := ⟨_, rfl⟩
        have hlit := World.ownsRow_lit (base := wo.heap.size) (size := 1) (e := 3) wo #[.int .i64 ((m : Int) + 1)] 1 (Nat.le_refl _) (by unfold maxLen; omega) rfl
        go_loopw [6, 20] (fun s v wi => ∃ k : Nat, k ≤ n ∧ v = .int .i64 k ∧ Own wo.heap.size wi s (rowTo ds ((m : Int) + 1) k) ∧ Below wo.heap.size wo wi) (fun _ v _ => n - (intOf v).toNat)
        case atStart => exact ⟨0, Nat.zero_le _, rfl, hlit, (Below.refl _ _).alloc (Nat.le_refl _) _⟩
        case round =>
          obtain ⟨k, hk, rfl, ho, hbi⟩ := hrel
          have hszi := hbi.size
          have hbz := hb.trans (hbi.mono hsz)
          have hrl := HD.out k hk
          obtain ⟨pp, cc, rfl⟩ := own_shape1 ho
          by_cases hkn : k < n
          · obtain ⟨p1, p2⟩ := (hI.kept hbz hbl) k (by rw [HL.out]; exact hkn)
            have hyy := HY.out k
            have hnn := HN.out k
            generalize (at2 ds k).1 = ye at p1
            by_cases hday : (at2 ds k).2 = (m : Int) + 1
            · have HS := Lib.hid (hyy hday)
              rw [hday] at p2
              clear hyy hnn hday
              generalize hrr : rowTo ds ((m : Int) + 1) k = rr at *
              clear hrr
              go_wp2_with (first | (at_builtin; refine wpList_append_own _ rfl _ _ 31 rfl wo.heap.size 3 i0 (.int .i64 0) 1 8 Try.underlying31 hi hz0 hz1 hz2 rfl (by decide) _ _ _ rfl (World.ownsRow.alloc (World.ownsRow.alloc ho _) _) ⟨wr.heap.size + 1, 0, none⟩ 1 1 [.int .i64 (k : Int)] rfl rfl (newCellAt _ _ _ _ (by simp)) (oneInt _) ?c3 ?c4 ?c5 ?_))
              case c3 => unfold maxLen; omega
              case c4 => omega
              case c5 => first | omega | (simp; omega)
              intro v' w1 hown' hgrow _
              have hb1 := below_pushB (hbi.alloc hszi _) (by simp; omega) (World.ownsRow.alloc ho _) hgrow
              have ho1 := own_push hown'
              rw [← HS.out] at ho1
              clear hown' hgrow
              go_wp2_with fail
              go_roundw
              case rel => exact ⟨k + 1, by omega, by go_num, ho1, hb1⟩
              case measure => simp [intOf]; omega
            · have HS := Lib.hid (hnn hday)
              generalize (at2 ds k).2 = de at p2 hday
              clear hyy hnn
              go_wp2_with fail
              go_roundw
              case rel => exact ⟨k + 1, by omega, by go_num, by rw [HS.out]; exact World.ownsRow.alloc ho _, hbi.alloc hszi _⟩
              case measure => simp [intOf]; omega
          · have hkn2 : k = n := by omega
            subst hkn2
            have hoo := HO.out.keep (w' := wr) (fun q _ h2 => hbi.block q h2)
            have hR1 := (rowTo_len ds ((m : Int) + 1) k).1
            by_cases h1 : 1 < (rowTo ds ((m : Int) + 1) k).length
            · have HS := Lib.hid (HBY.out h1)
              have hgt : (1 : Int) < ((rowTo ds ((m : Int) + 1) k).length : Int) := by omega
              have HOO := Lib.hid hoo
              have hone := oneU ho
              clear hoo
              generalize hrr : rowTo ds ((m : Int) + 1) k = rr at *
              clear hrr
              go_wp2_with (first | (at_builtin; refine wpList_append_own _ rfl _ _ 51 rfl w.heap.size 31 j0 _ 1 24 Try.underlying51 gi gz0 gz1 gz2 rfl (by decide) _ _ _ rfl (World.ownsRow.alloc HOO.out.outer _) ⟨wr.heap.size, 0, none⟩ 1 1 [.slice pp rr.length cc] rfl rfl (newCell _ _ _) hone ?c3 ?c4 ?c5 ?_))
              case c3 => unfold maxLen; omega
              case c4 => omega
              case c5 => first | omega | (simp; omega)
              intro v' w1 hown' hgrow _
              have hp := OwnSS.pushRow HOO.out hsz hszi ho hown' hgrow
              rw [← HS.out] at hp
              have hb1 := (hbz.alloc hbz.size _).grown hgrow (by have := hbz.size; simp; omega) (fun q hq => (World.ownsRow.lt HOO.out.outer q hq).1)
              clear hown' hgrow
              go_wp2_with fail
              go_roundw
              case rel => exact ⟨m + 1, _, by omega, by go_num, hp, hb1⟩
              case measure => simp [intOf]; omega
            · have HS := Lib.hid (HBN.out h1)
              have hgt : ¬ (1 : Int) < ((rowTo ds ((m : Int) + 1) k).length : Int) := by omega
              go_wp2_with fail
              go_roundw
              case rel => exact ⟨m + 1, vs, by omega, by go_num, by rw [HS.out]; exact ⟨hoo.len, hoo.outer, fun g hg => Nat.lt_of_lt_of_le (hoo.obl g hg) hszi, hoo.row, fun i hi g hg => Nat.lt_of_lt_of_le (hoo.rbl i hi g hg) hszi, hoo.apart⟩, hbz⟩
              case measure => simp [intOf]; omega
      · obtain rfl : m = 365 := by omega
        have HO := Lib.hid ho
        clear ho
        have hd1 : ¬ ((365 : Nat) : Int) + 1 ≤ 365 := by omega
        go_wp2_with fail
        go_ret2
        exact ret_bd HF.out HE.out HO.out hb

theorem birthdaysOf_both (ds : List Dt) : ∃ rss ok, Small rss ∧
    (∀ b c w, ds.length ≤ 1048576 → b < w.heap.size → Dts w b 0 ds → Calls Try.prog 38 #[.slice (some ⟨b, 0, none⟩) ds.length c] w (RetSSB rss ok w)) ∧
    (∀ b c w, ds.length ≤ 1048576 → b < w.heap.size → Dts w b 0 ds → Calls Try.prog 39 #[.slice (some ⟨b, 0, none⟩) ds.length c] w (RetSSB rss ok w)) :=
  ⟨_, _, bdR_small ds, fun b c w _ hb h => specBirthdaysOf_any b 0 ds.length c ds w rfl h hb, fun b c w _ hb h => imBirthdaysOf_any b 0 ds.length c ds w rfl h hb⟩
end Go.Proofs.Ytbhceokapbnhhaa
