/- The text of births, of the program, and both texts. -/
import Derived.Test.YtmidobhfahpkcabDoorRDTxM
import Derived.Test.YtmidobhfahpkcabDoorCh
set_option linter.unusedVariables false
set_option linter.unusedSimpArgs false
namespace Go.Proofs.YtmidobhfahpkcabDoor
open Go.RowKit

theorem infoStr : (Tryd.prog.info? 9).map (fun i => (i.zero, i.size, i.bytes)) = some (some (.string ByteArray.empty), 1, 16) := by kernel_rfl
/-- The first k texts are written, the others still empty. -/
def fillS (ds : List Dt) (k n : Nat) : List Value := (ds.take k).map (fun p => .string (wordB p)) ++ List.replicate (n - k) (.string ByteArray.empty)
theorem fillS_zero (ds : List Dt) (n : Nat) : (madeCells #[Value.string ByteArray.empty] n).toList = fillS ds 0 n := by
  rw [toList_madeCells_one]; simp [fillS]
theorem fillS_len (ds : List Dt) (k n : Nat) (h : ds.length = n) (hk : k ≤ n) : (fillS ds k n).length = n := by simp [fillS]; omega
theorem fillS_some (ds : List Dt) (k n : Nat) (h : ds.length = n) (hk : k < n) : ∃ u, (fillS ds k n)[k]? = some u :=
  ⟨_, List.getElem?_eq_getElem (by rw [fillS_len ds k n h (by omega)]; exact hk)⟩
theorem fillS_step (ds : List Dt) (k n : Nat) (h : ds.length = n) (hk : k < n) : (fillS ds k n).set k (.string (wordB (at2 ds k))) = fillS ds (k + 1) n := by
  have e : n - k = (n - (k + 1)) + 1 := by omega
  have hl : ((ds.take k).map (fun p => Value.string (wordB p))).length = k := by simp; omega
  unfold fillS
  rw [e, List.replicate_succ, List.set_append, hl, if_neg (by omega), Nat.sub_self, List.set_cons_zero, take_one_more (by omega), List.map_append]
  simp
theorem fillS_at (ds : List Dt) (n : Nat) (h : ds.length = n) (j : Nat) (hj : j < n) : (fillS ds n n)[j]? = some (.string (wordB (at2 ds j))) := by
  subst h
  simp [fillS, at2, List.getElem?_eq_getElem hj]
theorem join_text (g n c : Nat) (ds : List Dt) (w : World) (hl : ds.length = n) (hg : chB ds = true) (hgs : g < w.heap.size) (hcn : n ≤ c) (hc : ∀ j, j < n → w.cell? ⟨g, j, none⟩ = some (.string (wordB (at2 ds j)))) :
    Calls Tryd.prog 19 #[.slice (some ⟨g, 0, none⟩) n c, .string { data := #[44] }] w (RetS (text ds) w) := by
  have hm : (ds.map wordB).map (fun b : ByteArray => b.data.toList) = wordsL ds := by
    unfold wordsL wordB
    rw [List.map_map]
    rfl
  have hlen := (text_le71 hg).1
  have h8 := chB_len hg
  have hj : (Lib.join ((ds.map wordB).map (fun b : ByteArray => b.data.toList)) [44]).length ≤ 140737488355328 := by
    rw [hm]
    have : (text ds).size = (Lib.join (wordsL ds) [44]).length := by rw [Lib.size_eq]; simp [text, textL]
    omega
  have hn : (ds.map wordB).length = n := by simpa using hl
  have h := strings_Join g 0 c (ds.map wordB) { data := #[44] } w (fun j x hx => by
    have hjn : j < n := by rw [← hn]; exact (List.getElem?_eq_some_iff.1 hx).1
    rw [Nat.zero_add, hc j hjn]
    have : ds[j]? = some (at2 ds j) := by unfold at2; rw [List.getD_eq_getElem?_getD, List.getElem?_eq_getElem (by omega)]; rfl
    rw [List.getElem?_map, this] at hx
    simp only [Option.map_some, Option.some.injEq] at hx
    rw [hx]) hgs (by omega) (by omega) hj
  rw [hn] at h
  refine h.mono ?_
  rintro e w' ⟨rfl, hb⟩
  refine ⟨?_, hb⟩
  have e44 : ({ data := #[44] } : ByteArray).data.toList = [44] := rfl
  rw [hm, e44]
  rfl

/-- What holds while one text is being written: nothing that was there is changed, the texts are mine, the birth is in its cells. -/
structure TxSt (w0 : World) (P n g : Nat) (xs : List Value) (ye de : Int) (w : World) : Prop where
  bel : Below w0.heap.size w0 w
  row : w.ownsRow w0.heap.size 9 1 (.slice (some ⟨P, 0, none⟩) n n) n xs
  yr : w.cell? ⟨g, 0, none⟩ = some (.int .i64 ye)
  dy : w.cell? ⟨g, 1, none⟩ = some (.int .i64 de)
theorem TxSt.kept {w0 w w' : World} {P n g : Nat} {xs : List Value} {ye de : Int} (h : TxSt w0 P n g xs ye de w) (hb : Below w.heap.size w w') : TxSt w0 P n g xs ye de w' :=
  ⟨h.bel.trans (hb.mono h.bel.size), World.ownsRow.kept h.row (below_grown hb none) (by simp [Value.ownBlock]), below_cell2 hb h.yr, below_cell2 hb h.dy⟩
theorem TxSt.drew {w0 w : World} {P n g : Nat} {xs : List Value} {ye de : Int} (h : TxSt w0 P n g xs ye de w) : TxSt w0 P n g xs ye de w.drew := h.kept ((Below.refl w.heap.size w).drew)
theorem TxSt.cellK {w0 w : World} {P n g k : Nat} {xs : List Value} {ye de : Int} {u : Value} (h : TxSt w0 P n g xs ye de w) (hk : k < n) (hu : xs[k]? = some u) : w.cell? ⟨P, k, none⟩ = some u :=
  (World.ownsRow.cellAt h.row k (by omega)).trans hu

set_option maxHeartbeats 4000000 in
set_option maxRecDepth 100000 in
theorem birthsText_yes (b off n c : Nat) (ds : List Dt) (w : World) (hl : ds.length = n) (hI : Dts w b off ds) (hbl : b < w.heap.size) (hg : chB ds = true) (E : EnvT w) :
    Calls Tryd.prog 8 #[.slice (some ⟨b, off, none⟩) n c] w (RetSB (text ds) true w) := by
  obtain ⟨i0, hi, hz0, hz1, hz2⟩ := info_parts infoStr
  have h8 := chB_len hg
  rw [hl] at h8
  have hA := areRatios_any b off n c ds w hl hI hbl
  rw [hg] at hA
  have HA := Lib.hid hA
  have HG := Lib.hid hg
  have HE := Lib.hid E
  have HL := Lib.hid hl
  have HY := Lib.hid (fun (k : Nat) (hk : k < n) => ratB_iff.1 (chB_at hg k (by omega)))
  clear hg E hA
  go_enter Tryd.func8, Tryd.ntmps8
  go_wp2_with (first | (go_at_call 17; refine (HA.out).mono ?_; rintro e w1 ⟨rfl, hb1⟩) | (at_make; refine wpList_make_full _ rfl _ _ 40 rfl w1.heap.size 9 i0 (.string ByteArray.empty) 1 Tryd.underlying40 hi hz0 hz1 .i64 .i64 n n n rfl rfl rfl rfl ?c1 ?c2 ?c3 ?_))
  case c1 => rw [hz2]; omega
  case c2 => unfold maxLen; omega
  case c3 => exact Nat.le_refl _
  intro w2 hown hgr
  have hI1 := hI.kept hb1 hbl
  have hbl1 : b < w1.heap.size := Nat.lt_of_lt_of_le hbl hb1.size
  have HE1 := Lib.hid (HE.out.kept hb1)
  clear HA hI
  go_wp2
  go_loopw [15] (fun v wr => ∃ k : Nat, k ≤ n ∧ v = .int .i64 k ∧ wr.ownsRow w1.heap.size 9 1 (.slice (some ⟨w1.heap.size, 0, none⟩) n n) n (fillS ds k n) ∧ Below w1.heap.size w1 wr) (fun v _ => n - (intOf v).toNat)
  case atStart => exact ⟨0, Nat.zero_le _, rfl, by rw [← fillS_zero]; simpa using hown, (Below.refl _ _).grown hgr (Nat.le_refl _) (by simp)⟩
  case round =>
    obtain ⟨k, hk, rfl, hr, hb⟩ := hrel
    have hsz := hb.size
    by_cases hlt : k < n
    · obtain ⟨p1, p2⟩ := (hI1.kept hb hbl1) k (by rw [HL.out]; exact hlt)
      have hy := HY.out k hlt
      obtain ⟨u, hu⟩ := fillS_some ds k n HL.out hlt
      have HF := Lib.hid (fillS_step ds k n HL.out hlt)
      rw [wordB_eq] at HF
      have hs1 := decB_size (Int.le_trans (by decide) hy.1.1) (Int.le_trans hy.1.2 (by decide))
      have hs2 := decB_size (z := (at2 ds k).2) (by omega) (by omega)
      obtain ⟨c1, c2, -, -, -⟩ := sums_ok (t := ByteArray.empty) (by decide) hs1 hs2
      obtain ⟨f1, f2, -, -, -⟩ := sums_flat (t := ByteArray.empty) (by decide) hs1 hs2
      have HK1 := Lib.hid (fun (g : Nat) (W : World) (S : TxSt w1 w1.heap.size n g (fillS ds k n) (at2 ds k).1 (at2 ds k).2 W) => (itoa_year (at2 ds k).1 (Int.le_trans (by decide) hy.1.1) (Int.le_trans hy.1.2 (by decide)) W (HE1.out.kept S.bel)).mono (fun e W' h => (show e = .returned (.string (decB (at2 ds k).1)) ∧ TxSt w1 w1.heap.size n g (fillS ds k n) (at2 ds k).1 (at2 ds k).2 W' from ⟨h.1, S.kept h.2⟩)))
      have HK2 := Lib.hid (fun (g : Nat) (W : World) (S : TxSt w1 w1.heap.size n g (fillS ds k n) (at2 ds k).1 (at2 ds k).2 W) => (itoa_year (at2 ds k).2 (by omega) (by omega) W (HE1.out.kept S.bel)).mono (fun e W' h => (show e = .returned (.string (decB (at2 ds k).2)) ∧ TxSt w1 w1.heap.size n g (fillS ds k n) (at2 ds k).1 (at2 ds k).2 W' from ⟨h.1, S.kept h.2⟩)))
      clear hy hs1 hs2
      generalize decB (at2 ds k).1 = s1 at HK1 HF c1 c2 f1 f2
      generalize decB (at2 ds k).2 = s2 at HK2 HF c2 f2
      generalize (at2 ds k).1 = ye at p1 HK1 HK2
      generalize (at2 ds k).2 = de at p2 HK1 HK2
      obtain ⟨xs, hxs⟩ : ∃ xs, fillS ds k n = xs := ⟨_, rfl⟩
      rw [hxs] at hu hr HF HK1 HK2
      clear hxs
      have HU := Lib.hid hu
      have x1 : (wr.alloc (.cells #[.int .i64 ye, .int .i64 de] 37)).cell? ⟨wr.heap.size, 0, none⟩ = some (.int .i64 ye) := by simp [go_sem]
      have x2 : (wr.alloc (.cells #[.int .i64 ye, .int .i64 de] 37)).cell? ⟨wr.heap.size, 1, none⟩ = some (.int .i64 de) := by simp [go_sem]
      have hst : TxSt w1 w1.heap.size n wr.heap.size xs ye de (wr.alloc (.cells #[.int .i64 ye, .int .i64 de] 37)) := ⟨hb.alloc hsz _, World.ownsRow.alloc hr _, x1, x2⟩
      have HN := Lib.hid (show (0 : Nat) < n from by omega)
      clear hr hu
      go_wp2_with fail
      generalize wr.alloc (.cells #[.int .i64 ye, .int .i64 de] 37) = wq at x1 x2 hst ⊢
      generalize wr.heap.size = g at x1 x2 hst ⊢
      go_region_with (first | (go_at_call_of 18 (Value.int IntKind.i64 ye); refine (HK1.out g _ (by first | assumption | exact TxSt.drew (by assumption))).mono ?_; rintro e w' ⟨rfl, hs'⟩; have y1' := hs'.yr; have y2' := hs'.dy; have y3' := hs'.cellK hlt HU.out; have y4' := World.ownsRow.frozenAt hs'.row k) | (go_at_call_of 18 (Value.int IntKind.i64 de); refine (HK2.out g _ (by first | assumption | exact TxSt.drew (by assumption))).mono ?_; rintro e w' ⟨rfl, hs'⟩; have y1' := hs'.yr; have y2' := hs'.dy; have y3' := hs'.cellK hlt HU.out; have y4' := World.ownsRow.frozenAt hs'.row k))
      all_goals
        have HS := Lib.hid (World.ownsRow.stored hs'.row k (.string ((s1 ++ dotB) ++ s2)))
        have hbw := hs'.bel
        go_wp2_with fail
        go_roundw
        case rel => exact ⟨k + 1, by omega, by go_num, by rw [← HF.out]; exact HS.out.1, hbw.setCell (Nat.le_refl _) _⟩
        case measure => simp [intOf]; omega
    · have hkn : k = n := by omega
      subst hkn
      have hcs : ∀ j, j < k → wr.cell? ⟨w1.heap.size, j, none⟩ = some (.string (wordB (at2 ds j))) := fun j hj => (World.ownsRow.cellAt hr j (by omega)).trans (fillS_at ds k HL.out j hj)
      have hlt0 := (World.ownsRow.lt hr w1.heap.size rfl).2
      have HC := Lib.hid hcs
      clear hcs hr
      go_wp2_with (go_at_call 19; refine (join_text w1.heap.size k k ds _ HL.out HG.out hlt0 (Nat.le_refl _) HC.out).mono ?_; rintro e w' ⟨rfl, hcall⟩)
      go_ret2
      exact ⟨rfl, hb1.trans ((hb.trans (hcall.mono hsz)).mono hb1.size)⟩

set_option maxHeartbeats 1000000 in
theorem birthsText_any (b off n c : Nat) (ds : List Dt) (w : World) (hl : ds.length = n) (hI : Dts w b off ds) (hbl : b < w.heap.size) (E : EnvT w) :
    Calls Tryd.prog 8 #[.slice (some ⟨b, off, none⟩) n c] w (RetSB (textOr ds) (chB ds) w) := by
  cases hg : chB ds with
  | true =>
    rw [show textOr ds = text ds by unfold textOr; rw [hg]; rfl]
    exact birthsText_yes b off n c ds w hl hI hbl hg E
  | false =>
    rw [show textOr ds = ByteArray.empty by unfold textOr; rw [hg]; rfl]
    have hA := areRatios_any b off n c ds w hl hI hbl
    rw [hg] at hA
    clear hg
    go_enter Tryd.func8, Tryd.ntmps8
    go_wp2_with (go_at_call 17; refine hA.mono ?_; rintro e w' ⟨rfl, hcall⟩)
    go_ret2
    exact ⟨rfl, hcall⟩
theorem birthsText_both (ds : List Dt) : ∃ (r : ByteArray) (ok : Bool),
    (∀ b c w, EnvT w → ds.length ≤ 1048576 → b < w.heap.size → Dts w b 0 ds → Calls Tryd.prog 6 #[.slice (some ⟨b, 0, none⟩) ds.length c] w (RetSB r ok w)) ∧
    (∀ b c w, EnvT w → ds.length ≤ 1048576 → b < w.heap.size → Dts w b 0 ds → Calls Tryd.prog 8 #[.slice (some ⟨b, 0, none⟩) ds.length c] w (RetSB r ok w)) :=
  ⟨textOr ds, chB ds, fun b c w _ _ hbl hI => specBirthsText_any b 0 _ c ds w rfl hI hbl, fun b c w E _ hbl hI => birthsText_any b 0 _ c ds w rfl hI hbl E⟩
end Go.Proofs.YtmidobhfahpkcabDoor
