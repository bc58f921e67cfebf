/- The text of ages, of the program. -/
import Derived.Test.YtadfojjglceheaaDoorBTxM
set_option linter.unusedVariables false
set_option linter.unusedSimpArgs false
namespace Go.Proofs.YtadfojjglceheaaDoor
open Go.RowKit

theorem infoStr : (Tryd.prog.info? 9).map (fun i => (i.zero, i.size, i.bytes)) = some (some (.string ByteArray.empty), 1, 16) := by kernel_rfl
/-- The first k texts are written, the others still empty. -/
def fillS (zs : List Int) (k n : Nat) : List Value := (zs.take k).map (fun z => .string (decB z)) ++ List.replicate (n - k) (.string ByteArray.empty)
theorem fillS_zero (zs : List Int) (n : Nat) : (madeCells #[Value.string ByteArray.empty] n).toList = fillS zs 0 n := by
  rw [toList_madeCells_one]; simp [fillS]
theorem fillS_len (zs : List Int) (k n : Nat) (h : zs.length = n) (hk : k ≤ n) : (fillS zs k n).length = n := by simp [fillS]; omega
theorem fillS_some (zs : List Int) (k n : Nat) (h : zs.length = n) (hk : k < n) : ∃ u, (fillS zs k n)[k]? = some u :=
  ⟨_, List.getElem?_eq_getElem (by rw [fillS_len zs k n h (by omega)]; exact hk)⟩
theorem fillS_step (zs : List Int) (k n : Nat) (h : zs.length = n) (hk : k < n) : (fillS zs k n).set k (.string (decB (zs.getD k 0))) = fillS zs (k + 1) n := by
  have e : n - k = (n - (k + 1)) + 1 := by omega
  have hl : ((zs.take k).map (fun z => Value.string (decB z))).length = k := by simp; omega
  unfold fillS
  rw [e, List.replicate_succ, List.set_append, hl, if_neg (by omega), Nat.sub_self, List.set_cons_zero, take_one_more (by omega), List.map_append]
  simp
theorem fillS_at (zs : List Int) (n : Nat) (h : zs.length = n) (j : Nat) (hj : j < n) : (fillS zs n n)[j]? = some (.string (decB (zs.getD j 0))) := by
  subst h
  simp [fillS, List.getElem?_eq_getElem hj]

theorem join_text (g n c : Nat) (zs : List Int) (w : World) (hl : zs.length = n) (hg : bornB zs = true) (hgs : g < w.heap.size) (hcn : n ≤ c) (hc : ∀ j, j < n → w.cell? ⟨g, j, none⟩ = some (.string (decB (zs.getD j 0)))) :
    Calls Tryd.prog 17 #[.slice (some ⟨g, 0, none⟩) n c, .string { data := #[44] }] w (RetS (bx zs) w) := by
  have ho := good_ok hg
  have hm : (zs.map decB).map (fun b : ByteArray => b.data.toList) = decs zs := by
    unfold decs decB
    rw [List.map_map]
    rfl
  have hlen := bx_le49 ho
  have h8 := ho.2.1
  have hj : (Lib.join ((zs.map decB).map (fun b : ByteArray => b.data.toList)) [44]).length ≤ 140737488355328 := by
    rw [hm]
    have : (bx zs).size = (Lib.join (decs zs) [44]).length := by rw [Lib.size_eq]; simp [bx, bxL]
    omega
  have hn : (zs.map decB).length = n := by simpa using hl
  have h := strings_Join g 0 c (zs.map decB) { data := #[44] } w (fun j x hx => by
    have hjn : j < n := by rw [← hn]; exact (List.getElem?_eq_some_iff.1 hx).1
    rw [Nat.zero_add, hc j hjn]
    have : zs[j]? = some (zs.getD j 0) := by rw [List.getD_eq_getElem?_getD, List.getElem?_eq_getElem (by omega)]; rfl
    rw [List.getElem?_map, this] at hx
    simp only [Option.map_some, Option.some.injEq] at hx
    rw [hx]) hgs (by omega) (by omega) hj
  rw [hn] at h
  refine h.mono ?_
  rintro e w' ⟨rfl, hb⟩
  refine ⟨?_, hb⟩
  have e44 : ({ data := #[44] } : ByteArray).data.toList = [44] := rfl
  rw [hm, e44]
  rfl

set_option maxHeartbeats 1000000 in
set_option maxRecDepth 100000 in
theorem bornText_yes (b off n c : Nat) (zs : List Int) (w : World) (hl : zs.length = n) (hI : Ints w b off zs) (hbl : b < w.heap.size) (hg : bornB zs = true) (E : EnvT w) :
    Calls Tryd.prog 7 #[.slice (some ⟨b, off, none⟩) n c] w (RetSB (bx zs) true w) := by
  obtain ⟨i0, hi, hz0, hz1, hz2⟩ := info_parts infoStr
  have h8 := bornB_len hg
  have hA := areBirths_any b off n c zs w hl (by omega) hI
  rw [hg] at hA
  have HG := Lib.hid hg
  have HE := Lib.hid E
  clear hg E
  go_enter Tryd.func7, Tryd.ntmps7
  go_wp2_with (first | (go_at_call 15; refine hA.mono ?_; rintro e w' ⟨rfl, rfl⟩) | (at_make; refine wpList_make_full _ rfl _ _ 33 rfl w.heap.size 9 i0 (.string ByteArray.empty) 1 Tryd.underlying33 hi hz0 hz1 .i64 .i64 n n n rfl rfl rfl rfl ?c1 ?c2 ?c3 ?_))
  case c1 => rw [hz2]; omega
  case c2 => unfold maxLen; omega
  case c3 => exact Nat.le_refl _
  intro w1 hown hgr
  go_wp2
  go_loopw [15] (fun v wr => ∃ k : Nat, k ≤ n ∧ v = .int .i64 k ∧ wr.ownsRow w.heap.size 9 1 (.slice (some ⟨w.heap.size, 0, none⟩) n n) n (fillS zs k n) ∧ Below w.heap.size w wr) (fun v _ => n - (intOf v).toNat)
  case atStart => exact ⟨0, Nat.zero_le _, rfl, by rw [← fillS_zero]; simpa using hown, (Below.refl _ _).grown hgr (Nat.le_refl _) (by simp)⟩
  case round =>
    obtain ⟨k, hk, rfl, hr, hb⟩ := hrel
    by_cases hlt : k < n
    · have hc := (hI.kept hb hbl) k (by omega)
      have hz := bornB_at HG.out k (by omega)
      obtain ⟨u, hu⟩ := fillS_some zs k n hl hlt
      have HF := Lib.hid (fillS_step zs k n hl hlt)
      have hsz := hb.size
      have hEr := Lib.hid (HE.out.kept hb)
      have HU := Lib.hid hu
      have HR := Lib.hid hr
      clear hu hr
      generalize zs.getD k 0 = z at hc hz HF
      go_wp2_with (go_at_call 16; refine (itoa_year z hz.1 (by omega) _ hEr.out).mono ?_; rintro e w' ⟨rfl, hcall⟩; have hr2 := World.ownsRow.kept HR.out (below_grown hcall none) (by simp [Value.ownBlock]); have hc2 := (World.ownsRow.cellAt hr2 k (by omega)).trans HU.out; have hf2 := World.ownsRow.frozenAt hr2 k; have HS := Lib.hid (World.ownsRow.stored hr2 k (.string (decB z))); have hb2 := Lib.hid (hb.trans (hcall.mono hsz)); clear hr2 hcall)
      go_roundw
      case rel => exact ⟨k + 1, by omega, by go_num, by rw [← HF.out]; exact HS.out.1, hb2.out.setCell (Nat.le_refl _) _⟩
      case measure => simp [intOf]; omega
    · have hkn : k = n := by omega
      subst hkn
      have hcs : ∀ j, j < k → wr.cell? ⟨w.heap.size, j, none⟩ = some (.string (decB (zs.getD j 0))) := fun j hj => (World.ownsRow.cellAt hr j (by omega)).trans (fillS_at zs k hl j hj)
      have hlt0 := (World.ownsRow.lt hr w.heap.size rfl).2
      have HC := Lib.hid hcs
      have hsz := hb.size
      clear hcs hr
      go_wp2_with (go_at_call 17; refine (join_text w.heap.size k k zs _ hl HG.out hlt0 (Nat.le_refl _) HC.out).mono ?_; rintro e w' ⟨rfl, hcall⟩)
      go_ret2
      exact ⟨rfl, hb.trans (hcall.mono hsz)⟩

set_option maxHeartbeats 1000000 in
theorem bornText_any (b off n c : Nat) (zs : List Int) (w : World) (hl : zs.length = n) (hn : n ≤ 1048576) (hI : Ints w b off zs) (hbl : b < w.heap.size) (E : EnvT w) :
    Calls Tryd.prog 7 #[.slice (some ⟨b, off, none⟩) n c] w (RetSB (bxOr zs) (bornB zs) w) := by
  cases hg : bornB zs with
  | true =>
    rw [show bxOr zs = bx zs by unfold bxOr; rw [hg]; rfl]
    exact bornText_yes b off n c zs w hl hI hbl hg E
  | false =>
    rw [show bxOr zs = ByteArray.empty by unfold bxOr; rw [hg]; rfl]
    have hA := areBirths_any b off n c zs w hl hn hI
    rw [hg] at hA
    clear hg
    go_enter Tryd.func7, Tryd.ntmps7
    go_wp2_with (go_at_call 15; refine hA.mono ?_; rintro e w' ⟨rfl, rfl⟩)
    go_ret2
    exact ⟨rfl, Below.refl _ _⟩

theorem bornText_both (zs : List Int) : ∃ (r : ByteArray) (ok : Bool),
    (∀ b c w, EnvT w → zs.length ≤ 1048576 → b < w.heap.size → Ints w b 0 zs → Calls Tryd.prog 5 #[.slice (some ⟨b, 0, none⟩) zs.length c] w (RetSB r ok w)) ∧
    (∀ b c w, EnvT w → zs.length ≤ 1048576 → b < w.heap.size → Ints w b 0 zs → Calls Tryd.prog 7 #[.slice (some ⟨b, 0, none⟩) zs.length c] w (RetSB r ok w)) :=
  ⟨bxOr zs, bornB zs, fun b c w _ hn hbl hI => specBornText_any b 0 _ c zs w rfl hn hI hbl, fun b c w E hn hbl hI => bornText_any b 0 _ c zs w rfl hn hI hbl E⟩
end Go.Proofs.YtadfojjglceheaaDoor
