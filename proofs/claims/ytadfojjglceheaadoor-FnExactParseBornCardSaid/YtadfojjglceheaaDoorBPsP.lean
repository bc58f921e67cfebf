/- How the program parses births. -/
import Derived.Test.YtadfojjglceheaaDoorBPsM
import Derived.Test.YtadfojjglceheaaDoorBTxP
import Derived.Lib.OthersKept
set_option linter.unusedVariables false
set_option linter.unusedSimpArgs false
namespace Go.Proofs.YtadfojjglceheaaDoor
open Go.RowKit

theorem own_ne_iter {B k p : Nat} {w : World} {v : Value} {zs : List Int} {s : ByteArray} (h : Own B w v zs) (hk : w.heap[k]? = some (.stringIter s p)) : v.ownBlock ≠ some k := by
  rcases h.2 with ⟨h2, _⟩ | ⟨g, cap, cur, h2, _, h3, _⟩
  · rw [h2]; simp [Value.ownBlock]
  · rw [h2]
    intro e
    simp [Value.ownBlock] at e
    rw [e, hk] at h3
    cases h3
theorem own_iterAt {B k p p' : Nat} {w : World} {v : Value} {zs : List Int} {s : ByteArray} (h : Own B w v zs) (hk : w.heap[k]? = some (.stringIter s p)) : Own B (w.iterAt k s p') v zs := by
  have hne := own_ne_iter h hk
  obtain ⟨h1, h2⟩ := h
  refine ⟨h1, ?_⟩
  rcases h2 with h2 | ⟨g, cap, cur, h2, h3, h4, r⟩
  · exact .inl h2
  · refine .inr ⟨g, cap, cur, h2, h3, ?_, r⟩
    rw [Lib.iterAt_other _ _ _ _ _ (fun e => hne (by rw [h2, e]; simp [Value.ownBlock]))]
    exact h4
theorem own_setLast {B g c m : Nat} {w : World} {L : List Int} (h : Own B w (.slice (some ⟨g, 0, none⟩) (m + 1) c) L) (hl : L.length = m + 1) (x : Int) : Own B (w.setCell ⟨g, m, none⟩ (.int .i64 x)) (.slice (some ⟨g, 0, none⟩) (m + 1) c) (L.set m x) := by
  have h' : w.ownsRow B 3 1 (.slice (some ⟨g, 0, none⟩) (m + 1) c) (m + 1) (L.map (Value.int .i64)) := by unfold Own at h; rw [hl] at h; exact h
  have hs := (World.ownsRow.stored h' m (.int .i64 x)).1
  unfold Own
  rw [List.length_set, hl, List.map_set]
  exact hs

theorem areBirths_long (b off n c : Nat) (w : World) (h : 10 < n) :
    Calls Tryd.prog 15 #[.slice (some ⟨b, off, none⟩) n c] w (RetSame (.bool false) w) := by
  have hL : inB n 1 10 = false := inB_not.2 (by omega)
  have HW := Lib.hid fun w => isWithin_any n 1 10 w
  rw [hL] at HW
  go_enter Tryd.func15, Tryd.ntmps15
  go_wp2_with (first | (go_at_call 23; refine (HW.out _).mono ?_; rintro e w' ⟨rfl, rfl⟩))
  go_ret
  exact ⟨rfl, rfl⟩
theorem bornText_long (b off n c : Nat) (w : World) (h : 10 < n) :
    Calls Tryd.prog 7 #[.slice (some ⟨b, off, none⟩) n c] w (RetSB ByteArray.empty false w) := by
  have HW := Lib.hid fun w => areBirths_long b off n c w h
  go_enter Tryd.func7, Tryd.ntmps7
  go_wp2_with (go_at_call 15; refine (HW.out _).mono ?_; rintro e w' ⟨rfl, rfl⟩)
  go_ret2
  exact ⟨rfl, Below.refl _ _⟩
/-- BornText of any list that a call owns. -/
theorem bornText_own (B g c : Nat) (L : List Int) (w : World) (ho : Own B w (.slice (some ⟨g, 0, none⟩) L.length c) L) (E : EnvT w) :
    Calls Tryd.prog 7 #[.slice (some ⟨g, 0, none⟩) L.length c] w (RetSB (bxOr L) (bornB L) w) := by
  by_cases h : 10 < L.length
  · have e : bornB L = false := by
      cases hb : bornB L with
      | false => rfl
      | true => have := bornB_len hb; omega
    have e2 : bxOr L = ByteArray.empty := by unfold bxOr; rw [e]; rfl
    rw [e, e2]
    exact bornText_long g 0 _ c w h
  · exact bornText_any g 0 _ c L w rfl (by omega) ho.shape.2.2.2.2.1 ho.shape.2.2.1 E
theorem str_ne {a b : ByteArray} (h : ¬ a = b) : (a.toList == b.toList) = false := by
  rw [beq_eq_false_iff_ne]
  intro e
  rw [ByteArray.toList_eq, ByteArray.toList_eq] at e
  apply h
  rw [← Lib.mk_data a, ← Lib.mk_data b, e]

set_option maxHeartbeats 4000000 in
set_option maxRecDepth 100000 in
theorem parseI_of (s : ByteArray) (w : World) (hs : s.size ≤ 1048576) (E : EnvT w) (rs : List Int) (ok : Bool) (hok : Hid (psd s = ok)) (hrs : Hid (psOr s = rs)) :
    Calls Tryd.prog 10 #[.string s] w (RetOwnB rs ok w) := by
  obtain ⟨i0, hi, hz0, hz1, hz2⟩ := info_parts infoInt
  have HE := Lib.hid E
  have hO : Own w.heap.size (w.alloc (.cells #[.int .i64 0] 3)) (.slice (some ⟨w.heap.size, 0, none⟩) 1 1) [0] := World.ownsRow_lit (base := w.heap.size) (size := 1) (e := 3) w #[.int .i64 0] 1 (Nat.le_refl _) (by unfold maxLen; omega) rfl
  have HO := Lib.hid hO
  clear hO E
  go_enter Tryd.func10, Tryd.ntmps10
  go_wp2
  go_loopw [4] (fun v wr => ∃ (pos : Nat) (L : List Int), Own w.heap.size wr v L ∧ 1 ≤ L.length ∧ L.length ≤ min pos s.size + 1 ∧ wr.heap[w.heap.size + 1]? = some (.stringIter s pos) ∧ Below w.heap.size w wr ∧ Hid (asc s → pos ≤ s.size ∧ L = stW s pos)) (fun _ wr => s.size - wr.iterPos (w.heap.size + 1))
  case atStart => exact ⟨0, [0], HO.out.kept ((Below.refl _ _).alloc (Nat.le_refl _) _), by simp, by simp, by have := World.iter_heap (w.alloc (.cells #[.int .i64 0] 3)) s 0; simpa using this, ((Below.refl w.heap.size w).alloc (Nat.le_refl _) _).alloc (by simp) _, Lib.hid fun _ => ⟨by omega, (stW_zero s).symm⟩⟩
  case round =>
    obtain ⟨pos, L, ho, hl1, hl2, hit, hb, HA⟩ := hrel
    have hsz := hb.size
    have hkl : w.heap.size + 1 < wr.heap.size := (Array.getElem?_eq_some_iff.1 hit).1
    by_cases hp : pos < s.size
    · have hnx : ∀ ty, (Instr.next (.pointer (some ⟨w.heap.size + 1, 0, none⟩)) true ty).run Tryd.prog wr = _ := fun ty => Lib.run_next_any_at wr (w.heap.size + 1) s pos ty hit hp
      have hdl := decode_le s pos
      have hwd : 1 ≤ (Utf8.decode s pos).2 := by
        by_cases ha : (s[pos]'hp).toNat < 128
        · rw [decode_ascii s pos hp ha]; exact Nat.le_refl _
        · exact (decode_high s pos hp (by omega)).2
      have hbyte : byAt s pos = s[pos]'hp := by
        unfold byAt
        rw [List.getD_eq_getElem?_getD, byte_at s pos hp]
        rfl
      have HD : Hid (asc s → (Utf8.decode s pos).1 = (byAt s pos).toNat ∧ (Utf8.decode s pos).2 = 1) := Lib.hid fun h => by
        have ha := h pos hp
        rw [hbyte] at ha ⊢
        rw [decode_ascii s pos hp ha]
        exact ⟨rfl, rfl⟩
      clear hbyte
      generalize (Utf8.decode s pos).1 = r at hnx hdl HD
      generalize (Utf8.decode s pos).2 = wd at hnx hwd HD
      have hoI := own_iterAt (p' := pos + wd) ho hit
      have hitI := Lib.iterAt_heap wr (w.heap.size + 1) s pos (pos + wd) hit
      have hbI := Lib.below_iterAt hb (k := w.heap.size + 1) (by omega) s (pos + wd)
      have hneI := own_ne_iter hoI hitI
      have hszI : (wr.iterAt (w.heap.size + 1) s (pos + wd)).heap.size = wr.heap.size := Lib.iterAt_size _ _ _ _
      generalize wr.iterAt (w.heap.size + 1) s (pos + wd) = wi at hnx hoI hitI hbI hneI hszI
      rw [← hszI] at hkl
      clear hszI hsz
      have hszw := hbI.size
      by_cases h44 : r = 44
      · have HS : Hid (asc s → pos + wd ≤ s.size ∧ L ++ [0] = stW s (pos + wd)) := Lib.hid fun h => by
          obtain ⟨a1, a2⟩ := HA.out h
          obtain ⟨d1, d2⟩ := HD.out h
          have hb44 : byAt s pos = 44 := UInt8.toNat.inj (by show (byAt s pos).toNat = 44; omega)
          rw [d2, a2]
          exact ⟨by omega, (stW_yes hb44).symm⟩
        subst h44
        have HOI := Lib.hid hoI
        have hcond : ((44 : Nat) : Int) = 44 := rfl
        rw [hcond] at hnx
        clear ho hoI hcond
        go_wp2_with (first | (at_builtin; refine wpList_append_own _ rfl _ _ 22 rfl w.heap.size 3 i0 (.int .i64 0) 1 8 Tryd.underlying22 hi hz0 hz1 hz2 rfl (by decide) _ _ _ rfl (World.ownsRow.alloc HOI.out _) ⟨wi.heap.size, 0, none⟩ 1 1 [.int .i64 0] rfl rfl (newCell _ _ _) (oneInt _) ?c3 ?c4 ?c5 ?_))
        case c3 => unfold maxLen; omega
        case c4 => omega
        case c5 => simp; omega
        intro v' w1 hown' hgrow _
        have hown1 : Own w.heap.size w1 v' (L ++ [0]) := own_push hown'
        have hblk : ∀ q, u4.ownBlock = some q → w.heap.size ≤ q := fun q hq => (World.ownsRow.lt HOI.out q hq).1
        have hbz := (hbI.alloc hszw _).grown hgrow (by simp; omega) (fun q hq => hblk q hq)
        have hit1 : w1.heap[w.heap.size + 1]? = some (.stringIter s (pos + wd)) := (hgrow.block _ (by simp; omega) (fun e => hneI e.symm)).trans ((Below.heap_alloc _ _ _ (by omega)).trans hitI)
        clear hown' hgrow
        go_wp2
        go_roundw
        case rel => exact ⟨pos + wd, L ++ [0], hown1, by simp, by simp; omega, hit1, hbz, HS⟩
        case measure => simp [World.iterPos, hit1, hit]; omega
      · obtain ⟨m, hm⟩ : ∃ m, L.length = m + 1 := ⟨L.length - 1, by omega⟩
        have hcs : ∃ g c, u4 = .slice (some ⟨g, 0, none⟩) (m + 1) c ∧ w.heap.size ≤ g ∧ g < wi.heap.size ∧ Ints wi g 0 L ∧ ∀ j, wi.frozen? ⟨g, j, none⟩ = false := by
          rcases hoI.cases with ⟨_, h⟩ | ⟨g, c, h, h2, h3, _, _, h4, h5⟩
          · rw [h] at hm; simp at hm
          · exact ⟨g, c, by rw [← hm]; exact h, h2, h3, h4, h5⟩
        obtain ⟨g, c, rfl, hg1, hg2, hI, hfr⟩ := hcs
        have hgk : g ≠ w.heap.size + 1 := fun e => hneI (by rw [e]; simp [Value.ownBlock])
        have hz := hI m (by omega)
        rw [Nat.zero_add] at hz
        have hfm := hfr m
        have HX : Hid (asc s → pos + wd ≤ s.size ∧ L.set m (accW (L.getD m 0) (byAt s pos)) = stW s (pos + wd) ∧ ((byAt s pos).toNat : Int) = (r : Int)) := Lib.hid fun h => by
          obtain ⟨a1, a2⟩ := HA.out h
          obtain ⟨d1, d2⟩ := HD.out h
          have hb44 : byAt s pos ≠ 44 := fun e => h44 (by rw [d1, e]; rfl)
          have hst := stW_no hb44 hp
          rw [← a2, hm] at hst
          rw [d2]
          exact ⟨by omega, by rw [hst]; simp, by omega⟩
        have HSL := Lib.hid fun x => own_setLast hoI hm x
        have HBI := Lib.hid hbI
        have HIT := Lib.hid hitI
        have hr0 : ¬ ((r : Int) = 44) := by omega
        have hr32 : IntKind.i32.wrap ((r : Int) - 48) = (r : Int) - 48 := by
          rw [IntKind.wrap_i32]; omega
        have hm0 : (0 : Int) ≤ (m : Int) := by omega
        have HLM : Hid (∀ x, (L.set m x).length = m + 1) := Lib.hid fun x => by rw [List.length_set]; exact hm
        clear hI hfr ho hoI hneI hbI hitI
        generalize L.getD m 0 = z at hz HX
        go_wp2
        have hit2 : ∀ x, (wi.setCell ⟨g, m, none⟩ (.int .i64 x)).heap[w.heap.size + 1]? = some (.stringIter s (pos + wd)) := fun x => (Below.heap_setCell _ _ _ _ (fun e => hgk e.symm)).trans HIT.out
        go_roundw
        case rel => exact ⟨pos + wd, _, HSL.out _, by rw [HLM.out]; omega, by rw [HLM.out]; omega, hit2 _, HBI.out.setCell hg1 _, Lib.hid fun h => by
          obtain ⟨a1, a2, a3⟩ := HX.out h
          refine ⟨a1, ?_⟩
          rw [← a2]
          unfold accW
          rw [a3]⟩
        case measure => simp [World.iterPos, hit2, hit]; omega
    · have hnx : ∀ ty, (Instr.next (.pointer (some ⟨w.heap.size + 1, 0, none⟩)) true ty).run Tryd.prog wr = _ := fun ty => Lib.run_next_end_at wr (w.heap.size + 1) s pos ty hit hp
      obtain ⟨m, hm⟩ : ∃ m, L.length = m + 1 := ⟨L.length - 1, by omega⟩
      have hcs : ∃ g c, u4 = .slice (some ⟨g, 0, none⟩) L.length c := by
        rcases ho.cases with ⟨_, h⟩ | ⟨g, c, h, _⟩
        · rw [h] at hm; simp at hm
        · exact ⟨g, c, h⟩
      obtain ⟨g, c, rfl⟩ := hcs
      have HT0 := bornText_own _ g c L wr ho (HE.out.kept hb)
      have HO2 := Lib.hid ho
      have HB := Lib.hid hb
      have HLL : Hid (psd s = true → L = bReads s) := Lib.hid fun h => by
        obtain ⟨a1, a2⟩ := HA.out (psd_asc h)
        have he : pos = s.size := by omega
        rw [a2, he]
        exact stW_all (psd_true h).1
      clear ho hb hm hl2 hl1
      cases hg : bornB L with
      | false =>
        have HF : Hid (psd s = false) := Lib.hid (by
          cases hps : psd s with
          | false => rfl
          | true =>
            have h1 := (psd_true hps).1
            rw [← HLL.out hps, hg] at h1
            exact absurd h1 (by simp))
        obtain rfl : ok = false := hok.out.symm.trans HF.out
        obtain rfl : rs = [] := hrs.out.symm.trans (psOr_no HF.out)
        rw [hg] at HT0
        generalize bxOr L = tx at HT0
        have HT := Lib.hid HT0
        clear HT0 hg
        go_wp2_with (go_at_call 7; refine HT.out.mono ?_; rintro e w' ⟨rfl, hcall⟩)
        go_ret2
        exact ⟨_, rfl, own_nil _ _, HB.out.trans (hcall.mono HB.out.size)⟩
      | true =>
        rw [hg, show bxOr L = bx L by unfold bxOr; rw [hg]; rfl] at HT0
        by_cases heq : bx L = s
        · have hpt := psd_bx hg
          rw [heq] at hpt HT0
          have HT := Lib.hid HT0
          obtain rfl : ok = true := hok.out.symm.trans hpt.1
          obtain rfl : rs = L := hrs.out.symm.trans hpt.2
          clear HT0 hg hpt heq
          go_wp2_with (go_at_call 7; refine HT.out.mono ?_; rintro e w' ⟨rfl, hcall⟩)
          go_ret2
          exact ⟨_, rfl, HO2.out.kept hcall, HB.out.trans (hcall.mono HB.out.size)⟩
        · have HF : Hid (psd s = false) := Lib.hid (by
            cases hps : psd s with
            | false => rfl
            | true => exact absurd (by rw [HLL.out hps]; exact (psd_true hps).2.symm) heq)
          obtain rfl : ok = false := hok.out.symm.trans HF.out
          obtain rfl : rs = [] := hrs.out.symm.trans (psOr_no HF.out)
          have hne := str_ne heq
          generalize bx L = tx at HT0 heq hne
          have HT := Lib.hid HT0
          clear HT0 hg
          go_wp2_with (go_at_call 7; refine HT.out.mono ?_; rintro e w' ⟨rfl, hcall⟩)
          go_ret2
          exact ⟨_, rfl, own_nil _ _, HB.out.trans (hcall.mono HB.out.size)⟩

theorem psOr_small (s : ByteArray) : (psOr s).length ≤ 1048576 := by
  unfold psOr
  split
  · rename_i h
    have := (good_ok (psd_true h).1).2.1
    omega
  · exact Nat.zero_le _
theorem parseBorn_both (s : ByteArray) (hs : s.size ≤ 1048576) : ∃ (rs : List Int) (ok : Bool), rs.length ≤ 1048576 ∧
    (∀ w, EnvT w → Calls Tryd.prog 9 #[.string s] w (RetOwnB rs ok w)) ∧
    (∀ w, EnvT w → Calls Tryd.prog 10 #[.string s] w (RetOwnB rs ok w)) :=
  ⟨psOr s, psd s, psOr_small s, fun w _ => parseS_any s w, fun w E => parseI_of s w hs E _ _ (Lib.hid rfl) (Lib.hid rfl)⟩
end Go.Proofs.YtadfojjglceheaaDoor
