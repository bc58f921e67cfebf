/- How the program parses ages. -/
import Derived.Test.YtjabghojenhhiaaDoorParseM
import Derived.Test.YtjabghojenhhiaaDoorText2
import Derived.Test.YtjabghojenhhiaaDoorEnvOf
set_option linter.unusedVariables false
set_option linter.unusedSimpArgs false
namespace Go.Proofs.YtjabghojenhhiaaDoor
open Go.RowKit

/-- The pieces that the library cuts. -/
def pcs (s : ByteArray) : List ByteArray := Lib.splitB dash 0 (min 9 (s.size + 1) - 1) s
theorem pcs_len (s : ByteArray) : (pcs s).length ≤ 9 := by
  have := Lib.splitB_length_le dash 0 (min 9 (s.size + 1) - 1) s
  unfold pcs
  omega
theorem splitB_pos (sep : ByteArray) (save k : Nat) (s : ByteArray) : 0 < (Lib.splitB sep save k s).length := by
  cases k with
  | zero => simp [Lib.splitB_zero]
  | succ k => unfold Lib.splitB; split <;> simp
theorem splitB_size (sep : ByteArray) (m : Nat) : ∀ (k : Nat) (s : ByteArray), s.size ≤ m → ∀ x ∈ Lib.splitB sep 0 k s, x.size ≤ m
  | 0, s, h, x, hx => by
    rw [Lib.splitB_zero] at hx
    simp only [List.mem_singleton] at hx
    rw [hx]; exact h
  | k + 1, s, h, x, hx => by
    unfold Lib.splitB at hx
    split at hx
    · simp only [List.mem_singleton] at hx
      rw [hx]; exact h
    · rcases List.mem_cons.1 hx with rfl | hx
      · rw [ByteArray.size_extract]; omega
      · exact splitB_size sep m k _ (by rw [ByteArray.size_extract]; omega) x hx
theorem pcs_size (s : ByteArray) (h : s.size ≤ 1048576) (j : Nat) (hj : j < (pcs s).length) : ((pcs s).getD j ByteArray.empty).size ≤ 1048576 := by
  unfold pcs at hj ⊢
  refine splitB_size dash 1048576 (min 9 (s.size + 1) - 1) s h _ ?_
  rw [List.getD_eq_getElem?_getD, List.getElem?_eq_getElem hj]
  exact List.getElem_mem hj
theorem ok_parsed {s : ByteArray} (h : parsed s = true) : okAges (reads s) ∧ s = text (reads s) := by
  unfold parsed at h
  rw [Bool.and_eq_true] at h
  have ho := good_ok h.2
  exact ⟨ho, text_reads ho⟩
theorem parsed_text {zs : List Int} (h : goodB zs 120 = true) : parsed (text zs) = true ∧ parseOr (text zs) = zs := by
  have ho := good_ok h
  have hp : parsed (text zs) = true := by
    unfold parsed
    rw [reads_text ho, h, decide_eq_true (text_le31 ho)]
    rfl
  refine ⟨hp, ?_⟩
  unfold parseOr
  rw [if_pos hp, reads_text ho]
theorem parsed_not {s : ByteArray} (h : parsed s = false) : parseOr s = [] := by
  unfold parseOr
  rw [h]
  rfl
theorem pcs_parsed {s : ByteArray} (h : parsed s = true) : pcs s = (reads s).map decB := by
  obtain ⟨h1, h2⟩ := ok_parsed h
  have h3 := splitN_text h1
  rw [← h2] at h3
  exact h3
theorem pcs_atoi {s : ByteArray} (h : parsed s = true) (j : Nat) (hj : j < (pcs s).length) : Lib.atoiAll ((pcs s).getD j ByteArray.empty).data.toList = .ok ((reads s).getD j 0) := by
  have h1 := (ok_parsed h).1
  rw [pcs_parsed h] at hj ⊢
  have hj' : j < (reads s).length := by simpa using hj
  have hz := h1.2.2 (reads s)[j] (List.getElem_mem hj')
  have e : ((reads s).map decB).getD j ByteArray.empty = decB ((reads s)[j]) := by simp [List.getD_eq_getElem?_getD, List.getElem?_eq_getElem hj']
  have e2 : (reads s).getD j 0 = (reads s)[j] := by simp [List.getD_eq_getElem?_getD, List.getElem?_eq_getElem hj']
  rw [e, e2]
  have e3 : (decB ((reads s)[j])).data.toList = Lib.decDigits ((reads s)[j]).toNat := by simp [decB]
  rw [e3, atoi_dec (by omega)]
  congr 1
  omega
/-- What was read where all pieces are numbers. -/
theorem all_read {s : ByteArray} {xs : List Int} (hl : xs.length = (pcs s).length) (hall : ∀ j, j < (pcs s).length → Lib.atoiAll ((pcs s).getD j ByteArray.empty).data.toList = .ok (xs.getD j 0)) (h : parsed s = true) : xs = reads s := by
  have hr : (reads s).length = (pcs s).length := by rw [pcs_parsed h]; simp
  apply List.ext_getElem (by omega)
  intro j h1 h2
  have e1 := hall j (by omega)
  rw [pcs_atoi h j (by omega)] at e1
  injection e1 with e1
  simp only [List.getD_eq_getElem?_getD, List.getElem?_eq_getElem h1, List.getElem?_eq_getElem h2, Option.getD_some] at e1
  exact e1.symm
theorem parsed_false {s : ByteArray} (h : ¬ parsed s = true) : parsed s = false := by
  cases hp : parsed s with
  | false => rfl
  | true => exact absurd hp h

theorem cellsOf_at (done : List ByteArray) (N j : Nat) (hj : j < done.length) : (Lib.cellsOf done N)[j]? = some (.string (done.getD j ByteArray.empty)) := by
  unfold Lib.cellsOf
  rw [List.getElem?_toArray, List.getElem?_append_left (by simpa using hj)]
  simp [List.getElem?_eq_getElem hj]
theorem split_pcs (s : ByteArray) (hs : s.size ≤ 1048576) (w : World) (E : EnvE w) :
    Calls Tryd.prog 22 #[.string s, .string { data := #[45] }, .int .i64 9] w fun e w' => ∃ g c, e = .returned (.slice (some ⟨g, 0, none⟩) (pcs s).length c) ∧ w.heap.size ≤ g ∧ g < w'.heap.size ∧ (∀ j, j < (pcs s).length → w'.cell? ⟨g, j, none⟩ = some (.string ((pcs s).getD j ByteArray.empty))) ∧ Below w.heap.size w w' := by
  obtain ⟨m, hm⟩ := E.max
  refine (strings_SplitN s dash 9 m w (by omega) hm (by decide) (by omega) (by omega)).mono ?_
  rintro e w' ⟨rfl, rfl⟩
  refine ⟨w.heap.size, _, rfl, Nat.le_refl _, by simp, fun j hj => ?_, (Below.refl _ _).alloc (Nat.le_refl _) _⟩
  rw [World.cell?_alloc_mark]
  exact cellsOf_at _ _ j hj

theorem str_ne {a b : ByteArray} (h : ¬ a = b) : (a.toList == b.toList) = false := by
  rw [beq_eq_false_iff_ne]
  intro e
  rw [ByteArray.toList_eq, ByteArray.toList_eq] at e
  apply h
  rw [← Lib.mk_data a, ← Lib.mk_data b, e]

theorem fill_set (xs : List Int) (k : Nat) (v : Int) : (xs.map (Value.int .i64)).set k (.int .i64 v) = (xs.set k v).map (Value.int .i64) := by rw [List.map_set]
theorem set_getD (xs : List Int) (k j : Nat) (v : Int) (hk : k < xs.length) : (xs.set k v).getD j 0 = if j = k then v else xs.getD j 0 := by
  simp only [List.getD_eq_getElem?_getD, List.getElem?_set]
  by_cases h : k = j
  · subst h; simp [hk]
  · rw [if_neg h, if_neg (fun e => h e.symm)]
theorem zeros_cells (n : Nat) : (madeCells #[Value.int IntKind.i64 0] n).toList = (List.replicate n (0 : Int)).map (Value.int .i64) := by
  rw [toList_madeCells_one]; simp
theorem own_of_row {B : Nat} {w : World} {g n c : Nat} {xs : List Int} (hl : xs.length = n) (h : w.ownsRow B 3 1 (.slice (some ⟨g, 0, none⟩) n c) n (xs.map (Value.int .i64))) : Own B w (.slice (some ⟨g, 0, none⟩) n c) xs := by
  subst hl
  exact h

set_option maxHeartbeats 2000000 in
set_option maxRecDepth 100000 in
theorem parse_of (s : ByteArray) (w : World) (hs : s.size ≤ 1048576) (E : EnvP w) (rs : List Int) (ok : Bool) (hok : Hid (parsed s = ok)) (hrs : Hid (parseOr s = rs)) : Calls Tryd.prog 11 #[.string s] w (RetOwnB rs ok w) := by
  obtain ⟨i0, hi, hz0, hz1, hz2⟩ := info_parts infoInt
  have HE := Lib.hid E
  clear E
  have hp1 : 0 < (pcs s).length := splitB_pos _ _ _ _
  have hp9 := pcs_len s
  go_enter Tryd.func11, Tryd.ntmps11
  go_wp2_with fail
  refine (split_pcs s hs _ HE.out.e).mono ?_
  rintro e w2 ⟨g, c, rfl, hg0, hg1, hcs, hb0⟩
  have HC := Lib.hid hcs
  have HPS := Lib.hid (pcs_size s hs)
  have hs0 := hb0.size
  have HE2 := Lib.hid (HE.out.kept hb0)
  clear hcs
  obtain ⟨n, hn⟩ : ∃ n, (pcs s).length = n := ⟨_, rfl⟩
  have HN := Lib.hid hn
  rw [hn] at hp1 hp9 HC HPS ⊢
  clear hn
  go_wp2_with (first | (at_make; refine wpList_make_full _ rfl _ _ 22 rfl w2.heap.size 3 i0 (.int .i64 0) 1 Tryd.underlying22 hi hz0 hz1 .i64 .i64 n n n rfl rfl rfl rfl ?c1 ?c2 ?c3 ?_))
  case c1 => rw [hz2]; omega
  case c2 => unfold maxLen; omega
  case c3 => exact Nat.le_refl _
  intro w3 hown hgr
  go_wp2_with fail
  go_loopw [19] (fun v wr => ∃ (k : Nat) (xs : List Int), k ≤ n ∧ v = .int .i64 (k : Int) ∧ xs.length = n ∧ Hid (∀ j, j < k → Lib.atoiAll ((pcs s).getD j ByteArray.empty).data.toList = .ok (xs.getD j 0)) ∧ wr.ownsRow w2.heap.size 3 1 (.slice (some ⟨w2.heap.size, 0, none⟩) n n) n (xs.map (Value.int .i64)) ∧ Below w2.heap.size w2 wr) (fun v _ => n - (intOf v).toNat)
  case atStart => exact ⟨0, List.replicate n 0, Nat.zero_le _, rfl, by simp, Lib.hid (fun j hj => absurd hj (by omega)), by rw [← zeros_cells]; simpa using hown, (Below.refl _ _).grown hgr (Nat.le_refl _) (by simp)⟩
  case round =>
    obtain ⟨k, xs, hk, rfl, hxl, HA, hr, hb⟩ := hrel
    have hsz := hb.size
    have HE3 := Lib.hid (HE2.out.kept hb)
    have HX := Lib.hid hxl
    clear hxl
    by_cases hlt : k < n
    · have hc : wr.cell? ⟨g, k, none⟩ = some (.string ((pcs s).getD k ByteArray.empty)) := (hb.cell (p := ⟨g, k, none⟩) hg1).trans (HC.out k hlt)
      have hxs := HPS.out k hlt
      have hkn : k < (pcs s).length := by rw [HN.out]; exact hlt
      by_cases hex : ∃ v, Lib.atoiAll ((pcs s).getD k ByteArray.empty).data.toList = .ok v
      · obtain ⟨v, hv⟩ := hex
        have HV := Lib.hid hv
        have HA2 : Hid (∀ j, j < k + 1 → Lib.atoiAll ((pcs s).getD j ByteArray.empty).data.toList = .ok ((xs.set k v).getD j 0)) := Lib.hid (fun j hj => by
          rw [set_getD xs k j v (by rw [HX.out]; exact hlt)]
          by_cases hjk : j = k
          · rw [if_pos hjk, hjk]; exact hv
          · rw [if_neg hjk]; exact HA.out j (by omega))
        clear hv HA
        have HK := Lib.hid (fun W => atoi_ok ((pcs s).getD k ByteArray.empty) hxs v HV.out W)
        generalize (pcs s).getD k ByteArray.empty = x at hc HK HV hxs
        clear hkn
        obtain ⟨u, hu⟩ : ∃ u, (xs.map (Value.int .i64))[k]? = some u := ⟨_, List.getElem?_eq_getElem (by rw [List.length_map, HX.out]; exact hlt)⟩
        have HU := Lib.hid hu
        have HR := Lib.hid hr
        clear hu hr
        go_wp2_with (go_at_call 23; refine (HK.out _).mono ?_; rintro e w' ⟨rfl, hcall⟩; have hr2 := World.ownsRow.kept HR.out (below_grown hcall none) (by simp [Value.ownBlock]); have hc2 := (World.ownsRow.cellAt hr2 k (by omega)).trans HU.out; have hf2 := World.ownsRow.frozenAt hr2 k; have HS := Lib.hid (World.ownsRow.stored hr2 k (.int .i64 v)); have hb2 := Lib.hid (hb.trans (hcall.mono hsz)); clear hr2 hcall)
        go_roundw
        case rel => exact ⟨k + 1, xs.set k v, by omega, by go_num, by rw [List.length_set]; exact HX.out, HA2, by rw [← fill_set]; exact HS.out.1, hb2.out.setCell (Nat.le_refl _) _⟩
        case measure => simp [intOf]; omega
      · have HF := Lib.hid (parsed_false fun h => hex ⟨_, pcs_atoi h k hkn⟩)
        have HK := Lib.hid (fun W E => atoi_bad ((pcs s).getD k ByteArray.empty) hxs (fun v hv => hex ⟨v, hv⟩) W E)
        clear hex HA hkn
        obtain rfl : ok = false := hok.out.symm.trans HF.out
        obtain rfl : rs = [] := hrs.out.symm.trans (parsed_not HF.out)
        generalize (pcs s).getD k ByteArray.empty = x at hc HK hxs
        go_wp2_with (go_at_call 23; refine (HK.out _ HE3.out.e).mono ?_; rintro e w' ⟨v, te, pe, rfl, hcall⟩)
        go_ret2
        exact ⟨_, rfl, own_nil _ _, hb0.trans ((hb.trans (hcall.mono hsz)).mono hs0)⟩
    · obtain rfl : k = n := by omega
      have ho := own_of_row HX.out hr
      have hsh := ho.shape
      have hI := hsh.2.2.2.2.1
      have hlt2 := hsh.2.2.1
      have HO := Lib.hid ho
      have HB := Lib.hid (hb0.trans (hb.mono hs0))
      have HPN : ∀ j, j < (pcs s).length → Lib.atoiAll ((pcs s).getD j ByteArray.empty).data.toList = .ok (xs.getD j 0) := fun j hj => HA.out j (by rw [← HN.out]; exact hj)
      have HALL := Lib.hid (all_read (s := s) (xs := xs) (by rw [HX.out, HN.out]) HPN)
      have HT := fun (W : World) (hI : Ints W w2.heap.size 0 xs) (hbl : w2.heap.size < W.heap.size) (E : EnvT W) => agesText_any w2.heap.size 0 k k xs W HX.out (by omega) hI hbl E
      clear HPN HA hsh ho hr
      cases hg : goodB xs 120 with
      | false =>
        have HF := Lib.hid (parsed_false fun h => by
          have h1 := HALL.out h
          have h2 := (ok_parsed h).1
          rw [← h1] at h2
          rw [ok_good h2] at hg
          exact absurd hg (by simp))
        obtain rfl : ok = false := hok.out.symm.trans HF.out
        obtain rfl : rs = [] := hrs.out.symm.trans (parsed_not HF.out)
        rw [hg] at HT
        have HT' := Lib.hid HT
        clear HT hg
        generalize textOr xs = tx at HT'
        go_wp2_with (go_at_call 8; refine (HT'.out _ hI hlt2 HE3.out.t).mono ?_; rintro e w' ⟨rfl, hcall⟩)
        go_ret2
        exact ⟨_, rfl, own_nil _ _, HB.out.trans (hcall.mono HB.out.size)⟩
      | true =>
        rw [hg, show textOr xs = text xs by unfold textOr; rw [hg]; rfl] at HT
        by_cases heq : text xs = s
        · have hpt := parsed_text hg
          rw [heq] at hpt HT
          have HT' := Lib.hid HT
          obtain rfl : ok = true := hok.out.symm.trans hpt.1
          obtain rfl : rs = xs := hrs.out.symm.trans hpt.2
          clear HT hg hpt heq
          go_wp2_with (go_at_call 8; refine (HT'.out _ hI hlt2 HE3.out.t).mono ?_; rintro e w' ⟨rfl, hcall⟩)
          go_ret2
          exact ⟨_, rfl, (HO.out.kept hcall).mono hs0, HB.out.trans (hcall.mono HB.out.size)⟩
        · have HF := Lib.hid (parsed_false fun h => heq (by rw [HALL.out h]; exact (ok_parsed h).2.symm))
          obtain rfl : ok = false := hok.out.symm.trans HF.out
          obtain rfl : rs = [] := hrs.out.symm.trans (parsed_not HF.out)
          have HT' := Lib.hid HT
          clear HT hg
          generalize text xs = tx at HT' heq
          have hne := str_ne heq
          go_wp2_with (go_at_call 8; refine (HT'.out _ hI hlt2 HE3.out.t).mono ?_; rintro e w' ⟨rfl, hcall⟩)
          go_ret2
          exact ⟨_, rfl, own_nil _ _, HB.out.trans (hcall.mono HB.out.size)⟩

theorem reads_small (s : ByteArray) : (parseOr s).length ≤ 1048576 := by
  unfold parseOr
  split
  · rename_i h
    have := (ok_parsed h).1.2.1
    omega
  · exact Nat.zero_le _
theorem parseAges_both (s : ByteArray) (hs : s.size ≤ 1048576) : ∃ (rs : List Int) (ok : Bool), rs.length ≤ 1048576 ∧
    (∀ w, EnvP w → Calls Tryd.prog 10 #[.string s] w (RetOwnB rs ok w)) ∧
    (∀ w, EnvP w → Calls Tryd.prog 11 #[.string s] w (RetOwnB rs ok w)) :=
  ⟨parseOr s, parsed s, reads_small s, fun w _ => specParse_any s w, fun w E => parse_of s w hs E _ _ (Lib.hid rfl) (Lib.hid rfl)⟩
end Go.Proofs.YtjabghojenhhiaaDoor
