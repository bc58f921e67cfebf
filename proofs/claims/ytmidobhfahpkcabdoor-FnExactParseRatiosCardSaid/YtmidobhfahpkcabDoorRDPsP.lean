/- How the program parses births, and both. -/
import Derived.Test.YtmidobhfahpkcabDoorRDPsM
import Derived.Test.YtmidobhfahpkcabDoorRDTxP
import Derived.Test.YtmidobhfahpkcabDoorRDEnvOf
set_option linter.unusedVariables false
set_option linter.unusedSimpArgs false
namespace Go.Proofs.YtmidobhfahpkcabDoor
open Go.RowKit

/-- The pieces that the library cuts. -/
def pcs (s : ByteArray) : List ByteArray := Lib.splitB commaB 0 (min 7 (s.size + 1) - 1) s
theorem pcs_len (s : ByteArray) : (pcs s).length ≤ 9 := by
  have := Lib.splitB_length_le commaB 0 (min 7 (s.size + 1) - 1) s
  unfold pcs
  omega
theorem splitB_pos (sep : ByteArray) (save k : Nat) (s : ByteArray) : 0 < (Lib.splitB sep save k s).length := by
  cases k with
  | zero => simp [Lib.splitB_zero]
  | succ k => unfold Lib.splitB; split <;> simp
theorem splitB_size (sep : ByteArray) (m : Nat) : ∀ (k : Nat) (s : ByteArray), s.size ≤ m → ∀ x ∈ Lib.splitB sep 0 k s, x.size ≤ m
  | 0, s, h, x, hx => by
    rw [Lib.splitB_zero] at hx
    simp only [List.mem_singleton] at hx
    rw [hx]; exact h
  | k + 1, s, h, x, hx => by
    unfold Lib.splitB at hx
    split at hx
    · simp only [List.mem_singleton] at hx
      rw [hx]; exact h
    · rcases List.mem_cons.1 hx with rfl | hx
      · rw [ByteArray.size_extract]; omega
      · exact splitB_size sep m k _ (by rw [ByteArray.size_extract]; omega) x hx
theorem pcs_size (s : ByteArray) (h : s.size ≤ 1048576) (j : Nat) (hj : j < (pcs s).length) : ((pcs s).getD j ByteArray.empty).size ≤ 1048576 := by
  unfold pcs at hj ⊢
  refine splitB_size commaB 1048576 (min 7 (s.size + 1) - 1) s h _ ?_
  rw [List.getD_eq_getElem?_getD, List.getElem?_eq_getElem hj]
  exact List.getElem_mem hj
theorem parsed_false {s : ByteArray} (h : ¬ parsed s = true) : parsed s = false := by
  cases hp : parsed s with
  | false => rfl
  | true => exact absurd hp h

theorem cellsOf_at (done : List ByteArray) (N j : Nat) (hj : j < done.length) : (Lib.cellsOf done N)[j]? = some (.string (done.getD j ByteArray.empty)) := by
  unfold Lib.cellsOf
  rw [List.getElem?_toArray, List.getElem?_append_left (by simpa using hj)]
  simp [List.getElem?_eq_getElem hj]
theorem split_pcs (s : ByteArray) (hs : s.size ≤ 1048576) (w : World) (E : EnvE w) :
    Calls Tryd.prog 22 #[.string s, .string { data := #[44] }, .int .i64 7] w fun e w' => ∃ g c, e = .returned (.slice (some ⟨g, 0, none⟩) (pcs s).length c) ∧ w.heap.size ≤ g ∧ g < w'.heap.size ∧ (∀ j, j < (pcs s).length → w'.cell? ⟨g, j, none⟩ = some (.string ((pcs s).getD j ByteArray.empty))) ∧ Below w.heap.size w w' := by
  obtain ⟨m, hm⟩ := E.max
  refine (strings_SplitN s commaB 7 m w (by omega) hm (by decide) (by omega) (by omega)).mono ?_
  rintro e w' ⟨rfl, rfl⟩
  refine ⟨w.heap.size, _, rfl, Nat.le_refl _, by simp, fun j hj => ?_, (Below.refl _ _).alloc (Nat.le_refl _) _⟩
  rw [World.cell?_alloc_mark]
  exact cellsOf_at _ _ j hj

theorem str_ne {a b : ByteArray} (h : ¬ a = b) : (a.toList == b.toList) = false := by
  rw [beq_eq_false_iff_ne]
  intro e
  rw [ByteArray.toList_eq, ByteArray.toList_eq] at e
  apply h
  rw [← Lib.mk_data a, ← Lib.mk_data b, e]

theorem pcs_parsed {s : ByteArray} (h : parsed s = true) : pcs s = (dsOf s).map wordB := by
  have h1 := (parsed_parts h).2.2
  have h3 := splitN_text h1
  rw [← text_parsed h] at h3
  exact h3
/-- A number, and an error or none. -/
theorem atoi_any (s : ByteArray) (hs : s.size ≤ 1048576) (w : World) (E : EnvE w) :
    Calls Tryd.prog 37 #[.string s] w fun e w' => ∃ v er, e = .returned (.tuple #[.int .i64 v, er]) ∧ (∀ z, Lib.atoiAll s.data.toList = .ok z → v = z) ∧ Below w.heap.size w w' := by
  by_cases h : ∃ v, Lib.atoiAll s.data.toList = .ok v
  · obtain ⟨v, hv⟩ := h
    refine (atoi_ok s hs v hv w).mono ?_
    rintro e w' ⟨rfl, hb⟩
    refine ⟨_, _, rfl, fun z hz => ?_, hb⟩
    rw [hv] at hz
    injection hz
  · refine (atoi_bad s hs (fun v hv => h ⟨v, hv⟩) w E).mono ?_
    rintro e w' ⟨v, te, pe, rfl, hb⟩
    exact ⟨_, _, rfl, fun z hz => absurd ⟨z, hz⟩ h, hb⟩
theorem cut_word {p : Dt} (h : ratB p = true) : Lib.cut (wordB p).data.toList [58] = (Lib.decDigits p.1.toNat, Lib.decDigits p.2.toNat, true) := by
  have hi := index_word h
  have e : (wordB p).data.toList = wordL p := by simp [wordB]
  rw [e]
  unfold Lib.cut
  rw [hi, if_pos (by omega)]
  unfold wordL
  simp
theorem cut_sizes (s : ByteArray) : (⟨(Lib.cut s.data.toList [58]).1.toArray⟩ : ByteArray).size ≤ s.size ∧ (⟨(Lib.cut s.data.toList [58]).2.1.toArray⟩ : ByteArray).size ≤ s.size := by
  have hl : s.data.toList.length = s.size := (Lib.size_eq s).symm
  unfold Lib.cut
  split
  · constructor
    · show ((s.data.toList.take _).toArray).size ≤ _
      rw [List.size_toArray, List.length_take]; omega
    · show ((s.data.toList.drop _).toArray).size ≤ _
      rw [List.size_toArray, List.length_drop]; omega
  · constructor
    · show ((s.data.toList).toArray).size ≤ _
      rw [List.size_toArray]; omega
    · show (([] : List UInt8).toArray).size ≤ _
      simp
def RetAny (x : ByteArray) (w : World) (e : Ending) (w' : World) : Prop :=
  ∃ y d : Int, e = .returned (.agg #[.int .i64 y, .int .i64 d]) ∧ (∀ q, ratB q = true → x = wordB q → (y, d) = q) ∧ Below w.heap.size w w'
theorem any_end {x yt dt : ByteArray} {v u : Int} {w w' : World} (hyt : yt = ⟨(Lib.cut x.data.toList [58]).1.toArray⟩) (hdt : dt = ⟨(Lib.cut x.data.toList [58]).2.1.toArray⟩)
    (hv : ∀ z, Lib.atoiAll yt.data.toList = .ok z → v = z) (hu : ∀ z, Lib.atoiAll dt.data.toList = .ok z → u = z) (hb : Below w.heap.size w w') : RetAny x w (.returned (.agg #[.int .i64 v, .int .i64 u])) w' := by
  refine ⟨v, u, rfl, fun q hq hx => ?_, hb⟩
  subst hx
  rw [cut_word hq] at hyt hdt
  have hn := date_nat hq
  subst hyt
  subst hdt
  have e1 := hv q.1.toNat (atoi_dec hn.1)
  have e2 := hu q.2.toNat (atoi_dec (by omega))
  rw [hn.2.2.1] at e1
  rw [hn.2.2.2] at e2
  rw [e1, e2]

set_option maxHeartbeats 4000000 in
set_option maxRecDepth 100000 in
theorem parseDate_any (x : ByteArray) (hx : x.size ≤ 1048576) (w : World) (E : EnvE w) : Calls Tryd.prog 23 #[.string x] w (RetAny x w) := by
  obtain ⟨m, hm⟩ := E.max
  have hHW := (Below.refl w.heap.size w).alloc (Nat.le_refl _) (.cells #[.int .i64 0, .int .i64 0] 37)
  have HW0 := Lib.hid hHW
  have hm' : ∀ A, (w.alloc A).cell? ⟨1, 0, none⟩ = some (.int .i64 m) := fun A => cell_above hm A
  have HC := Lib.hid (fun A => strings_Cut x { data := #[58] } m (w.alloc A) (by omega) (hm' A))
  have hcs := cut_sizes x
  obtain ⟨yt, hyt⟩ : ∃ yt : ByteArray, yt = ⟨(Lib.cut x.data.toList [58]).1.toArray⟩ := ⟨_, rfl⟩
  obtain ⟨dt, hdt⟩ : ∃ dt : ByteArray, dt = ⟨(Lib.cut x.data.toList [58]).2.1.toArray⟩ := ⟨_, rfl⟩
  obtain ⟨fd, hfd⟩ : ∃ fd : Bool, fd = (Lib.cut x.data.toList [58]).2.2 := ⟨_, rfl⟩
  rw [show ({ data := #[58] } : ByteArray).data.toList = [58] from rfl, ← hyt, ← hdt, ← hfd] at HC
  rw [← hyt, ← hdt] at hcs
  have hs1 : yt.size ≤ 1048576 := by omega
  have hs2 : dt.size ≤ 1048576 := by omega
  have HY := Lib.hid (fun v u w' hv hu hb => any_end (w := w) (w' := w') (v := v) (u := u) hyt hdt hv hu hb)
  have HE := Lib.hid E
  clear hcs hfd hm hyt hdt E hm'
  go_enter Tryd.func23, Tryd.ntmps23
  go_wp2_with (first | (go_at_call 36; refine (HC.out _).mono ?_; rintro e w1 ⟨rfl, nn, rfl⟩; have hb1 := Lib.hid (below_drewN HW0.out nn); have r0 : ((w.alloc (.cells #[.int .i64 0, .int .i64 0] 37)).drewN nn).cell? ⟨w.heap.size, 0, none⟩ = some (.int .i64 0) := (by show (w.alloc (.cells #[.int .i64 0, .int .i64 0] 37)).cell? ⟨w.heap.size, 0, none⟩ = _; simp [go_sem]); have r1 : ((w.alloc (.cells #[.int .i64 0, .int .i64 0] 37)).drewN nn).cell? ⟨w.heap.size, 1, none⟩ = some (.int .i64 0) := (by show (w.alloc (.cells #[.int .i64 0, .int .i64 0] 37)).cell? ⟨w.heap.size, 1, none⟩ = _; simp [go_sem]); have z0 : ((w.alloc (.cells #[.int .i64 0, .int .i64 0] 37)).drewN nn).frozen? ⟨w.heap.size, 0, none⟩ = false := (by show (w.alloc (.cells #[.int .i64 0, .int .i64 0] 37)).frozen? ⟨w.heap.size, 0, none⟩ = _; simp [go_sem]); have z1 : ((w.alloc (.cells #[.int .i64 0, .int .i64 0] 37)).drewN nn).frozen? ⟨w.heap.size, 1, none⟩ = false := (by show (w.alloc (.cells #[.int .i64 0, .int .i64 0] 37)).frozen? ⟨w.heap.size, 1, none⟩ = _; simp [go_sem]); have hbq := hb1.out))
  clear HC
  generalize (w.alloc (.cells #[.int .i64 0, .int .i64 0] 37)).drewN nn = wc at r0 r1 z0 z1 hbq ⊢
  clear hb1
  refine (atoi_any yt hs1 _ (HE.out.kept hbq)).mono ?_
  rintro e w2 ⟨v, er, rfl, hv, hcall⟩
  have HV := Lib.hid hv
  have hb2 := hbq.trans (hcall.mono hbq.size)
  have z02 := (hcall.frozen (p := ⟨w.heap.size, 0, none⟩) (World.block_lt_of_cell? _ _ r0)).trans z0
  have z12 := (hcall.frozen (p := ⟨w.heap.size, 1, none⟩) (World.block_lt_of_cell? _ _ r1)).trans z1
  have r02 := below_cell2 hcall r0
  have r12 := below_cell2 hcall r1
  clear hv hcall r0 r1 z0 z1 hbq
  go_wp2_with fail
  refine (atoi_any dt hs2 _ (HE.out.kept hb2)).mono ?_
  rintro e w3 ⟨u, er2, rfl, hu, hcall⟩
  have HU := Lib.hid hu
  have hb3 := hb2.trans (hcall.mono hb2.size)
  have z0 := (hcall.frozen (p := ⟨w.heap.size, 0, none⟩) (World.block_lt_of_cell? _ _ r02)).trans z02
  have z1 := (hcall.frozen (p := ⟨w.heap.size, 1, none⟩) (World.block_lt_of_cell? _ _ r12)).trans z12
  have r0 := below_cell2 hcall r02
  have r1 := below_cell2 hcall r12
  clear hu hcall r02 r12 z02 z12 hb2
  go_wp2_with fail
  obtain ⟨s0, s1⟩ := two_cells r0 r1
  refine bodyPost_ret (v := .agg #[.int .i64 v, .int .i64 u]) (by simp [results, Tryd.results23, go_sem, s0, s1]) rfl ?_
  exact HY.out v u _ HV.out HU.out ((hb3.setCell (Nat.le_refl _) _).setCell (Nat.le_refl _) _)

theorem zerosD (n : Nat) : (madeCells #[Value.int .i64 0, .int .i64 0] (n * 2)).toList = flatD (List.replicate n (0, 0)) := by
  have h2 : ∀ n, flatD (List.replicate n (0, 0)) = List.replicate (n * 2) (Value.int .i64 0) := by
    intro n
    induction n with
    | zero => rfl
    | succ n ih => rw [List.replicate_succ, flatD_cons, ih, show (n + 1) * 2 = n * 2 + 1 + 1 by omega, List.replicate_succ, List.replicate_succ]
  rw [h2]
  refine List.eq_replicate_iff.2 ⟨by simp [madeCells], fun x hx => ?_⟩
  simp [madeCells] at hx
  obtain ⟨i, hi, rfl⟩ := hx
  have : i % 2 = 0 ∨ i % 2 = 1 := by omega
  rcases this with h | h <;> simp [h]
theorem at2_set (xs : List Dt) (k j : Nat) (p : Dt) (hk : k < xs.length) : at2 (xs.set k p) j = if j = k then p else at2 xs j := by
  unfold at2
  simp only [List.getD_eq_getElem?_getD, List.getElem?_set]
  by_cases h : k = j
  · subst h; simp [hk]
  · rw [if_neg h, if_neg (fun e => h e.symm)]
theorem ownD_of_row {B : Nat} {w : World} {g n c : Nat} {xs : List Dt} (hl : xs.length = n) (h : w.ownsRow B 37 2 (.slice (some ⟨g, 0, none⟩) n c) n (flatD xs)) : OwnD 37 B w (.slice (some ⟨g, 0, none⟩) n c) xs := by
  subst hl
  exact h
/-- What was read, where the text is one of births. -/
theorem all_read {s : ByteArray} {xs : List Dt} (hl : xs.length = (pcs s).length) (hall : ∀ j, j < (pcs s).length → ∀ q, ratB q = true → (pcs s).getD j ByteArray.empty = wordB q → at2 xs j = q) (h : parsed s = true) : xs = dsOf s := by
  have hp := pcs_parsed h
  have hb := (parsed_parts h).2.2
  have hr : (dsOf s).length = (pcs s).length := by rw [hp]; simp
  apply List.ext_getElem (by omega)
  intro j h1 h2
  have hm : ratB (dsOf s)[j] = true := births_mem hb _ (List.getElem_mem h2)
  have e1 := hall j (by omega) _ hm (by rw [hp]; simp [List.getD_eq_getElem?_getD, List.getElem?_eq_getElem h2])
  unfold at2 at e1
  simp only [List.getD_eq_getElem?_getD, List.getElem?_eq_getElem h1, Option.getD_some] at e1
  exact e1

set_option maxHeartbeats 4000000 in
set_option maxRecDepth 100000 in
theorem parse_of (s : ByteArray) (w : World) (hs : s.size ≤ 1048576) (E : EnvP w) (rs : List Dt) (ok : Bool) (hok : Hid (parsed s = ok)) (hrs : Hid (parseOr s = rs)) : Calls Tryd.prog 11 #[.string s] w (RetOwnDB 37 rs ok w) := by
  obtain ⟨i0, hi, hz0, hz1, hz2⟩ := info_parts infoDate
  have HE := Lib.hid E
  clear E
  have hp1 : 0 < (pcs s).length := splitB_pos _ _ _ _
  have hp9 := pcs_len s
  go_enter Tryd.func11, Tryd.ntmps11
  go_wp2_with fail
  refine (split_pcs s hs _ HE.out.e).mono ?_
  rintro e w2 ⟨g, c, rfl, hg0, hg1, hcs, hb0⟩
  have HC := Lib.hid hcs
  have HPS := Lib.hid (pcs_size s hs)
  have hs0 := hb0.size
  have HE2 := Lib.hid (HE.out.kept hb0)
  clear hcs
  obtain ⟨n, hn⟩ : ∃ n, (pcs s).length = n := ⟨_, rfl⟩
  have HN := Lib.hid hn
  rw [hn] at hp1 hp9 HC HPS ⊢
  clear hn
  go_wp2_with (first | (at_make; refine wpList_make_full _ rfl _ _ 26 rfl w2.heap.size 37 i0 _ 2 Tryd.underlying26 hi hz0 hz1 .i64 .i64 n n n rfl rfl rfl rfl ?c1 ?c2 ?c3 ?_))
  case c1 => rw [hz2]; omega
  case c2 => unfold maxLen; omega
  case c3 => exact Nat.le_refl _
  intro w3 hown hgr
  have hown2 : w3.ownsRow w2.heap.size 37 2 (.slice (some ⟨w2.heap.size, 0, none⟩) n n) n (flatD (List.replicate n (0, 0))) := by rw [← zerosD]; exact hown
  have hb3 : Below w2.heap.size w2 w3 := (Below.refl w2.heap.size w2).grown hgr (Nat.le_refl _) (by intro k hk; cases hk)
  clear hown hgr
  go_wp2_with fail
  go_loopw [17] (fun v wr => ∃ (k : Nat) (xs : List Dt), k ≤ n ∧ v = .int .i64 (k : Int) ∧ xs.length = n ∧ Hid (∀ j, j < k → ∀ q, ratB q = true → (pcs s).getD j ByteArray.empty = wordB q → at2 xs j = q) ∧ wr.ownsRow w2.heap.size 37 2 (.slice (some ⟨w2.heap.size, 0, none⟩) n n) n (flatD xs) ∧ Below w2.heap.size w2 wr) (fun v _ => n - (intOf v).toNat)
  case atStart => exact ⟨0, List.replicate n (0, 0), Nat.zero_le _, rfl, by simp, Lib.hid (fun j hj => absurd hj (by omega)), hown2, hb3⟩
  case round =>
    obtain ⟨k, xs, hk, rfl, hxl, HA, hr, hb⟩ := hrel
    have hsz := hb.size
    have HE3 := Lib.hid (HE2.out.kept hb)
    have HX := Lib.hid hxl
    clear hxl
    by_cases hlt : k < n
    · have hc : wr.cell? ⟨g, k, none⟩ = some (.string ((pcs s).getD k ByteArray.empty)) := (hb.cell (p := ⟨g, k, none⟩) hg1).trans (HC.out k hlt)
      have hxs := HPS.out k hlt
      have HK := Lib.hid (parseDate_any ((pcs s).getD k ByteArray.empty) hxs wr HE3.out.e)
      have HA2 := Lib.hid (fun (p : Dt) (hp : ∀ q, ratB q = true → (pcs s).getD k ByteArray.empty = wordB q → p = q) (j : Nat) (hj : j < k + 1) (q : Dt) (hq : ratB q = true) (hw : (pcs s).getD j ByteArray.empty = wordB q) => (show at2 (xs.set k p) j = q from by
        rw [at2_set xs k j p (by rw [HX.out]; exact hlt)]
        by_cases hjk : j = k
        · rw [if_pos hjk]; subst hjk; exact hp q hq hw
        · rw [if_neg hjk]; exact HA.out j (by omega) q hq hw))
      generalize (pcs s).getD k ByteArray.empty = x at hc HK HA2 hxs
      obtain ⟨u0, hu0⟩ : ∃ u, (flatD xs)[k * 2]? = some u := ⟨_, (flatD_at xs k (by rw [HX.out]; exact hlt)).1⟩
      obtain ⟨u1, hu1⟩ : ∃ u, (flatD xs)[k * 2 + 1]? = some u := ⟨_, (flatD_at xs k (by rw [HX.out]; exact hlt)).2⟩
      have HU0 := Lib.hid hu0
      have HU1 := Lib.hid hu1
      have HR := Lib.hid hr
      have HM := Lib.hid (fun y d => flatD_set xs k y d (by rw [HX.out]; exact hlt))
      clear hu0 hu1 hr HA
      go_wp2_with (go_at_call 23; refine (HK.out).mono ?_; rintro e w4 ⟨y, d, rfl, hyd, hcall⟩; have HYD := Lib.hid hyd; have hr2 := World.ownsRow.kept HR.out (below_grown hcall none) (by simp [Value.ownBlock]); have d0 := (World.ownsRow.cellAt hr2 (k * 2) (by omega)).trans HU0.out; have d1 := (World.ownsRow.cellAt hr2 (k * 2 + 1) (by omega)).trans HU1.out; have f0 := World.ownsRow.frozenAt hr2 (k * 2); have f1 := World.ownsRow.frozenAt hr2 (k * 2 + 1); have HS := Lib.hid (World.ownsRow.stored (World.ownsRow.stored hr2 (k * 2) (.int .i64 y)).1 (k * 2 + 1) (.int .i64 d)); have hb4 := Lib.hid (hb.trans (hcall.mono hsz)); clear hr2 hcall hyd)
      go_roundw
      case rel => exact ⟨k + 1, xs.set k (y, d), by omega, by go_num, by rw [List.length_set]; exact HX.out, Lib.hid (HA2.out (y, d) HYD.out), by rw [← HM.out]; exact HS.out.1, (hb4.out.setCell (Nat.le_refl _) _).setCell (Nat.le_refl _) _⟩
      case measure => simp [intOf]; omega
    · obtain rfl : k = n := by omega
      have ho := ownD_of_row HX.out hr
      have hsh := ho.shape
      have hI := hsh.2.2.2.2.1
      have hlt2 := hsh.2.2.1
      have HO := Lib.hid ho
      have HB := Lib.hid (hb0.trans (hb.mono hs0))
      have HPN : ∀ j, j < (pcs s).length → ∀ q, ratB q = true → (pcs s).getD j ByteArray.empty = wordB q → at2 xs j = q := fun j hj => HA.out j (by rw [← HN.out]; exact hj)
      have HALL := Lib.hid (all_read (s := s) (xs := xs) (by rw [HX.out, HN.out]) HPN)
      have HT := fun (W : World) (hI : Dts W w2.heap.size 0 xs) (hbl : w2.heap.size < W.heap.size) (E : EnvT W) => birthsText_any w2.heap.size 0 k k xs W HX.out hI hbl E
      clear HPN HA hsh ho hr HC HPS
      cases hg : chB xs with
      | false =>
        have HF := Lib.hid (parsed_false fun h => by
          have h1 := HALL.out h
          have h2 := (parsed_parts h).2.2
          rw [← h1, hg] at h2
          cases h2)
        obtain rfl : ok = false := hok.out.symm.trans HF.out
        obtain rfl : rs = [] := hrs.out.symm.trans (parsed_not HF.out)
        rw [hg] at HT
        have HT' := Lib.hid HT
        clear HT hg
        generalize textOr xs = tx at HT'
        go_wp2_with (go_at_call 8; refine (HT'.out _ hI hlt2 HE3.out.t).mono ?_; rintro e w' ⟨rfl, hcall⟩)
        go_ret2
        exact ⟨_, rfl, ownD_nil _ _ _, HB.out.trans (hcall.mono HB.out.size)⟩
      | true =>
        rw [hg, show textOr xs = text xs by unfold textOr; rw [hg]; rfl] at HT
        by_cases heq : text xs = s
        · have hpt := parsed_text hg
          rw [heq] at hpt HT
          have HT' := Lib.hid HT
          obtain rfl : ok = true := hok.out.symm.trans hpt.1
          obtain rfl : rs = xs := hrs.out.symm.trans hpt.2
          clear HT hg hpt heq
          go_wp2_with (go_at_call 8; refine (HT'.out _ hI hlt2 HE3.out.t).mono ?_; rintro e w' ⟨rfl, hcall⟩)
          go_ret2
          exact ⟨_, rfl, (HO.out.kept hcall).mono hs0, HB.out.trans (hcall.mono HB.out.size)⟩
        · have HF := Lib.hid (parsed_false fun h => heq (by rw [HALL.out h]; exact (text_parsed h).symm))
          obtain rfl : ok = false := hok.out.symm.trans HF.out
          obtain rfl : rs = [] := hrs.out.symm.trans (parsed_not HF.out)
          have HT' := Lib.hid HT
          clear HT hg
          generalize text xs = tx at HT' heq
          have hne := str_ne heq
          go_wp2_with (go_at_call 8; refine (HT'.out _ hI hlt2 HE3.out.t).mono ?_; rintro e w' ⟨rfl, hcall⟩)
          go_ret2
          exact ⟨_, rfl, ownD_nil _ _ _, HB.out.trans (hcall.mono HB.out.size)⟩

theorem dsOf_small (s : ByteArray) : (parseOr s).length ≤ 1048576 := by
  unfold parseOr
  split
  · rename_i h
    have := chB_len (parsed_parts h).2.2
    omega
  · exact Nat.zero_le _
theorem parseBirths_both (s : ByteArray) (hs : s.size ≤ 1048576) : ∃ (rs : List Dt) (ok : Bool), rs.length ≤ 1048576 ∧
    (∀ w, EnvP w → Calls Tryd.prog 10 #[.string s] w (RetOwnDB 37 rs ok w)) ∧
    (∀ w, EnvP w → Calls Tryd.prog 11 #[.string s] w (RetOwnDB 37 rs ok w)) :=
  ⟨parseOr s, parsed s, dsOf_small s, fun w _ => specParse_any s w, fun w E => parse_of s w hs E _ _ (Lib.hid rfl) (Lib.hid rfl)⟩
end Go.Proofs.YtmidobhfahpkcabDoor
