/- How the program parses families; both texts. -/
import Derived.Test.YthmcimdnbapnhabDoorFp3
set_option linter.unusedVariables false
set_option linter.unusedSimpArgs false
namespace Go.Proofs.YthmcimdnbapnhabDoor
open Go.RowKit

/-- The pieces that the library cuts. -/
def pcsF (s : ByteArray) : List ByteArray := Lib.splitB { data := #[59] } 0 (min 15 (s.size + 1) - 1) s
theorem pcsF_len (s : ByteArray) : (pcsF s).length ≤ 15 := by
  have := Lib.splitB_length_le { data := #[59] } 0 (min 15 (s.size + 1) - 1) s
  unfold pcsF
  omega
theorem pcsF_size (s : ByteArray) (h : s.size ≤ 1048576) (j : Nat) (hj : j < (pcsF s).length) : ((pcsF s).getD j ByteArray.empty).size ≤ 1048576 := by
  unfold pcsF at hj ⊢
  refine splitB_size { data := #[59] } 1048576 (min 15 (s.size + 1) - 1) s h _ ?_
  rw [List.getD_eq_getElem?_getD, List.getElem?_eq_getElem hj]
  exact List.getElem_mem hj
theorem split_pcsF (s : ByteArray) (hs : s.size ≤ 1048576) (w : World) (E : EnvE w) :
    Calls Tryd.prog 24 #[.string s, .string { data := #[59] }, .int .i64 15] w fun e w' => ∃ g c, e = .returned (.slice (some ⟨g, 0, none⟩) (pcsF s).length c) ∧ w.heap.size ≤ g ∧ g < w'.heap.size ∧ (∀ j, j < (pcsF s).length → w'.cell? ⟨g, j, none⟩ = some (.string ((pcsF s).getD j ByteArray.empty))) ∧ Below w.heap.size w w' := by
  obtain ⟨m, hm⟩ := E.max
  refine (strings_SplitN s { data := #[59] } 15 m w (by omega) hm (by decide) (by omega) (by omega)).mono ?_
  rintro e w' ⟨rfl, rfl⟩
  refine ⟨w.heap.size, _, rfl, Nat.le_refl _, by simp, fun j hj => ?_, (Below.refl _ _).alloc (Nat.le_refl _) _⟩
  rw [World.cell?_alloc_mark]
  exact cellsOf_at _ _ j hj
theorem ftx_more (fs : List Kn) : ∀ k, k ≤ (ftx fs k).size + 1 := by
  intro k
  induction k with
  | zero => omega
  | succ k ih =>
    have e : ({ data := #[59] } : ByteArray).size = 1 := rfl
    rw [ftx, ByteArray.size_append]
    split
    · rw [ByteArray.size_append, e]; omega
    · omega
theorem pcs_fam {fs : List Kn} (hf : famB fs = true) : pcsF (ftx fs fs.length) = (List.range fs.length).map (wordK fs) := by
  have hn := famB_len hf
  have hmore := ftx_more fs fs.length
  have hd : Lib.splitK [59] 0 (min 15 ((ftx fs fs.length).size + 1) - 1) (Lib.join (wordsF fs fs.length) [59]) = wordsF fs fs.length := by
    refine splitK_join _ _ (wordsF_semi hf) (wordsF_ne hf) ?_
    have : (wordsF fs fs.length).length = fs.length := by simp [wordsF]
    rw [this]
    omega
  have hm := Lib.splitB_data { data := #[59] } 0 (min 15 ((ftx fs fs.length).size + 1) - 1) (ftx fs fs.length)
  rw [ftx_data, show ({ data := #[59] } : ByteArray).data.toList = [59] from rfl, hd] at hm
  have hi := congrArg (List.map fun l : List UInt8 => (⟨l.toArray⟩ : ByteArray)) hm
  rw [List.map_map] at hi
  have hg : ((fun l : List UInt8 => (⟨l.toArray⟩ : ByteArray)) ∘ fun b : ByteArray => b.data.toList) = id := by
    funext b
    exact Lib.mk_data b
  rw [hg, List.map_id] at hi
  unfold pcsF
  rw [hi]
  unfold wordsF
  rw [List.map_map]
  apply List.map_congr_left
  intro i _
  exact Lib.mk_data _
theorem flatK_set (xs : List Kn) : ∀ (k : Nat) (y f o : Int), k < xs.length → (((flatK xs).set (k * 3) (.int .i64 y)).set (k * 3 + 1) (.int .i64 f)).set (k * 3 + 2) (.int .i64 o) = flatK (xs.set k (y, f, o)) := by
  induction xs with
  | nil => intro k y f o hk; simp at hk
  | cons p xs ih =>
    intro k y f o hk
    cases k with
    | zero => rw [List.set_cons_zero, flatK_cons, flatK_cons]; rfl
    | succ k =>
      rw [List.set_cons_succ, flatK_cons, flatK_cons, ← ih k y f o (by simp at hk; omega), show (k + 1) * 3 = k * 3 + 1 + 1 + 1 by omega]
      rfl
theorem zerosK (n : Nat) : (madeCells #[Value.int .i64 0, .int .i64 0, .int .i64 0] (n * 3)).toList = flatK (List.replicate n (0, 0, 0)) := by
  have h2 : ∀ n, flatK (List.replicate n (0, 0, 0)) = List.replicate (n * 3) (Value.int .i64 0) := by
    intro n
    induction n with
    | zero => rfl
    | succ n ih => rw [List.replicate_succ, flatK_cons, ih, show (n + 1) * 3 = n * 3 + 1 + 1 + 1 by omega, List.replicate_succ, List.replicate_succ, List.replicate_succ]
  rw [h2]
  refine List.eq_replicate_iff.2 ⟨by simp [madeCells], fun x hx => ?_⟩
  simp [madeCells] at hx
  obtain ⟨i, hi, rfl⟩ := hx
  have : i % 3 = 0 ∨ i % 3 = 1 ∨ i % 3 = 2 := by omega
  rcases this with h | h | h <;> simp [h]
theorem at3_set (xs : List Kn) (k j : Nat) (p : Kn) (hk : k < xs.length) : at3 (xs.set k p) j = if j = k then p else at3 xs j := by
  unfold at3
  simp only [List.getD_eq_getElem?_getD, List.getElem?_set]
  by_cases h : k = j
  · subst h; simp [hk]
  · rw [if_neg h, if_neg (fun e => h e.symm)]
theorem ownK_of_row {B : Nat} {w : World} {g n c : Nat} {xs : List Kn} (hl : xs.length = n) (h : w.ownsRow B 37 3 (.slice (some ⟨g, 0, none⟩) n c) n (flatK xs)) : OwnK B w (.slice (some ⟨g, 0, none⟩) n c) xs := by
  subst hl
  exact h
/-- What was read, where the text is a family's. -/
theorem all_readF {s : ByteArray} {xs fs : List Kn} (hl : xs.length = (pcsF s).length) (hall : ∀ j, j < (pcsF s).length → ∀ fs k, famB fs = true → k < fs.length → (pcsF s).getD j ByteArray.empty = wordK fs k → at3 xs j = at3 fs k) (hf : famB fs = true) (hs : ftx fs fs.length = s) : xs = fs := by
  have hp := pcs_fam hf
  rw [hs] at hp
  have hr : (pcsF s).length = fs.length := by rw [hp]; simp
  apply List.ext_getElem (by omega)
  intro j h1 h2
  have e1 := hall j (by omega) fs j hf h2 (by rw [hp]; simp [List.getD_eq_getElem?_getD, List.getElem?_range h2])
  unfold at3 at e1
  simp only [List.getD_eq_getElem?_getD, List.getElem?_eq_getElem h1, List.getElem?_eq_getElem h2, Option.getD_some] at e1
  exact e1
theorem parsedF_false {s : ByteArray} (h : ¬ parsedF s = true) : parsedF s = false := by
  cases hp : parsedF s with
  | false => rfl
  | true => exact absurd hp h
theorem parseF_not {s : ByteArray} (h : parsedF s = false) : parseF s = [] := by unfold parseF; rw [h]; rfl
set_option maxHeartbeats 4000000 in
set_option maxRecDepth 100000 in
theorem imParse_of (s : ByteArray) (w : World) (hs : s.size ≤ 1048576) (E : EnvP w) (rs : List Kn) (ok : Bool) (hok : Hid (parsedF s = ok)) (hrs : Hid (parseF s = rs)) : Calls Tryd.prog 11 #[.string s] w (RetOwnKB rs ok w) := by
  obtain ⟨i0, hi, hz0, hz1, hz2⟩ := info_parts infoKin
  have HE := Lib.hid E
  clear E
  have hp1 : 0 < (pcsF s).length := splitB_pos _ _ _ _
  have hp9 := pcsF_len s
  go_enter Tryd.func11, Tryd.ntmps11
  go_wp2_with fail
  refine (split_pcsF s hs _ HE.out.e).mono ?_
  rintro e w2 ⟨g, c, rfl, hg0, hg1, hcs, hb0⟩
  have HC := Lib.hid hcs
  have HPS := Lib.hid (pcsF_size s hs)
  have hs0 := hb0.size
  have HE2 := Lib.hid (HE.out.kept hb0)
  clear hcs
  obtain ⟨n, hn⟩ : ∃ n, (pcsF s).length = n := ⟨_, rfl⟩
  have HN := Lib.hid hn
  rw [hn] at hp1 hp9 HC HPS ⊢
  clear hn
  go_wp2_with (first | (at_make; refine wpList_make_full _ rfl _ _ 26 rfl w2.heap.size 37 i0 _ 3 Tryd.underlying26 hi hz0 hz1 .i64 .i64 n n n rfl rfl rfl rfl ?c1 ?c2 ?c3 ?_))
  case c1 => rw [hz2]; omega
  case c2 => unfold maxLen; omega
  case c3 => exact Nat.le_refl _
  intro w3 hown hgr
  have hown2 : w3.ownsRow w2.heap.size 37 3 (.slice (some ⟨w2.heap.size, 0, none⟩) n n) n (flatK (List.replicate n (0, 0, 0))) := by rw [← zerosK]; exact hown
  have hb3 : Below w2.heap.size w2 w3 := (Below.refl w2.heap.size w2).grown hgr (Nat.le_refl _) (by intro k hk; cases hk)
  clear hown hgr
  go_wp2_with fail
  go_loopw [17] (fun v wr => ∃ (k : Nat) (xs : List Kn), k ≤ n ∧ v = .int .i64 (k : Int) ∧ xs.length = n ∧ Hid (∀ j, j < k → ∀ fs i, famB fs = true → i < fs.length → (pcsF s).getD j ByteArray.empty = wordK fs i → at3 xs j = at3 fs i) ∧ wr.ownsRow w2.heap.size 37 3 (.slice (some ⟨w2.heap.size, 0, none⟩) n n) n (flatK xs) ∧ Below w2.heap.size w2 wr) (fun v _ => n - (intOf v).toNat)
  case atStart => exact ⟨0, List.replicate n (0, 0, 0), Nat.zero_le _, rfl, by simp, Lib.hid (fun j hj => absurd hj (by omega)), hown2, hb3⟩
  case round =>
    obtain ⟨k, xs, hk, rfl, hxl, HA, hr, hb⟩ := hrel
    have hsz := hb.size
    have HE3 := Lib.hid (HE2.out.kept hb)
    have HX := Lib.hid hxl
    clear hxl
    by_cases hlt : k < n
    · have hc : wr.cell? ⟨g, k, none⟩ = some (.string ((pcsF s).getD k ByteArray.empty)) := (hb.cell (p := ⟨g, k, none⟩) hg1).trans (HC.out k hlt)
      have hxs := HPS.out k hlt
      have HK := Lib.hid (parseKin_any ((pcsF s).getD k ByteArray.empty) hxs wr HE3.out.e)
      have HA2 := Lib.hid (fun (p : Kn) (hp : ∀ fs i, famB fs = true → i < fs.length → (pcsF s).getD k ByteArray.empty = wordK fs i → p = at3 fs i) (j : Nat) (hj : j < k + 1) (fs : List Kn) (i : Nat) (hq : famB fs = true) (hi : i < fs.length) (hw : (pcsF s).getD j ByteArray.empty = wordK fs i) => (show at3 (xs.set k p) j = at3 fs i from by
        rw [at3_set xs k j p (by rw [HX.out]; exact hlt)]
        by_cases hjk : j = k
        · rw [if_pos hjk]; subst hjk; exact hp fs i hq hi hw
        · rw [if_neg hjk]; exact HA.out j (by omega) fs i hq hi hw))
      generalize (pcsF s).getD k ByteArray.empty = x at hc HK HA2 hxs
      obtain ⟨h0, h1, h2⟩ := flatK_at xs k (by rw [HX.out]; exact hlt)
      have HU := Lib.hid (And.intro h0 (And.intro h1 h2))
      have HR := Lib.hid hr
      have HM := Lib.hid (fun y f o => flatK_set xs k y f o (by rw [HX.out]; exact hlt))
      clear h0 h1 h2 hr HA
      go_wp2_with (go_at_call 25; refine (HK.out).mono ?_; rintro e w4 ⟨y, f, o, rfl, hyd, hcall⟩; have HYD := Lib.hid hyd; have hr2 := World.ownsRow.kept HR.out (below_grown hcall none) (by simp [Value.ownBlock]); have d0 := (World.ownsRow.cellAt hr2 (k * 3) (by omega)).trans HU.out.1; have d1 := (World.ownsRow.cellAt hr2 (k * 3 + 1) (by omega)).trans HU.out.2.1; have d2 := (World.ownsRow.cellAt hr2 (k * 3 + 2) (by omega)).trans HU.out.2.2; have f0 := World.ownsRow.frozenAt hr2 (k * 3); have f1 := World.ownsRow.frozenAt hr2 (k * 3 + 1); have f2 := World.ownsRow.frozenAt hr2 (k * 3 + 2); have HS := Lib.hid (World.ownsRow.stored (World.ownsRow.stored (World.ownsRow.stored hr2 (k * 3) (.int .i64 y)).1 (k * 3 + 1) (.int .i64 f)).1 (k * 3 + 2) (.int .i64 o)); have hb4 := Lib.hid (hb.trans (hcall.mono hsz)); clear hr2 hcall hyd)
      go_roundw
      case rel => exact ⟨k + 1, xs.set k (y, f, o), by omega, by go_num, by rw [List.length_set]; exact HX.out, Lib.hid (HA2.out (y, f, o) HYD.out), by rw [← HM.out]; exact HS.out.1, ((hb4.out.setCell (Nat.le_refl _) _).setCell (Nat.le_refl _) _).setCell (Nat.le_refl _) _⟩
      case measure => simp [intOf]; omega
    · obtain rfl : k = n := by omega
      have ho := ownK_of_row HX.out hr
      have hsh := ho.shape
      have hI := hsh.2.2.2.2.1
      have hlt2 := hsh.2.2.1
      have HO := Lib.hid ho
      have HB := Lib.hid (hb0.trans (hb.mono hs0))
      have HALL := Lib.hid (fun (fs : List Kn) (h1 : famB fs = true) (h2 : ftx fs fs.length = s) => all_readF (s := s) (xs := xs) (by rw [HX.out, HN.out]) (fun j hj => HA.out j (by rw [← HN.out]; exact hj)) h1 h2)
      have HT := famText_any xs w2.heap.size k wr (by rw [HX.out]; exact Nat.le_refl _) hlt2 hI HE3.out.t
      rw [HX.out] at HT
      have hlc : ¬ (k : Int) < (k : Int) := by omega
      clear HA hsh ho hr HC HPS hI
      cases hg : famB xs with
      | false =>
        have HF := Lib.hid (parsedF_false fun h => by
          have h1 := HALL.out _ (parsedF_parts h).2.2.1 (parsedF_parts h).2.2.2
          have h2 := (parsedF_parts h).2.2.1
          rw [← h1, hg] at h2
          cases h2)
        obtain rfl : ok = false := hok.out.symm.trans HF.out
        obtain rfl : rs = [] := hrs.out.symm.trans (parseF_not HF.out)
        rw [hg] at HT
        have HT' := Lib.hid HT
        clear HT hg
        generalize ftxOr xs = tx at HT'
        go_wp2_with (go_at_call 8; refine (HT'.out).mono ?_; rintro e w' ⟨rfl, hcall⟩)
        go_ret2
        exact ⟨_, rfl, ownK_nil _ _, HB.out.trans (hcall.mono HB.out.size)⟩
      | true =>
        rw [hg, show ftxOr xs = ftx xs xs.length by unfold ftxOr; rw [hg]; rfl] at HT
        by_cases heq : ftx xs xs.length = s
        · have hpt := fam_parsed hg
          rw [heq] at hpt HT
          have HT' := Lib.hid HT
          obtain rfl : ok = true := hok.out.symm.trans hpt.1
          obtain rfl : rs = xs := hrs.out.symm.trans (by unfold parseF; rw [if_pos hpt.1]; exact hpt.2)
          clear HT hg hpt heq
          go_wp2_with (go_at_call 8; refine (HT'.out).mono ?_; rintro e w' ⟨rfl, hcall⟩)
          go_ret2
          exact ⟨_, rfl, (HO.out.kept hcall).mono hs0, HB.out.trans (hcall.mono HB.out.size)⟩
        · have HF := Lib.hid (parsedF_false fun h => heq (by
            have h1 := HALL.out _ (parsedF_parts h).2.2.1 (parsedF_parts h).2.2.2
            rw [h1]; exact (parsedF_parts h).2.2.2))
          obtain rfl : ok = false := hok.out.symm.trans HF.out
          obtain rfl : rs = [] := hrs.out.symm.trans (parseF_not HF.out)
          have HT' := Lib.hid HT
          clear HT hg
          generalize ftx xs xs.length = tx at HT' heq
          have hne := str_ne heq
          go_wp2_with (go_at_call 8; refine (HT'.out).mono ?_; rintro e w' ⟨rfl, hcall⟩)
          go_ret2
          exact ⟨_, rfl, ownK_nil _ _, HB.out.trans (hcall.mono HB.out.size)⟩
theorem fsOf_small (s : ByteArray) : (parseF s).length ≤ 1048576 := by
  cases h : parsedF s with
  | false => rw [parseF_not h]; simp
  | true =>
    have h2 := famB_len (parsedF_parts h).2.2.1
    unfold parseF
    rw [if_pos h]
    omega
theorem parseFamily_both (s : ByteArray) (hs : s.size ≤ 1048576) : ∃ (rs : List Kn) (ok : Bool), rs.length ≤ 1048576 ∧
    (∀ w, EnvP w → Calls Tryd.prog 10 #[.string s] w (RetOwnKB rs ok w)) ∧
    (∀ w, EnvP w → Calls Tryd.prog 11 #[.string s] w (RetOwnKB rs ok w)) :=
  ⟨parseF s, parsedF s, fsOf_small s, fun w _ => spParse_any s w, fun w E => imParse_of s w hs E _ _ (Lib.hid rfl) (Lib.hid rfl)⟩
end Go.Proofs.YthmcimdnbapnhabDoor
