/- The text of a family: the program's; both texts. -/
import Derived.Test.YthmcimdnbapnhabDoorFt1
import Derived.Test.YthmcimdnbapnhabDoorFb3
set_option linter.unusedVariables false
set_option linter.unusedSimpArgs false
namespace Go.Proofs.YthmcimdnbapnhabDoor
open Go.RowKit

theorem infoStr : (Tryd.prog.info? 9).map (fun i => (i.zero, i.size, i.bytes)) = some (some (.string ByteArray.empty), 1, 16) := by kernel_rfl
theorem kp_par {fs : List Kn} (hf : famB fs = true) {k : Nat} (hk : k < fs.length) : kp (at3 fs k).2.1 (at3 fs k).2.2 = parI fs k := by
  have h := fitB_par (famB_at hf k hk)
  unfold kp parI
  apply List.filter_congr
  intro x hx
  have hx2 : x = -1 ∨ 0 ≤ x := by
    simp only [List.mem_cons, List.not_mem_nil, or_false] at hx
    rcases hx with rfl | rfl
    · rcases h with h | h <;> omega
    · rcases h with h | ⟨h1, h2, h3⟩
      · omega
      · rcases h3 with h3 | h3 <;> omega
  rcases hx2 with rfl | hx2
  · rfl
  · have e : (x == -1) = false := beq_eq_false_iff_ne.2 (by omega)
    rw [e, decide_eq_true hx2]; rfl
/-- The first k words, the others still empty. -/
def rowW (fs : List Kn) (n k : Nat) : List Value := (List.range k).map (fun i => Value.string (wordK fs i)) ++ List.replicate (n - k) (.string ByteArray.empty)
/-- The same while word k is being written. -/
def rowY (fs : List Kn) (n k : Nat) (x : ByteArray) : List Value := (List.range k).map (fun i => Value.string (wordK fs i)) ++ (.string x :: List.replicate (n - (k + 1)) (.string ByteArray.empty))
theorem rowW_zero (fs : List Kn) (n : Nat) : (madeCells #[Value.string ByteArray.empty] n).toList = rowW fs n 0 := by
  rw [toList_madeCells_one]; simp [rowW]
theorem rowW_start (fs : List Kn) (n k : Nat) (h : k < n) : rowW fs n k = rowY fs n k ByteArray.empty := by
  unfold rowW rowY
  rw [show n - k = (n - (k + 1)) + 1 by omega, List.replicate_succ]
theorem rowY_set (fs : List Kn) (n k : Nat) (x y : ByteArray) : (rowY fs n k x).set k (.string y) = rowY fs n k y := by
  unfold rowY
  rw [List.set_append]
  simp
theorem rowY_at (fs : List Kn) (n k : Nat) (x : ByteArray) : (rowY fs n k x)[k]? = some (.string x) := by
  unfold rowY
  rw [List.getElem?_append_right (by simp)]
  simp
theorem rowY_next (fs : List Kn) (n k : Nat) : rowY fs n k (wordK fs k) = rowW fs n (k + 1) := by
  unfold rowY rowW
  rw [List.range_succ, List.map_append, List.append_assoc]
  rfl
theorem rowW_all (fs : List Kn) (n j : Nat) (hj : j < n) : (rowW fs n n)[j]? = some (.string (wordK fs j)) := by
  simp [rowW, List.getElem?_range hj]
def wordsF (fs : List Kn) (n : Nat) : List (List UInt8) := (List.range n).map fun i => (wordK fs i).data.toList
theorem ftx_join (fs : List Kn) : ∀ n, ftx fs n = ⟨(Lib.join (wordsF fs n) [59]).toArray⟩ := by
  intro n
  induction n with
  | zero => rfl
  | succ n ih =>
    have hw : wordK fs n = ⟨((wordK fs n).data.toList).toArray⟩ := by apply ByteArray.ext; simp
    have e59 : ({ data := #[59] } : ByteArray) = ⟨([59] : List UInt8).toArray⟩ := rfl
    rw [ftx, show wordsF fs (n + 1) = wordsF fs n ++ [(wordK fs n).data.toList] from by simp [wordsF, List.range_succ]]
    by_cases h : 0 < n
    · rw [if_pos h, join_snoc (by intro e; have : (wordsF fs n).length = 0 := by rw [e]; rfl
                                  simp [wordsF] at this; omega), ih, e59]
      conv => lhs; rw [hw]
      rw [bytes_append, bytes_append]
      simp
    · have h0 : n = 0 := by omega
      subst h0
      rw [if_neg h]
      show ByteArray.empty ++ wordK fs 0 = ⟨(Lib.join [(wordK fs 0).data.toList] [59]).toArray⟩
      rw [Lib.join_one]
      apply ByteArray.ext
      simp
theorem join_fam (g n c : Nat) (fs : List Kn) (w : World) (hf : famB fs = true) (hl : fs.length = n) (hgs : g < w.heap.size) (hcn : n ≤ c) (hc : ∀ j, j < n → w.cell? ⟨g, j, none⟩ = some (.string (wordK fs j))) :
    Calls Tryd.prog 20 #[.slice (some ⟨g, 0, none⟩) n c, .string { data := #[59] }] w (RetS (ftx fs n) w) := by
  have h8 := famB_len hf
  have hsz := ftx_size hf n (by omega)
  have hm : ((List.range n).map (wordK fs)).map (fun b : ByteArray => b.data.toList) = wordsF fs n := by unfold wordsF; rw [List.map_map]; rfl
  have hj : (Lib.join (((List.range n).map (wordK fs)).map (fun b : ByteArray => b.data.toList)) [59]).length ≤ 140737488355328 := by
    rw [hm]
    have : (ftx fs n).size = (Lib.join (wordsF fs n) [59]).length := by rw [ftx_join, Lib.size_eq]
    omega
  have hn : ((List.range n).map (wordK fs)).length = n := by simp
  have h := strings_Join g 0 c ((List.range n).map (wordK fs)) { data := #[59] } w (fun j x hx => by
    have hjn : j < n := by rw [← hn]; exact (List.getElem?_eq_some_iff.1 hx).1
    rw [Nat.zero_add, hc j hjn]
    rw [List.getElem?_map, List.getElem?_range hjn] at hx
    simp only [Option.map_some, Option.some.injEq] at hx
    rw [hx]) hgs (by omega) (by omega) hj
  rw [hn] at h
  refine h.mono ?_
  rintro e w' ⟨rfl, hb⟩
  refine ⟨?_, hb⟩
  have e59 : ({ data := #[59] } : ByteArray).data.toList = [59] := rfl
  rw [hm, e59, ftx_join]
/-- What holds while a word is being written. -/
structure KtSt (w0 : World) (P n g : Nat) (xs : List Value) (ps : List Int) (w : World) : Prop where
  bel : Below w0.heap.size w0 w
  row : w.ownsRow w0.heap.size 9 1 (.slice (some ⟨P, 0, none⟩) n n) n xs
  own : Own (P + 1) w (.slice (some ⟨g, 0, none⟩) ps.length 2) ps
theorem KtSt.kept {w0 w w' : World} {P n g : Nat} {xs : List Value} {ps : List Int} (h : KtSt w0 P n g xs ps w) (hb : Below w.heap.size w w') : KtSt w0 P n g xs ps w' :=
  ⟨h.bel.trans (hb.mono h.bel.size), World.ownsRow.kept h.row (below_grown hb none) (by simp [Value.ownBlock]), h.own.kept hb⟩
theorem KtSt.drew {w0 w : World} {P n g : Nat} {xs : List Value} {ps : List Int} (h : KtSt w0 P n g xs ps w) : KtSt w0 P n g xs ps w.drew := h.kept ((Below.refl w.heap.size w).drew)
theorem KtSt.cellK {w0 w : World} {P n g k : Nat} {xs : List Value} {ps : List Int} {u : Value} (h : KtSt w0 P n g xs ps w) (hku : k < n ∧ xs[k]? = some u) : w.cell? ⟨P, k, none⟩ = some u :=
  (World.ownsRow.cellAt h.row k (by omega)).trans hku.2
theorem KtSt.set {w0 w : World} {P n g k : Nat} {xs : List Value} {ps : List Int} (h : KtSt w0 P n g xs ps w) (hP : w0.heap.size ≤ P) (u : Value) : KtSt w0 P n g (xs.set k u) ps (w.setCell ⟨P, k, none⟩ u) := by
  have hs := World.ownsRow.stored h.row k u
  refine ⟨h.bel.setCell hP _, hs.1, World.ownsRow.kept h.own hs.2 (.inr ?_)⟩
  have := (World.ownsRow.lt h.own g rfl).1
  simp [Value.ownBlock]; omega

set_option maxHeartbeats 4000000 in
set_option maxRecDepth 100000 in
theorem famText_yes (fs : List Kn) (b c : Nat) (w : World) (hc : fs.length ≤ c) (hbl : b < w.heap.size) (hI : Kns w b 0 fs) (hf : famB fs = true) (E : EnvT w) :
    Calls Tryd.prog 8 #[.slice (some ⟨b, 0, none⟩) fs.length c] w (RetSB (ftx fs fs.length) true w) := by
  obtain ⟨i0, hi, hz0, hz1, hz2⟩ := info_parts infoStr
  have hn := famB_len hf
  have hA := imFam_any b fs.length c fs w rfl hc hbl hI
  rw [hf] at hA
  have HA := Lib.hid hA
  have HE := Lib.hid E
  have HG0 := Lib.hid (fun i (hi : i < fs.length) k hk => parI_getD (fs := fs) (i := i) (k := k) hf hi hk)
  have HWS := Lib.hid (fun k (hk : k < fs.length) => word_size hf hk)
  have HYB := Lib.hid (fun k (hk : k < fs.length) => fitB_born (famB_at hf k hk))
  have HKP := Lib.hid (fun k (hk : k < fs.length) => kp_par hf hk)
  have HJ := Lib.hid (fun g W h1 h2 => join_fam g fs.length fs.length fs W hf rfl h1 (Nat.le_refl _) h2)
  clear hf E hA
  go_enter Tryd.func8, Tryd.ntmps8
  go_wp2_with (first | (go_at_call 17; refine (HA.out).mono ?_; rintro e w1 ⟨rfl, hb1⟩) | (at_make; refine wpList_make_full _ rfl _ _ 40 rfl w1.heap.size 9 i0 (.string ByteArray.empty) 1 Tryd.underlying40 hi hz0 hz1 .i64 .i64 fs.length fs.length fs.length rfl rfl rfl rfl ?c1 ?c2 ?c3 ?_))
  case c1 => rw [hz2]; omega
  case c2 => unfold maxLen; omega
  case c3 => exact Nat.le_refl _
  intro w2 hown hgr
  have hI1 := hI.kept hb1 hbl
  have hbl1 : b < w1.heap.size := Nat.lt_of_lt_of_le hbl hb1.size
  have HE1 := Lib.hid (HE.out.kept hb1)
  clear HA hI
  go_wp2
  go_loopw [17] (fun v wr => ∃ k : Nat, k ≤ fs.length ∧ v = .int .i64 k ∧ Hid (wr.ownsRow w1.heap.size 9 1 (.slice (some ⟨w1.heap.size, 0, none⟩) fs.length fs.length) fs.length (rowW fs fs.length k)) ∧ Below w1.heap.size w1 wr) (fun v _ => fs.length - (intOf v).toNat)
  case atStart => exact ⟨0, Nat.zero_le _, rfl, Lib.hid (by rw [← rowW_zero]; simpa using hown), (Below.refl _ _).grown hgr (Nat.le_refl _) (by simp)⟩
  case round =>
    obtain ⟨k, hk, rfl, hr, hb⟩ := hrel
    have hsz := hb.size
    by_cases hlt : k < fs.length
    · obtain ⟨p1, p2, p3⟩ := (hI1.kept hb hbl1) k hlt
      rw [Nat.zero_add] at p1 p2 p3
      have hy := HYB.out k hlt
      have hkp := HKP.out k hlt
      have HKZ := Lib.hid (HWS.out k hlt)
      have HG := Lib.hid (HG0.out k hlt)
      have hpl := parI_len fs k
      have HNX : Hid (rowY fs fs.length k (kinW (at3 fs k).1 (parI fs k) (parI fs k).length) = rowW fs fs.length (k + 1)) := Lib.hid (rowY_next fs fs.length k)
      rw [rowW_start _ _ _ hlt] at hr
      have HIY := Lib.hid (fun (W : World) (hW : Below w1.heap.size w1 W) => itoa_year (at3 fs k).1 hy.1 hy.2 W (HE1.out.kept hW))
      have HKN := Lib.hid (fun W => known_any (at3 fs k).1 (at3 fs k).2.1 (at3 fs k).2.2 W)
      rw [hkp] at HKN
      have hsy := decB_size hy.1 hy.2
      clear hkp
      generalize parI fs k = ps at HKZ HG hpl HNX HKN
      generalize (at3 fs k).1 = y at p1 HKZ HNX HIY HKN hsy
      generalize (at3 fs k).2.1 = f at p2 HKN
      generalize (at3 fs k).2.2 = o at p3 HKN
      have HK0 : Hid (kinW y ps 0 = decB y) := Lib.hid rfl
      have hkb : (k : Int) < (fs.length : Int) := by omega
      have hk0 : (0 : Int) ≤ (k : Int) := by omega
      have hPl : w1.heap.size < wr.heap.size := (World.ownsRow.lt hr.out w1.heap.size rfl).2
      have hne1 : ¬ wr.heap.size = w1.heap.size := by omega
      have hne2 : ¬ w1.heap.size = wr.heap.size := by omega
      have hrA := Lib.hid (World.ownsRow.alloc hr.out (.cells #[.int .i64 y, .int .i64 f, .int .i64 o] 37))
      have hbA := Lib.hid (hb.alloc hsz (.cells #[.int .i64 y, .int .i64 f, .int .i64 o] 37))
      go_wp2_with (first | (go_at_call 18; refine (HIY.out _ hbA.out).mono ?_; rintro e w3 ⟨rfl, hb3⟩; have hr3 := World.ownsRow.kept hrA.out (below_grown hb3 none) (by simp [Value.ownBlock]); have v1 : w3.cell? ⟨wr.heap.size, 0, none⟩ = some (.int .i64 y) := below_cell2 hb3 (by simp [go_sem]); have v2 : w3.cell? ⟨wr.heap.size, 1, none⟩ = some (.int .i64 f) := below_cell2 hb3 (by simp [go_sem]); have v3 : w3.cell? ⟨wr.heap.size, 2, none⟩ = some (.int .i64 o) := below_cell2 hb3 (by simp [go_sem]); have k1 := (World.ownsRow.cellAt hr3 k (by omega)).trans (rowY_at fs fs.length k _); have k2 := World.ownsRow.frozenAt hr3 k; have hbw := hbA.out.trans (hb3.mono hbA.out.size)) | (go_at_call 19; refine (HKN.out _).mono ?_; rintro e w4 ⟨g, rfl, hg, ho4, hb4⟩; have hst := World.ownsRow.stored hr3 k (.string (decB y)); rw [rowY_set] at hst; have hst4 := World.ownsRow.kept hst.1 (below_grown hb4 none) (by simp [Value.ownBlock]); have hbx := (hbw.setCell (p := ⟨w1.heap.size, k, none⟩) (Nat.le_refl _) (.string (decB y))).trans (hb4.mono (hbw.setCell (p := ⟨w1.heap.size, k, none⟩) (Nat.le_refl _) (.string (decB y))).size); have HS4 := Lib.hid (show KtSt w1 w1.heap.size fs.length g (rowY fs fs.length k (decB y)) ps w4 from ⟨hbx, hst4, ho4.mono (by have h9 : w1.heap.size < w3.heap.size := (World.ownsRow.lt hr3 w1.heap.size rfl).2; simp; omega)⟩)))
      rw [← HK0.out] at HS4
      clear hr3 v1 v2 v3 k1 k2 hbw hst hst4 hbx hb3 ho4 hb4 hr hrA
      have HPW : Hid (w1.heap.size ≤ w1.heap.size) := Lib.hid (Nat.le_refl _)
      generalize hnp : ps.length = np at *
      have HNP := Lib.hid hnp
      clear hnp
      go_loopw [31] (fun v wr => ∃ j : Nat, j ≤ np ∧ v = .int .i64 j ∧ Hid (KtSt w1 w1.heap.size fs.length g (rowY fs fs.length k (kinW y ps j)) ps wr)) (fun v _ => np - (intOf v).toNat)
      case atStart => exact ⟨0, Nat.zero_le _, rfl, HS4⟩
      case round =>
        obtain ⟨j, hj, rfl, HS⟩ := hrel
        have hkz := HKZ.out j hj
        by_cases hlt2 : j < np
        · have hc2 := HS.out.own.shape.2.2.2.2.1 j (by rw [HNP.out]; exact hlt2)
          rw [Nat.zero_add] at hc2
          obtain ⟨p, hq1, hq2⟩ := HG.out j hlt2
          rw [hq1] at hc2
          have hIT0 := Lib.hid (fun (W : World) (hW : Below w1.heap.size w1 W) => itoa_year (p : Int) (by omega) (by omega) W (HE1.out.kept hW))
          have hds := decB_size (z := (p : Int)) (by omega) (by omega)
          have HXN : Hid (kinW y ps (j + 1) = kinW y ps j ++ ({ data := #[46] } ++ decB (p : Int))) := Lib.hid (by rw [kinW, hq1])
          have e46 : ({ data := #[46] } : ByteArray).size = 1 := rfl
          have hj0 : (0 : Int) ≤ (j : Int) := by omega
          have hj1 : (j : Int) < (np : Int) := by omega
          generalize kinW y ps j = X at HXN hkz HS
          generalize decB (p : Int) = d at hIT0 HXN hds
          have HIT := Lib.hid (fun (W : World) (S : KtSt w1 w1.heap.size fs.length g (rowY fs fs.length k X) ps W) => (hIT0.out W S.bel).mono (fun e W' h => (show e = .returned (.string d) ∧ KtSt w1 w1.heap.size fs.length g (rowY fs fs.length k X) ps W' from ⟨h.1, S.kept h.2⟩)))
          have q1 : ¬ 9223372036854775807 < ({ data := #[46] } : ByteArray).size + d.size := by omega
          have q2 : ¬ 9223372036854775807 < 1 + d.size := by omega
          have q3 : ¬ 9223372036854775807 < X.size + (({ data := #[46] } : ByteArray) ++ d).size := by rw [ByteArray.size_append]; omega
          have q4 : ¬ 9223372036854775807 < X.size + (1 + d.size) := by omega
          have hxk : Hid (k < fs.length ∧ (rowY fs fs.length k X)[k]? = some (.string X)) := Lib.hid ⟨hlt, rowY_at _ _ _ _⟩
          have HSX := Lib.hid (rowY_set fs fs.length k X (X ++ ({ data := #[46] } ++ d)))
          have hst := HS.out
          have x3 := hst.cellK hxk.out
          have x4 := World.ownsRow.frozenAt hst.row k
          generalize rowY fs fs.length k X = xs at hst HIT hxk HSX HS
          clear hq1 hkz e46 hds hIT0 HS
          go_wp2_with fail
          go_region_with (first | (go_at_call 18; refine (HIT.out _ (by first | assumption | exact KtSt.drew (by assumption))).mono ?_; rintro e w' ⟨rfl, hs'⟩; have y3' := hs'.cellK hxk.out; have y4' := World.ownsRow.frozenAt hs'.row k))
          all_goals
            have HS2 := Lib.hid (KtSt.set (k := k) hs' (Nat.le_refl _) (.string (X ++ ({ data := #[46] } ++ d))))
            rw [HSX.out] at HS2
            rw [← HXN.out] at HS2 ⊢
            go_wp2_with fail
            go_roundw
            case rel => exact ⟨j + 1, by omega, by go_num, HS2⟩
            case measure => simp [intOf]; omega
        · have hjn : j = np := by omega
          subst hjn
          have hrow := Lib.hid HS.out.row
          rw [HNX.out] at hrow
          have hbel := HS.out.bel
          have hlc2 : ¬ (j : Int) < (j : Int) := by omega
          go_wp2_with fail
          go_roundw
          case rel => exact ⟨k + 1, by omega, by go_num, hrow, hbel⟩
          case measure => simp [intOf]; omega
    · have hkn : k = fs.length := by omega
      rw [hkn] at hr
      have hlt0 := (World.ownsRow.lt hr.out w1.heap.size rfl).2
      have HC := Lib.hid (HJ.out w1.heap.size wr hlt0 (fun j hj => (World.ownsRow.cellAt hr.out j (by omega)).trans (rowW_all fs fs.length j hj)))
      have hlc : ¬ (k : Int) < (fs.length : Int) := by omega
      clear hkn hr
      go_wp2_with (go_at_call 20; refine (HC.out).mono ?_; rintro e w' ⟨rfl, hcall⟩)
      go_ret2
      exact ⟨rfl, hb1.trans ((hb.trans (hcall.mono hsz)).mono hb1.size)⟩
def ftxOr (fs : List Kn) : ByteArray := if famB fs = true then ftx fs fs.length else ByteArray.empty
set_option maxHeartbeats 1000000 in
theorem famText_any (fs : List Kn) (b c : Nat) (w : World) (hc : fs.length ≤ c) (hbl : b < w.heap.size) (hI : Kns w b 0 fs) (E : EnvT w) :
    Calls Tryd.prog 8 #[.slice (some ⟨b, 0, none⟩) fs.length c] w (RetSB (ftxOr fs) (famB fs) w) := by
  cases hf : famB fs with
  | true =>
    rw [show ftxOr fs = ftx fs fs.length by unfold ftxOr; rw [hf]; rfl]
    exact famText_yes fs b c w hc hbl hI hf E
  | false =>
    rw [show ftxOr fs = ByteArray.empty by unfold ftxOr; rw [hf]; rfl]
    have hA := imFam_any b fs.length c fs w rfl hc hbl hI
    rw [hf] at hA
    clear hf
    go_enter Tryd.func8, Tryd.ntmps8
    go_wp2_with (go_at_call 17; refine hA.mono ?_; rintro e w' ⟨rfl, hcall⟩)
    go_ret2
    exact ⟨rfl, hcall⟩
set_option maxHeartbeats 1000000 in
theorem spFamText_any (fs : List Kn) (b c : Nat) (w : World) (hc : fs.length ≤ c) (hbl : b < w.heap.size) (hI : Kns w b 0 fs) :
    Calls Tryd.prog 6 #[.slice (some ⟨b, 0, none⟩) fs.length c] w (RetSB (ftxOr fs) (famB fs) w) := by
  have hA := faGood_any b fs.length c fs w rfl hc hbl hI
  cases hf : famB fs with
  | true =>
    rw [show ftxOr fs = ftx fs fs.length by unfold ftxOr; rw [hf]; rfl]
    rw [hf] at hA
    have HT := Lib.hid (fun (W : World) (hb : Below w.heap.size w W) => faText_any fs b c W hf (Fm.kept ⟨hI, hbl, hc, (famB_len hf).2⟩ hb))
    clear hf hI
    go_enter Tryd.func6, Tryd.ntmps6
    go_wp2_with (first | (go_at_call 14; refine hA.mono ?_; rintro e w1 ⟨rfl, hcall⟩) | (go_at_call 15; refine (HT.out _ hcall).mono ?_; rintro e w2 ⟨rfl, hcall2⟩))
    go_ret2
    exact ⟨rfl, hcall.trans (hcall2.mono hcall.size)⟩
  | false =>
    rw [show ftxOr fs = ByteArray.empty by unfold ftxOr; rw [hf]; rfl]
    rw [hf] at hA
    clear hf hI
    go_enter Tryd.func6, Tryd.ntmps6
    go_wp2_with (go_at_call 14; refine hA.mono ?_; rintro e w' ⟨rfl, hcall⟩)
    go_ret2
    exact ⟨rfl, hcall⟩
theorem famText_both (ds : List Kn) : ∃ (r : ByteArray) (ok : Bool),
    (∀ b c w, EnvT w → ds.length ≤ 1048576 → ds.length ≤ c → b < w.heap.size → Kns w b 0 ds → Calls Tryd.prog 6 #[.slice (some ⟨b, 0, none⟩) ds.length c] w (RetSB r ok w)) ∧
    (∀ b c w, EnvT w → ds.length ≤ 1048576 → ds.length ≤ c → b < w.heap.size → Kns w b 0 ds → Calls Tryd.prog 8 #[.slice (some ⟨b, 0, none⟩) ds.length c] w (RetSB r ok w)) :=
  ⟨_, _, fun b c w _ _ hc hb hI => spFamText_any ds b c w hc hb hI, fun b c w E _ hc hb hI => famText_any ds b c w hc hb hI E⟩
end Go.Proofs.YthmcimdnbapnhabDoor
