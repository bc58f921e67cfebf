/- GenerationOf: both texts. -/
import Derived.Test.YthmcimdnbapnhaaGe
import Derived.Test.YthmcimdnbapnhaaToGen
set_option linter.unusedVariables false
set_option linter.unusedSimpArgs false
namespace Go.Proofs.Ythmcimdnbapnhaa
open Go.RowKit

set_option maxHeartbeats 2000000 in
theorem genQ_any (fs : List Kn) (g cc a : Nat) (w : World) (hf : famB fs = true) (hK : Kdr fs w g cc) (ha : a < fs.length) :
    Calls Try.prog 65 #[.slice (some ⟨g, 0, none⟩) fs.length cc, .agg #[.int .i64 (at3 fs a).1, .int .i64 (at3 fs a).2.1, .int .i64 (at3 fs a).2.2, .int .i64 a]] w (RetV (fun _ v => v = .int .i64 ((genL fs fs.length).getD a 0)) w) := by
  have HW := Lib.hid ((Below.refl w.heap.size w).alloc (Nat.le_refl _) (.cells #[.int .i64 (at3 fs a).1, .int .i64 (at3 fs a).2.1, .int .i64 (at3 fs a).2.2, .int .i64 a] 70))
  have HG := Lib.hid (fun (W : World) (hb : Below w.heap.size w W) => gens_any fs g cc W hf (hK.kept hb))
  have hx : (w.alloc (.cells #[.int .i64 (at3 fs a).1, .int .i64 (at3 fs a).2.1, .int .i64 (at3 fs a).2.2, .int .i64 a] 70)).cell? ⟨w.heap.size, 3, none⟩ = some (.int .i64 a) := by simp [go_sem]
  have hll := genL_len fs fs.length
  have hl0 : Hid ((genL fs fs.length).length = fs.length) := Lib.hid hll
  have ha0 : (0 : Int) ≤ (a : Int) := by omega
  have ha1 : (a : Int) < (fs.length : Int) := by omega
  clear hK hf hll
  generalize genL fs fs.length = zs at HG hl0 ⊢
  generalize (at3 fs a).1 = y at HW hx ⊢
  generalize (at3 fs a).2.1 = d at HW hx ⊢
  generalize (at3 fs a).2.2 = o at HW hx ⊢
  go_enter Try.func65, Try.ntmps65
  go_wp2_with fail
  go_region_with (first
      | (go_at_call 66; refine (HG.out _ HW.out.drew).mono ?_; rintro e w3 ⟨q, hq, he, ho, hcall⟩; rw [hl0.out] at he ho; subst he; have hcx := ho.shape.2.2.2.2.1 a (by rw [hl0.out]; omega); rw [Nat.zero_add] at hcx; have hx3 : w3.cell? ⟨w.heap.size, 3, none⟩ = some (.int .i64 a) := below_cell2 hcall hx; have hbf := HW.out.drew.trans (hcall.mono HW.out.drew.size); clear ho hq))
  all_goals
    go_wp2_with fail
    go_ret
    exact ⟨_, rfl, rfl, hbf⟩
def genB (fs : List Kn) (x : Int) : Int := if twoB fs x x = true then (genL fs fs.length).getD x.toNat 0 else 0
theorem imGen_any (fs : List Kn) (b c : Nat) (x : Int) (w : World) (hc : fs.length ≤ c) (hbl : b < w.heap.size) (hI : Kns w b 0 fs) :
    Calls Try.prog 33 #[.slice (some ⟨b, 0, none⟩) fs.length c, .int .i64 x] w (RetIB (genB fs x) (twoB fs x x) w) := by
  unfold genB
  cases h2 : twoB fs x x with
  | false =>
    rw [if_neg (by simp)]
    have HT := Lib.hid (tellOneGen_no fs b c x w hc hbl hI h2)
    clear hI h2
    go_enter Try.func33, Try.ntmps33
    go_wp2_with (first | (go_at_call 64; refine HT.out.mono ?_; rintro e w1 ⟨rfl, hb1⟩))
    go_ret2
    exact ⟨rfl, hb1⟩
  | true =>
    obtain ⟨hf, i, i2, rfl, hii, hi, hi2⟩ := twoB_yes h2
    clear hii hi2 i2
    rw [if_pos rfl, Int.toNat_natCast]
    have HT := Lib.hid (tellOneGen_yes fs (fun a _ v => v = .int .i64 ((genL fs fs.length).getD a 0)) b c i w hc hbl hI hf hi (fun W hb g cc a hK ha => genQ_any fs g cc a W hf hK ha))
    clear hI h2 hf
    generalize (genL fs fs.length).getD i 0 = r at HT ⊢
    go_enter Try.func33, Try.ntmps33
    go_wp2_with (first | (go_at_call 64; refine HT.out.mono ?_; rintro e w1 ⟨v1, rfl, rfl, hb1⟩))
    go_ret2
    exact ⟨rfl, hb1⟩
/-- The model's reckoning over the parents as numbers. -/
def gmaxI (g ps : List Int) : Nat → Int
  | 0 => 0
  | j + 1 => max (gmaxI g ps j) (g.getD (ps.getD j 0).toNat 0 + 1)
theorem gmaxI_eq (g : List Int) (ns : List Nat) : ∀ j, j ≤ ns.length → gmaxI g (castN ns) j = gmax g ns j := by
  intro j
  induction j with
  | zero => intro _; rfl
  | succ j ih =>
    intro hj
    rw [gmaxI, gmax, ih (by omega)]
    have e : ((castN ns).getD j 0).toNat = ns.getD j 0 := by
      unfold castN
      simp [List.getElem?_eq_getElem (show j < ns.length by omega)]
    rw [e]
theorem l1MostG_any (x y : Int) (w : World) : Calls Try.prog 87 #[.int .i64 x, .int .i64 y] w (RetSame (.int .i64 (max x y)) w) := by
  by_cases h : y < x
  · have e : max x y = x := by omega
    rw [e]; clear e
    go_enter Try.func87, Try.ntmps87
    go_wp2
    go_ret
    exact ⟨rfl, rfl⟩
  · have e : max x y = y := by omega
    rw [e]; clear e
    go_enter Try.func87, Try.ntmps87
    go_wp2
    go_ret
    exact ⟨rfl, rfl⟩
set_option maxHeartbeats 4000000 in
theorem faGens_any (fs : List Kn) (b c : Nat) (w : World) (hf : famB fs = true) (h : Fm fs w b c) :
    Calls Try.prog 63 #[.slice (some ⟨b, 0, none⟩) fs.length c] w (RetOwn (genL fs fs.length) w) := by
  obtain ⟨i0, hi, hz0, hz1, hz2⟩ := info_parts infoInt
  have hn := famB_len hf
  have HF := Lib.hid (fun (W : World) (hb : Below w.heap.size w W) (i : Nat) (hi : i < fs.length) => faParents_any fs b c i W (h.kept hb) hi)
  have HG := Lib.hid (fun i (hi : i < fs.length) k hk => parI_getD (fs := fs) (i := i) (k := k) hf hi hk)
  have HL := Lib.hid (genL_len fs)
  have HBd := Lib.hid (genL_bd fs)
  have HS := Lib.hid (fun k (hk : k < fs.length) => (show genL fs (k + 1) = genL fs k ++ [gmaxI (genL fs k) (parI fs k) (parI fs k).length] from by
    rw [genL, parI_eq hf hk, castN_len, gmaxI_eq _ _ _ (Nat.le_refl _)]))
  have HGB := Lib.hid (fun k (hk : k < fs.length) j (hj : j ≤ (parI fs k).length) => (show 0 ≤ gmaxI (genL fs k) (parI fs k) j ∧ gmaxI (genL fs k) (parI fs k) j ≤ (k : Int) + 1 from by
    rw [parI_eq hf hk] at hj ⊢
    rw [castN_len] at hj
    rw [gmaxI_eq _ _ _ hj]
    exact gmax_bd (by omega) (fun q => (genL_bd fs k q).2) j))
  clear h hf
  go_enter Try.func63, Try.ntmps63
  go_wp2
  go_loopw [3, 10] (fun u v wr => ∃ k : Nat, k ≤ fs.length ∧ v = .int .i64 k ∧ Hid (Own w.heap.size wr u (genL fs k)) ∧ Below w.heap.size w wr) (fun _ v _ => fs.length - (intOf v).toNat)
  case atStart => exact ⟨0, Nat.zero_le _, rfl, Lib.hid (own_nil _ _), Below.refl _ _⟩
  case round =>
    obtain ⟨k, hk, rfl, Ho, hb⟩ := hrel
    have hsz := hb.size
    by_cases hlt : k < fs.length
    · have HP := Lib.hid (HF.out wr hb k hlt)
      have hpl := parI_len fs k
      have HGk := Lib.hid (HG.out k hlt)
      have hgl := HL.out k
      have HBk := Lib.hid (HBd.out k)
      have HSk := Lib.hid (HS.out k hlt)
      have HGBk := Lib.hid (HGB.out k hlt)
      have hlc : (k : Int) < (fs.length : Int) := by omega
      have HX := Lib.hid (fun (w2 : World) (h2 : Below wr.heap.size wr w2) => (show Below w.heap.size w w2 ∧ Own w.heap.size w2 u3 (genL fs k) from ⟨hb.trans (h2.mono hsz), Ho.out.kept h2⟩))
      clear hb Ho
      generalize parI fs k = ps at HP hpl HGk HSk HGBk
      generalize genL fs k = gs at hgl HBk HSk HGBk HX
      have HGL := Lib.hid hgl
      clear hgl
      go_wp2_with (first | (go_at_call 58; refine HP.out.mono ?_; rintro e w2 ⟨v2, rfl, ho2, hb2⟩; obtain ⟨a2, c2, rfl, har⟩ := ho2.arg; obtain ⟨hbw, how⟩ := HX.out w2 hb2))
      have HA := Lib.hid har.2
      have HOW := Lib.hid how
      have hsz2 := hbw.size
      clear har ho2 how
      generalize hnp : ps.length = np at hpl HA HGk HSk HGBk ⊢
      have HNP := Lib.hid hnp
      clear hnp
      go_loopw [5, 17] (fun x v wi => ∃ j : Nat, j ≤ np ∧ v = .int .i64 j ∧ x = .int .i64 (gmaxI gs ps j) ∧ Below w2.heap.size w2 wi) (fun _ v _ => np - (intOf v).toNat)
      case atStart => exact ⟨0, Nat.zero_le _, rfl, rfl, Below.refl _ _⟩
      case round =>
        obtain ⟨j, hj, rfl, rfl, hbi⟩ := hrel
        have hszi := hbi.size
        by_cases hlt2 : j < np
        · rcases HA.out with h0 | ⟨g2, off2, rfl, hgl2, hI2⟩
          · omega
          have hc2 := (hI2.kept hbi hgl2) j (by rw [HNP.out]; exact hlt2)
          obtain ⟨p, hp1, hp2⟩ := HGk.out j hlt2
          rw [hp1] at hc2
          have hoi := HOW.out.kept hbi
          rcases hoi.cases with ⟨_, hnil⟩ | ⟨g3, c3, rfl, _, _, _, _, hI3, _⟩
          · have := HGL.out; rw [hnil] at this; simp at this; omega
          have hc3 := hI3 p (by rw [HGL.out]; exact hp2)
          rw [Nat.zero_add] at hc3
          have hqb := HBk.out p
          have hxb := HGBk.out j hj
          have HG1 : Hid (gmaxI gs ps (j + 1) = max (gmaxI gs ps j) (gs.getD p 0 + 1)) := Lib.hid (by rw [gmaxI, hp1, Int.toNat_natCast])
          have hll : gs.length = k := HGL.out
          generalize gs.getD p 0 = q at hqb HG1 hc3
          generalize gmaxI gs ps j = x at hxb HG1
          have HM := Lib.hid (fun W => l1MostG_any x (q + 1) W)
          rw [← HG1.out] at HM
          have hm0 : (0 : Int) ≤ (p : Int) := by omega
          have hm1 : (p : Int) < (gs.length : Int) := by rw [hll]; omega
          have hj0 : (0 : Int) ≤ (j : Int) := by omega
          have hj1 : (j : Int) < (np : Int) := by omega
          have hwr : IntKind.i64.wrap (q + 1) = q + 1 := IntWalk.i64_in _ (by omega)
          clear hp1 hoi hI3 hI2 hll HG1
          go_wp2_with (first | (go_at_call 87; refine (HM.out _).mono ?_; rintro e w' ⟨rfl, rfl⟩))
          go_roundw
          case rel => exact ⟨j + 1, by omega, by go_num, rfl, hbi⟩
          case measure => simp [intOf]; omega
        · have hjn : j = np := by omega
          have HD := Lib.hid (show genL fs (k + 1) = gs ++ [gmaxI gs ps j] by rw [HSk.out, hjn])
          have hlc2 : ¬ (j : Int) < (np : Int) := by omega
          have hxb := HGBk.out j hj
          have how := HOW.out.kept hbi
          have hbx := hbw.trans (hbi.mono hsz2)
          have hxl : gs.length ≤ 14 := by have := HGL.out; omega
          clear hjn
          generalize gmaxI gs ps j = x at HD hxb
          generalize hgx : gs = xs at HD how hxl
          clear hgx
          go_wp2_with (first | (at_builtin; refine wpList_append_own _ rfl _ _ 37 rfl w.heap.size 3 i0 (.int .i64 0) 1 8 Try.underlying37 hi hz0 hz1 hz2 rfl (by decide) u3 xs.length (xs.map (Value.int .i64)) rfl (World.ownsRow.alloc how _) ⟨wr.heap.size, 0, none⟩ 1 1 [.int .i64 x] rfl rfl (newCell _ _ _) (oneInt _) ?c4 ?c5 ?c6 ?_))
          case c4 => unfold maxLen; omega
          case c5 => omega
          case c6 => first | (simp; omega) | omega | (have := hbx.size; simp at *; omega)
          intro v' w3 hown' hgrow _
          have hb3 := below_push hbx how hgrow
          have Ho3 : Hid (Own w.heap.size w3 v' (genL fs (k + 1))) := Lib.hid (by rw [HD.out]; exact own_push hown')
          clear hown' hgrow how
          go_wp2
          go_roundw
          case rel => exact ⟨k + 1, by omega, by go_num, Ho3, hb3⟩
          case measure => simp [intOf]; omega
    · have hkn : k = fs.length := by omega
      have HD := Lib.hid (show genL fs k = genL fs fs.length by rw [hkn])
      have hlc : ¬ (k : Int) < (fs.length : Int) := by omega
      clear hkn
      go_wp2_with fail
      go_ret
      exact ⟨_, rfl, by rw [← HD.out]; exact Ho.out, hb⟩
theorem spGen_any (fs : List Kn) (b c : Nat) (x : Int) (w : World) (hc : fs.length ≤ c) (hbl : b < w.heap.size) (hI : Kns w b 0 fs) :
    Calls Try.prog 32 #[.slice (some ⟨b, 0, none⟩) fs.length c, .int .i64 x] w (RetIB (genB fs x) (twoB fs x x) w) := by
  have HT := Lib.hid (faWho_any fs b c x w hc hbl hI)
  rw [whoB_eq] at HT
  unfold genB
  cases h2 : twoB fs x x with
  | false =>
    rw [if_neg (by simp)]
    rw [h2] at HT
    clear hI h2
    go_enter Try.func32, Try.ntmps32
    go_wp2_with (first | (go_at_call 57; refine HT.out.mono ?_; rintro e w1 ⟨rfl, hb1⟩; have hs1 := hb1.size))
    go_ret2
    exact ⟨rfl, hb1⟩
  | true =>
    rw [h2] at HT
    obtain ⟨hf, i, i2, rfl, hii, hi, hi2⟩ := twoB_yes h2
    clear hii hi2 i2
    rw [if_pos rfl, Int.toNat_natCast]
    have hF : Fm fs w b c := ⟨hI, hbl, hc, (famB_len hf).2⟩
    have HS := Lib.hid (fun (W : World) (hb : Below w.heap.size w W) => faGens_any fs b c W hf (hF.kept hb))
    have hll := genL_len fs fs.length
    have HLL := Lib.hid hll
    clear hI h2 hf hF hll
    generalize genL fs fs.length = zs at HS HLL ⊢
    go_enter Try.func32, Try.ntmps32
    go_wp2_with (first | (go_at_call 57; refine HT.out.mono ?_; rintro e w1 ⟨rfl, hb1⟩; have hs1 := hb1.size))
    refine (HS.out w1 hb1).mono ?_
    rintro e w2 ⟨v2, rfl, ho2, hb2⟩
    rcases ho2.cases with ⟨_, hnil⟩ | ⟨g3, c3, rfl, _, _, _, _, hI3, _⟩
    · have := HLL.out; rw [hnil] at this; simp at this; omega
    have hc3 := hI3 i (by rw [HLL.out]; exact hi)
    rw [Nat.zero_add] at hc3
    have hi0 : (0 : Int) ≤ (i : Int) := by omega
    have hi1 : (i : Int) < (zs.length : Int) := by rw [HLL.out]; omega
    clear hI3 ho2
    go_wp2_with fail
    go_ret2
    exact ⟨rfl, hb1.trans (hb2.mono hs1)⟩
theorem genOf_both (ds : List Kn) (x1 : Int) : ∃ r ok,
    (∀ b c w, ds.length ≤ 1048576 → ds.length ≤ c → b < w.heap.size → Kns w b 0 ds → Calls Try.prog 32 #[.slice (some ⟨b, 0, none⟩) ds.length c, .int .i64 x1] w (RetIB r ok w)) ∧
    (∀ b c w, ds.length ≤ 1048576 → ds.length ≤ c → b < w.heap.size → Kns w b 0 ds → Calls Try.prog 33 #[.slice (some ⟨b, 0, none⟩) ds.length c, .int .i64 x1] w (RetIB r ok w)) :=
  ⟨_, _, fun b c w _ hc hb hI => spGen_any ds b c x1 w hc hb hI, fun b c w _ hc hb hI => imGen_any ds b c x1 w hc hb hI⟩
end Go.Proofs.Ythmcimdnbapnhaa
