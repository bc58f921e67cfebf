/- Parents in common, siblings, cousins: the model's text. -/
import Derived.Test.YtmlcelleohhmcaaMo2
set_option linter.unusedVariables false
set_option linter.unusedSimpArgs false
namespace Go.Proofs.Ytmlcelleohhmcaa
open Go.RowKit

/-- A parent of somebody of a family is one of it, told before. -/
theorem parI_mem {fs : List Kn} {i : Nat} (hf : famB fs = true) (hi : i < fs.length) {p : Int} (hp : p ∈ parI fs i) : ∃ n : Nat, p = n ∧ n < i := by
  have h := fitB_par (famB_at hf i hi)
  unfold parI at hp
  rw [List.mem_filter] at hp
  obtain ⟨h1, h2⟩ := hp
  have h2' : 0 ≤ p := by simpa using h2
  simp only [List.mem_cons, List.not_mem_nil, or_false] at h1
  refine ⟨p.toNat, by omega, ?_⟩
  rcases h1 with rfl | rfl
  · rcases h with ⟨h, _⟩ | ⟨h, _⟩ <;> omega
  · rcases h with ⟨_, h⟩ | ⟨h, _, h'⟩
    · omega
    · rcases h' with h' | ⟨_, h', _⟩ <;> omega
theorem parI_getD {fs : List Kn} {i k : Nat} (hf : famB fs = true) (hi : i < fs.length) (hk : k < (parI fs i).length) : ∃ n : Nat, (parI fs i).getD k 0 = n ∧ n < i := by
  have e : (parI fs i).getD k 0 = (parI fs i)[k] := by simp [List.getElem?_eq_getElem hk]
  rw [e]; exact parI_mem hf hi (List.getElem_mem hk)
/-- How many of the first k numbers are among the others. -/
def shT (zs ys : List Int) (k : Nat) : Nat := ((zs.take k).filter fun p => ys.contains p).length
theorem shT_yes {zs ys : List Int} {k : Nat} (hk : k < zs.length) (h : ys.contains (zs.getD k 0) = true) : shT zs ys (k + 1) = shT zs ys k + 1 := by
  have e : zs.getD k 0 = zs[k] := by simp [List.getElem?_eq_getElem hk]
  rw [e] at h
  unfold shT
  rw [List.take_succ_eq_append_getElem hk, List.filter_append, List.filter_cons, if_pos h, List.filter_nil, List.length_append]; rfl
theorem shT_no {zs ys : List Int} {k : Nat} (hk : k < zs.length) (h : ys.contains (zs.getD k 0) = false) : shT zs ys (k + 1) = shT zs ys k := by
  have e : zs.getD k 0 = zs[k] := by simp [List.getElem?_eq_getElem hk]
  rw [e] at h
  unfold shT
  rw [List.take_succ_eq_append_getElem hk, List.filter_append, List.filter_cons, if_neg (by rw [h]; simp), List.filter_nil, List.append_nil]
def shM (fs : List Kn) (i j : Nat) : Nat := shT (parI fs i) (parI fs j) (parI fs i).length
set_option maxHeartbeats 2000000 in
theorem faShared_any (fs : List Kn) (b c i j : Nat) (w : World) (h : Fm fs w b c) (hi : i < fs.length) (hj : j < fs.length) :
    Calls Try.prog 78 #[.slice (some ⟨b, 0, none⟩) fs.length c, .int .i64 i, .int .i64 j] w (Ret (.int .i64 (shM fs i j)) w) := by
  have HP := Lib.hid (faParents_any fs b c i w h hi)
  have HJ := Lib.hid (fun (W : World) (hb : Below w.heap.size w W) => faParents_any fs b c j W (h.kept hb) hj)
  have hl1 := parI_len fs i
  have hl2 := parI_len fs j
  have HE : Hid (shM fs i j = shT (parI fs i) (parI fs j) (parI fs i).length) := Lib.hid rfl
  clear h
  generalize shM fs i j = r at HE ⊢
  generalize parI fs i = zs at HP hl1 HE
  generalize parI fs j = ys at HJ hl2 HE
  go_enter Try.func78, Try.ntmps78
  go_wp2_with (first | (go_at_call 49; refine HP.out.mono ?_; rintro e w1 ⟨v1, rfl, ho1, hb1⟩; obtain ⟨a1, c1, rfl, har⟩ := ho1.arg))
  have HA := Lib.hid har.2
  have hs1 := hb1.size
  clear har ho1
  generalize hnz : zs.length = nz at hl1 HE HA ⊢
  have HN := Lib.hid hnz
  clear hnz
  go_loopw [7, 14] (fun u v wr => ∃ k : Nat, k ≤ nz ∧ v = .int .i64 k ∧ u = .int .i64 (shT zs ys k) ∧ Below w1.heap.size w1 wr) (fun _ v _ => nz - (intOf v).toNat)
  case atStart => exact ⟨0, Nat.zero_le _, rfl, rfl, Below.refl _ _⟩
  case round =>
    obtain ⟨k, hk, rfl, rfl, hb⟩ := hrel
    have hsz := hb.size
    by_cases hlt : k < nz
    · rcases HA.out with h0 | ⟨g, off, rfl, hgl, hI⟩
      · omega
      have hc := (hI.kept hb hgl) k (by rw [HN.out]; exact hlt)
      have hkT : shT zs ys k ≤ 2 := Nat.le_trans (List.length_filter_le _ _) (by simp; omega)
      have HY := Lib.hid (fun h => shT_yes (zs := zs) (ys := ys) (k := k) (by rw [HN.out]; exact hlt) h)
      have HX := Lib.hid (fun h => shT_no (zs := zs) (ys := ys) (k := k) (by rw [HN.out]; exact hlt) h)
      have HJ2 := Lib.hid (HJ.out wr (hb1.trans (hb.mono hs1)))
      have hk0 : (0 : Int) ≤ (k : Int) := by omega
      have hk1 : (k : Int) < (nz : Int) := by omega
      clear hI
      generalize zs.getD k 0 = z at hc HY HX
      generalize hT : shT zs ys k = T at hkT HY HX ⊢
      clear hT
      cases hz : ys.contains z with
      | true =>
        have HT := Lib.hid (HY.out hz)
        have HZ := Lib.hid hz
        clear hz HY HX
        go_wp2_with (first | (go_at_call 49; refine HJ2.out.mono ?_; rintro e w2 ⟨v2, rfl, ho2, hb2⟩; have hbw := hb.trans (hb2.mono hsz)) | (go_at_call 48; refine (l1Has_own _ _ ys z _ (by omega) ho2).mono ?_; rw [HZ.out]; rintro e w' ⟨rfl, rfl⟩))
        go_roundw
        case rel => exact ⟨k + 1, by omega, by go_num, by rw [HT.out]; go_num, hbw⟩
        case measure => simp [intOf]; omega
      | false =>
        have HT := Lib.hid (HX.out hz)
        have HZ := Lib.hid hz
        clear hz HY HX
        go_wp2_with (first | (go_at_call 49; refine HJ2.out.mono ?_; rintro e w2 ⟨v2, rfl, ho2, hb2⟩; have hbw := hb.trans (hb2.mono hsz)) | (go_at_call 48; refine (l1Has_own _ _ ys z _ (by omega) ho2).mono ?_; rw [HZ.out]; rintro e w' ⟨rfl, rfl⟩))
        go_roundw
        case rel => exact ⟨k + 1, by omega, by go_num, by rw [HT.out], hbw⟩
        case measure => simp [intOf]; omega
    · have hkn : k = nz := by omega
      have HD := Lib.hid (show shT zs ys k = shT zs ys nz by rw [hkn])
      have hlc : ¬ (k : Int) < (nz : Int) := by omega
      clear hkn
      go_wp2
      go_ret
      exact ⟨by rw [HE.out, ← HD.out]; rfl, hb1.trans (hb.mono hs1)⟩
def sibM (fs : List Kn) (i j : Nat) : Bool := !((i : Int) == (j : Int)) && decide (0 < shM fs i j)
def halfM (fs : List Kn) (i j : Nat) : Bool := !((i : Int) == (j : Int)) && ((shM fs i j : Nat) : Int) == 1
theorem faSib_any (fs : List Kn) (b c i j : Nat) (w : World) (h : Fm fs w b c) (hi : i < fs.length) (hj : j < fs.length) :
    Calls Try.prog 61 #[.slice (some ⟨b, 0, none⟩) fs.length c, .int .i64 i, .int .i64 j] w (Ret (.bool (sibM fs i j)) w) := by
  by_cases hij : i = j
  · subst hij
    rw [show sibM fs i i = false by simp [sibM]]
    clear h
    go_enter Try.func61, Try.ntmps61
    go_wp2_with fail
    go_ret
    exact ⟨rfl, Below.refl _ _⟩
  · have hne : ((i : Int) == (j : Int)) = false := beq_eq_false_iff_ne.2 (by omega)
    have HS := Lib.hid (faShared_any fs b c i j w h hi hj)
    have HE : Hid (sibM fs i j = decide (0 < shM fs i j)) := Lib.hid (by unfold sibM; rw [hne]; rfl)
    clear h
    generalize sibM fs i j = r at HE ⊢
    generalize shM fs i j = s at HS HE
    go_enter Try.func61, Try.ntmps61
    go_wp2_with (go_at_call 78; refine HS.out.mono ?_; rintro e w' ⟨rfl, hb⟩)
    go_ret
    exact ⟨by rw [HE.out]; first | rfl | (simp; intro _; omega), hb⟩
def cousM (fs : List Kn) (i j : Nat) : Bool := !(((i : Int) == (j : Int)) || sibM fs i j) && (parI fs i).any fun x => (parI fs j).any fun y => sibM fs x.toNat y.toNat
theorem any_getD {zs : List Int} {q : Int → Bool} (k : Nat) (hk : k < zs.length) (h : q (zs.getD k 0) = true) : zs.any q = true := by
  have e : zs.getD k 0 = zs[k] := by simp [List.getElem?_eq_getElem hk]
  rw [e] at h
  exact List.any_eq_true.2 ⟨_, List.getElem_mem hk, h⟩
theorem any_none {zs : List Int} {q : Int → Bool} (h : ∀ k, k < zs.length → q (zs.getD k 0) = false) : zs.any q = false := by
  rw [List.any_eq_false]
  intro z hz
  obtain ⟨j, hj, rfl⟩ := List.getElem_of_mem hz
  simpa [List.getElem?_eq_getElem hj] using h j hj
set_option maxHeartbeats 4000000 in
theorem faCous_any (fs : List Kn) (b c i j : Nat) (w : World) (hf : famB fs = true) (h : Fm fs w b c) (hi : i < fs.length) (hj : j < fs.length) :
    Calls Try.prog 64 #[.slice (some ⟨b, 0, none⟩) fs.length c, .int .i64 i, .int .i64 j] w (Ret (.bool (cousM fs i j)) w) := by
  by_cases hij : i = j
  · subst hij
    rw [show cousM fs i i = false by simp [cousM]]
    clear h
    go_enter Try.func64, Try.ntmps64
    go_wp2_with fail
    go_ret
    exact ⟨rfl, Below.refl _ _⟩
  have hne : ((i : Int) == (j : Int)) = false := beq_eq_false_iff_ne.2 (by omega)
  have HS := Lib.hid (faSib_any fs b c i j w h hi hj)
  cases hs : sibM fs i j with
  | true =>
    rw [show cousM fs i j = false by unfold cousM; rw [hne, hs]; rfl]
    rw [hs] at HS
    clear h hs
    go_enter Try.func64, Try.ntmps64
    go_wp2_with (go_at_call 61; refine HS.out.mono ?_; rintro e w' ⟨rfl, hb⟩)
    go_ret
    exact ⟨rfl, hb⟩
  | false =>
    have HE : Hid (cousM fs i j = (parI fs i).any fun x => (parI fs j).any fun y => sibM fs x.toNat y.toNat) := Lib.hid (by unfold cousM; rw [hne, hs]; rfl)
    rw [hs] at HS
    have HP := Lib.hid (fun (W : World) (hb : Below w.heap.size w W) => faParents_any fs b c i W (h.kept hb) hi)
    have HJ := Lib.hid (fun (W : World) (hb : Below w.heap.size w W) => faParents_any fs b c j W (h.kept hb) hj)
    have HG1 := Lib.hid (fun k hk => parI_getD (k := k) hf hi hk)
    have HG2 := Lib.hid (fun k hk => parI_getD (k := k) hf hj hk)
    have HSS := Lib.hid (fun (W : World) (hb : Below w.heap.size w W) (x y : Nat) (hx : x < fs.length) (hy : y < fs.length) => faSib_any fs b c x y W (h.kept hb) hx hy)
    have hl1 := parI_len fs i
    have hl2 := parI_len fs j
    clear h hs hf
    generalize cousM fs i j = r at HE ⊢
    generalize parI fs i = zs at HP hl1 HE HG1
    generalize parI fs j = ys at HJ hl2 HE HG2
    go_enter Try.func64, Try.ntmps64
    go_wp2_with (first | (go_at_call 61; refine HS.out.mono ?_; rintro e w0 ⟨rfl, hb0⟩; have hs0 := hb0.size) | (go_at_call 49; refine (HP.out w0 hb0).mono ?_; rintro e w1 ⟨v1, rfl, ho1, hb1⟩; obtain ⟨a1, c1, rfl, har⟩ := ho1.arg))
    have HA := Lib.hid har.2
    have hb1 := hb0.trans (hb1.mono hs0)
    have hs1 := hb1.size
    clear har ho1
    generalize hnz : zs.length = nz at hl1 HA HG1 ⊢
    have HN := Lib.hid hnz
    clear hnz
    go_loopw [24] (fun v wr => ∃ k : Nat, k ≤ nz ∧ v = .int .i64 k ∧ Hid (∀ l, l < k → (ys.any fun y => sibM fs (zs.getD l 0).toNat y.toNat) = false) ∧ Below w1.heap.size w1 wr) (fun v _ => nz - (intOf v).toNat)
    case atStart => exact ⟨0, Nat.zero_le _, rfl, Lib.hid (fun l hl => absurd hl (by omega)), Below.refl _ _⟩
    case round =>
      obtain ⟨k, hk, rfl, HF, hb⟩ := hrel
      have hsz := hb.size
      by_cases hlt : k < nz
      · rcases HA.out with h0 | ⟨g, off, rfl, hgl, hI⟩
        · omega
        have hc := (hI.kept hb hgl) k (by rw [HN.out]; exact hlt)
        obtain ⟨x, hx1, hx2⟩ := HG1.out k hlt
        have HY := Lib.hid (fun (h : (ys.any fun y => sibM fs (zs.getD k 0).toNat y.toNat) = true) => any_getD (q := fun x => ys.any fun y => sibM fs x.toNat y.toNat) k (by rw [HN.out]; exact hlt) h)
        have HX := Lib.hid (fun (h : (ys.any fun y => sibM fs (zs.getD k 0).toNat y.toNat) = false) => ((fun l (hl : l < k + 1) => by rcases Nat.lt_succ_iff_lt_or_eq.1 hl with h' | rfl; exact HF.out l h'; exact h) : ∀ l, l < k + 1 → (ys.any fun y => sibM fs (zs.getD l 0).toNat y.toNat) = false))
        rw [hx1] at HY HX hc
        simp only [Int.toNat_natCast] at HY HX
        have hbw := hb1.trans (hb.mono hs1)
        have HJ2 := Lib.hid (HJ.out wr hbw)
        have hk0 : (0 : Int) ≤ (k : Int) := by omega
        have hk1 : (k : Int) < (nz : Int) := by omega
        clear hI hx1
        go_wp2_with (first | (go_at_call 49; refine HJ2.out.mono ?_; rintro e w2 ⟨v2, rfl, ho2, hb2⟩; obtain ⟨a2, c2, rfl, har2⟩ := ho2.arg))
        have HA2 := Lib.hid har2.2
        have hb2w := hbw.trans (hb2.mono hbw.size)
        have hb2k := hb.trans (hb2.mono hsz)
        have hs2 := hb2w.size
        clear har2 ho2
        generalize hny : ys.length = ny at hl2 HA2 HG2 ⊢
        have HM := Lib.hid hny
        clear hny
        go_loopw [32] (fun v wi => ∃ m : Nat, m ≤ ny ∧ v = .int .i64 m ∧ Hid (∀ l, l < m → sibM fs x (ys.getD l 0).toNat = false) ∧ Below w2.heap.size w2 wi) (fun v _ => ny - (intOf v).toNat)
        case atStart => exact ⟨0, Nat.zero_le _, rfl, Lib.hid (fun l hl => absurd hl (by omega)), Below.refl _ _⟩
        case round =>
          obtain ⟨m, hm, rfl, HF2, hbi⟩ := hrel
          have hszi := hbi.size
          by_cases hlt2 : m < ny
          · rcases HA2.out with h0 | ⟨g2, off2, rfl, hgl2, hI2⟩
            · omega
            have hc2 := (hI2.kept hbi hgl2) m (by rw [HM.out]; exact hlt2)
            obtain ⟨y, hy1, hy2⟩ := HG2.out m hlt2
            have HY2 := Lib.hid (fun (h : sibM fs x (ys.getD m 0).toNat = true) => any_getD (q := fun y => sibM fs x y.toNat) m (by rw [HM.out]; exact hlt2) h)
            have HX2 := Lib.hid (fun (h : sibM fs x (ys.getD m 0).toNat = false) => ((fun l (hl : l < m + 1) => by rcases Nat.lt_succ_iff_lt_or_eq.1 hl with h' | rfl; exact HF2.out l h'; exact h) : ∀ l, l < m + 1 → sibM fs x (ys.getD l 0).toNat = false))
            rw [hy1] at HY2 HX2 hc2
            simp only [Int.toNat_natCast] at HY2 HX2
            have hbz := hb2w.trans (hbi.mono hs2)
            have HS2 := Lib.hid (HSS.out _ hbz x y (by omega) (by omega))
            have hm0 : (0 : Int) ≤ (m : Int) := by omega
            have hm1 : (m : Int) < (ny : Int) := by omega
            clear hI2 hy1
            cases hsx : sibM fs x y with
            | true =>
              rw [hsx] at HS2
              have HR := Lib.hid (HY.out (HY2.out hsx))
              clear hsx HY2 HX2
              go_wp2_with (first | (go_at_call 61; refine HS2.out.mono ?_; rintro e w3 ⟨rfl, hb3⟩))
              go_ret
              exact ⟨by rw [HE.out, HR.out]; rfl, hbz.trans (hb3.mono hbz.size)⟩
            | false =>
              rw [hsx] at HS2
              have HR := Lib.hid (HX2.out hsx)
              clear hsx HY2 HX2
              go_wp2_with (first | (go_at_call 61; refine HS2.out.mono ?_; rintro e w3 ⟨rfl, hb3⟩))
              go_roundw
              case rel => exact ⟨m + 1, by omega, by go_num, HR, hbi.trans (hb3.mono hszi)⟩
              case measure => simp [intOf]; omega
          · have hlc2 : ¬ (m : Int) < (ny : Int) := by omega
            have HR := Lib.hid (HX.out (any_none (fun l hl => HF2.out l (by rw [HM.out] at hl; omega))))
            go_wp2_with fail
            go_roundw
            case rel => exact ⟨k + 1, by omega, by go_num, HR, hb2k.trans (hbi.mono hb2k.size)⟩
            case measure => simp [intOf]; omega
      · have hlc : ¬ (k : Int) < (nz : Int) := by omega
        have HR := Lib.hid (any_none (q := fun x => ys.any fun y => sibM fs x.toNat y.toNat) (fun l hl => HF.out l (by rw [HN.out] at hl; omega)))
        go_wp2_with fail
        go_ret
        exact ⟨by rw [HE.out, HR.out]; rfl, hb1.trans (hb.mono hs1)⟩
end Go.Proofs.Ytmlcelleohhmcaa
