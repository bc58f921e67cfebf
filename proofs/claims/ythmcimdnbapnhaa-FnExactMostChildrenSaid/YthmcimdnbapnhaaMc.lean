/- MostChildren: both texts. -/
import Derived.Test.YthmcimdnbapnhaaPo
set_option linter.unusedVariables false
set_option linter.unusedSimpArgs false
namespace Go.Proofs.Ythmcimdnbapnhaa
open Go.RowKit

/-- Who of the first k has the most, the first of several, and how many. -/
def bst (cnt : Nat → Nat) : Nat → Nat × Nat
  | 0 => (0, 0)
  | k + 1 => if (bst cnt k).2 < cnt k then (k, cnt k) else bst cnt k
theorem bst_yes {cnt : Nat → Nat} {k : Nat} (h : (bst cnt k).2 < cnt k) : bst cnt (k + 1) = (k, cnt k) := by rw [bst, if_pos h]
theorem bst_no {cnt : Nat → Nat} {k : Nat} (h : ¬ (bst cnt k).2 < cnt k) : bst cnt (k + 1) = bst cnt k := by rw [bst, if_neg h]
def msp (cnt : Nat → Nat) (k : Nat) : Int := if k = 0 then -1 else ((bst cnt k).2 : Int)
theorem msp_yes {cnt : Nat → Nat} {k : Nat} (h : msp cnt k < (cnt k : Int)) : (bst cnt (k + 1)).1 = k ∧ msp cnt (k + 1) = cnt k := by
  unfold msp at h ⊢
  rw [if_neg (by omega)]
  split at h
  · rename_i e
    subst e
    rw [bst]
    split
    · exact ⟨rfl, rfl⟩
    · rename_i h2
      simp only [bst] at h2 ⊢
      exact ⟨trivial, by omega⟩
  · rw [bst_yes (by omega)]; exact ⟨rfl, rfl⟩
theorem msp_no {cnt : Nat → Nat} {k : Nat} (h : ¬ msp cnt k < (cnt k : Int)) : (bst cnt (k + 1)).1 = (bst cnt k).1 ∧ msp cnt (k + 1) = msp cnt k := by
  unfold msp at h ⊢
  rw [if_neg (by omega)]
  split at h
  · omega
  · rename_i e
    rw [if_neg e, bst_no (by omega)]; exact ⟨rfl, rfl⟩
def cntC (fs : List Kn) (k : Nat) : Nat := (chiN fs k).length
theorem cntC_le (fs : List Kn) (h : fs.length ≤ 14) (k : Nat) : cntC fs k ≤ 14 := by
  have := chiN_len fs k; rw [allN_len] at this; unfold cntC; omega
theorem bst_le {cnt : Nat → Nat} (h : ∀ k, cnt k ≤ 14) : ∀ k, (bst cnt k).1 ≤ k ∧ (bst cnt k).2 ≤ 14 := by
  intro k
  induction k with
  | zero => simp [bst]
  | succ k ih =>
    rw [bst]
    split
    · exact ⟨by simp, h k⟩
    · exact ⟨by omega, ih.2⟩
def most1 (fs : List Kn) : Int := if famB fs = true then ((bst (cntC fs) fs.length).1 : Int) else 0
def most2 (fs : List Kn) : Int := if famB fs = true then ((bst (cntC fs) fs.length).2 : Int) else 0
set_option maxHeartbeats 2000000 in
theorem imMost_any (fs : List Kn) (b c : Nat) (w : World) (hc : fs.length ≤ c) (hbl : b < w.heap.size) (hI : Kns w b 0 fs) :
    Calls Try.prog 50 #[.slice (some ⟨b, 0, none⟩) fs.length c] w (RetIIB (most1 fs) (most2 fs) (famB fs) w) := by
  unfold most1 most2
  cases hf : famB fs with
  | false =>
    rw [if_neg (by simp), if_neg (by simp)]
    have HK := Lib.hid (kindred_no b fs.length c fs w rfl hc hbl hI hf)
    clear hI hf
    go_enter Try.func50, Try.ntmps50
    go_wp2_with (go_at_call 67; refine HK.out.mono ?_; rintro e w1 ⟨rfl, hb1⟩)
    go_rounds 1
    go_ret3
    exact ⟨rfl, hb1⟩
  | true =>
    rw [if_pos rfl, if_pos rfl]
    have hn := (famB_len hf).2
    have HK := Lib.hid (kindred_yes b fs.length c fs w rfl hc hbl hI hf)
    have hcl := cntC_le fs hn
    have hbl2 := bst_le hcl
    have HBL := Lib.hid hbl2
    clear hI hf hbl2
    go_enter Try.func50, Try.ntmps50
    go_wp2_with (go_at_call 67; refine HK.out.mono ?_; rintro e w1 ⟨g, hg, rfl, ho1, hb1⟩; have hK1 := Lib.hid (show Kdr fs w1 g fs.length from ⟨ho1.mono (Nat.zero_le _), hn⟩); have hs1 := hb1.size)
    have HR := Lib.hid ho1.shape.2.2.2.2.1
    have hgl := ho1.shape.2.2.1
    clear ho1
    go_loopw [5, 6, 19] (fun u5 u6 v wr => ∃ k : Nat, k ≤ fs.length ∧ v = .int .i64 k ∧ u5 = .int .i64 ((bst (cntC fs) k).1 : Nat) ∧ u6 = .int .i64 ((bst (cntC fs) k).2 : Nat) ∧ Below w1.heap.size w1 wr) (fun _ _ v _ => fs.length - (intOf v).toNat)
    case atStart => exact ⟨0, Nat.zero_le _, rfl, rfl, rfl, Below.refl _ _⟩
    case round =>
      obtain ⟨k, hk, rfl, rfl, rfl, hb⟩ := hrel
      have hsz := hb.size
      by_cases hlt : k < fs.length
      · obtain ⟨p1, p2, p3, p4⟩ := (HR.out.kept hb hgl) k (by rw [allN_len]; exact hlt)
        rw [allN_at fs k hlt, Nat.zero_add] at p1 p2 p3 p4
        have HC := Lib.hid (children_any fs g fs.length k (wr.alloc (.cells #[.int .i64 (at3 fs k).1, .int .i64 (at3 fs k).2.1, .int .i64 (at3 fs k).2.2, .int .i64 k] 70)) ((hK1.out.kept hb).above _))
        have hbw := hb.alloc hsz (.cells #[.int .i64 (at3 fs k).1, .int .i64 (at3 fs k).2.1, .int .i64 (at3 fs k).2.2, .int .i64 k] 70)
        have HE : Hid ((chiN fs k).length = cntC fs k) := Lib.hid rfl
        have hck := hcl k
        have hb14 := HBL.out k
        have HY := Lib.hid (fun h => bst_yes (cnt := cntC fs) (k := k) h)
        have HX := Lib.hid (fun h => bst_no (cnt := cntC fs) (k := k) h)
        have hlc : (k : Int) < (fs.length : Int) := by omega
        have hk0 : (0 : Int) ≤ (k : Int) := by omega
        generalize chiN fs k = zs at HC HE
        generalize cntC fs k = q at HE hck HY HX
        generalize bst (cntC fs) k = B at hb14 HY HX ⊢
        generalize (at3 fs k).1 = y at p1 HC hbw
        generalize (at3 fs k).2.1 = d at p2 HC hbw
        generalize (at3 fs k).2.2 = o at p3 HC hbw
        clear hcl
        by_cases hlt2 : B.2 < q
        · have HT := Lib.hid (HY.out hlt2)
          have hgt : (B.2 : Int) < (q : Int) := by omega
          clear HY HX
          go_wp2_with (first | (go_at_call 62; refine HC.out.mono ?_; rintro e w2 ⟨v2, rfl, ho2, hb2⟩; obtain ⟨a2, c2, rfl⟩ := ho2.form; rw [HE.out]; have hb2' := hbw.trans (hb2.mono hbw.size); have c4 : w2.cell? ⟨wr.heap.size, 3, none⟩ = some (.int .i64 k) := below_cell2 hb2 (by simp [go_sem])))
          go_roundw
          case rel => exact ⟨k + 1, by omega, by go_num, by rw [HT.out], by rw [HT.out], hb2'⟩
          case measure => simp [intOf]; omega
        · have HT := Lib.hid (HX.out hlt2)
          have hgt : ¬ (B.2 : Int) < (q : Int) := by omega
          clear HY HX
          go_wp2_with (first | (go_at_call 62; refine HC.out.mono ?_; rintro e w2 ⟨v2, rfl, ho2, hb2⟩; obtain ⟨a2, c2, rfl⟩ := ho2.form; rw [HE.out]; have hb2' := hbw.trans (hb2.mono hbw.size)))
          go_roundw
          case rel => exact ⟨k + 1, by omega, by go_num, by rw [HT.out], by rw [HT.out], hb2'⟩
          case measure => simp [intOf]; omega
      · have hkn : k = fs.length := by omega
        have HD := Lib.hid (show bst (cntC fs) k = bst (cntC fs) fs.length by rw [hkn])
        have hlc : ¬ (k : Int) < (fs.length : Int) := by omega
        clear hkn
        go_wp2_with fail
        go_ret3
        exact ⟨by rw [HD.out]; rfl, hb1.trans (hb.mono hs1)⟩
set_option maxHeartbeats 2000000 in
theorem spMost_any (fs : List Kn) (b c : Nat) (w : World) (hc : fs.length ≤ c) (hbl : b < w.heap.size) (hI : Kns w b 0 fs) :
    Calls Try.prog 49 #[.slice (some ⟨b, 0, none⟩) fs.length c] w (RetIIB (most1 fs) (most2 fs) (famB fs) w) := by
  unfold most1 most2
  have HG := Lib.hid (faGood_any b fs.length c fs w rfl hc hbl hI)
  cases hf : famB fs with
  | false =>
    rw [if_neg (by simp), if_neg (by simp)]
    rw [hf] at HG
    clear hI hf
    go_enter Try.func49, Try.ntmps49
    go_wp2_with (go_at_call 51; refine HG.out.mono ?_; rintro e w1 ⟨rfl, hb1⟩)
    go_ret3
    exact ⟨rfl, hb1⟩
  | true =>
    rw [if_pos rfl, if_pos rfl]
    rw [hf] at HG
    have hn := famB_len hf
    have hF : Fm fs w b c := ⟨hI, hbl, hc, hn.2⟩
    have HC0 := Lib.hid (fun (k : Nat) (W : World) (hb : Below w.heap.size w W) => faChildren_any fs b c k W (hF.kept hb))
    have HL0 := Lib.hid (fun (k : Nat) => (show (pickI (isChiB fs (k : Int)) fs.length).length = cntC fs k by rw [chi_eq, castN_len]; rfl))
    have hcl := cntC_le fs hn.2
    have hE2 : Hid (msp (cntC fs) fs.length = ((bst (cntC fs) fs.length).2 : Int)) := Lib.hid (by unfold msp; rw [if_neg (by omega)])
    clear hI hf hF
    generalize hnl : fs.length = n at hn hc HG HC0 HL0 hE2 ⊢
    clear hnl
    go_enter Try.func49, Try.ntmps49
    go_wp2_with (go_at_call 51; refine HG.out.mono ?_; rintro e w1 ⟨rfl, hb1⟩; have hs1 := hb1.size)
    go_loopw [5, 6, 14] (fun u5 u6 v wr => ∃ k : Nat, k ≤ n ∧ v = .int .i64 k ∧ u5 = .int .i64 ((bst (cntC fs) k).1 : Nat) ∧ u6 = .int .i64 (msp (cntC fs) k) ∧ Below w1.heap.size w1 wr) (fun _ _ v _ => n - (intOf v).toNat)
    case atStart => exact ⟨0, Nat.zero_le _, rfl, rfl, rfl, Below.refl _ _⟩
    case round =>
      obtain ⟨k, hk, rfl, rfl, rfl, hb⟩ := hrel
      have hsz := hb.size
      by_cases hlt : k < n
      · have HC := Lib.hid (HC0.out k wr (hb1.trans (hb.mono hs1)))
        have HE := Lib.hid (HL0.out k)
        have hck := hcl k
        have HY := Lib.hid (fun h => msp_yes (cnt := cntC fs) (k := k) h)
        have HX := Lib.hid (fun h => msp_no (cnt := cntC fs) (k := k) h)
        have hlc : (k : Int) < (n : Int) := by omega
        generalize pickI (isChiB fs (k : Int)) n = zs at HC HE
        generalize cntC fs k = q at HE hck HY HX
        generalize msp (cntC fs) k = M at HY HX ⊢
        clear hcl
        by_cases hlt2 : M < (q : Int)
        · have HT := Lib.hid (HY.out hlt2)
          clear HY HX
          go_wp2_with (first | (go_at_call 61; refine HC.out.mono ?_; rintro e w2 ⟨v2, rfl, ho2, hb2⟩; obtain ⟨a2, c2, rfl, _⟩ := ho2.arg; rw [HE.out]; have hb2' := hb.trans (hb2.mono hsz)))
          go_roundw
          case rel => exact ⟨k + 1, by omega, by go_num, by rw [HT.out.1], by rw [HT.out.2], hb2'⟩
          case measure => simp [intOf]; omega
        · have HT := Lib.hid (HX.out hlt2)
          clear HY HX
          go_wp2_with (first | (go_at_call 61; refine HC.out.mono ?_; rintro e w2 ⟨v2, rfl, ho2, hb2⟩; obtain ⟨a2, c2, rfl, _⟩ := ho2.arg; rw [HE.out]; have hb2' := hb.trans (hb2.mono hsz)))
          go_roundw
          case rel => exact ⟨k + 1, by omega, by go_num, by rw [HT.out.1], by rw [HT.out.2], hb2'⟩
          case measure => simp [intOf]; omega
      · have hkn : k = n := by omega
        have HD := Lib.hid (show bst (cntC fs) k = bst (cntC fs) n by rw [hkn])
        have HM := Lib.hid (show msp (cntC fs) k = ((bst (cntC fs) n).2 : Int) by rw [hkn]; exact hE2.out)
        have hlc : ¬ (k : Int) < (n : Int) := by omega
        clear hkn
        go_wp2_with fail
        go_ret3
        exact ⟨by rw [HM.out, HD.out]; rfl, hb1.trans (hb.mono hs1)⟩
theorem mostChildren_both (ds : List Kn) : ∃ r1 r2 ok,
    (∀ b c w, ds.length ≤ 1048576 → ds.length ≤ c → b < w.heap.size → Kns w b 0 ds → Calls Try.prog 49 #[.slice (some ⟨b, 0, none⟩) ds.length c] w (RetIIB r1 r2 ok w)) ∧
    (∀ b c w, ds.length ≤ 1048576 → ds.length ≤ c → b < w.heap.size → Kns w b 0 ds → Calls Try.prog 50 #[.slice (some ⟨b, 0, none⟩) ds.length c] w (RetIIB r1 r2 ok w)) :=
  ⟨_, _, _, fun b c w _ hc hb hI => spMost_any ds b c w hc hb hI, fun b c w _ hc hb hI => imMost_any ds b c w hc hb hI⟩
end Go.Proofs.Ythmcimdnbapnhaa
