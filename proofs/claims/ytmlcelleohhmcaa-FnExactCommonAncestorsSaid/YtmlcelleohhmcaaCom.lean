/- Common ancestors: both texts. -/
import Derived.Test.YtmlcelleohhmcaaWhCom
import Derived.Test.YtmlcelleohhmcaaTtCom
import Derived.Test.YtmlcelleohhmcaaNm
import Derived.Test.YtmlcelleohhmcaaAbe
import Derived.Test.YtmlcelleohhmcaaRetK
set_option linter.unusedVariables false
set_option linter.unusedSimpArgs false
namespace Go.Proofs.Ytmlcelleohhmcaa
open Go.RowKit

noncomputable def comN (fs : List Kn) (a b : Nat) : List Nat := (ancN fs a).filter fun x => (ancN fs b).contains x
theorem ancN_le (fs : List Kn) (a : Nat) (h : fs.length ≤ 14) : (ancN fs a).length ≤ 14 := by have := ancN_len fs a; rw [allN_len] at this; omega
theorem ancN_bd (fs : List Kn) (a : Nat) (h : fs.length ≤ 14) : NsB fs (ancN fs a) := nsB_filter (nsB_all h) _
set_option maxHeartbeats 2000000 in
theorem common_any (fs : List Kn) (g cc a b : Nat) (w : World) (hK : Kdr fs w g cc) (ha : a < fs.length) (hb : b < fs.length) :
    Calls Try.prog 39 #[.slice (some ⟨g, 0, none⟩) fs.length cc, .agg #[.int .i64 (at3 fs a).1, .int .i64 (at3 fs a).2.1, .int .i64 (at3 fs a).2.2, .int .i64 a], .agg #[.int .i64 (at3 fs b).1, .int .i64 (at3 fs b).2.1, .int .i64 (at3 fs b).2.2, .int .i64 b]] w (RetR fs (comN fs a b) w) := by
  have h14 := hK.2
  have hB0 := (((Below.refl w.heap.size w).alloc (Nat.le_refl _) (.cells #[.int .i64 (at3 fs a).1, .int .i64 (at3 fs a).2.1, .int .i64 (at3 fs a).2.2, .int .i64 a] 70)).alloc (by simp) (.cells #[.int .i64 (at3 fs b).1, .int .i64 (at3 fs b).2.1, .int .i64 (at3 fs b).2.2, .int .i64 b] 70))
  have hrA := (relAt_new fs w a _ rfl).above (.cells #[.int .i64 (at3 fs b).1, .int .i64 (at3 fs b).2.1, .int .i64 (at3 fs b).2.2, .int .i64 b] 70)
  have HC1 := Lib.hid (ancestors_any fs g cc b ((w.alloc (.cells #[.int .i64 (at3 fs a).1, .int .i64 (at3 fs a).2.1, .int .i64 (at3 fs a).2.2, .int .i64 a] 70)).alloc (.cells #[.int .i64 (at3 fs b).1, .int .i64 (at3 fs b).2.1, .int .i64 (at3 fs b).2.2, .int .i64 b] 70)) ((hK.above _).above _) hb)
  have HC2 := Lib.hid (fun (W : World) (h : Below w.heap.size w W) => ancestors_any fs g cc a W (hK.kept h) ha)
  have HN := Lib.hid (fun (x : Nat) => ancN_le fs x h14)
  have HA := Lib.hid (fun (w2 : World) (v2 : Value) (h2 : Below ((w.alloc (.cells #[.int .i64 (at3 fs a).1, .int .i64 (at3 fs a).2.1, .int .i64 (at3 fs a).2.2, .int .i64 a] 70)).alloc (.cells #[.int .i64 (at3 fs b).1, .int .i64 (at3 fs b).2.1, .int .i64 (at3 fs b).2.2, .int .i64 b] 70)).heap.size ((w.alloc (.cells #[.int .i64 (at3 fs a).1, .int .i64 (at3 fs a).2.1, .int .i64 (at3 fs a).2.2, .int .i64 a] 70)).alloc (.cells #[.int .i64 (at3 fs b).1, .int .i64 (at3 fs b).2.1, .int .i64 (at3 fs b).2.2, .int .i64 b] 70)) w2) =>
    (show Below w.heap.size w (w2.alloc (.cells #[v2] 52)) ∧ RelAt fs (w2.alloc (.cells #[v2] 52)) w.heap.size a from
      ⟨(hB0.trans (h2.mono hB0.size)).alloc (hB0.trans (h2.mono hB0.size)).size _, (hrA.kept h2).above _⟩))
  have HW := Lib.hid (fun (W w2 : World) (v1 v2 : Value) (q B1 B2 : Nat) (h1 : OwnR fs B1 W v1 (ancN fs a)) (h2 : OwnR fs B2 W v2 (ancN fs b)) (hq : W.cell? ⟨q, 0, none⟩ = some v2) =>
    (show Calls Try.prog 58 #[v1, (.func (.func 59) #[] #[.pointer (some ⟨q, 0, none⟩)])] W (RetR fs (comN fs a b) W) from
      whenCom_any fs q (fun x => (ancN fs b).contains x) B1 v1 (ancN fs a) W h1 (ancN_bd fs a h14) (fun W2 hb2 n hn => comQ_any fs B2 n q v2 (ancN fs b) W2 (h2.kept hb2) (ancN_le fs b h14) (below_cell2 hb2 hq))))
  clear hK hB0 hrA
  generalize comN fs a b = rs at HW ⊢
  generalize ancN fs a = na at HC2 HW
  generalize ancN fs b = nb at HC1 HW
  go_enter Try.func39, Try.ntmps39
  go_wp2_with (first | (go_at_call_of 33 (Value.agg #[.int .i64 (at3 fs b).1, .int .i64 (at3 fs b).2.1, .int .i64 (at3 fs b).2.2, .int .i64 b]); refine HC1.out.mono ?_; rintro e w2 ⟨v2, rfl, ho2, hb2⟩; obtain ⟨hbw, q1, q2, q3, q4⟩ := HA.out w2 v2 hb2; obtain ⟨a2, c2, rfl⟩ := ho2.form) | (go_at_call_of 33 (Value.agg #[.int .i64 (at3 fs a).1, .int .i64 (at3 fs a).2.1, .int .i64 (at3 fs a).2.2, .int .i64 a]); refine (HC2.out _ hbw).mono ?_; rintro e w3 ⟨v3, rfl, ho3, hb3⟩) | (go_at_call 58; refine (HW.out w3 w3 v3 _ w2.heap.size _ _ ho3 (OwnR.kept (World.ownsRow.alloc ho2 _) hb3) (below_cell2 hb3 (by simp [go_sem]))).mono ?_; rintro e w4 ⟨v4, rfl, ho4, hb4⟩))
  go_ret
  have hb13 := hbw.trans (hb3.mono hbw.size)
  exact ⟨_, rfl, ho4.mono hb13.size, hb13.trans (hb4.mono hb13.size)⟩

theorem comN_len (fs : List Kn) (a b : Nat) : (comN fs a b).length ≤ (allN fs).length := Nat.le_trans (List.length_filter_le _ _) (ancN_len fs a)
set_option maxHeartbeats 1000000 in
theorem imCom_any (fs : List Kn) (b0 c : Nat) (x y : Int) (w : World) (hc : fs.length ≤ c) (hbl : b0 < w.heap.size) (hI : Kns w b0 0 fs) :
    Calls Try.prog 21 #[.slice (some ⟨b0, 0, none⟩) fs.length c, .int .i64 x, .int .i64 y] w (RetOwnB (if twoB fs x y = true then (comN fs x.toNat y.toNat).map fun (n : Nat) => (n : Int) else []) (twoB fs x y) w) := by
  cases h2 : twoB fs x y with
  | false =>
    rw [if_neg (by simp)]
    have HT := Lib.hid (tellCom_no fs b0 c x y w hc hbl hI h2)
    have HN := Lib.hid (fun w => numbers_any fs 0 (.slice none 0 0) [] w (ownR_nil _ _) (by simp))
    clear hI h2
    go_enter Try.func21, Try.ntmps21
    go_wp2_with (first | (go_at_call 38; refine HT.out.mono ?_; rintro e w1 ⟨rfl, hb1⟩) | (go_at_call 40; refine (HN.out _).mono ?_; rintro e w2 ⟨v2, rfl, ho2, hb2⟩))
    go_ret2
    exact ⟨v2, rfl, ho2.mono hb1.size, hb1.trans (hb2.mono hb1.size)⟩
  | true =>
    obtain ⟨hf, i, i2, rfl, rfl, hi, hi2⟩ := twoB_yes h2
    rw [if_pos rfl, Int.toNat_natCast, Int.toNat_natCast]
    have hn := (famB_len hf).2
    have HT := Lib.hid (tellCom_yes fs (fun a b w' v => OwnR fs w.heap.size w' v (comN fs a b)) b0 c i i2 w hc hbl hI hf hi hi2 (fun W hb g cc a b hK h8 h9 => (common_any fs g cc a b W hK h8 h9).mono (fun e w' h => by
      obtain ⟨v, he, ho, hb2⟩ := h
      exact ⟨v, he, ho.mono hb.size, hb2⟩)))
    have hl : (comN fs i i2).length ≤ 14 := by
      have h1 := comN_len fs i i2
      rw [allN_len] at h1; omega
    clear hI h2 hf hn
    generalize comN fs i i2 = ns at HT hl ⊢
    go_enter Try.func21, Try.ntmps21
    go_wp2_with (first | (go_at_call 38; refine HT.out.mono ?_; rintro e w1 ⟨v1, rfl, ho1, hb1⟩) | (go_at_call 40; refine (numbers_any fs _ v1 ns _ ho1 hl).mono ?_; rintro e w2 ⟨v2, rfl, ho2, hb2⟩))
    go_ret2
    exact ⟨v2, rfl, ho2.mono hb1.size, hb1.trans (hb2.mono hb1.size)⟩
/-- The first k are marked by both. -/
def cmS (m m2 : Nat → Bool) (k : Nat) : Nat → Bool := fun z => m z && (decide (k ≤ z) || m2 z)
theorem cmS_zero (m m2 : Nat → Bool) : cmS m m2 0 = m := by funext z; simp [cmS]
theorem cmS_at (m m2 : Nat → Bool) (k : Nat) : cmS m m2 k k = m k := by simp [cmS]
theorem cmS_set (m m2 : Nat → Bool) (n k : Nat) (b : Bool) (hb : b = (m k && m2 k)) : (mkRow (cmS m m2 k) n).set k (.bool b) = mkRow (cmS m m2 (k + 1)) n := by
  subst hb
  unfold mkRow
  apply List.ext_getElem (by simp)
  intro i h1 h2
  rw [List.getElem_set]
  by_cases e : k = i
  · subst e
    have h9 : ¬ k + 1 ≤ k := by omega
    simp [cmS, h9]
  · rw [if_neg e]
    have : (k + 1 ≤ i) = (k ≤ i) := propext ⟨fun h => by omega, fun h => by omega⟩
    simp [cmS, this]
set_option maxHeartbeats 4000000 in
set_option maxRecDepth 100000 in
theorem faCommon_any (fs : List Kn) (b c i j : Nat) (w : World) (hF : Fm fs w b c) (hf : famB fs = true) (hi : i < fs.length) (hj : j < fs.length) :
    Calls Try.prog 37 #[.slice (some ⟨b, 0, none⟩) fs.length c, .int .i64 i, .int .i64 j] w (RetOwn (pickI (fun z => abS fs i (i + 1) z && abS fs j (j + 1) z) fs.length) w) := by
  have hn := hF.few
  have HP1 := Lib.hid (faAbove_any fs b c i w hF hf hi)
  have HP2 := Lib.hid (fun (W : World) (hb : Below w.heap.size w W) => faAbove_any fs b c j W (hF.kept hb) hf hj)
  clear hF hf
  generalize abS fs i (i + 1) = m at HP1 ⊢
  generalize abS fs j (j + 1) = m2 at HP2 ⊢
  go_enter Try.func37, Try.ntmps37
  go_wp2_with (first | (go_at_call_of 30 (Value.int .i64 (i : Int)); refine HP1.out.mono ?_; rintro e w1 ⟨g1, hg1, rfl, ho1, hb1⟩) | (go_at_call_of 30 (Value.int .i64 (j : Int)); refine (HP2.out _ hb1).mono ?_; rintro e w2 ⟨g2, hg2, rfl, ho2, hb2⟩))
  have hg1l := (World.ownsRow.lt ho1 g1 rfl).2
  have hg2l := (World.ownsRow.lt ho2 g2 rfl).2
  have hbw := hb1.trans (hb2.mono hb1.size)
  have HR0 := Lib.hid (World.ownsRow.kept ho1 (below_grown hb2 none) (by simp [Value.ownBlock]))
  have HC2 := Lib.hid (fun k (hk : k < fs.length) => (World.ownsRow.cellAt ho2 k (by omega)).trans (mkRow_at hk))
  have hne : g2 ≠ g1 := by omega
  clear ho1 ho2 hb1 hb2
  go_loopw [18] (fun v wr => ∃ k : Nat, k ≤ fs.length ∧ v = .int .i64 k ∧ Hid (wr.ownsRow w.heap.size 4 1 (.slice (some ⟨g1, 0, none⟩) fs.length fs.length) fs.length (mkRow (cmS m m2 k) fs.length)) ∧ w2.grownBy wr (some g1)) (fun v _ => fs.length - (intOf v).toNat)
  case atStart => exact ⟨0, Nat.zero_le _, rfl, Lib.hid (by rw [cmS_zero]; exact HR0.out), World.grownBy.refl _ _⟩
  case round =>
    obtain ⟨k, hk, rfl, Hr, hg⟩ := hrel
    by_cases hlt : k < fs.length
    · have hc1 := (World.ownsRow.cellAt Hr.out k (by omega)).trans (mkRow_at hlt)
      rw [cmS_at] at hc1
      have hc2 := hg.cell (HC2.out k hlt) (by simp; omega)
      have hfR := World.ownsRow.frozenAt Hr.out k
      have HST := Lib.hid (fun bv (h : bv = (m k && m2 k)) => (show (wr.setCell ⟨g1, k, none⟩ (.bool bv)).ownsRow w.heap.size 4 1 (.slice (some ⟨g1, 0, none⟩) fs.length fs.length) fs.length (mkRow (cmS m m2 (k + 1)) fs.length) ∧ w2.grownBy (wr.setCell ⟨g1, k, none⟩ (.bool bv)) (some g1) from by
        have h1 := World.ownsRow.stored Hr.out k (.bool bv)
        rw [cmS_set m m2 fs.length k bv h] at h1
        exact ⟨h1.1, grown_trans hg h1.2⟩))
      have hm0 : (0 : Int) ≤ (k : Int) := by omega
      have hm1 : (k : Int) < (fs.length : Int) := by omega
      cases hmk : m k with
      | true =>
        rw [hmk] at hc1 HST
        generalize m2 k = bb at hc2 HST
        have HS := Lib.hid (HST.out bb (by simp))
        clear HST hmk
        go_wp2_with fail
        go_roundw
        case rel => exact ⟨k + 1, by omega, by go_num, Lib.hid HS.out.1, HS.out.2⟩
        case measure => simp [intOf]; omega
      | false =>
        rw [hmk] at hc1 HST
        generalize m2 k = bb at hc2 HST
        have HS := Lib.hid (HST.out false (by simp))
        clear HST hmk
        go_wp2_with fail
        go_roundw
        case rel => exact ⟨k + 1, by omega, by go_num, Lib.hid HS.out.1, HS.out.2⟩
        case measure => simp [intOf]; omega
    · have hkn : k = fs.length := by omega
      subst hkn
      have hlc : ¬ (fs.length : Int) < (fs.length : Int) := by omega
      have hbr : Below w.heap.size w wr := hbw.grown hg hbw.size (by intro q hq; simp at hq; omega)
      have HL := Lib.hid (faList_any (cmS m m2 fs.length) fs.length g1 w.heap.size wr hn Hr.out)
      have HE : Hid (pickI (cmS m m2 fs.length) fs.length = pickI (fun z => m z && m2 z) fs.length) := Lib.hid (by
        unfold pickI
        congr 1
        refine List.filter_congr fun z hz => ?_
        have : ¬ fs.length ≤ z := by have := List.mem_range.1 hz; omega
        simp [cmS, this])
      rw [HE.out] at HL
      clear HE
      go_wp2_with (go_at_call 29; refine HL.out.mono ?_; rintro e w5 ⟨v5, rfl, ho5, hb5⟩)
      go_ret
      exact ⟨_, rfl, ho5.mono hbr.size, hbr.trans (hb5.mono hbr.size)⟩

theorem twoM_eqB (fs : List Kn) (x y : Int) : twoM fs x y = twoB fs x y := by
  unfold twoM whoB twoB; rw [Bool.and_assoc]
theorem pick_com {fs : List Kn} (hf : famB fs = true) {i j : Nat} (hi : i < fs.length) (hj : j < fs.length) : pickI (fun z => abS fs i (i + 1) z && abS fs j (j + 1) z) fs.length = (comN fs i j).map fun (n : Nat) => (n : Int) := by
  unfold pickI comN ancN
  rw [← abN_eq hf hi, ← abN_eq hf hj]
  unfold abN allN
  congr 1
  rw [List.filter_filter]
  refine List.filter_congr fun z hz => ?_
  have hc : (List.filter (fun x => abS fs j (j + 1) x) (List.range fs.length)).contains z = abS fs j (j + 1) z := by
    rw [Bool.eq_iff_iff, List.contains_iff_mem, List.mem_filter]
    exact ⟨fun h => h.2, fun h => ⟨hz, h⟩⟩
  rw [hc, Bool.and_comm]
theorem spCom_any (fs : List Kn) (b c : Nat) (x y : Int) (w : World) (hc : fs.length ≤ c) (hbl : b < w.heap.size) (hI : Kns w b 0 fs) :
    Calls Try.prog 20 #[.slice (some ⟨b, 0, none⟩) fs.length c, .int .i64 x, .int .i64 y] w (RetOwnB (if twoB fs x y = true then (comN fs x.toNat y.toNat).map fun (n : Nat) => (n : Int) else []) (twoB fs x y) w) := by
  have HT := Lib.hid (faTwo_any fs b c x y w hc hbl hI)
  rw [twoM_eqB] at HT
  cases h2 : twoB fs x y with
  | false =>
    rw [if_neg (by simp)]
    rw [h2] at HT
    clear hI h2
    go_enter Try.func20, Try.ntmps20
    go_wp2_with (first | (go_at_call 36; refine HT.out.mono ?_; rintro e w1 ⟨rfl, hb1⟩; have hs1 := hb1.size))
    go_ret2
    exact ⟨_, rfl, own_nil _ _, hb1⟩
  | true =>
    rw [h2] at HT
    obtain ⟨hf, i, i2, rfl, rfl, hi, hi2⟩ := twoB_yes h2
    rw [if_pos rfl, Int.toNat_natCast, Int.toNat_natCast]
    have hF : Fm fs w b c := ⟨hI, hbl, hc, (famB_len hf).2⟩
    have HS := Lib.hid (fun (W : World) (hb : Below w.heap.size w W) => faCommon_any fs b c i i2 W (hF.kept hb) hf hi hi2)
    rw [pick_com hf hi hi2] at HS
    change Hid (∀ W hb, Calls _ _ _ _ (RetOwn ((comN fs i i2).map fun (n : Nat) => (n : Int)) W)) at HS
    clear hI h2 hf hF
    generalize ((comN fs i i2).map fun (n : Nat) => (n : Int)) = rs at HS ⊢
    go_enter Try.func20, Try.ntmps20
    go_wp2_with (first | (go_at_call 36; refine HT.out.mono ?_; rintro e w1 ⟨rfl, hb1⟩; have hs1 := hb1.size) | (go_at_call 37; refine (HS.out w1 hb1).mono ?_; rintro e w2 ⟨v2, rfl, ho2, hb2⟩))
    go_ret2
    exact ⟨v2, rfl, ho2.mono hs1, hb1.trans (hb2.mono hs1)⟩
theorem Com_both (ds : List Kn) (x1 x2 : Int) : ∃ rs ok, rs.length ≤ 1048576 ∧
    (∀ b c w, ds.length ≤ 1048576 → ds.length ≤ c → b < w.heap.size → Kns w b 0 ds → Calls Try.prog 20 #[.slice (some ⟨b, 0, none⟩) ds.length c, .int .i64 x1, .int .i64 x2] w (RetOwnB rs ok w)) ∧
    (∀ b c w, ds.length ≤ 1048576 → ds.length ≤ c → b < w.heap.size → Kns w b 0 ds → Calls Try.prog 21 #[.slice (some ⟨b, 0, none⟩) ds.length c, .int .i64 x1, .int .i64 x2] w (RetOwnB rs ok w)) := by
  refine ⟨_, _, ?_, fun b c w _ hc hb hI => spCom_any ds b c x1 x2 w hc hb hI, fun b c w _ hc hb hI => imCom_any ds b c x1 x2 w hc hb hI⟩
  split
  · rename_i h
    have h1 := comN_len ds x1.toNat x2.toNat
    have h2 := (famB_len (twoB_yes h).1).2
    rw [allN_len] at h1
    rw [List.length_map]; omega
  · simp
end Go.Proofs.Ytmlcelleohhmcaa
