/- Ancestors: both texts. -/
import Derived.Test.YtmlcelleohhmcaaSp
import Derived.Test.YtmlcelleohhmcaaPq
import Derived.Test.YtmlcelleohhmcaaRc0
import Derived.StillTailTactics
import Derived.Test.YtmlcelleohhmcaaMo2
import Derived.Test.YtmlcelleohhmcaaNm
import Derived.Test.YtmlcelleohhmcaaAncs
import Derived.Test.YtmlcelleohhmcaaTt0
import Derived.Test.YtmlcelleohhmcaaRetK
set_option linter.unusedVariables false
set_option linter.unusedSimpArgs false
namespace Go.Proofs.Ytmlcelleohhmcaa
open Go.RowKit

/-- The first j of ps are marked too. -/
def mrk (m : Nat → Bool) (ps : List Nat) : Nat → Nat → Bool
  | 0 => m
  | j + 1 => fun x => mrk m ps j x || decide (x = ps.getD j 0)
/-- The marks when d have been looked at, from a downwards. -/
def abS (fs : List Kn) (a : Nat) : Nat → Nat → Bool
  | 0 => fun _ => false
  | d + 1 => if ((decide (d = 0)) || abS fs a d (a - d)) = true then mrk (abS fs a d) (parN fs (a - d)) (parN fs (a - d)).length else abS fs a d
theorem parN_before {fs : List Kn} (hf : famB fs = true) {k p : Nat} (hk : k < fs.length) (hp : p ∈ parN fs k) : p < k := by
  have h1 : ((p : Nat) : Int) ∈ parI fs k := by
    rw [parI_eq hf hk]; unfold castN; exact List.mem_map.2 ⟨p, hp, rfl⟩
  obtain ⟨n, hn, hlt⟩ := parI_mem hf hk h1
  omega
theorem parN_mem {fs : List Kn} {p k : Nat} : p ∈ parN fs k ↔ p < fs.length ∧ isPar fs p k = true := by
  unfold parN allN
  rw [List.mem_filter, List.mem_range]
theorem getD_mem {ps : List Nat} {j : Nat} (hj : j < ps.length) : ps.getD j 0 ∈ ps := by
  have e : ps.getD j 0 = ps[j] := by simp [List.getElem?_eq_getElem hj]
  rw [e]; exact List.getElem_mem hj
theorem mrk_iff {m : Nat → Bool} {ps : List Nat} {x : Nat} : ∀ j, j ≤ ps.length → (mrk m ps j x = true ↔ m x = true ∨ x ∈ ps.take j) := by
  intro j
  induction j with
  | zero => intro _; simp [mrk]
  | succ j ih =>
    intro hj
    have e : ps.getD j 0 = ps[j] := by simp [List.getElem?_eq_getElem (show j < ps.length by omega)]
    rw [List.take_succ_eq_append_getElem (by omega), List.mem_append, List.mem_singleton]
    simp only [mrk, Bool.or_eq_true, decide_eq_true_eq]
    rw [ih (by omega), e, or_assoc]
theorem abS_step {fs : List Kn} {a d x : Nat} : abS fs a (d + 1) x = true ↔ abS fs a d x = true ∨ ((d = 0 ∨ abS fs a d (a - d) = true) ∧ x ∈ parN fs (a - d)) := by
  have hc : ((decide (d = 0)) || abS fs a d (a - d)) = true ↔ (d = 0 ∨ abS fs a d (a - d) = true) := by rw [Bool.or_eq_true, decide_eq_true_eq]
  rw [abS]
  by_cases h : ((decide (d = 0)) || abS fs a d (a - d)) = true
  · rw [if_pos h, mrk_iff _ (Nat.le_refl _), List.take_length]
    exact or_congr Iff.rfl ⟨fun h1 => ⟨hc.1 h, h1⟩, fun h1 => h1.2⟩
  · rw [if_neg h]
    exact ⟨Or.inl, fun h1 => h1.elim id fun h2 => absurd (hc.2 h2.1) h⟩
theorem abS_mono {fs : List Kn} {a x : Nat} {d e : Nat} (h : d ≤ e) (hx : abS fs a d x = true) : abS fs a e x = true := by
  induction h with
  | refl => exact hx
  | step _ ih => exact abS_step.2 (.inl ih)
theorem abS_path {fs : List Kn} {a x : Nat} (hf : famB fs = true) (ha : a < fs.length) : ∀ d, d ≤ a + 1 → abS fs a d x = true → x < a ∧ ∃ l, Pth (stUp fs) fs.length a l x := by
  have key : ∀ d, d ≤ a + 1 → ∀ x, abS fs a d x = true → x < a ∧ ∃ l, Pth (stUp fs) fs.length a l x := by
    intro d
    induction d with
    | zero => intro _ x h; simp [abS] at h
    | succ d ih =>
      intro hd x h
      rcases abS_step.1 h with h1 | ⟨h1, h2⟩
      · exact ih (by omega) x h1
      · have hb := parN_before hf (show a - d < fs.length by omega) h2
        obtain ⟨h3, h4⟩ := parN_mem.1 h2
        refine ⟨by omega, ?_⟩
        rcases h1 with rfl | h1
        · exact ⟨_, Pth.snoc Pth.one (by simpa [stUp] using h4) h3⟩
        · obtain ⟨_, l, hl⟩ := ih (by omega) _ h1
          exact ⟨_, Pth.snoc hl (by simpa [stUp] using h4) h3⟩
  exact fun d hd h => key d hd x h
theorem path_abS {fs : List Kn} {a : Nat} (hf : famB fs = true) (ha : a < fs.length) {l : List Nat} {x : Nat} (h : Pth (stUp fs) fs.length a l x) : x = a ∨ (x < a ∧ abS fs a (a - x) x = true) := by
  induction h with
  | one => exact .inl rfl
  | @snoc l p t hp hs ht ih =>
    have hpl : p < fs.length := hp.lt ha
    have hm : t ∈ parN fs p := parN_mem.2 ⟨ht, hs⟩
    have hb := parN_before hf hpl hm
    rcases ih with rfl | ⟨h1, h2⟩
    · refine .inr ⟨hb, abS_mono (show 0 + 1 ≤ p - t by omega) (abS_step.2 (.inr ⟨.inl rfl, by simpa using hm⟩))⟩
    · refine .inr ⟨by omega, abS_mono (show (a - p) + 1 ≤ a - t by omega) (abS_step.2 (.inr ⟨.inr ?_, ?_⟩))⟩
      · rw [show a - (a - p) = p by omega]; exact h2
      · rw [show a - (a - p) = p by omega]; exact hm
theorem abS_eq {fs : List Kn} (hf : famB fs = true) {a x : Nat} (ha : a < fs.length) : abS fs a (a + 1) x = (!(decide (x = a)) && rchB (stUp fs) fs.length a x) := by
  rw [Bool.eq_iff_iff, Bool.and_eq_true, rchB_iff, Bool.not_eq_true', decide_eq_false_iff_not]
  constructor
  · intro h
    obtain ⟨h1, h2⟩ := abS_path hf ha _ (Nat.le_refl _) h
    exact ⟨by omega, h2⟩
  · rintro ⟨h1, l, hl⟩
    rcases path_abS hf ha hl with h2 | ⟨_, h2⟩
    · exact absurd h2 h1
    · exact abS_mono (by omega) h2
/-- The model's list. -/
def abN (fs : List Kn) (a : Nat) : List Nat := (allN fs).filter fun x => abS fs a (a + 1) x
theorem abN_eq {fs : List Kn} (hf : famB fs = true) {a : Nat} (ha : a < fs.length) : abN fs a = rchN (stUp fs) fs a := by
  unfold abN rchN
  exact List.filter_congr fun x _ => abS_eq hf ha
/-- A row of marks. -/
def mkRow (m : Nat → Bool) (n : Nat) : List Value := (List.range n).map fun x => .bool (m x)
theorem mkRow_zero (n : Nat) : (madeCells #[Value.bool false] n).toList = mkRow (fun _ => false) n := by
  rw [toList_madeCells_one]
  unfold mkRow
  apply List.ext_getElem (by simp)
  intro i h1 h2
  simp
theorem mkRow_at {m : Nat → Bool} {n p : Nat} (h : p < n) : (mkRow m n)[p]? = some (.bool (m p)) := by
  unfold mkRow
  simp [h]
theorem mkRow_set {m : Nat → Bool} {n p : Nat} : (mkRow m n).set p (.bool true) = mkRow (fun x => m x || decide (x = p)) n := by
  unfold mkRow
  apply List.ext_getElem (by simp)
  intro i h1 h2
  rw [List.getElem_set]
  by_cases e : p = i
  · subst e; simp
  · rw [if_neg e]
    have : ¬ i = p := fun h => e h.symm
    simp [this]
theorem mrk_next (m : Nat → Bool) (ps : List Nat) (j : Nat) : (fun x => mrk m ps j x || decide (x = ps.getD j 0)) = mrk m ps (j + 1) := rfl
theorem abS_no {fs : List Kn} {a d : Nat} (h : ((decide (d = 0)) || abS fs a d (a - d)) = false) : abS fs a (d + 1) = abS fs a d := by rw [abS, h]; rfl
theorem abS_yes {fs : List Kn} {a d : Nat} (h : ((decide (d = 0)) || abS fs a d (a - d)) = true) : abS fs a (d + 1) = mrk (abS fs a d) (parN fs (a - d)) (parN fs (a - d)).length := by rw [abS, h]; rfl

theorem infoBool : (Try.prog.info? 4).map (fun i => (i.zero, i.size, i.bytes)) = some (some (.bool false), 1, 1) := by kernel_rfl
/-- A call returned a row of marks. -/
def RetMarks (m : Nat → Bool) (n : Nat) (w : World) (e : Ending) (w' : World) : Prop :=
  ∃ g, w.heap.size ≤ g ∧ e = .returned (.slice (some ⟨g, 0, none⟩) n n) ∧ w'.ownsRow w.heap.size 4 1 (.slice (some ⟨g, 0, none⟩) n n) n (mkRow m n) ∧ Below w.heap.size w w'
set_option maxHeartbeats 4000000 in
set_option maxRecDepth 100000 in
theorem faAbove_any (fs : List Kn) (b c i : Nat) (w : World) (hF : Fm fs w b c) (hf : famB fs = true) (hi0 : i < fs.length) :
    Calls Try.prog 30 #[.slice (some ⟨b, 0, none⟩) fs.length c, .int .i64 i] w (RetMarks (abS fs i (i + 1)) fs.length w) := by
  obtain ⟨i0, hi, hz0, hz1, hz2⟩ := info_parts infoBool
  have hn := hF.few
  have HF := Lib.hid hF
  have HBf := Lib.hid (fun k p hk hp => parN_before (k := k) (p := p) hf hk hp)
  have HFM := Lib.hid hf
  clear hF hf
  go_enter Try.func30, Try.ntmps30
  go_wp2_with (first | (at_make; refine wpList_make_full _ rfl _ _ 42 rfl w.heap.size 4 i0 (.bool false) 1 Try.underlying42 hi hz0 hz1 .i64 .i64 fs.length fs.length fs.length rfl rfl rfl rfl ?c1 ?c2 ?c3 ?_))
  case c1 => rw [hz2]; omega
  case c2 => unfold maxLen; omega
  case c3 => exact Nat.le_refl _
  intro w0 hown hgr
  go_wp2_with fail
  go_loopw [6] (fun v wr => ∃ d : Nat, d ≤ i + 1 ∧ v = .int .i64 ((i : Int) - d) ∧ Hid (wr.ownsRow w.heap.size 4 1 (.slice (some ⟨w.heap.size, 0, none⟩) fs.length fs.length) fs.length (mkRow (abS fs i d) fs.length)) ∧ Below w.heap.size w wr) (fun v _ => (intOf v + 1).toNat)
  case atStart => exact ⟨0, Nat.zero_le _, by simp, Lib.hid (by rw [show abS fs i 0 = (fun _ => false) from rfl, ← mkRow_zero]; simpa using hown), (Below.refl _ _).grown hgr (Nat.le_refl _) (by simp)⟩
  case round =>
    obtain ⟨d, hd, rfl, Hr, hb⟩ := hrel
    have hsz := hb.size
    by_cases hlt : d < i + 1
    · obtain ⟨k, hk⟩ : ∃ k, k = i - d := ⟨_, rfl⟩
      have hke : (i : Int) - (d : Int) = (k : Int) := by omega
      have hkl : k < fs.length := by omega
      have hki : k ≤ i := by omega
      rw [hke]
      have hd0 : (d = 0) = (k = i) := propext ⟨fun h => by omega, fun h => by omega⟩
      have HNO := Lib.hid (fun h => abS_no (fs := fs) (a := i) (d := d) h)
      have HYES := Lib.hid (fun h => abS_yes (fs := fs) (a := i) (d := d) h)
      rw [← hk] at HNO HYES
      simp only [hd0] at HNO HYES
      have hnx : (k : Int) - 1 = (i : Int) - ((d + 1 : Nat) : Int) := by omega
      have HNX := Lib.hid hnx
      have hcK := (World.ownsRow.cellAt Hr.out k (by omega)).trans (mkRow_at hkl)
      have hP0 := faParents_any fs b c k wr (HF.out.kept hb) hkl
      rw [parI_eq HFM.out hkl] at hP0
      have HP := Lib.hid hP0
      have HB := Lib.hid (fun j (hj : j < (parN fs k).length) => HBf.out k _ hkl (getD_mem hj))
      have hl14 : (parN fs k).length ≤ 14 := by have := List.length_filter_le (fun x => isPar fs x k) (allN fs); rw [allN_len] at this; unfold parN; omega
      have hRl := (World.ownsRow.lt Hr.out w.heap.size rfl).2
      have hk0 : (0 : Int) ≤ (k : Int) := by omega
      have hk1 : (k : Int) < (fs.length : Int) := by omega
      have HM : Hid (((k : Int) - 1 + 1).toNat < ((k : Int) + 1).toNat) := Lib.hid (by omega)
      have hwk : wrap64 ((k : Int) - 1) = (k : Int) - 1 := IntWalk.wrap64_in _ (by omega)
      clear hP0 hnx hke hk hd0
      generalize abS fs i d = m at Hr HNO HYES hcK
      by_cases hc : ((decide (k = i)) || m k) = true
      · have HE := Lib.hid (HYES.out hc)
        clear HNO HYES
        have HK2 := Lib.hid (fun (w2 : World) (h2 : Below wr.heap.size wr w2) => (show Below w.heap.size w w2 ∧ w2.ownsRow w.heap.size 4 1 (.slice (some ⟨w.heap.size, 0, none⟩) fs.length fs.length) fs.length (mkRow m fs.length) from
          ⟨hb.trans (h2.mono hsz), World.ownsRow.kept Hr.out (below_grown h2 none) (by simp [Value.ownBlock])⟩))
        have HLN : Hid ((castN (parN fs k)).length = (parN fs k).length) := Lib.hid (by unfold castN; rw [List.length_map])
        have HAT := Lib.hid (fun j (hj : j < (parN fs k).length) => (show (castN (parN fs k)).getD j 0 = (((parN fs k).getD j 0 : Nat) : Int) from by unfold castN; simp [List.getElem?_eq_getElem hj]))
        generalize castN (parN fs k) = zs at HP HLN HAT
        generalize parN fs k = ps at HE HB hl14 HLN HAT
        have hzl : zs.length ≤ 14 := by rw [HLN.out]; exact hl14
        clear hb Hr
        by_cases hki2 : k = i
        · subst hki2
          clear hc
          go_wp2_with (first | (go_at_call 49; refine HP.out.mono ?_; rintro e w2 ⟨v2, rfl, ho2, hb2⟩; obtain ⟨hbw, hrow⟩ := HK2.out w2 hb2; obtain ⟨a2, c2, rfl, har⟩ := ho2.arg; clear har))
          have HO2 := Lib.hid ho2
          have HROW := Lib.hid hrow
          have hs2 := hb2.size
          clear ho2 hrow hb2
          go_loopw [30] (fun v wi => ∃ j : Nat, j ≤ zs.length ∧ v = .int .i64 j ∧ Hid (wi.ownsRow w.heap.size 4 1 (.slice (some ⟨w.heap.size, 0, none⟩) fs.length fs.length) fs.length (mkRow (mrk m ps j) fs.length)) ∧ w2.grownBy wi (some w.heap.size)) (fun v _ => zs.length - (intOf v).toNat)
          case atStart => exact ⟨0, Nat.zero_le _, rfl, HROW, World.grownBy.refl _ _⟩
          case round =>
            obtain ⟨j, hj, rfl, Hri, hgi⟩ := hrel
            by_cases hlt2 : j < zs.length
            · rcases HO2.out.cases with ⟨h0, hnil⟩ | ⟨g2, c2', h0, hgb, hgl2, _, _, hI2, _⟩
              · rw [hnil] at hlt2; simp at hlt2
              simp only [Value.slice.injEq, and_true, true_and] at h0
              obtain ⟨rfl, rfl⟩ := h0
              have hgne : w.heap.size < g2 := by omega
              have r1 := hI2 j hlt2
              rw [Nat.zero_add, HAT.out j (by rw [← HLN.out]; exact hlt2)] at r1
              replace r1 := hgi.cell r1 (by simp; omega)
              have hpk := HB.out j (by rw [← HLN.out]; exact hlt2)
              have HG1 := Lib.hid (mrk_next m ps j)
              generalize ps.getD j 0 = p at r1 hpk HG1
              have hpn : p < fs.length := by omega
              have hcP := (World.ownsRow.cellAt Hri.out p (by omega)).trans (mkRow_at hpn)
              have hfR := World.ownsRow.frozenAt Hri.out p
              have HST := Lib.hid (World.ownsRow.stored Hri.out p (.bool true))
              rw [mkRow_set, HG1.out] at HST
              have hm0 : (0 : Int) ≤ (p : Int) := by omega
              have hm1 : (p : Int) < (fs.length : Int) := by omega
              have hj0 : (0 : Int) ≤ (j : Int) := by omega
              have hj1 : (j : Int) < (zs.length : Int) := by omega
              clear hI2 HG1
              generalize mrk m ps j p = bb at hcP
              go_wp2_with fail
              go_roundw
              case rel => exact ⟨j + 1, by omega, by go_num, Lib.hid HST.out.1, grown_trans hgi HST.out.2⟩
              case measure => simp [intOf] <;> omega
            · have hjn : j = zs.length := by omega
              have HD := Lib.hid (show mkRow (abS fs k (d + 1)) fs.length = mkRow (mrk m ps j) fs.length by rw [HE.out, hjn, HLN.out])
              have hlc : ¬ (j : Int) < (zs.length : Int) := by omega
              clear hjn
              go_wp2_with fail
              go_roundw
              case rel => exact ⟨d + 1, by omega, by first | rw [← HNX.out] | rw [HNX.out], Lib.hid (by rw [HD.out]; exact Hri.out), below_grownAbove hbw hgi (Nat.le_refl _)⟩
              case measure => simp [intOf] <;> omega
        · have hmk : m k = true := by simpa [hki2] using hc
          rw [hmk] at hcK
          have hki3 : ¬ (k : Int) = (i : Int) := by omega
          clear hc
          go_wp2_with (first | (go_at_call 49; refine HP.out.mono ?_; rintro e w2 ⟨v2, rfl, ho2, hb2⟩; obtain ⟨hbw, hrow⟩ := HK2.out w2 hb2; obtain ⟨a2, c2, rfl, har⟩ := ho2.arg; clear har))
          have HO2 := Lib.hid ho2
          have HROW := Lib.hid hrow
          have hs2 := hb2.size
          clear ho2 hrow hb2
          go_loopw [30] (fun v wi => ∃ j : Nat, j ≤ zs.length ∧ v = .int .i64 j ∧ Hid (wi.ownsRow w.heap.size 4 1 (.slice (some ⟨w.heap.size, 0, none⟩) fs.length fs.length) fs.length (mkRow (mrk m ps j) fs.length)) ∧ w2.grownBy wi (some w.heap.size)) (fun v _ => zs.length - (intOf v).toNat)
          case atStart => exact ⟨0, Nat.zero_le _, rfl, HROW, World.grownBy.refl _ _⟩
          case round =>
            obtain ⟨j, hj, rfl, Hri, hgi⟩ := hrel
            by_cases hlt2 : j < zs.length
            · rcases HO2.out.cases with ⟨h0, hnil⟩ | ⟨g2, c2', h0, hgb, hgl2, _, _, hI2, _⟩
              · rw [hnil] at hlt2; simp at hlt2
              simp only [Value.slice.injEq, and_true, true_and] at h0
              obtain ⟨rfl, rfl⟩ := h0
              have hgne : w.heap.size < g2 := by omega
              have r1 := hI2 j hlt2
              rw [Nat.zero_add, HAT.out j (by rw [← HLN.out]; exact hlt2)] at r1
              replace r1 := hgi.cell r1 (by simp; omega)
              have hpk := HB.out j (by rw [← HLN.out]; exact hlt2)
              have HG1 := Lib.hid (mrk_next m ps j)
              generalize ps.getD j 0 = p at r1 hpk HG1
              have hpn : p < fs.length := by omega
              have hcP := (World.ownsRow.cellAt Hri.out p (by omega)).trans (mkRow_at hpn)
              have hfR := World.ownsRow.frozenAt Hri.out p
              have HST := Lib.hid (World.ownsRow.stored Hri.out p (.bool true))
              rw [mkRow_set, HG1.out] at HST
              have hm0 : (0 : Int) ≤ (p : Int) := by omega
              have hm1 : (p : Int) < (fs.length : Int) := by omega
              have hj0 : (0 : Int) ≤ (j : Int) := by omega
              have hj1 : (j : Int) < (zs.length : Int) := by omega
              clear hI2 HG1
              generalize mrk m ps j p = bb at hcP
              go_wp2_with fail
              go_roundw
              case rel => exact ⟨j + 1, by omega, by go_num, Lib.hid HST.out.1, grown_trans hgi HST.out.2⟩
              case measure => simp [intOf] <;> omega
            · have hjn : j = zs.length := by omega
              have HD := Lib.hid (show mkRow (abS fs i (d + 1)) fs.length = mkRow (mrk m ps j) fs.length by rw [HE.out, hjn, HLN.out])
              have hlc : ¬ (j : Int) < (zs.length : Int) := by omega
              clear hjn
              go_wp2_with fail
              go_roundw
              case rel => exact ⟨d + 1, by omega, by first | rw [← HNX.out] | rw [HNX.out], Lib.hid (by rw [HD.out]; exact Hri.out), below_grownAbove hbw hgi (Nat.le_refl _)⟩
              case measure => simp [intOf] <;> omega
      · have hc2 : ((decide (k = i)) || m k) = false := by simpa using hc
        have HE := Lib.hid (HNO.out hc2)
        clear HNO HYES hc
        rw [Bool.or_eq_false_iff, decide_eq_false_iff_not] at hc2
        obtain ⟨hki2, hmk⟩ := hc2
        rw [hmk] at hcK
        have hki3 : ¬ (k : Int) = (i : Int) := by omega
        clear hmk
        go_wp2_with fail
        go_roundw
        case rel => exact ⟨d + 1, by omega, by first | rw [← HNX.out] | rw [HNX.out], Lib.hid (by rw [HE.out]; exact Hr.out), hb⟩
        case measure => simp [intOf] <;> omega
    · have hde : d = i + 1 := by omega
      subst hde
      have hlc : ¬ (0 : Int) ≤ (i : Int) - ((i + 1 : Nat) : Int) := by omega
      go_wp2_with fail
      go_ret
      exact ⟨w.heap.size, Nat.le_refl _, rfl, Hr.out, hb⟩

theorem whoB_eq (fs : List Kn) (x : Int) : whoB fs x = twoB fs x x := by
  unfold whoB twoB; rw [Bool.and_self]
set_option maxHeartbeats 2000000 in
theorem faList_any (q : Nat → Bool) (n g B : Nat) (w : World) (hn : n ≤ 14) (h : w.ownsRow B 4 1 (.slice (some ⟨g, 0, none⟩) n n) n (mkRow q n)) :
    Calls Try.prog 29 #[.slice (some ⟨g, 0, none⟩) n n] w (RetOwn (pickI q n) w) := by
  obtain ⟨i0, hi, hz0, hz1, hz2⟩ := info_parts infoInt
  have hgl := (World.ownsRow.lt h g rfl).2
  have HC := Lib.hid (fun k (hk : k < n) => (World.ownsRow.cellAt h k (by omega)).trans (mkRow_at hk))
  clear h
  go_enter Try.func29, Try.ntmps29
  go_wp2
  go_loopw [3, 8] (fun u v wr => ∃ k : Nat, k ≤ n ∧ v = .int .i64 k ∧ Hid (Own w.heap.size wr u (pickI q k)) ∧ Below w.heap.size w wr) (fun _ v _ => n - (intOf v).toNat)
  case atStart => exact ⟨0, Nat.zero_le _, rfl, Lib.hid (own_nil _ _), Below.refl _ _⟩
  case round =>
    obtain ⟨k, hk, rfl, Ho, hb⟩ := hrel
    have hsz := hb.size
    by_cases hlt : k < n
    · have hck := (hb.cell (p := ⟨g, k, none⟩) hgl).trans (HC.out k hlt)
      have HY := Lib.hid (fun h => pickI_yes (q := q) (k := k) h)
      have HN := Lib.hid (fun h => pickI_no (q := q) (k := k) h)
      have htl := pickI_len q k
      generalize hxs : pickI q k = xs at Ho HY HN htl
      clear hxs
      have hlc : (k : Int) < (n : Int) := by omega
      have hk0 : (0 : Int) ≤ (k : Int) := by omega
      cases hz : q k with
      | true =>
        have HT := Lib.hid (HY.out hz)
        rw [hz] at hck
        clear hz HY HN
        go_wp2_with (at_builtin; refine wpList_append_own _ rfl _ _ 24 rfl w.heap.size 3 i0 (.int .i64 0) 1 8 Try.underlying24 hi hz0 hz1 hz2 rfl (by decide) u3 xs.length (xs.map (Value.int .i64)) rfl (World.ownsRow.alloc Ho.out _) ⟨wr.heap.size, 0, none⟩ 1 1 [.int .i64 k] rfl rfl (newCell _ _ _) (oneInt _) ?c4 ?c5 ?c6 ?_)
        case c4 => unfold maxLen; omega
        case c5 => omega
        case c6 => simp; omega
        intro v' w3 hown' hgrow _
        have hb3 := below_push hb Ho.out hgrow
        have Ho3 : Hid (Own w.heap.size w3 v' (pickI q (k + 1))) := Lib.hid (by rw [HT.out]; exact own_push hown')
        clear hown' hgrow hck
        go_wp2
        go_roundw
        case rel => exact ⟨k + 1, by omega, by go_num, Ho3, hb3⟩
        case measure => simp [intOf]; omega
      | false =>
        have HT := Lib.hid (HN.out hz)
        rw [hz] at hck
        clear hz HY HN
        go_wp2
        have Ho3 : Hid (Own w.heap.size wr u3 (pickI q (k + 1))) := Lib.hid (by rw [HT.out]; exact Ho.out)
        go_roundw
        case rel => exact ⟨k + 1, by omega, by go_num, Ho3, hb⟩
        case measure => simp [intOf]; omega
    · have hkn : k = n := by omega
      have HD := Lib.hid (show pickI q k = pickI q n by rw [hkn])
      have hlc : ¬ (k : Int) < (n : Int) := by omega
      clear hkn
      go_wp2
      go_ret
      exact ⟨_, rfl, by rw [← HD.out]; exact Ho.out, hb⟩
theorem pick_anc {fs : List Kn} (hf : famB fs = true) {i : Nat} (hi : i < fs.length) : pickI (abS fs i (i + 1)) fs.length = (ancN fs i).map fun (n : Nat) => (n : Int) := by
  have h := abN_eq hf hi
  unfold ancN
  rw [← h]
  unfold pickI abN allN
  rfl
theorem spAnc_any (fs : List Kn) (b c : Nat) (x : Int) (w : World) (hc : fs.length ≤ c) (hbl : b < w.heap.size) (hI : Kns w b 0 fs) :
    Calls Try.prog 10 #[.slice (some ⟨b, 0, none⟩) fs.length c, .int .i64 x] w (RetOwnB (if twoB fs x x = true then (ancN fs x.toNat).map fun (n : Nat) => (n : Int) else []) (twoB fs x x) w) := by
  have HT := Lib.hid (faWho_any fs b c x w hc hbl hI)
  rw [whoB_eq] at HT
  cases h2 : twoB fs x x with
  | false =>
    rw [if_neg (by simp)]
    rw [h2] at HT
    clear hI h2
    go_enter Try.func10, Try.ntmps10
    go_wp2_with (first | (go_at_call 28; refine HT.out.mono ?_; rintro e w1 ⟨rfl, hb1⟩; have hs1 := hb1.size))
    go_ret2
    exact ⟨_, rfl, own_nil _ _, hb1⟩
  | true =>
    rw [h2] at HT
    obtain ⟨hf, i, i2, rfl, hii, hi, hi2⟩ := twoB_yes h2
    clear hii hi2 i2
    rw [if_pos rfl, Int.toNat_natCast]
    have hF : Fm fs w b c := ⟨hI, hbl, hc, (famB_len hf).2⟩
    have hn := hF.few
    have HS := Lib.hid (fun (W : World) (hb : Below w.heap.size w W) => faAbove_any fs b c i W (hF.kept hb) hf hi)
    have HE := Lib.hid (pick_anc hf hi)
    clear hI h2 hf hF
    generalize ((ancN fs i).map fun (n : Nat) => (n : Int)) = rs at HE ⊢
    generalize abS fs i (i + 1) = q at HS HE
    go_enter Try.func10, Try.ntmps10
    go_wp2_with (first | (go_at_call 28; refine HT.out.mono ?_; rintro e w1 ⟨rfl, hb1⟩; have hs1 := hb1.size) | (go_at_call 30; refine (HS.out w1 hb1).mono ?_; rintro e w2 ⟨g, hg, rfl, ho2, hb2⟩; have hs2 := hb2.size) | (go_at_call 29; refine (faList_any q fs.length g _ _ hn ho2).mono ?_; rintro e w3 ⟨v3, rfl, ho3, hb3⟩))
    go_ret2
    have hb12 := hb1.trans (hb2.mono hs1)
    refine ⟨v3, rfl, ?_, hb12.trans (hb3.mono hb12.size)⟩
    rw [← HE.out]
    exact ho3.mono hb12.size
end Go.Proofs.Ytmlcelleohhmcaa
