/- YoungestParent: what it is; the model's text. -/
import Derived.Test.YthmcimdnbapnhaaPo
set_option linter.unusedVariables false
set_option linter.unusedSimpArgs false
namespace Go.Proofs.Ythmcimdnbapnhaa
open Go.RowKit

/-- How old p was in the year of the birth of c. -/
def ageN (fs : List Kn) (p c : Nat) : Int := (at3 fs c).1 - (at3 fs p).1
def upd (fs : List Kn) (B : Option (Nat × Nat)) (p c : Nat) : Option (Nat × Nat) :=
  match B with
  | none => some (p, c)
  | some q => if ageN fs p c < ageN fs q.1 q.2 then some (p, c) else some q
def yIn (fs : List Kn) (p : Nat) (cs : List Nat) (B : Option (Nat × Nat)) : Nat → Option (Nat × Nat)
  | 0 => B
  | j + 1 => upd fs (yIn fs p cs B j) p (cs.getD j 0)
def yOut (fs : List Kn) : Nat → Option (Nat × Nat)
  | 0 => none
  | k + 1 => yIn fs k (chiN fs k) (yOut fs k) (chiN fs k).length
/-- A parent and a child of it. -/
def OkP (fs : List Kn) (p c : Nat) : Prop := p < fs.length ∧ c < fs.length ∧ (0 ≤ (at3 fs p).1 ∧ (at3 fs p).1 ≤ 3000) ∧ (0 ≤ (at3 fs c).1 ∧ (at3 fs c).1 ≤ 3000) ∧ 14 ≤ ageN fs p c
def OkB (fs : List Kn) (B : Option (Nat × Nat)) : Prop := ∀ q, B = some q → OkP fs q.1 q.2
theorem okP_of {fs : List Kn} (hf : famB fs = true) {p c : Nat} (hc : c ∈ chiN fs p) : OkP fs p c := by
  unfold chiN at hc
  rw [List.mem_filter] at hc
  have hcl : c < fs.length := by simpa [allN] using hc.1
  have hip := isPar_iff.1 (show isPar fs p c = true by simpa using hc.2)
  have hfit := famB_at hf c hcl
  have hcb := fitB_born hfit
  have hpar := fitB_par hfit
  have hp : p < c ∧ 14 ≤ (at3 fs c).1 - (at3 fs p).1 := by
    rcases hpar with ⟨h1, h2⟩ | ⟨h1, h2, h3⟩
    · rcases hip with h | h <;> omega
    · rcases hip with h | h
      · rw [h] at h1 h2
        rw [Int.toNat_natCast] at h2
        exact ⟨by omega, h2⟩
      · rcases h3 with h3 | ⟨_, h3, h4⟩
        · omega
        · rw [h] at h3 h4
          rw [Int.toNat_natCast] at h4
          exact ⟨by omega, h4⟩
  exact ⟨by omega, hcl, fitB_born (famB_at hf p (by omega)), hcb, hp.2⟩
theorem upd_ok {fs : List Kn} {B : Option (Nat × Nat)} {p c : Nat} (hB : OkB fs B) (h : OkP fs p c) : OkB fs (upd fs B p c) := by
  intro q hq
  unfold upd at hq
  split at hq
  · cases hq; exact h
  · split at hq
    · cases hq; exact h
    · cases hq; exact hB _ rfl
theorem mem_getD2 {ps : List Nat} {j : Nat} (hj : j < ps.length) : ps.getD j 0 ∈ ps := by
  have e : ps.getD j 0 = ps[j] := by simp [List.getElem?_eq_getElem hj]
  rw [e]; exact List.getElem_mem hj
theorem yIn_ok {fs : List Kn} {p : Nat} {cs : List Nat} {B : Option (Nat × Nat)} (hB : OkB fs B) (h : ∀ c ∈ cs, OkP fs p c) : ∀ j, j ≤ cs.length → OkB fs (yIn fs p cs B j) := by
  intro j
  induction j with
  | zero => intro _; exact hB
  | succ j ih => intro hj; exact upd_ok (ih (by omega)) (h _ (mem_getD2 (by omega)))
theorem yOut_ok {fs : List Kn} (hf : famB fs = true) : ∀ k, OkB fs (yOut fs k) := by
  intro k
  induction k with
  | zero => intro q hq; simp [yOut] at hq
  | succ k ih => exact yIn_ok ih (fun c hc => okP_of hf hc) _ (Nat.le_refl _)
def yp1 (B : Option (Nat × Nat)) : Int := match B with | none => 0 | some q => (q.1 : Int)
def yp2 (B : Option (Nat × Nat)) : Int := match B with | none => 0 | some q => (q.2 : Int)
def ypL (fs : List Kn) (B : Option (Nat × Nat)) : Int := match B with | none => -1 | some q => ageN fs q.1 q.2
theorem upd_yes {fs : List Kn} {B : Option (Nat × Nat)} {p c : Nat} (hB : OkB fs B) (h : ypL fs B < 0 ∨ ageN fs p c < ypL fs B) : upd fs B p c = some (p, c) := by
  cases B with
  | none => rfl
  | some q =>
    have := (hB q rfl).2.2.2.2
    simp only [ypL] at h
    simp only [upd]
    rw [if_pos (by omega)]
theorem upd_no {fs : List Kn} {B : Option (Nat × Nat)} {p c : Nat} (h : ¬ (ypL fs B < 0 ∨ ageN fs p c < ypL fs B)) : upd fs B p c = B := by
  cases B with
  | none => simp [ypL] at h
  | some q =>
    simp only [ypL] at h
    simp only [upd]
    rw [if_neg (by omega)]
theorem ypL_some {fs : List Kn} {B : Option (Nat × Nat)} (hB : OkB fs B) : decide (0 ≤ ypL fs B) = B.isSome := by
  cases B with
  | none => rfl
  | some q => have := (hB q rfl).2.2.2.2; simp only [ypL, Option.isSome]; exact decide_eq_true (by omega)
theorem ypL_bd {fs : List Kn} {B : Option (Nat × Nat)} (hB : OkB fs B) : -1 ≤ ypL fs B ∧ ypL fs B ≤ 3000 := by
  cases B with
  | none => simp [ypL]
  | some q => have := hB q rfl; unfold OkP at this; simp only [ypL]; unfold ageN at *; omega
def yRes (fs : List Kn) : Option (Nat × Nat) := if famB fs = true then yOut fs fs.length else none
set_option maxHeartbeats 4000000 in
theorem spYou_any (fs : List Kn) (b c : Nat) (w : World) (hc : fs.length ≤ c) (hbl : b < w.heap.size) (hI : Kns w b 0 fs) :
    Calls Try.prog 47 #[.slice (some ⟨b, 0, none⟩) fs.length c] w (RetIIB (yp1 (yRes fs)) (yp2 (yRes fs)) (yRes fs).isSome w) := by
  have HG := Lib.hid (faGood_any b fs.length c fs w rfl hc hbl hI)
  unfold yRes
  cases hf : famB fs with
  | false =>
    rw [if_neg (by simp)]
    rw [hf] at HG
    clear hI hf
    go_enter Try.func47, Try.ntmps47
    go_wp2_with (go_at_call 51; refine HG.out.mono ?_; rintro e w1 ⟨rfl, hb1⟩)
    go_ret3
    exact ⟨rfl, hb1⟩
  | true =>
    rw [if_pos rfl]
    rw [hf] at HG
    have hn := famB_len hf
    have hF : Fm fs w b c := ⟨hI, hbl, hc, hn.2⟩
    have HC0 := Lib.hid (fun (k : Nat) (W : World) (hb : Below w.heap.size w W) => (show Calls Try.prog 61 #[.slice (some ⟨b, 0, none⟩) fs.length c, .int .i64 k] W (RetOwn (castN (chiN fs k)) W) from by rw [← chi_eq]; exact faChildren_any fs b c k W (hF.kept hb)))
    have HOK := Lib.hid (fun k => yOut_ok hf k)
    have HOP := Lib.hid (fun p c (h : c ∈ chiN fs p) => okP_of hf h)
    have HCL := Lib.hid (fun k => (show (chiN fs k).length ≤ 14 from by have := chiN_len fs k; rw [allN_len] at this; omega))
    have HI := Lib.hid hI
    clear hI hf hF
    go_enter Try.func47, Try.ntmps47
    go_wp2_with (go_at_call 51; refine HG.out.mono ?_; rintro e w1 ⟨rfl, hb1⟩; have hs1 := hb1.size)
    go_loopw [5, 6, 7, 17] (fun u5 u6 u7 v wr => ∃ k : Nat, k ≤ fs.length ∧ v = .int .i64 k ∧ u5 = .int .i64 (yp1 (yOut fs k)) ∧ u6 = .int .i64 (yp2 (yOut fs k)) ∧ u7 = .int .i64 (ypL fs (yOut fs k)) ∧ Below w.heap.size w wr) (fun _ _ _ v _ => fs.length - (intOf v).toNat)
    case atStart => exact ⟨0, Nat.zero_le _, rfl, rfl, rfl, rfl, hb1⟩
    case round =>
      obtain ⟨k, hk, rfl, rfl, rfl, rfl, hb⟩ := hrel
      have hsz := hb.size
      by_cases hlt : k < fs.length
      · have HC := Lib.hid (HC0.out k wr hb)
        have hcl := HCL.out k
        have HB0 := Lib.hid (HOK.out k)
        have HPC := Lib.hid (fun c h => HOP.out k c h)
        have HY : Hid (yOut fs (k + 1) = yIn fs k (chiN fs k) (yOut fs k) (chiN fs k).length) := Lib.hid rfl
        have hlc : (k : Int) < (fs.length : Int) := by omega
        have hk0 : (0 : Int) ≤ (k : Int) := by omega
        generalize chiN fs k = cs at HC hcl HPC HY
        generalize yOut fs k = B0 at HB0 HY ⊢
        go_wp2_with (first | (go_at_call 61; refine HC.out.mono ?_; rintro e w2 ⟨v2, rfl, ho2, hb2⟩; obtain ⟨a2, c2, rfl, har⟩ := ho2.arg; have hb2' := hb.trans (hb2.mono hsz)))
        have HA := Lib.hid har.2
        have hs2 := hb2'.size
        clear har ho2
        have HNL := Lib.hid (castN_len cs)
        generalize hnc : (castN cs).length = nc at HA HNL ⊢
        clear hnc
        go_loopw [5, 6, 7, 24] (fun u5 u6 u7 v wi => ∃ j : Nat, j ≤ nc ∧ v = .int .i64 j ∧ u5 = .int .i64 (yp1 (yIn fs k cs B0 j)) ∧ u6 = .int .i64 (yp2 (yIn fs k cs B0 j)) ∧ u7 = .int .i64 (ypL fs (yIn fs k cs B0 j)) ∧ Below w2.heap.size w2 wi) (fun _ _ _ v _ => nc - (intOf v).toNat)
        case atStart => exact ⟨0, Nat.zero_le _, rfl, rfl, rfl, rfl, Below.refl _ _⟩
        case round =>
          obtain ⟨j, hj, rfl, rfl, rfl, rfl, hbi⟩ := hrel
          have hszi := hbi.size
          by_cases hlt2 : j < nc
          · rcases HA.out with h0 | ⟨g2, off2, rfl, hgl2, hI2⟩
            · omega
            have hjl : j < cs.length := by rw [← HNL.out]; exact hlt2
            have hcx := (hI2.kept hbi hgl2) j (by rw [castN_len]; exact hjl)
            have e1 : (castN cs).getD j 0 = ((cs.getD j 0 : Nat) : Int) := by
              unfold castN
              simp [List.getElem?_eq_getElem hjl]
            rw [e1] at hcx
            have hop := HPC.out _ (mem_getD2 hjl)
            have HBj := Lib.hid (yIn_ok HB0.out HPC.out j (by rw [← HNL.out]; omega))
            have HYj : Hid (yIn fs k cs B0 (j + 1) = upd fs (yIn fs k cs B0 j) k (cs.getD j 0)) := Lib.hid rfl
            generalize cs.getD j 0 = x at hcx hop HYj
            generalize yIn fs k cs B0 j = B at HBj HYj ⊢
            have hbw := hb2'.trans (hbi.mono hs2)
            have hx1 := ((HI.out.kept hbw hbl) x hop.2.1).1
            have hx2 := ((HI.out.kept hbw hbl) k hop.1).1
            rw [Nat.zero_add] at hx1 hx2
            have HU1 := Lib.hid (fun h => upd_yes (fs := fs) (B := B) (p := k) (c := x) HBj.out h)
            have HU2 := Lib.hid (fun h => upd_no (fs := fs) (B := B) (p := k) (c := x) h)
            have hlb := ypL_bd HBj.out
            have hxl := hop.2.1
            obtain ⟨_, _, ho1, ho2, ho3⟩ := hop
            have HAg : Hid (ageN fs k x = (at3 fs x).1 - (at3 fs k).1) := Lib.hid rfl
            have HLx : Hid (ypL fs (some (k, x)) = ageN fs k x) := Lib.hid rfl
            rw [HAg.out] at HU1 HU2 HLx ho3
            clear HAg e1
            generalize (at3 fs x).1 = bc at hx1 ho2 ho3 HU1 HU2 HLx
            generalize (at3 fs k).1 = bp at hx2 ho1 ho3 HU1 HU2 HLx
            have HLB : Hid (ypL fs B = ypL fs B) := Lib.hid rfl
            generalize hLe : ypL fs B = L at hlb HU1 HU2 ⊢
            replace HLB := Lib.hid hLe
            clear hLe
            have hx0 : (0 : Int) ≤ (x : Int) := by omega
            have hxi : (x : Int) < (fs.length : Int) := by omega
            have hj0 : (0 : Int) ≤ (j : Int) := by omega
            have hj1 : (j : Int) < (nc : Int) := by omega
            have hwr : IntKind.i64.wrap (bc - bp) = bc - bp := IntWalk.i64_in _ (by omega)
            clear hI2
            by_cases hL : L < 0
            · have HT := Lib.hid (HU1.out (.inl hL))
              clear HU1 HU2
              go_wp2_with fail
              go_quiet (fail)
              go_wp2_with fail
              go_roundw
              case rel => exact ⟨j + 1, by omega, by go_num, by rw [HYj.out, HT.out]; rfl, by rw [HYj.out, HT.out]; rfl, by rw [HYj.out, HT.out, HLx.out], below_drewN hbi _⟩
              case measure => simp [intOf]; omega
            · by_cases hA : bc - bp < L
              · have HT := Lib.hid (HU1.out (.inr hA))
                clear HU1 HU2
                go_wp2_with fail
                go_quiet (fail)
                go_wp2_with fail
                go_roundw
                case rel => exact ⟨j + 1, by omega, by go_num, by rw [HYj.out, HT.out]; rfl, by rw [HYj.out, HT.out]; rfl, by rw [HYj.out, HT.out, HLx.out], below_drewN hbi _⟩
                case measure => simp [intOf]; omega
              · have HT := Lib.hid (HU2.out (by omega))
                clear HU1 HU2
                go_wp2_with fail
                go_quiet (fail)
                go_wp2_with fail
                go_roundw
                case rel => exact ⟨j + 1, by omega, by go_num, by rw [HYj.out, HT.out], by rw [HYj.out, HT.out], by rw [HYj.out, HT.out, HLB.out], below_drewN hbi _⟩
                case measure => simp [intOf]; omega
          · have hjn : j = cs.length := by rw [← HNL.out]; omega
            have HD := Lib.hid (show yIn fs k cs B0 j = yOut fs (k + 1) by rw [HY.out, hjn])
            have hlc2 : ¬ (j : Int) < (nc : Int) := by omega
            clear hjn
            go_wp2_with fail
            go_roundw
            case rel => exact ⟨k + 1, by omega, by go_num, by rw [← HD.out], by rw [← HD.out], by rw [← HD.out], hb2'.trans (hbi.mono hs2)⟩
            case measure => simp [intOf]; omega
      · have hkn : k = fs.length := by omega
        have HD := Lib.hid (show yOut fs k = yOut fs fs.length by rw [hkn])
        have HS := Lib.hid (ypL_some (HOK.out k))
        have hlc : ¬ (k : Int) < (fs.length : Int) := by omega
        clear hkn
        go_wp2_with fail
        go_ret3
        exact ⟨by rw [← HD.out, ← HS.out]; rfl, hb⟩
end Go.Proofs.Ythmcimdnbapnhaa
