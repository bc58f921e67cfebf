/- Shared numbers: the program's text where there is one; the model's text. -/
import Derived.Test.YtadfojjglceheaaSh
set_option linter.unusedVariables false
set_option linter.unusedSimpArgs false
namespace Go.Proofs.Ytadfojjglceheaa
open Go.RowKit

theorem gcT_fold (l : List Int) (h : l ≠ []) : gcT l l.length = l.foldl (fun g z => Nat.gcd g z.natAbs) 0 := by
  unfold gcT; rw [List.take_length]; exact gcf_self l h

set_option maxHeartbeats 2000000 in
theorem sharedI_ok (b off n c : Nat) (y : Int) (zs : List Int) (w : World) (hl : zs.length = n) (hbl : b < w.heap.size) (hI : Ints w b off zs) (h1 : pgB zs y = true) (h2 : ctB zs y n = true) (h3 : 1 ≤ (olA zs y).length) :
    Calls Try.prog 23 #[.slice (some ⟨b, off, none⟩) n c, .int .i64 y] w (RetIB ((shT zs y n : Nat) : Int) true w) := by
  have hg := (pgB_true h1).1
  have hln := bornB_len hg
  have HP := Lib.hid (pageIn_yes b off n c y zs w hl hbl hI h1)
  have hok := psOk_pg zs y n (by omega)
  have hpl : (pgL zs y n).length = n := pgL_all h2
  have HR := Lib.hid fun B v w ho => round_any B v y 1 (pgL zs y n) w (by omega) hok ho
  have hok2 := (psOk_rd hok 1 _ (Nat.le_refl _)).1
  have hol : (rdL (pgL zs y n) 1 (pgL zs y n).length).map (·.2) = olA zs y := by unfold olA rdA; rw [hl]
  have hgv : gcT (olA zs y) (olA zs y).length = shT zs y n := by
    rw [gcT_fold _ (fun e => by rw [e] at h3; simp at h3)]
    subst hl
    exact (shT_ol h2).symm
  have hpos : ∀ j, j < (olA zs y).length → 1 ≤ (olA zs y).getD j 0 ∧ (olA zs y).getD j 0 ≤ 1152921504606846976 := by
    intro j hj
    have := olA_pos (zs := zs) (y := y) (x := (olA zs y).getD j 0) (by simp [List.getD_eq_getElem?_getD, List.getElem?_eq_getElem hj])
    omega
  have HM := Lib.hid fun B v w ho => agesOf_any B v (rdL (pgL zs y n) 1 (pgL zs y n).length) w hok2 ho
  rw [hol] at HM
  have hlo : (olA zs y).length ≤ 10 := by rw [← hol, List.length_map]; exact hok2
  rw [← hgv]
  have hpl' : (pgL zs y n).length = n := hpl
  clear hol hgv hok hok2 h2
  generalize rdL (pgL zs y n) 1 (pgL zs y n).length = rs at HR HM
  generalize pgL zs y n = ps at HP HR hpl hpl'
  generalize olA zs y = ns at HM hpos hlo h3 ⊢
  have HPO := Lib.hid hpos
  have HD := Lib.hid fun b c w hI => greatDiv_any b c ns.length ns w rfl h3 (by omega) HPO.out hI
  obtain ⟨G, hG⟩ : ∃ G, gcT ns ns.length = G := ⟨_, rfl⟩
  rw [hG] at HD ⊢
  have hne : ¬ ((ns.length : Int) = 0) := by omega
  have hne2 : ((ns.length : Int) == 0) = false := beq_eq_false_iff_ne.2 hne
  clear hG hpos h1
  go_enter Try.func23, Try.ntmps23
  go_wp2_with fail
  refine HP.out.mono ?_
  rintro e' w1 ⟨v, rfl, ho, hb⟩
  have hcs : (v = .slice none 0 0 ∧ n = 0) ∨ ∃ q cq, v = .slice (some ⟨q, 0, none⟩) n cq := by
    rcases ho.cases with ⟨h1, h2⟩ | ⟨q, cq, h1, _⟩
    · exact .inl ⟨h1, by rw [← hpl, h2]; rfl⟩
    · exact .inr ⟨q, cq, by rw [← hpl]; exact h1⟩
  rcases hcs with ⟨_, h0⟩ | ⟨q, cq, rfl⟩
  · omega
  have HB := Lib.hid hb
  have HO := Lib.hid fun A => ho.alloc A
  clear ho hb hpl hpl'
  go_wp2_with fail
  refine (HR.out _ _ _ (HO.out _)).mono ?_
  rintro e2 w2 ⟨v2, rfl, ho2, hb2⟩
  have HB2 := Lib.hid ((HB.out.alloc HB.out.size _).trans (hb2.mono (by simp; have := HB.out.size; omega)))
  have c1 : w2.cell? ⟨w1.heap.size, 1, none⟩ = some _ := below_cell2 hb2 (by simp; rfl)
  have hcs2 : v2 = .slice none 0 0 ∨ ∃ q n2 cq, v2 = .slice (some ⟨q, 0, none⟩) n2 cq := by
    rcases ho2.cases with ⟨h1, h2⟩ | ⟨q, cq, h1, _⟩
    · exact .inl h1
    · exact .inr ⟨q, _, cq, h1⟩
  rcases hcs2 with rfl | ⟨q2, n2, cq2, rfl⟩
  all_goals
    have HO2 := Lib.hid ho2
    clear ho2 hb2
    go_wp2_with fail
    refine (HM.out _ _ _ HO2.out).mono ?_
    rintro e3 w3 ⟨g3, hg3, rfl, ho3, hb3⟩
    have HB3 := Lib.hid (HB2.out.trans (hb3.mono HB2.out.size))
    have HI3 := Lib.hid ho3.shape.2.2.2.2.1
    have c2 := below_cell2 hb3 c1
    clear ho3 hb3 hg3 c1
    go_wp2_with fail
    refine (HD.out _ _ _ HI3.out).mono ?_
    rintro e4 w4 ⟨rfl, hb4⟩
    have HB4 := Lib.hid (HB3.out.trans (hb4.mono HB3.out.size))
    clear hb4
    go_wp2
    go_ret2
    exact ⟨rfl, HB4.out⟩

set_option maxHeartbeats 2000000 in
theorem sharedS_no (b off n c : Nat) (y : Int) (zs : List Int) (w : World) (hl : zs.length = n) (hn : n ≤ 1048576) (hI : Ints w b off zs) (hno : pgB zs y = false) :
    Calls Try.prog 22 #[.slice (some ⟨b, off, none⟩) n c, .int .i64 y] w (RetIB 0 false w) := by
  have HY := Lib.hid fun w hI => roYear_any b off n c y zs w hl hn hI
  rw [hno] at HY
  go_enter Try.func22, Try.ntmps22
  go_wp2_with (first | (go_at_call 37; refine (HY.out _ hI).mono ?_; rintro e w' ⟨rfl, rfl⟩))
  go_ret2
  exact ⟨rfl, Below.refl _ _⟩

def shW (zs : List Int) (y : Int) (n : Nat) : Int := if ctB zs y n = true then ((shT zs y n : Nat) : Int) else 0
def shO (zs : List Int) (y : Int) (n : Nat) : Bool := ctB zs y n && decide (0 < shT zs y n)
theorem shW_f {zs : List Int} {y : Int} {n : Nat} (h : ctB zs y n = false) : shW zs y n = 0 ∧ shO zs y n = false := by unfold shW shO; rw [h]; exact ⟨rfl, rfl⟩
theorem shW_z {zs : List Int} {y : Int} {n : Nat} (h : shT zs y n = 0) : shW zs y n = 0 ∧ shO zs y n = false := by
  unfold shW shO; rw [h]; constructor
  · split <;> rfl
  · simp
theorem shW_t {zs : List Int} {y : Int} {n : Nat} (h : ctB zs y n = true) (h0 : 0 < shT zs y n) : shW zs y n = ((shT zs y n : Nat) : Int) ∧ shO zs y n = true := by
  unfold shW shO; rw [h, decide_eq_true h0]; exact ⟨rfl, rfl⟩

set_option maxHeartbeats 4000000 in
theorem sharedS_yes (b off n c : Nat) (y : Int) (zs : List Int) (w : World) (hl : zs.length = n) (hbl : b < w.heap.size) (hI : Ints w b off zs) (hp : pgB zs y = true) :
    Calls Try.prog 22 #[.slice (some ⟨b, off, none⟩) n c, .int .i64 y] w (RetIB (shW zs y n) (shO zs y n) w) := by
  obtain ⟨hg, hy⟩ := pgB_true hp
  have hln := bornB_len hg
  have HY := Lib.hid fun w hI => roYear_any b off n c y zs w hl (by omega) hI
  rw [hp] at HY
  have HZ := Lib.hid fun j (hj : j < n) => bornB_at hg j (by omega)
  have HI := Lib.hid hI
  have HL := Lib.hid hl
  have HBD : Hid (∀ k, k ≤ n → ctB zs y k = true → shT zs y k ≤ 120) := by
    refine Lib.hid fun k => ?_
    induction k with
    | zero => intro _ _; simp [shT]
    | succ k ih =>
      intro hk hc
      rw [ctB_succ, Bool.and_eq_true] at hc
      have h1 := ih (by omega) hc.1
      have h2 := cnt_iff.1 hc.2
      rw [shT]
      by_cases h0 : (y - zs.getD k 0).natAbs = 0
      · rw [h0, Nat.gcd_zero_left]; exact h1
      · exact Nat.le_trans (Nat.gcd_le_left _ (by omega)) (by omega)
  have hn10 : n ≤ 10 := by omega
  clear hg hl hp
  go_enter Try.func22, Try.ntmps22
  go_wp2_with (first | (go_at_call 37; refine (HY.out _ hI).mono ?_; rintro e w' ⟨rfl, rfl⟩))
  clear hI
  go_loopw [6, 18] (fun s i wr => ∃ k : Nat, k ≤ n ∧ i = .int .i64 k ∧ s = .int .i64 ((shT zs y k : Nat) : Int) ∧ ctB zs y k = true ∧ Below w.heap.size w wr) (fun _ i _ => n - (intOf i).toNat)
  case atStart => exact ⟨0, Nat.zero_le _, rfl, rfl, rfl, Below.refl _ _⟩
  case round =>
    obtain ⟨k, hk, rfl, rfl, hct, hb⟩ := hrel
    by_cases hlt : k < n
    · have hc := (HI.out.kept hb hbl) k (by rw [HL.out]; exact hlt)
      have hzk := HZ.out k hlt
      have hs120 := HBD.out k hk hct
      have HA := Lib.hid fun w => roAge_any (zs.getD k 0) y w hzk hy
      cases hcn : cnt (zs.getD k 0) y with
      | false =>
        have ea : agM (zs.getD k 0) y = -1 := by unfold agM; rw [hcn]; rfl
        rw [ea] at HA
        have hcf : Hid (ctB zs y n = false) := by
          refine Lib.hid ?_
          cases h : ctB zs y n with
          | false => rfl
          | true => have := ctB_at h k hlt; rw [hcn] at this; exact absurd this (by simp)
        clear hcn ea
        generalize zs.getD k 0 = z at hc hzk HA
        generalize shT zs y k = S at hs120
        go_wp2_with (first | (go_at_call 46; refine (HA.out _).mono ?_; rintro e w' ⟨rfl, rfl⟩))
        go_ret2
        obtain ⟨q1, q2⟩ := shW_f hcf.out
        exact ⟨by rw [q1, q2]; rfl, hb⟩
      | true =>
        have ea : agM (zs.getD k 0) y = y - zs.getD k 0 := by unfold agM; rw [hcn]; rfl
        rw [ea] at HA
        have hbb := cnt_iff.1 hcn
        have hct2 : Hid (ctB zs y (k + 1) = true) := Lib.hid (by rw [ctB_succ, hct, hcn]; rfl)
        have hsh : Hid (shT zs y (k + 1) = Nat.gcd (y - zs.getD k 0).natAbs (shT zs y k)) := Lib.hid rfl
        obtain ⟨D, hD⟩ : ∃ D : Nat, y - zs.getD k 0 = (D : Int) := ⟨(y - zs.getD k 0).toNat, by omega⟩
        rw [hD] at HA hsh
        have hD120 : D ≤ 120 := by omega
        clear hcn ea hbb hD hct
        generalize zs.getD k 0 = z at hc hzk HA
        generalize shT zs y k = S at hs120 hsh
        go_wp2_with (first | (go_at_call 46; refine (HA.out _).mono ?_; rintro e w' ⟨rfl, rfl⟩))
        obtain ⟨wo, rfl⟩ : ∃ wo : World, wo = wr := ⟨_, rfl⟩
        go_loopw [10, 11] (fun p q wx => ∃ (A B : Nat), p = .int .i64 A ∧ q = .int .i64 B ∧ Hid (Nat.gcd A B = Nat.gcd D S) ∧ A ≤ 120 ∧ B ≤ 120 ∧ Below w.heap.size w wx) (fun _ q _ => (intOf q).toNat)
        case atStart => exact ⟨D, S, rfl, rfl, Lib.hid rfl, hD120, hs120, hb⟩
        case round =>
          obtain ⟨A, B, rfl, rfl, hg, hA, hB, hb2⟩ := hrel
          by_cases h0 : B = 0
          · subst h0
            have hA2 : Hid ((A : Int) = ((shT zs y (k + 1) : Nat) : Int)) := Lib.hid (by rw [hsh.out]; have := hg.out; rw [Nat.gcd_zero_right] at this; rw [this]; simp)
            go_wp2
            go_roundw
            case rel => exact ⟨k + 1, by omega, by go_num, by rw [hA2.out], hct2.out, hb2⟩
            case measure => simp [intOf]; omega
          · have hp : (0 : Int) < (B : Int) := by omega
            have hne2 : ((B : Int) == 0) = false := beq_eq_false_iff_ne.2 (by omega)
            have hne : ¬ ((B : Int) = 0) := by omega
            have hm : A % B < B := Nat.mod_lt _ (by omega)
            have hg2 : Hid (Nat.gcd B (A % B) = Nat.gcd D S) := Lib.hid (by rw [Nat.gcd_comm, ← Nat.gcd_rec, Nat.gcd_comm]; exact hg.out)
            go_wp2
            go_quiet (fail)
            go_wp2
            go_roundw
            case rel => exact ⟨B, A % B, rfl, by first | rfl | (simp; done), hg2, hB, by omega, below_drewN hb2 _⟩
            case measure => simp [intOf]; omega
    · have hkn : k = n := by omega
      subst hkn
      have hs120 := HBD.out k hk hct
      by_cases h0 : shT zs y k = 0
      · have HQ := Lib.hid (shW_z h0)
        rw [h0]
        clear h0 hs120 hct
        go_wp2
        go_ret2
        exact ⟨by rw [HQ.out.1, HQ.out.2]; rfl, hb⟩
      · have HQ := Lib.hid (shW_t hct (by omega))
        have hne : ¬ (((shT zs y k : Nat) : Int) = 0) := by omega
        have hne2 : ((((shT zs y k : Nat) : Int)) == 0) = false := beq_eq_false_iff_ne.2 hne
        clear h0 hct
        generalize shT zs y k = S at hs120 hne hne2 HQ ⊢
        go_wp2
        go_ret2
        exact ⟨by rw [HQ.out.1, HQ.out.2]; rfl, hb⟩

theorem shOk_S (zs : List Int) (y : Int) (h1 : pgB zs y = true) : shW zs y zs.length = shV zs y ∧ shO zs y zs.length = shOk zs y := by
  unfold shV shOk
  rw [h1, Bool.true_and]
  cases h2 : ctB zs y zs.length with
  | false =>
    obtain ⟨a1, a2⟩ := shW_f h2
    rw [a1, a2]; exact ⟨rfl, rfl⟩
  | true =>
    rw [Bool.true_and]
    by_cases h3 : 1 ≤ (olA zs y).length
    · have h0 := shT_pos h2 (fun e => by rw [e] at h3; simp at h3)
      obtain ⟨a1, a2⟩ := shW_t h2 h0
      rw [a1, a2, decide_eq_true h3]; exact ⟨rfl, rfl⟩
    · have h4 : olA zs y = [] := List.eq_nil_of_length_eq_zero (by omega)
      obtain ⟨a1, a2⟩ := shW_z (shT_none h2 h4)
      rw [a1, a2, decide_eq_false h3]; exact ⟨rfl, rfl⟩

theorem sharedEvery_both (zs : List Int) (y : Int) : ∃ r ok,
    (∀ b c w, zs.length ≤ 1048576 → b < w.heap.size → Ints w b 0 zs → Calls Try.prog 22 #[.slice (some ⟨b, 0, none⟩) zs.length c, .int .i64 y] w (RetIB r ok w)) ∧
    (∀ b c w, zs.length ≤ 1048576 → b < w.heap.size → Ints w b 0 zs → Calls Try.prog 23 #[.slice (some ⟨b, 0, none⟩) zs.length c, .int .i64 y] w (RetIB r ok w)) := by
  refine ⟨shV zs y, shOk zs y, fun b c w hn hb hI => ?_, fun b c w hn hb hI => ?_⟩
  · cases h1 : pgB zs y with
    | false =>
      have e1 : shOk zs y = false := by unfold shOk; rw [h1]; rfl
      have e2 : shV zs y = 0 := by unfold shV; rw [e1]; rfl
      rw [e1, e2]
      exact sharedS_no b 0 _ c y zs w rfl hn hI h1
    | true =>
      obtain ⟨a1, a2⟩ := shOk_S zs y h1
      rw [← a1, ← a2]
      exact sharedS_yes b 0 _ c y zs w rfl hb hI h1
  · cases h1 : pgB zs y with
    | false =>
      have e1 : shOk zs y = false := by unfold shOk; rw [h1]; rfl
      have e2 : shV zs y = 0 := by unfold shV; rw [e1]; rfl
      rw [e1, e2]
      exact sharedI_fail b 0 _ c y 0 [] false zs w ⟨by simp, fun j hj => by simp at hj⟩ (pageIn_no b 0 _ c y zs w rfl hn hb hI h1) hn (.inl rfl)
    | true =>
      have hln := bornB_len (pgB_true h1).1
      have hP := pageIn_yes b 0 _ c y zs w rfl hb hI h1
      cases h2 : ctB zs y zs.length with
      | false =>
        have e1 : shOk zs y = false := by unfold shOk; rw [h1, h2]; rfl
        have e2 : shV zs y = 0 := by unfold shV; rw [e1]; rfl
        rw [e1, e2]
        exact sharedI_fail b 0 _ c y y _ true zs w (psOk_pg zs y _ (by omega)) hP hn (.inr (.inl (pgL_less h2)))
      | true =>
        by_cases h3 : 1 ≤ (olA zs y).length
        · have e1 : shOk zs y = true := by unfold shOk; rw [h1, h2, decide_eq_true h3]; rfl
          have e2 : shV zs y = ((shT zs y zs.length : Nat) : Int) := by unfold shV; rw [e1]; rfl
          rw [e1, e2]
          exact sharedI_ok b 0 _ c y zs w rfl hb hI h1 h2 h3
        · have e1 : shOk zs y = false := by unfold shOk; rw [h1, h2, decide_eq_false h3]; rfl
          have e2 : shV zs y = 0 := by unfold shV; rw [e1]; rfl
          rw [e1, e2]
          refine sharedI_fail b 0 _ c y y _ true zs w (psOk_pg zs y _ (by omega)) hP hn (.inr (.inr ⟨pgL_all h2, ?_⟩))
          unfold olA rdA at h3
          rw [List.length_map] at h3
          omega
end Go.Proofs.Ytadfojjglceheaa
