/- The greatest round age: the program's text, and both. -/
import Derived.Test.YtadfojjglceheaaOd2
set_option linter.unusedVariables false
set_option linter.unusedSimpArgs false
namespace Go.Proofs.Ytadfojjglceheaa
open Go.RowKit

theorem oldestI_page (b off n c : Nat) (y e : Int) (zs : List Int) (w : World) (hl : zs.length = n) (hn : n ≤ 1048576) (hbl : b < w.heap.size) (hI : Ints w b off zs) (hno : (pgB zs y && inB e 1 100) = false) :
    Calls Try.prog 31 #[.slice (some ⟨b, off, none⟩) n c, .int .i64 y, .int .i64 e] w (RetIIB 0 0 false w) := by
  cases hp : pgB zs y with
  | false =>
    have HP := Lib.hid (pageIn_no b off n c y zs w hl hn hbl hI hp)
    go_enter Try.func31, Try.ntmps31
    go_wp2_with fail
    refine HP.out.mono ?_
    rintro e w1 ⟨v, rfl, ho, hb⟩
    rcases ho.cases with ⟨rfl, _⟩ | ⟨q, cq, rfl, _⟩
    all_goals
      have HB := Lib.hid hb
      clear ho hb
      go_wp2
      go_ret3
      exact ⟨rfl, HB.out.alloc HB.out.size _⟩
  | true =>
    rw [hp, Bool.true_and] at hno
    have HP := Lib.hid (pageIn_yes b off n c y zs w hl hbl hI hp)
    have HE := Lib.hid fun w => isEvery_any e w
    rw [hno] at HE
    generalize pgL zs y n = ps at HP
    go_enter Try.func31, Try.ntmps31
    go_wp2_with fail
    refine HP.out.mono ?_
    rintro e w1 ⟨v, rfl, ho, hb⟩
    rcases ho.cases with ⟨rfl, _⟩ | ⟨q, cq, rfl, _⟩
    all_goals
      have HB := Lib.hid hb
      clear ho hb
      go_wp2_with (go_at_call 41; refine (HE.out _).mono ?_; rintro e w' ⟨rfl, rfl⟩)
      go_ret3
      exact ⟨rfl, HB.out.alloc HB.out.size _⟩

set_option maxHeartbeats 2000000 in
theorem oldestI_none (b off n c : Nat) (y e : Int) (zs : List Int) (w : World) (hl : zs.length = n) (hbl : b < w.heap.size) (hI : Ints w b off zs) (hp : pgB zs y = true) (hq : inB e 1 100 = true) (h0 : (rdA zs y e).length = 0) :
    Calls Try.prog 31 #[.slice (some ⟨b, off, none⟩) n c, .int .i64 y, .int .i64 e] w (RetIIB 0 0 false w) := by
  have hln := bornB_len (pgB_true hp).1
  have he := (inB_iff.1 hq).1
  have HP := Lib.hid (pageIn_yes b off n c y zs w hl hbl hI hp)
  have HE := Lib.hid fun w => isEvery_any e w
  rw [hq] at HE
  have hok := psOk_pg zs y n (by omega)
  have HJ0 : ∀ (w : World) (B : Nat) (v : Value), OwnD 55 B w v (pgL zs y n) → Calls Try.prog 50 #[.agg #[.int .i64 y, v], .int .i64 e] w (Ret (.int .i64 0) w) := by
    intro w B v ho
    have := jubilees_any B v y e (pgL zs y n) w he hok ho
    have e0 : (rdL (pgL zs y n) e (pgL zs y n).length).length = 0 := by rw [← hl]; exact h0
    rw [e0] at this
    exact this
  have HJ := Lib.hid HJ0
  clear HJ0 h0 hok
  generalize pgL zs y n = ps at *
  go_enter Try.func31, Try.ntmps31
  go_wp2_with fail
  refine HP.out.mono ?_
  rintro e' w1 ⟨v, rfl, ho, hb⟩
  rcases ho.cases with ⟨rfl, _⟩ | ⟨q, cq, rfl, _⟩
  all_goals
    have HB := Lib.hid hb
    have HO := Lib.hid fun A => ho.alloc A
    clear ho hb
    go_wp2_with (first | (go_at_call 41; refine (HE.out _).mono ?_; rintro e w' ⟨rfl, rfl⟩) | (go_at_call 50; refine (HJ.out _ w.heap.size _ (HO.out _)).mono ?_; rintro e w' ⟨rfl, hcall⟩))
    go_ret3
    exact ⟨rfl, (HB.out.alloc HB.out.size _).trans (hcall.mono (by simp; have := HB.out.size; omega))⟩

set_option maxHeartbeats 4000000 in
theorem oldestI_some (b off n c : Nat) (y e : Int) (zs : List Int) (w : World) (hl : zs.length = n) (hbl : b < w.heap.size) (hI : Ints w b off zs) (hp : pgB zs y = true) (hq : inB e 1 100 = true) (h0 : 1 ≤ (rdA zs y e).length) :
    Calls Try.prog 31 #[.slice (some ⟨b, off, none⟩) n c, .int .i64 y, .int .i64 e] w (RetIIB (mxT (rdA zs y e) (rdA zs y e).length).1 (mxT (rdA zs y e) (rdA zs y e).length).2 true w) := by
  have hln := bornB_len (pgB_true hp).1
  have he := (inB_iff.1 hq).1
  have HP := Lib.hid (pageIn_yes b off n c y zs w hl hbl hI hp)
  have HE := Lib.hid fun w => isEvery_any e w
  rw [hq] at HE
  have hok := psOk_pg zs y n (by omega)
  have er : rdL (pgL zs y n) e (pgL zs y n).length = rdA zs y e := by rw [← hl]; rfl
  have HJ0 : ∀ (w : World) (B : Nat) (v : Value), OwnD 55 B w v (pgL zs y n) → Calls Try.prog 50 #[.agg #[.int .i64 y, v], .int .i64 e] w (Ret (.int .i64 (rdA zs y e).length) w) := by
    intro w B v ho
    have := jubilees_any B v y e (pgL zs y n) w he hok ho
    rw [er] at this
    exact this
  have HR0 : ∀ (w : World) (B : Nat) (v : Value), OwnD 55 B w v (pgL zs y n) → Calls Try.prog 43 #[.agg #[.int .i64 y, v], .int .i64 e] w (RetPs (rdA zs y e) w) := by
    intro w B v ho
    have := round_any B v y e (pgL zs y n) w he hok ho
    rw [er] at this
    exact this
  have hr10 : (rdA zs y e).length ≤ 10 := by rw [← er]; exact (psOk_rd hok e _ (Nat.le_refl _)).1
  have hrp : ∀ j, j < (rdA zs y e).length → 1 ≤ (at2 (rdA zs y e) j).2 ∧ (at2 (rdA zs y e) j).2 ≤ 120 := fun j hj => rdA_pos hj
  have HJ := Lib.hid HJ0
  have HR := Lib.hid HR0
  have HX := Lib.hid fun g c w hg hD => maxFunc_any g (rdA zs y e).length c (rdA zs y e) w rfl h0 hr10 hrp hg hD
  clear HJ0 HR0 hok er hrp
  generalize pgL zs y n = ps at *
  generalize rdA zs y e = rs at *
  obtain ⟨m, hm⟩ : ∃ m, rs.length = m := ⟨_, rfl⟩
  obtain ⟨p, hpp⟩ : ∃ p, mxT rs rs.length = p := ⟨_, rfl⟩
  rw [hpp] at HX ⊢
  rw [hm] at HX HJ h0 hr10
  obtain ⟨p1, p2⟩ := p
  simp only at HX ⊢
  have hne : ¬ ((m : Int) = 0) := by omega
  have hne2 : ((m : Int) == 0) = false := beq_eq_false_iff_ne.2 hne
  have HM := Lib.hid hm
  clear hpp hm
  go_enter Try.func31, Try.ntmps31
  go_wp2_with fail
  refine HP.out.mono ?_
  rintro e' w1 ⟨v, rfl, ho, hb⟩
  rcases ho.cases with ⟨rfl, _⟩ | ⟨q, cq, rfl, _⟩
  all_goals
    have HB := Lib.hid hb
    have HO := Lib.hid fun A => ho.alloc A
    clear ho hb
    go_wp2_with (first | (go_at_call 41; refine (HE.out _).mono ?_; rintro e w' ⟨rfl, rfl⟩))
    refine (HJ.out _ w.heap.size _ (HO.out _)).mono ?_
    rintro e2 w2 ⟨rfl, hb2⟩
    have HB2 := Lib.hid ((HB.out.alloc HB.out.size _).trans (hb2.mono (by simp; have := HB.out.size; omega)))
    have c0 : w2.cell? ⟨w1.heap.size, 0, none⟩ = some _ := below_cell2 hb2 (by simp; rfl)
    have c1 : w2.cell? ⟨w1.heap.size, 1, none⟩ = some _ := below_cell2 hb2 (by simp; rfl)
    have HO2 := Lib.hid ((HO.out _).kept hb2)
    clear hb2
    go_wp2_with fail
    refine (HR.out _ w.heap.size _ HO2.out).mono ?_
    rintro e3 w3 ⟨v3, rfl, ho3, hb3⟩
    have HB3 := Lib.hid (HB2.out.trans (hb3.mono HB2.out.size))
    have hcs : ∃ q cq, v3 = .slice (some ⟨q, 0, none⟩) m cq ∧ q < w3.heap.size ∧ Dts w3 q 0 rs := by
      rcases ho3.cases with ⟨h1, h2⟩ | ⟨q, cq, h1, _, h2, _, _, h3, _⟩
      · have := HM.out; rw [h2] at this; simp at this; omega
      · exact ⟨q, cq, by rw [← HM.out]; exact h1, h2, h3⟩
    obtain ⟨q3, cq3, rfl, hq3, hD3⟩ := hcs
    have HD3 := Lib.hid hD3
    clear ho3 hb3 hD3
    go_wp2_with fail
    refine (HX.out _ _ _ hq3 HD3.out).mono ?_
    rintro e4 w4 ⟨rfl, hb4⟩
    have HB4 := Lib.hid (HB3.out.trans (hb4.mono HB3.out.size))
    clear hb4
    go_wp2_with fail
    go_quiet (fail)
    go_wp2
    go_ret3
    exact ⟨rfl, below_drewN (HB4.out.alloc HB4.out.size _) _⟩

theorem oldestRound_both (zs : List Int) (y e : Int) : ∃ r1 r2 ok,
    (∀ b c w, zs.length ≤ 1048576 → b < w.heap.size → Ints w b 0 zs → Calls Try.prog 30 #[.slice (some ⟨b, 0, none⟩) zs.length c, .int .i64 y, .int .i64 e] w (RetIIB r1 r2 ok w)) ∧
    (∀ b c w, zs.length ≤ 1048576 → b < w.heap.size → Ints w b 0 zs → Calls Try.prog 31 #[.slice (some ⟨b, 0, none⟩) zs.length c, .int .i64 y, .int .i64 e] w (RetIIB r1 r2 ok w)) := by
  cases h : (pgB zs y && inB e 1 100) with
  | false => exact ⟨0, 0, false, fun b c w hn hb hI => oldestS_no b 0 _ c y e zs w rfl hn hI h, fun b c w hn hb hI => oldestI_page b 0 _ c y e zs w rfl hn hb hI h⟩
  | true =>
    rw [Bool.and_eq_true] at h
    refine ⟨_, _, _, fun b c w hn hb hI => oldestS_yes b 0 _ c y e zs w rfl hb hI h.1 h.2, fun b c w hn hb hI => ?_⟩
    by_cases h0 : 1 ≤ (rdA zs y e).length
    · have e1 : odB zs y e = true := by unfold odB; rw [h.1, h.2, decide_eq_true h0]; rfl
      have e2 : odP zs y e = mxT (rdA zs y e) (rdA zs y e).length := by unfold odP; rw [e1]; rfl
      rw [e1, e2]
      exact oldestI_some b 0 _ c y e zs w rfl hb hI h.1 h.2 h0
    · have e1 : odB zs y e = false := by unfold odB; rw [h.1, h.2, decide_eq_false h0]; rfl
      have e2 : odP zs y e = (0, 0) := by unfold odP; rw [e1]; rfl
      rw [e1, e2]
      exact oldestI_none b 0 _ c y e zs w rfl hb hI h.1 h.2 (by omega)
end Go.Proofs.Ytadfojjglceheaa
