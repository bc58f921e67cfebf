/- The greatest round age: both texts. -/
import Derived.Test.YtadfojjglceheaaOd
set_option linter.unusedVariables false
set_option linter.unusedSimpArgs false
namespace Go.Proofs.Ytadfojjglceheaa
open Go.RowKit

theorem rdA_at (zs : List Int) (y e : Int) (k : Nat) (hk : k < (rdA zs y e).length) :
    ∃ W : Nat, W < zs.length ∧ (jbL zs y e zs.length).getD k 0 = (W : Int) ∧ at2 (rdA zs y e) k = ((W : Int), y - zs.getD W 0) := by
  rw [rdA_eq] at hk ⊢
  unfold jbL
  generalize hL : ((List.range zs.length).filter fun i => cnt (zs.getD i 0) y && rnd (y - zs.getD i 0) e) = L at hk ⊢
  rw [List.length_map] at hk
  have hmem : ∀ x, x ∈ L → x < zs.length := by
    intro x hx
    rw [← hL] at hx
    simpa using (List.mem_filter.1 hx).1
  refine ⟨L[k], hmem _ (List.getElem_mem hk), ?_, ?_⟩
  · simp [List.getD_eq_getElem?_getD, List.getElem?_map, List.getElem?_eq_getElem hk]
  · simp [at2, List.getD_eq_getElem?_getD, List.getElem?_map, List.getElem?_eq_getElem hk]
theorem rdA_pos {zs : List Int} {y e : Int} {k : Nat} (hk : k < (rdA zs y e).length) : 1 ≤ (at2 (rdA zs y e) k).2 ∧ (at2 (rdA zs y e) k).2 ≤ 120 := by
  have hm := getD_memP hk
  obtain ⟨h1, h2⟩ := rdL_mem hm
  have h3 := pgL_mem h1
  unfold rnd at h2
  rw [Bool.and_eq_true, decide_eq_true_eq] at h2
  omega
theorem mxT_bd {zs : List Int} {y e : Int} : ∀ k, k ≤ (rdA zs y e).length → 0 ≤ (mxT (rdA zs y e) k).2 ∧ (mxT (rdA zs y e) k).2 ≤ 120 ∧ (1 ≤ k → 1 ≤ (mxT (rdA zs y e) k).2)
  | 0, _ => ⟨by show (0 : Int) ≤ 0; omega, by show (0 : Int) ≤ 120; omega, fun h => absurd h (by omega)⟩
  | k + 1, hk => by
    have ih := mxT_bd (zs := zs) (y := y) (e := e) k (by omega)
    have hp := rdA_pos (zs := zs) (y := y) (e := e) (k := k) (by omega)
    have hm : mxT (rdA zs y e) (k + 1) = if (mxT (rdA zs y e) k).2 < (at2 (rdA zs y e) k).2 then at2 (rdA zs y e) k else mxT (rdA zs y e) k := rfl
    rw [hm]
    split
    · exact ⟨by omega, by omega, fun _ => by omega⟩
    · exact ⟨ih.1, ih.2.1, fun _ => by omega⟩

def odB (zs : List Int) (y e : Int) : Bool := pgB zs y && inB e 1 100 && decide (1 ≤ (rdA zs y e).length)
def odP (zs : List Int) (y e : Int) : Dt := if odB zs y e = true then mxT (rdA zs y e) (rdA zs y e).length else (0, 0)

theorem oldestS_no (b off n c : Nat) (y e : Int) (zs : List Int) (w : World) (hl : zs.length = n) (hn : n ≤ 1048576) (hI : Ints w b off zs) (hno : (pgB zs y && inB e 1 100) = false) :
    Calls Try.prog 30 #[.slice (some ⟨b, off, none⟩) n c, .int .i64 y, .int .i64 e] w (RetIIB 0 0 false w) := by
  have HY := Lib.hid fun w hI => roYear_any b off n c y zs w hl hn hI
  have HE := Lib.hid fun w => roEvery_any e w
  generalize pgB zs y = p at HY hno
  generalize inB e 1 100 = q at HE hno
  cases p with
  | false =>
    go_enter Try.func30, Try.ntmps30
    go_wp2_with (first | (go_at_call 37; refine (HY.out _ hI).mono ?_; rintro e w' ⟨rfl, rfl⟩))
    go_ret3
    exact ⟨rfl, Below.refl _ _⟩
  | true =>
    rw [Bool.true_and] at hno
    subst hno
    go_enter Try.func30, Try.ntmps30
    go_wp2_with (first | (go_at_call 37; refine (HY.out _ hI).mono ?_; rintro e w' ⟨rfl, rfl⟩) | (go_at_call 38; refine (HE.out _).mono ?_; rintro e w' ⟨rfl, rfl⟩))
    go_ret3
    exact ⟨rfl, Below.refl _ _⟩

set_option maxHeartbeats 2000000 in
theorem oldestS_yes (b off n c : Nat) (y e : Int) (zs : List Int) (w : World) (hl : zs.length = n) (hbl : b < w.heap.size) (hI : Ints w b off zs) (hp : pgB zs y = true) (hq : inB e 1 100 = true) :
    Calls Try.prog 30 #[.slice (some ⟨b, off, none⟩) n c, .int .i64 y, .int .i64 e] w (RetIIB (odP zs y e).1 (odP zs y e).2 (odB zs y e) w) := by
  obtain ⟨hg, hy⟩ := pgB_true hp
  have hln := bornB_len hg
  have HY := Lib.hid fun w hI => roYear_any b off n c y zs w hl (by omega) hI
  have HE := Lib.hid fun w => roEvery_any e w
  have HZ0 : Hid ((rdA zs y e).length = 0 → odP zs y e = (0, 0) ∧ odB zs y e = false) := Lib.hid fun h => by
    have e1 : odB zs y e = false := by unfold odB; rw [hp, hq, decide_eq_false (by omega)]; rfl
    exact ⟨by unfold odP; rw [e1]; rfl, e1⟩
  have HZ1 : Hid (1 ≤ (rdA zs y e).length → odP zs y e = mxT (rdA zs y e) (rdA zs y e).length ∧ odB zs y e = true) := Lib.hid fun h => by
    have e1 : odB zs y e = true := by unfold odB; rw [hp, hq, decide_eq_true h]; rfl
    exact ⟨by unfold odP; rw [e1]; rfl, e1⟩
  rw [hp] at HY
  rw [hq] at HE
  have HR := Lib.hid (roIn_any b off n c y e zs w hl (by omega) (by have := inB_iff.1 hq; omega) (fun j hj => bornB_at hg j (by omega)) hy hbl hI)
  have HAT := Lib.hid (rdA_at zs y e)
  have HBD := Lib.hid (@mxT_bd zs y e)
  have hlen := rdA_len zs y e
  have HJL : Hid (jbL zs y e n = jbL zs y e zs.length) := Lib.hid (by rw [hl])
  rw [HJL.out] at HR
  have hm10 : (jbL zs y e zs.length).length ≤ 10 := by have := jbL_len zs y e zs.length; omega
  have HZ := Lib.hid fun j (hj : j < n) => bornB_at hg j (by omega)
  have HI := Lib.hid hI
  have HL := Lib.hid hl
  generalize jbL zs y e zs.length = js at *
  generalize rdA zs y e = ps at *
  have hn10 : n ≤ 10 := by omega
  clear hg hl hp hq HJL
  go_enter Try.func30, Try.ntmps30
  go_wp2_with (first | (go_at_call 37; refine (HY.out _ hI).mono ?_; rintro e w' ⟨rfl, rfl⟩) | (go_at_call 38; refine (HE.out _).mono ?_; rintro e w' ⟨rfl, rfl⟩))
  refine HR.out.mono ?_
  rintro e1 w1 ⟨v, rfl, ho, hb⟩
  clear hI
  rcases ho.cases with ⟨rfl, hnil⟩ | ⟨q, cq, rfl, _, hql, _, _, hJ, _⟩
  · have hz := HZ0.out (by rw [hlen, hnil]; rfl)
    have HZ2 := Lib.hid hz
    clear ho hnil hz
    go_wp2
    go_rounds 1
    go_ret3
    exact ⟨by rw [HZ2.out.1, HZ2.out.2]; rfl, hb⟩
  · obtain ⟨m, hm⟩ : ∃ m, js.length = m := ⟨_, rfl⟩
    rw [hm] at hlen hm10 ⊢
    have HM := Lib.hid hm
    have HLEN := Lib.hid hlen
    have HJ2 := Lib.hid hJ
    clear ho hm hJ hlen
    go_wp2
    go_loopw [9, 10, 28] (fun p q i wr => ∃ k : Nat, k ≤ m ∧ i = .int .i64 k ∧ p = .int .i64 (mxT ps k).1 ∧ q = .int .i64 (mxT ps k).2 ∧ wr = w1) (fun _ _ i _ => m - (intOf i).toNat)
    case atStart => exact ⟨0, Nat.zero_le _, rfl, rfl, rfl, by first | rfl | trivial⟩
    case round =>
      obtain ⟨k, hk, rfl, rfl, rfl, rfl⟩ := hrel
      have hbd := HBD.out k (by rw [HLEN.out]; exact hk)
      by_cases hlt : k < m
      · have hcj := HJ2.out k (by rw [HM.out]; exact hlt)
        rw [Nat.zero_add] at hcj
        obtain ⟨W, hW, hWj, hWp⟩ := HAT.out k (by rw [HLEN.out]; exact hlt)
        rw [hWj] at hcj
        have hc := (HI.out.kept hb hbl) W hW
        have hzW := HZ.out W (by rw [← HL.out]; exact hW)
        have w0 : (0 : Int) ≤ (W : Int) := by omega
        have w1' : (W : Int) < (n : Int) := by have := HL.out; omega
        by_cases hcmp : (mxT ps k).2 < (at2 ps k).2
        · have HS : Hid (mxT ps (k + 1) = at2 ps k) := Lib.hid (by show (if _ then _ else _) = _; exact if_pos hcmp)
          rw [hWp] at HS hcmp
          generalize mxT ps k = p at hcmp hbd ⊢
          obtain ⟨p1, p2⟩ := p
          simp only at hcmp hbd ⊢
          clear hWj hWp
          generalize zs.getD W 0 = z at hc hzW hcmp HS
          go_wp2
          go_roundw
          case rel => exact ⟨k + 1, by omega, by go_num, by rw [HS.out], by rw [HS.out], by first | rfl | trivial⟩
          case measure => simp [intOf]; omega
        · have HS : Hid (mxT ps (k + 1) = mxT ps k) := Lib.hid (by show (if _ then _ else _) = _; exact if_neg hcmp)
          rw [hWp] at hcmp
          generalize mxT ps k = p at hcmp hbd HS ⊢
          obtain ⟨p1, p2⟩ := p
          simp only at hcmp hbd ⊢
          clear hWj hWp
          generalize zs.getD W 0 = z at hc hzW hcmp
          go_wp2
          go_roundw
          case rel => exact ⟨k + 1, by omega, by go_num, by rw [HS.out], by rw [HS.out], by first | rfl | trivial⟩
          case measure => simp [intOf]; omega
      · have hkn : k = m := by omega
        subst hkn
        rcases Nat.eq_zero_or_pos k with h0 | h0
        · have HZ2 := Lib.hid (HZ0.out (by rw [HLEN.out]; exact h0))
          subst h0
          go_wp2
          go_ret3
          exact ⟨by rw [HZ2.out.1, HZ2.out.2]; rfl, hb⟩
        · have HZ2 := Lib.hid (HZ1.out (by rw [HLEN.out]; exact h0))
          have hp1 := hbd.2.2 h0
          have HQ : Hid (odP zs y e = mxT ps k ∧ odB zs y e = true) := Lib.hid (by have := HZ2.out; rw [HLEN.out] at this; exact this)
          obtain ⟨p, hp⟩ : ∃ p, mxT ps k = p := ⟨_, rfl⟩
          rw [hp] at hp1 HQ ⊢
          obtain ⟨p1, p2⟩ := p
          simp only at hp1 ⊢
          have hne : ¬ (p2 = 0) := by omega
          have hne2 : (p2 == 0) = false := beq_eq_false_iff_ne.2 hne
          clear hp hbd HZ2
          go_wp2
          go_ret3
          exact ⟨by first | (rw [HQ.out.1, HQ.out.2]; done) | (rw [HQ.out.1, HQ.out.2]; rfl), hb⟩
end Go.Proofs.Ytadfojjglceheaa
