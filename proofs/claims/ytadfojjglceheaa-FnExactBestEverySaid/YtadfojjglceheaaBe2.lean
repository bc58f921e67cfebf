/- The number by which a year has the most jubilees: the program's text. -/
import Derived.Test.YtadfojjglceheaaBe
set_option linter.unusedVariables false
set_option linter.unusedSimpArgs false
namespace Go.Proofs.Ytadfojjglceheaa
open Go.RowKit

set_option maxHeartbeats 4000000 in
set_option maxRecDepth 100000 in
theorem bestI_yes (b off n c : Nat) (y m : Int) (zs : List Int) (w : World) (hl : zs.length = n) (hbl : b < w.heap.size) (hI : Ints w b off zs) (hp : pgB zs y = true) (hm : inB m 2 100 = true) :
    Calls Try.prog 25 #[.slice (some ⟨b, off, none⟩) n c, .int .i64 y, .int .i64 m] w (RetIIB (bstN (jbN zs y) (m - 2).toNat) ((jbN zs y (bstN (jbN zs y) (m - 2).toNat) : Nat) : Int) true w) := by
  have hg := (pgB_true hp).1
  have hln := bornB_len hg
  have bm := inB_iff.1 hm
  have HP := Lib.hid (pageIn_yes b off n c y zs w hl hbl hI hp)
  have HM := Lib.hid fun w => isWithin_any m 2 100 w
  rw [hm] at HM
  have hok := psOk_pg zs y n (by omega)
  have HN : ∀ e, (rdL (pgL zs y n) e (pgL zs y n).length).length = jbN zs y e := fun e => by rw [← hl]; exact rdA_jbN zs y e
  have HJ : Hid (∀ (e : Int) (w : World) (B : Nat) (v : Value), 1 ≤ e → OwnD 55 B w v (pgL zs y n) → Calls Try.prog 50 #[.agg #[.int .i64 y, v], .int .i64 e] w (Ret (.int .i64 ((jbN zs y e : Nat) : Int)) w)) := Lib.hid fun e w B v he ho => by rw [← HN e]; exact jubilees_any B v y e (pgL zs y n) w he hok ho
  clear HN
  have HFE := Lib.hid fun e => (show jbN zs y e ≤ 10 by have := jbN_le zs y e; omega)
  have HBD := Lib.hid (bstN_bd (jbN zs y))
  generalize jbN zs y = f at *
  generalize pgL zs y n = ps at *
  clear hp hg hl hm hok
  go_enter Try.func25, Try.ntmps25
  go_wp2_with fail
  refine HP.out.mono ?_
  rintro e w1 ⟨v, rfl, ho, hb⟩
  rcases ho.cases with ⟨hv, _⟩ | ⟨q, cq, hv, _⟩
  · have HS0 : Hid (BeSt y v ps w w.heap.size w1.heap.size (w1.alloc (.cells #[.int .i64 y, v] 44))) := Lib.hid ⟨hb.alloc hb.size _, ho.alloc _, by simp, by simp⟩
    subst hv
    clear ho hb
    go_wp2_with (go_at_call 35; refine (HM.out _).mono ?_; rintro e w' ⟨rfl, rfl⟩)
    go_loopw [11, 12] (fun p i wr => ∃ (k : Nat) (E : Int), E = (k : Int) + 3 ∧ E ≤ m + 1 ∧ i = .int .i64 E ∧ p = .int .i64 (bstN f k) ∧ BeSt y (.slice none 0 0) ps w w.heap.size w1.heap.size wr) (fun _ i _ => (m + 1 - intOf i).toNat)
    case atStart => exact ⟨0, 3, rfl, by omega, rfl, rfl, HS0.out⟩
    case round =>
      obtain ⟨k, E, hE, hk, rfl, rfl, hs⟩ := hrel
      have hbd := HBD.out k
      by_cases hlt : E ≤ m
      · have H1 : Hid (∀ (w : World) (B : Nat) (v : Value), OwnD 55 B w v ps → Calls Try.prog 50 #[.agg #[.int .i64 y, v], .int .i64 E] w (Ret (.int .i64 ((f E : Nat) : Int)) w)) := Lib.hid fun w B v ho => HJ.out _ w B v (by omega) ho
        have H2 : Hid (∀ (w : World) (B : Nat) (v : Value), OwnD 55 B w v ps → Calls Try.prog 50 #[.agg #[.int .i64 y, v], .int .i64 (bstN f k)] w (Ret (.int .i64 ((f (bstN f k) : Nat) : Int)) w)) := Lib.hid fun w B v ho => HJ.out _ w B v (by omega) ho
        have hx10 := HFE.out (bstN f k)
        have hz10 := HFE.out E
        by_cases hcmp : f (bstN f k) ≤ f E
        · have HS := Lib.hid (show bstN f (k + 1) = E by rw [hE] at hcmp ⊢; rw [bstN, if_pos hcmp])
          generalize f (bstN f k) = X at H2 hx10 hcmp
          generalize f E = Z at H1 hz10 hcmp
          generalize bstN f k = D at H2 hbd ⊢
          have hcmp2 : (X : Int) ≤ (Z : Int) := by omega
          have HE := Lib.hid hE
          have hE3 : 3 ≤ E := by omega
          clear hE
          go_wp2_with fail
          go_region_held3 (fun w' => BeSt y (.slice none 0 0) ps w w.heap.size w1.heap.size w' ∧ w'.cell? ⟨w1.heap.size, 0, none⟩ = some (.int .i64 y) ∧ w'.cell? ⟨w1.heap.size, 1, none⟩ = some (.slice none 0 0))
            (first | (go_split_ands; exact ⟨BeSt.kept ‹BeSt _ _ _ _ _ _ _› hcall, below_cell2 hcall (by assumption), below_cell2 hcall (by assumption)⟩) | exact ⟨hs.drew, hs.drew.c0, hs.drew.c1⟩)
            (first | (go_at_call_of 50 (Value.int IntKind.i64 E); refine (H1.out _ w.heap.size _ ?_).mono ?_; (go_split_ands; exact BeSt.own (by assumption)); rintro e w' ⟨rfl, hcall⟩) | (go_at_call_of 50 (Value.int IntKind.i64 D); refine (H2.out _ w.heap.size _ ?_).mono ?_; (go_split_ands; exact BeSt.own (by assumption)); rintro e w' ⟨rfl, hcall⟩))
          all_goals
            obtain ⟨hs2, _⟩ := ‹BeSt _ _ _ _ _ _ _ ∧ _›
            go_wp2
            go_roundw
            case rel => exact ⟨k + 1, E + 1, by have := HE.out; omega, by omega, by go_num, by rw [HS.out], hs2⟩
            case measure => simp [intOf]; omega
        · have HS := Lib.hid (show bstN f (k + 1) = bstN f k by rw [hE] at hcmp; rw [bstN, if_neg hcmp])
          generalize f (bstN f k) = X at H2 hx10 hcmp
          generalize f E = Z at H1 hz10 hcmp
          generalize bstN f k = D at H2 hbd HS ⊢
          have hcmp2 : ¬ ((X : Int) ≤ (Z : Int)) := by omega
          have HE := Lib.hid hE
          have hE3 : 3 ≤ E := by omega
          clear hE
          go_wp2_with fail
          go_region_held3 (fun w' => BeSt y (.slice none 0 0) ps w w.heap.size w1.heap.size w' ∧ w'.cell? ⟨w1.heap.size, 0, none⟩ = some (.int .i64 y) ∧ w'.cell? ⟨w1.heap.size, 1, none⟩ = some (.slice none 0 0))
            (first | (go_split_ands; exact ⟨BeSt.kept ‹BeSt _ _ _ _ _ _ _› hcall, below_cell2 hcall (by assumption), below_cell2 hcall (by assumption)⟩) | exact ⟨hs.drew, hs.drew.c0, hs.drew.c1⟩)
            (first | (go_at_call_of 50 (Value.int IntKind.i64 E); refine (H1.out _ w.heap.size _ ?_).mono ?_; (go_split_ands; exact BeSt.own (by assumption)); rintro e w' ⟨rfl, hcall⟩) | (go_at_call_of 50 (Value.int IntKind.i64 D); refine (H2.out _ w.heap.size _ ?_).mono ?_; (go_split_ands; exact BeSt.own (by assumption)); rintro e w' ⟨rfl, hcall⟩))
          all_goals
            obtain ⟨hs2, _⟩ := ‹BeSt _ _ _ _ _ _ _ ∧ _›
            go_wp2
            go_roundw
            case rel => exact ⟨k + 1, E + 1, by have := HE.out; omega, by omega, by go_num, by rw [HS.out], hs2⟩
            case measure => simp [intOf]; omega
      · have hkn : (m - 2).toNat = k := by omega
        have HKN := Lib.hid hkn
        try rw [hkn]
        have HL := Lib.hid fun w B v ho => HJ.out (bstN f k) w B v (by omega) ho
        obtain ⟨X, hX⟩ : ∃ X, f (bstN f k) = X := ⟨_, rfl⟩
        rw [hX] at HL
        try rw [hX]
        obtain ⟨D, hD⟩ : ∃ D, bstN f k = D := ⟨_, rfl⟩
        rw [hD] at HL hX
        try rw [hD]
        have HXD := Lib.hid (And.intro hX hD)
        clear hX hD hbd
        have hc0 := hs.c0
        have hc1 := hs.c1
        go_wp2_with (go_at_call 50; refine (HL.out _ w.heap.size _ hs.own).mono ?_; rintro e w' ⟨rfl, hcall⟩)
        go_ret3
        exact ⟨by first | rfl | (rw [HXD.out.2, HXD.out.1]; rfl) | (rw [HKN.out, HXD.out.2, HXD.out.1]; rfl), hs.below.trans (hcall.mono hs.below.size)⟩

  · have HS0 : Hid (BeSt y v ps w w.heap.size w1.heap.size (w1.alloc (.cells #[.int .i64 y, v] 44))) := Lib.hid ⟨hb.alloc hb.size _, ho.alloc _, by simp, by simp⟩
    subst hv
    clear ho hb
    go_wp2_with (go_at_call 35; refine (HM.out _).mono ?_; rintro e w' ⟨rfl, rfl⟩)
    go_loopw [11, 12] (fun p i wr => ∃ (k : Nat) (E : Int), E = (k : Int) + 3 ∧ E ≤ m + 1 ∧ i = .int .i64 E ∧ p = .int .i64 (bstN f k) ∧ BeSt y (.slice (some ⟨q, 0, none⟩) ps.length cq) ps w w.heap.size w1.heap.size wr) (fun _ i _ => (m + 1 - intOf i).toNat)
    case atStart => exact ⟨0, 3, rfl, by omega, rfl, rfl, HS0.out⟩
    case round =>
      obtain ⟨k, E, hE, hk, rfl, rfl, hs⟩ := hrel
      have hbd := HBD.out k
      by_cases hlt : E ≤ m
      · have H1 : Hid (∀ (w : World) (B : Nat) (v : Value), OwnD 55 B w v ps → Calls Try.prog 50 #[.agg #[.int .i64 y, v], .int .i64 E] w (Ret (.int .i64 ((f E : Nat) : Int)) w)) := Lib.hid fun w B v ho => HJ.out _ w B v (by omega) ho
        have H2 : Hid (∀ (w : World) (B : Nat) (v : Value), OwnD 55 B w v ps → Calls Try.prog 50 #[.agg #[.int .i64 y, v], .int .i64 (bstN f k)] w (Ret (.int .i64 ((f (bstN f k) : Nat) : Int)) w)) := Lib.hid fun w B v ho => HJ.out _ w B v (by omega) ho
        have hx10 := HFE.out (bstN f k)
        have hz10 := HFE.out E
        by_cases hcmp : f (bstN f k) ≤ f E
        · have HS := Lib.hid (show bstN f (k + 1) = E by rw [hE] at hcmp ⊢; rw [bstN, if_pos hcmp])
          generalize f (bstN f k) = X at H2 hx10 hcmp
          generalize f E = Z at H1 hz10 hcmp
          generalize bstN f k = D at H2 hbd ⊢
          have hcmp2 : (X : Int) ≤ (Z : Int) := by omega
          have HE := Lib.hid hE
          have hE3 : 3 ≤ E := by omega
          clear hE
          go_wp2_with fail
          go_region_held3 (fun w' => BeSt y (.slice (some ⟨q, 0, none⟩) ps.length cq) ps w w.heap.size w1.heap.size w' ∧ w'.cell? ⟨w1.heap.size, 0, none⟩ = some (.int .i64 y) ∧ w'.cell? ⟨w1.heap.size, 1, none⟩ = some (.slice (some ⟨q, 0, none⟩) ps.length cq))
            (first | (go_split_ands; exact ⟨BeSt.kept ‹BeSt _ _ _ _ _ _ _› hcall, below_cell2 hcall (by assumption), below_cell2 hcall (by assumption)⟩) | exact ⟨hs.drew, hs.drew.c0, hs.drew.c1⟩)
            (first | (go_at_call_of 50 (Value.int IntKind.i64 E); refine (H1.out _ w.heap.size _ ?_).mono ?_; (go_split_ands; exact BeSt.own (by assumption)); rintro e w' ⟨rfl, hcall⟩) | (go_at_call_of 50 (Value.int IntKind.i64 D); refine (H2.out _ w.heap.size _ ?_).mono ?_; (go_split_ands; exact BeSt.own (by assumption)); rintro e w' ⟨rfl, hcall⟩))
          all_goals
            obtain ⟨hs2, _⟩ := ‹BeSt _ _ _ _ _ _ _ ∧ _›
            go_wp2
            go_roundw
            case rel => exact ⟨k + 1, E + 1, by have := HE.out; omega, by omega, by go_num, by rw [HS.out], hs2⟩
            case measure => simp [intOf]; omega
        · have HS := Lib.hid (show bstN f (k + 1) = bstN f k by rw [hE] at hcmp; rw [bstN, if_neg hcmp])
          generalize f (bstN f k) = X at H2 hx10 hcmp
          generalize f E = Z at H1 hz10 hcmp
          generalize bstN f k = D at H2 hbd HS ⊢
          have hcmp2 : ¬ ((X : Int) ≤ (Z : Int)) := by omega
          have HE := Lib.hid hE
          have hE3 : 3 ≤ E := by omega
          clear hE
          go_wp2_with fail
          go_region_held3 (fun w' => BeSt y (.slice (some ⟨q, 0, none⟩) ps.length cq) ps w w.heap.size w1.heap.size w' ∧ w'.cell? ⟨w1.heap.size, 0, none⟩ = some (.int .i64 y) ∧ w'.cell? ⟨w1.heap.size, 1, none⟩ = some (.slice (some ⟨q, 0, none⟩) ps.length cq))
            (first | (go_split_ands; exact ⟨BeSt.kept ‹BeSt _ _ _ _ _ _ _› hcall, below_cell2 hcall (by assumption), below_cell2 hcall (by assumption)⟩) | exact ⟨hs.drew, hs.drew.c0, hs.drew.c1⟩)
            (first | (go_at_call_of 50 (Value.int IntKind.i64 E); refine (H1.out _ w.heap.size _ ?_).mono ?_; (go_split_ands; exact BeSt.own (by assumption)); rintro e w' ⟨rfl, hcall⟩) | (go_at_call_of 50 (Value.int IntKind.i64 D); refine (H2.out _ w.heap.size _ ?_).mono ?_; (go_split_ands; exact BeSt.own (by assumption)); rintro e w' ⟨rfl, hcall⟩))
          all_goals
            obtain ⟨hs2, _⟩ := ‹BeSt _ _ _ _ _ _ _ ∧ _›
            go_wp2
            go_roundw
            case rel => exact ⟨k + 1, E + 1, by have := HE.out; omega, by omega, by go_num, by rw [HS.out], hs2⟩
            case measure => simp [intOf]; omega
      · have hkn : (m - 2).toNat = k := by omega
        have HKN := Lib.hid hkn
        try rw [hkn]
        have HL := Lib.hid fun w B v ho => HJ.out (bstN f k) w B v (by omega) ho
        obtain ⟨X, hX⟩ : ∃ X, f (bstN f k) = X := ⟨_, rfl⟩
        rw [hX] at HL
        try rw [hX]
        obtain ⟨D, hD⟩ : ∃ D, bstN f k = D := ⟨_, rfl⟩
        rw [hD] at HL hX
        try rw [hD]
        have HXD := Lib.hid (And.intro hX hD)
        clear hX hD hbd
        have hc0 := hs.c0
        have hc1 := hs.c1
        go_wp2_with (go_at_call 50; refine (HL.out _ w.heap.size _ hs.own).mono ?_; rintro e w' ⟨rfl, hcall⟩)
        go_ret3
        exact ⟨by first | rfl | (rw [HXD.out.2, HXD.out.1]; rfl) | (rw [HKN.out, HXD.out.2, HXD.out.1]; rfl), hs.below.trans (hcall.mono hs.below.size)⟩


theorem bestEvery_both (zs : List Int) (y m : Int) : ∃ r1 r2 ok,
    (∀ b c w, zs.length ≤ 1048576 → b < w.heap.size → Ints w b 0 zs → Calls Try.prog 24 #[.slice (some ⟨b, 0, none⟩) zs.length c, .int .i64 y, .int .i64 m] w (RetIIB r1 r2 ok w)) ∧
    (∀ b c w, zs.length ≤ 1048576 → b < w.heap.size → Ints w b 0 zs → Calls Try.prog 25 #[.slice (some ⟨b, 0, none⟩) zs.length c, .int .i64 y, .int .i64 m] w (RetIIB r1 r2 ok w)) := by
  cases h : beB zs y m with
  | false => exact ⟨0, 0, false, fun b c w hn hb hI => bestS_no b 0 _ c y m zs w rfl hn hI h, fun b c w hn hb hI => bestI_no b 0 _ c y m zs w rfl hn hb hI h⟩
  | true =>
    unfold beB at h
    rw [Bool.and_eq_true] at h
    have bm := inB_iff.1 h.2
    have e : (m - 1).toNat = (m - 2).toNat + 1 := by omega
    refine ⟨_, _, true, fun b c w hn hb hI => ?_, fun b c w hn hb hI => bestI_yes b 0 _ c y m zs w rfl hb hI h.1 h.2⟩
    have := bestS_yes b 0 _ c y m zs w rfl hb hI h.1 h.2
    rw [e] at this
    exact this
end Go.Proofs.Ytadfojjglceheaa
