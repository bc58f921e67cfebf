/- YearsTurned: the model's text. -/
import Derived.Test.YtjabghojenhhiaaTurnN
set_option linter.unusedVariables false
set_option linter.unusedSimpArgs false
namespace Go.Proofs.Ytjabghojenhhiaa
open Go.RowKit

set_option maxHeartbeats 1000000 in
theorem specTurned_yes (b off c A B : Nat) (zs : List Int) (w : World) (hn : zs.length ≤ 1048576) (hI : Ints w b off zs) (hAB : A ≠ B) (hA : A < zs.length) (hB : B < zs.length) (hg : goodB zs 120 = true) :
    Calls Try.prog 30 #[.slice (some ⟨b, off, none⟩) zs.length c, .int .i64 A, .int .i64 B] w (RetOwnB (found (turnY zs A B) zs) true w) := by
  obtain ⟨i0, hi, hz0, hz1, hz2⟩ := info_parts infoInt
  have h8 := goodB_len hg
  have hbl := ints_lt hI (by omega)
  have hbd := loY_bd hg
  have HNN := Lib.hid (show (nY zs : Int) = hiY zs - loY zs + 1 by unfold nY; omega)
  have hn241 : nY zs ≤ 241 := by have := HNN.out; omega
  have hx : inB (A : Int) 0 ((zs.length : Int) - 1) = true := inB_true (by omega) (by omega)
  have hy : inB (B : Int) 0 ((zs.length : Int) - 1) = true := inB_true (by omega) (by omega)
  have hne : ((A : Int) == (B : Int)) = false := by rw [beq_eq_false_iff_ne]; omega
  have HcA := Lib.hid (fun (wr : World) (h : Below w.heap.size w wr) => (hI.kept h hbl) A hA)
  have HcB := Lib.hid (fun (wr : World) (h : Below w.heap.size w wr) => (hI.kept h hbl) B hB)
  have hzA := goodB_at hg A hA
  have hzB := goodB_at hg B hB
  have HT := Lib.hid (show ∀ y, turnY zs A B y = tT (zs.getD A 0 + y) (zs.getD B 0 + y) from fun _ => rfl)
  generalize turnY zs A B = test at HT ⊢
  go_enter Try.func30, Try.ntmps30
  go_wp2_with (first | (go_at_call 34; refine (agGood_any _ _ _ _ zs _ rfl hn hI).mono ?_; rintro e w' ⟨rfl, rfl⟩) | (go_at_call 55; refine (l1In_any _ _ _ _).mono ?_; rintro e w' ⟨rfl, rfl⟩))
  refine (agRange_any _ _ _ _ zs _ rfl hI hg).mono ?_
  rintro e w1 ⟨rfl, hb⟩
  have i1 : (0 : Int) ≤ (A : Int) := by omega
  have i2 : (A : Int) < (zs.length : Int) := by omega
  have i3 : (0 : Int) ≤ (B : Int) := by omega
  have i4 : (B : Int) < (zs.length : Int) := by omega
  clear hg hI hx hy hne
  generalize zs.getD A 0 = pA at *
  generalize zs.getD B 0 = pB at *
  go_wp2_with fail
  go_loopw [8, 11] (fun v u wr => ∃ (k : Nat) (y : Int), y = loY zs + k ∧ k ≤ nY zs ∧ u = .int .i64 y ∧ Own w.heap.size wr v (yTo test (loY zs) k) ∧ Below w.heap.size w wr) (fun _ u _ => (121 - intOf u).toNat)
  case atStart => exact ⟨0, loY zs, by simp, Nat.zero_le _, rfl, own_nil _ _, hb⟩
  case round =>
    obtain ⟨k, y, hy, hk, rfl, ho, hbr⟩ := hrel
    have hl1 := yTo_len test (loY zs) k
    have hsz := hbr.size
    have hNo := HNN.out
    by_cases hlt : k < nY zs
    · have hy1 : loY zs ≤ y := by omega
      have hy2 : y ≤ hiY zs := by omega
      have HY := Lib.hid hy
      have hyb : -120 ≤ y ∧ y ≤ 120 := by omega
      have hcA := HcA.out wr hbr
      have hcB := HcB.out wr hbr
      have hT := HT.out y
      clear hy hNo
      have k1 : IntKind.i64.wrap (pA + y) = pA + y := IntWalk.i64_in _ (by omega)
      cases hin : inB (pB + y) 10 99 with
      | false =>
        have ht : test y = false := by rw [hT]; unfold tT; rw [hin]; rfl
        have HS := Lib.hid (yTo_no (test := test) (lo := loY zs) (k := k) (by rw [← HY.out]; exact ht))
        have HL1 := Lib.hid (fun W => show Calls Try.prog 55 #[.int .i64 (pB + y), .int .i64 10, .int .i64 99] W (RetSame (.bool false) W) from by have := l1In_any (pB + y) 10 99 W; rw [hin] at this; exact this)
        clear hT ht k1 hin
        go_wp2_with fail
        (go_quiet ((first | (go_at_call 55; exact Calls.quiet_of_same ((HL1.out _).mono sameQ)) | (go_at_call 56; exact Calls.quiet_of_same ((kiTurned_any _ _ (by omega) (by omega)).mono sameQ)))))
        go_wp2
        go_roundw
        case rel => exact ⟨k + 1, y + 1, by have := HY.out; omega, by omega, by go_num, by rw [HS.out]; exact ho.kept (below_drewN (Below.refl _ _) _), below_drewN hbr _⟩
        case measure => simp [intOf]; omega
      | true =>
        have hib := inB_iff.1 hin
        have HL1 := Lib.hid (fun W => show Calls Try.prog 55 #[.int .i64 (pB + y), .int .i64 10, .int .i64 99] W (RetSame (.bool true) W) from by have := l1In_any (pB + y) 10 99 W; rw [hin] at this; exact this)
        by_cases he : turned (pB + y) = pA + y
        · have ht : test y = true := by rw [hT]; unfold tT; rw [hin, decide_eq_true he]; rfl
          have HS := Lib.hid (yTo_yes (test := test) (lo := loY zs) (k := k) (by rw [← HY.out]; exact ht))
          rw [← HY.out] at HS
          have hd : (turned (pB + y) == pA + y) = true := by rw [beq_iff_eq]; exact he
          clear hT ht he hin
          go_wp2_with fail
          (go_quiet ((first | (go_at_call 55; exact Calls.quiet_of_same ((HL1.out _).mono sameQ)) | (go_at_call 56; exact Calls.quiet_of_same ((kiTurned_any _ _ (by omega) (by omega)).mono sameQ)))))
          have ho' : Own w.heap.size (wr.drewN nq) _ _ := ho.kept (below_drewN (Below.refl _ _) nq)
          clear k1
          go_wp2_with (first | (at_builtin; refine wpList_append_own _ rfl _ _ 22 rfl w.heap.size 3 i0 (.int .i64 0) 1 8 Try.underlying22 hi hz0 hz1 hz2 rfl (by decide) _ _ _ rfl (World.ownsRow.alloc ho' _) ⟨wr.heap.size, 0, none⟩ 1 1 [.int .i64 y] rfl rfl (newCell _ _ _) (oneInt _) ?c3 ?c4 ?c5 ?_))
          case c3 => unfold maxLen; omega
          case c4 => omega
          case c5 => simp; omega
          intro v' w4 hown' hgrow _
          have hb4 := below_push (below_drewN hbr nq) ho' hgrow
          have ho4 := own_push hown'
          rw [← HS.out] at ho4
          clear hown' hgrow
          go_wp2
          go_roundw
          case rel => exact ⟨k + 1, y + 1, by have := HY.out; omega, by omega, by go_num, ho4, hb4⟩
          case measure => simp [intOf]; omega
        · have ht : test y = false := by rw [hT]; unfold tT; rw [hin, decide_eq_false he]; rfl
          have HS := Lib.hid (yTo_no (test := test) (lo := loY zs) (k := k) (by rw [← HY.out]; exact ht))
          have hd : (turned (pB + y) == pA + y) = false := by rw [beq_eq_false_iff_ne]; exact he
          clear hT ht he hin
          go_wp2_with fail
          (go_quiet ((first | (go_at_call 55; exact Calls.quiet_of_same ((HL1.out _).mono sameQ)) | (go_at_call 56; exact Calls.quiet_of_same ((kiTurned_any _ _ (by omega) (by omega)).mono sameQ)))))
          clear k1
          go_wp2
          go_roundw
          case rel => exact ⟨k + 1, y + 1, by have := HY.out; omega, by omega, by go_num, by rw [HS.out]; exact ho.kept (below_drewN (Below.refl _ _) _), below_drewN hbr _⟩
          case measure => simp [intOf]; omega
    · have hkn : k = nY zs := by omega
      have hge : hiY zs < y := by omega
      have HF := Lib.hid (show found test zs = yTo test (loY zs) k by rw [hkn]; rfl)
      clear hy hkn hlt hNo
      go_wp2
      go_ret2
      exact ⟨_, rfl, by rw [HF.out]; exact ho, hbr⟩
end Go.Proofs.Ytjabghojenhhiaa
