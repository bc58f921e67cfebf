/- The order of births, of the program, and both texts. -/
import Derived.Test.YtbhceokapbnhhaaOl3
set_option linter.unusedVariables false
set_option linter.unusedSimpArgs false
namespace Go.Proofs.Ytbhceokapbnhhaa
open Go.RowKit

theorem olderR_no {ds : List Dt} (h : birthsB ds = false) : olderR ds = [] := by unfold olderR; rw [h]; rfl
theorem olderR_yes {ds : List Dt} (h : birthsB ds = true) : olderR ds = rowTo (negD ds) ds.length := by unfold olderR; rw [if_pos h, ← rowTo_all, negD_length]
theorem older_len (ds : List Dt) : (olderR ds).length ≤ 1048576 := by
  unfold olderR
  split
  · rename_i h
    have := birthsB_len h
    rw [ordNs_length, negD_length]
    omega
  · exact Nat.zero_le _
set_option maxHeartbeats 8000000 in
set_option maxRecDepth 100000 in
theorem imOlderOf_any (b off n c : Nat) (ds : List Dt) (w : World) (hl : ds.length = n) (hI : Dts w b off ds) (hbl : b < w.heap.size) :
    Calls Try.prog 35 #[.slice (some ⟨b, off, none⟩) n c] w (RetOwnB (olderR ds) (birthsB ds) w) := by
  obtain ⟨i0, hi, hz0, hz1, hz2⟩ := info_parts infoInt
  have HW0 := Lib.hid ((Below.refl w.heap.size w).alloc (Nat.le_refl _) (.cells #[.slice (some ⟨b, off, none⟩) n c] 25))
  have hI1 : ∀ A, Dts (w.alloc A) b off ds := fun A => hI.kept ((Below.refl w.heap.size w).alloc (Nat.le_refl _) A) hbl
  have hbl1 : ∀ A, b < (w.alloc A).heap.size := fun A => by simp <;> omega
  have HB0 := fun (W : World) (h : Dts W b off ds) (h2 : b < W.heap.size) => imBirths_any b off n c ds W hl h h2
  cases h1 : birthsB ds with
  | false =>
    rw [olderR_no h1]
    rw [h1] at HB0
    have HB := Lib.hid HB0
    clear HB0 h1 hl
    go_enter Try.func35, Try.ntmps35
    go_wp2_with (first | (go_at_call 16; refine (HB.out _ (hI1 _) (hbl1 _)).mono ?_; rintro e w1 ⟨rfl, hcall⟩; have hbw : Below w.heap.size w w1 := HW0.out.trans (hcall.mono (by simp)); have q1 : w1.cell? ⟨w.heap.size, 0, none⟩ = some (.slice (some ⟨b, off, none⟩) n c) := below_cell2 hcall (by simp [go_sem]); have hs1 : w.heap.size < w1.heap.size := World.block_lt_of_cell? w1 _ q1))
    go_ret2
    exact ⟨_, rfl, own_nil _ _, hbw⟩
  | true =>
    have HR := Lib.hid (olderR_yes h1)
    have h8 := birthsB_len h1
    rw [hl] at h8 HR
    have HST := Lib.hid (fun (B gb g : Nat) (W : World) (h2 : Dts W b off ds) h3 h4 h5 h6 h7 => olStable_any B gb b off n c g n ds W hl h1 h2 h3 h4 h5 h6 h7)
    have HRL := Lib.hid (show (rowTo (negD ds) 1).length = n by rw [rowTo_len _ _ (by rw [negD_length]; omega), negD_length, hl])
    have HRN := Lib.hid (show (rowTo (negD ds) n).length = n by rw [rowTo_len _ _ (by rw [negD_length]; omega), negD_length, hl])
    have HRA := Lib.hid (fun (k : Nat) (hk : k < n) => (show (rowTo (negD ds) 1).getD k 0 = (k : Int) by
      rw [rowTo_one _ (by rw [negD_length]; omega), negD_length, hl]
      simp [hk]))
    rw [HR.out]
    rw [h1] at HB0
    have HB := Lib.hid HB0
    clear HB0 h1 hl HR
    obtain ⟨rs, hrs⟩ : ∃ rs, rs = rowTo (negD ds) 1 := ⟨_, rfl⟩
    obtain ⟨re, hre⟩ : ∃ re, re = rowTo (negD ds) n := ⟨_, rfl⟩
    rw [← hrs] at HRL HRA
    rw [← hre] at HRN ⊢
    have HRS := Lib.hid hrs
    have HRE := Lib.hid hre
    clear hrs hre
    go_enter Try.func35, Try.ntmps35
    go_wp2_with (first | (go_at_call 16; refine (HB.out _ (hI1 _) (hbl1 _)).mono ?_; rintro e w1 ⟨rfl, hcall⟩; have hbw : Below w.heap.size w w1 := HW0.out.trans (hcall.mono (by simp)); have q1 : w1.cell? ⟨w.heap.size, 0, none⟩ = some (.slice (some ⟨b, off, none⟩) n c) := below_cell2 hcall (by simp [go_sem]); have hs1 : w.heap.size < w1.heap.size := World.block_lt_of_cell? w1 _ q1) | (at_make; refine wpList_make_full _ rfl _ _ 31 rfl w1.heap.size 3 i0 (.int .i64 0) 1 Try.underlying31 hi hz0 hz1 .i64 .i64 n n n rfl rfl rfl rfl ?c1 ?c2 ?c3 ?_))
    case c1 => rw [hz2]; omega
    case c2 => unfold maxLen; omega
    case c3 => exact Nat.le_refl _
    intro w2 hown hg2
    have hb2 : Below w1.heap.size w1 w2 := (Below.refl w1.heap.size w1).grown hg2 (Nat.le_refl _) (by simp)
    have hown0 : w2.ownsRow w1.heap.size 3 1 (.slice (some ⟨w1.heap.size, 0, none⟩) n n) n (fill rs 0 n) := by rw [← fill_zero]; simpa using hown
    clear hown hg2
    go_wp2_with fail
    go_loopw [14] (fun v wr => ∃ k : Nat, k ≤ n ∧ v = .int .i64 (k : Int) ∧ wr.ownsRow w1.heap.size 3 1 (.slice (some ⟨w1.heap.size, 0, none⟩) n n) n (fill rs k n) ∧ Below w1.heap.size w1 wr) (fun v _ => n - (intOf v).toNat)
    case atStart => exact ⟨0, Nat.zero_le _, rfl, hown0, hb2⟩
    case round =>
      clear hown0 hb2
      obtain ⟨k, hk, rfl, hr, hb⟩ := hrel
      by_cases hlt : k < n
      · obtain ⟨u, hu⟩ := fill_some rs k n HRL.out hlt
        have c1 := (World.ownsRow.cellAt hr k (by omega)).trans hu
        have f1 := World.ownsRow.frozenAt hr k
        have HS := Lib.hid (World.ownsRow.stored hr k (.int .i64 (k : Int)))
        have HF := Lib.hid (fill_stepAt rs k n (k : Int) HRL.out hlt (HRA.out k hlt))
        clear hu
        go_wp2_with fail
        go_roundw
        case rel => exact ⟨k + 1, by omega, by go_num, by rw [← HF.out]; exact HS.out.1, hb.setCell (Nat.le_refl _) _⟩
        case measure => simp [intOf]; omega
      · have hkn : k = n := by omega
        clear hlt
        subst hkn
        rw [fill_all rs k HRL.out] at hr
        have q2 := below_cell2 hb q1
        have hIr := hI.kept (hbw.trans (hb.mono (by omega))) hbl
        have HCON := Lib.hid (HST.out w1.heap.size w.heap.size w1.heap.size wr hIr q2 (by omega) hs1 (Nat.le_refl _) (by rw [← HRS.out]; exact hr))
        rw [← HRE.out] at HCON
        have hbz := hbw.trans (hb.mono (by omega))
        have hb1z := hb
        go_wp2_with (first | (go_at_call 63; refine HCON.out.mono ?_; rintro e w3 ⟨rfl, hr3, hg3⟩))
        go_ret2
        refine ⟨_, rfl, ?_, ?_⟩
        · have ho : Own w1.heap.size w3 (.slice (some ⟨w1.heap.size, 0, none⟩) k k) re := by unfold Own; rw [HRN.out]; exact hr3
          exact ho.mono (by omega)
        · exact below_grownAbove hbz hg3 (by omega)

theorem olderOf_both (ds : List Dt) : ∃ rs ok, rs.length ≤ 1048576 ∧
    (∀ b c w, ds.length ≤ 1048576 → b < w.heap.size → Dts w b 0 ds → Calls Try.prog 34 #[.slice (some ⟨b, 0, none⟩) ds.length c] w (RetOwnB rs ok w)) ∧
    (∀ b c w, ds.length ≤ 1048576 → b < w.heap.size → Dts w b 0 ds → Calls Try.prog 35 #[.slice (some ⟨b, 0, none⟩) ds.length c] w (RetOwnB rs ok w)) :=
  ⟨olderR ds, birthsB ds, older_len ds, fun b c w _ hbl hI => specOlderOf_any b 0 _ c ds w rfl hI hbl, fun b c w _ hbl hI => imOlderOf_any b 0 _ c ds w rfl hI hbl⟩
end Go.Proofs.Ytbhceokapbnhhaa
