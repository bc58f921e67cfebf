/- WholeLives: the program's text. -/
import Derived.Test.YtmidobhfahpkcabWl
set_option linter.unusedVariables false
set_option linter.unusedSimpArgs false
namespace Go.Proofs.Ytmidobhfahpkcab
open Go.RowKit

theorem wlC_any (q0 b c n : Nat) (ds : List Dt) (y : Int) (w : World) (h0 : w.cell? ⟨q0, 0, none⟩ = some (.slice (some ⟨b, 0, none⟩) n c)) (hc : chB ds = true) (hl : ds.length = n) (hy : 1 ≤ y ∧ y ≤ 200) (hI : Dts w b 0 ds) (hbl : b < w.heap.size) :
    Calls Try.prog 35 #[.int .i64 y, .pointer (some ⟨q0, 0, none⟩)] w (Ret (.bool (wlP ds y)) w) := by
  have HP := Lib.hid (wholeParts_any b c n ds y w hc hl hy hI hbl)
  clear hc hl hy hI hbl
  go_enter Try.func35, Try.ntmps35
  go_wp2_with (first | (go_at_call 36; refine (HP.out).mono ?_; rintro e w' ⟨rfl, hcall⟩))
  go_ret
  exact ⟨rfl, hcall⟩

set_option maxHeartbeats 8000000 in
set_option maxRecDepth 100000 in
theorem wl_any (b c n : Nat) (ds : List Dt) (w : World) (hl : ds.length = n) (hI : Dts w b 0 ds) (hbl : b < w.heap.size) :
    Calls Try.prog 16 #[.slice (some ⟨b, 0, none⟩) n c] w (RetOwnB (wvL ds) (lifeB ds) w) := by
  have hb1 : Below w.heap.size w (w.alloc (.cells #[.slice (some ⟨b, 0, none⟩) n c] 26)) := (Below.refl w.heap.size w).alloc (Nat.le_refl _) _
  have hd1 := hI.kept hb1 hbl
  have hl1 := Nat.lt_of_lt_of_le hbl hb1.size
  cases hc : chB ds with
  | false =>
    have h1 : lifeB ds = false := by simp [lifeB, hc]
    rw [show wvL ds = [] by simp [wvL, h1], h1]
    have HA := Lib.hid (fun (W : World) (h1 : Dts W b 0 ds) (h2 : b < W.heap.size) => restOfLife_no b c n ds W hc hl h1 h2)
    clear hc h1
    go_enter Try.func16, Try.ntmps16
    go_wp2_with (first | (go_at_call 30; refine (HA.out _ hd1 hl1).mono ?_; rintro e w2 ⟨rfl, hcall⟩; have hb2 : Below w.heap.size w w2 := hb1.trans (hcall.mono (by simp)); have c0 : w2.cell? ⟨w.heap.size, 0, none⟩ = some (.slice (some ⟨b, 0, none⟩) n c) := below_cell2 hcall (by simp); have hd2 := hd1.kept hcall hl1; have hl2 := Nat.lt_of_lt_of_le hl1 hcall.size; have hsz2 := hb2.size; clear hcall))
    go_ret2
    exact ⟨_, rfl, own_nil _ _, hb2⟩
  | true =>
    have HA0 := fun (W : World) (h1 : Dts W b 0 ds) (h2 : b < W.heap.size) => restOfLife_yes b c n ds W hc hl h1 h2
    have hlr := lifeB_rest hc
    rw [hl] at hlr
    rw [← hlr] at HA0
    clear hlr
    generalize (rsT ds n).1 = P at *
    generalize (rsT ds n).2 = Q at *
    cases h1 : lifeB ds with
    | false =>
      rw [show wvL ds = [] by simp [wvL, h1]]
      rw [h1] at HA0
      have HA := Lib.hid HA0
      clear HA0 hc h1
      go_enter Try.func16, Try.ntmps16
      go_wp2_with (first | (go_at_call 30; refine (HA.out _ hd1 hl1).mono ?_; rintro e w2 ⟨rfl, hcall⟩; have hb2 : Below w.heap.size w w2 := hb1.trans (hcall.mono (by simp)); have c0 : w2.cell? ⟨w.heap.size, 0, none⟩ = some (.slice (some ⟨b, 0, none⟩) n c) := below_cell2 hcall (by simp); have hd2 := hd1.kept hcall hl1; have hl2 := Nat.lt_of_lt_of_le hl1 hcall.size; have hsz2 := hb2.size; clear hcall))
      go_ret2
      exact ⟨_, rfl, own_nil _ _, hb2⟩
    | true =>
      rw [show wvL ds = yF (wlP ds) 1 200 by simp [wvL, h1]]
      rw [h1] at HA0
      have HA := Lib.hid HA0
      have HY := Lib.hid (fun (q0 : Nat) (W : World) (c0 : W.cell? ⟨q0, 0, none⟩ = some (.slice (some ⟨b, 0, none⟩) n c)) (h1 : Dts W b 0 ds) (h2 : b < W.heap.size) => ytfWl_any q0 (wlP ds) 1 200 200 W (by omega) (by omega) (by omega) (fun W2 hW j hj => wlC_any q0 b c n ds (1 + j) W2 ((hW.cell (p := ⟨q0, 0, none⟩) (World.block_lt_of_cell? W ⟨q0, 0, none⟩ c0)).trans c0) hc hl (by omega) (h1.kept hW h2) (Nat.lt_of_lt_of_le h2 hW.size)))
      clear HA0 hc h1
      go_enter Try.func16, Try.ntmps16
      go_wp2_with (first | (go_at_call 30; refine (HA.out _ hd1 hl1).mono ?_; rintro e w2 ⟨rfl, hcall⟩; have hb2 : Below w.heap.size w w2 := hb1.trans (hcall.mono (by simp)); have c0 : w2.cell? ⟨w.heap.size, 0, none⟩ = some (.slice (some ⟨b, 0, none⟩) n c) := below_cell2 hcall (by simp); have hd2 := hd1.kept hcall hl1; have hl2 := Nat.lt_of_lt_of_le hl1 hcall.size; have hsz2 := hb2.size; clear hcall) | (go_at_call 34; refine (HY.out _ _ c0 hd2 hl2).mono ?_; rintro e w3 ⟨v, rfl, ho, hcall⟩; have hb3 : Below w.heap.size w w3 := hb2.trans (hcall.mono hsz2); have ho' := Own.mono ho (by omega : w.heap.size ≤ _); clear hcall ho))
      go_ret2
      exact ⟨v, rfl, ho', hb3⟩
theorem wl_both (ds : List Dt) : ∃ (rs : List Int) (ok : Bool), rs.length ≤ 1048576 ∧ (∀ b c w, ds.length ≤ 1048576 → b < w.heap.size → Dts w b 0 ds → Calls Try.prog 15 #[.slice (some ⟨b, 0, none⟩) ds.length c] w (RetOwnB rs ok w)) ∧ ∀ b c w, ds.length ≤ 1048576 → b < w.heap.size → Dts w b 0 ds → Calls Try.prog 16 #[.slice (some ⟨b, 0, none⟩) ds.length c] w (RetOwnB rs ok w) := by
  refine ⟨_, _, ?_, fun b c w _ hb hI => specWl_any b c _ ds w rfl hI hb, fun b c w _ hb hI => wl_any b c _ ds w rfl hI hb⟩
  unfold wvL
  split
  · have := yF_length (wlP ds) 1 200
    omega
  · simp
end Go.Proofs.Ytmidobhfahpkcab
