/- GapsOfAges: the program's text. -/
import Derived.Test.YtjabghojenhhiaaGaps
import Derived.StillTailTactics
set_option linter.unusedVariables false
set_option linter.unusedSimpArgs false
namespace Go.Proofs.Ytjabghojenhhiaa
open Go.RowKit

set_option maxHeartbeats 1000000 in
theorem gaps_yes (b off c m : Nat) (zs : List Int) (w : World) (hl : zs.length = m + 1) (hn : m + 1 ≤ 1048576) (hI : Ints w b off zs) (hg : goodB zs 120 = true) :
    Calls Try.prog 19 #[.slice (some ⟨b, off, none⟩) (m + 1) c] w (RetOwnB (gapsTo zs m) true w) := by
  obtain ⟨i0, hi, hz0, hz1, hz2⟩ := info_parts infoInt
  have h8 := goodB_len hg
  have HL := Lib.hid hl
  rw [hl] at h8
  go_enter Try.func19, Try.ntmps19
  go_wp2_with fail
  refine (householdOf_zero _ _ _ _ zs _ hl hn hI hg).mono ?_
  rintro e w1 ⟨g, hg1, rfl, hP, hgs, hb⟩
  generalize zs.getD 0 0 = a
  rw [HL.out]
  clear hl
  have hsz1 := hb.size
  have hh : ∀ W : World, Below (w1.heap.size + 1) (w1.alloc (.cells #[.int .i64 0, .int .i64 a, .slice (some ⟨g, 0, none⟩) (m + 1) (m + 1)] 42)) W → True := fun _ _ => trivial
  clear hh
  have hbz := hb.alloc hsz1 (.cells #[.int .i64 0, .int .i64 a, .slice (some ⟨g, 0, none⟩) (m + 1) (m + 1)] 42)
  have hP2 := Lib.hid (fun A => hP.kept ((Below.refl w1.heap.size w1).alloc (Nat.le_refl _) A) hgs)
  have hA := Lib.hid (fun A => heap_new w1 A)
  clear hP
  go_wp2_with fail
  refine (older_n _ _ (m + 1) _ _ zs _ HL.out (by omega) h8.2 (by simp; omega) (hP2.out _)).mono ?_
  rintro e w3 ⟨g3, c3, rfl, hg3, hgs3, hP3, hb3⟩
  have hbz3 := hbz.trans (hb3.mono (by simp; omega))
  have HP3 := Lib.hid hP3
  have HG := Lib.hid (goodB_at hg)
  have hsz3 := hbz3.size
  clear hP3 hb3
  go_wp2_with (first | (at_make; refine wpList_make_full _ rfl _ _ 22 rfl w3.heap.size 3 i0 (.int .i64 0) 1 Try.underlying22 hi hz0 hz1 .i64 .i64 m m m rfl rfl rfl rfl ?c1 ?c2 ?c3 ?_))
  case c1 => rw [hz2]; omega
  case c2 => unfold maxLen; omega
  case c3 => exact Nat.le_refl _
  intro w4 hown hg4
  have hb4 : Below w3.heap.size w3 w4 := (Below.refl w3.heap.size w3).grown hg4 (Nat.le_refl _) (by simp)
  have hbz4 := hbz3.trans (hb4.mono hsz3)
  have HP4 := Lib.hid (HP3.out.kept hb4 hgs3)
  have hsz4 := hb4.size
  have hR4 : w3.heap.size < w4.heap.size := (World.ownsRow.lt hown w3.heap.size rfl).2
  have hg34 : g3 < w3.heap.size := hgs3
  clear hg4 hb4
  generalize hRe : w3.heap.size = R at *
  clear hRe
  go_wp2
  go_loopw [24] (fun v wr => ∃ k : Nat, k ≤ m ∧ v = .int .i64 k ∧ wr.ownsRow R 3 1 (.slice (some ⟨R, 0, none⟩) m m) m (fill (gapsTo zs m) k m) ∧ Below w.heap.size w wr ∧ Hid (wr.heap[g3]? = w4.heap[g3]?) ∧ w4.heap.size ≤ wr.heap.size) (fun v _ => m - (intOf v).toNat)
  case atStart => exact ⟨0, Nat.zero_le _, rfl, by rw [← fill_zero]; simpa using hown, hbz4, Lib.hid rfl, Nat.le_refl _⟩
  case round =>
    obtain ⟨k, hk, rfl, hr, hb, hh, hge⟩ := hrel
    have hgl := gapsTo_len zs m
    by_cases hlt : k < m
    · have HQ := HP4.out.heap hh.out
      obtain ⟨_, hc1⟩ := HQ k (by rw [ordAs_length, HL.out]; omega)
      obtain ⟨_, hc2⟩ := HQ (k + 1) (by rw [ordAs_length, HL.out]; omega)
      obtain ⟨p, hp1, _, hp3⟩ := ord_at zs k (by rw [HL.out]; omega)
      obtain ⟨q, hq1, _, hq3⟩ := ord_at zs (k + 1) (by rw [HL.out]; omega)
      have hp0 := HG.out p hp1
      have hq0 := HG.out q hq1
      rw [← hp3] at hp0
      rw [← hq3] at hq0
      have HGap := gapsTo_getD zs m k hlt
      unfold gapAt at HGap
      clear hp3 hq3 HQ
      generalize (ordAs zs).getD k 0 = x at *
      generalize (ordAs zs).getD (k + 1) 0 = y at *
      obtain ⟨u, hu⟩ := fill_some (gapsTo zs m) k m hgl hlt
      have hc3 := (World.ownsRow.cellAt hr k (by omega)).trans hu
      have hf3 := World.ownsRow.frozenAt hr k
      have HS := Lib.hid (World.ownsRow.stored hr k (.int .i64 (x - y)))
      have HF := Lib.hid (fill_stepAt (gapsTo zs m) k m (x - y) hgl hlt HGap)
      have k1 : IntKind.i64.wrap (x - y) = x - y := IntWalk.i64_in _ (by omega)
      have k2 : IntKind.i64.wrap ((k : Int) + 1) = (k : Int) + 1 := IntWalk.i64_in _ (by omega)
      have k3 : (0 : Int) ≤ (k : Int) := by omega
      have k4 : (k : Int) < (m : Int) := by omega
      have k5 : (0 : Int) ≤ (k : Int) + 1 := by omega
      have k6 : (k : Int) + 1 < (m : Int) + 1 := by omega
      have k7 : ((k : Int) + 1).toNat = k + 1 := by omega
      have k8 : (k : Int) < (m : Int) + 1 := by omega
      have hgR : g3 ≠ R := by omega
      have HX := Lib.hid (fun v => show ((wr.setCell ⟨R, k, none⟩ v)).heap[g3]? = w4.heap[g3]? from (heap_set_other _ _ _ _ _ (by omega)).trans hh.out)
      have hwR : w.heap.size ≤ R := by omega
      have hk2 : (k + 1) * 2 + 1 = (k + 1) * 2 + 1 := rfl
      clear hu hr HGap hgl hk2
      go_wp2
      go_still_tail 15, (by kernel_rfl)
      change wpList _ _ _ _ _ wr.drew
      have hc3' : wr.drew.cell? ⟨R, k, none⟩ = some u := hc3
      have hf3' : wr.drew.frozen? ⟨R, k, none⟩ = false := hf3
      clear hc3 hf3 hc1 hc2
      go_wp2
      go_roundw
      case rel => exact ⟨k + 1, by omega, by go_num, by rw [← HF.out]; exact World.ownsRow.drew (HS.out.1), (hb.setCell hwR _).drew, Lib.hid (HX.out _), by simp [World.setCell]; omega⟩
      case measure => simp [intOf]; omega
    · have hkn : k = m := by omega
      clear hlt
      have hwR : w.heap.size ≤ R := by omega
      go_wp2
      go_ret2
      exact ⟨_, rfl, (own_row hgl (by rw [hkn] at hr; exact hr)).mono hwR, hb⟩
end Go.Proofs.Ytjabghojenhhiaa
