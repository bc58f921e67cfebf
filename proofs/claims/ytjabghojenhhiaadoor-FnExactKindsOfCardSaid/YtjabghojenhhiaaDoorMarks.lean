/- Marks of numbers that a function finds, or whose values it tells. -/
import Derived.Test.YtjabghojenhhiaaDoorKindV
import Derived.Test.YtjabghojenhhiaaDoorRow
import Derived.Laws.ResultCell
set_option linter.unusedVariables false
set_option linter.unusedSimpArgs false
namespace Go.Proofs.YtjabghojenhhiaaDoor
open Go.RowKit

theorem infoMarks : (Tryd.prog.info? 48).map (fun i => (i.zero, i.size)) = some (some (.agg (Array.replicate 961 (.bool false))), 961) := by kernel_rfl
theorem zeroMarks (w : World) : (zeroValue 48).run Tryd.prog w = .ok (.agg (pc pnone)) w := by
  rw [pc_none]; exact (zero_of_info infoMarks).1 w
theorem sizeMarks : (Tryd.prog.info? 48).map (·.size) = some 961 := (zero_of_info infoMarks).2
theorem sizeMarksOf (p : Nat → Bool) : (Tryd.prog.info? 48).map (·.size) = some (pc p).size := by rw [pc_size]; exact sizeMarks
theorem pc_sizes (p q : Nat → Bool) : (pc p).size = (pc q).size := by rw [pc_size, pc_size]
/-- A call returned these marks. -/
def RetMarks (p : Nat → Bool) (w : World) (e : Ending) (w' : World) : Prop := e = .returned (.agg (pc p)) ∧ Below w.heap.size w w'
theorem run_loadMarks {w : World} {g : Nat} {t : TypeId} {p : Nat → Bool} (h : Blk w g t (pc p)) : (loadVar 48 ⟨g, 0, none⟩).run Tryd.prog w = .ok (.agg (pc p)) w :=
  run_loadVar_row w g t _ _ (0, 0) _ h Tryd.underlying48 rfl (sizeMarksOf p)
theorem blk_two (w : World) (t : TypeId) (c1 c2 : Array Value) : Blk ((w.alloc (.cells c1 t)).alloc (.cells c2 t)) (w.heap.size + 1) t c2 := by
  have h := blk_new (w.alloc (.cells c1 t)) t c2
  rwa [show (w.alloc (.cells c1 t)).heap.size = w.heap.size + 1 by simp] at h
theorem below_two (w : World) (o1 o2 : Obj) : Below w.heap.size w ((w.alloc o1).alloc o2) := ((Below.refl _ _).alloc (Nat.le_refl _) _).alloc (by simp) _

set_option maxHeartbeats 4000000 in
set_option maxRecDepth 100000 in
theorem where_prime (w : World) : Calls Tryd.prog 44 #[.func (.func 45) #[] #[]] w (RetMarks prB w) := by
  have hz := zeroMarks
  go_enter Tryd.func44, Tryd.ntmps44
  go_wp2_with fail
  clear hz
  go_loopw [5] (fun v wr => ∃ k : Nat, k ≤ 961 ∧ v = .int .i64 (k : Int) ∧ wr = (w.alloc (.cells (pc pnone) 48)).alloc (.cells (pc (wTo prB k)) 48)) (fun v _ => (961 - intOf v).toNat)
  case atStart => exact ⟨0, by omega, rfl, by rw [wTo_zero]⟩
  case round =>
    obtain ⟨k, hk, rfl, rfl⟩ := hrel
    by_cases hlt : k < 961
    · have hc := pc_get (wTo prB k) k hlt
      have hs := wTo_set prB k
      go_wp2_with (go_at_call 45; refine (isPrime_any _ _ (by omega)).mono ?_; rintro e w' ⟨rfl, rfl⟩)
      go_roundw
      case rel => exact ⟨k + 1, by omega, by go_num, rfl⟩
      case measure => simp [intOf]; omega
    · obtain rfl : k = 961 := by omega
      rw [wTo_all]
      have HB1 := Lib.hid (blk_two w 48 (pc pnone) (pc prB))
      have HB2 := Lib.hid ((blk_new w 48 (pc pnone)).alloc (.cells (pc prB) 48))
      have HW := Lib.hid (below_two w (.cells (pc pnone) 48) (.cells (pc prB) 48))
      go_wp2_with (first | (go_at_call 45; refine (isPrime_any _ _ (by omega)).mono ?_; rintro e w' ⟨rfl, rfl⟩) | (refine wpList_load_row rfl _ _ rfl _ 48 _ rfl HB1.out 961 _ Tryd.underlying48 (sizeMarksOf _) ?_) | (refine wpList_store_row rfl _ _ _ rfl _ 48 _ _ rfl rfl HB2.out (sizeMarksOf _) (pc_sizes _ _) (pc_one _) ?_; intro w2 hb2 hg2 hsz2))
      have hb3 : Below w.heap.size w w2 := HW.out.grown hg2 (by simp; omega) (by intro k hk; simp at hk; omega)
      refine bodyPost_ret (v := .agg (pc prB)) (results_cell_row rfl _ _ w.heap.size 48 _ (0, 0) _ rfl hb2 Tryd.underlying48 rfl (sizeMarksOf _)) rfl ⟨rfl, hb3⟩
set_option maxHeartbeats 4000000 in
set_option maxRecDepth 100000 in
theorem where_alike (w : World) : Calls Tryd.prog 44 #[.func (.func 50) #[] #[]] w (RetMarks dgB w) := by
  have hz := zeroMarks
  go_enter Tryd.func44, Tryd.ntmps44
  go_wp2_with fail
  clear hz
  go_loopw [5] (fun v wr => ∃ k : Nat, k ≤ 961 ∧ v = .int .i64 (k : Int) ∧ wr = (w.alloc (.cells (pc pnone) 48)).alloc (.cells (pc (wTo dgB k)) 48)) (fun v _ => (961 - intOf v).toNat)
  case atStart => exact ⟨0, by omega, rfl, by rw [wTo_zero]⟩
  case round =>
    obtain ⟨k, hk, rfl, rfl⟩ := hrel
    by_cases hlt : k < 961
    · have hc := pc_get (wTo dgB k) k hlt
      have hs := wTo_set dgB k
      go_wp2_with (go_at_call 50; refine (alike_any _ _ (by omega)).mono ?_; rintro e w' ⟨rfl, rfl⟩)
      go_roundw
      case rel => exact ⟨k + 1, by omega, by go_num, rfl⟩
      case measure => simp [intOf]; omega
    · obtain rfl : k = 961 := by omega
      rw [wTo_all]
      have HB1 := Lib.hid (blk_two w 48 (pc pnone) (pc dgB))
      have HB2 := Lib.hid ((blk_new w 48 (pc pnone)).alloc (.cells (pc dgB) 48))
      have HW := Lib.hid (below_two w (.cells (pc pnone) 48) (.cells (pc dgB) 48))
      go_wp2_with (first | (go_at_call 50; refine (alike_any _ _ (by omega)).mono ?_; rintro e w' ⟨rfl, rfl⟩) | (refine wpList_load_row rfl _ _ rfl _ 48 _ rfl HB1.out 961 _ Tryd.underlying48 (sizeMarksOf _) ?_) | (refine wpList_store_row rfl _ _ _ rfl _ 48 _ _ rfl rfl HB2.out (sizeMarksOf _) (pc_sizes _ _) (pc_one _) ?_; intro w2 hb2 hg2 hsz2))
      have hb3 : Below w.heap.size w w2 := HW.out.grown hg2 (by simp; omega) (by intro k hk; simp at hk; omega)
      refine bodyPost_ret (v := .agg (pc dgB)) (results_cell_row rfl _ _ w.heap.size 48 _ (0, 0) _ rfl hb2 Tryd.underlying48 rfl (sizeMarksOf _)) rfl ⟨rfl, hb3⟩
theorem sqN_end (w : World) : Calls Tryd.prog 47 #[.int .i64 31] w (RetSame (.int .i64 961) w) := val1_any 31 w (by omega)
theorem sqN_lo : ∀ k, k < 31 → sqN k < 961 := by decide
theorem sqN_hi : 961 ≤ sqN 31 := by decide
set_option maxHeartbeats 4000000 in
set_option maxRecDepth 100000 in
theorem of_sqN (w : World) : Calls Tryd.prog 46 #[.func (.func 47) #[] #[]] w (RetMarks (anyTo sqN 31) w) := by
  have hz := zeroMarks
  go_enter Tryd.func46, Tryd.ntmps46
  go_wp2_with fail
  clear hz
  go_loopw [4] (fun v wr => ∃ k : Nat, k ≤ 31 ∧ v = .int .i64 (k : Int) ∧ wr = (w.alloc (.cells (pc pnone) 48)).alloc (.cells (pc (anyTo sqN k)) 48)) (fun v _ => (31 - intOf v).toNat)
  case atStart => exact ⟨0, by omega, rfl, by rw [anyTo_zero]⟩
  case round =>
    obtain ⟨k, hk, rfl, rfl⟩ := hrel
    by_cases hlt : k < 31
    · have hq := sqN_lo k hlt
      have hc := pc_get (anyTo sqN k) (sqN k) hq
      have hs := anyTo_set sqN k
      have hq2 : ((sqN k : Nat) : Int) < 961 := by omega
      have hq3 : (0 : Int) ≤ ((sqN k : Nat) : Int) := by omega
      go_wp2_with (go_at_call 47; refine (val1_any _ _ (by omega)).mono ?_; rintro e w' ⟨rfl, rfl⟩)
      go_roundw
      case rel => exact ⟨k + 1, by omega, by go_num, rfl⟩
      case measure => simp [intOf]; omega
    · obtain rfl : k = 31 := by omega
      have hq := sqN_hi
      have hq2 : ¬ ((sqN 31 : Nat) : Int) < 961 := by omega
      have hc48 : (((31 : Nat) : Int)) = 31 := rfl
      have HB1 := Lib.hid (blk_two w 48 (pc pnone) (pc (anyTo sqN 31)))
      have HB2 := Lib.hid ((blk_new w 48 (pc pnone)).alloc (.cells (pc (anyTo sqN 31)) 48))
      have HW := Lib.hid (below_two w (.cells (pc pnone) 48) (.cells (pc (anyTo sqN 31)) 48))
      go_wp2_with (first | (go_at_call 47; refine (sqN_end _).mono ?_; rintro e w' ⟨rfl, rfl⟩) | (refine wpList_load_row rfl _ _ rfl _ 48 _ rfl HB1.out 961 _ Tryd.underlying48 (sizeMarksOf _) ?_) | (refine wpList_store_row rfl _ _ _ rfl _ 48 _ _ rfl rfl HB2.out (sizeMarksOf _) (pc_sizes _ _) (pc_one _) ?_; intro w2 hb2 hg2 hsz2))
      have hb3 : Below w.heap.size w w2 := HW.out.grown hg2 (by simp; omega) (by intro k hk; simp at hk; omega)
      refine bodyPost_ret (v := .agg (pc (anyTo sqN 31))) (results_cell_row rfl _ _ w.heap.size 48 _ (0, 0) _ rfl hb2 Tryd.underlying48 rfl (sizeMarksOf _)) rfl ⟨rfl, hb3⟩
theorem cuN_end (w : World) : Calls Tryd.prog 48 #[.int .i64 10] w (RetSame (.int .i64 1000) w) := val2_any 10 w (by omega)
theorem cuN_lo : ∀ k, k < 10 → cuN k < 961 := by decide
theorem cuN_hi : 961 ≤ cuN 10 := by decide
set_option maxHeartbeats 4000000 in
set_option maxRecDepth 100000 in
theorem of_cuN (w : World) : Calls Tryd.prog 46 #[.func (.func 48) #[] #[]] w (RetMarks (anyTo cuN 10) w) := by
  have hz := zeroMarks
  go_enter Tryd.func46, Tryd.ntmps46
  go_wp2_with fail
  clear hz
  go_loopw [4] (fun v wr => ∃ k : Nat, k ≤ 10 ∧ v = .int .i64 (k : Int) ∧ wr = (w.alloc (.cells (pc pnone) 48)).alloc (.cells (pc (anyTo cuN k)) 48)) (fun v _ => (10 - intOf v).toNat)
  case atStart => exact ⟨0, by omega, rfl, by rw [anyTo_zero]⟩
  case round =>
    obtain ⟨k, hk, rfl, rfl⟩ := hrel
    by_cases hlt : k < 10
    · have hq := cuN_lo k hlt
      have hc := pc_get (anyTo cuN k) (cuN k) hq
      have hs := anyTo_set cuN k
      have hq2 : ((cuN k : Nat) : Int) < 961 := by omega
      have hq3 : (0 : Int) ≤ ((cuN k : Nat) : Int) := by omega
      go_wp2_with (go_at_call 48; refine (val2_any _ _ (by omega)).mono ?_; rintro e w' ⟨rfl, rfl⟩)
      go_roundw
      case rel => exact ⟨k + 1, by omega, by go_num, rfl⟩
      case measure => simp [intOf]; omega
    · obtain rfl : k = 10 := by omega
      have hq := cuN_hi
      have hq2 : ¬ ((cuN 10 : Nat) : Int) < 961 := by omega
      have hc48 : (((10 : Nat) : Int)) = 10 := rfl
      have HB1 := Lib.hid (blk_two w 48 (pc pnone) (pc (anyTo cuN 10)))
      have HB2 := Lib.hid ((blk_new w 48 (pc pnone)).alloc (.cells (pc (anyTo cuN 10)) 48))
      have HW := Lib.hid (below_two w (.cells (pc pnone) 48) (.cells (pc (anyTo cuN 10)) 48))
      go_wp2_with (first | (go_at_call 48; refine (cuN_end _).mono ?_; rintro e w' ⟨rfl, rfl⟩) | (refine wpList_load_row rfl _ _ rfl _ 48 _ rfl HB1.out 961 _ Tryd.underlying48 (sizeMarksOf _) ?_) | (refine wpList_store_row rfl _ _ _ rfl _ 48 _ _ rfl rfl HB2.out (sizeMarksOf _) (pc_sizes _ _) (pc_one _) ?_; intro w2 hb2 hg2 hsz2))
      have hb3 : Below w.heap.size w w2 := HW.out.grown hg2 (by simp; omega) (by intro k hk; simp at hk; omega)
      refine bodyPost_ret (v := .agg (pc (anyTo cuN 10))) (results_cell_row rfl _ _ w.heap.size 48 _ (0, 0) _ rfl hb2 Tryd.underlying48 rfl (sizeMarksOf _)) rfl ⟨rfl, hb3⟩
theorem trN_end (w : World) : Calls Tryd.prog 49 #[.int .i64 44] w (RetSame (.int .i64 990) w) := val3_any 44 w (by omega)
theorem trN_lo : ∀ k, k < 44 → trN k < 961 := by decide
theorem trN_hi : 961 ≤ trN 44 := by decide
set_option maxHeartbeats 4000000 in
set_option maxRecDepth 100000 in
theorem of_trN (w : World) : Calls Tryd.prog 46 #[.func (.func 49) #[] #[]] w (RetMarks (anyTo trN 44) w) := by
  have hz := zeroMarks
  go_enter Tryd.func46, Tryd.ntmps46
  go_wp2_with fail
  clear hz
  go_loopw [4] (fun v wr => ∃ k : Nat, k ≤ 44 ∧ v = .int .i64 (k : Int) ∧ wr = (w.alloc (.cells (pc pnone) 48)).alloc (.cells (pc (anyTo trN k)) 48)) (fun v _ => (44 - intOf v).toNat)
  case atStart => exact ⟨0, by omega, rfl, by rw [anyTo_zero]⟩
  case round =>
    obtain ⟨k, hk, rfl, rfl⟩ := hrel
    by_cases hlt : k < 44
    · have hq := trN_lo k hlt
      have hc := pc_get (anyTo trN k) (trN k) hq
      have hs := anyTo_set trN k
      have hq2 : ((trN k : Nat) : Int) < 961 := by omega
      have hq3 : (0 : Int) ≤ ((trN k : Nat) : Int) := by omega
      go_wp2_with (go_at_call 49; refine (val3_any _ _ (by omega)).mono ?_; rintro e w' ⟨rfl, rfl⟩)
      go_roundw
      case rel => exact ⟨k + 1, by omega, by go_num, rfl⟩
      case measure => simp [intOf]; omega
    · obtain rfl : k = 44 := by omega
      have hq := trN_hi
      have hq2 : ¬ ((trN 44 : Nat) : Int) < 961 := by omega
      have hc48 : (((44 : Nat) : Int)) = 44 := rfl
      have HB1 := Lib.hid (blk_two w 48 (pc pnone) (pc (anyTo trN 44)))
      have HB2 := Lib.hid ((blk_new w 48 (pc pnone)).alloc (.cells (pc (anyTo trN 44)) 48))
      have HW := Lib.hid (below_two w (.cells (pc pnone) 48) (.cells (pc (anyTo trN 44)) 48))
      go_wp2_with (first | (go_at_call 49; refine (trN_end _).mono ?_; rintro e w' ⟨rfl, rfl⟩) | (refine wpList_load_row rfl _ _ rfl _ 48 _ rfl HB1.out 961 _ Tryd.underlying48 (sizeMarksOf _) ?_) | (refine wpList_store_row rfl _ _ _ rfl _ 48 _ _ rfl rfl HB2.out (sizeMarksOf _) (pc_sizes _ _) (pc_one _) ?_; intro w2 hb2 hg2 hsz2))
      have hb3 : Below w.heap.size w w2 := HW.out.grown hg2 (by simp; omega) (by intro k hk; simp at hk; omega)
      refine bodyPost_ret (v := .agg (pc (anyTo trN 44))) (results_cell_row rfl _ _ w.heap.size 48 _ (0, 0) _ rfl hb2 Tryd.underlying48 rfl (sizeMarksOf _)) rfl ⟨rfl, hb3⟩
theorem rdN_end (w : World) : Calls Tryd.prog 51 #[.int .i64 96] w (RetSame (.int .i64 970) w) := val4_any 96 w (by omega)
theorem rdN_lo : ∀ k, k < 96 → rdN k < 961 := by decide
theorem rdN_hi : 961 ≤ rdN 96 := by decide
set_option maxHeartbeats 4000000 in
set_option maxRecDepth 100000 in
theorem of_rdN (w : World) : Calls Tryd.prog 46 #[.func (.func 51) #[] #[]] w (RetMarks (anyTo rdN 96) w) := by
  have hz := zeroMarks
  go_enter Tryd.func46, Tryd.ntmps46
  go_wp2_with fail
  clear hz
  go_loopw [4] (fun v wr => ∃ k : Nat, k ≤ 96 ∧ v = .int .i64 (k : Int) ∧ wr = (w.alloc (.cells (pc pnone) 48)).alloc (.cells (pc (anyTo rdN k)) 48)) (fun v _ => (96 - intOf v).toNat)
  case atStart => exact ⟨0, by omega, rfl, by rw [anyTo_zero]⟩
  case round =>
    obtain ⟨k, hk, rfl, rfl⟩ := hrel
    by_cases hlt : k < 96
    · have hq := rdN_lo k hlt
      have hc := pc_get (anyTo rdN k) (rdN k) hq
      have hs := anyTo_set rdN k
      have hq2 : ((rdN k : Nat) : Int) < 961 := by omega
      have hq3 : (0 : Int) ≤ ((rdN k : Nat) : Int) := by omega
      go_wp2_with (go_at_call 51; refine (val4_any _ _ (by omega)).mono ?_; rintro e w' ⟨rfl, rfl⟩)
      go_roundw
      case rel => exact ⟨k + 1, by omega, by go_num, rfl⟩
      case measure => simp [intOf]; omega
    · obtain rfl : k = 96 := by omega
      have hq := rdN_hi
      have hq2 : ¬ ((rdN 96 : Nat) : Int) < 961 := by omega
      have hc48 : (((96 : Nat) : Int)) = 96 := rfl
      have HB1 := Lib.hid (blk_two w 48 (pc pnone) (pc (anyTo rdN 96)))
      have HB2 := Lib.hid ((blk_new w 48 (pc pnone)).alloc (.cells (pc (anyTo rdN 96)) 48))
      have HW := Lib.hid (below_two w (.cells (pc pnone) 48) (.cells (pc (anyTo rdN 96)) 48))
      go_wp2_with (first | (go_at_call 51; refine (rdN_end _).mono ?_; rintro e w' ⟨rfl, rfl⟩) | (refine wpList_load_row rfl _ _ rfl _ 48 _ rfl HB1.out 961 _ Tryd.underlying48 (sizeMarksOf _) ?_) | (refine wpList_store_row rfl _ _ _ rfl _ 48 _ _ rfl rfl HB2.out (sizeMarksOf _) (pc_sizes _ _) (pc_one _) ?_; intro w2 hb2 hg2 hsz2))
      have hb3 : Below w.heap.size w w2 := HW.out.grown hg2 (by simp; omega) (by intro k hk; simp at hk; omega)
      refine bodyPost_ret (v := .agg (pc (anyTo rdN 96))) (results_cell_row rfl _ _ w.heap.size 48 _ (0, 0) _ rfl hb2 Tryd.underlying48 rfl (sizeMarksOf _)) rfl ⟨rfl, hb3⟩
end Go.Proofs.YtjabghojenhhiaaDoor
