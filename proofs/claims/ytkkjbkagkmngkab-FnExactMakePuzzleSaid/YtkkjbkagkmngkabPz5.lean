/- What a clue tells, one kind at a time: both texts. -/
import Derived.Test.YtkkjbkagkmngkabPz4
import Derived.BigQuiet
set_option linter.unusedVariables false
set_option linter.unusedSimpArgs false
namespace Go.Proofs.Ytkkjbkagkmngkab
open Go.RowKit

theorem oneIf_t (w : World) : Calls Try.prog 40 #[.bool true] w (RetSame (.int .i64 1) w) := by
  go_enter Try.func40, Try.ntmps40
  go_wp2
  go_ret
  exact ⟨rfl, rfl⟩
theorem oneIf_f (w : World) : Calls Try.prog 40 #[.bool false] w (RetSame (.int .i64 0) w) := by
  go_enter Try.func40, Try.ntmps40
  go_wp2
  go_ret
  exact ⟨rfl, rfl⟩
theorem hdn2 {x y : Int} (hx : 1 ≤ x ∧ x ≤ 12) (hy : 1 ≤ y ∧ y ≤ 12) : Hdn [x, y] := ⟨.inl rfl, fun z hz => by
  simp at hz
  rcases hz with rfl | rfl <;> omega⟩
theorem hdn3 {x y z : Int} (hx : 1 ≤ x ∧ x ≤ 12) (hy : 1 ≤ y ∧ y ≤ 12) (hz : 1 ≤ z ∧ z ≤ 12) : Hdn [x, y, z] := ⟨.inr rfl, fun u hu => by
  simp at hu
  rcases hu with rfl | rfl | rfl <;> omega⟩
theorem ints2 {w : World} {b : Nat} {x y : Int} (c0 : w.cell? ⟨b, 0, none⟩ = some (.int .i64 x)) (c1 : w.cell? ⟨b, 1, none⟩ = some (.int .i64 y)) : Ints w b 0 [x, y] := by
  intro j hj
  match j, hj with
  | 0, _ => exact c0
  | 1, _ => exact c1
theorem ints3 {w : World} {b : Nat} {x y z : Int} (c0 : w.cell? ⟨b, 0, none⟩ = some (.int .i64 x)) (c1 : w.cell? ⟨b, 1, none⟩ = some (.int .i64 y)) (c2 : w.cell? ⟨b, 2, none⟩ = some (.int .i64 z)) : Ints w b 0 [x, y, z] := by
  intro j hj
  match j, hj with
  | 0, _ => exact c0
  | 1, _ => exact c1
  | 2, _ => exact c2
theorem zero3 (W : World) (B : Nat) {x0 x1 x2 : Value} (r0 : W.cell? ⟨B, 0, none⟩ = some x0) (r1 : W.cell? ⟨B, 1, none⟩ = some x1) (r2 : W.cell? ⟨B, 2, none⟩ = some x2) :
    (∀ v0 v1 v2, (((W.setCell ⟨B, 0, none⟩ v0).setCell ⟨B, 1, none⟩ v1).setCell ⟨B, 2, none⟩ v2).cell? ⟨B, 0, none⟩ = some v0) ∧ (∀ v0 v1 v2, (((W.setCell ⟨B, 0, none⟩ v0).setCell ⟨B, 1, none⟩ v1).setCell ⟨B, 2, none⟩ v2).cell? ⟨B, 1, none⟩ = some v1) ∧ (∀ v0 v1 v2, (((W.setCell ⟨B, 0, none⟩ v0).setCell ⟨B, 1, none⟩ v1).setCell ⟨B, 2, none⟩ v2).cell? ⟨B, 2, none⟩ = some v2) := by
  have e01 : ∀ v, (W.setCell ⟨B, 0, none⟩ v).cell? ⟨B, 0, none⟩ = some v := fun v => World.cell?_setCell_same _ _ _ r0
  have e1 : ∀ v u, ((W.setCell ⟨B, 0, none⟩ v).setCell ⟨B, 1, none⟩ u).cell? ⟨B, 1, none⟩ = some u := fun v u => World.cell?_setCell_same _ _ _ ((World.cell?_setCell_other _ _ _ _ (by simp)).trans r1)
  refine ⟨fun v0 v1 v2 => ?_, fun v0 v1 v2 => ?_, fun v0 v1 v2 => World.cell?_setCell_same _ _ _ (u := x2) ?_⟩
  · rw [World.cell?_setCell_other _ _ _ _ (by simp), World.cell?_setCell_other _ _ _ _ (by simp)]; exact e01 v0
  · rw [World.cell?_setCell_other _ _ _ _ (by simp)]; exact e1 v0 v1
  · rw [World.cell?_setCell_other _ _ _ _ (by simp), World.cell?_setCell_other _ _ _ _ (by simp)]; exact r2

set_option maxHeartbeats 1000000 in
theorem clueOf_0_2_0 (b c : Nat) (x y : Int) (w : World) (hbl : b < w.heap.size) (hx : 1 ≤ x ∧ x ≤ 12) (hy : 1 ≤ y ∧ y ≤ 12) (c0 : w.cell? ⟨b, 0, none⟩ = some (.int .i64 x)) (c1 : w.cell? ⟨b, 1, none⟩ = some (.int .i64 y)) :
    Calls Try.prog 27 #[.int .i64 0, .int .i64 0, .slice (some ⟨b, 0, none⟩) 2 c] w (Ret (.agg #[.int .i64 0, .int .i64 0, .int .i64 (valK 0 0 [x, y])]) w) := by
  have HW := Lib.hid ((Below.refl w.heap.size w).alloc (Nat.le_refl _) (.cells #[.int .i64 0, .int .i64 0, .int .i64 0] 27))
  have d0 : (w.alloc (.cells #[.int .i64 0, .int .i64 0, .int .i64 0] 27)).cell? ⟨b, 0, none⟩ = some (.int .i64 x) := (HW.out.cell (p := ⟨b, 0, none⟩) hbl).trans c0
  have d1 : (w.alloc (.cells #[.int .i64 0, .int .i64 0, .int .i64 0] 27)).cell? ⟨b, 1, none⟩ = some (.int .i64 y) := (HW.out.cell (p := ⟨b, 1, none⟩) hbl).trans c1
  have HS := Lib.hid (fun (W : World) (hb : Below w.heap.size w W) => sumOfSet_any b 0 2 c [x, y] W rfl (hdn2 hx hy).kids ((ints2 c0 c1).kept hb hbl))
  have HV := Lib.hid (show valK 0 0 [x, y] = sumL [x, y] from rfl)
  rw [HV.out]
  clear HV
  generalize sumL [x, y] = r at HS ⊢
  go_enter Try.func27, Try.ntmps27
  go_wp2_with (go_at_call 38; refine (HS.out _ (by first | exact HW.out | exact Below.refl _ _)).mono ?_; rintro e w' ⟨rfl, rfl⟩)
  refine bodyPost_ret (v := .agg #[.int .i64 0, .int .i64 0, .int .i64 r]) (by simp [results, Try.results27, go_sem]) rfl ?_
  exact ⟨rfl, (Below.refl w.heap.size w).alloc (Nat.le_refl _) _⟩
set_option maxHeartbeats 1000000 in
theorem clueOf_0_2_1 (b c : Nat) (x y : Int) (w : World) (hbl : b < w.heap.size) (hx : 1 ≤ x ∧ x ≤ 12) (hy : 1 ≤ y ∧ y ≤ 12) (c0 : w.cell? ⟨b, 0, none⟩ = some (.int .i64 x)) (c1 : w.cell? ⟨b, 1, none⟩ = some (.int .i64 y)) :
    Calls Try.prog 27 #[.int .i64 0, .int .i64 1, .slice (some ⟨b, 0, none⟩) 2 c] w (Ret (.agg #[.int .i64 0, .int .i64 0, .int .i64 (valK 0 1 [x, y])]) w) := by
  have HW := Lib.hid ((Below.refl w.heap.size w).alloc (Nat.le_refl _) (.cells #[.int .i64 0, .int .i64 0, .int .i64 0] 27))
  have d0 : (w.alloc (.cells #[.int .i64 0, .int .i64 0, .int .i64 0] 27)).cell? ⟨b, 0, none⟩ = some (.int .i64 x) := (HW.out.cell (p := ⟨b, 0, none⟩) hbl).trans c0
  have d1 : (w.alloc (.cells #[.int .i64 0, .int .i64 0, .int .i64 0] 27)).cell? ⟨b, 1, none⟩ = some (.int .i64 y) := (HW.out.cell (p := ⟨b, 1, none⟩) hbl).trans c1
  have HS := Lib.hid (fun (W : World) (hb : Below w.heap.size w W) => sumOfSet_any b 0 2 c [x, y] W rfl (hdn2 hx hy).kids ((ints2 c0 c1).kept hb hbl))
  have HV := Lib.hid (show valK 0 1 [x, y] = sumL [x, y] from rfl)
  rw [HV.out]
  clear HV
  generalize sumL [x, y] = r at HS ⊢
  go_enter Try.func27, Try.ntmps27
  go_wp2_with (go_at_call 38; refine (HS.out _ (by first | exact HW.out | exact Below.refl _ _)).mono ?_; rintro e w' ⟨rfl, rfl⟩)
  refine bodyPost_ret (v := .agg #[.int .i64 0, .int .i64 0, .int .i64 r]) (by simp [results, Try.results27, go_sem]) rfl ?_
  exact ⟨rfl, (Below.refl w.heap.size w).alloc (Nat.le_refl _) _⟩
set_option maxHeartbeats 1000000 in
theorem clueOf_0_3_0 (b c : Nat) (x y z : Int) (w : World) (hbl : b < w.heap.size) (hx : 1 ≤ x ∧ x ≤ 12) (hy : 1 ≤ y ∧ y ≤ 12) (hz : 1 ≤ z ∧ z ≤ 12) (c0 : w.cell? ⟨b, 0, none⟩ = some (.int .i64 x)) (c1 : w.cell? ⟨b, 1, none⟩ = some (.int .i64 y)) (c2 : w.cell? ⟨b, 2, none⟩ = some (.int .i64 z)) :
    Calls Try.prog 27 #[.int .i64 0, .int .i64 0, .slice (some ⟨b, 0, none⟩) 3 c] w (Ret (.agg #[.int .i64 0, .int .i64 0, .int .i64 (valK 0 0 [x, y, z])]) w) := by
  have HW := Lib.hid ((Below.refl w.heap.size w).alloc (Nat.le_refl _) (.cells #[.int .i64 0, .int .i64 0, .int .i64 0] 27))
  have d0 : (w.alloc (.cells #[.int .i64 0, .int .i64 0, .int .i64 0] 27)).cell? ⟨b, 0, none⟩ = some (.int .i64 x) := (HW.out.cell (p := ⟨b, 0, none⟩) hbl).trans c0
  have d1 : (w.alloc (.cells #[.int .i64 0, .int .i64 0, .int .i64 0] 27)).cell? ⟨b, 1, none⟩ = some (.int .i64 y) := (HW.out.cell (p := ⟨b, 1, none⟩) hbl).trans c1
  have d2 : (w.alloc (.cells #[.int .i64 0, .int .i64 0, .int .i64 0] 27)).cell? ⟨b, 2, none⟩ = some (.int .i64 z) := (HW.out.cell (p := ⟨b, 2, none⟩) hbl).trans c2
  have HS := Lib.hid (fun (W : World) (hb : Below w.heap.size w W) => sumOfSet_any b 0 3 c [x, y, z] W rfl (hdn3 hx hy hz).kids ((ints3 c0 c1 c2).kept hb hbl))
  have HV := Lib.hid (show valK 0 0 [x, y, z] = sumL [x, y, z] from rfl)
  rw [HV.out]
  clear HV
  generalize sumL [x, y, z] = r at HS ⊢
  go_enter Try.func27, Try.ntmps27
  go_wp2_with (go_at_call 38; refine (HS.out _ (by first | exact HW.out | exact Below.refl _ _)).mono ?_; rintro e w' ⟨rfl, rfl⟩)
  refine bodyPost_ret (v := .agg #[.int .i64 0, .int .i64 0, .int .i64 r]) (by simp [results, Try.results27, go_sem]) rfl ?_
  exact ⟨rfl, (Below.refl w.heap.size w).alloc (Nat.le_refl _) _⟩
set_option maxHeartbeats 1000000 in
theorem clueOf_0_3_1 (b c : Nat) (x y z : Int) (w : World) (hbl : b < w.heap.size) (hx : 1 ≤ x ∧ x ≤ 12) (hy : 1 ≤ y ∧ y ≤ 12) (hz : 1 ≤ z ∧ z ≤ 12) (c0 : w.cell? ⟨b, 0, none⟩ = some (.int .i64 x)) (c1 : w.cell? ⟨b, 1, none⟩ = some (.int .i64 y)) (c2 : w.cell? ⟨b, 2, none⟩ = some (.int .i64 z)) :
    Calls Try.prog 27 #[.int .i64 0, .int .i64 1, .slice (some ⟨b, 0, none⟩) 3 c] w (Ret (.agg #[.int .i64 0, .int .i64 0, .int .i64 (valK 0 1 [x, y, z])]) w) := by
  have HW := Lib.hid ((Below.refl w.heap.size w).alloc (Nat.le_refl _) (.cells #[.int .i64 0, .int .i64 0, .int .i64 0] 27))
  have d0 : (w.alloc (.cells #[.int .i64 0, .int .i64 0, .int .i64 0] 27)).cell? ⟨b, 0, none⟩ = some (.int .i64 x) := (HW.out.cell (p := ⟨b, 0, none⟩) hbl).trans c0
  have d1 : (w.alloc (.cells #[.int .i64 0, .int .i64 0, .int .i64 0] 27)).cell? ⟨b, 1, none⟩ = some (.int .i64 y) := (HW.out.cell (p := ⟨b, 1, none⟩) hbl).trans c1
  have d2 : (w.alloc (.cells #[.int .i64 0, .int .i64 0, .int .i64 0] 27)).cell? ⟨b, 2, none⟩ = some (.int .i64 z) := (HW.out.cell (p := ⟨b, 2, none⟩) hbl).trans c2
  have HS := Lib.hid (fun (W : World) (hb : Below w.heap.size w W) => sumOfSet_any b 0 3 c [x, y, z] W rfl (hdn3 hx hy hz).kids ((ints3 c0 c1 c2).kept hb hbl))
  have HV := Lib.hid (show valK 0 1 [x, y, z] = sumL [x, y, z] from rfl)
  rw [HV.out]
  clear HV
  generalize sumL [x, y, z] = r at HS ⊢
  go_enter Try.func27, Try.ntmps27
  go_wp2_with (go_at_call 38; refine (HS.out _ (by first | exact HW.out | exact Below.refl _ _)).mono ?_; rintro e w' ⟨rfl, rfl⟩)
  refine bodyPost_ret (v := .agg #[.int .i64 0, .int .i64 0, .int .i64 r]) (by simp [results, Try.results27, go_sem]) rfl ?_
  exact ⟨rfl, (Below.refl w.heap.size w).alloc (Nat.le_refl _) _⟩
set_option maxHeartbeats 1000000 in
theorem clueOf_0_3_2 (b c : Nat) (x y z : Int) (w : World) (hbl : b < w.heap.size) (hx : 1 ≤ x ∧ x ≤ 12) (hy : 1 ≤ y ∧ y ≤ 12) (hz : 1 ≤ z ∧ z ≤ 12) (c0 : w.cell? ⟨b, 0, none⟩ = some (.int .i64 x)) (c1 : w.cell? ⟨b, 1, none⟩ = some (.int .i64 y)) (c2 : w.cell? ⟨b, 2, none⟩ = some (.int .i64 z)) :
    Calls Try.prog 27 #[.int .i64 0, .int .i64 2, .slice (some ⟨b, 0, none⟩) 3 c] w (Ret (.agg #[.int .i64 0, .int .i64 0, .int .i64 (valK 0 2 [x, y, z])]) w) := by
  have HW := Lib.hid ((Below.refl w.heap.size w).alloc (Nat.le_refl _) (.cells #[.int .i64 0, .int .i64 0, .int .i64 0] 27))
  have d0 : (w.alloc (.cells #[.int .i64 0, .int .i64 0, .int .i64 0] 27)).cell? ⟨b, 0, none⟩ = some (.int .i64 x) := (HW.out.cell (p := ⟨b, 0, none⟩) hbl).trans c0
  have d1 : (w.alloc (.cells #[.int .i64 0, .int .i64 0, .int .i64 0] 27)).cell? ⟨b, 1, none⟩ = some (.int .i64 y) := (HW.out.cell (p := ⟨b, 1, none⟩) hbl).trans c1
  have d2 : (w.alloc (.cells #[.int .i64 0, .int .i64 0, .int .i64 0] 27)).cell? ⟨b, 2, none⟩ = some (.int .i64 z) := (HW.out.cell (p := ⟨b, 2, none⟩) hbl).trans c2
  have HS := Lib.hid (fun (W : World) (hb : Below w.heap.size w W) => sumOfSet_any b 0 3 c [x, y, z] W rfl (hdn3 hx hy hz).kids ((ints3 c0 c1 c2).kept hb hbl))
  have HV := Lib.hid (show valK 0 2 [x, y, z] = sumL [x, y, z] from rfl)
  rw [HV.out]
  clear HV
  generalize sumL [x, y, z] = r at HS ⊢
  go_enter Try.func27, Try.ntmps27
  go_wp2_with (go_at_call 38; refine (HS.out _ (by first | exact HW.out | exact Below.refl _ _)).mono ?_; rintro e w' ⟨rfl, rfl⟩)
  refine bodyPost_ret (v := .agg #[.int .i64 0, .int .i64 0, .int .i64 r]) (by simp [results, Try.results27, go_sem]) rfl ?_
  exact ⟨rfl, (Below.refl w.heap.size w).alloc (Nat.le_refl _) _⟩
set_option maxHeartbeats 1000000 in
theorem clueOf_1_2_0 (b c : Nat) (x y : Int) (w : World) (hbl : b < w.heap.size) (hx : 1 ≤ x ∧ x ≤ 12) (hy : 1 ≤ y ∧ y ≤ 12) (c0 : w.cell? ⟨b, 0, none⟩ = some (.int .i64 x)) (c1 : w.cell? ⟨b, 1, none⟩ = some (.int .i64 y)) :
    Calls Try.prog 27 #[.int .i64 1, .int .i64 0, .slice (some ⟨b, 0, none⟩) 2 c] w (Ret (.agg #[.int .i64 1, .int .i64 0, .int .i64 (valK 1 0 [x, y])]) w) := by
  have HW := Lib.hid ((Below.refl w.heap.size w).alloc (Nat.le_refl _) (.cells #[.int .i64 0, .int .i64 0, .int .i64 0] 27))
  have d0 : (w.alloc (.cells #[.int .i64 0, .int .i64 0, .int .i64 0] 27)).cell? ⟨b, 0, none⟩ = some (.int .i64 x) := (HW.out.cell (p := ⟨b, 0, none⟩) hbl).trans c0
  have d1 : (w.alloc (.cells #[.int .i64 0, .int .i64 0, .int .i64 0] 27)).cell? ⟨b, 1, none⟩ = some (.int .i64 y) := (HW.out.cell (p := ⟨b, 1, none⟩) hbl).trans c1
  have HV := Lib.hid (show valK 1 0 [x, y] = x from rfl)
  rw [HV.out]
  clear HV
  go_enter Try.func27, Try.ntmps27
  go_wp2_with fail
  refine bodyPost_ret (v := .agg #[.int .i64 1, .int .i64 0, .int .i64 x]) (by simp [results, Try.results27, go_sem]) rfl ?_
  exact ⟨rfl, (Below.refl w.heap.size w).alloc (Nat.le_refl _) _⟩
set_option maxHeartbeats 1000000 in
theorem clueOf_1_2_1 (b c : Nat) (x y : Int) (w : World) (hbl : b < w.heap.size) (hx : 1 ≤ x ∧ x ≤ 12) (hy : 1 ≤ y ∧ y ≤ 12) (c0 : w.cell? ⟨b, 0, none⟩ = some (.int .i64 x)) (c1 : w.cell? ⟨b, 1, none⟩ = some (.int .i64 y)) :
    Calls Try.prog 27 #[.int .i64 1, .int .i64 1, .slice (some ⟨b, 0, none⟩) 2 c] w (Ret (.agg #[.int .i64 1, .int .i64 1, .int .i64 (valK 1 1 [x, y])]) w) := by
  have HW := Lib.hid ((Below.refl w.heap.size w).alloc (Nat.le_refl _) (.cells #[.int .i64 0, .int .i64 0, .int .i64 0] 27))
  have d0 : (w.alloc (.cells #[.int .i64 0, .int .i64 0, .int .i64 0] 27)).cell? ⟨b, 0, none⟩ = some (.int .i64 x) := (HW.out.cell (p := ⟨b, 0, none⟩) hbl).trans c0
  have d1 : (w.alloc (.cells #[.int .i64 0, .int .i64 0, .int .i64 0] 27)).cell? ⟨b, 1, none⟩ = some (.int .i64 y) := (HW.out.cell (p := ⟨b, 1, none⟩) hbl).trans c1
  have HV := Lib.hid (show valK 1 1 [x, y] = y from rfl)
  rw [HV.out]
  clear HV
  go_enter Try.func27, Try.ntmps27
  go_wp2_with fail
  refine bodyPost_ret (v := .agg #[.int .i64 1, .int .i64 1, .int .i64 y]) (by simp [results, Try.results27, go_sem]) rfl ?_
  exact ⟨rfl, (Below.refl w.heap.size w).alloc (Nat.le_refl _) _⟩
set_option maxHeartbeats 1000000 in
theorem clueOf_1_3_0 (b c : Nat) (x y z : Int) (w : World) (hbl : b < w.heap.size) (hx : 1 ≤ x ∧ x ≤ 12) (hy : 1 ≤ y ∧ y ≤ 12) (hz : 1 ≤ z ∧ z ≤ 12) (c0 : w.cell? ⟨b, 0, none⟩ = some (.int .i64 x)) (c1 : w.cell? ⟨b, 1, none⟩ = some (.int .i64 y)) (c2 : w.cell? ⟨b, 2, none⟩ = some (.int .i64 z)) :
    Calls Try.prog 27 #[.int .i64 1, .int .i64 0, .slice (some ⟨b, 0, none⟩) 3 c] w (Ret (.agg #[.int .i64 1, .int .i64 0, .int .i64 (valK 1 0 [x, y, z])]) w) := by
  have HW := Lib.hid ((Below.refl w.heap.size w).alloc (Nat.le_refl _) (.cells #[.int .i64 0, .int .i64 0, .int .i64 0] 27))
  have d0 : (w.alloc (.cells #[.int .i64 0, .int .i64 0, .int .i64 0] 27)).cell? ⟨b, 0, none⟩ = some (.int .i64 x) := (HW.out.cell (p := ⟨b, 0, none⟩) hbl).trans c0
  have d1 : (w.alloc (.cells #[.int .i64 0, .int .i64 0, .int .i64 0] 27)).cell? ⟨b, 1, none⟩ = some (.int .i64 y) := (HW.out.cell (p := ⟨b, 1, none⟩) hbl).trans c1
  have d2 : (w.alloc (.cells #[.int .i64 0, .int .i64 0, .int .i64 0] 27)).cell? ⟨b, 2, none⟩ = some (.int .i64 z) := (HW.out.cell (p := ⟨b, 2, none⟩) hbl).trans c2
  have HV := Lib.hid (show valK 1 0 [x, y, z] = x from rfl)
  rw [HV.out]
  clear HV
  go_enter Try.func27, Try.ntmps27
  go_wp2_with fail
  refine bodyPost_ret (v := .agg #[.int .i64 1, .int .i64 0, .int .i64 x]) (by simp [results, Try.results27, go_sem]) rfl ?_
  exact ⟨rfl, (Below.refl w.heap.size w).alloc (Nat.le_refl _) _⟩
set_option maxHeartbeats 1000000 in
theorem clueOf_1_3_1 (b c : Nat) (x y z : Int) (w : World) (hbl : b < w.heap.size) (hx : 1 ≤ x ∧ x ≤ 12) (hy : 1 ≤ y ∧ y ≤ 12) (hz : 1 ≤ z ∧ z ≤ 12) (c0 : w.cell? ⟨b, 0, none⟩ = some (.int .i64 x)) (c1 : w.cell? ⟨b, 1, none⟩ = some (.int .i64 y)) (c2 : w.cell? ⟨b, 2, none⟩ = some (.int .i64 z)) :
    Calls Try.prog 27 #[.int .i64 1, .int .i64 1, .slice (some ⟨b, 0, none⟩) 3 c] w (Ret (.agg #[.int .i64 1, .int .i64 1, .int .i64 (valK 1 1 [x, y, z])]) w) := by
  have HW := Lib.hid ((Below.refl w.heap.size w).alloc (Nat.le_refl _) (.cells #[.int .i64 0, .int .i64 0, .int .i64 0] 27))
  have d0 : (w.alloc (.cells #[.int .i64 0, .int .i64 0, .int .i64 0] 27)).cell? ⟨b, 0, none⟩ = some (.int .i64 x) := (HW.out.cell (p := ⟨b, 0, none⟩) hbl).trans c0
  have d1 : (w.alloc (.cells #[.int .i64 0, .int .i64 0, .int .i64 0] 27)).cell? ⟨b, 1, none⟩ = some (.int .i64 y) := (HW.out.cell (p := ⟨b, 1, none⟩) hbl).trans c1
  have d2 : (w.alloc (.cells #[.int .i64 0, .int .i64 0, .int .i64 0] 27)).cell? ⟨b, 2, none⟩ = some (.int .i64 z) := (HW.out.cell (p := ⟨b, 2, none⟩) hbl).trans c2
  have HV := Lib.hid (show valK 1 1 [x, y, z] = y from rfl)
  rw [HV.out]
  clear HV
  go_enter Try.func27, Try.ntmps27
  go_wp2_with fail
  refine bodyPost_ret (v := .agg #[.int .i64 1, .int .i64 1, .int .i64 y]) (by simp [results, Try.results27, go_sem]) rfl ?_
  exact ⟨rfl, (Below.refl w.heap.size w).alloc (Nat.le_refl _) _⟩
set_option maxHeartbeats 1000000 in
theorem clueOf_1_3_2 (b c : Nat) (x y z : Int) (w : World) (hbl : b < w.heap.size) (hx : 1 ≤ x ∧ x ≤ 12) (hy : 1 ≤ y ∧ y ≤ 12) (hz : 1 ≤ z ∧ z ≤ 12) (c0 : w.cell? ⟨b, 0, none⟩ = some (.int .i64 x)) (c1 : w.cell? ⟨b, 1, none⟩ = some (.int .i64 y)) (c2 : w.cell? ⟨b, 2, none⟩ = some (.int .i64 z)) :
    Calls Try.prog 27 #[.int .i64 1, .int .i64 2, .slice (some ⟨b, 0, none⟩) 3 c] w (Ret (.agg #[.int .i64 1, .int .i64 2, .int .i64 (valK 1 2 [x, y, z])]) w) := by
  have HW := Lib.hid ((Below.refl w.heap.size w).alloc (Nat.le_refl _) (.cells #[.int .i64 0, .int .i64 0, .int .i64 0] 27))
  have d0 : (w.alloc (.cells #[.int .i64 0, .int .i64 0, .int .i64 0] 27)).cell? ⟨b, 0, none⟩ = some (.int .i64 x) := (HW.out.cell (p := ⟨b, 0, none⟩) hbl).trans c0
  have d1 : (w.alloc (.cells #[.int .i64 0, .int .i64 0, .int .i64 0] 27)).cell? ⟨b, 1, none⟩ = some (.int .i64 y) := (HW.out.cell (p := ⟨b, 1, none⟩) hbl).trans c1
  have d2 : (w.alloc (.cells #[.int .i64 0, .int .i64 0, .int .i64 0] 27)).cell? ⟨b, 2, none⟩ = some (.int .i64 z) := (HW.out.cell (p := ⟨b, 2, none⟩) hbl).trans c2
  have HV := Lib.hid (show valK 1 2 [x, y, z] = z from rfl)
  rw [HV.out]
  clear HV
  go_enter Try.func27, Try.ntmps27
  go_wp2_with fail
  refine bodyPost_ret (v := .agg #[.int .i64 1, .int .i64 2, .int .i64 z]) (by simp [results, Try.results27, go_sem]) rfl ?_
  exact ⟨rfl, (Below.refl w.heap.size w).alloc (Nat.le_refl _) _⟩
set_option maxHeartbeats 1000000 in
theorem clueOf_2_2_0 (b c : Nat) (x y : Int) (w : World) (hbl : b < w.heap.size) (hx : 1 ≤ x ∧ x ≤ 12) (hy : 1 ≤ y ∧ y ≤ 12) (c0 : w.cell? ⟨b, 0, none⟩ = some (.int .i64 x)) (c1 : w.cell? ⟨b, 1, none⟩ = some (.int .i64 y)) :
    Calls Try.prog 27 #[.int .i64 2, .int .i64 0, .slice (some ⟨b, 0, none⟩) 2 c] w (Ret (.agg #[.int .i64 2, .int .i64 0, .int .i64 (valK 2 0 [x, y])]) w) := by
  have HW := Lib.hid ((Below.refl w.heap.size w).alloc (Nat.le_refl _) (.cells #[.int .i64 0, .int .i64 0, .int .i64 0] 27))
  have d0 : (w.alloc (.cells #[.int .i64 0, .int .i64 0, .int .i64 0] 27)).cell? ⟨b, 0, none⟩ = some (.int .i64 x) := (HW.out.cell (p := ⟨b, 0, none⟩) hbl).trans c0
  have d1 : (w.alloc (.cells #[.int .i64 0, .int .i64 0, .int .i64 0] 27)).cell? ⟨b, 1, none⟩ = some (.int .i64 y) := (HW.out.cell (p := ⟨b, 1, none⟩) hbl).trans c1
  have HS := Lib.hid (fun (W : World) (hb : Below w.heap.size w W) => productOfSet_any b 0 2 c [x, y] W rfl (hdn2 hx hy).kids ((ints2 c0 c1).kept hb hbl))
  have HV := Lib.hid (show valK 2 0 [x, y] = prodL [x, y] from rfl)
  rw [HV.out]
  clear HV
  generalize prodL [x, y] = r at HS ⊢
  go_enter Try.func27, Try.ntmps27
  go_wp2_with (go_at_call 39; refine (HS.out _ (by first | exact HW.out | exact Below.refl _ _)).mono ?_; rintro e w' ⟨rfl, rfl⟩)
  refine bodyPost_ret (v := .agg #[.int .i64 2, .int .i64 0, .int .i64 r]) (by simp [results, Try.results27, go_sem]) rfl ?_
  exact ⟨rfl, (Below.refl w.heap.size w).alloc (Nat.le_refl _) _⟩
set_option maxHeartbeats 1000000 in
theorem clueOf_2_2_1 (b c : Nat) (x y : Int) (w : World) (hbl : b < w.heap.size) (hx : 1 ≤ x ∧ x ≤ 12) (hy : 1 ≤ y ∧ y ≤ 12) (c0 : w.cell? ⟨b, 0, none⟩ = some (.int .i64 x)) (c1 : w.cell? ⟨b, 1, none⟩ = some (.int .i64 y)) :
    Calls Try.prog 27 #[.int .i64 2, .int .i64 1, .slice (some ⟨b, 0, none⟩) 2 c] w (Ret (.agg #[.int .i64 2, .int .i64 0, .int .i64 (valK 2 1 [x, y])]) w) := by
  have HW := Lib.hid ((Below.refl w.heap.size w).alloc (Nat.le_refl _) (.cells #[.int .i64 0, .int .i64 0, .int .i64 0] 27))
  have d0 : (w.alloc (.cells #[.int .i64 0, .int .i64 0, .int .i64 0] 27)).cell? ⟨b, 0, none⟩ = some (.int .i64 x) := (HW.out.cell (p := ⟨b, 0, none⟩) hbl).trans c0
  have d1 : (w.alloc (.cells #[.int .i64 0, .int .i64 0, .int .i64 0] 27)).cell? ⟨b, 1, none⟩ = some (.int .i64 y) := (HW.out.cell (p := ⟨b, 1, none⟩) hbl).trans c1
  have HS := Lib.hid (fun (W : World) (hb : Below w.heap.size w W) => productOfSet_any b 0 2 c [x, y] W rfl (hdn2 hx hy).kids ((ints2 c0 c1).kept hb hbl))
  have HV := Lib.hid (show valK 2 1 [x, y] = prodL [x, y] from rfl)
  rw [HV.out]
  clear HV
  generalize prodL [x, y] = r at HS ⊢
  go_enter Try.func27, Try.ntmps27
  go_wp2_with (go_at_call 39; refine (HS.out _ (by first | exact HW.out | exact Below.refl _ _)).mono ?_; rintro e w' ⟨rfl, rfl⟩)
  refine bodyPost_ret (v := .agg #[.int .i64 2, .int .i64 0, .int .i64 r]) (by simp [results, Try.results27, go_sem]) rfl ?_
  exact ⟨rfl, (Below.refl w.heap.size w).alloc (Nat.le_refl _) _⟩
set_option maxHeartbeats 1000000 in
theorem clueOf_2_3_0 (b c : Nat) (x y z : Int) (w : World) (hbl : b < w.heap.size) (hx : 1 ≤ x ∧ x ≤ 12) (hy : 1 ≤ y ∧ y ≤ 12) (hz : 1 ≤ z ∧ z ≤ 12) (c0 : w.cell? ⟨b, 0, none⟩ = some (.int .i64 x)) (c1 : w.cell? ⟨b, 1, none⟩ = some (.int .i64 y)) (c2 : w.cell? ⟨b, 2, none⟩ = some (.int .i64 z)) :
    Calls Try.prog 27 #[.int .i64 2, .int .i64 0, .slice (some ⟨b, 0, none⟩) 3 c] w (Ret (.agg #[.int .i64 2, .int .i64 0, .int .i64 (valK 2 0 [x, y, z])]) w) := by
  have HW := Lib.hid ((Below.refl w.heap.size w).alloc (Nat.le_refl _) (.cells #[.int .i64 0, .int .i64 0, .int .i64 0] 27))
  have d0 : (w.alloc (.cells #[.int .i64 0, .int .i64 0, .int .i64 0] 27)).cell? ⟨b, 0, none⟩ = some (.int .i64 x) := (HW.out.cell (p := ⟨b, 0, none⟩) hbl).trans c0
  have d1 : (w.alloc (.cells #[.int .i64 0, .int .i64 0, .int .i64 0] 27)).cell? ⟨b, 1, none⟩ = some (.int .i64 y) := (HW.out.cell (p := ⟨b, 1, none⟩) hbl).trans c1
  have d2 : (w.alloc (.cells #[.int .i64 0, .int .i64 0, .int .i64 0] 27)).cell? ⟨b, 2, none⟩ = some (.int .i64 z) := (HW.out.cell (p := ⟨b, 2, none⟩) hbl).trans c2
  have HS := Lib.hid (fun (W : World) (hb : Below w.heap.size w W) => productOfSet_any b 0 3 c [x, y, z] W rfl (hdn3 hx hy hz).kids ((ints3 c0 c1 c2).kept hb hbl))
  have HV := Lib.hid (show valK 2 0 [x, y, z] = prodL [x, y, z] from rfl)
  rw [HV.out]
  clear HV
  generalize prodL [x, y, z] = r at HS ⊢
  go_enter Try.func27, Try.ntmps27
  go_wp2_with (go_at_call 39; refine (HS.out _ (by first | exact HW.out | exact Below.refl _ _)).mono ?_; rintro e w' ⟨rfl, rfl⟩)
  refine bodyPost_ret (v := .agg #[.int .i64 2, .int .i64 0, .int .i64 r]) (by simp [results, Try.results27, go_sem]) rfl ?_
  exact ⟨rfl, (Below.refl w.heap.size w).alloc (Nat.le_refl _) _⟩
set_option maxHeartbeats 1000000 in
theorem clueOf_2_3_1 (b c : Nat) (x y z : Int) (w : World) (hbl : b < w.heap.size) (hx : 1 ≤ x ∧ x ≤ 12) (hy : 1 ≤ y ∧ y ≤ 12) (hz : 1 ≤ z ∧ z ≤ 12) (c0 : w.cell? ⟨b, 0, none⟩ = some (.int .i64 x)) (c1 : w.cell? ⟨b, 1, none⟩ = some (.int .i64 y)) (c2 : w.cell? ⟨b, 2, none⟩ = some (.int .i64 z)) :
    Calls Try.prog 27 #[.int .i64 2, .int .i64 1, .slice (some ⟨b, 0, none⟩) 3 c] w (Ret (.agg #[.int .i64 2, .int .i64 0, .int .i64 (valK 2 1 [x, y, z])]) w) := by
  have HW := Lib.hid ((Below.refl w.heap.size w).alloc (Nat.le_refl _) (.cells #[.int .i64 0, .int .i64 0, .int .i64 0] 27))
  have d0 : (w.alloc (.cells #[.int .i64 0, .int .i64 0, .int .i64 0] 27)).cell? ⟨b, 0, none⟩ = some (.int .i64 x) := (HW.out.cell (p := ⟨b, 0, none⟩) hbl).trans c0
  have d1 : (w.alloc (.cells #[.int .i64 0, .int .i64 0, .int .i64 0] 27)).cell? ⟨b, 1, none⟩ = some (.int .i64 y) := (HW.out.cell (p := ⟨b, 1, none⟩) hbl).trans c1
  have d2 : (w.alloc (.cells #[.int .i64 0, .int .i64 0, .int .i64 0] 27)).cell? ⟨b, 2, none⟩ = some (.int .i64 z) := (HW.out.cell (p := ⟨b, 2, none⟩) hbl).trans c2
  have HS := Lib.hid (fun (W : World) (hb : Below w.heap.size w W) => productOfSet_any b 0 3 c [x, y, z] W rfl (hdn3 hx hy hz).kids ((ints3 c0 c1 c2).kept hb hbl))
  have HV := Lib.hid (show valK 2 1 [x, y, z] = prodL [x, y, z] from rfl)
  rw [HV.out]
  clear HV
  generalize prodL [x, y, z] = r at HS ⊢
  go_enter Try.func27, Try.ntmps27
  go_wp2_with (go_at_call 39; refine (HS.out _ (by first | exact HW.out | exact Below.refl _ _)).mono ?_; rintro e w' ⟨rfl, rfl⟩)
  refine bodyPost_ret (v := .agg #[.int .i64 2, .int .i64 0, .int .i64 r]) (by simp [results, Try.results27, go_sem]) rfl ?_
  exact ⟨rfl, (Below.refl w.heap.size w).alloc (Nat.le_refl _) _⟩
set_option maxHeartbeats 1000000 in
theorem clueOf_2_3_2 (b c : Nat) (x y z : Int) (w : World) (hbl : b < w.heap.size) (hx : 1 ≤ x ∧ x ≤ 12) (hy : 1 ≤ y ∧ y ≤ 12) (hz : 1 ≤ z ∧ z ≤ 12) (c0 : w.cell? ⟨b, 0, none⟩ = some (.int .i64 x)) (c1 : w.cell? ⟨b, 1, none⟩ = some (.int .i64 y)) (c2 : w.cell? ⟨b, 2, none⟩ = some (.int .i64 z)) :
    Calls Try.prog 27 #[.int .i64 2, .int .i64 2, .slice (some ⟨b, 0, none⟩) 3 c] w (Ret (.agg #[.int .i64 2, .int .i64 0, .int .i64 (valK 2 2 [x, y, z])]) w) := by
  have HW := Lib.hid ((Below.refl w.heap.size w).alloc (Nat.le_refl _) (.cells #[.int .i64 0, .int .i64 0, .int .i64 0] 27))
  have d0 : (w.alloc (.cells #[.int .i64 0, .int .i64 0, .int .i64 0] 27)).cell? ⟨b, 0, none⟩ = some (.int .i64 x) := (HW.out.cell (p := ⟨b, 0, none⟩) hbl).trans c0
  have d1 : (w.alloc (.cells #[.int .i64 0, .int .i64 0, .int .i64 0] 27)).cell? ⟨b, 1, none⟩ = some (.int .i64 y) := (HW.out.cell (p := ⟨b, 1, none⟩) hbl).trans c1
  have d2 : (w.alloc (.cells #[.int .i64 0, .int .i64 0, .int .i64 0] 27)).cell? ⟨b, 2, none⟩ = some (.int .i64 z) := (HW.out.cell (p := ⟨b, 2, none⟩) hbl).trans c2
  have HS := Lib.hid (fun (W : World) (hb : Below w.heap.size w W) => productOfSet_any b 0 3 c [x, y, z] W rfl (hdn3 hx hy hz).kids ((ints3 c0 c1 c2).kept hb hbl))
  have HV := Lib.hid (show valK 2 2 [x, y, z] = prodL [x, y, z] from rfl)
  rw [HV.out]
  clear HV
  generalize prodL [x, y, z] = r at HS ⊢
  go_enter Try.func27, Try.ntmps27
  go_wp2_with (go_at_call 39; refine (HS.out _ (by first | exact HW.out | exact Below.refl _ _)).mono ?_; rintro e w' ⟨rfl, rfl⟩)
  refine bodyPost_ret (v := .agg #[.int .i64 2, .int .i64 0, .int .i64 r]) (by simp [results, Try.results27, go_sem]) rfl ?_
  exact ⟨rfl, (Below.refl w.heap.size w).alloc (Nat.le_refl _) _⟩
set_option maxHeartbeats 1000000 in
theorem clueOf_3_2_0 (b c : Nat) (x y : Int) (w : World) (hbl : b < w.heap.size) (hx : 1 ≤ x ∧ x ≤ 12) (hy : 1 ≤ y ∧ y ≤ 12) (c0 : w.cell? ⟨b, 0, none⟩ = some (.int .i64 x)) (c1 : w.cell? ⟨b, 1, none⟩ = some (.int .i64 y)) :
    Calls Try.prog 27 #[.int .i64 3, .int .i64 0, .slice (some ⟨b, 0, none⟩) 2 c] w (Ret (.agg #[.int .i64 3, .int .i64 0, .int .i64 (valK 3 0 [x, y])]) w) := by
  have HW := Lib.hid ((Below.refl w.heap.size w).alloc (Nat.le_refl _) (.cells #[.int .i64 0, .int .i64 0, .int .i64 0] 27))
  have d0 : (w.alloc (.cells #[.int .i64 0, .int .i64 0, .int .i64 0] 27)).cell? ⟨b, 0, none⟩ = some (.int .i64 x) := (HW.out.cell (p := ⟨b, 0, none⟩) hbl).trans c0
  have d1 : (w.alloc (.cells #[.int .i64 0, .int .i64 0, .int .i64 0] 27)).cell? ⟨b, 1, none⟩ = some (.int .i64 y) := (HW.out.cell (p := ⟨b, 1, none⟩) hbl).trans c1
  have HV := Lib.hid (show valK 3 0 [x, y] = (if y < x then 1 else 0) by simp [valK, nxV])
  rw [HV.out]
  clear HV
  by_cases hq : y < x
  · rw [if_pos hq]
    have hqb : decide (y < x) = true := by simp [hq]
    go_enter Try.func27, Try.ntmps27
    go_wp2_with (go_at_call 40; refine (oneIf_t _).mono ?_; rintro e w' ⟨rfl, rfl⟩)
    refine bodyPost_ret (v := .agg #[.int .i64 3, .int .i64 0, .int .i64 1]) (by simp [results, Try.results27, go_sem]) rfl ?_
    exact ⟨rfl, (Below.refl w.heap.size w).alloc (Nat.le_refl _) _⟩
  · rw [if_neg hq]
    have hq2 : x ≤ y := by omega
    have hqb : decide (y < x) = false := by simp [hq2]
    go_enter Try.func27, Try.ntmps27
    go_wp2_with (go_at_call 40; refine (oneIf_f _).mono ?_; rintro e w' ⟨rfl, rfl⟩)
    refine bodyPost_ret (v := .agg #[.int .i64 3, .int .i64 0, .int .i64 0]) (by simp [results, Try.results27, go_sem]) rfl ?_
    exact ⟨rfl, (Below.refl w.heap.size w).alloc (Nat.le_refl _) _⟩
set_option maxHeartbeats 1000000 in
theorem clueOf_3_2_1 (b c : Nat) (x y : Int) (w : World) (hbl : b < w.heap.size) (hx : 1 ≤ x ∧ x ≤ 12) (hy : 1 ≤ y ∧ y ≤ 12) (c0 : w.cell? ⟨b, 0, none⟩ = some (.int .i64 x)) (c1 : w.cell? ⟨b, 1, none⟩ = some (.int .i64 y)) :
    Calls Try.prog 27 #[.int .i64 3, .int .i64 1, .slice (some ⟨b, 0, none⟩) 2 c] w (Ret (.agg #[.int .i64 3, .int .i64 1, .int .i64 (valK 3 1 [x, y])]) w) := by
  have HW := Lib.hid ((Below.refl w.heap.size w).alloc (Nat.le_refl _) (.cells #[.int .i64 0, .int .i64 0, .int .i64 0] 27))
  have d0 : (w.alloc (.cells #[.int .i64 0, .int .i64 0, .int .i64 0] 27)).cell? ⟨b, 0, none⟩ = some (.int .i64 x) := (HW.out.cell (p := ⟨b, 0, none⟩) hbl).trans c0
  have d1 : (w.alloc (.cells #[.int .i64 0, .int .i64 0, .int .i64 0] 27)).cell? ⟨b, 1, none⟩ = some (.int .i64 y) := (HW.out.cell (p := ⟨b, 1, none⟩) hbl).trans c1
  have HV := Lib.hid (show valK 3 1 [x, y] = (if x < y then 1 else 0) by simp [valK, nxV])
  rw [HV.out]
  clear HV
  by_cases hq : x < y
  · rw [if_pos hq]
    have hqb : decide (x < y) = true := by simp [hq]
    go_enter Try.func27, Try.ntmps27
    go_wp2_with (go_at_call 40; refine (oneIf_t _).mono ?_; rintro e w' ⟨rfl, rfl⟩)
    refine bodyPost_ret (v := .agg #[.int .i64 3, .int .i64 1, .int .i64 1]) (by simp [results, Try.results27, go_sem]) rfl ?_
    exact ⟨rfl, (Below.refl w.heap.size w).alloc (Nat.le_refl _) _⟩
  · rw [if_neg hq]
    have hq2 : y ≤ x := by omega
    have hqb : decide (x < y) = false := by simp [hq2]
    go_enter Try.func27, Try.ntmps27
    go_wp2_with (go_at_call 40; refine (oneIf_f _).mono ?_; rintro e w' ⟨rfl, rfl⟩)
    refine bodyPost_ret (v := .agg #[.int .i64 3, .int .i64 1, .int .i64 0]) (by simp [results, Try.results27, go_sem]) rfl ?_
    exact ⟨rfl, (Below.refl w.heap.size w).alloc (Nat.le_refl _) _⟩
set_option maxHeartbeats 1000000 in
theorem clueOf_3_3_0 (b c : Nat) (x y z : Int) (w : World) (hbl : b < w.heap.size) (hx : 1 ≤ x ∧ x ≤ 12) (hy : 1 ≤ y ∧ y ≤ 12) (hz : 1 ≤ z ∧ z ≤ 12) (c0 : w.cell? ⟨b, 0, none⟩ = some (.int .i64 x)) (c1 : w.cell? ⟨b, 1, none⟩ = some (.int .i64 y)) (c2 : w.cell? ⟨b, 2, none⟩ = some (.int .i64 z)) :
    Calls Try.prog 27 #[.int .i64 3, .int .i64 0, .slice (some ⟨b, 0, none⟩) 3 c] w (Ret (.agg #[.int .i64 3, .int .i64 0, .int .i64 (valK 3 0 [x, y, z])]) w) := by
  have HW := Lib.hid ((Below.refl w.heap.size w).alloc (Nat.le_refl _) (.cells #[.int .i64 0, .int .i64 0, .int .i64 0] 27))
  have d0 : (w.alloc (.cells #[.int .i64 0, .int .i64 0, .int .i64 0] 27)).cell? ⟨b, 0, none⟩ = some (.int .i64 x) := (HW.out.cell (p := ⟨b, 0, none⟩) hbl).trans c0
  have d1 : (w.alloc (.cells #[.int .i64 0, .int .i64 0, .int .i64 0] 27)).cell? ⟨b, 1, none⟩ = some (.int .i64 y) := (HW.out.cell (p := ⟨b, 1, none⟩) hbl).trans c1
  have d2 : (w.alloc (.cells #[.int .i64 0, .int .i64 0, .int .i64 0] 27)).cell? ⟨b, 2, none⟩ = some (.int .i64 z) := (HW.out.cell (p := ⟨b, 2, none⟩) hbl).trans c2
  have HV := Lib.hid (show valK 3 0 [x, y, z] = (if y < x then 1 else 0) by simp [valK, nxV])
  rw [HV.out]
  clear HV
  by_cases hq : y < x
  · rw [if_pos hq]
    have hqb : decide (y < x) = true := by simp [hq]
    go_enter Try.func27, Try.ntmps27
    go_wp2_with (go_at_call 40; refine (oneIf_t _).mono ?_; rintro e w' ⟨rfl, rfl⟩)
    refine bodyPost_ret (v := .agg #[.int .i64 3, .int .i64 0, .int .i64 1]) (by simp [results, Try.results27, go_sem]) rfl ?_
    exact ⟨rfl, (Below.refl w.heap.size w).alloc (Nat.le_refl _) _⟩
  · rw [if_neg hq]
    have hq2 : x ≤ y := by omega
    have hqb : decide (y < x) = false := by simp [hq2]
    go_enter Try.func27, Try.ntmps27
    go_wp2_with (go_at_call 40; refine (oneIf_f _).mono ?_; rintro e w' ⟨rfl, rfl⟩)
    refine bodyPost_ret (v := .agg #[.int .i64 3, .int .i64 0, .int .i64 0]) (by simp [results, Try.results27, go_sem]) rfl ?_
    exact ⟨rfl, (Below.refl w.heap.size w).alloc (Nat.le_refl _) _⟩
set_option maxHeartbeats 1000000 in
theorem clueOf_3_3_1 (b c : Nat) (x y z : Int) (w : World) (hbl : b < w.heap.size) (hx : 1 ≤ x ∧ x ≤ 12) (hy : 1 ≤ y ∧ y ≤ 12) (hz : 1 ≤ z ∧ z ≤ 12) (c0 : w.cell? ⟨b, 0, none⟩ = some (.int .i64 x)) (c1 : w.cell? ⟨b, 1, none⟩ = some (.int .i64 y)) (c2 : w.cell? ⟨b, 2, none⟩ = some (.int .i64 z)) :
    Calls Try.prog 27 #[.int .i64 3, .int .i64 1, .slice (some ⟨b, 0, none⟩) 3 c] w (Ret (.agg #[.int .i64 3, .int .i64 1, .int .i64 (valK 3 1 [x, y, z])]) w) := by
  have HW := Lib.hid ((Below.refl w.heap.size w).alloc (Nat.le_refl _) (.cells #[.int .i64 0, .int .i64 0, .int .i64 0] 27))
  have d0 : (w.alloc (.cells #[.int .i64 0, .int .i64 0, .int .i64 0] 27)).cell? ⟨b, 0, none⟩ = some (.int .i64 x) := (HW.out.cell (p := ⟨b, 0, none⟩) hbl).trans c0
  have d1 : (w.alloc (.cells #[.int .i64 0, .int .i64 0, .int .i64 0] 27)).cell? ⟨b, 1, none⟩ = some (.int .i64 y) := (HW.out.cell (p := ⟨b, 1, none⟩) hbl).trans c1
  have d2 : (w.alloc (.cells #[.int .i64 0, .int .i64 0, .int .i64 0] 27)).cell? ⟨b, 2, none⟩ = some (.int .i64 z) := (HW.out.cell (p := ⟨b, 2, none⟩) hbl).trans c2
  have HV := Lib.hid (show valK 3 1 [x, y, z] = (if z < y then 1 else 0) by simp [valK, nxV])
  rw [HV.out]
  clear HV
  by_cases hq : z < y
  · rw [if_pos hq]
    have hqb : decide (z < y) = true := by simp [hq]
    go_enter Try.func27, Try.ntmps27
    go_wp2_with (go_at_call 40; refine (oneIf_t _).mono ?_; rintro e w' ⟨rfl, rfl⟩)
    refine bodyPost_ret (v := .agg #[.int .i64 3, .int .i64 1, .int .i64 1]) (by simp [results, Try.results27, go_sem]) rfl ?_
    exact ⟨rfl, (Below.refl w.heap.size w).alloc (Nat.le_refl _) _⟩
  · rw [if_neg hq]
    have hq2 : y ≤ z := by omega
    have hqb : decide (z < y) = false := by simp [hq2]
    go_enter Try.func27, Try.ntmps27
    go_wp2_with (go_at_call 40; refine (oneIf_f _).mono ?_; rintro e w' ⟨rfl, rfl⟩)
    refine bodyPost_ret (v := .agg #[.int .i64 3, .int .i64 1, .int .i64 0]) (by simp [results, Try.results27, go_sem]) rfl ?_
    exact ⟨rfl, (Below.refl w.heap.size w).alloc (Nat.le_refl _) _⟩
set_option maxHeartbeats 1000000 in
theorem clueOf_3_3_2 (b c : Nat) (x y z : Int) (w : World) (hbl : b < w.heap.size) (hx : 1 ≤ x ∧ x ≤ 12) (hy : 1 ≤ y ∧ y ≤ 12) (hz : 1 ≤ z ∧ z ≤ 12) (c0 : w.cell? ⟨b, 0, none⟩ = some (.int .i64 x)) (c1 : w.cell? ⟨b, 1, none⟩ = some (.int .i64 y)) (c2 : w.cell? ⟨b, 2, none⟩ = some (.int .i64 z)) :
    Calls Try.prog 27 #[.int .i64 3, .int .i64 2, .slice (some ⟨b, 0, none⟩) 3 c] w (Ret (.agg #[.int .i64 3, .int .i64 2, .int .i64 (valK 3 2 [x, y, z])]) w) := by
  have HW := Lib.hid ((Below.refl w.heap.size w).alloc (Nat.le_refl _) (.cells #[.int .i64 0, .int .i64 0, .int .i64 0] 27))
  have d0 : (w.alloc (.cells #[.int .i64 0, .int .i64 0, .int .i64 0] 27)).cell? ⟨b, 0, none⟩ = some (.int .i64 x) := (HW.out.cell (p := ⟨b, 0, none⟩) hbl).trans c0
  have d1 : (w.alloc (.cells #[.int .i64 0, .int .i64 0, .int .i64 0] 27)).cell? ⟨b, 1, none⟩ = some (.int .i64 y) := (HW.out.cell (p := ⟨b, 1, none⟩) hbl).trans c1
  have d2 : (w.alloc (.cells #[.int .i64 0, .int .i64 0, .int .i64 0] 27)).cell? ⟨b, 2, none⟩ = some (.int .i64 z) := (HW.out.cell (p := ⟨b, 2, none⟩) hbl).trans c2
  have HV := Lib.hid (show valK 3 2 [x, y, z] = (if x < z then 1 else 0) by simp [valK, nxV])
  rw [HV.out]
  clear HV
  by_cases hq : x < z
  · rw [if_pos hq]
    have hqb : decide (x < z) = true := by simp [hq]
    go_enter Try.func27, Try.ntmps27
    go_wp2_with (go_at_call 40; refine (oneIf_t _).mono ?_; rintro e w' ⟨rfl, rfl⟩)
    refine bodyPost_ret (v := .agg #[.int .i64 3, .int .i64 2, .int .i64 1]) (by simp [results, Try.results27, go_sem]) rfl ?_
    exact ⟨rfl, (Below.refl w.heap.size w).alloc (Nat.le_refl _) _⟩
  · rw [if_neg hq]
    have hq2 : z ≤ x := by omega
    have hqb : decide (x < z) = false := by simp [hq2]
    go_enter Try.func27, Try.ntmps27
    go_wp2_with (go_at_call 40; refine (oneIf_f _).mono ?_; rintro e w' ⟨rfl, rfl⟩)
    refine bodyPost_ret (v := .agg #[.int .i64 3, .int .i64 2, .int .i64 0]) (by simp [results, Try.results27, go_sem]) rfl ?_
    exact ⟨rfl, (Below.refl w.heap.size w).alloc (Nat.le_refl _) _⟩
set_option maxHeartbeats 1000000 in
theorem clueOf_4_2_0 (b c : Nat) (x y : Int) (w : World) (hbl : b < w.heap.size) (hx : 1 ≤ x ∧ x ≤ 12) (hy : 1 ≤ y ∧ y ≤ 12) (c0 : w.cell? ⟨b, 0, none⟩ = some (.int .i64 x)) (c1 : w.cell? ⟨b, 1, none⟩ = some (.int .i64 y)) :
    Calls Try.prog 27 #[.int .i64 4, .int .i64 0, .slice (some ⟨b, 0, none⟩) 2 c] w (Ret (.agg #[.int .i64 4, .int .i64 0, .int .i64 (valK 4 0 [x, y])]) w) := by
  have HW := Lib.hid ((Below.refl w.heap.size w).alloc (Nat.le_refl _) (.cells #[.int .i64 0, .int .i64 0, .int .i64 0] 27))
  have d0 : (w.alloc (.cells #[.int .i64 0, .int .i64 0, .int .i64 0] 27)).cell? ⟨b, 0, none⟩ = some (.int .i64 x) := (HW.out.cell (p := ⟨b, 0, none⟩) hbl).trans c0
  have d1 : (w.alloc (.cells #[.int .i64 0, .int .i64 0, .int .i64 0] 27)).cell? ⟨b, 1, none⟩ = some (.int .i64 y) := (HW.out.cell (p := ⟨b, 1, none⟩) hbl).trans c1
  have HS := Lib.hid (fun (W : World) (hb : Below w.heap.size w W) => countPrimes_any b 2 c [x, y] W rfl (hdn2 hx hy).kids (Nat.lt_of_lt_of_le hbl hb.size) ((ints2 c0 c1).kept hb hbl))
  have HV := Lib.hid (show valK 4 0 [x, y] = cntP [x, y] from rfl)
  rw [HV.out]
  clear HV
  generalize cntP [x, y] = r at HS ⊢
  go_enter Try.func27, Try.ntmps27
  go_wp2_with (go_at_call 36; refine (HS.out _ (by first | exact HW.out | exact Below.refl _ _)).mono ?_; rintro e w' ⟨rfl, hcall⟩; have e0 := below_cell2 (a := w.heap.size) (b := 0) (x := .int .i64 0) hcall (by simp [go_sem]); have e1 := below_cell2 (a := w.heap.size) (b := 1) (x := .int .i64 0) hcall (by simp [go_sem]); have e2 := below_cell2 (a := w.heap.size) (b := 2) (x := .int .i64 0) hcall (by simp [go_sem]); have f0 := below_frz (g := w.heap.size) (o := 0) (f := false) hcall (by simp) (by simp [go_sem]); have f1 := below_frz (g := w.heap.size) (o := 1) (f := false) hcall (by simp) (by simp [go_sem]); have f2 := below_frz (g := w.heap.size) (o := 2) (f := false) hcall (by simp) (by simp [go_sem]))
  obtain ⟨s0, s1, s2⟩ := zero3 w' w.heap.size e0 e1 e2
  refine bodyPost_ret (v := .agg #[.int .i64 4, .int .i64 0, .int .i64 r]) (by simp [results, Try.results27, go_sem, s0, s1, s2]) rfl ?_
  exact ⟨rfl, (((HW.out.trans (hcall.mono HW.out.size)).setCell (p := ⟨w.heap.size, 0, none⟩) (Nat.le_refl _) _).setCell (p := ⟨w.heap.size, 1, none⟩) (Nat.le_refl _) _).setCell (p := ⟨w.heap.size, 2, none⟩) (Nat.le_refl _) _⟩
set_option maxHeartbeats 1000000 in
theorem clueOf_4_2_1 (b c : Nat) (x y : Int) (w : World) (hbl : b < w.heap.size) (hx : 1 ≤ x ∧ x ≤ 12) (hy : 1 ≤ y ∧ y ≤ 12) (c0 : w.cell? ⟨b, 0, none⟩ = some (.int .i64 x)) (c1 : w.cell? ⟨b, 1, none⟩ = some (.int .i64 y)) :
    Calls Try.prog 27 #[.int .i64 4, .int .i64 1, .slice (some ⟨b, 0, none⟩) 2 c] w (Ret (.agg #[.int .i64 4, .int .i64 0, .int .i64 (valK 4 1 [x, y])]) w) := by
  have HW := Lib.hid ((Below.refl w.heap.size w).alloc (Nat.le_refl _) (.cells #[.int .i64 0, .int .i64 0, .int .i64 0] 27))
  have d0 : (w.alloc (.cells #[.int .i64 0, .int .i64 0, .int .i64 0] 27)).cell? ⟨b, 0, none⟩ = some (.int .i64 x) := (HW.out.cell (p := ⟨b, 0, none⟩) hbl).trans c0
  have d1 : (w.alloc (.cells #[.int .i64 0, .int .i64 0, .int .i64 0] 27)).cell? ⟨b, 1, none⟩ = some (.int .i64 y) := (HW.out.cell (p := ⟨b, 1, none⟩) hbl).trans c1
  have HS := Lib.hid (fun (W : World) (hb : Below w.heap.size w W) => countPrimes_any b 2 c [x, y] W rfl (hdn2 hx hy).kids (Nat.lt_of_lt_of_le hbl hb.size) ((ints2 c0 c1).kept hb hbl))
  have HV := Lib.hid (show valK 4 1 [x, y] = cntP [x, y] from rfl)
  rw [HV.out]
  clear HV
  generalize cntP [x, y] = r at HS ⊢
  go_enter Try.func27, Try.ntmps27
  go_wp2_with (go_at_call 36; refine (HS.out _ (by first | exact HW.out | exact Below.refl _ _)).mono ?_; rintro e w' ⟨rfl, hcall⟩; have e0 := below_cell2 (a := w.heap.size) (b := 0) (x := .int .i64 0) hcall (by simp [go_sem]); have e1 := below_cell2 (a := w.heap.size) (b := 1) (x := .int .i64 0) hcall (by simp [go_sem]); have e2 := below_cell2 (a := w.heap.size) (b := 2) (x := .int .i64 0) hcall (by simp [go_sem]); have f0 := below_frz (g := w.heap.size) (o := 0) (f := false) hcall (by simp) (by simp [go_sem]); have f1 := below_frz (g := w.heap.size) (o := 1) (f := false) hcall (by simp) (by simp [go_sem]); have f2 := below_frz (g := w.heap.size) (o := 2) (f := false) hcall (by simp) (by simp [go_sem]))
  obtain ⟨s0, s1, s2⟩ := zero3 w' w.heap.size e0 e1 e2
  refine bodyPost_ret (v := .agg #[.int .i64 4, .int .i64 0, .int .i64 r]) (by simp [results, Try.results27, go_sem, s0, s1, s2]) rfl ?_
  exact ⟨rfl, (((HW.out.trans (hcall.mono HW.out.size)).setCell (p := ⟨w.heap.size, 0, none⟩) (Nat.le_refl _) _).setCell (p := ⟨w.heap.size, 1, none⟩) (Nat.le_refl _) _).setCell (p := ⟨w.heap.size, 2, none⟩) (Nat.le_refl _) _⟩
set_option maxHeartbeats 1000000 in
theorem clueOf_4_3_0 (b c : Nat) (x y z : Int) (w : World) (hbl : b < w.heap.size) (hx : 1 ≤ x ∧ x ≤ 12) (hy : 1 ≤ y ∧ y ≤ 12) (hz : 1 ≤ z ∧ z ≤ 12) (c0 : w.cell? ⟨b, 0, none⟩ = some (.int .i64 x)) (c1 : w.cell? ⟨b, 1, none⟩ = some (.int .i64 y)) (c2 : w.cell? ⟨b, 2, none⟩ = some (.int .i64 z)) :
    Calls Try.prog 27 #[.int .i64 4, .int .i64 0, .slice (some ⟨b, 0, none⟩) 3 c] w (Ret (.agg #[.int .i64 4, .int .i64 0, .int .i64 (valK 4 0 [x, y, z])]) w) := by
  have HW := Lib.hid ((Below.refl w.heap.size w).alloc (Nat.le_refl _) (.cells #[.int .i64 0, .int .i64 0, .int .i64 0] 27))
  have d0 : (w.alloc (.cells #[.int .i64 0, .int .i64 0, .int .i64 0] 27)).cell? ⟨b, 0, none⟩ = some (.int .i64 x) := (HW.out.cell (p := ⟨b, 0, none⟩) hbl).trans c0
  have d1 : (w.alloc (.cells #[.int .i64 0, .int .i64 0, .int .i64 0] 27)).cell? ⟨b, 1, none⟩ = some (.int .i64 y) := (HW.out.cell (p := ⟨b, 1, none⟩) hbl).trans c1
  have d2 : (w.alloc (.cells #[.int .i64 0, .int .i64 0, .int .i64 0] 27)).cell? ⟨b, 2, none⟩ = some (.int .i64 z) := (HW.out.cell (p := ⟨b, 2, none⟩) hbl).trans c2
  have HS := Lib.hid (fun (W : World) (hb : Below w.heap.size w W) => countPrimes_any b 3 c [x, y, z] W rfl (hdn3 hx hy hz).kids (Nat.lt_of_lt_of_le hbl hb.size) ((ints3 c0 c1 c2).kept hb hbl))
  have HV := Lib.hid (show valK 4 0 [x, y, z] = cntP [x, y, z] from rfl)
  rw [HV.out]
  clear HV
  generalize cntP [x, y, z] = r at HS ⊢
  go_enter Try.func27, Try.ntmps27
  go_wp2_with (go_at_call 36; refine (HS.out _ (by first | exact HW.out | exact Below.refl _ _)).mono ?_; rintro e w' ⟨rfl, hcall⟩; have e0 := below_cell2 (a := w.heap.size) (b := 0) (x := .int .i64 0) hcall (by simp [go_sem]); have e1 := below_cell2 (a := w.heap.size) (b := 1) (x := .int .i64 0) hcall (by simp [go_sem]); have e2 := below_cell2 (a := w.heap.size) (b := 2) (x := .int .i64 0) hcall (by simp [go_sem]); have f0 := below_frz (g := w.heap.size) (o := 0) (f := false) hcall (by simp) (by simp [go_sem]); have f1 := below_frz (g := w.heap.size) (o := 1) (f := false) hcall (by simp) (by simp [go_sem]); have f2 := below_frz (g := w.heap.size) (o := 2) (f := false) hcall (by simp) (by simp [go_sem]))
  obtain ⟨s0, s1, s2⟩ := zero3 w' w.heap.size e0 e1 e2
  refine bodyPost_ret (v := .agg #[.int .i64 4, .int .i64 0, .int .i64 r]) (by simp [results, Try.results27, go_sem, s0, s1, s2]) rfl ?_
  exact ⟨rfl, (((HW.out.trans (hcall.mono HW.out.size)).setCell (p := ⟨w.heap.size, 0, none⟩) (Nat.le_refl _) _).setCell (p := ⟨w.heap.size, 1, none⟩) (Nat.le_refl _) _).setCell (p := ⟨w.heap.size, 2, none⟩) (Nat.le_refl _) _⟩
set_option maxHeartbeats 1000000 in
theorem clueOf_4_3_1 (b c : Nat) (x y z : Int) (w : World) (hbl : b < w.heap.size) (hx : 1 ≤ x ∧ x ≤ 12) (hy : 1 ≤ y ∧ y ≤ 12) (hz : 1 ≤ z ∧ z ≤ 12) (c0 : w.cell? ⟨b, 0, none⟩ = some (.int .i64 x)) (c1 : w.cell? ⟨b, 1, none⟩ = some (.int .i64 y)) (c2 : w.cell? ⟨b, 2, none⟩ = some (.int .i64 z)) :
    Calls Try.prog 27 #[.int .i64 4, .int .i64 1, .slice (some ⟨b, 0, none⟩) 3 c] w (Ret (.agg #[.int .i64 4, .int .i64 0, .int .i64 (valK 4 1 [x, y, z])]) w) := by
  have HW := Lib.hid ((Below.refl w.heap.size w).alloc (Nat.le_refl _) (.cells #[.int .i64 0, .int .i64 0, .int .i64 0] 27))
  have d0 : (w.alloc (.cells #[.int .i64 0, .int .i64 0, .int .i64 0] 27)).cell? ⟨b, 0, none⟩ = some (.int .i64 x) := (HW.out.cell (p := ⟨b, 0, none⟩) hbl).trans c0
  have d1 : (w.alloc (.cells #[.int .i64 0, .int .i64 0, .int .i64 0] 27)).cell? ⟨b, 1, none⟩ = some (.int .i64 y) := (HW.out.cell (p := ⟨b, 1, none⟩) hbl).trans c1
  have d2 : (w.alloc (.cells #[.int .i64 0, .int .i64 0, .int .i64 0] 27)).cell? ⟨b, 2, none⟩ = some (.int .i64 z) := (HW.out.cell (p := ⟨b, 2, none⟩) hbl).trans c2
  have HS := Lib.hid (fun (W : World) (hb : Below w.heap.size w W) => countPrimes_any b 3 c [x, y, z] W rfl (hdn3 hx hy hz).kids (Nat.lt_of_lt_of_le hbl hb.size) ((ints3 c0 c1 c2).kept hb hbl))
  have HV := Lib.hid (show valK 4 1 [x, y, z] = cntP [x, y, z] from rfl)
  rw [HV.out]
  clear HV
  generalize cntP [x, y, z] = r at HS ⊢
  go_enter Try.func27, Try.ntmps27
  go_wp2_with (go_at_call 36; refine (HS.out _ (by first | exact HW.out | exact Below.refl _ _)).mono ?_; rintro e w' ⟨rfl, hcall⟩; have e0 := below_cell2 (a := w.heap.size) (b := 0) (x := .int .i64 0) hcall (by simp [go_sem]); have e1 := below_cell2 (a := w.heap.size) (b := 1) (x := .int .i64 0) hcall (by simp [go_sem]); have e2 := below_cell2 (a := w.heap.size) (b := 2) (x := .int .i64 0) hcall (by simp [go_sem]); have f0 := below_frz (g := w.heap.size) (o := 0) (f := false) hcall (by simp) (by simp [go_sem]); have f1 := below_frz (g := w.heap.size) (o := 1) (f := false) hcall (by simp) (by simp [go_sem]); have f2 := below_frz (g := w.heap.size) (o := 2) (f := false) hcall (by simp) (by simp [go_sem]))
  obtain ⟨s0, s1, s2⟩ := zero3 w' w.heap.size e0 e1 e2
  refine bodyPost_ret (v := .agg #[.int .i64 4, .int .i64 0, .int .i64 r]) (by simp [results, Try.results27, go_sem, s0, s1, s2]) rfl ?_
  exact ⟨rfl, (((HW.out.trans (hcall.mono HW.out.size)).setCell (p := ⟨w.heap.size, 0, none⟩) (Nat.le_refl _) _).setCell (p := ⟨w.heap.size, 1, none⟩) (Nat.le_refl _) _).setCell (p := ⟨w.heap.size, 2, none⟩) (Nat.le_refl _) _⟩
set_option maxHeartbeats 1000000 in
theorem clueOf_4_3_2 (b c : Nat) (x y z : Int) (w : World) (hbl : b < w.heap.size) (hx : 1 ≤ x ∧ x ≤ 12) (hy : 1 ≤ y ∧ y ≤ 12) (hz : 1 ≤ z ∧ z ≤ 12) (c0 : w.cell? ⟨b, 0, none⟩ = some (.int .i64 x)) (c1 : w.cell? ⟨b, 1, none⟩ = some (.int .i64 y)) (c2 : w.cell? ⟨b, 2, none⟩ = some (.int .i64 z)) :
    Calls Try.prog 27 #[.int .i64 4, .int .i64 2, .slice (some ⟨b, 0, none⟩) 3 c] w (Ret (.agg #[.int .i64 4, .int .i64 0, .int .i64 (valK 4 2 [x, y, z])]) w) := by
  have HW := Lib.hid ((Below.refl w.heap.size w).alloc (Nat.le_refl _) (.cells #[.int .i64 0, .int .i64 0, .int .i64 0] 27))
  have d0 : (w.alloc (.cells #[.int .i64 0, .int .i64 0, .int .i64 0] 27)).cell? ⟨b, 0, none⟩ = some (.int .i64 x) := (HW.out.cell (p := ⟨b, 0, none⟩) hbl).trans c0
  have d1 : (w.alloc (.cells #[.int .i64 0, .int .i64 0, .int .i64 0] 27)).cell? ⟨b, 1, none⟩ = some (.int .i64 y) := (HW.out.cell (p := ⟨b, 1, none⟩) hbl).trans c1
  have d2 : (w.alloc (.cells #[.int .i64 0, .int .i64 0, .int .i64 0] 27)).cell? ⟨b, 2, none⟩ = some (.int .i64 z) := (HW.out.cell (p := ⟨b, 2, none⟩) hbl).trans c2
  have HS := Lib.hid (fun (W : World) (hb : Below w.heap.size w W) => countPrimes_any b 3 c [x, y, z] W rfl (hdn3 hx hy hz).kids (Nat.lt_of_lt_of_le hbl hb.size) ((ints3 c0 c1 c2).kept hb hbl))
  have HV := Lib.hid (show valK 4 2 [x, y, z] = cntP [x, y, z] from rfl)
  rw [HV.out]
  clear HV
  generalize cntP [x, y, z] = r at HS ⊢
  go_enter Try.func27, Try.ntmps27
  go_wp2_with (go_at_call 36; refine (HS.out _ (by first | exact HW.out | exact Below.refl _ _)).mono ?_; rintro e w' ⟨rfl, hcall⟩; have e0 := below_cell2 (a := w.heap.size) (b := 0) (x := .int .i64 0) hcall (by simp [go_sem]); have e1 := below_cell2 (a := w.heap.size) (b := 1) (x := .int .i64 0) hcall (by simp [go_sem]); have e2 := below_cell2 (a := w.heap.size) (b := 2) (x := .int .i64 0) hcall (by simp [go_sem]); have f0 := below_frz (g := w.heap.size) (o := 0) (f := false) hcall (by simp) (by simp [go_sem]); have f1 := below_frz (g := w.heap.size) (o := 1) (f := false) hcall (by simp) (by simp [go_sem]); have f2 := below_frz (g := w.heap.size) (o := 2) (f := false) hcall (by simp) (by simp [go_sem]))
  obtain ⟨s0, s1, s2⟩ := zero3 w' w.heap.size e0 e1 e2
  refine bodyPost_ret (v := .agg #[.int .i64 4, .int .i64 0, .int .i64 r]) (by simp [results, Try.results27, go_sem, s0, s1, s2]) rfl ?_
  exact ⟨rfl, (((HW.out.trans (hcall.mono HW.out.size)).setCell (p := ⟨w.heap.size, 0, none⟩) (Nat.le_refl _) _).setCell (p := ⟨w.heap.size, 1, none⟩) (Nat.le_refl _) _).setCell (p := ⟨w.heap.size, 2, none⟩) (Nat.le_refl _) _⟩
set_option maxHeartbeats 1000000 in
theorem clueOf_5_2_0 (b c : Nat) (x y : Int) (w : World) (hbl : b < w.heap.size) (hx : 1 ≤ x ∧ x ≤ 12) (hy : 1 ≤ y ∧ y ≤ 12) (c0 : w.cell? ⟨b, 0, none⟩ = some (.int .i64 x)) (c1 : w.cell? ⟨b, 1, none⟩ = some (.int .i64 y)) :
    Calls Try.prog 27 #[.int .i64 5, .int .i64 0, .slice (some ⟨b, 0, none⟩) 2 c] w (Ret (.agg #[.int .i64 5, .int .i64 0, .int .i64 (valK 5 0 [x, y])]) w) := by
  have HW := Lib.hid ((Below.refl w.heap.size w).alloc (Nat.le_refl _) (.cells #[.int .i64 0, .int .i64 0, .int .i64 0] 27))
  have d0 : (w.alloc (.cells #[.int .i64 0, .int .i64 0, .int .i64 0] 27)).cell? ⟨b, 0, none⟩ = some (.int .i64 x) := (HW.out.cell (p := ⟨b, 0, none⟩) hbl).trans c0
  have d1 : (w.alloc (.cells #[.int .i64 0, .int .i64 0, .int .i64 0] 27)).cell? ⟨b, 1, none⟩ = some (.int .i64 y) := (HW.out.cell (p := ⟨b, 1, none⟩) hbl).trans c1
  have HV := Lib.hid (show valK 5 0 [x, y] = (if x % y = 0 then 1 else 0) by simp [valK, nxV])
  rw [HV.out]
  clear HV
  have t1 : x.tmod y = x % y := Int.tmod_eq_emod_of_nonneg (by omega)
  have t2 : ¬ y = 0 := by omega
  have t3 : (y == 0) = false := by rw [beq_eq_false_iff_ne]; omega
  have t4 : 0 ≤ x % y ∧ x % y < y := ⟨Int.emod_nonneg _ t2, Int.emod_lt_of_pos _ (by omega)⟩
  have t5 : IntKind.i64.wrap (x % y) = x % y := IntWalk.i64_in _ (by omega)
  by_cases hq : x % y = 0
  · rw [if_pos hq]
    have hqb : (x % y == 0) = true := by simp [hq]
    go_enter Try.func27, Try.ntmps27
    go_wp2_with (go_at_call 40; refine (oneIf_t _).mono ?_; rintro e w' ⟨rfl, rfl⟩)
    refine bodyPost_ret (v := .agg #[.int .i64 5, .int .i64 0, .int .i64 1]) (by simp [results, Try.results27, go_sem]) rfl ?_
    exact ⟨rfl, (Below.refl w.heap.size w).alloc (Nat.le_refl _) _⟩
  · rw [if_neg hq]
    have hqb : (x % y == 0) = false := by simp [hq]
    go_enter Try.func27, Try.ntmps27
    go_wp2_with (go_at_call 40; refine (oneIf_f _).mono ?_; rintro e w' ⟨rfl, rfl⟩)
    refine bodyPost_ret (v := .agg #[.int .i64 5, .int .i64 0, .int .i64 0]) (by simp [results, Try.results27, go_sem]) rfl ?_
    exact ⟨rfl, (Below.refl w.heap.size w).alloc (Nat.le_refl _) _⟩
set_option maxHeartbeats 1000000 in
theorem clueOf_5_2_1 (b c : Nat) (x y : Int) (w : World) (hbl : b < w.heap.size) (hx : 1 ≤ x ∧ x ≤ 12) (hy : 1 ≤ y ∧ y ≤ 12) (c0 : w.cell? ⟨b, 0, none⟩ = some (.int .i64 x)) (c1 : w.cell? ⟨b, 1, none⟩ = some (.int .i64 y)) :
    Calls Try.prog 27 #[.int .i64 5, .int .i64 1, .slice (some ⟨b, 0, none⟩) 2 c] w (Ret (.agg #[.int .i64 5, .int .i64 1, .int .i64 (valK 5 1 [x, y])]) w) := by
  have HW := Lib.hid ((Below.refl w.heap.size w).alloc (Nat.le_refl _) (.cells #[.int .i64 0, .int .i64 0, .int .i64 0] 27))
  have d0 : (w.alloc (.cells #[.int .i64 0, .int .i64 0, .int .i64 0] 27)).cell? ⟨b, 0, none⟩ = some (.int .i64 x) := (HW.out.cell (p := ⟨b, 0, none⟩) hbl).trans c0
  have d1 : (w.alloc (.cells #[.int .i64 0, .int .i64 0, .int .i64 0] 27)).cell? ⟨b, 1, none⟩ = some (.int .i64 y) := (HW.out.cell (p := ⟨b, 1, none⟩) hbl).trans c1
  have HV := Lib.hid (show valK 5 1 [x, y] = (if y % x = 0 then 1 else 0) by simp [valK, nxV])
  rw [HV.out]
  clear HV
  have t1 : y.tmod x = y % x := Int.tmod_eq_emod_of_nonneg (by omega)
  have t2 : ¬ x = 0 := by omega
  have t3 : (x == 0) = false := by rw [beq_eq_false_iff_ne]; omega
  have t4 : 0 ≤ y % x ∧ y % x < x := ⟨Int.emod_nonneg _ t2, Int.emod_lt_of_pos _ (by omega)⟩
  have t5 : IntKind.i64.wrap (y % x) = y % x := IntWalk.i64_in _ (by omega)
  by_cases hq : y % x = 0
  · rw [if_pos hq]
    have hqb : (y % x == 0) = true := by simp [hq]
    go_enter Try.func27, Try.ntmps27
    go_wp2_with (go_at_call 40; refine (oneIf_t _).mono ?_; rintro e w' ⟨rfl, rfl⟩)
    refine bodyPost_ret (v := .agg #[.int .i64 5, .int .i64 1, .int .i64 1]) (by simp [results, Try.results27, go_sem]) rfl ?_
    exact ⟨rfl, (Below.refl w.heap.size w).alloc (Nat.le_refl _) _⟩
  · rw [if_neg hq]
    have hqb : (y % x == 0) = false := by simp [hq]
    go_enter Try.func27, Try.ntmps27
    go_wp2_with (go_at_call 40; refine (oneIf_f _).mono ?_; rintro e w' ⟨rfl, rfl⟩)
    refine bodyPost_ret (v := .agg #[.int .i64 5, .int .i64 1, .int .i64 0]) (by simp [results, Try.results27, go_sem]) rfl ?_
    exact ⟨rfl, (Below.refl w.heap.size w).alloc (Nat.le_refl _) _⟩
set_option maxHeartbeats 1000000 in
theorem clueOf_5_3_0 (b c : Nat) (x y z : Int) (w : World) (hbl : b < w.heap.size) (hx : 1 ≤ x ∧ x ≤ 12) (hy : 1 ≤ y ∧ y ≤ 12) (hz : 1 ≤ z ∧ z ≤ 12) (c0 : w.cell? ⟨b, 0, none⟩ = some (.int .i64 x)) (c1 : w.cell? ⟨b, 1, none⟩ = some (.int .i64 y)) (c2 : w.cell? ⟨b, 2, none⟩ = some (.int .i64 z)) :
    Calls Try.prog 27 #[.int .i64 5, .int .i64 0, .slice (some ⟨b, 0, none⟩) 3 c] w (Ret (.agg #[.int .i64 5, .int .i64 0, .int .i64 (valK 5 0 [x, y, z])]) w) := by
  have HW := Lib.hid ((Below.refl w.heap.size w).alloc (Nat.le_refl _) (.cells #[.int .i64 0, .int .i64 0, .int .i64 0] 27))
  have d0 : (w.alloc (.cells #[.int .i64 0, .int .i64 0, .int .i64 0] 27)).cell? ⟨b, 0, none⟩ = some (.int .i64 x) := (HW.out.cell (p := ⟨b, 0, none⟩) hbl).trans c0
  have d1 : (w.alloc (.cells #[.int .i64 0, .int .i64 0, .int .i64 0] 27)).cell? ⟨b, 1, none⟩ = some (.int .i64 y) := (HW.out.cell (p := ⟨b, 1, none⟩) hbl).trans c1
  have d2 : (w.alloc (.cells #[.int .i64 0, .int .i64 0, .int .i64 0] 27)).cell? ⟨b, 2, none⟩ = some (.int .i64 z) := (HW.out.cell (p := ⟨b, 2, none⟩) hbl).trans c2
  have HV := Lib.hid (show valK 5 0 [x, y, z] = (if x % y = 0 then 1 else 0) by simp [valK, nxV])
  rw [HV.out]
  clear HV
  have t1 : x.tmod y = x % y := Int.tmod_eq_emod_of_nonneg (by omega)
  have t2 : ¬ y = 0 := by omega
  have t3 : (y == 0) = false := by rw [beq_eq_false_iff_ne]; omega
  have t4 : 0 ≤ x % y ∧ x % y < y := ⟨Int.emod_nonneg _ t2, Int.emod_lt_of_pos _ (by omega)⟩
  have t5 : IntKind.i64.wrap (x % y) = x % y := IntWalk.i64_in _ (by omega)
  by_cases hq : x % y = 0
  · rw [if_pos hq]
    have hqb : (x % y == 0) = true := by simp [hq]
    go_enter Try.func27, Try.ntmps27
    go_wp2_with (go_at_call 40; refine (oneIf_t _).mono ?_; rintro e w' ⟨rfl, rfl⟩)
    refine bodyPost_ret (v := .agg #[.int .i64 5, .int .i64 0, .int .i64 1]) (by simp [results, Try.results27, go_sem]) rfl ?_
    exact ⟨rfl, (Below.refl w.heap.size w).alloc (Nat.le_refl _) _⟩
  · rw [if_neg hq]
    have hqb : (x % y == 0) = false := by simp [hq]
    go_enter Try.func27, Try.ntmps27
    go_wp2_with (go_at_call 40; refine (oneIf_f _).mono ?_; rintro e w' ⟨rfl, rfl⟩)
    refine bodyPost_ret (v := .agg #[.int .i64 5, .int .i64 0, .int .i64 0]) (by simp [results, Try.results27, go_sem]) rfl ?_
    exact ⟨rfl, (Below.refl w.heap.size w).alloc (Nat.le_refl _) _⟩
set_option maxHeartbeats 1000000 in
theorem clueOf_5_3_1 (b c : Nat) (x y z : Int) (w : World) (hbl : b < w.heap.size) (hx : 1 ≤ x ∧ x ≤ 12) (hy : 1 ≤ y ∧ y ≤ 12) (hz : 1 ≤ z ∧ z ≤ 12) (c0 : w.cell? ⟨b, 0, none⟩ = some (.int .i64 x)) (c1 : w.cell? ⟨b, 1, none⟩ = some (.int .i64 y)) (c2 : w.cell? ⟨b, 2, none⟩ = some (.int .i64 z)) :
    Calls Try.prog 27 #[.int .i64 5, .int .i64 1, .slice (some ⟨b, 0, none⟩) 3 c] w (Ret (.agg #[.int .i64 5, .int .i64 1, .int .i64 (valK 5 1 [x, y, z])]) w) := by
  have HW := Lib.hid ((Below.refl w.heap.size w).alloc (Nat.le_refl _) (.cells #[.int .i64 0, .int .i64 0, .int .i64 0] 27))
  have d0 : (w.alloc (.cells #[.int .i64 0, .int .i64 0, .int .i64 0] 27)).cell? ⟨b, 0, none⟩ = some (.int .i64 x) := (HW.out.cell (p := ⟨b, 0, none⟩) hbl).trans c0
  have d1 : (w.alloc (.cells #[.int .i64 0, .int .i64 0, .int .i64 0] 27)).cell? ⟨b, 1, none⟩ = some (.int .i64 y) := (HW.out.cell (p := ⟨b, 1, none⟩) hbl).trans c1
  have d2 : (w.alloc (.cells #[.int .i64 0, .int .i64 0, .int .i64 0] 27)).cell? ⟨b, 2, none⟩ = some (.int .i64 z) := (HW.out.cell (p := ⟨b, 2, none⟩) hbl).trans c2
  have HV := Lib.hid (show valK 5 1 [x, y, z] = (if y % z = 0 then 1 else 0) by simp [valK, nxV])
  rw [HV.out]
  clear HV
  have t1 : y.tmod z = y % z := Int.tmod_eq_emod_of_nonneg (by omega)
  have t2 : ¬ z = 0 := by omega
  have t3 : (z == 0) = false := by rw [beq_eq_false_iff_ne]; omega
  have t4 : 0 ≤ y % z ∧ y % z < z := ⟨Int.emod_nonneg _ t2, Int.emod_lt_of_pos _ (by omega)⟩
  have t5 : IntKind.i64.wrap (y % z) = y % z := IntWalk.i64_in _ (by omega)
  by_cases hq : y % z = 0
  · rw [if_pos hq]
    have hqb : (y % z == 0) = true := by simp [hq]
    go_enter Try.func27, Try.ntmps27
    go_wp2_with (go_at_call 40; refine (oneIf_t _).mono ?_; rintro e w' ⟨rfl, rfl⟩)
    refine bodyPost_ret (v := .agg #[.int .i64 5, .int .i64 1, .int .i64 1]) (by simp [results, Try.results27, go_sem]) rfl ?_
    exact ⟨rfl, (Below.refl w.heap.size w).alloc (Nat.le_refl _) _⟩
  · rw [if_neg hq]
    have hqb : (y % z == 0) = false := by simp [hq]
    go_enter Try.func27, Try.ntmps27
    go_wp2_with (go_at_call 40; refine (oneIf_f _).mono ?_; rintro e w' ⟨rfl, rfl⟩)
    refine bodyPost_ret (v := .agg #[.int .i64 5, .int .i64 1, .int .i64 0]) (by simp [results, Try.results27, go_sem]) rfl ?_
    exact ⟨rfl, (Below.refl w.heap.size w).alloc (Nat.le_refl _) _⟩
set_option maxHeartbeats 1000000 in
theorem clueOf_5_3_2 (b c : Nat) (x y z : Int) (w : World) (hbl : b < w.heap.size) (hx : 1 ≤ x ∧ x ≤ 12) (hy : 1 ≤ y ∧ y ≤ 12) (hz : 1 ≤ z ∧ z ≤ 12) (c0 : w.cell? ⟨b, 0, none⟩ = some (.int .i64 x)) (c1 : w.cell? ⟨b, 1, none⟩ = some (.int .i64 y)) (c2 : w.cell? ⟨b, 2, none⟩ = some (.int .i64 z)) :
    Calls Try.prog 27 #[.int .i64 5, .int .i64 2, .slice (some ⟨b, 0, none⟩) 3 c] w (Ret (.agg #[.int .i64 5, .int .i64 2, .int .i64 (valK 5 2 [x, y, z])]) w) := by
  have HW := Lib.hid ((Below.refl w.heap.size w).alloc (Nat.le_refl _) (.cells #[.int .i64 0, .int .i64 0, .int .i64 0] 27))
  have d0 : (w.alloc (.cells #[.int .i64 0, .int .i64 0, .int .i64 0] 27)).cell? ⟨b, 0, none⟩ = some (.int .i64 x) := (HW.out.cell (p := ⟨b, 0, none⟩) hbl).trans c0
  have d1 : (w.alloc (.cells #[.int .i64 0, .int .i64 0, .int .i64 0] 27)).cell? ⟨b, 1, none⟩ = some (.int .i64 y) := (HW.out.cell (p := ⟨b, 1, none⟩) hbl).trans c1
  have d2 : (w.alloc (.cells #[.int .i64 0, .int .i64 0, .int .i64 0] 27)).cell? ⟨b, 2, none⟩ = some (.int .i64 z) := (HW.out.cell (p := ⟨b, 2, none⟩) hbl).trans c2
  have HV := Lib.hid (show valK 5 2 [x, y, z] = (if z % x = 0 then 1 else 0) by simp [valK, nxV])
  rw [HV.out]
  clear HV
  have t1 : z.tmod x = z % x := Int.tmod_eq_emod_of_nonneg (by omega)
  have t2 : ¬ x = 0 := by omega
  have t3 : (x == 0) = false := by rw [beq_eq_false_iff_ne]; omega
  have t4 : 0 ≤ z % x ∧ z % x < x := ⟨Int.emod_nonneg _ t2, Int.emod_lt_of_pos _ (by omega)⟩
  have t5 : IntKind.i64.wrap (z % x) = z % x := IntWalk.i64_in _ (by omega)
  by_cases hq : z % x = 0
  · rw [if_pos hq]
    have hqb : (z % x == 0) = true := by simp [hq]
    go_enter Try.func27, Try.ntmps27
    go_wp2_with (go_at_call 40; refine (oneIf_t _).mono ?_; rintro e w' ⟨rfl, rfl⟩)
    refine bodyPost_ret (v := .agg #[.int .i64 5, .int .i64 2, .int .i64 1]) (by simp [results, Try.results27, go_sem]) rfl ?_
    exact ⟨rfl, (Below.refl w.heap.size w).alloc (Nat.le_refl _) _⟩
  · rw [if_neg hq]
    have hqb : (z % x == 0) = false := by simp [hq]
    go_enter Try.func27, Try.ntmps27
    go_wp2_with (go_at_call 40; refine (oneIf_f _).mono ?_; rintro e w' ⟨rfl, rfl⟩)
    refine bodyPost_ret (v := .agg #[.int .i64 5, .int .i64 2, .int .i64 0]) (by simp [results, Try.results27, go_sem]) rfl ?_
    exact ⟨rfl, (Below.refl w.heap.size w).alloc (Nat.le_refl _) _⟩
set_option maxHeartbeats 1000000 in
theorem pzValue_0_2_0 (b c : Nat) (x y : Int) (w : World) (hbl : b < w.heap.size) (hx : 1 ≤ x ∧ x ≤ 12) (hy : 1 ≤ y ∧ y ≤ 12) (c0 : w.cell? ⟨b, 0, none⟩ = some (.int .i64 x)) (c1 : w.cell? ⟨b, 1, none⟩ = some (.int .i64 y)) :
    Calls Try.prog 34 #[.int .i64 0, .int .i64 0, .slice (some ⟨b, 0, none⟩) 2 c] w (Ret (.int .i64 (valK 0 0 [x, y])) w) := by
  have HW := Lib.hid ((Below.refl w.heap.size w).alloc (Nat.le_refl _) (.cells #[.int .i64 0, .int .i64 0, .int .i64 0] 27))
  have d0 : (w.alloc (.cells #[.int .i64 0, .int .i64 0, .int .i64 0] 27)).cell? ⟨b, 0, none⟩ = some (.int .i64 x) := (HW.out.cell (p := ⟨b, 0, none⟩) hbl).trans c0
  have d1 : (w.alloc (.cells #[.int .i64 0, .int .i64 0, .int .i64 0] 27)).cell? ⟨b, 1, none⟩ = some (.int .i64 y) := (HW.out.cell (p := ⟨b, 1, none⟩) hbl).trans c1
  have HS := Lib.hid (fun (W : World) (hb : Below w.heap.size w W) => agSum_kids b 0 2 c [x, y] W rfl (hdn2 hx hy).kids ((ints2 c0 c1).kept hb hbl))
  have HV := Lib.hid (show valK 0 0 [x, y] = sumL [x, y] from rfl)
  rw [HV.out]
  clear HV
  generalize sumL [x, y] = r at HS ⊢
  go_enter Try.func34, Try.ntmps34
  go_wp2_with (go_at_call 33; refine (HS.out _ (by first | exact HW.out | exact Below.refl _ _)).mono ?_; rintro e w' ⟨rfl, rfl⟩)
  go_ret
  exact ⟨rfl, by first | exact Below.refl _ _ | exact below_drewN (Below.refl _ _) _⟩
set_option maxHeartbeats 1000000 in
theorem pzValue_0_2_1 (b c : Nat) (x y : Int) (w : World) (hbl : b < w.heap.size) (hx : 1 ≤ x ∧ x ≤ 12) (hy : 1 ≤ y ∧ y ≤ 12) (c0 : w.cell? ⟨b, 0, none⟩ = some (.int .i64 x)) (c1 : w.cell? ⟨b, 1, none⟩ = some (.int .i64 y)) :
    Calls Try.prog 34 #[.int .i64 0, .int .i64 1, .slice (some ⟨b, 0, none⟩) 2 c] w (Ret (.int .i64 (valK 0 1 [x, y])) w) := by
  have HW := Lib.hid ((Below.refl w.heap.size w).alloc (Nat.le_refl _) (.cells #[.int .i64 0, .int .i64 0, .int .i64 0] 27))
  have d0 : (w.alloc (.cells #[.int .i64 0, .int .i64 0, .int .i64 0] 27)).cell? ⟨b, 0, none⟩ = some (.int .i64 x) := (HW.out.cell (p := ⟨b, 0, none⟩) hbl).trans c0
  have d1 : (w.alloc (.cells #[.int .i64 0, .int .i64 0, .int .i64 0] 27)).cell? ⟨b, 1, none⟩ = some (.int .i64 y) := (HW.out.cell (p := ⟨b, 1, none⟩) hbl).trans c1
  have HS := Lib.hid (fun (W : World) (hb : Below w.heap.size w W) => agSum_kids b 0 2 c [x, y] W rfl (hdn2 hx hy).kids ((ints2 c0 c1).kept hb hbl))
  have HV := Lib.hid (show valK 0 1 [x, y] = sumL [x, y] from rfl)
  rw [HV.out]
  clear HV
  generalize sumL [x, y] = r at HS ⊢
  go_enter Try.func34, Try.ntmps34
  go_wp2_with (go_at_call 33; refine (HS.out _ (by first | exact HW.out | exact Below.refl _ _)).mono ?_; rintro e w' ⟨rfl, rfl⟩)
  go_ret
  exact ⟨rfl, by first | exact Below.refl _ _ | exact below_drewN (Below.refl _ _) _⟩
set_option maxHeartbeats 1000000 in
theorem pzValue_0_3_0 (b c : Nat) (x y z : Int) (w : World) (hbl : b < w.heap.size) (hx : 1 ≤ x ∧ x ≤ 12) (hy : 1 ≤ y ∧ y ≤ 12) (hz : 1 ≤ z ∧ z ≤ 12) (c0 : w.cell? ⟨b, 0, none⟩ = some (.int .i64 x)) (c1 : w.cell? ⟨b, 1, none⟩ = some (.int .i64 y)) (c2 : w.cell? ⟨b, 2, none⟩ = some (.int .i64 z)) :
    Calls Try.prog 34 #[.int .i64 0, .int .i64 0, .slice (some ⟨b, 0, none⟩) 3 c] w (Ret (.int .i64 (valK 0 0 [x, y, z])) w) := by
  have HW := Lib.hid ((Below.refl w.heap.size w).alloc (Nat.le_refl _) (.cells #[.int .i64 0, .int .i64 0, .int .i64 0] 27))
  have d0 : (w.alloc (.cells #[.int .i64 0, .int .i64 0, .int .i64 0] 27)).cell? ⟨b, 0, none⟩ = some (.int .i64 x) := (HW.out.cell (p := ⟨b, 0, none⟩) hbl).trans c0
  have d1 : (w.alloc (.cells #[.int .i64 0, .int .i64 0, .int .i64 0] 27)).cell? ⟨b, 1, none⟩ = some (.int .i64 y) := (HW.out.cell (p := ⟨b, 1, none⟩) hbl).trans c1
  have d2 : (w.alloc (.cells #[.int .i64 0, .int .i64 0, .int .i64 0] 27)).cell? ⟨b, 2, none⟩ = some (.int .i64 z) := (HW.out.cell (p := ⟨b, 2, none⟩) hbl).trans c2
  have HS := Lib.hid (fun (W : World) (hb : Below w.heap.size w W) => agSum_kids b 0 3 c [x, y, z] W rfl (hdn3 hx hy hz).kids ((ints3 c0 c1 c2).kept hb hbl))
  have HV := Lib.hid (show valK 0 0 [x, y, z] = sumL [x, y, z] from rfl)
  rw [HV.out]
  clear HV
  generalize sumL [x, y, z] = r at HS ⊢
  go_enter Try.func34, Try.ntmps34
  go_wp2_with (go_at_call 33; refine (HS.out _ (by first | exact HW.out | exact Below.refl _ _)).mono ?_; rintro e w' ⟨rfl, rfl⟩)
  go_ret
  exact ⟨rfl, by first | exact Below.refl _ _ | exact below_drewN (Below.refl _ _) _⟩
set_option maxHeartbeats 1000000 in
theorem pzValue_0_3_1 (b c : Nat) (x y z : Int) (w : World) (hbl : b < w.heap.size) (hx : 1 ≤ x ∧ x ≤ 12) (hy : 1 ≤ y ∧ y ≤ 12) (hz : 1 ≤ z ∧ z ≤ 12) (c0 : w.cell? ⟨b, 0, none⟩ = some (.int .i64 x)) (c1 : w.cell? ⟨b, 1, none⟩ = some (.int .i64 y)) (c2 : w.cell? ⟨b, 2, none⟩ = some (.int .i64 z)) :
    Calls Try.prog 34 #[.int .i64 0, .int .i64 1, .slice (some ⟨b, 0, none⟩) 3 c] w (Ret (.int .i64 (valK 0 1 [x, y, z])) w) := by
  have HW := Lib.hid ((Below.refl w.heap.size w).alloc (Nat.le_refl _) (.cells #[.int .i64 0, .int .i64 0, .int .i64 0] 27))
  have d0 : (w.alloc (.cells #[.int .i64 0, .int .i64 0, .int .i64 0] 27)).cell? ⟨b, 0, none⟩ = some (.int .i64 x) := (HW.out.cell (p := ⟨b, 0, none⟩) hbl).trans c0
  have d1 : (w.alloc (.cells #[.int .i64 0, .int .i64 0, .int .i64 0] 27)).cell? ⟨b, 1, none⟩ = some (.int .i64 y) := (HW.out.cell (p := ⟨b, 1, none⟩) hbl).trans c1
  have d2 : (w.alloc (.cells #[.int .i64 0, .int .i64 0, .int .i64 0] 27)).cell? ⟨b, 2, none⟩ = some (.int .i64 z) := (HW.out.cell (p := ⟨b, 2, none⟩) hbl).trans c2
  have HS := Lib.hid (fun (W : World) (hb : Below w.heap.size w W) => agSum_kids b 0 3 c [x, y, z] W rfl (hdn3 hx hy hz).kids ((ints3 c0 c1 c2).kept hb hbl))
  have HV := Lib.hid (show valK 0 1 [x, y, z] = sumL [x, y, z] from rfl)
  rw [HV.out]
  clear HV
  generalize sumL [x, y, z] = r at HS ⊢
  go_enter Try.func34, Try.ntmps34
  go_wp2_with (go_at_call 33; refine (HS.out _ (by first | exact HW.out | exact Below.refl _ _)).mono ?_; rintro e w' ⟨rfl, rfl⟩)
  go_ret
  exact ⟨rfl, by first | exact Below.refl _ _ | exact below_drewN (Below.refl _ _) _⟩
set_option maxHeartbeats 1000000 in
theorem pzValue_0_3_2 (b c : Nat) (x y z : Int) (w : World) (hbl : b < w.heap.size) (hx : 1 ≤ x ∧ x ≤ 12) (hy : 1 ≤ y ∧ y ≤ 12) (hz : 1 ≤ z ∧ z ≤ 12) (c0 : w.cell? ⟨b, 0, none⟩ = some (.int .i64 x)) (c1 : w.cell? ⟨b, 1, none⟩ = some (.int .i64 y)) (c2 : w.cell? ⟨b, 2, none⟩ = some (.int .i64 z)) :
    Calls Try.prog 34 #[.int .i64 0, .int .i64 2, .slice (some ⟨b, 0, none⟩) 3 c] w (Ret (.int .i64 (valK 0 2 [x, y, z])) w) := by
  have HW := Lib.hid ((Below.refl w.heap.size w).alloc (Nat.le_refl _) (.cells #[.int .i64 0, .int .i64 0, .int .i64 0] 27))
  have d0 : (w.alloc (.cells #[.int .i64 0, .int .i64 0, .int .i64 0] 27)).cell? ⟨b, 0, none⟩ = some (.int .i64 x) := (HW.out.cell (p := ⟨b, 0, none⟩) hbl).trans c0
  have d1 : (w.alloc (.cells #[.int .i64 0, .int .i64 0, .int .i64 0] 27)).cell? ⟨b, 1, none⟩ = some (.int .i64 y) := (HW.out.cell (p := ⟨b, 1, none⟩) hbl).trans c1
  have d2 : (w.alloc (.cells #[.int .i64 0, .int .i64 0, .int .i64 0] 27)).cell? ⟨b, 2, none⟩ = some (.int .i64 z) := (HW.out.cell (p := ⟨b, 2, none⟩) hbl).trans c2
  have HS := Lib.hid (fun (W : World) (hb : Below w.heap.size w W) => agSum_kids b 0 3 c [x, y, z] W rfl (hdn3 hx hy hz).kids ((ints3 c0 c1 c2).kept hb hbl))
  have HV := Lib.hid (show valK 0 2 [x, y, z] = sumL [x, y, z] from rfl)
  rw [HV.out]
  clear HV
  generalize sumL [x, y, z] = r at HS ⊢
  go_enter Try.func34, Try.ntmps34
  go_wp2_with (go_at_call 33; refine (HS.out _ (by first | exact HW.out | exact Below.refl _ _)).mono ?_; rintro e w' ⟨rfl, rfl⟩)
  go_ret
  exact ⟨rfl, by first | exact Below.refl _ _ | exact below_drewN (Below.refl _ _) _⟩
set_option maxHeartbeats 1000000 in
theorem pzValue_1_2_0 (b c : Nat) (x y : Int) (w : World) (hbl : b < w.heap.size) (hx : 1 ≤ x ∧ x ≤ 12) (hy : 1 ≤ y ∧ y ≤ 12) (c0 : w.cell? ⟨b, 0, none⟩ = some (.int .i64 x)) (c1 : w.cell? ⟨b, 1, none⟩ = some (.int .i64 y)) :
    Calls Try.prog 34 #[.int .i64 1, .int .i64 0, .slice (some ⟨b, 0, none⟩) 2 c] w (Ret (.int .i64 (valK 1 0 [x, y])) w) := by
  have HW := Lib.hid ((Below.refl w.heap.size w).alloc (Nat.le_refl _) (.cells #[.int .i64 0, .int .i64 0, .int .i64 0] 27))
  have d0 : (w.alloc (.cells #[.int .i64 0, .int .i64 0, .int .i64 0] 27)).cell? ⟨b, 0, none⟩ = some (.int .i64 x) := (HW.out.cell (p := ⟨b, 0, none⟩) hbl).trans c0
  have d1 : (w.alloc (.cells #[.int .i64 0, .int .i64 0, .int .i64 0] 27)).cell? ⟨b, 1, none⟩ = some (.int .i64 y) := (HW.out.cell (p := ⟨b, 1, none⟩) hbl).trans c1
  have HV := Lib.hid (show valK 1 0 [x, y] = x from rfl)
  rw [HV.out]
  clear HV
  go_enter Try.func34, Try.ntmps34
  go_wp2_with fail
  go_ret
  exact ⟨rfl, by first | exact Below.refl _ _ | exact below_drewN (Below.refl _ _) _⟩
set_option maxHeartbeats 1000000 in
theorem pzValue_1_2_1 (b c : Nat) (x y : Int) (w : World) (hbl : b < w.heap.size) (hx : 1 ≤ x ∧ x ≤ 12) (hy : 1 ≤ y ∧ y ≤ 12) (c0 : w.cell? ⟨b, 0, none⟩ = some (.int .i64 x)) (c1 : w.cell? ⟨b, 1, none⟩ = some (.int .i64 y)) :
    Calls Try.prog 34 #[.int .i64 1, .int .i64 1, .slice (some ⟨b, 0, none⟩) 2 c] w (Ret (.int .i64 (valK 1 1 [x, y])) w) := by
  have HW := Lib.hid ((Below.refl w.heap.size w).alloc (Nat.le_refl _) (.cells #[.int .i64 0, .int .i64 0, .int .i64 0] 27))
  have d0 : (w.alloc (.cells #[.int .i64 0, .int .i64 0, .int .i64 0] 27)).cell? ⟨b, 0, none⟩ = some (.int .i64 x) := (HW.out.cell (p := ⟨b, 0, none⟩) hbl).trans c0
  have d1 : (w.alloc (.cells #[.int .i64 0, .int .i64 0, .int .i64 0] 27)).cell? ⟨b, 1, none⟩ = some (.int .i64 y) := (HW.out.cell (p := ⟨b, 1, none⟩) hbl).trans c1
  have HV := Lib.hid (show valK 1 1 [x, y] = y from rfl)
  rw [HV.out]
  clear HV
  go_enter Try.func34, Try.ntmps34
  go_wp2_with fail
  go_ret
  exact ⟨rfl, by first | exact Below.refl _ _ | exact below_drewN (Below.refl _ _) _⟩
set_option maxHeartbeats 1000000 in
theorem pzValue_1_3_0 (b c : Nat) (x y z : Int) (w : World) (hbl : b < w.heap.size) (hx : 1 ≤ x ∧ x ≤ 12) (hy : 1 ≤ y ∧ y ≤ 12) (hz : 1 ≤ z ∧ z ≤ 12) (c0 : w.cell? ⟨b, 0, none⟩ = some (.int .i64 x)) (c1 : w.cell? ⟨b, 1, none⟩ = some (.int .i64 y)) (c2 : w.cell? ⟨b, 2, none⟩ = some (.int .i64 z)) :
    Calls Try.prog 34 #[.int .i64 1, .int .i64 0, .slice (some ⟨b, 0, none⟩) 3 c] w (Ret (.int .i64 (valK 1 0 [x, y, z])) w) := by
  have HW := Lib.hid ((Below.refl w.heap.size w).alloc (Nat.le_refl _) (.cells #[.int .i64 0, .int .i64 0, .int .i64 0] 27))
  have d0 : (w.alloc (.cells #[.int .i64 0, .int .i64 0, .int .i64 0] 27)).cell? ⟨b, 0, none⟩ = some (.int .i64 x) := (HW.out.cell (p := ⟨b, 0, none⟩) hbl).trans c0
  have d1 : (w.alloc (.cells #[.int .i64 0, .int .i64 0, .int .i64 0] 27)).cell? ⟨b, 1, none⟩ = some (.int .i64 y) := (HW.out.cell (p := ⟨b, 1, none⟩) hbl).trans c1
  have d2 : (w.alloc (.cells #[.int .i64 0, .int .i64 0, .int .i64 0] 27)).cell? ⟨b, 2, none⟩ = some (.int .i64 z) := (HW.out.cell (p := ⟨b, 2, none⟩) hbl).trans c2
  have HV := Lib.hid (show valK 1 0 [x, y, z] = x from rfl)
  rw [HV.out]
  clear HV
  go_enter Try.func34, Try.ntmps34
  go_wp2_with fail
  go_ret
  exact ⟨rfl, by first | exact Below.refl _ _ | exact below_drewN (Below.refl _ _) _⟩
set_option maxHeartbeats 1000000 in
theorem pzValue_1_3_1 (b c : Nat) (x y z : Int) (w : World) (hbl : b < w.heap.size) (hx : 1 ≤ x ∧ x ≤ 12) (hy : 1 ≤ y ∧ y ≤ 12) (hz : 1 ≤ z ∧ z ≤ 12) (c0 : w.cell? ⟨b, 0, none⟩ = some (.int .i64 x)) (c1 : w.cell? ⟨b, 1, none⟩ = some (.int .i64 y)) (c2 : w.cell? ⟨b, 2, none⟩ = some (.int .i64 z)) :
    Calls Try.prog 34 #[.int .i64 1, .int .i64 1, .slice (some ⟨b, 0, none⟩) 3 c] w (Ret (.int .i64 (valK 1 1 [x, y, z])) w) := by
  have HW := Lib.hid ((Below.refl w.heap.size w).alloc (Nat.le_refl _) (.cells #[.int .i64 0, .int .i64 0, .int .i64 0] 27))
  have d0 : (w.alloc (.cells #[.int .i64 0, .int .i64 0, .int .i64 0] 27)).cell? ⟨b, 0, none⟩ = some (.int .i64 x) := (HW.out.cell (p := ⟨b, 0, none⟩) hbl).trans c0
  have d1 : (w.alloc (.cells #[.int .i64 0, .int .i64 0, .int .i64 0] 27)).cell? ⟨b, 1, none⟩ = some (.int .i64 y) := (HW.out.cell (p := ⟨b, 1, none⟩) hbl).trans c1
  have d2 : (w.alloc (.cells #[.int .i64 0, .int .i64 0, .int .i64 0] 27)).cell? ⟨b, 2, none⟩ = some (.int .i64 z) := (HW.out.cell (p := ⟨b, 2, none⟩) hbl).trans c2
  have HV := Lib.hid (show valK 1 1 [x, y, z] = y from rfl)
  rw [HV.out]
  clear HV
  go_enter Try.func34, Try.ntmps34
  go_wp2_with fail
  go_ret
  exact ⟨rfl, by first | exact Below.refl _ _ | exact below_drewN (Below.refl _ _) _⟩
set_option maxHeartbeats 1000000 in
theorem pzValue_1_3_2 (b c : Nat) (x y z : Int) (w : World) (hbl : b < w.heap.size) (hx : 1 ≤ x ∧ x ≤ 12) (hy : 1 ≤ y ∧ y ≤ 12) (hz : 1 ≤ z ∧ z ≤ 12) (c0 : w.cell? ⟨b, 0, none⟩ = some (.int .i64 x)) (c1 : w.cell? ⟨b, 1, none⟩ = some (.int .i64 y)) (c2 : w.cell? ⟨b, 2, none⟩ = some (.int .i64 z)) :
    Calls Try.prog 34 #[.int .i64 1, .int .i64 2, .slice (some ⟨b, 0, none⟩) 3 c] w (Ret (.int .i64 (valK 1 2 [x, y, z])) w) := by
  have HW := Lib.hid ((Below.refl w.heap.size w).alloc (Nat.le_refl _) (.cells #[.int .i64 0, .int .i64 0, .int .i64 0] 27))
  have d0 : (w.alloc (.cells #[.int .i64 0, .int .i64 0, .int .i64 0] 27)).cell? ⟨b, 0, none⟩ = some (.int .i64 x) := (HW.out.cell (p := ⟨b, 0, none⟩) hbl).trans c0
  have d1 : (w.alloc (.cells #[.int .i64 0, .int .i64 0, .int .i64 0] 27)).cell? ⟨b, 1, none⟩ = some (.int .i64 y) := (HW.out.cell (p := ⟨b, 1, none⟩) hbl).trans c1
  have d2 : (w.alloc (.cells #[.int .i64 0, .int .i64 0, .int .i64 0] 27)).cell? ⟨b, 2, none⟩ = some (.int .i64 z) := (HW.out.cell (p := ⟨b, 2, none⟩) hbl).trans c2
  have HV := Lib.hid (show valK 1 2 [x, y, z] = z from rfl)
  rw [HV.out]
  clear HV
  go_enter Try.func34, Try.ntmps34
  go_wp2_with fail
  go_ret
  exact ⟨rfl, by first | exact Below.refl _ _ | exact below_drewN (Below.refl _ _) _⟩
set_option maxHeartbeats 1000000 in
theorem pzValue_2_2_0 (b c : Nat) (x y : Int) (w : World) (hbl : b < w.heap.size) (hx : 1 ≤ x ∧ x ≤ 12) (hy : 1 ≤ y ∧ y ≤ 12) (c0 : w.cell? ⟨b, 0, none⟩ = some (.int .i64 x)) (c1 : w.cell? ⟨b, 1, none⟩ = some (.int .i64 y)) :
    Calls Try.prog 34 #[.int .i64 2, .int .i64 0, .slice (some ⟨b, 0, none⟩) 2 c] w (Ret (.int .i64 (valK 2 0 [x, y])) w) := by
  have HW := Lib.hid ((Below.refl w.heap.size w).alloc (Nat.le_refl _) (.cells #[.int .i64 0, .int .i64 0, .int .i64 0] 27))
  have d0 : (w.alloc (.cells #[.int .i64 0, .int .i64 0, .int .i64 0] 27)).cell? ⟨b, 0, none⟩ = some (.int .i64 x) := (HW.out.cell (p := ⟨b, 0, none⟩) hbl).trans c0
  have d1 : (w.alloc (.cells #[.int .i64 0, .int .i64 0, .int .i64 0] 27)).cell? ⟨b, 1, none⟩ = some (.int .i64 y) := (HW.out.cell (p := ⟨b, 1, none⟩) hbl).trans c1
  have HV := Lib.hid (show valK 2 0 [x, y] = prodL [x, y] from rfl)
  rw [HV.out]
  clear HV
  have HK := Lib.hid (fun k h => kid_prod4 (hdn2 hx hy).kids k h)
  have HT := Lib.hid (fun k h => prodL_take [x, y] k h)
  have HE := Lib.hid (show prodL ([x, y].take 2) = prodL [x, y] from rfl)
  have HI := Lib.hid (ints2 c0 c1)
  have HL := Lib.hid (show [x, y].length = 2 from rfl)
  generalize [x, y] = zs at HK HT HE HI HL ⊢
  clear c0 d0
  clear c1 d1
  go_enter Try.func34, Try.ntmps34
  go_wp2
  go_loop [7, 39] (fun s v => ∃ k : Nat, k ≤ 2 ∧ v = .int .i64 k ∧ s = .int .i64 (prodL (zs.take k))) (fun _ v => 2 - (intOf v).toNat)
  case atStart => exact ⟨0, Nat.zero_le _, rfl, rfl⟩
  case round =>
    obtain ⟨k, hkn, rfl, rfl⟩ := hrel
    by_cases hlt : k < 2
    · have hc := HI.out k (by rw [HL.out]; exact hlt)
      rw [Nat.zero_add] at hc
      have hs := HK.out (k + 1) (by rw [HL.out]; exact hlt)
      have HS := Lib.hid (HT.out k (by rw [HL.out]; exact hlt))
      rw [HT.out k (by rw [HL.out]; exact hlt)] at hs
      generalize zs.getD k 0 = u at hc hs HS
      generalize prodL (zs.take k) = s at hs HS ⊢
      have hw : IntKind.i64.wrap (s * u) = s * u := IntWalk.i64_in _ (by omega)
      go_wp2
      go_round
      case rel => exact ⟨k + 1, by omega, by go_num, by rw [HS.out]⟩
      case measure => simp [intOf]; omega
    · have hkn2 : k = 2 := by omega
      subst hkn2
      rw [HE.out]
      go_wp2
      go_ret
      exact ⟨rfl, Below.refl _ _⟩
set_option maxHeartbeats 1000000 in
theorem pzValue_2_2_1 (b c : Nat) (x y : Int) (w : World) (hbl : b < w.heap.size) (hx : 1 ≤ x ∧ x ≤ 12) (hy : 1 ≤ y ∧ y ≤ 12) (c0 : w.cell? ⟨b, 0, none⟩ = some (.int .i64 x)) (c1 : w.cell? ⟨b, 1, none⟩ = some (.int .i64 y)) :
    Calls Try.prog 34 #[.int .i64 2, .int .i64 1, .slice (some ⟨b, 0, none⟩) 2 c] w (Ret (.int .i64 (valK 2 1 [x, y])) w) := by
  have HW := Lib.hid ((Below.refl w.heap.size w).alloc (Nat.le_refl _) (.cells #[.int .i64 0, .int .i64 0, .int .i64 0] 27))
  have d0 : (w.alloc (.cells #[.int .i64 0, .int .i64 0, .int .i64 0] 27)).cell? ⟨b, 0, none⟩ = some (.int .i64 x) := (HW.out.cell (p := ⟨b, 0, none⟩) hbl).trans c0
  have d1 : (w.alloc (.cells #[.int .i64 0, .int .i64 0, .int .i64 0] 27)).cell? ⟨b, 1, none⟩ = some (.int .i64 y) := (HW.out.cell (p := ⟨b, 1, none⟩) hbl).trans c1
  have HV := Lib.hid (show valK 2 1 [x, y] = prodL [x, y] from rfl)
  rw [HV.out]
  clear HV
  have HK := Lib.hid (fun k h => kid_prod4 (hdn2 hx hy).kids k h)
  have HT := Lib.hid (fun k h => prodL_take [x, y] k h)
  have HE := Lib.hid (show prodL ([x, y].take 2) = prodL [x, y] from rfl)
  have HI := Lib.hid (ints2 c0 c1)
  have HL := Lib.hid (show [x, y].length = 2 from rfl)
  generalize [x, y] = zs at HK HT HE HI HL ⊢
  clear c0 d0
  clear c1 d1
  go_enter Try.func34, Try.ntmps34
  go_wp2
  go_loop [7, 39] (fun s v => ∃ k : Nat, k ≤ 2 ∧ v = .int .i64 k ∧ s = .int .i64 (prodL (zs.take k))) (fun _ v => 2 - (intOf v).toNat)
  case atStart => exact ⟨0, Nat.zero_le _, rfl, rfl⟩
  case round =>
    obtain ⟨k, hkn, rfl, rfl⟩ := hrel
    by_cases hlt : k < 2
    · have hc := HI.out k (by rw [HL.out]; exact hlt)
      rw [Nat.zero_add] at hc
      have hs := HK.out (k + 1) (by rw [HL.out]; exact hlt)
      have HS := Lib.hid (HT.out k (by rw [HL.out]; exact hlt))
      rw [HT.out k (by rw [HL.out]; exact hlt)] at hs
      generalize zs.getD k 0 = u at hc hs HS
      generalize prodL (zs.take k) = s at hs HS ⊢
      have hw : IntKind.i64.wrap (s * u) = s * u := IntWalk.i64_in _ (by omega)
      go_wp2
      go_round
      case rel => exact ⟨k + 1, by omega, by go_num, by rw [HS.out]⟩
      case measure => simp [intOf]; omega
    · have hkn2 : k = 2 := by omega
      subst hkn2
      rw [HE.out]
      go_wp2
      go_ret
      exact ⟨rfl, Below.refl _ _⟩
set_option maxHeartbeats 1000000 in
theorem pzValue_2_3_0 (b c : Nat) (x y z : Int) (w : World) (hbl : b < w.heap.size) (hx : 1 ≤ x ∧ x ≤ 12) (hy : 1 ≤ y ∧ y ≤ 12) (hz : 1 ≤ z ∧ z ≤ 12) (c0 : w.cell? ⟨b, 0, none⟩ = some (.int .i64 x)) (c1 : w.cell? ⟨b, 1, none⟩ = some (.int .i64 y)) (c2 : w.cell? ⟨b, 2, none⟩ = some (.int .i64 z)) :
    Calls Try.prog 34 #[.int .i64 2, .int .i64 0, .slice (some ⟨b, 0, none⟩) 3 c] w (Ret (.int .i64 (valK 2 0 [x, y, z])) w) := by
  have HW := Lib.hid ((Below.refl w.heap.size w).alloc (Nat.le_refl _) (.cells #[.int .i64 0, .int .i64 0, .int .i64 0] 27))
  have d0 : (w.alloc (.cells #[.int .i64 0, .int .i64 0, .int .i64 0] 27)).cell? ⟨b, 0, none⟩ = some (.int .i64 x) := (HW.out.cell (p := ⟨b, 0, none⟩) hbl).trans c0
  have d1 : (w.alloc (.cells #[.int .i64 0, .int .i64 0, .int .i64 0] 27)).cell? ⟨b, 1, none⟩ = some (.int .i64 y) := (HW.out.cell (p := ⟨b, 1, none⟩) hbl).trans c1
  have d2 : (w.alloc (.cells #[.int .i64 0, .int .i64 0, .int .i64 0] 27)).cell? ⟨b, 2, none⟩ = some (.int .i64 z) := (HW.out.cell (p := ⟨b, 2, none⟩) hbl).trans c2
  have HV := Lib.hid (show valK 2 0 [x, y, z] = prodL [x, y, z] from rfl)
  rw [HV.out]
  clear HV
  have HK := Lib.hid (fun k h => kid_prod4 (hdn3 hx hy hz).kids k h)
  have HT := Lib.hid (fun k h => prodL_take [x, y, z] k h)
  have HE := Lib.hid (show prodL ([x, y, z].take 3) = prodL [x, y, z] from rfl)
  have HI := Lib.hid (ints3 c0 c1 c2)
  have HL := Lib.hid (show [x, y, z].length = 3 from rfl)
  generalize [x, y, z] = zs at HK HT HE HI HL ⊢
  clear c0 d0
  clear c1 d1
  clear c2 d2
  go_enter Try.func34, Try.ntmps34
  go_wp2
  go_loop [7, 39] (fun s v => ∃ k : Nat, k ≤ 3 ∧ v = .int .i64 k ∧ s = .int .i64 (prodL (zs.take k))) (fun _ v => 3 - (intOf v).toNat)
  case atStart => exact ⟨0, Nat.zero_le _, rfl, rfl⟩
  case round =>
    obtain ⟨k, hkn, rfl, rfl⟩ := hrel
    by_cases hlt : k < 3
    · have hc := HI.out k (by rw [HL.out]; exact hlt)
      rw [Nat.zero_add] at hc
      have hs := HK.out (k + 1) (by rw [HL.out]; exact hlt)
      have HS := Lib.hid (HT.out k (by rw [HL.out]; exact hlt))
      rw [HT.out k (by rw [HL.out]; exact hlt)] at hs
      generalize zs.getD k 0 = u at hc hs HS
      generalize prodL (zs.take k) = s at hs HS ⊢
      have hw : IntKind.i64.wrap (s * u) = s * u := IntWalk.i64_in _ (by omega)
      go_wp2
      go_round
      case rel => exact ⟨k + 1, by omega, by go_num, by rw [HS.out]⟩
      case measure => simp [intOf]; omega
    · have hkn2 : k = 3 := by omega
      subst hkn2
      rw [HE.out]
      go_wp2
      go_ret
      exact ⟨rfl, Below.refl _ _⟩
set_option maxHeartbeats 1000000 in
theorem pzValue_2_3_1 (b c : Nat) (x y z : Int) (w : World) (hbl : b < w.heap.size) (hx : 1 ≤ x ∧ x ≤ 12) (hy : 1 ≤ y ∧ y ≤ 12) (hz : 1 ≤ z ∧ z ≤ 12) (c0 : w.cell? ⟨b, 0, none⟩ = some (.int .i64 x)) (c1 : w.cell? ⟨b, 1, none⟩ = some (.int .i64 y)) (c2 : w.cell? ⟨b, 2, none⟩ = some (.int .i64 z)) :
    Calls Try.prog 34 #[.int .i64 2, .int .i64 1, .slice (some ⟨b, 0, none⟩) 3 c] w (Ret (.int .i64 (valK 2 1 [x, y, z])) w) := by
  have HW := Lib.hid ((Below.refl w.heap.size w).alloc (Nat.le_refl _) (.cells #[.int .i64 0, .int .i64 0, .int .i64 0] 27))
  have d0 : (w.alloc (.cells #[.int .i64 0, .int .i64 0, .int .i64 0] 27)).cell? ⟨b, 0, none⟩ = some (.int .i64 x) := (HW.out.cell (p := ⟨b, 0, none⟩) hbl).trans c0
  have d1 : (w.alloc (.cells #[.int .i64 0, .int .i64 0, .int .i64 0] 27)).cell? ⟨b, 1, none⟩ = some (.int .i64 y) := (HW.out.cell (p := ⟨b, 1, none⟩) hbl).trans c1
  have d2 : (w.alloc (.cells #[.int .i64 0, .int .i64 0, .int .i64 0] 27)).cell? ⟨b, 2, none⟩ = some (.int .i64 z) := (HW.out.cell (p := ⟨b, 2, none⟩) hbl).trans c2
  have HV := Lib.hid (show valK 2 1 [x, y, z] = prodL [x, y, z] from rfl)
  rw [HV.out]
  clear HV
  have HK := Lib.hid (fun k h => kid_prod4 (hdn3 hx hy hz).kids k h)
  have HT := Lib.hid (fun k h => prodL_take [x, y, z] k h)
  have HE := Lib.hid (show prodL ([x, y, z].take 3) = prodL [x, y, z] from rfl)
  have HI := Lib.hid (ints3 c0 c1 c2)
  have HL := Lib.hid (show [x, y, z].length = 3 from rfl)
  generalize [x, y, z] = zs at HK HT HE HI HL ⊢
  clear c0 d0
  clear c1 d1
  clear c2 d2
  go_enter Try.func34, Try.ntmps34
  go_wp2
  go_loop [7, 39] (fun s v => ∃ k : Nat, k ≤ 3 ∧ v = .int .i64 k ∧ s = .int .i64 (prodL (zs.take k))) (fun _ v => 3 - (intOf v).toNat)
  case atStart => exact ⟨0, Nat.zero_le _, rfl, rfl⟩
  case round =>
    obtain ⟨k, hkn, rfl, rfl⟩ := hrel
    by_cases hlt : k < 3
    · have hc := HI.out k (by rw [HL.out]; exact hlt)
      rw [Nat.zero_add] at hc
      have hs := HK.out (k + 1) (by rw [HL.out]; exact hlt)
      have HS := Lib.hid (HT.out k (by rw [HL.out]; exact hlt))
      rw [HT.out k (by rw [HL.out]; exact hlt)] at hs
      generalize zs.getD k 0 = u at hc hs HS
      generalize prodL (zs.take k) = s at hs HS ⊢
      have hw : IntKind.i64.wrap (s * u) = s * u := IntWalk.i64_in _ (by omega)
      go_wp2
      go_round
      case rel => exact ⟨k + 1, by omega, by go_num, by rw [HS.out]⟩
      case measure => simp [intOf]; omega
    · have hkn2 : k = 3 := by omega
      subst hkn2
      rw [HE.out]
      go_wp2
      go_ret
      exact ⟨rfl, Below.refl _ _⟩
set_option maxHeartbeats 1000000 in
theorem pzValue_2_3_2 (b c : Nat) (x y z : Int) (w : World) (hbl : b < w.heap.size) (hx : 1 ≤ x ∧ x ≤ 12) (hy : 1 ≤ y ∧ y ≤ 12) (hz : 1 ≤ z ∧ z ≤ 12) (c0 : w.cell? ⟨b, 0, none⟩ = some (.int .i64 x)) (c1 : w.cell? ⟨b, 1, none⟩ = some (.int .i64 y)) (c2 : w.cell? ⟨b, 2, none⟩ = some (.int .i64 z)) :
    Calls Try.prog 34 #[.int .i64 2, .int .i64 2, .slice (some ⟨b, 0, none⟩) 3 c] w (Ret (.int .i64 (valK 2 2 [x, y, z])) w) := by
  have HW := Lib.hid ((Below.refl w.heap.size w).alloc (Nat.le_refl _) (.cells #[.int .i64 0, .int .i64 0, .int .i64 0] 27))
  have d0 : (w.alloc (.cells #[.int .i64 0, .int .i64 0, .int .i64 0] 27)).cell? ⟨b, 0, none⟩ = some (.int .i64 x) := (HW.out.cell (p := ⟨b, 0, none⟩) hbl).trans c0
  have d1 : (w.alloc (.cells #[.int .i64 0, .int .i64 0, .int .i64 0] 27)).cell? ⟨b, 1, none⟩ = some (.int .i64 y) := (HW.out.cell (p := ⟨b, 1, none⟩) hbl).trans c1
  have d2 : (w.alloc (.cells #[.int .i64 0, .int .i64 0, .int .i64 0] 27)).cell? ⟨b, 2, none⟩ = some (.int .i64 z) := (HW.out.cell (p := ⟨b, 2, none⟩) hbl).trans c2
  have HV := Lib.hid (show valK 2 2 [x, y, z] = prodL [x, y, z] from rfl)
  rw [HV.out]
  clear HV
  have HK := Lib.hid (fun k h => kid_prod4 (hdn3 hx hy hz).kids k h)
  have HT := Lib.hid (fun k h => prodL_take [x, y, z] k h)
  have HE := Lib.hid (show prodL ([x, y, z].take 3) = prodL [x, y, z] from rfl)
  have HI := Lib.hid (ints3 c0 c1 c2)
  have HL := Lib.hid (show [x, y, z].length = 3 from rfl)
  generalize [x, y, z] = zs at HK HT HE HI HL ⊢
  clear c0 d0
  clear c1 d1
  clear c2 d2
  go_enter Try.func34, Try.ntmps34
  go_wp2
  go_loop [7, 39] (fun s v => ∃ k : Nat, k ≤ 3 ∧ v = .int .i64 k ∧ s = .int .i64 (prodL (zs.take k))) (fun _ v => 3 - (intOf v).toNat)
  case atStart => exact ⟨0, Nat.zero_le _, rfl, rfl⟩
  case round =>
    obtain ⟨k, hkn, rfl, rfl⟩ := hrel
    by_cases hlt : k < 3
    · have hc := HI.out k (by rw [HL.out]; exact hlt)
      rw [Nat.zero_add] at hc
      have hs := HK.out (k + 1) (by rw [HL.out]; exact hlt)
      have HS := Lib.hid (HT.out k (by rw [HL.out]; exact hlt))
      rw [HT.out k (by rw [HL.out]; exact hlt)] at hs
      generalize zs.getD k 0 = u at hc hs HS
      generalize prodL (zs.take k) = s at hs HS ⊢
      have hw : IntKind.i64.wrap (s * u) = s * u := IntWalk.i64_in _ (by omega)
      go_wp2
      go_round
      case rel => exact ⟨k + 1, by omega, by go_num, by rw [HS.out]⟩
      case measure => simp [intOf]; omega
    · have hkn2 : k = 3 := by omega
      subst hkn2
      rw [HE.out]
      go_wp2
      go_ret
      exact ⟨rfl, Below.refl _ _⟩
set_option maxHeartbeats 1000000 in
theorem pzValue_3_2_0 (b c : Nat) (x y : Int) (w : World) (hbl : b < w.heap.size) (hx : 1 ≤ x ∧ x ≤ 12) (hy : 1 ≤ y ∧ y ≤ 12) (c0 : w.cell? ⟨b, 0, none⟩ = some (.int .i64 x)) (c1 : w.cell? ⟨b, 1, none⟩ = some (.int .i64 y)) :
    Calls Try.prog 34 #[.int .i64 3, .int .i64 0, .slice (some ⟨b, 0, none⟩) 2 c] w (Ret (.int .i64 (valK 3 0 [x, y])) w) := by
  have HW := Lib.hid ((Below.refl w.heap.size w).alloc (Nat.le_refl _) (.cells #[.int .i64 0, .int .i64 0, .int .i64 0] 27))
  have d0 : (w.alloc (.cells #[.int .i64 0, .int .i64 0, .int .i64 0] 27)).cell? ⟨b, 0, none⟩ = some (.int .i64 x) := (HW.out.cell (p := ⟨b, 0, none⟩) hbl).trans c0
  have d1 : (w.alloc (.cells #[.int .i64 0, .int .i64 0, .int .i64 0] 27)).cell? ⟨b, 1, none⟩ = some (.int .i64 y) := (HW.out.cell (p := ⟨b, 1, none⟩) hbl).trans c1
  have HV := Lib.hid (show valK 3 0 [x, y] = (if y < x then 1 else 0) by simp [valK, nxV])
  rw [HV.out]
  clear HV
  by_cases hq : y < x
  · rw [if_pos hq]
    have hqb : decide (y < x) = true := by simp [hq]
    go_enter Try.func34, Try.ntmps34
    go_wp2_with fail
    go_quiet (fail)
    go_wp2_with fail
    go_ret
    exact ⟨rfl, by first | exact Below.refl _ _ | exact below_drewN (Below.refl _ _) _⟩
  · rw [if_neg hq]
    have hq2 : x ≤ y := by omega
    have hqb : decide (y < x) = false := by simp [hq2]
    go_enter Try.func34, Try.ntmps34
    go_wp2_with fail
    go_quiet (fail)
    go_wp2_with fail
    go_ret
    exact ⟨rfl, by first | exact Below.refl _ _ | exact below_drewN (Below.refl _ _) _⟩
set_option maxHeartbeats 1000000 in
theorem pzValue_3_2_1 (b c : Nat) (x y : Int) (w : World) (hbl : b < w.heap.size) (hx : 1 ≤ x ∧ x ≤ 12) (hy : 1 ≤ y ∧ y ≤ 12) (c0 : w.cell? ⟨b, 0, none⟩ = some (.int .i64 x)) (c1 : w.cell? ⟨b, 1, none⟩ = some (.int .i64 y)) :
    Calls Try.prog 34 #[.int .i64 3, .int .i64 1, .slice (some ⟨b, 0, none⟩) 2 c] w (Ret (.int .i64 (valK 3 1 [x, y])) w) := by
  have HW := Lib.hid ((Below.refl w.heap.size w).alloc (Nat.le_refl _) (.cells #[.int .i64 0, .int .i64 0, .int .i64 0] 27))
  have d0 : (w.alloc (.cells #[.int .i64 0, .int .i64 0, .int .i64 0] 27)).cell? ⟨b, 0, none⟩ = some (.int .i64 x) := (HW.out.cell (p := ⟨b, 0, none⟩) hbl).trans c0
  have d1 : (w.alloc (.cells #[.int .i64 0, .int .i64 0, .int .i64 0] 27)).cell? ⟨b, 1, none⟩ = some (.int .i64 y) := (HW.out.cell (p := ⟨b, 1, none⟩) hbl).trans c1
  have HV := Lib.hid (show valK 3 1 [x, y] = (if x < y then 1 else 0) by simp [valK, nxV])
  rw [HV.out]
  clear HV
  by_cases hq : x < y
  · rw [if_pos hq]
    have hqb : decide (x < y) = true := by simp [hq]
    go_enter Try.func34, Try.ntmps34
    go_wp2_with fail
    go_quiet (fail)
    go_wp2_with fail
    go_ret
    exact ⟨rfl, by first | exact Below.refl _ _ | exact below_drewN (Below.refl _ _) _⟩
  · rw [if_neg hq]
    have hq2 : y ≤ x := by omega
    have hqb : decide (x < y) = false := by simp [hq2]
    go_enter Try.func34, Try.ntmps34
    go_wp2_with fail
    go_quiet (fail)
    go_wp2_with fail
    go_ret
    exact ⟨rfl, by first | exact Below.refl _ _ | exact below_drewN (Below.refl _ _) _⟩
set_option maxHeartbeats 1000000 in
theorem pzValue_3_3_0 (b c : Nat) (x y z : Int) (w : World) (hbl : b < w.heap.size) (hx : 1 ≤ x ∧ x ≤ 12) (hy : 1 ≤ y ∧ y ≤ 12) (hz : 1 ≤ z ∧ z ≤ 12) (c0 : w.cell? ⟨b, 0, none⟩ = some (.int .i64 x)) (c1 : w.cell? ⟨b, 1, none⟩ = some (.int .i64 y)) (c2 : w.cell? ⟨b, 2, none⟩ = some (.int .i64 z)) :
    Calls Try.prog 34 #[.int .i64 3, .int .i64 0, .slice (some ⟨b, 0, none⟩) 3 c] w (Ret (.int .i64 (valK 3 0 [x, y, z])) w) := by
  have HW := Lib.hid ((Below.refl w.heap.size w).alloc (Nat.le_refl _) (.cells #[.int .i64 0, .int .i64 0, .int .i64 0] 27))
  have d0 : (w.alloc (.cells #[.int .i64 0, .int .i64 0, .int .i64 0] 27)).cell? ⟨b, 0, none⟩ = some (.int .i64 x) := (HW.out.cell (p := ⟨b, 0, none⟩) hbl).trans c0
  have d1 : (w.alloc (.cells #[.int .i64 0, .int .i64 0, .int .i64 0] 27)).cell? ⟨b, 1, none⟩ = some (.int .i64 y) := (HW.out.cell (p := ⟨b, 1, none⟩) hbl).trans c1
  have d2 : (w.alloc (.cells #[.int .i64 0, .int .i64 0, .int .i64 0] 27)).cell? ⟨b, 2, none⟩ = some (.int .i64 z) := (HW.out.cell (p := ⟨b, 2, none⟩) hbl).trans c2
  have HV := Lib.hid (show valK 3 0 [x, y, z] = (if y < x then 1 else 0) by simp [valK, nxV])
  rw [HV.out]
  clear HV
  by_cases hq : y < x
  · rw [if_pos hq]
    have hqb : decide (y < x) = true := by simp [hq]
    go_enter Try.func34, Try.ntmps34
    go_wp2_with fail
    go_quiet (fail)
    go_wp2_with fail
    go_ret
    exact ⟨rfl, by first | exact Below.refl _ _ | exact below_drewN (Below.refl _ _) _⟩
  · rw [if_neg hq]
    have hq2 : x ≤ y := by omega
    have hqb : decide (y < x) = false := by simp [hq2]
    go_enter Try.func34, Try.ntmps34
    go_wp2_with fail
    go_quiet (fail)
    go_wp2_with fail
    go_ret
    exact ⟨rfl, by first | exact Below.refl _ _ | exact below_drewN (Below.refl _ _) _⟩
set_option maxHeartbeats 1000000 in
theorem pzValue_3_3_1 (b c : Nat) (x y z : Int) (w : World) (hbl : b < w.heap.size) (hx : 1 ≤ x ∧ x ≤ 12) (hy : 1 ≤ y ∧ y ≤ 12) (hz : 1 ≤ z ∧ z ≤ 12) (c0 : w.cell? ⟨b, 0, none⟩ = some (.int .i64 x)) (c1 : w.cell? ⟨b, 1, none⟩ = some (.int .i64 y)) (c2 : w.cell? ⟨b, 2, none⟩ = some (.int .i64 z)) :
    Calls Try.prog 34 #[.int .i64 3, .int .i64 1, .slice (some ⟨b, 0, none⟩) 3 c] w (Ret (.int .i64 (valK 3 1 [x, y, z])) w) := by
  have HW := Lib.hid ((Below.refl w.heap.size w).alloc (Nat.le_refl _) (.cells #[.int .i64 0, .int .i64 0, .int .i64 0] 27))
  have d0 : (w.alloc (.cells #[.int .i64 0, .int .i64 0, .int .i64 0] 27)).cell? ⟨b, 0, none⟩ = some (.int .i64 x) := (HW.out.cell (p := ⟨b, 0, none⟩) hbl).trans c0
  have d1 : (w.alloc (.cells #[.int .i64 0, .int .i64 0, .int .i64 0] 27)).cell? ⟨b, 1, none⟩ = some (.int .i64 y) := (HW.out.cell (p := ⟨b, 1, none⟩) hbl).trans c1
  have d2 : (w.alloc (.cells #[.int .i64 0, .int .i64 0, .int .i64 0] 27)).cell? ⟨b, 2, none⟩ = some (.int .i64 z) := (HW.out.cell (p := ⟨b, 2, none⟩) hbl).trans c2
  have HV := Lib.hid (show valK 3 1 [x, y, z] = (if z < y then 1 else 0) by simp [valK, nxV])
  rw [HV.out]
  clear HV
  by_cases hq : z < y
  · rw [if_pos hq]
    have hqb : decide (z < y) = true := by simp [hq]
    go_enter Try.func34, Try.ntmps34
    go_wp2_with fail
    go_quiet (fail)
    go_wp2_with fail
    go_ret
    exact ⟨rfl, by first | exact Below.refl _ _ | exact below_drewN (Below.refl _ _) _⟩
  · rw [if_neg hq]
    have hq2 : y ≤ z := by omega
    have hqb : decide (z < y) = false := by simp [hq2]
    go_enter Try.func34, Try.ntmps34
    go_wp2_with fail
    go_quiet (fail)
    go_wp2_with fail
    go_ret
    exact ⟨rfl, by first | exact Below.refl _ _ | exact below_drewN (Below.refl _ _) _⟩
set_option maxHeartbeats 1000000 in
theorem pzValue_3_3_2 (b c : Nat) (x y z : Int) (w : World) (hbl : b < w.heap.size) (hx : 1 ≤ x ∧ x ≤ 12) (hy : 1 ≤ y ∧ y ≤ 12) (hz : 1 ≤ z ∧ z ≤ 12) (c0 : w.cell? ⟨b, 0, none⟩ = some (.int .i64 x)) (c1 : w.cell? ⟨b, 1, none⟩ = some (.int .i64 y)) (c2 : w.cell? ⟨b, 2, none⟩ = some (.int .i64 z)) :
    Calls Try.prog 34 #[.int .i64 3, .int .i64 2, .slice (some ⟨b, 0, none⟩) 3 c] w (Ret (.int .i64 (valK 3 2 [x, y, z])) w) := by
  have HW := Lib.hid ((Below.refl w.heap.size w).alloc (Nat.le_refl _) (.cells #[.int .i64 0, .int .i64 0, .int .i64 0] 27))
  have d0 : (w.alloc (.cells #[.int .i64 0, .int .i64 0, .int .i64 0] 27)).cell? ⟨b, 0, none⟩ = some (.int .i64 x) := (HW.out.cell (p := ⟨b, 0, none⟩) hbl).trans c0
  have d1 : (w.alloc (.cells #[.int .i64 0, .int .i64 0, .int .i64 0] 27)).cell? ⟨b, 1, none⟩ = some (.int .i64 y) := (HW.out.cell (p := ⟨b, 1, none⟩) hbl).trans c1
  have d2 : (w.alloc (.cells #[.int .i64 0, .int .i64 0, .int .i64 0] 27)).cell? ⟨b, 2, none⟩ = some (.int .i64 z) := (HW.out.cell (p := ⟨b, 2, none⟩) hbl).trans c2
  have HV := Lib.hid (show valK 3 2 [x, y, z] = (if x < z then 1 else 0) by simp [valK, nxV])
  rw [HV.out]
  clear HV
  by_cases hq : x < z
  · rw [if_pos hq]
    have hqb : decide (x < z) = true := by simp [hq]
    go_enter Try.func34, Try.ntmps34
    go_wp2_with fail
    go_quiet (fail)
    go_wp2_with fail
    go_ret
    exact ⟨rfl, by first | exact Below.refl _ _ | exact below_drewN (Below.refl _ _) _⟩
  · rw [if_neg hq]
    have hq2 : z ≤ x := by omega
    have hqb : decide (x < z) = false := by simp [hq2]
    go_enter Try.func34, Try.ntmps34
    go_wp2_with fail
    go_quiet (fail)
    go_wp2_with fail
    go_ret
    exact ⟨rfl, by first | exact Below.refl _ _ | exact below_drewN (Below.refl _ _) _⟩
set_option maxHeartbeats 1000000 in
theorem pzValue_4_2_0 (b c : Nat) (x y : Int) (w : World) (hbl : b < w.heap.size) (hx : 1 ≤ x ∧ x ≤ 12) (hy : 1 ≤ y ∧ y ≤ 12) (c0 : w.cell? ⟨b, 0, none⟩ = some (.int .i64 x)) (c1 : w.cell? ⟨b, 1, none⟩ = some (.int .i64 y)) :
    Calls Try.prog 34 #[.int .i64 4, .int .i64 0, .slice (some ⟨b, 0, none⟩) 2 c] w (Ret (.int .i64 (valK 4 0 [x, y])) w) := by
  have HW := Lib.hid ((Below.refl w.heap.size w).alloc (Nat.le_refl _) (.cells #[.int .i64 0, .int .i64 0, .int .i64 0] 27))
  have d0 : (w.alloc (.cells #[.int .i64 0, .int .i64 0, .int .i64 0] 27)).cell? ⟨b, 0, none⟩ = some (.int .i64 x) := (HW.out.cell (p := ⟨b, 0, none⟩) hbl).trans c0
  have d1 : (w.alloc (.cells #[.int .i64 0, .int .i64 0, .int .i64 0] 27)).cell? ⟨b, 1, none⟩ = some (.int .i64 y) := (HW.out.cell (p := ⟨b, 1, none⟩) hbl).trans c1
  have HS := Lib.hid (fun (W : World) (hb : Below w.heap.size w W) => kiCount_pr b 0 2 c [x, y] W rfl (hdn2 hx hy).kids ((ints2 c0 c1).kept hb hbl))
  have HV := Lib.hid (show valK 4 0 [x, y] = cntP [x, y] from rfl)
  rw [HV.out]
  clear HV
  generalize cntP [x, y] = r at HS ⊢
  go_enter Try.func34, Try.ntmps34
  go_wp2_with (go_at_call 43; refine (HS.out _ (by first | exact HW.out | exact Below.refl _ _)).mono ?_; rintro e w' ⟨rfl, rfl⟩)
  go_ret
  exact ⟨rfl, by first | exact Below.refl _ _ | exact below_drewN (Below.refl _ _) _⟩
set_option maxHeartbeats 1000000 in
theorem pzValue_4_2_1 (b c : Nat) (x y : Int) (w : World) (hbl : b < w.heap.size) (hx : 1 ≤ x ∧ x ≤ 12) (hy : 1 ≤ y ∧ y ≤ 12) (c0 : w.cell? ⟨b, 0, none⟩ = some (.int .i64 x)) (c1 : w.cell? ⟨b, 1, none⟩ = some (.int .i64 y)) :
    Calls Try.prog 34 #[.int .i64 4, .int .i64 1, .slice (some ⟨b, 0, none⟩) 2 c] w (Ret (.int .i64 (valK 4 1 [x, y])) w) := by
  have HW := Lib.hid ((Below.refl w.heap.size w).alloc (Nat.le_refl _) (.cells #[.int .i64 0, .int .i64 0, .int .i64 0] 27))
  have d0 : (w.alloc (.cells #[.int .i64 0, .int .i64 0, .int .i64 0] 27)).cell? ⟨b, 0, none⟩ = some (.int .i64 x) := (HW.out.cell (p := ⟨b, 0, none⟩) hbl).trans c0
  have d1 : (w.alloc (.cells #[.int .i64 0, .int .i64 0, .int .i64 0] 27)).cell? ⟨b, 1, none⟩ = some (.int .i64 y) := (HW.out.cell (p := ⟨b, 1, none⟩) hbl).trans c1
  have HS := Lib.hid (fun (W : World) (hb : Below w.heap.size w W) => kiCount_pr b 0 2 c [x, y] W rfl (hdn2 hx hy).kids ((ints2 c0 c1).kept hb hbl))
  have HV := Lib.hid (show valK 4 1 [x, y] = cntP [x, y] from rfl)
  rw [HV.out]
  clear HV
  generalize cntP [x, y] = r at HS ⊢
  go_enter Try.func34, Try.ntmps34
  go_wp2_with (go_at_call 43; refine (HS.out _ (by first | exact HW.out | exact Below.refl _ _)).mono ?_; rintro e w' ⟨rfl, rfl⟩)
  go_ret
  exact ⟨rfl, by first | exact Below.refl _ _ | exact below_drewN (Below.refl _ _) _⟩
set_option maxHeartbeats 1000000 in
theorem pzValue_4_3_0 (b c : Nat) (x y z : Int) (w : World) (hbl : b < w.heap.size) (hx : 1 ≤ x ∧ x ≤ 12) (hy : 1 ≤ y ∧ y ≤ 12) (hz : 1 ≤ z ∧ z ≤ 12) (c0 : w.cell? ⟨b, 0, none⟩ = some (.int .i64 x)) (c1 : w.cell? ⟨b, 1, none⟩ = some (.int .i64 y)) (c2 : w.cell? ⟨b, 2, none⟩ = some (.int .i64 z)) :
    Calls Try.prog 34 #[.int .i64 4, .int .i64 0, .slice (some ⟨b, 0, none⟩) 3 c] w (Ret (.int .i64 (valK 4 0 [x, y, z])) w) := by
  have HW := Lib.hid ((Below.refl w.heap.size w).alloc (Nat.le_refl _) (.cells #[.int .i64 0, .int .i64 0, .int .i64 0] 27))
  have d0 : (w.alloc (.cells #[.int .i64 0, .int .i64 0, .int .i64 0] 27)).cell? ⟨b, 0, none⟩ = some (.int .i64 x) := (HW.out.cell (p := ⟨b, 0, none⟩) hbl).trans c0
  have d1 : (w.alloc (.cells #[.int .i64 0, .int .i64 0, .int .i64 0] 27)).cell? ⟨b, 1, none⟩ = some (.int .i64 y) := (HW.out.cell (p := ⟨b, 1, none⟩) hbl).trans c1
  have d2 : (w.alloc (.cells #[.int .i64 0, .int .i64 0, .int .i64 0] 27)).cell? ⟨b, 2, none⟩ = some (.int .i64 z) := (HW.out.cell (p := ⟨b, 2, none⟩) hbl).trans c2
  have HS := Lib.hid (fun (W : World) (hb : Below w.heap.size w W) => kiCount_pr b 0 3 c [x, y, z] W rfl (hdn3 hx hy hz).kids ((ints3 c0 c1 c2).kept hb hbl))
  have HV := Lib.hid (show valK 4 0 [x, y, z] = cntP [x, y, z] from rfl)
  rw [HV.out]
  clear HV
  generalize cntP [x, y, z] = r at HS ⊢
  go_enter Try.func34, Try.ntmps34
  go_wp2_with (go_at_call 43; refine (HS.out _ (by first | exact HW.out | exact Below.refl _ _)).mono ?_; rintro e w' ⟨rfl, rfl⟩)
  go_ret
  exact ⟨rfl, by first | exact Below.refl _ _ | exact below_drewN (Below.refl _ _) _⟩
set_option maxHeartbeats 1000000 in
theorem pzValue_4_3_1 (b c : Nat) (x y z : Int) (w : World) (hbl : b < w.heap.size) (hx : 1 ≤ x ∧ x ≤ 12) (hy : 1 ≤ y ∧ y ≤ 12) (hz : 1 ≤ z ∧ z ≤ 12) (c0 : w.cell? ⟨b, 0, none⟩ = some (.int .i64 x)) (c1 : w.cell? ⟨b, 1, none⟩ = some (.int .i64 y)) (c2 : w.cell? ⟨b, 2, none⟩ = some (.int .i64 z)) :
    Calls Try.prog 34 #[.int .i64 4, .int .i64 1, .slice (some ⟨b, 0, none⟩) 3 c] w (Ret (.int .i64 (valK 4 1 [x, y, z])) w) := by
  have HW := Lib.hid ((Below.refl w.heap.size w).alloc (Nat.le_refl _) (.cells #[.int .i64 0, .int .i64 0, .int .i64 0] 27))
  have d0 : (w.alloc (.cells #[.int .i64 0, .int .i64 0, .int .i64 0] 27)).cell? ⟨b, 0, none⟩ = some (.int .i64 x) := (HW.out.cell (p := ⟨b, 0, none⟩) hbl).trans c0
  have d1 : (w.alloc (.cells #[.int .i64 0, .int .i64 0, .int .i64 0] 27)).cell? ⟨b, 1, none⟩ = some (.int .i64 y) := (HW.out.cell (p := ⟨b, 1, none⟩) hbl).trans c1
  have d2 : (w.alloc (.cells #[.int .i64 0, .int .i64 0, .int .i64 0] 27)).cell? ⟨b, 2, none⟩ = some (.int .i64 z) := (HW.out.cell (p := ⟨b, 2, none⟩) hbl).trans c2
  have HS := Lib.hid (fun (W : World) (hb : Below w.heap.size w W) => kiCount_pr b 0 3 c [x, y, z] W rfl (hdn3 hx hy hz).kids ((ints3 c0 c1 c2).kept hb hbl))
  have HV := Lib.hid (show valK 4 1 [x, y, z] = cntP [x, y, z] from rfl)
  rw [HV.out]
  clear HV
  generalize cntP [x, y, z] = r at HS ⊢
  go_enter Try.func34, Try.ntmps34
  go_wp2_with (go_at_call 43; refine (HS.out _ (by first | exact HW.out | exact Below.refl _ _)).mono ?_; rintro e w' ⟨rfl, rfl⟩)
  go_ret
  exact ⟨rfl, by first | exact Below.refl _ _ | exact below_drewN (Below.refl _ _) _⟩
set_option maxHeartbeats 1000000 in
theorem pzValue_4_3_2 (b c : Nat) (x y z : Int) (w : World) (hbl : b < w.heap.size) (hx : 1 ≤ x ∧ x ≤ 12) (hy : 1 ≤ y ∧ y ≤ 12) (hz : 1 ≤ z ∧ z ≤ 12) (c0 : w.cell? ⟨b, 0, none⟩ = some (.int .i64 x)) (c1 : w.cell? ⟨b, 1, none⟩ = some (.int .i64 y)) (c2 : w.cell? ⟨b, 2, none⟩ = some (.int .i64 z)) :
    Calls Try.prog 34 #[.int .i64 4, .int .i64 2, .slice (some ⟨b, 0, none⟩) 3 c] w (Ret (.int .i64 (valK 4 2 [x, y, z])) w) := by
  have HW := Lib.hid ((Below.refl w.heap.size w).alloc (Nat.le_refl _) (.cells #[.int .i64 0, .int .i64 0, .int .i64 0] 27))
  have d0 : (w.alloc (.cells #[.int .i64 0, .int .i64 0, .int .i64 0] 27)).cell? ⟨b, 0, none⟩ = some (.int .i64 x) := (HW.out.cell (p := ⟨b, 0, none⟩) hbl).trans c0
  have d1 : (w.alloc (.cells #[.int .i64 0, .int .i64 0, .int .i64 0] 27)).cell? ⟨b, 1, none⟩ = some (.int .i64 y) := (HW.out.cell (p := ⟨b, 1, none⟩) hbl).trans c1
  have d2 : (w.alloc (.cells #[.int .i64 0, .int .i64 0, .int .i64 0] 27)).cell? ⟨b, 2, none⟩ = some (.int .i64 z) := (HW.out.cell (p := ⟨b, 2, none⟩) hbl).trans c2
  have HS := Lib.hid (fun (W : World) (hb : Below w.heap.size w W) => kiCount_pr b 0 3 c [x, y, z] W rfl (hdn3 hx hy hz).kids ((ints3 c0 c1 c2).kept hb hbl))
  have HV := Lib.hid (show valK 4 2 [x, y, z] = cntP [x, y, z] from rfl)
  rw [HV.out]
  clear HV
  generalize cntP [x, y, z] = r at HS ⊢
  go_enter Try.func34, Try.ntmps34
  go_wp2_with (go_at_call 43; refine (HS.out _ (by first | exact HW.out | exact Below.refl _ _)).mono ?_; rintro e w' ⟨rfl, rfl⟩)
  go_ret
  exact ⟨rfl, by first | exact Below.refl _ _ | exact below_drewN (Below.refl _ _) _⟩
set_option maxHeartbeats 1000000 in
theorem pzValue_5_2_0 (b c : Nat) (x y : Int) (w : World) (hbl : b < w.heap.size) (hx : 1 ≤ x ∧ x ≤ 12) (hy : 1 ≤ y ∧ y ≤ 12) (c0 : w.cell? ⟨b, 0, none⟩ = some (.int .i64 x)) (c1 : w.cell? ⟨b, 1, none⟩ = some (.int .i64 y)) :
    Calls Try.prog 34 #[.int .i64 5, .int .i64 0, .slice (some ⟨b, 0, none⟩) 2 c] w (Ret (.int .i64 (valK 5 0 [x, y])) w) := by
  have HW := Lib.hid ((Below.refl w.heap.size w).alloc (Nat.le_refl _) (.cells #[.int .i64 0, .int .i64 0, .int .i64 0] 27))
  have d0 : (w.alloc (.cells #[.int .i64 0, .int .i64 0, .int .i64 0] 27)).cell? ⟨b, 0, none⟩ = some (.int .i64 x) := (HW.out.cell (p := ⟨b, 0, none⟩) hbl).trans c0
  have d1 : (w.alloc (.cells #[.int .i64 0, .int .i64 0, .int .i64 0] 27)).cell? ⟨b, 1, none⟩ = some (.int .i64 y) := (HW.out.cell (p := ⟨b, 1, none⟩) hbl).trans c1
  have HV := Lib.hid (show valK 5 0 [x, y] = (if x % y = 0 then 1 else 0) by simp [valK, nxV])
  rw [HV.out]
  clear HV
  have t1 : x.tmod y = x % y := Int.tmod_eq_emod_of_nonneg (by omega)
  have t2 : ¬ y = 0 := by omega
  have t3 : (y == 0) = false := by rw [beq_eq_false_iff_ne]; omega
  have t4 : 0 ≤ x % y ∧ x % y < y := ⟨Int.emod_nonneg _ t2, Int.emod_lt_of_pos _ (by omega)⟩
  have t5 : IntKind.i64.wrap (x % y) = x % y := IntWalk.i64_in _ (by omega)
  by_cases hq : x % y = 0
  · rw [if_pos hq]
    have hqb : (x % y == 0) = true := by simp [hq]
    go_enter Try.func34, Try.ntmps34
    go_wp2_with fail
    go_quiet (fail)
    go_wp2_with fail
    go_ret
    exact ⟨rfl, by first | exact Below.refl _ _ | exact below_drewN (Below.refl _ _) _⟩
  · rw [if_neg hq]
    have hqb : (x % y == 0) = false := by simp [hq]
    go_enter Try.func34, Try.ntmps34
    go_wp2_with fail
    go_quiet (fail)
    go_wp2_with fail
    go_ret
    exact ⟨rfl, by first | exact Below.refl _ _ | exact below_drewN (Below.refl _ _) _⟩
set_option maxHeartbeats 1000000 in
theorem pzValue_5_2_1 (b c : Nat) (x y : Int) (w : World) (hbl : b < w.heap.size) (hx : 1 ≤ x ∧ x ≤ 12) (hy : 1 ≤ y ∧ y ≤ 12) (c0 : w.cell? ⟨b, 0, none⟩ = some (.int .i64 x)) (c1 : w.cell? ⟨b, 1, none⟩ = some (.int .i64 y)) :
    Calls Try.prog 34 #[.int .i64 5, .int .i64 1, .slice (some ⟨b, 0, none⟩) 2 c] w (Ret (.int .i64 (valK 5 1 [x, y])) w) := by
  have HW := Lib.hid ((Below.refl w.heap.size w).alloc (Nat.le_refl _) (.cells #[.int .i64 0, .int .i64 0, .int .i64 0] 27))
  have d0 : (w.alloc (.cells #[.int .i64 0, .int .i64 0, .int .i64 0] 27)).cell? ⟨b, 0, none⟩ = some (.int .i64 x) := (HW.out.cell (p := ⟨b, 0, none⟩) hbl).trans c0
  have d1 : (w.alloc (.cells #[.int .i64 0, .int .i64 0, .int .i64 0] 27)).cell? ⟨b, 1, none⟩ = some (.int .i64 y) := (HW.out.cell (p := ⟨b, 1, none⟩) hbl).trans c1
  have HV := Lib.hid (show valK 5 1 [x, y] = (if y % x = 0 then 1 else 0) by simp [valK, nxV])
  rw [HV.out]
  clear HV
  have t1 : y.tmod x = y % x := Int.tmod_eq_emod_of_nonneg (by omega)
  have t2 : ¬ x = 0 := by omega
  have t3 : (x == 0) = false := by rw [beq_eq_false_iff_ne]; omega
  have t4 : 0 ≤ y % x ∧ y % x < x := ⟨Int.emod_nonneg _ t2, Int.emod_lt_of_pos _ (by omega)⟩
  have t5 : IntKind.i64.wrap (y % x) = y % x := IntWalk.i64_in _ (by omega)
  by_cases hq : y % x = 0
  · rw [if_pos hq]
    have hqb : (y % x == 0) = true := by simp [hq]
    go_enter Try.func34, Try.ntmps34
    go_wp2_with fail
    go_quiet (fail)
    go_wp2_with fail
    go_ret
    exact ⟨rfl, by first | exact Below.refl _ _ | exact below_drewN (Below.refl _ _) _⟩
  · rw [if_neg hq]
    have hqb : (y % x == 0) = false := by simp [hq]
    go_enter Try.func34, Try.ntmps34
    go_wp2_with fail
    go_quiet (fail)
    go_wp2_with fail
    go_ret
    exact ⟨rfl, by first | exact Below.refl _ _ | exact below_drewN (Below.refl _ _) _⟩
set_option maxHeartbeats 1000000 in
theorem pzValue_5_3_0 (b c : Nat) (x y z : Int) (w : World) (hbl : b < w.heap.size) (hx : 1 ≤ x ∧ x ≤ 12) (hy : 1 ≤ y ∧ y ≤ 12) (hz : 1 ≤ z ∧ z ≤ 12) (c0 : w.cell? ⟨b, 0, none⟩ = some (.int .i64 x)) (c1 : w.cell? ⟨b, 1, none⟩ = some (.int .i64 y)) (c2 : w.cell? ⟨b, 2, none⟩ = some (.int .i64 z)) :
    Calls Try.prog 34 #[.int .i64 5, .int .i64 0, .slice (some ⟨b, 0, none⟩) 3 c] w (Ret (.int .i64 (valK 5 0 [x, y, z])) w) := by
  have HW := Lib.hid ((Below.refl w.heap.size w).alloc (Nat.le_refl _) (.cells #[.int .i64 0, .int .i64 0, .int .i64 0] 27))
  have d0 : (w.alloc (.cells #[.int .i64 0, .int .i64 0, .int .i64 0] 27)).cell? ⟨b, 0, none⟩ = some (.int .i64 x) := (HW.out.cell (p := ⟨b, 0, none⟩) hbl).trans c0
  have d1 : (w.alloc (.cells #[.int .i64 0, .int .i64 0, .int .i64 0] 27)).cell? ⟨b, 1, none⟩ = some (.int .i64 y) := (HW.out.cell (p := ⟨b, 1, none⟩) hbl).trans c1
  have d2 : (w.alloc (.cells #[.int .i64 0, .int .i64 0, .int .i64 0] 27)).cell? ⟨b, 2, none⟩ = some (.int .i64 z) := (HW.out.cell (p := ⟨b, 2, none⟩) hbl).trans c2
  have HV := Lib.hid (show valK 5 0 [x, y, z] = (if x % y = 0 then 1 else 0) by simp [valK, nxV])
  rw [HV.out]
  clear HV
  have t1 : x.tmod y = x % y := Int.tmod_eq_emod_of_nonneg (by omega)
  have t2 : ¬ y = 0 := by omega
  have t3 : (y == 0) = false := by rw [beq_eq_false_iff_ne]; omega
  have t4 : 0 ≤ x % y ∧ x % y < y := ⟨Int.emod_nonneg _ t2, Int.emod_lt_of_pos _ (by omega)⟩
  have t5 : IntKind.i64.wrap (x % y) = x % y := IntWalk.i64_in _ (by omega)
  by_cases hq : x % y = 0
  · rw [if_pos hq]
    have hqb : (x % y == 0) = true := by simp [hq]
    go_enter Try.func34, Try.ntmps34
    go_wp2_with fail
    go_quiet (fail)
    go_wp2_with fail
    go_ret
    exact ⟨rfl, by first | exact Below.refl _ _ | exact below_drewN (Below.refl _ _) _⟩
  · rw [if_neg hq]
    have hqb : (x % y == 0) = false := by simp [hq]
    go_enter Try.func34, Try.ntmps34
    go_wp2_with fail
    go_quiet (fail)
    go_wp2_with fail
    go_ret
    exact ⟨rfl, by first | exact Below.refl _ _ | exact below_drewN (Below.refl _ _) _⟩
set_option maxHeartbeats 1000000 in
theorem pzValue_5_3_1 (b c : Nat) (x y z : Int) (w : World) (hbl : b < w.heap.size) (hx : 1 ≤ x ∧ x ≤ 12) (hy : 1 ≤ y ∧ y ≤ 12) (hz : 1 ≤ z ∧ z ≤ 12) (c0 : w.cell? ⟨b, 0, none⟩ = some (.int .i64 x)) (c1 : w.cell? ⟨b, 1, none⟩ = some (.int .i64 y)) (c2 : w.cell? ⟨b, 2, none⟩ = some (.int .i64 z)) :
    Calls Try.prog 34 #[.int .i64 5, .int .i64 1, .slice (some ⟨b, 0, none⟩) 3 c] w (Ret (.int .i64 (valK 5 1 [x, y, z])) w) := by
  have HW := Lib.hid ((Below.refl w.heap.size w).alloc (Nat.le_refl _) (.cells #[.int .i64 0, .int .i64 0, .int .i64 0] 27))
  have d0 : (w.alloc (.cells #[.int .i64 0, .int .i64 0, .int .i64 0] 27)).cell? ⟨b, 0, none⟩ = some (.int .i64 x) := (HW.out.cell (p := ⟨b, 0, none⟩) hbl).trans c0
  have d1 : (w.alloc (.cells #[.int .i64 0, .int .i64 0, .int .i64 0] 27)).cell? ⟨b, 1, none⟩ = some (.int .i64 y) := (HW.out.cell (p := ⟨b, 1, none⟩) hbl).trans c1
  have d2 : (w.alloc (.cells #[.int .i64 0, .int .i64 0, .int .i64 0] 27)).cell? ⟨b, 2, none⟩ = some (.int .i64 z) := (HW.out.cell (p := ⟨b, 2, none⟩) hbl).trans c2
  have HV := Lib.hid (show valK 5 1 [x, y, z] = (if y % z = 0 then 1 else 0) by simp [valK, nxV])
  rw [HV.out]
  clear HV
  have t1 : y.tmod z = y % z := Int.tmod_eq_emod_of_nonneg (by omega)
  have t2 : ¬ z = 0 := by omega
  have t3 : (z == 0) = false := by rw [beq_eq_false_iff_ne]; omega
  have t4 : 0 ≤ y % z ∧ y % z < z := ⟨Int.emod_nonneg _ t2, Int.emod_lt_of_pos _ (by omega)⟩
  have t5 : IntKind.i64.wrap (y % z) = y % z := IntWalk.i64_in _ (by omega)
  by_cases hq : y % z = 0
  · rw [if_pos hq]
    have hqb : (y % z == 0) = true := by simp [hq]
    go_enter Try.func34, Try.ntmps34
    go_wp2_with fail
    go_quiet (fail)
    go_wp2_with fail
    go_ret
    exact ⟨rfl, by first | exact Below.refl _ _ | exact below_drewN (Below.refl _ _) _⟩
  · rw [if_neg hq]
    have hqb : (y % z == 0) = false := by simp [hq]
    go_enter Try.func34, Try.ntmps34
    go_wp2_with fail
    go_quiet (fail)
    go_wp2_with fail
    go_ret
    exact ⟨rfl, by first | exact Below.refl _ _ | exact below_drewN (Below.refl _ _) _⟩
set_option maxHeartbeats 1000000 in
theorem pzValue_5_3_2 (b c : Nat) (x y z : Int) (w : World) (hbl : b < w.heap.size) (hx : 1 ≤ x ∧ x ≤ 12) (hy : 1 ≤ y ∧ y ≤ 12) (hz : 1 ≤ z ∧ z ≤ 12) (c0 : w.cell? ⟨b, 0, none⟩ = some (.int .i64 x)) (c1 : w.cell? ⟨b, 1, none⟩ = some (.int .i64 y)) (c2 : w.cell? ⟨b, 2, none⟩ = some (.int .i64 z)) :
    Calls Try.prog 34 #[.int .i64 5, .int .i64 2, .slice (some ⟨b, 0, none⟩) 3 c] w (Ret (.int .i64 (valK 5 2 [x, y, z])) w) := by
  have HW := Lib.hid ((Below.refl w.heap.size w).alloc (Nat.le_refl _) (.cells #[.int .i64 0, .int .i64 0, .int .i64 0] 27))
  have d0 : (w.alloc (.cells #[.int .i64 0, .int .i64 0, .int .i64 0] 27)).cell? ⟨b, 0, none⟩ = some (.int .i64 x) := (HW.out.cell (p := ⟨b, 0, none⟩) hbl).trans c0
  have d1 : (w.alloc (.cells #[.int .i64 0, .int .i64 0, .int .i64 0] 27)).cell? ⟨b, 1, none⟩ = some (.int .i64 y) := (HW.out.cell (p := ⟨b, 1, none⟩) hbl).trans c1
  have d2 : (w.alloc (.cells #[.int .i64 0, .int .i64 0, .int .i64 0] 27)).cell? ⟨b, 2, none⟩ = some (.int .i64 z) := (HW.out.cell (p := ⟨b, 2, none⟩) hbl).trans c2
  have HV := Lib.hid (show valK 5 2 [x, y, z] = (if z % x = 0 then 1 else 0) by simp [valK, nxV])
  rw [HV.out]
  clear HV
  have t1 : z.tmod x = z % x := Int.tmod_eq_emod_of_nonneg (by omega)
  have t2 : ¬ x = 0 := by omega
  have t3 : (x == 0) = false := by rw [beq_eq_false_iff_ne]; omega
  have t4 : 0 ≤ z % x ∧ z % x < x := ⟨Int.emod_nonneg _ t2, Int.emod_lt_of_pos _ (by omega)⟩
  have t5 : IntKind.i64.wrap (z % x) = z % x := IntWalk.i64_in _ (by omega)
  by_cases hq : z % x = 0
  · rw [if_pos hq]
    have hqb : (z % x == 0) = true := by simp [hq]
    go_enter Try.func34, Try.ntmps34
    go_wp2_with fail
    go_quiet (fail)
    go_wp2_with fail
    go_ret
    exact ⟨rfl, by first | exact Below.refl _ _ | exact below_drewN (Below.refl _ _) _⟩
  · rw [if_neg hq]
    have hqb : (z % x == 0) = false := by simp [hq]
    go_enter Try.func34, Try.ntmps34
    go_wp2_with fail
    go_quiet (fail)
    go_wp2_with fail
    go_ret
    exact ⟨rfl, by first | exact Below.refl _ _ | exact below_drewN (Below.refl _ _) _⟩
theorem clueOf_any (b c n a : Nat) (k : Int) (l : List Int) (w : World) (hl : l.length = n) (hk : 0 ≤ k ∧ k ≤ 5) (ha : a < n) (hd : Hdn l) (hbl : b < w.heap.size) (hI : Ints w b 0 l) :
    Calls Try.prog 27 #[.int .i64 k, .int .i64 (a : Int), .slice (some ⟨b, 0, none⟩) n c] w (Ret (.agg #[.int .i64 k, .int .i64 (whoK k a), .int .i64 (valK k a l)]) w) := by
  subst hl
  obtain ⟨hn, hm⟩ := hd
  rcases hn with hn | hn
  · match l, hn with
    | [x, y], _ =>
      have c0 := hI 0 (by simp)
      have c1 := hI 1 (by simp)
      have hx := hm x (by simp)
      have hy := hm y (by simp)
      simp at c0 c1 ha
      rcases (show a = 0 ∨ a = 1 by omega) with rfl | rfl
      · rcases (show k = 0 ∨ k = 1 ∨ k = 2 ∨ k = 3 ∨ k = 4 ∨ k = 5 by omega) with rfl | rfl | rfl | rfl | rfl | rfl
        · exact clueOf_0_2_0 b c x y w hbl hx hy c0 c1
        · exact clueOf_1_2_0 b c x y w hbl hx hy c0 c1
        · exact clueOf_2_2_0 b c x y w hbl hx hy c0 c1
        · exact clueOf_3_2_0 b c x y w hbl hx hy c0 c1
        · exact clueOf_4_2_0 b c x y w hbl hx hy c0 c1
        · exact clueOf_5_2_0 b c x y w hbl hx hy c0 c1
      · rcases (show k = 0 ∨ k = 1 ∨ k = 2 ∨ k = 3 ∨ k = 4 ∨ k = 5 by omega) with rfl | rfl | rfl | rfl | rfl | rfl
        · exact clueOf_0_2_1 b c x y w hbl hx hy c0 c1
        · exact clueOf_1_2_1 b c x y w hbl hx hy c0 c1
        · exact clueOf_2_2_1 b c x y w hbl hx hy c0 c1
        · exact clueOf_3_2_1 b c x y w hbl hx hy c0 c1
        · exact clueOf_4_2_1 b c x y w hbl hx hy c0 c1
        · exact clueOf_5_2_1 b c x y w hbl hx hy c0 c1
  · match l, hn with
    | [x, y, z], _ =>
      have c0 := hI 0 (by simp)
      have c1 := hI 1 (by simp)
      have c2 := hI 2 (by simp)
      have hx := hm x (by simp)
      have hy := hm y (by simp)
      have hz := hm z (by simp)
      simp at c0 c1 c2 ha
      rcases (show a = 0 ∨ a = 1 ∨ a = 2 by omega) with rfl | rfl | rfl
      · rcases (show k = 0 ∨ k = 1 ∨ k = 2 ∨ k = 3 ∨ k = 4 ∨ k = 5 by omega) with rfl | rfl | rfl | rfl | rfl | rfl
        · exact clueOf_0_3_0 b c x y z w hbl hx hy hz c0 c1 c2
        · exact clueOf_1_3_0 b c x y z w hbl hx hy hz c0 c1 c2
        · exact clueOf_2_3_0 b c x y z w hbl hx hy hz c0 c1 c2
        · exact clueOf_3_3_0 b c x y z w hbl hx hy hz c0 c1 c2
        · exact clueOf_4_3_0 b c x y z w hbl hx hy hz c0 c1 c2
        · exact clueOf_5_3_0 b c x y z w hbl hx hy hz c0 c1 c2
      · rcases (show k = 0 ∨ k = 1 ∨ k = 2 ∨ k = 3 ∨ k = 4 ∨ k = 5 by omega) with rfl | rfl | rfl | rfl | rfl | rfl
        · exact clueOf_0_3_1 b c x y z w hbl hx hy hz c0 c1 c2
        · exact clueOf_1_3_1 b c x y z w hbl hx hy hz c0 c1 c2
        · exact clueOf_2_3_1 b c x y z w hbl hx hy hz c0 c1 c2
        · exact clueOf_3_3_1 b c x y z w hbl hx hy hz c0 c1 c2
        · exact clueOf_4_3_1 b c x y z w hbl hx hy hz c0 c1 c2
        · exact clueOf_5_3_1 b c x y z w hbl hx hy hz c0 c1 c2
      · rcases (show k = 0 ∨ k = 1 ∨ k = 2 ∨ k = 3 ∨ k = 4 ∨ k = 5 by omega) with rfl | rfl | rfl | rfl | rfl | rfl
        · exact clueOf_0_3_2 b c x y z w hbl hx hy hz c0 c1 c2
        · exact clueOf_1_3_2 b c x y z w hbl hx hy hz c0 c1 c2
        · exact clueOf_2_3_2 b c x y z w hbl hx hy hz c0 c1 c2
        · exact clueOf_3_3_2 b c x y z w hbl hx hy hz c0 c1 c2
        · exact clueOf_4_3_2 b c x y z w hbl hx hy hz c0 c1 c2
        · exact clueOf_5_3_2 b c x y z w hbl hx hy hz c0 c1 c2
theorem pzValue_any (b c n a : Nat) (k : Int) (l : List Int) (w : World) (hl : l.length = n) (hk : 0 ≤ k ∧ k ≤ 5) (ha : a < n) (hd : Hdn l) (hbl : b < w.heap.size) (hI : Ints w b 0 l) :
    Calls Try.prog 34 #[.int .i64 k, .int .i64 (a : Int), .slice (some ⟨b, 0, none⟩) n c] w (Ret (.int .i64 (valK k a l)) w) := by
  subst hl
  obtain ⟨hn, hm⟩ := hd
  rcases hn with hn | hn
  · match l, hn with
    | [x, y], _ =>
      have c0 := hI 0 (by simp)
      have c1 := hI 1 (by simp)
      have hx := hm x (by simp)
      have hy := hm y (by simp)
      simp at c0 c1 ha
      rcases (show a = 0 ∨ a = 1 by omega) with rfl | rfl
      · rcases (show k = 0 ∨ k = 1 ∨ k = 2 ∨ k = 3 ∨ k = 4 ∨ k = 5 by omega) with rfl | rfl | rfl | rfl | rfl | rfl
        · exact pzValue_0_2_0 b c x y w hbl hx hy c0 c1
        · exact pzValue_1_2_0 b c x y w hbl hx hy c0 c1
        · exact pzValue_2_2_0 b c x y w hbl hx hy c0 c1
        · exact pzValue_3_2_0 b c x y w hbl hx hy c0 c1
        · exact pzValue_4_2_0 b c x y w hbl hx hy c0 c1
        · exact pzValue_5_2_0 b c x y w hbl hx hy c0 c1
      · rcases (show k = 0 ∨ k = 1 ∨ k = 2 ∨ k = 3 ∨ k = 4 ∨ k = 5 by omega) with rfl | rfl | rfl | rfl | rfl | rfl
        · exact pzValue_0_2_1 b c x y w hbl hx hy c0 c1
        · exact pzValue_1_2_1 b c x y w hbl hx hy c0 c1
        · exact pzValue_2_2_1 b c x y w hbl hx hy c0 c1
        · exact pzValue_3_2_1 b c x y w hbl hx hy c0 c1
        · exact pzValue_4_2_1 b c x y w hbl hx hy c0 c1
        · exact pzValue_5_2_1 b c x y w hbl hx hy c0 c1
  · match l, hn with
    | [x, y, z], _ =>
      have c0 := hI 0 (by simp)
      have c1 := hI 1 (by simp)
      have c2 := hI 2 (by simp)
      have hx := hm x (by simp)
      have hy := hm y (by simp)
      have hz := hm z (by simp)
      simp at c0 c1 c2 ha
      rcases (show a = 0 ∨ a = 1 ∨ a = 2 by omega) with rfl | rfl | rfl
      · rcases (show k = 0 ∨ k = 1 ∨ k = 2 ∨ k = 3 ∨ k = 4 ∨ k = 5 by omega) with rfl | rfl | rfl | rfl | rfl | rfl
        · exact pzValue_0_3_0 b c x y z w hbl hx hy hz c0 c1 c2
        · exact pzValue_1_3_0 b c x y z w hbl hx hy hz c0 c1 c2
        · exact pzValue_2_3_0 b c x y z w hbl hx hy hz c0 c1 c2
        · exact pzValue_3_3_0 b c x y z w hbl hx hy hz c0 c1 c2
        · exact pzValue_4_3_0 b c x y z w hbl hx hy hz c0 c1 c2
        · exact pzValue_5_3_0 b c x y z w hbl hx hy hz c0 c1 c2
      · rcases (show k = 0 ∨ k = 1 ∨ k = 2 ∨ k = 3 ∨ k = 4 ∨ k = 5 by omega) with rfl | rfl | rfl | rfl | rfl | rfl
        · exact pzValue_0_3_1 b c x y z w hbl hx hy hz c0 c1 c2
        · exact pzValue_1_3_1 b c x y z w hbl hx hy hz c0 c1 c2
        · exact pzValue_2_3_1 b c x y z w hbl hx hy hz c0 c1 c2
        · exact pzValue_3_3_1 b c x y z w hbl hx hy hz c0 c1 c2
        · exact pzValue_4_3_1 b c x y z w hbl hx hy hz c0 c1 c2
        · exact pzValue_5_3_1 b c x y z w hbl hx hy hz c0 c1 c2
      · rcases (show k = 0 ∨ k = 1 ∨ k = 2 ∨ k = 3 ∨ k = 4 ∨ k = 5 by omega) with rfl | rfl | rfl | rfl | rfl | rfl
        · exact pzValue_0_3_2 b c x y z w hbl hx hy hz c0 c1 c2
        · exact pzValue_1_3_2 b c x y z w hbl hx hy hz c0 c1 c2
        · exact pzValue_2_3_2 b c x y z w hbl hx hy hz c0 c1 c2
        · exact pzValue_3_3_2 b c x y z w hbl hx hy hz c0 c1 c2
        · exact pzValue_4_3_2 b c x y z w hbl hx hy hz c0 c1 c2
        · exact pzValue_5_3_2 b c x y z w hbl hx hy hz c0 c1 c2
end Go.Proofs.Ytkkjbkagkmngkab
