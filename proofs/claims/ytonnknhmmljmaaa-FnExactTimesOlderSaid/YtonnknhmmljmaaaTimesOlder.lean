/- TimesOlder: both texts. -/
import Derived.Test.YtonnknhmmljmaaaLow
import Derived.Test.YtonnknhmmljmaaaWho
import Derived.Deep.RegionHeld3
set_option linter.unusedVariables false
set_option linter.unusedSimpArgs false
namespace Go.Proofs.Ytonnknhmmljmaaa
open Go.RowKit

set_option maxHeartbeats 1600000 in
theorem timesOlder_yes (b off c A B : Nat) (zs : List Int) (w : World) (hn : zs.length ≤ 1048576) (hI : Ints w b off zs) (hA : whoB zs A = true) (hB : whoB zs B = true) (h0 : zs.getD B 0 ≠ 0) (X Y : Nat) (hX : zs.getD A 0 = (X : Int)) (hY : zs.getD B 0 = (Y : Int)) (hX1 : X ≤ 120) (hY1 : Y ≤ 120) (hA1 : A < zs.length) (hB1 : B < zs.length) :
    Calls Try.prog 36 #[.slice (some ⟨b, off, none⟩) zs.length c, .int .i64 A, .int .i64 B] w (RetIIB (lowN X Y) (lowD X Y) true w) := by
  have h8 := goodB_len (whoB_good hA)
  have hbl := ints_lt hI (by omega)
  have hW := Lib.hid fun A => (Below.refl w.heap.size w).alloc (Nat.le_refl _) A
  have hI' := Lib.hid fun A => hI.kept (hW.out A) hbl
  have HP := Lib.hid (show (goodB zs 120 && allB [(A : Int), (B : Int)] 0 ((zs.length : Int) - 1)) = true by rw [who_two, hA, hB]; rfl)
  have hcA := fun O => (hI'.out O) A hA1
  have hcB := fun O => (hI'.out O) B hB1
  rw [hX] at hcA
  rw [hY] at hcB
  have hYp : 1 ≤ Y := by rw [hY] at h0; omega
  have hBd : ∀ O, Below w.heap.size w (w.alloc O).drew := fun O => (hW.out O).drew
  have hne : ((Y : Int) == 0) = false := beq_eq_false_iff_ne.2 (by omega)
  have a0 : (0 : Int) ≤ (A : Int) := by omega
  have a1 : (A : Int) < (zs.length : Int) := by omega
  have b0 : (0 : Int) ≤ (B : Int) := by omega
  have b1 : (B : Int) < (zs.length : Int) := by omega
  clear hA hB h0 hX hY hI
  go_enter Try.func36, Try.ntmps36
  go_wp2_with fail
  refine (arePeople_any _ _ _ _ _ _ _ _ zs [(A : Int), (B : Int)] _ rfl hn (hI'.out _) rfl (by simp) (ints_two _ _ _ (by simp))).mono ?_
  rintro e w' ⟨rfl, rfl⟩
  rw [HP.out]
  go_wp2_with fail
  go_region_held3 (fun w' => Below w.heap.size w w' ∧ w'.cell? ⟨b, off + A, none⟩ = some (.int .i64 X) ∧ w'.cell? ⟨b, off + B, none⟩ = some (.int .i64 Y))
    (first
      | go_keep
      | (go_split_ands
         refine ⟨?_, ?_, ?_⟩
         · exact Below.trans (by assumption) (Below.mono hcall (Below.size (by assumption)))
         · exact (hcall.cell (p := ⟨b, off + A, none⟩) (World.block_lt_of_cell? _ _ (by assumption))).trans (by assumption)
         · exact (hcall.cell (p := ⟨b, off + B, none⟩) (World.block_lt_of_cell? _ _ (by assumption))).trans (by assumption)))
    (first | (go_at_call 67; refine (lowestTerms_any X Y _ (by omega) hYp (by omega)).mono ?_; rintro e w' ⟨rfl, hcall⟩))
  obtain ⟨hb, _⟩ := ‹Below w.heap.size w _ ∧ _›
  go_wp2
  go_ret3
  exact ⟨rfl, hb⟩

set_option maxHeartbeats 1000000 in
theorem timesOlder_no (b off c : Nat) (x y : Int) (zs : List Int) (w : World) (hn : zs.length ≤ 1048576) (hbl : b < w.heap.size) (hI : Ints w b off zs) (hno : (whoB zs x && whoB zs y) = false) :
    Calls Try.prog 36 #[.slice (some ⟨b, off, none⟩) zs.length c, .int .i64 x, .int .i64 y] w (RetIIB 0 0 false w) := by
  have hW := Lib.hid fun A => (Below.refl w.heap.size w).alloc (Nat.le_refl _) A
  have hI' := Lib.hid fun A => hI.kept (hW.out A) hbl
  have HP := Lib.hid (show (goodB zs 120 && allB [x, y] 0 ((zs.length : Int) - 1)) = false by rw [who_two, hno])
  clear hno
  go_enter Try.func36, Try.ntmps36
  go_wp2_with fail
  refine (arePeople_any _ _ _ _ _ _ _ _ zs [x, y] _ rfl hn (hI'.out _) rfl (by simp) (ints_two _ _ _ (by simp))).mono ?_
  rintro e w' ⟨rfl, rfl⟩
  rw [HP.out]
  go_wp2_with fail
  go_ret3
  exact ⟨rfl, hW.out _⟩
set_option maxHeartbeats 1000000 in
theorem timesOlder_zero (b off c A B : Nat) (zs : List Int) (w : World) (hn : zs.length ≤ 1048576) (hI : Ints w b off zs) (hA : whoB zs A = true) (hB : whoB zs B = true) (h0 : zs.getD B 0 = 0) (hB1 : B < zs.length) :
    Calls Try.prog 36 #[.slice (some ⟨b, off, none⟩) zs.length c, .int .i64 A, .int .i64 B] w (RetIIB 0 0 false w) := by
  have h8 := goodB_len (whoB_good hA)
  have hbl := ints_lt hI (by omega)
  have hW := Lib.hid fun A => (Below.refl w.heap.size w).alloc (Nat.le_refl _) A
  have hI' := Lib.hid fun A => hI.kept (hW.out A) hbl
  have HP := Lib.hid (show (goodB zs 120 && allB [(A : Int), (B : Int)] 0 ((zs.length : Int) - 1)) = true by rw [who_two, hA, hB]; rfl)
  have hcB := fun O => (hI'.out O) B hB1
  rw [h0] at hcB
  have b0 : (0 : Int) ≤ (B : Int) := by omega
  have b1 : (B : Int) < (zs.length : Int) := by omega
  clear hA hB h0 hI
  go_enter Try.func36, Try.ntmps36
  go_wp2_with fail
  refine (arePeople_any _ _ _ _ _ _ _ _ zs [(A : Int), (B : Int)] _ rfl hn (hI'.out _) rfl (by simp) (ints_two _ _ _ (by simp))).mono ?_
  rintro e w' ⟨rfl, rfl⟩
  rw [HP.out]
  go_wp2_with fail
  go_ret3
  exact ⟨rfl, hW.out _⟩

set_option maxHeartbeats 1600000 in
theorem specTimesOlder_yes (b off c A B : Nat) (zs : List Int) (w : World) (hn : zs.length ≤ 1048576) (hI : Ints w b off zs) (hA : whoB zs A = true) (hB : whoB zs B = true) (h0 : zs.getD B 0 ≠ 0) (X Y : Nat) (hX : zs.getD A 0 = (X : Int)) (hY : zs.getD B 0 = (Y : Int)) (hX1 : X ≤ 120) (hY1 : Y ≤ 120) (hA1 : A < zs.length) (hB1 : B < zs.length) :
    Calls Try.prog 35 #[.slice (some ⟨b, off, none⟩) zs.length c, .int .i64 A, .int .i64 B] w (RetIIB (lowN X Y) (lowD X Y) true w) := by
  have hcA := hI A hA1
  have hcB := hI B hB1
  rw [hX] at hcA
  rw [hY] at hcB
  have hYp : 1 ≤ Y := by rw [hY] at h0; omega
  have hne : ((Y : Int) == 0) = false := beq_eq_false_iff_ne.2 (by omega)
  have a0 : (0 : Int) ≤ (A : Int) := by omega
  have a1 : (A : Int) < (zs.length : Int) := by omega
  have b0 : (0 : Int) ≤ (B : Int) := by omega
  have b1 : (B : Int) < (zs.length : Int) := by omega
  have HB0 : Below w.heap.size w w.drew := (Below.refl _ _).drew
  clear h0 hX hY
  go_enter Try.func35, Try.ntmps35
  go_wp2_with (first | (go_at_call 68; refine (agWho_any _ _ _ _ zs _ hn hI).mono ?_; rintro e w' ⟨rfl, rfl⟩))
  clear hA hB
  go_region_held3 (fun w' => Below w.heap.size w w' ∧ w'.cell? ⟨b, off + A, none⟩ = some (.int .i64 X) ∧ w'.cell? ⟨b, off + B, none⟩ = some (.int .i64 Y))
    (first
      | go_keep
      | (go_split_ands
         refine ⟨?_, ?_, ?_⟩
         · exact Below.trans (by assumption) (Below.mono hcall (Below.size (by assumption)))
         · exact (hcall.cell (p := ⟨b, off + A, none⟩) (World.block_lt_of_cell? _ _ (by assumption))).trans (by assumption)
         · exact (hcall.cell (p := ⟨b, off + B, none⟩) (World.block_lt_of_cell? _ _ (by assumption))).trans (by assumption)))
    (first | (go_at_call 66; refine (agLow_any X Y _ (by omega) hYp (by omega)).mono ?_; rintro e w' ⟨rfl, hcall⟩))
  obtain ⟨hb, _⟩ := ‹Below w.heap.size w _ ∧ _›
  go_wp2
  go_ret3
  exact ⟨rfl, hb⟩

set_option maxHeartbeats 1000000 in
theorem specTimesOlder_no (b off c : Nat) (x y : Int) (zs : List Int) (w : World) (hn : zs.length ≤ 1048576) (hI : Ints w b off zs) (hno : (whoB zs x && whoB zs y) = false) :
    Calls Try.prog 35 #[.slice (some ⟨b, off, none⟩) zs.length c, .int .i64 x, .int .i64 y] w (RetIIB 0 0 false w) := by
  cases h1 : whoB zs x with
  | false =>
    clear hno
    go_enter Try.func35, Try.ntmps35
    go_wp2_with (first | (go_at_call 68; refine (agWho_any _ _ _ _ zs _ hn hI).mono ?_; rintro e w' ⟨rfl, rfl⟩))
    go_ret3
    exact ⟨rfl, Below.refl _ _⟩
  | true =>
    have h2 : whoB zs y = false := by rw [h1] at hno; exact hno
    clear hno
    go_enter Try.func35, Try.ntmps35
    go_wp2_with (first | (go_at_call 68; refine (agWho_any _ _ _ _ zs _ hn hI).mono ?_; rintro e w' ⟨rfl, rfl⟩))
    go_ret3
    exact ⟨rfl, Below.refl _ _⟩
set_option maxHeartbeats 1000000 in
theorem specTimesOlder_zero (b off c A B : Nat) (zs : List Int) (w : World) (hn : zs.length ≤ 1048576) (hI : Ints w b off zs) (hA : whoB zs A = true) (hB : whoB zs B = true) (h0 : zs.getD B 0 = 0) (hB1 : B < zs.length) :
    Calls Try.prog 35 #[.slice (some ⟨b, off, none⟩) zs.length c, .int .i64 A, .int .i64 B] w (RetIIB 0 0 false w) := by
  have hcB := hI B hB1
  rw [h0] at hcB
  have b0 : (0 : Int) ≤ (B : Int) := by omega
  have b1 : (B : Int) < (zs.length : Int) := by omega
  clear h0
  go_enter Try.func35, Try.ntmps35
  go_wp2_with (first | (go_at_call 68; refine (agWho_any _ _ _ _ zs _ hn hI).mono ?_; rintro e w' ⟨rfl, rfl⟩))
  go_ret3
  exact ⟨rfl, Below.refl _ _⟩

theorem timesOlder_both (zs : List Int) (x y : Int) : ∃ r1 r2 ok,
    (∀ b c w, zs.length ≤ 1048576 → b < w.heap.size → Ints w b 0 zs → Calls Try.prog 35 #[.slice (some ⟨b, 0, none⟩) zs.length c, .int .i64 x, .int .i64 y] w (RetIIB r1 r2 ok w)) ∧
    (∀ b c w, zs.length ≤ 1048576 → b < w.heap.size → Ints w b 0 zs → Calls Try.prog 36 #[.slice (some ⟨b, 0, none⟩) zs.length c, .int .i64 x, .int .i64 y] w (RetIIB r1 r2 ok w)) := by
  cases h : (whoB zs x && whoB zs y) with
  | false => exact ⟨0, 0, false, fun b c w hn hbl hI => specTimesOlder_no _ _ _ _ _ _ _ hn hI h, fun b c w hn hbl hI => timesOlder_no _ _ _ _ _ _ _ hn hbl hI h⟩
  | true =>
    rw [Bool.and_eq_true] at h
    obtain ⟨hA, hB⟩ := h
    obtain ⟨A, rfl, hA1⟩ := whoB_nat hA
    obtain ⟨B, rfl, hB1⟩ := whoB_nat hB
    by_cases h0 : zs.getD B 0 = 0
    · exact ⟨0, 0, false, fun b c w hn hbl hI => specTimesOlder_zero _ _ _ _ _ _ _ hn hI hA hB h0 hB1, fun b c w hn hbl hI => timesOlder_zero _ _ _ _ _ _ _ hn hI hA hB h0 hB1⟩
    · have g1 := goodB_at (whoB_good hA) A hA1
      have g2 := goodB_at (whoB_good hA) B hB1
      obtain ⟨X, hX⟩ : ∃ X : Nat, zs.getD A 0 = (X : Int) := ⟨(zs.getD A 0).toNat, by omega⟩
      obtain ⟨Y, hY⟩ : ∃ Y : Nat, zs.getD B 0 = (Y : Int) := ⟨(zs.getD B 0).toNat, by omega⟩
      exact ⟨lowN X Y, lowD X Y, true, fun b c w hn hbl hI => specTimesOlder_yes _ _ _ _ _ _ _ hn hI hA hB h0 X Y hX hY (by omega) (by omega) hA1 hB1, fun b c w hn hbl hI => timesOlder_yes _ _ _ _ _ _ _ hn hI hA hB h0 X Y hX hY (by omega) (by omega) hA1 hB1⟩
end Go.Proofs.Ytonnknhmmljmaaa
