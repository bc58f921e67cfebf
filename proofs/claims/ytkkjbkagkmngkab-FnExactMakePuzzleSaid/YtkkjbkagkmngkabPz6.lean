/- Whether ages fit a clue: both texts. -/
import Derived.Test.YtkkjbkagkmngkabPz5
import Derived.Deep.RegionHeld3
set_option linter.unusedVariables false
set_option linter.unusedSimpArgs false
namespace Go.Proofs.Ytkkjbkagkmngkab
open Go.RowKit

theorem sum_bd {l : List Int} (h : Hdn l) : 1 ≤ sumL l ∧ sumL l ≤ 80 := by
  have h1 := kid_sum h.kids l.length (Nat.le_refl _)
  rw [List.take_length] at h1
  have := h.1
  omega

/-- The kinds below 6. -/
theorem fits_low (b c n a : Nat) (k B : Int) (l : List Int) (w : World) (hl : l.length = n) (hk : 0 ≤ k ∧ k ≤ 5) (ha : a < n) (hw : (a : Int) = whoK k a) (hd : Hdn l) (hbl : b < w.heap.size) (hI : Ints w b 0 l) :
    Calls Try.prog 21 #[.agg #[.int .i64 k, .int .i64 (a : Int), .int .i64 B], .slice (some ⟨b, 0, none⟩) n c] w (Ret (.bool (valK k a l == B)) w) := by
  have HW := Lib.hid ((Below.refl w.heap.size w).alloc (Nat.le_refl _) (.cells #[.int .i64 k, .int .i64 (a : Int), .int .i64 B] 27))
  have HC := Lib.hid (fun (W : World) (hb : Below w.heap.size w W) => clueOf_any b c n a k l W hl hk ha hd (Nat.lt_of_lt_of_le hbl hb.size) (hI.kept hb hbl))
  rw [← hw] at HC
  generalize valK k a l = v at HC ⊢
  have h6 : (k == 6) = false := by rw [beq_eq_false_iff_ne]; omega
  have h6' : ¬ k = 6 := by omega
  clear hw hI
  generalize (a : Int) = A at HC HW ⊢
  by_cases hv : v = B
  · have hv2 := hv.symm
    subst hv2
    have hsz := Nat.le_refl w.heap.size
    go_enter Try.func21, Try.ntmps21
    go_wp2_with fail
    go_region_held3 (fun w' => Below w.heap.size w w' ∧ w'.cell? ⟨w.heap.size, 0, none⟩ = some (.int .i64 k) ∧ w'.cell? ⟨w.heap.size, 1, none⟩ = some (.int .i64 A) ∧ w'.cell? ⟨w.heap.size, 2, none⟩ = some (.int .i64 B))
      (first
        | (exact ⟨HW.out.drew, by simp [go_sem], by simp [go_sem], by simp [go_sem]⟩)
        | (exact ⟨Below.drew (by assumption), by simpa using (by assumption : World.cell? _ ⟨w.heap.size, 0, none⟩ = _), by simpa using (by assumption : World.cell? _ ⟨w.heap.size, 1, none⟩ = _), by simpa using (by assumption : World.cell? _ ⟨w.heap.size, 2, none⟩ = _)⟩)
        | (go_split_ands
           refine ⟨?_, ?_, ?_, ?_⟩
           · exact Below.trans (by assumption) (Below.mono hcall (Below.size (by assumption)))
           · exact below_cell2 hcall (by assumption)
           · exact below_cell2 hcall (by assumption)
           · exact below_cell2 hcall (by assumption)))
      (first | (go_at_call 27; refine (HC.out _ (by first | assumption | (go_split_ands; assumption))).mono ?_; rintro e w' ⟨rfl, hcall⟩))
    obtain ⟨hbf, _⟩ := ‹Below w.heap.size w _ ∧ _›
    go_wp2_with fail
    go_ret
    exact ⟨by simp, hbf⟩
  · have hn : (v == B) = false := beq_eq_false_iff_ne.2 hv
    have hsz := Nat.le_refl w.heap.size
    go_enter Try.func21, Try.ntmps21
    go_wp2_with fail
    go_region_held3 (fun w' => Below w.heap.size w w' ∧ w'.cell? ⟨w.heap.size, 0, none⟩ = some (.int .i64 k) ∧ w'.cell? ⟨w.heap.size, 1, none⟩ = some (.int .i64 A) ∧ w'.cell? ⟨w.heap.size, 2, none⟩ = some (.int .i64 B))
      (first
        | (exact ⟨HW.out.drew, by simp [go_sem], by simp [go_sem], by simp [go_sem]⟩)
        | (exact ⟨Below.drew (by assumption), by simpa using (by assumption : World.cell? _ ⟨w.heap.size, 0, none⟩ = _), by simpa using (by assumption : World.cell? _ ⟨w.heap.size, 1, none⟩ = _), by simpa using (by assumption : World.cell? _ ⟨w.heap.size, 2, none⟩ = _)⟩)
        | (go_split_ands
           refine ⟨?_, ?_, ?_, ?_⟩
           · exact Below.trans (by assumption) (Below.mono hcall (Below.size (by assumption)))
           · exact below_cell2 hcall (by assumption)
           · exact below_cell2 hcall (by assumption)
           · exact below_cell2 hcall (by assumption)))
      (first | (go_at_call 27; refine (HC.out _ (by first | assumption | (go_split_ands; assumption))).mono ?_; rintro e w' ⟨rfl, hcall⟩))
    obtain ⟨hbf, _⟩ := ‹Below w.heap.size w _ ∧ _›
    go_wp2_with fail
    go_ret
    exact ⟨by rw [hn]; rfl, hbf⟩

/-- Kind 6. -/
theorem fits_six (b c n : Nat) (A B : Int) (l : List Int) (w : World) (hl : l.length = n) (hA : 0 ≤ A ∧ A ≤ 9) (hB : 2 ≤ B ∧ B ≤ 9) (hd : Hdn l) (hbl : b < w.heap.size) (hI : Ints w b 0 l) :
    Calls Try.prog 21 #[.agg #[.int .i64 6, .int .i64 A, .int .i64 B], .slice (some ⟨b, 0, none⟩) n c] w (Ret (.bool ((sumL l + A * (n : Int)) % B == 0)) w) := by
  have hsb := sum_bd hd
  have hn : n ≤ 3 := by have := hd.1; omega
  have HW := Lib.hid ((Below.refl w.heap.size w).alloc (Nat.le_refl _) (.cells #[.int .i64 6, .int .i64 A, .int .i64 B] 27))
  have HC := Lib.hid (fun (W : World) (m : Nat) (e : W = (w.alloc (.cells #[.int .i64 6, .int .i64 A, .int .i64 B] 27)).drewN m) => sumOfSet_any b 0 n c l W hl hd.kids (hI.kept (show Below w.heap.size w W by rw [e]; exact below_drewN HW.out _) hbl))
  generalize sumL l = s at hsb HC ⊢
  have hm : 0 ≤ A * (n : Int) ∧ A * (n : Int) ≤ 27 := by
    refine ⟨Int.mul_nonneg hA.1 (by omega), ?_⟩
    exact Int.le_trans (Int.mul_le_mul hA.2 (show (n : Int) ≤ 3 by omega) (by omega) (by omega)) (by omega)
  have w1 : wrap64 (A * (n : Int)) = A * (n : Int) := IntWalk.wrap64_in _ (by omega)
  have w2 : wrap64 (s + A * (n : Int)) = s + A * (n : Int) := IntWalk.wrap64_in _ (by omega)
  have v1 : IntKind.i64.wrap (A * (n : Int)) = A * (n : Int) := IntWalk.i64_in _ (by omega)
  have v2 : IntKind.i64.wrap (s + A * (n : Int)) = s + A * (n : Int) := IntWalk.i64_in _ (by omega)
  have hq : 0 ≤ s + A * (n : Int) := by omega
  have t1 : (s + A * (n : Int)).tmod B = (s + A * (n : Int)) % B := Int.tmod_eq_emod_of_nonneg hq
  have t2 : ¬ B = 0 := by omega
  have t3 : (B == 0) = false := by rw [beq_eq_false_iff_ne]; omega
  have t4 : 0 ≤ (s + A * (n : Int)) % B ∧ (s + A * (n : Int)) % B < B := ⟨Int.emod_nonneg _ t2, Int.emod_lt_of_pos _ (by omega)⟩
  have t5 : IntKind.i64.wrap ((s + A * (n : Int)) % B) = (s + A * (n : Int)) % B := IntWalk.i64_in _ (by omega)
  clear hI
  go_enter Try.func21, Try.ntmps21
  go_wp2_with fail
  go_big_quiet ((first | (go_at_call 38; exact (HC.out _ _ rfl).mono (fun e w1 h => ⟨h.1, _, h.2.symm⟩))))
  go_wp2_with fail
  go_ret
  exact ⟨rfl, by first | exact below_drewN HW.out _ | exact below_drewN (below_drewN HW.out _) _⟩

theorem fits_any (b c n : Nat) (p : Int) (k : Kn) (l : List Int) (w : World) (hp : p = (n : Int)) (hl : l.length = n) (hc : icB p k = true) (hd : Hdn l) (hbl : b < w.heap.size) (hI : Ints w b 0 l) :
    Calls Try.prog 21 #[.agg #[.int .i64 k.1, .int .i64 k.2.1, .int .i64 k.2.2], .slice (some ⟨b, 0, none⟩) n c] w (Ret (.bool (fitI k l)) w) := by
  obtain ⟨k, A, B⟩ := k
  subst hp
  simp only
  unfold icB at hc
  simp only at hc
  have key : k = 6 ∧ (0 ≤ A ∧ A ≤ 9) ∧ (2 ≤ B ∧ B ≤ 9) ∨ (0 ≤ k ∧ k ≤ 5) ∧ (0 ≤ A ∧ A < n) ∧ ((k = 0 ∨ k = 2 ∨ k = 4) → A = 0) := by
    have hn := hd.1
    split at hc
    · rw [Bool.and_eq_true, decide_eq_true_iff] at hc; exact .inr ⟨by omega, by omega, fun _ => hc.1⟩
    · split at hc
      · rw [Bool.and_eq_true, inB_iff, inB_iff] at hc; exact .inr ⟨by omega, by omega, by omega⟩
      · split at hc
        · rw [Bool.and_eq_true, inB_iff, inB_iff] at hc; exact .inr ⟨by omega, by omega, by omega⟩
        · split at hc
          · rename_i h6
            rw [Bool.and_eq_true, inB_iff, inB_iff] at hc; exact .inl ⟨h6, hc.1, hc.2⟩
          · cases hc
  rcases key with ⟨rfl, hA, hB⟩ | ⟨hk, hA, hz⟩
  · have := fits_six b c n A B l w hl hA hB hd hbl hI
    unfold fitI
    simp only [if_true]
    rwa [hl]
  · obtain ⟨a, rfl⟩ : ∃ a : Nat, A = (a : Int) := ⟨A.toNat, by omega⟩
    have := fits_low b c n a k B l w hl hk (by omega) (by unfold whoK; split <;> omega) hd hbl hI
    unfold fitI
    simp only
    rw [if_neg (by omega), Int.toNat_natCast]
    exact this

/-- The kinds below 6. -/
theorem pzFits_low (b c n a : Nat) (k B : Int) (l : List Int) (w : World) (hl : l.length = n) (hk : 0 ≤ k ∧ k ≤ 5) (ha : a < n) (hw : (a : Int) = whoK k a) (hd : Hdn l) (hbl : b < w.heap.size) (hI : Ints w b 0 l) :
    Calls Try.prog 18 #[.agg #[.int .i64 k, .int .i64 (a : Int), .int .i64 B], .slice (some ⟨b, 0, none⟩) n c] w (Ret (.bool (valK k a l == B)) w) := by
  have HW := Lib.hid ((Below.refl w.heap.size w).alloc (Nat.le_refl _) (.cells #[.int .i64 k, .int .i64 (a : Int), .int .i64 B] 27))
  have HC := Lib.hid (fun (W : World) (hb : Below w.heap.size w W) => pzValue_any b c n a k l W hl hk ha hd (Nat.lt_of_lt_of_le hbl hb.size) (hI.kept hb hbl))
  generalize valK k a l = v at HC ⊢
  have h6 : (k == 6) = false := by rw [beq_eq_false_iff_ne]; omega
  have h6' : ¬ k = 6 := by omega
  clear hw hI
  generalize (a : Int) = A at HC HW ⊢
  have hsz := Nat.le_refl w.heap.size
  go_enter Try.func18, Try.ntmps18
  go_wp2_with fail
  go_region_held3 (fun w' => Below w.heap.size w w' ∧ w'.cell? ⟨w.heap.size, 0, none⟩ = some (.int .i64 k) ∧ w'.cell? ⟨w.heap.size, 1, none⟩ = some (.int .i64 A) ∧ w'.cell? ⟨w.heap.size, 2, none⟩ = some (.int .i64 B))
    (first
      | (exact ⟨HW.out.drew, by simp [go_sem], by simp [go_sem], by simp [go_sem]⟩)
      | (exact ⟨Below.drew (by assumption), by simpa using (by assumption : World.cell? _ ⟨w.heap.size, 0, none⟩ = _), by simpa using (by assumption : World.cell? _ ⟨w.heap.size, 1, none⟩ = _), by simpa using (by assumption : World.cell? _ ⟨w.heap.size, 2, none⟩ = _)⟩)
      | (go_split_ands
         refine ⟨?_, ?_, ?_, ?_⟩
         · exact Below.trans (by assumption) (Below.mono hcall (Below.size (by assumption)))
         · exact below_cell2 hcall (by assumption)
         · exact below_cell2 hcall (by assumption)
         · exact below_cell2 hcall (by assumption)))
    (first | (go_at_call 34; refine (HC.out _ (by first | assumption | (go_split_ands; assumption))).mono ?_; rintro e w' ⟨rfl, hcall⟩))
  obtain ⟨hbf, _⟩ := ‹Below w.heap.size w _ ∧ _›
  go_wp2_with fail
  go_ret
  exact ⟨rfl, hbf⟩

/-- Kind 6. -/
theorem pzFits_six (b c n : Nat) (A B : Int) (l : List Int) (w : World) (hl : l.length = n) (hA : 0 ≤ A ∧ A ≤ 9) (hB : 2 ≤ B ∧ B ≤ 9) (hd : Hdn l) (hbl : b < w.heap.size) (hI : Ints w b 0 l) :
    Calls Try.prog 18 #[.agg #[.int .i64 6, .int .i64 A, .int .i64 B], .slice (some ⟨b, 0, none⟩) n c] w (Ret (.bool ((sumL l + A * (n : Int)) % B == 0)) w) := by
  have hsb := sum_bd hd
  have hn : n ≤ 3 := by have := hd.1; omega
  have HW := Lib.hid ((Below.refl w.heap.size w).alloc (Nat.le_refl _) (.cells #[.int .i64 6, .int .i64 A, .int .i64 B] 27))
  have HC := Lib.hid (fun (W : World) (m : Nat) (e : W = (w.alloc (.cells #[.int .i64 6, .int .i64 A, .int .i64 B] 27)).drewN m) => agSum_kids b 0 n c l W hl hd.kids (hI.kept (show Below w.heap.size w W by rw [e]; exact below_drewN HW.out _) hbl))
  generalize sumL l = s at hsb HC ⊢
  have hm : 0 ≤ A * (n : Int) ∧ A * (n : Int) ≤ 27 := by
    refine ⟨Int.mul_nonneg hA.1 (by omega), ?_⟩
    exact Int.le_trans (Int.mul_le_mul hA.2 (show (n : Int) ≤ 3 by omega) (by omega) (by omega)) (by omega)
  have w1 : wrap64 (A * (n : Int)) = A * (n : Int) := IntWalk.wrap64_in _ (by omega)
  have w2 : wrap64 (s + A * (n : Int)) = s + A * (n : Int) := IntWalk.wrap64_in _ (by omega)
  have v1 : IntKind.i64.wrap (A * (n : Int)) = A * (n : Int) := IntWalk.i64_in _ (by omega)
  have v2 : IntKind.i64.wrap (s + A * (n : Int)) = s + A * (n : Int) := IntWalk.i64_in _ (by omega)
  have hq : 0 ≤ s + A * (n : Int) := by omega
  have t1 : (s + A * (n : Int)).tmod B = (s + A * (n : Int)) % B := Int.tmod_eq_emod_of_nonneg hq
  have t2 : ¬ B = 0 := by omega
  have t3 : (B == 0) = false := by rw [beq_eq_false_iff_ne]; omega
  have t4 : 0 ≤ (s + A * (n : Int)) % B ∧ (s + A * (n : Int)) % B < B := ⟨Int.emod_nonneg _ t2, Int.emod_lt_of_pos _ (by omega)⟩
  have t5 : IntKind.i64.wrap ((s + A * (n : Int)) % B) = (s + A * (n : Int)) % B := IntWalk.i64_in _ (by omega)
  clear hI
  go_enter Try.func18, Try.ntmps18
  go_wp2_with fail
  go_big_quiet ((first | (go_at_call 33; exact (HC.out _ _ rfl).mono (fun e w1 h => ⟨h.1, _, h.2.symm⟩))))
  go_wp2_with fail
  go_ret
  exact ⟨rfl, by first | exact below_drewN HW.out _ | exact below_drewN (below_drewN HW.out _) _⟩

theorem pzFits_any (b c n : Nat) (p : Int) (k : Kn) (l : List Int) (w : World) (hp : p = (n : Int)) (hl : l.length = n) (hc : icB p k = true) (hd : Hdn l) (hbl : b < w.heap.size) (hI : Ints w b 0 l) :
    Calls Try.prog 18 #[.agg #[.int .i64 k.1, .int .i64 k.2.1, .int .i64 k.2.2], .slice (some ⟨b, 0, none⟩) n c] w (Ret (.bool (fitI k l)) w) := by
  obtain ⟨k, A, B⟩ := k
  subst hp
  simp only
  unfold icB at hc
  simp only at hc
  have key : k = 6 ∧ (0 ≤ A ∧ A ≤ 9) ∧ (2 ≤ B ∧ B ≤ 9) ∨ (0 ≤ k ∧ k ≤ 5) ∧ (0 ≤ A ∧ A < n) ∧ ((k = 0 ∨ k = 2 ∨ k = 4) → A = 0) := by
    have hn := hd.1
    split at hc
    · rw [Bool.and_eq_true, decide_eq_true_iff] at hc; exact .inr ⟨by omega, by omega, fun _ => hc.1⟩
    · split at hc
      · rw [Bool.and_eq_true, inB_iff, inB_iff] at hc; exact .inr ⟨by omega, by omega, by omega⟩
      · split at hc
        · rw [Bool.and_eq_true, inB_iff, inB_iff] at hc; exact .inr ⟨by omega, by omega, by omega⟩
        · split at hc
          · rename_i h6
            rw [Bool.and_eq_true, inB_iff, inB_iff] at hc; exact .inl ⟨h6, hc.1, hc.2⟩
          · cases hc
  rcases key with ⟨rfl, hA, hB⟩ | ⟨hk, hA, hz⟩
  · have := pzFits_six b c n A B l w hl hA hB hd hbl hI
    unfold fitI
    simp only [if_true]
    rwa [hl]
  · obtain ⟨a, rfl⟩ : ∃ a : Nat, A = (a : Int) := ⟨A.toNat, by omega⟩
    have := pzFits_low b c n a k B l w hl hk (by omega) (by unfold whoK; split <;> omega) hd hbl hI
    unfold fitI
    simp only
    rw [if_neg (by omega), Int.toNat_natCast]
    exact this

end Go.Proofs.Ytkkjbkagkmngkab
