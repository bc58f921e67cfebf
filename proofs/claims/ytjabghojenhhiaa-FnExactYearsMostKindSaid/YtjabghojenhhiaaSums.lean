/- Sums of ages; the household in other years. -/
import Derived.Test.YtjabghojenhhiaaProd
set_option linter.unusedVariables false
set_option linter.unusedSimpArgs false
namespace Go.Proofs.Ytjabghojenhhiaa
open Go.RowKit

set_option maxHeartbeats 400000 in
theorem sumOf_any (g c : Nat) (ns : Nat → Int) (zs : List Int) (w : World) (h8 : zs.length ≤ 8) (hgs : g < w.heap.size) (hP : Prs w g ns zs) (hz : ∀ j, j < zs.length → 0 ≤ zs.getD j 0 ∧ zs.getD j 0 ≤ 120) :
    Calls Try.prog 77 #[.slice (some ⟨g, 0, none⟩) zs.length c] w (Ret (.int .i64 (sumTo zs zs.length)) w) := by
  have HZ := Lib.hid hz
  have HP := Lib.hid hP
  clear hz hP
  go_enter Try.func77, Try.ntmps77
  go_wp2
  go_loopw [3, 8] (fun s v wr => ∃ k : Nat, k ≤ zs.length ∧ v = .int .i64 k ∧ s = .int .i64 (sumTo zs k) ∧ Below w.heap.size w wr) (fun _ v _ => zs.length - (intOf v).toNat)
  case atStart => exact ⟨0, Nat.zero_le _, rfl, rfl, Below.refl _ _⟩
  case round =>
    obtain ⟨k, hk, rfl, rfl, hb⟩ := hrel
    have m1 := sumTo_bd HZ.out k (by omega)
    have hsz := hb.size
    by_cases hlt : k < zs.length
    · have hz := HZ.out k hlt
      obtain ⟨hc1, hc2⟩ := (HP.out.kept hb hgs) k hlt
      have S1 := Lib.hid (sumTo_succ zs k hlt)
      generalize sumTo zs k = x at m1 S1 ⊢
      generalize zs.getD k 0 = z at hz hc2 S1
      generalize ns k = q at hc1
      go_wp2
      go_roundw
      case rel => exact ⟨k + 1, by omega, by go_num, by rw [S1.out], hb.alloc hsz _⟩
      case measure => simp [intOf]; omega
    · have hkn : k = zs.length := by omega
      clear hlt hk
      subst hkn
      go_wp2
      go_ret
      exact ⟨rfl, hb⟩

theorem sumOf_nil (w : World) : Calls Try.prog 77 #[.slice none 0 0] w (Ret (.int .i64 0) w) := by
  go_enter Try.func77, Try.ntmps77
  go_wp2
  go_rounds 1
  go_ret
  exact ⟨rfl, Below.refl _ _⟩

theorem sum_any (num age : Int) (g c : Nat) (zs : List Int) (w : World) (h8 : zs.length ≤ 8) (hgs : g < w.heap.size) (hP : Ppl w g zs) (hz : ∀ j, j < zs.length → 0 ≤ zs.getD j 0 ∧ zs.getD j 0 ≤ 120) :
    Calls Try.prog 53 #[.agg #[.int .i64 num, .int .i64 age, .slice (some ⟨g, 0, none⟩) zs.length c]] w (Ret (.int .i64 (sumTo zs zs.length)) w) := by
  have HZ := Lib.hid hz
  have HP := Lib.hid fun A => hP.kept ((Below.refl w.heap.size w).alloc (Nat.le_refl _) A) hgs
  clear hz hP
  go_enter Try.func53, Try.ntmps53
  go_wp2_with fail
  refine (sumOf_any _ _ _ zs _ h8 (by simp; omega) (HP.out _).prs HZ.out).mono ?_
  rintro e w1 ⟨rfl, hb⟩
  go_wp2_with fail
  go_ret
  exact ⟨rfl, ((Below.refl w.heap.size w).alloc (Nat.le_refl _) _).trans (hb.mono (by simp))⟩

theorem sum_len (num age : Int) (g c n : Nat) (zs : List Int) (w : World) (hl : zs.length = n) (h8 : n ≤ 8) (hgs : g < w.heap.size) (hP : Ppl w g zs) (hz : ∀ j, j < zs.length → 0 ≤ zs.getD j 0 ∧ zs.getD j 0 ≤ 120) :
    Calls Try.prog 53 #[.agg #[.int .i64 num, .int .i64 age, .slice (some ⟨g, 0, none⟩) n c]] w (Ret (.int .i64 (sumTo zs n)) w) := by
  subst hl
  exact sum_any num age g c zs w h8 hgs hP hz

set_option maxHeartbeats 400000 in
theorem agFit_any (b off c : Nat) (y : Int) (zs : List Int) (w : World) (hn : zs.length ≤ 1048576) (hI : Ints w b off zs) :
    Calls Try.prog 48 #[.slice (some ⟨b, off, none⟩) zs.length c, .int .i64 y] w (Ret (.bool (fitB zs y)) w) := by
  cases hg : goodB zs 120 with
  | false =>
    have HF := Lib.hid (show fitB zs y = false by unfold fitB; rw [hg]; rfl)
    go_enter Try.func48, Try.ntmps48
    go_wp2_with (first | (go_at_call 34; refine (agGood_any _ _ _ _ zs _ rfl hn hI).mono ?_; rintro e w' ⟨rfl, rfl⟩))
    go_ret
    exact ⟨by rw [HF.out]; rfl, Below.refl _ _⟩
  | true =>
    have HF := Lib.hid (show fitB zs y = inB y (loY zs) (hiY zs) by unfold fitB; rw [hg]; rfl)
    go_enter Try.func48, Try.ntmps48
    go_wp2_with (first | (go_at_call 34; refine (agGood_any _ _ _ _ zs _ rfl hn hI).mono ?_; rintro e w' ⟨rfl, rfl⟩))
    refine (agRange_any _ _ _ _ zs _ rfl hI hg).mono ?_
    rintro e w1 ⟨rfl, hb⟩
    generalize loY zs = lo at HF ⊢
    generalize hiY zs = hi at HF ⊢
    go_wp2_with fail
    refine (l1In_any _ _ _ _).mono ?_
    rintro e w' ⟨rfl, rfl⟩
    go_wp2_with fail
    go_ret
    exact ⟨by rw [HF.out]; rfl, hb⟩

set_option maxHeartbeats 400000 in
theorem agSum_any (b off c : Nat) (zs : List Int) (w : World) (h8 : zs.length ≤ 8) (hI : Ints w b off zs) (hz : ∀ j, j < zs.length → 0 ≤ zs.getD j 0 ∧ zs.getD j 0 ≤ 120) :
    Calls Try.prog 51 #[.slice (some ⟨b, off, none⟩) zs.length c] w (RetSame (.int .i64 (sumTo zs zs.length)) w) := by
  have HZ := Lib.hid hz
  clear hz
  go_enter Try.func51, Try.ntmps51
  go_wp2
  go_loop [3, 8] (fun s v => ∃ k : Nat, k ≤ zs.length ∧ v = .int .i64 k ∧ s = .int .i64 (sumTo zs k)) (fun _ v => zs.length - (intOf v).toNat)
  case atStart => exact ⟨0, Nat.zero_le _, rfl, rfl⟩
  case round =>
    obtain ⟨k, hk, rfl, rfl⟩ := hrel
    by_cases hlt : k < zs.length
    · skip
      have m1 := sumTo_bd HZ.out k (by omega)
      have hz := HZ.out k hlt
      have hc := hI k hlt
      have S1 := Lib.hid (sumTo_succ zs k hlt)
      generalize sumTo zs k = x at m1 S1 ⊢
      generalize zs.getD k 0 = z at hz hc S1
      go_wp2
      go_round
      case rel => exact ⟨k + 1, by omega, by go_num, by rw [S1.out]⟩
      case measure => simp [intOf]; omega
    · have hkn : k = zs.length := by omega
      clear hlt hk
      subst hkn
      go_wp2
      go_ret
      exact ⟨rfl, rfl⟩
def RetHIn (zs : List Int) (y : Int) (w : World) (e : Ending) (w' : World) : Prop :=
  ∃ g c, w.heap.size ≤ g ∧ e = .returned (.tuple #[.agg #[.int .i64 0, .int .i64 ((agesIn zs y).getD 0 0), .slice (some ⟨g, 0, none⟩) zs.length c], .bool true]) ∧ Ppl w' g (agesIn zs y) ∧ g < w'.heap.size ∧ Below w.heap.size w w'

set_option maxHeartbeats 1000000 in
theorem householdIn_no (b off c : Nat) (y : Int) (zs : List Int) (w : World) (hn : zs.length ≤ 1048576) (hbl : b < w.heap.size) (hI : Ints w b off zs) (hf : fitB zs y = false) :
    Calls Try.prog 75 #[.slice (some ⟨b, off, none⟩) zs.length c, .int .i64 y] w (RetNoHouse w) := by
  have hI' := Lib.hid fun A => hI.kept ((Below.refl w.heap.size w).alloc (Nat.le_refl _) A) hbl
  have hW := Lib.hid fun A => (Below.refl w.heap.size w).alloc (Nat.le_refl _) A
  cases hg : goodB zs 120 with
  | false =>
    clear hf
    go_enter Try.func75, Try.ntmps75
    go_wp2_with fail
    refine (householdOf_nozero _ _ _ _ zs _ rfl hn (hI'.out _) (by simp; omega) hg).mono ?_
    rintro e w1 ⟨rfl, hb⟩
    have S := fun H => slot3 (heap_later (heap_newer _ _ _ hb) H)
    have t0 := fun H => (S H).r0
    have t1 := fun H => (S H).r1
    have t2 := fun H => (S H).r2
    have t3 := fun H => (S H).f
    have t4 := fun H => (S H).s0
    have t5 := fun H => (S H).s1
    have t6 := fun H => (S H).s2
    have hlt := (S (.cells #[] 0)).lt
    clear S
    go_wp2_with fail
    refine bodyPost_ret (v := .tuple #[.agg #[.int .i64 0, .int .i64 0, .slice none 0 0], .bool false]) (by simp [results, Try.results75, go_sem, t4, t5, t6]) rfl ?_
    have hb1 := (hW.out _).trans (hb.mono (by simp))
    exact ⟨rfl, (((hb1.alloc hb1.size _).setCell (Nat.le_refl _) _).setCell (Nat.le_refl _) _).setCell (Nat.le_refl _) _⟩
  | true =>
    have hy : inB y (loY zs) (hiY zs) = false := by unfold fitB at hf; rw [hg] at hf; exact hf
    have h8 := goodB_len hg
    have ha := goodB_at hg 0 (by omega)
    have HR := Lib.hid (show loY zs = -(minTo (zs.getD 0 0) zs zs.length) ∧ hiY zs = 120 - maxTo (zs.getD 0 0) zs zs.length from ⟨rfl, rfl⟩)
    clear hf
    go_enter Try.func75, Try.ntmps75
    go_wp2_with fail
    refine (householdOf_zero _ _ _ _ zs _ rfl hn (hI'.out _) hg).mono ?_
    rintro e w1 ⟨g, hg1, rfl, hP, hgs, hb⟩
    have hb1 := (hW.out _).trans (hb.mono (by simp))
    generalize zs.getD 0 0 = a at ha HR
    have HH := Lib.hid (heap_newer _ _ _ hb)
    go_wp2_with fail
    refine (fitYears_any _ _ _ _ _ zs _ rfl hg (by simp; omega) (hP.kept ((Below.refl _ _).alloc (Nat.le_refl _) _) hgs) ha).mono ?_
    rintro e w2 ⟨rfl, hb2⟩
    rw [← HR.out.1, ← HR.out.2]
    have hb2' := (hb1.alloc hb1.size _).trans (hb2.mono (by simp; have := hb1.size; omega))
    obtain ⟨t0, t1, t2, t3, t4, t5, t6, hlt⟩ := slot3 (heap_kept (heap_later HH.out _) hb2)
    generalize loY zs = lo at hy ⊢
    generalize hiY zs = hi at hy ⊢
    go_wp2_with (first | (go_at_call 80; refine (isWithin_any _ _ _ _).mono ?_; rintro e w' ⟨rfl, rfl⟩))
    refine bodyPost_ret (v := .tuple #[.agg #[.int .i64 0, .int .i64 0, .slice none 0 0], .bool false]) (by simp [results, Try.results75, go_sem, t4, t5, t6]) rfl ?_
    exact ⟨rfl, ((hb2'.setCell (Nat.le_refl _) _).setCell (Nat.le_refl _) _).setCell (Nat.le_refl _) _⟩

set_option maxHeartbeats 1000000 in
theorem householdIn_yes (b off c : Nat) (y : Int) (zs : List Int) (w : World) (hn : zs.length ≤ 1048576) (hI : Ints w b off zs) (hf : fitB zs y = true) :
    Calls Try.prog 75 #[.slice (some ⟨b, off, none⟩) zs.length c, .int .i64 y] w (RetHIn zs y w) := by
  have hg : goodB zs 120 = true := by unfold fitB at hf; rw [Bool.and_eq_true] at hf; exact hf.1
  have hy : inB y (loY zs) (hiY zs) = true := by unfold fitB at hf; rw [Bool.and_eq_true] at hf; exact hf.2
  have h8 := goodB_len hg
  have hI' := Lib.hid fun A => hI.kept ((Below.refl w.heap.size w).alloc (Nat.le_refl _) A) (ints_lt hI (by omega))
  have hW := Lib.hid fun A => (Below.refl w.heap.size w).alloc (Nat.le_refl _) A
  have hyb : -120 ≤ y ∧ y ≤ 120 := by have := loY_bd hg; have := inB_iff.1 hy; omega
  have ha := goodB_at hg 0 (by omega)
  have HR := Lib.hid (show loY zs = -(minTo (zs.getD 0 0) zs zs.length) ∧ hiY zs = 120 - maxTo (zs.getD 0 0) zs zs.length from ⟨rfl, rfl⟩)
  clear hf
  go_enter Try.func75, Try.ntmps75
  go_wp2_with fail
  refine (householdOf_zero _ _ _ _ zs _ rfl hn (hI'.out _) hg).mono ?_
  rintro e w1 ⟨g, hg1, rfl, hP, hgs, hb⟩
  have hb1 := (hW.out _).trans (hb.mono (by simp))
  generalize zs.getD 0 0 = a at ha HR
  have HH := Lib.hid (heap_newer _ _ _ hb)
  go_wp2_with fail
  refine (fitYears_any _ _ _ _ _ zs _ rfl hg (by simp; omega) (hP.kept ((Below.refl _ _).alloc (Nat.le_refl _) _) hgs) ha).mono ?_
  rintro e w2 ⟨rfl, hb2⟩
  rw [← HR.out.1, ← HR.out.2]
  have hb2' := (hb1.alloc hb1.size _).trans (hb2.mono (by simp; have := hb1.size; omega))
  have HH2 := Lib.hid (heap_kept (heap_later HH.out _) hb2)
  obtain ⟨q0, q1, q2, _, _, _, _, hq⟩ := slot3 (heap_kept (heap_new w1 _) hb2)
  have hP2 := (hP.kept ((Below.refl _ _).alloc (Nat.le_refl _) _) hgs).kept hb2 (by simp; omega)
  generalize loY zs = lo at hy ⊢
  generalize hiY zs = hi at hy ⊢
  go_wp2_with (first | (go_at_call 80; refine (isWithin_any _ _ _ _).mono ?_; rintro e w' ⟨rfl, rfl⟩))
  refine (in_zero _ _ _ _ zs _ (by omega) (by omega) (by omega) hP2 (goodB_at hg) hyb).mono ?_
  rintro e w3 ⟨g3, c3, hg3, rfl, hP3, hgs3, hb3⟩
  have hb3' := hb2'.trans (hb3.mono hb2'.size)
  clear q0 q1 q2
  obtain ⟨t0, t1, t2, t3, t4, t5, t6, hlt⟩ := slot3 (heap_kept HH2.out hb3)
  generalize hz : (agesIn zs y).getD 0 0 = z
  have HZ := Lib.hid hz
  clear hz
  go_wp2_with fail
  refine bodyPost_ret (v := .tuple #[.agg #[.int .i64 0, .int .i64 z, .slice (some ⟨g3, 0, none⟩) zs.length c3], .bool true]) (by simp [results, Try.results75, go_sem, t4, t5, t6]) rfl ?_
  have hne : w.heap.size ≠ g3 := by have := hb2'.size; have := hb1.size; simp at hg1; have : w.heap.size < w2.heap.size := by have := hb2.size; simp at this; omega
                                    omega
  refine ⟨g3, c3, by have := hb2'.size; omega, by rw [HZ.out], ?_, by simpa [World.setCell] using hgs3, ?_⟩
  · exact ((hP3.heap (Below.heap_setCell _ _ _ _ (by simp; omega))).heap (Below.heap_setCell _ _ _ _ (by simp; omega))).heap (Below.heap_setCell _ _ _ _ (by simp; omega))
  · exact ((hb3'.setCell (Nat.le_refl _) _).setCell (Nat.le_refl _) _).setCell (Nat.le_refl _) _
end Go.Proofs.Ytjabghojenhhiaa
