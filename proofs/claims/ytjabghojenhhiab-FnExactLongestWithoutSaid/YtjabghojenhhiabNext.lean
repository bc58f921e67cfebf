/- NextOfKind: both texts. -/
import Derived.Test.YtjabghojenhhiabKinds
set_option linter.unusedVariables false
set_option linter.unusedSimpArgs false
namespace Go.Proofs.Ytjabghojenhhiab
open Go.RowKit

theorem yTo_mem {t : Int → Bool} {lo : Int} {N : Nat} {a : Int} : a ∈ yTo t lo N ↔ (lo ≤ a ∧ a < lo + N) ∧ t a = true := by
  unfold yTo
  rw [List.mem_filter, List.mem_map]
  constructor
  · rintro ⟨⟨i, hi, rfl⟩, ht⟩
    rw [List.mem_range] at hi
    exact ⟨⟨by omega, by omega⟩, ht⟩
  · rintro ⟨⟨h1, h2⟩, ht⟩
    exact ⟨⟨(a - lo).toNat, by rw [List.mem_range]; omega, by omega⟩, ht⟩
theorem yTo_sorted (t : Int → Bool) (lo : Int) : ∀ N : Nat, (yTo t lo N).Pairwise (· < ·) := by
  intro N
  induction N with
  | zero => exact List.Pairwise.nil
  | succ N ih =>
    cases h : t (lo + N) with
    | false => rw [yTo_no h]; exact ih
    | true =>
      rw [yTo_yes h]
      refine List.pairwise_append.2 ⟨ih, List.pairwise_singleton _ _, ?_⟩
      intro a ha b hb
      have := (yTo_mem.1 ha).1
      simp at hb
      omega
theorem sorted_at {l : List Int} (h : l.Pairwise (· < ·)) {i j : Nat} (hij : i < j) (hj : j < l.length) : l.getD i 0 < l.getD j 0 := by
  have := (List.pairwise_iff_getElem.1 h) i j (by omega) hj hij
  simpa [List.getD_eq_getElem?_getD, List.getElem?_eq_getElem hj, List.getElem?_eq_getElem (show i < l.length by omega)] using this
theorem mem_at {l : List Int} {a : Int} (h : a ∈ l) : ∃ j, j < l.length ∧ l.getD j 0 = a := by
  obtain ⟨j, hj, rfl⟩ := List.getElem_of_mem h
  exact ⟨j, hj, by simp [List.getD_eq_getElem?_getD, List.getElem?_eq_getElem hj]⟩
theorem at_mem {l : List Int} {j : Nat} (h : j < l.length) : l.getD j 0 ∈ l := by
  rw [List.getD_eq_getElem?_getD, List.getElem?_eq_getElem h]
  exact List.getElem_mem h
def LeTo (l : List Int) (x : Int) (i : Nat) : Prop := ∀ j, j < i → l.getD j 0 ≤ x
theorem leTo_snoc {l : List Int} {x : Int} {i : Nat} (h : LeTo l x i) (h2 : l.getD i 0 ≤ x) : LeTo l x (i + 1) := by
  intro j hj
  by_cases e : j = i
  · subst e; exact h2
  · exact h j (by omega)
theorem next_found {t : Int → Bool} {x : Int} {i : Nat} (h0 : 0 ≤ x) (hl : LeTo (yTo t 0 121) x i) (hi : i < (yTo t 0 121).length) (h : x < (yTo t 0 121).getD i 0) : IsNext t x ((yTo t 0 121).getD i 0) true := by
  have hm := yTo_mem.1 (at_mem hi)
  refine .inl ⟨rfl, h, by omega, hm.2, fun j h1 h2 => ?_⟩
  cases e : t j with
  | false => rfl
  | true =>
    obtain ⟨q, hq, hq2⟩ := mem_at (yTo_mem.2 ⟨⟨show (0 : Int) ≤ j by omega, show j < 0 + ((121 : Nat) : Int) by omega⟩, e⟩)
    by_cases c : q < i
    · have := hl q c; omega
    · by_cases c2 : i < q
      · have := sorted_at (yTo_sorted t 0 121) c2 hq; omega
      · have : q = i := by omega
        subst this; omega
theorem next_nowhere {t : Int → Bool} {x : Int} (h0 : 0 ≤ x) (hl : LeTo (yTo t 0 121) x (yTo t 0 121).length) : IsNext t x 0 false := by
  refine .inr ⟨rfl, rfl, fun j h1 h2 => ?_⟩
  cases e : t j with
  | false => rfl
  | true =>
    obtain ⟨q, hq, hq2⟩ := mem_at (yTo_mem.2 ⟨⟨show (0 : Int) ≤ j by omega, show j < 0 + ((121 : Nat) : Int) by omega⟩, e⟩)
    have := hl q hq
    omega
theorem inB_nat {x : Int} (h : inB x 0 120 = true) : 0 ≤ x ∧ x ≤ 120 := inB_iff.1 h

set_option maxHeartbeats 4000000 in
set_option maxRecDepth 100000 in
theorem nextOfKind_yes (x : Int) (s : ByteArray) (w : World) (hx : inB x 0 120 = true) (hk : isK s = true) : Calls Try.prog 23 #[.int .i64 x, .string s] w (RetNext (tK (kOf s)) x w) := by
  have HK := Lib.hid hk
  clear hk
  have hb := inB_iff.1 hx
  go_enter Try.func23, Try.ntmps23
  go_wp2_with fail
  refine (marksFor_any _ _).mono ?_
  rw [HK.out]; rintro e w1 ⟨rfl, hb1⟩
  have HS := Lib.hid (blk_new w1 43 (pc pnone))
  have hba := hb1.alloc hb1.size (.cells (pc pnone) 43)
  have hsz1 := hb1.size
  go_wp2_with (first | (refine wpList_store_row rfl _ _ _ rfl _ 43 _ _ rfl rfl HS.out (sizeMarksOf _) (pc_sizes _ _) (pc_one _) ?_; intro w2 hV hg2 hsz2) | (go_at_call 46; refine (isAge_any _ _).mono ?_; rintro e w' ⟨rfl, rfl⟩) | (refine wpList_load_row rfl _ _ rfl _ 43 _ rfl hV 961 _ Try.underlying43 (sizeMarksOf _) ?_))
  have hb2 : Below w.heap.size w w2 := hba.grown hg2 (by simp; omega) (by intro k hk; simp at hk; omega)
  refine (ageAfter_any _ _ _ (by omega) hb.2).mono ?_
  rintro e w3 ⟨r, ok, rfl, hn, hb3⟩
  have HN := Lib.hid hn
  have hb4 := hb2.trans (hb3.mono hb2.size)
  clear hn
  go_wp2_with fail
  go_ret2
  exact ⟨r, ok, rfl, HN.out, hb4⟩
set_option maxHeartbeats 4000000 in
set_option maxRecDepth 100000 in
theorem nextOfKind_no (x : Int) (s : ByteArray) (w : World) (h : (isK s && inB x 0 120) = false) : Calls Try.prog 23 #[.int .i64 x, .string s] w (RetIB 0 false w) := by
  cases hk : isK s with
  | false =>
    have HK := Lib.hid hk
    clear hk h
    go_enter Try.func23, Try.ntmps23
    go_wp2_with fail
    refine (marksFor_any _ _).mono ?_
    rw [HK.out]; rintro e w1 ⟨rfl, hb1⟩
    have HS := Lib.hid (blk_new w1 43 (pc pnone))
    have hba := hb1.alloc hb1.size (.cells (pc pnone) 43)
    have hsz1 := hb1.size
    go_wp2_with (first | (refine wpList_store_row rfl _ _ _ rfl _ 43 _ _ rfl rfl HS.out (sizeMarksOf _) (pc_sizes _ _) (pc_one _) ?_; intro w2 hV hg2 hsz2) | (go_at_call 46; refine (isAge_any _ _).mono ?_; rintro e w' ⟨rfl, rfl⟩))
    have hb2 : Below w.heap.size w w2 := hba.grown hg2 (by simp; omega) (by intro k hk; simp at hk; omega)
    go_ret2
    exact ⟨rfl, hb2⟩
  | true =>
    have HK := Lib.hid hk
    have hx : inB x 0 120 = false := by rw [hk] at h; exact h
    clear hk h
    go_enter Try.func23, Try.ntmps23
    go_wp2_with fail
    refine (marksFor_any _ _).mono ?_
    rw [HK.out]; rintro e w1 ⟨rfl, hb1⟩
    have HS := Lib.hid (blk_new w1 43 (pc pnone))
    have hba := hb1.alloc hb1.size (.cells (pc pnone) 43)
    have hsz1 := hb1.size
    go_wp2_with (first | (refine wpList_store_row rfl _ _ _ rfl _ 43 _ _ rfl rfl HS.out (sizeMarksOf _) (pc_sizes _ _) (pc_one _) ?_; intro w2 hV hg2 hsz2) | (go_at_call 46; refine (isAge_any _ _).mono ?_; rintro e w' ⟨rfl, rfl⟩))
    have hb2 : Below w.heap.size w w2 := hba.grown hg2 (by simp; omega) (by intro k hk; simp at hk; omega)
    go_ret2
    exact ⟨rfl, hb2⟩
theorem specNextOfKind_no (x : Int) (s : ByteArray) (w : World) (h : (isK s && inB x 0 120) = false) : Calls Try.prog 22 #[.int .i64 x, .string s] w (RetIB 0 false w) := by
  cases hx : inB x 0 120 with
  | false =>
    clear h
    go_enter Try.func22, Try.ntmps22
    go_wp2_with (first | (go_at_call 42; refine (kiAge_any _ _).mono ?_; rintro e w' ⟨rfl, rfl⟩) | (go_at_call 43; refine (kiKind_any _ _).mono ?_; rintro e w' ⟨rfl, rfl⟩))
    go_ret2
    exact ⟨rfl, Below.refl _ _⟩
  | true =>
    have hk : isK s = false := by rw [hx, Bool.and_true] at h; exact h
    clear h
    go_enter Try.func22, Try.ntmps22
    go_wp2_with (first | (go_at_call 42; refine (kiAge_any _ _).mono ?_; rintro e w' ⟨rfl, rfl⟩) | (go_at_call 43; refine (kiKind_any _ _).mono ?_; rintro e w' ⟨rfl, rfl⟩))
    go_ret2
    exact ⟨rfl, Below.refl _ _⟩
set_option maxHeartbeats 1000000 in
theorem specNextOfKind_yes (x : Int) (s : ByteArray) (w : World) (hx : inB x 0 120 = true) (hk : isK s = true) : Calls Try.prog 22 #[.int .i64 x, .string s] w (RetNext (tK (kOf s)) x w) := by
  have hxb := inB_iff.1 hx
  go_enter Try.func22, Try.ntmps22
  go_wp2_with (first | (go_at_call 42; refine (kiAge_any _ _).mono ?_; rintro e w' ⟨rfl, rfl⟩) | (go_at_call 43; refine (kiKind_any _ _).mono ?_; rintro e w' ⟨rfl, rfl⟩))
  refine (kiAll_any _ _ hk).mono ?_
  rintro e w1 ⟨v, rfl, ho, hb⟩
  have HF := Lib.hid (fun i (h1 : LeTo (yTo (tK (kOf s)) 0 121) x i) (h2 : i < (yTo (tK (kOf s)) 0 121).length) => next_found hxb.1 h1 h2)
  have HE := Lib.hid (fun (h1 : LeTo (yTo (tK (kOf s)) 0 121) x (yTo (tK (kOf s)) 0 121).length) => next_nowhere hxb.1 h1)
  have hlen := yTo_len (tK (kOf s)) 0 121
  generalize yTo (tK (kOf s)) 0 121 = l at *
  clear hx hk
  rcases ho.cases with ⟨rfl, rfl⟩ | ⟨g, c, rfl, _, _, _, _, hI, _⟩
  · have HE2 : Hid (IsNext (tK (kOf s)) x 0 false) := Lib.hid (HE.out (fun j hj => absurd hj (by simp)))
    clear HE HF ho
    go_wp2_with fail
    go_rounds 1
    go_ret2
    exact ⟨_, _, rfl, HE2.out, hb⟩
  · generalize hn : l.length = n at *
    have HNn := Lib.hid hn
    have HI := Lib.hid hI
    clear hn hI ho
    go_wp2_with fail
    go_loop [19] (fun v => ∃ i : Nat, i ≤ n ∧ v = .int .i64 (i : Int) ∧ LeTo l x i) (fun v => n - (intOf v).toNat)
    case atStart => exact ⟨0, Nat.zero_le _, rfl, fun j hj => absurd hj (by omega)⟩
    case round =>
      obtain ⟨i, hi, rfl, hf⟩ := hrel
      by_cases hlt : i < n
      · have hc := HI.out i (by rw [HNn.out]; exact hlt)
        rw [Nat.zero_add] at hc
        by_cases hgt : x < l.getD i 0
        · have H := Lib.hid (HF.out i hf hlt hgt)
          clear hf
          generalize l.getD i 0 = y at hc hgt H
          go_wp2
          go_ret2
          exact ⟨_, _, rfl, H.out, hb⟩
        · have H := Lib.hid (leTo_snoc hf (by omega))
          clear hf
          generalize l.getD i 0 = y at hc hgt
          go_wp2
          go_round
          case rel => exact ⟨i + 1, by omega, by go_num, H.out⟩
          case measure => simp [intOf]; omega
      · have hin : i = n := by omega
        have H := Lib.hid (HE.out (by rw [← hin]; exact hf))
        clear hf hin
        go_wp2
        go_ret2
        exact ⟨_, _, rfl, H.out, hb⟩
/-- The next one, as a number and whether there is one. -/
theorem nextOfKind_both (x : Int) (s : ByteArray) (_h : s.size ≤ 1048576) : ∃ r ok, (∀ w, Calls Try.prog 22 #[.int .i64 x, .string s] w (RetIB r ok w)) ∧ (∀ w, Calls Try.prog 23 #[.int .i64 x, .string s] w (RetIB r ok w)) := by
  cases h : isK s && inB x 0 120 with
  | false => exact ⟨0, false, fun w => specNextOfKind_no x s w h, fun w => nextOfKind_no x s w h⟩
  | true =>
    rw [Bool.and_eq_true] at h
    by_cases he : ∃ r ok, IsNext (tK (kOf s)) x r ok
    · obtain ⟨r, ok, hn⟩ := he
      refine ⟨r, ok, fun w => (specNextOfKind_yes x s w h.2 h.1).mono ?_, fun w => (nextOfKind_yes x s w h.2 h.1).mono ?_⟩
      all_goals
        rintro e w' ⟨r2, ok2, rfl, hn2, hb⟩
        obtain ⟨rfl, rfl⟩ := isNext_unique hn hn2
        exact ⟨rfl, hb⟩
    · refine ⟨0, false, fun w => (specNextOfKind_yes x s w h.2 h.1).mono ?_, fun w => (nextOfKind_yes x s w h.2 h.1).mono ?_⟩
      all_goals
        rintro e w' ⟨r2, ok2, rfl, hn2, hb⟩
        exact absurd ⟨r2, ok2, hn2⟩ he
end Go.Proofs.Ytjabghojenhhiab
