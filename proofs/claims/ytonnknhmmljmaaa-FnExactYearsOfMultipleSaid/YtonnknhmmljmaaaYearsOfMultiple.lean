/- YearsOfMultiple: both texts. -/
import Derived.Test.YtonnknhmmljmaaaMultRows
set_option linter.unusedVariables false
set_option linter.unusedSimpArgs false
namespace Go.Proofs.Ytonnknhmmljmaaa
open Go.RowKit

theorem filter_first (g : Int → Bool) (l : List Int) : ∀ i, i < l.length → (∀ j, j < i → g (l.getD j 0) = false) → g (l.getD i 0) = true → ∃ r, l.filter g = l.getD i 0 :: r := by
  induction l with
  | nil => intro i hi; simp at hi
  | cons x l ih =>
    intro i hi h0 h1
    cases i with
    | zero => exact ⟨l.filter g, by rw [List.filter_cons]; simp at h1; simp [h1]⟩
    | succ i =>
      have hx : g x = false := by simpa using h0 0 (by omega)
      obtain ⟨r, hr⟩ := ih i (by simpa using hi) (fun j hj => by simpa using h0 (j + 1) (by omega)) (by simpa using h1)
      exact ⟨r, by rw [List.filter_cons, hx]; simpa using hr⟩
theorem filter_none (g : Int → Bool) (l : List Int) (h : ∀ j, j < l.length → g (l.getD j 0) = false) : l.filter g = [] := by
  rw [List.filter_eq_nil_iff]
  intro x hx
  obtain ⟨j, hj, rfl⟩ := List.getElem_of_mem hx
  have := h j hj
  simp [List.getElem?_eq_getElem hj] at this
  simp [this]
def timT (zs : List Int) (A B : Nat) (t : Int) : Int → Bool := fun y => mulB (zs.getD A 0 + y) (zs.getD B 0 + y) && ((zs.getD A 0 + y) / (zs.getD B 0 + y) == t)
theorem timT_found (zs : List Int) (A B : Nat) (t : Int) : found (timT zs A B t) zs = (found (mulT zs A B) zs).filter fun y => (zs.getD A 0 + y) / (zs.getD B 0 + y) == t := by
  unfold found yTo timT mulT
  rw [List.filter_filter]
  congr 1
  funext y
  exact Bool.and_comm _ _
theorem mulRows_getD (zs : List Int) (A B i : Nat) (hi : i < (found (mulT zs A B) zs).length) : (mulRows zs A B (nY zs)).getD i [] = [(found (mulT zs A B) zs).getD i 0, (zs.getD A 0 + (found (mulT zs A B) zs).getD i 0) / (zs.getD B 0 + (found (mulT zs A B) zs).getD i 0)] := by
  have e : mulRows zs A B (nY zs) = (found (mulT zs A B) zs).map (rowOf zs A B) := rfl
  rw [e]
  simp [List.getElem?_map, List.getElem?_eq_getElem hi, rowOf]
def manyB (zs : List Int) (x y t : Int) : Bool := (whoB zs x && whoB zs y && (x != y)) && decide (2 ≤ t)

set_option maxHeartbeats 1000000 in
theorem specYearsOfMultiple_no (b off c : Nat) (x y t : Int) (zs : List Int) (w : World) (hn : zs.length ≤ 1048576) (hI : Ints w b off zs) (h : manyB zs x y t = false) :
    Calls Try.prog 37 #[.slice (some ⟨b, off, none⟩) zs.length c, .int .i64 x, .int .i64 y, .int .i64 t] w (RetIB 0 false w) := by
  unfold manyB at h
  have HT := agTwo_any b off c x y zs
  cases h1 : (whoB zs x && whoB zs y && (x != y)) with
  | false =>
    have H1 := Lib.hid h1
    clear h h1 HT
    go_enter Try.func37, Try.ntmps37
    go_wp2_with fail
    refine (agTwo_any _ _ _ _ _ zs _ hn hI).mono ?_
    rw [H1.out]
    rintro e w' ⟨rfl, rfl⟩
    go_wp2_with fail
    go_ret2
    exact ⟨rfl, Below.refl _ _⟩
  | true =>
    have ht : t < 2 := by rw [h1] at h; simp at h; omega
    have H1 := Lib.hid h1
    clear h h1 HT
    go_enter Try.func37, Try.ntmps37
    go_wp2_with fail
    refine (agTwo_any _ _ _ _ _ zs _ hn hI).mono ?_
    rw [H1.out]
    rintro e w' ⟨rfl, rfl⟩
    go_wp2_with fail
    go_ret2
    exact ⟨rfl, Below.refl _ _⟩

set_option maxHeartbeats 1600000 in
theorem specYearsOfMultiple_yes (b off c A B : Nat) (t : Int) (zs : List Int) (w : World) (hn : zs.length ≤ 1048576) (hI : Ints w b off zs) (h1 : (whoB zs A && whoB zs B && ((A : Int) != (B : Int))) = true) (hA : A < zs.length) (hB : B < zs.length) (hg : goodB zs 120 = true) (ht : 2 ≤ t) :
    Calls Try.prog 37 #[.slice (some ⟨b, off, none⟩) zs.length c, .int .i64 A, .int .i64 B, .int .i64 t] w
      (RetIB ((found (timT zs A B t) zs).getD 0 0) (decide (0 < (found (timT zs A B t) zs).length)) w) := by
  have h8 := goodB_len hg
  have H1 := Lib.hid h1
  have HG := Lib.hid (fun i hi => mulRows_getD zs A B i hi)
  have hfl := found_len hg (mulT zs A B)
  have HRl := Lib.hid (show (mulRows zs A B (nY zs)).length = (found (mulT zs A B) zs).length by unfold mulRows found; rw [List.length_map])
  have HF1 := Lib.hid (fun i hi h0 h1 => filter_first (fun y => (zs.getD A 0 + y) / (zs.getD B 0 + y) == t) (found (mulT zs A B) zs) i hi h0 h1)
  have HF2 := Lib.hid (fun h => filter_none (fun y => (zs.getD A 0 + y) / (zs.getD B 0 + y) == t) (found (mulT zs A B) zs) h)
  rw [timT_found]
  generalize hfm : (found (mulT zs A B) zs).filter (fun y => (zs.getD A 0 + y) / (zs.getD B 0 + y) == t) = fm at HF1 HF2
  clear hfm
  generalize found (mulT zs A B) zs = fd at HG hfl HRl HF1 HF2
  clear h1
  go_enter Try.func37, Try.ntmps37
  go_wp2_with fail
  refine (agTwo_any _ _ _ _ _ zs _ hn hI).mono ?_
  rw [H1.out]
  rintro e w' ⟨rfl, rfl⟩
  go_wp2_with fail
  refine (agMultiples_any _ _ _ _ _ zs _ hn hI hg hA hB).mono ?_
  rintro e w1 ⟨v, vs, rfl, ho, hb⟩
  rcases ho.cases with ⟨rfl, h0⟩ | ⟨g, c1, rfl, hcells⟩
  · have hfd : fd = [] := by
      have := HRl.out; rw [h0] at this; exact List.eq_nil_of_length_eq_zero this.symm
    have HE := Lib.hid (HF2.out (fun j hj => by rw [hfd] at hj; simp at hj))
    clear h0 hfd
    go_wp2
    go_rounds 1
    go_ret2
    exact ⟨by rw [HE.out]; rfl, hb⟩
  · rw [HRl.out] at hcells ⊢
    have HO := Lib.hid ho
    have HC := Lib.hid hcells
    clear ho hcells
    go_wp2
    go_loop [26] (fun u => ∃ i : Nat, i ≤ fd.length ∧ u = .int .i64 i ∧ Hid (∀ j, j < i → ((zs.getD A 0 + fd.getD j 0) / (zs.getD B 0 + fd.getD j 0) == t) = false)) (fun u => fd.length - (intOf u).toNat)
    case atStart => exact ⟨0, Nat.zero_le _, rfl, Lib.hid fun j hj => by omega⟩
    case round =>
      obtain ⟨i, hi, rfl, hno⟩ := hrel
      by_cases hlt : i < fd.length
      · have hc := HC.out i hlt
        have hr := HO.out.row i (by rw [HRl.out]; exact hlt)
        rw [HG.out i hlt] at hr
        rcases hr.cases with ⟨_, h0⟩ | ⟨g2, c2, hv, _, _, _, _, hI2, _⟩
        · simp at h0
        · rw [hv] at hc
          have d0 : w1.cell? ⟨g2, 0, none⟩ = some (.int .i64 (fd.getD i 0)) := by simpa using hI2 0 (by simp)
          have d1 : w1.cell? ⟨g2, 1, none⟩ = some (.int .i64 ((zs.getD A 0 + fd.getD i 0) / (zs.getD B 0 + fd.getD i 0))) := by simpa using hI2 1 (by simp)
          have hlen2 : [fd.getD i 0, (zs.getD A 0 + fd.getD i 0) / (zs.getD B 0 + fd.getD i 0)].length = 2 := rfl
          rw [hlen2] at hc
          clear hr hv hI2 hlen2
          have hi0 : (0 : Int) ≤ (i : Int) := by omega
          have hi1 : (i : Int) < (fd.length : Int) := by omega
          cases he : ((zs.getD A 0 + fd.getD i 0) / (zs.getD B 0 + fd.getD i 0) == t) with
          | true =>
            obtain ⟨r, hr⟩ := HF1.out i hlt hno.out he
            have HR := Lib.hid (show fm[0]?.getD 0 = fd.getD i 0 ∧ 0 < fm.length by rw [hr]; exact ⟨rfl, by simp⟩)
            clear hr hno
            generalize (zs.getD A 0 + fd.getD i 0) / (zs.getD B 0 + fd.getD i 0) = q at d1 he
            generalize fd.getD i 0 = y at d0 HR
            go_wp2
            go_ret2
            exact ⟨by rw [HR.out.1, decide_eq_true HR.out.2]; rfl, hb⟩
          | false =>
            have hno' : Hid (∀ j, j < i + 1 → ((zs.getD A 0 + fd.getD j 0) / (zs.getD B 0 + fd.getD j 0) == t) = false) := Lib.hid fun j hj => by
              rcases Nat.lt_succ_iff_lt_or_eq.1 hj with h | rfl
              · exact hno.out j h
              · exact he
            clear hno
            generalize (zs.getD A 0 + fd.getD i 0) / (zs.getD B 0 + fd.getD i 0) = q at d1 he
            go_wp2
            go_round
            case rel => exact ⟨i + 1, by omega, by go_num, hno'⟩
            case measure => simp [intOf]; omega
      · have HE := Lib.hid (HF2.out (fun j hj => hno.out j (by omega)))
        clear hno
        go_wp2
        go_ret2
        exact ⟨by rw [HE.out]; rfl, hb⟩

set_option maxHeartbeats 1000000 in
theorem yearsOfMultiple_no (b off c : Nat) (x y t : Int) (zs : List Int) (w : World) (hn : zs.length ≤ 1048576) (hbl : b < w.heap.size) (hI : Ints w b off zs) (h : manyB zs x y t = false) :
    Calls Try.prog 38 #[.slice (some ⟨b, off, none⟩) zs.length c, .int .i64 x, .int .i64 y, .int .i64 t] w (RetIB 0 false w) := by
  have hW := Lib.hid fun A B => ((Below.refl w.heap.size w).alloc (Nat.le_refl _) A).alloc (by simp) B
  have hI' := Lib.hid fun A B => hI.kept (hW.out A B) hbl
  unfold manyB at h
  cases h1 : (whoB zs x && whoB zs y && (x != y)) with
  | false =>
    have H1 := Lib.hid h1
    clear h h1
    go_enter Try.func38, Try.ntmps38
    go_wp2_with fail
    refine (areDifferent_any _ _ _ _ _ zs _ hn (by simp; omega) (hI'.out _ _)).mono ?_
    rw [H1.out]
    rintro e w1 ⟨rfl, hb⟩
    go_wp2_with fail
    go_ret2
    exact ⟨rfl, (hW.out _ _).trans (hb.mono (by simp; omega))⟩
  | true =>
    have ht : t < 2 := by rw [h1] at h; simp at h; omega
    have H1 := Lib.hid h1
    clear h h1
    go_enter Try.func38, Try.ntmps38
    go_wp2_with fail
    refine (areDifferent_any _ _ _ _ _ zs _ hn (by simp; omega) (hI'.out _ _)).mono ?_
    rw [H1.out]
    rintro e w1 ⟨rfl, hb⟩
    have hct : w1.cell? ⟨w.heap.size + 1, 0, none⟩ = some (.int .i64 t) := by
      refine (hb.cell (p := ⟨w.heap.size + 1, 0, none⟩) (by simp)).trans ?_
      have := heap_new (w.alloc (.cells #[.int .i64 y] 3)) (.cells #[.int .i64 t] 3)
      simp at this
      simp [World.cell?, this]
    go_wp2_with fail
    go_ret2
    exact ⟨rfl, (hW.out _ _).trans (hb.mono (by simp; omega))⟩

set_option maxHeartbeats 1600000 in
theorem yearsOfMultiple_yes (b off c A B : Nat) (t : Int) (zs : List Int) (w : World) (hn : zs.length ≤ 1048576) (hI : Ints w b off zs) (h1 : (whoB zs A && whoB zs B && ((A : Int) != (B : Int))) = true) (hA : A < zs.length) (hB : B < zs.length) (hg : goodB zs 120 = true) (ht : 2 ≤ t) :
    Calls Try.prog 38 #[.slice (some ⟨b, off, none⟩) zs.length c, .int .i64 A, .int .i64 B, .int .i64 t] w
      (RetIB ((found (timT zs A B t) zs).getD 0 0) (decide (0 < (found (timT zs A B t) zs).length)) w) := by
  have h8 := goodB_len hg
  have hbl := ints_lt hI (by omega)
  have hW := Lib.hid fun A B => ((Below.refl w.heap.size w).alloc (Nat.le_refl _) A).alloc (by simp) B
  have hI' := Lib.hid fun A B => hI.kept (hW.out A B) hbl
  have HL := Lib.hid (found_len hg (timT zs A B t))
  have hq1 : ((w.alloc (.cells #[.int .i64 (B : Int)] 3)).alloc (.cells #[.int .i64 t] 3)).cell? ⟨w.heap.size, 0, none⟩ = some (.int .i64 (B : Int)) := by
    have := heap_later (heap_new w (.cells #[.int .i64 (B : Int)] 3)) (.cells #[.int .i64 t] 3)
    simp [World.cell?, this]
  have hq2 : ((w.alloc (.cells #[.int .i64 (B : Int)] 3)).alloc (.cells #[.int .i64 t] 3)).cell? ⟨w.heap.size + 1, 0, none⟩ = some (.int .i64 t) := by
    have := heap_new (w.alloc (.cells #[.int .i64 (B : Int)] 3)) (.cells #[.int .i64 t] 3)
    simp at this
    simp [World.cell?, this]
  have HT := Lib.hid (show ∀ W1, Below ((w.alloc (.cells #[.int .i64 (B : Int)] 3)).alloc (.cells #[.int .i64 t] 3)).heap.size ((w.alloc (.cells #[.int .i64 (B : Int)] 3)).alloc (.cells #[.int .i64 t] 3)) W1 → TestsYearsOfMultiple (.pointer (some ⟨w.heap.size, 0, none⟩)) (.pointer (some ⟨w.heap.size + 1, 0, none⟩)) A zs (timT zs A B t) W1 from
    fun W1 hW1 y y1 y2 g c W hB' hgs hP => by
      have hf : fitB zs y = true := by unfold fitB; rw [hg, inB_true y1 y2]; rfl
      obtain ⟨_, _, hl, hz⟩ := fit_in hf
      have e1 := agesIn_getD zs y A hA
      have e2 := agesIn_getD zs y B hB
      have z1 := hz A (by omega)
      have z2 := hz B (by omega)
      have := timesTest _ _ g c _ B A ((agesIn zs y).getD A 0) t (agesIn zs y) W hl (by omega) hB hgs hP z1 z2.1 ht (below_cells hB' (below_cells hW1 hq1)) (below_cells hB' (below_cells hW1 hq2))
      rw [e2] at this
      rw [e1] at this ⊢
      exact this)
  have hct := Lib.hid (fun W1 (h : Below ((w.alloc (.cells #[.int .i64 (B : Int)] 3)).alloc (.cells #[.int .i64 t] 3)).heap.size ((w.alloc (.cells #[.int .i64 (B : Int)] 3)).alloc (.cells #[.int .i64 t] 3)) W1) => below_cells h hq2)
  generalize timT zs A B t = test at HL HT
  generalize hfd : found test zs = fd at HL
  have HF := Lib.hid hfd
  have HG := Lib.hid hg
  have H1 := Lib.hid h1
  clear hfd hg h1 hq1 hq2
  go_enter Try.func38, Try.ntmps38
  go_wp2_with fail
  refine (areDifferent_any _ _ _ _ _ zs _ hn (by simp; omega) (hI'.out _ _)).mono ?_
  rw [H1.out]
  rintro e w1 ⟨rfl, hb⟩
  have hb' := (hW.out _ _).trans (hb.mono (by simp; omega))
  have hc1 := hct.out w1 hb
  have HT1 := Lib.hid (HT.out w1 hb)
  have hI1 := (hI'.out _ _).kept hb (by simp; omega)
  clear hct HT
  go_wp2_with fail
  refine (yearsFor_YearsOfMultiple _ _ _ A _ _ test zs _ HG.out hA hI1 HT1.out).mono ?_
  rw [HF.out]
  rintro e w2 ⟨v, rfl, ho, hb2⟩
  have hb2' := hb'.trans (hb2.mono hb'.size)
  go_wp2_with fail
  refine (firstOf_any _ _ fd _ (by have := HL.out; omega) ho).mono ?_
  rintro e w3 ⟨rfl, hb3⟩
  go_wp2_with fail
  go_ret2
  exact ⟨rfl, hb2'.trans (hb3.mono hb2'.size)⟩

theorem yearsOfMultiple_both (zs : List Int) (x y t : Int) : ∃ r ok,
    (∀ b c w, zs.length ≤ 1048576 → b < w.heap.size → Ints w b 0 zs → Calls Try.prog 37 #[.slice (some ⟨b, 0, none⟩) zs.length c, .int .i64 x, .int .i64 y, .int .i64 t] w (RetIB r ok w)) ∧
    (∀ b c w, zs.length ≤ 1048576 → b < w.heap.size → Ints w b 0 zs → Calls Try.prog 38 #[.slice (some ⟨b, 0, none⟩) zs.length c, .int .i64 x, .int .i64 y, .int .i64 t] w (RetIB r ok w)) := by
  cases h : manyB zs x y t with
  | false => exact ⟨0, false, fun b c w hn hbl hI => specYearsOfMultiple_no _ _ _ _ _ _ _ _ hn hI h, fun b c w hn hbl hI => yearsOfMultiple_no _ _ _ _ _ _ _ _ hn hbl hI h⟩
  | true =>
    unfold manyB at h
    rw [Bool.and_eq_true, decide_eq_true_eq] at h
    obtain ⟨h1, ht⟩ := h
    have h2 := h1
    rw [Bool.and_eq_true, Bool.and_eq_true] at h2
    obtain ⟨A, rfl, hA⟩ := whoB_nat h2.1.1
    obtain ⟨B, rfl, hB⟩ := whoB_nat h2.1.2
    have hg := whoB_good h2.1.1
    exact ⟨_, _, fun b c w hn hbl hI => specYearsOfMultiple_yes _ _ _ _ _ _ _ _ hn hI h1 hA hB hg ht, fun b c w hn hbl hI => yearsOfMultiple_yes _ _ _ _ _ _ _ _ hn hI h1 hA hB hg ht⟩
end Go.Proofs.Ytonnknhmmljmaaa
