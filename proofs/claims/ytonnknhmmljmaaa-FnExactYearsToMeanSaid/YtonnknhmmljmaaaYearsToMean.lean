/- YearsToMean: both texts. -/
import Derived.Test.YtonnknhmmljmaaaFirst
import Derived.Test.YtonnknhmmljmaaaWhenYearsToMean
import Derived.IntWalk
set_option linter.unusedVariables false
set_option linter.unusedSimpArgs false
namespace Go.Proofs.Ytonnknhmmljmaaa
open Go.RowKit

theorem mean_bd {s den num n : Int} (h1 : 0 ≤ s ∧ s ≤ 960) (h2 : 1 ≤ den ∧ den ≤ 100) (h3 : 0 ≤ num ∧ num ≤ 10000) (h4 : 0 ≤ n ∧ n ≤ 8) : (0 ≤ s * den ∧ s * den ≤ 96000) ∧ (0 ≤ num * n ∧ num * n ≤ 80000) := by
  have a := Int.mul_nonneg h1.1 (show 0 ≤ den by omega)
  have b := Int.mul_nonneg h3.1 h4.1
  have c : s * den ≤ 960 * 100 := Int.mul_le_mul h1.2 h2.2 (by omega) (by omega)
  have d : num * n ≤ 10000 * 8 := Int.mul_le_mul h3.2 h4.2 (by omega) (by omega)
  omega

set_option maxHeartbeats 1600000 in
theorem meanTest (q1 q2 g c n : Nat) (num age den nm : Int) (ys : List Int) (w : World) (hl : ys.length = n) (h8 : n ≤ 8) (hgs : g < w.heap.size) (hP : Ppl w g ys) (hz : ∀ j, j < ys.length → 0 ≤ ys.getD j 0 ∧ ys.getD j 0 ≤ 120)
    (hd : 1 ≤ den ∧ den ≤ 100) (hn : 0 ≤ nm ∧ nm ≤ 10000) (hq1 : w.cell? ⟨q1, 0, none⟩ = some (.int .i64 den)) (hq2 : w.cell? ⟨q2, 0, none⟩ = some (.int .i64 nm)) :
    Calls Try.prog 65 #[.agg #[.int .i64 num, .int .i64 age, .slice (some ⟨g, 0, none⟩) n c], .pointer (some ⟨q1, 0, none⟩), .pointer (some ⟨q2, 0, none⟩)] w (Ret (.bool (sumTo ys n * den == nm * n)) w) := by
  have HZ := Lib.hid hz
  have HL := Lib.hid hl
  have hql1 := World.block_lt_of_cell? w _ hq1
  have hql2 := World.block_lt_of_cell? w _ hq2
  have HB : ∀ A, Below w.heap.size w (w.alloc A).drew := fun A => ((Below.refl w.heap.size w).alloc (Nat.le_refl _) A).drew
  have HP := Lib.hid hP
  have hs := sumTo_bd hz n (by omega)
  obtain ⟨m1, m2⟩ := mean_bd (n := (n : Int)) ⟨hs.1, by omega⟩ hd hn ⟨by omega, by omega⟩
  have k1 : IntKind.i64.wrap (sumTo ys n * den) = sumTo ys n * den := IntWalk.i64_in _ (by omega)
  have k2 : IntKind.i64.wrap (nm * (n : Int)) = nm * (n : Int) := IntWalk.i64_in _ (by omega)
  clear hz hl hP hs
  go_enter Try.func65, Try.ntmps65
  go_wp2_with fail
  go_region_held3 (fun w' => Below w.heap.size w w' ∧ w'.cell? ⟨q1, 0, none⟩ = some (.int .i64 den) ∧ w'.cell? ⟨q2, 0, none⟩ = some (.int .i64 nm) ∧ w'.cell? ⟨w.heap.size, 0, none⟩ = some (.int .i64 num) ∧ w'.cell? ⟨w.heap.size, 1, none⟩ = some (.int .i64 age) ∧ w'.cell? ⟨w.heap.size, 2, none⟩ = some (.slice (some ⟨g, 0, none⟩) n c))
    (first
      | go_keep
      | (go_split_ands
         refine ⟨?_, ?_, ?_, ?_, ?_, ?_⟩
         · exact Below.trans (by assumption) (Below.mono hcall (Below.size (by assumption)))
         · exact below_cells hcall (by assumption)
         · exact below_cells hcall (by assumption)
         · exact below_cells hcall (by assumption)
         · exact below_cells hcall (by assumption)
         · exact below_cells hcall (by assumption)))
    (first | (go_at_call 54; refine (sum_len num age g c n ys _ HL.out h8 ?_ ?_ HZ.out).mono ?_; (go_split_ands; exact Nat.lt_of_lt_of_le hgs (Below.size (by assumption))); (go_split_ands; exact HP.out.kept (by assumption) hgs); rintro e w' ⟨rfl, hcall⟩))
  obtain ⟨hb, _⟩ := ‹Below w.heap.size w _ ∧ _›
  go_wp2
  go_ret
  exact ⟨rfl, hb⟩

def meanT (zs : List Int) (nm den : Int) : Int → Bool := fun y => sumTo (agesIn zs y) zs.length * den == nm * (zs.length : Int)
theorem meanT_eq (zs : List Int) (nm den y : Int) : meanT zs nm den y = (sumTo (agesIn zs y) zs.length * den == nm * (zs.length : Int)) := rfl
def meanOk (nm den : Int) : Bool := inB nm 0 10000 && inB den 1 100

set_option maxHeartbeats 1000000 in
theorem yearsToMean_bad (b off c : Nat) (nm den : Int) (zs : List Int) (w : World) (hok : meanOk nm den = false) :
    Calls Try.prog 32 #[.slice (some ⟨b, off, none⟩) zs.length c, .int .i64 nm, .int .i64 den] w (RetIB 0 false w) := by
  cases h1 : inB nm 0 10000 with
  | false =>
    clear hok
    go_enter Try.func32, Try.ntmps32
    go_wp2_with (first | (go_at_call 64; refine (isWithin_any _ _ _ _).mono ?_; rintro e w' ⟨rfl, rfl⟩))
    go_ret2
    exact ⟨rfl, by go_grown⟩
  | true =>
    have h2 : inB den 1 100 = false := by unfold meanOk at hok; rw [h1] at hok; exact hok
    clear hok
    go_enter Try.func32, Try.ntmps32
    go_wp2_with (first | (go_at_call 64; refine (isWithin_any _ _ _ _).mono ?_; rintro e w' ⟨rfl, rfl⟩))
    go_ret2
    exact ⟨rfl, by go_grown⟩

set_option maxHeartbeats 1000000 in
theorem yearsToMean_no (b off c : Nat) (nm den : Int) (zs : List Int) (w : World) (hn : zs.length ≤ 1048576) (hbl : b < w.heap.size) (hI : Ints w b off zs) (hg : goodB zs 120 = false) (h1 : inB nm 0 10000 = true) (h2 : inB den 1 100 = true) :
    Calls Try.prog 32 #[.slice (some ⟨b, off, none⟩) zs.length c, .int .i64 nm, .int .i64 den] w (RetIB 0 false w) := by
  have hW := Lib.hid fun A B => ((Below.refl w.heap.size w).alloc (Nat.le_refl _) A).alloc (by simp) B
  have hI' := Lib.hid fun A B => hI.kept (hW.out A B) hbl
  have HG := Lib.hid hg
  clear hg
  go_enter Try.func32, Try.ntmps32
  go_wp2_with (first | (go_at_call 64; refine (isWithin_any _ _ _ _).mono ?_; rintro e w' ⟨rfl, rfl⟩))
  refine (yearsForNo_YearsToMean _ _ _ 0 _ _ zs _ hn (by simp; omega) (hI'.out _ _) (by rw [HG.out]; rfl)).mono ?_
  rintro e w2 ⟨v, rfl, ho, hb2⟩
  go_wp2_with fail
  refine (firstOf_any _ _ [] _ (by simp) ho).mono ?_
  rintro e w3 ⟨rfl, hb3⟩
  have hb2' := (hW.out _ _).trans (hb2.mono (by simp; omega))
  go_wp2_with fail
  go_ret2
  exact ⟨rfl, hb2'.trans (hb3.mono hb2'.size)⟩

set_option maxHeartbeats 1000000 in
theorem yearsToMean_yes (b off c : Nat) (nm den : Int) (zs : List Int) (w : World) (hn : zs.length ≤ 1048576) (hI : Ints w b off zs) (hg : goodB zs 120 = true) (h1 : inB nm 0 10000 = true) (h2 : inB den 1 100 = true) :
    Calls Try.prog 32 #[.slice (some ⟨b, off, none⟩) zs.length c, .int .i64 nm, .int .i64 den] w
      (RetIB ((found (meanT zs nm den) zs).getD 0 0) (decide (0 < (found (meanT zs nm den) zs).length)) w) := by
  have h8 := goodB_len hg
  have hbl := ints_lt hI (by omega)
  have hW := Lib.hid fun A B => ((Below.refl w.heap.size w).alloc (Nat.le_refl _) A).alloc (by simp) B
  have hI' := Lib.hid fun A B => hI.kept (hW.out A B) hbl
  have HL := Lib.hid (found_len hg (meanT zs nm den))
  have HT := Lib.hid (show TestsYearsToMean (.pointer (some ⟨w.heap.size + 1, 0, none⟩)) (.pointer (some ⟨w.heap.size, 0, none⟩)) 0 zs (meanT zs nm den) ((w.alloc (.cells #[.int .i64 nm] 3)).alloc (.cells #[.int .i64 den] 3)) from
    fun y y1 y2 g c W hB hgs hP => by
      have hf : fitB zs y = true := by unfold fitB; rw [hg, inB_true y1 y2]; rfl
      obtain ⟨_, _, hl, hz⟩ := fit_in hf
      have hq1 : ((w.alloc (.cells #[.int .i64 nm] 3)).alloc (.cells #[.int .i64 den] 3)).cell? ⟨w.heap.size + 1, 0, none⟩ = some (.int .i64 den) := by
        have := heap_new (w.alloc (.cells #[.int .i64 nm] 3)) (.cells #[.int .i64 den] 3)
        simp at this
        simp [World.cell?, this]
      have hq2 : ((w.alloc (.cells #[.int .i64 nm] 3)).alloc (.cells #[.int .i64 den] 3)).cell? ⟨w.heap.size, 0, none⟩ = some (.int .i64 nm) := by
        have := heap_later (heap_new w (.cells #[.int .i64 nm] 3)) (.cells #[.int .i64 den] 3)
        simp [World.cell?, this]
      exact meanTest _ _ g c _ _ _ den nm (agesIn zs y) W hl (by omega) hgs hP hz (inB_iff.1 h2) (inB_iff.1 h1) (below_cells hB hq1) (below_cells hB hq2))
  generalize meanT zs nm den = test at HL HT
  generalize hfd : found test zs = fd at HL
  have HF := Lib.hid hfd
  have HG := Lib.hid hg
  clear hfd hg
  go_enter Try.func32, Try.ntmps32
  go_wp2_with (first | (go_at_call 64; refine (isWithin_any _ _ _ _).mono ?_; rintro e w' ⟨rfl, rfl⟩))
  refine (yearsForZ_YearsToMean _ _ _ _ _ test zs _ HG.out (by omega) (hI'.out _ _) HT.out).mono ?_
  rw [HF.out]
  rintro e w2 ⟨v, rfl, ho, hb2⟩
  go_wp2_with fail
  refine (firstOf_any _ _ fd _ (by have := HL.out; omega) ho).mono ?_
  rintro e w3 ⟨rfl, hb3⟩
  have hb2' := (hW.out _ _).trans (hb2.mono (by simp; omega))
  go_wp2_with fail
  go_ret2
  exact ⟨rfl, hb2'.trans (hb3.mono hb2'.size)⟩

set_option maxHeartbeats 1000000 in
theorem specYearsToMean_no (b off c : Nat) (nm den : Int) (zs : List Int) (w : World) (hn : zs.length ≤ 1048576) (hI : Ints w b off zs) (hg : (goodB zs 120 && meanOk nm den) = false) :
    Calls Try.prog 31 #[.slice (some ⟨b, off, none⟩) zs.length c, .int .i64 nm, .int .i64 den] w (RetIB 0 false w) := by
  cases h0 : goodB zs 120 with
  | false =>
    clear hg
    go_enter Try.func31, Try.ntmps31
    go_wp2_with (first | (go_at_call 46; refine (agGood_any _ _ _ _ zs _ rfl hn hI).mono ?_; rintro e w' ⟨rfl, rfl⟩) | (go_at_call 63; refine (l1In_any _ _ _ _).mono ?_; rintro e w' ⟨rfl, rfl⟩))
    go_ret2
    exact ⟨rfl, Below.refl _ _⟩
  | true =>
    cases h1 : inB nm 0 10000 with
    | false =>
      clear hg
      go_enter Try.func31, Try.ntmps31
      go_wp2_with (first | (go_at_call 46; refine (agGood_any _ _ _ _ zs _ rfl hn hI).mono ?_; rintro e w' ⟨rfl, rfl⟩) | (go_at_call 63; refine (l1In_any _ _ _ _).mono ?_; rintro e w' ⟨rfl, rfl⟩))
      go_ret2
      exact ⟨rfl, Below.refl _ _⟩
    | true =>
      have h2 : inB den 1 100 = false := by unfold meanOk at hg; rw [h0, h1] at hg; exact hg
      clear hg
      go_enter Try.func31, Try.ntmps31
      go_wp2_with (first | (go_at_call 46; refine (agGood_any _ _ _ _ zs _ rfl hn hI).mono ?_; rintro e w' ⟨rfl, rfl⟩) | (go_at_call 63; refine (l1In_any _ _ _ _).mono ?_; rintro e w' ⟨rfl, rfl⟩))
      go_ret2
      exact ⟨rfl, Below.refl _ _⟩

set_option maxHeartbeats 1000000 in
theorem specYearsToMean_yes (b off c : Nat) (nm den : Int) (zs : List Int) (w : World) (hn : zs.length ≤ 1048576) (hI : Ints w b off zs) (hg : goodB zs 120 = true) (h1 : inB nm 0 10000 = true) (h2 : inB den 1 100 = true) :
    Calls Try.prog 31 #[.slice (some ⟨b, off, none⟩) zs.length c, .int .i64 nm, .int .i64 den] w
      (RetIB ((found (meanT zs nm den) zs).getD 0 0) (decide (0 < (found (meanT zs nm den) zs).length)) w) := by
  have h8 := goodB_len hg
  have hbl := ints_lt hI (by omega)
  have hbd := loY_bd hg
  have b1 := inB_iff.1 h1
  have b2 := inB_iff.1 h2
  have HFL := Lib.hid (fun y h1 h2 ht hf => found_first (test := meanT zs nm den) (zs := zs) (y := y) h1 h2 ht hf)
  have HFN := Lib.hid (fun hf => found_none (test := meanT zs nm den) (zs := zs) hf)
  generalize found (meanT zs nm den) zs = fd at HFL HFN
  have HG := Lib.hid hg
  go_enter Try.func31, Try.ntmps31
  go_wp2_with (first | (go_at_call 46; refine (agGood_any _ _ _ _ zs _ rfl hn hI).mono ?_; rintro e w' ⟨rfl, rfl⟩) | (go_at_call 63; refine (l1In_any _ _ _ _).mono ?_; rintro e w' ⟨rfl, rfl⟩))
  refine (agRange_any _ _ _ _ zs _ rfl hI hg).mono ?_
  rintro e w1 ⟨rfl, hb⟩
  clear hg h1 h2
  go_wp2_with fail
  go_loopw [10] (fun v wr => ∃ y : Int, v = .int .i64 y ∧ loY zs ≤ y ∧ y ≤ hiY zs + 1 ∧ Hid (∀ x, loY zs ≤ x → x < y → meanT zs nm den x = false) ∧ Below w.heap.size w wr) (fun v _ => (121 - intOf v).toNat)
  case atStart => exact ⟨loY zs, rfl, by omega, by omega, Lib.hid fun x h1 h2 => by omega, hb⟩
  case round =>
    obtain ⟨y, rfl, hy1, hy2, hno, hbr⟩ := hrel
    have hsz := hbr.size
    by_cases hge : y ≤ hiY zs
    · have hf : fitB zs y = true := by unfold fitB; rw [HG.out, inB_true hy1 hge]; rfl
      obtain ⟨_, hyb, hl, hz⟩ := fit_in hf
      have HL := Lib.hid hl
      have HZ := Lib.hid hz
      have hs := sumTo_bd hz zs.length (by omega)
      obtain ⟨m1, m2⟩ := mean_bd (n := (zs.length : Int)) ⟨hs.1, by omega⟩ b2 b1 ⟨by omega, by omega⟩
      clear hf hl hz hs
      go_wp2_with fail
      refine (agIn_any _ _ _ _ zs _ (by omega) (hI.kept hbr hbl) HG.out hyb).mono ?_
      rintro e w2 ⟨v, rfl, ho, hb2⟩
      obtain ⟨g2, c2, rfl, hg2, hgs2, hI2⟩ := ownNonempty ho (by rw [HL.out]; omega)
      have hb2' := hbr.trans (hb2.mono hsz)
      go_wp2_with fail
      refine (agSum_any _ _ _ (agesIn zs y) _ (by rw [HL.out]; omega) hI2 HZ.out).mono ?_
      rintro e w3 ⟨rfl, rfl⟩
      rw [HL.out]
      cases ht : meanT zs nm den y with
      | true =>
        have HR := Lib.hid (HFL.out y hy1 hge ht hno.out)
        rw [meanT_eq] at ht
        go_wp2_with fail
        go_ret2
        exact ⟨by rw [HR.out.1, decide_eq_true HR.out.2]; rfl, hb2'⟩
      | false =>
        have hno' : Hid (∀ x, loY zs ≤ x → x < y + 1 → meanT zs nm den x = false) := Lib.hid fun x h1 h2 => by
          by_cases e : x = y
          · subst e; exact ht
          · exact hno.out x h1 (by omega)
        rw [meanT_eq] at ht
        go_wp2_with fail
        go_roundw
        case rel => exact ⟨y + 1, by go_num, by omega, by omega, hno', hb2'⟩
        case measure => simp [intOf]; omega
    · have HR := Lib.hid (HFN.out fun x h1 h2 => hno.out x h1 (by omega))
      clear hno
      go_wp2
      go_ret2
      exact ⟨by rw [HR.out]; rfl, hbr⟩

theorem yearsToMean_both (zs : List Int) (nm den : Int) : ∃ r ok,
    (∀ b c w, zs.length ≤ 1048576 → b < w.heap.size → Ints w b 0 zs → Calls Try.prog 31 #[.slice (some ⟨b, 0, none⟩) zs.length c, .int .i64 nm, .int .i64 den] w (RetIB r ok w)) ∧
    (∀ b c w, zs.length ≤ 1048576 → b < w.heap.size → Ints w b 0 zs → Calls Try.prog 32 #[.slice (some ⟨b, 0, none⟩) zs.length c, .int .i64 nm, .int .i64 den] w (RetIB r ok w)) := by
  cases hok : meanOk nm den with
  | false => exact ⟨0, false, fun b c w hn hbl hI => specYearsToMean_no _ _ _ _ _ _ _ hn hI (by rw [hok, Bool.and_false]), fun b c w hn hbl hI => yearsToMean_bad _ _ _ _ _ _ _ hok⟩
  | true =>
    have h12 := hok
    unfold meanOk at h12
    rw [Bool.and_eq_true] at h12
    cases hg : goodB zs 120 with
    | false => exact ⟨0, false, fun b c w hn hbl hI => specYearsToMean_no _ _ _ _ _ _ _ hn hI (by rw [hg]; rfl), fun b c w hn hbl hI => yearsToMean_no _ _ _ _ _ _ _ hn hbl hI hg h12.1 h12.2⟩
    | true => exact ⟨_, _, fun b c w hn hbl hI => specYearsToMean_yes _ _ _ _ _ _ _ hn hI hg h12.1 h12.2, fun b c w hn hbl hI => yearsToMean_yes _ _ _ _ _ _ _ hn hI hg h12.1 h12.2⟩
end Go.Proofs.Ytonnknhmmljmaaa
