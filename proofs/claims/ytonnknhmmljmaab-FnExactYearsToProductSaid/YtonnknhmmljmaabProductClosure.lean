/- The test of YearsToProduct on a household. -/
import Derived.Test.YtonnknhmmljmaabWhenYearsToProduct
import Derived.Deep.RegionHeld3
set_option linter.unusedVariables false
set_option linter.unusedSimpArgs false
namespace Go.Proofs.Ytonnknhmmljmaab
open Go.RowKit

/-- Below, and a cell of the first world. -/
theorem below_cells {W W' : World} (hb : Below W.heap.size W W') {g : Nat} {j : Nat} {v : Value} (h : W.cell? ⟨g, j, none⟩ = some v) : W'.cell? ⟨g, j, none⟩ = some v :=
  (hb.cell (p := ⟨g, j, none⟩) (World.block_lt_of_cell? W _ h)).trans h

set_option maxHeartbeats 1600000 in
theorem prodTest (q g c n : Nat) (num age p : Int) (ys : List Int) (w : World) (hl : ys.length = n) (h8 : n ≤ 8) (hgs : g < w.heap.size) (hP : Ppl w g ys) (hz : ∀ j, j < ys.length → 0 ≤ ys.getD j 0 ∧ ys.getD j 0 ≤ 120)
    (hq : w.cell? ⟨q, 0, none⟩ = some (.int .i64 p)) :
    Calls Try.prog 40 #[.agg #[.int .i64 num, .int .i64 age, .slice (some ⟨g, 0, none⟩) n c], .pointer (some ⟨q, 0, none⟩)] w (Ret (.bool (decide (prodTo ys n ≤ p))) w) := by
  have HZ := Lib.hid hz
  have HL := Lib.hid hl
  have hql := World.block_lt_of_cell? w _ hq
  have HB : ∀ A, Below w.heap.size w (w.alloc A).drew := fun A => ((Below.refl w.heap.size w).alloc (Nat.le_refl _) A).drew
  have HP := Lib.hid hP
  clear hz hl hP
  go_enter Try.func40, Try.ntmps40
  go_wp2_with fail
  go_region_held3 (fun w' => Below w.heap.size w w' ∧ w'.cell? ⟨q, 0, none⟩ = some (.int .i64 p) ∧ w'.cell? ⟨w.heap.size, 0, none⟩ = some (.int .i64 num) ∧ w'.cell? ⟨w.heap.size, 1, none⟩ = some (.int .i64 age) ∧ w'.cell? ⟨w.heap.size, 2, none⟩ = some (.slice (some ⟨g, 0, none⟩) n c))
    (first
      | go_keep
      | (go_split_ands
         refine ⟨?_, ?_, ?_, ?_, ?_⟩
         · exact Below.trans (by assumption) (Below.mono hcall (Below.size (by assumption)))
         · exact below_cells hcall (by assumption)
         · exact below_cells hcall (by assumption)
         · exact below_cells hcall (by assumption)
         · exact below_cells hcall (by assumption)))
    (first | (go_at_call 41; refine (product_len num age g c n ys _ HL.out h8 ?_ ?_ HZ.out).mono ?_; (go_split_ands; exact Nat.lt_of_lt_of_le hgs (Below.size (by assumption))); (go_split_ands; exact HP.out.kept (by assumption) hgs); rintro e w' ⟨rfl, hcall⟩))
  obtain ⟨hb, _⟩ := ‹Below w.heap.size w _ ∧ _›
  go_wp2
  go_ret
  exact ⟨rfl, hb⟩

theorem who_zero : ((0 : Nat) : Int) = 0 := rfl

set_option maxHeartbeats 1000000 in
theorem yearsFor_YearsToProduct (b off c who : Nat) (p1 : Value) (test : Int → Bool) (zs : List Int) (w : World) (hg : goodB zs 120 = true) (hw : who < zs.length) (hI : Ints w b off zs)
    (hT : TestsYearsToProduct p1 who zs test w) :
    Calls Try.prog 39 #[.slice (some ⟨b, off, none⟩) zs.length c, .int .i64 who, .func (.func 40) #[] #[p1]] w (RetOwn (found test zs) w) := by
  have h8 := goodB_len hg
  have HT := Lib.hid hT
  clear hT
  go_enter Try.func39, Try.ntmps39
  go_wp2_with fail
  refine (householdOf_yes _ _ _ _ who zs _ rfl (by omega) hI hg hw).mono ?_
  rintro e w1 ⟨g, hg1, rfl, hP, hgs, hb⟩
  have hb1 := Lib.hid fun A => hb.alloc hb.size A
  have hP1 := Lib.hid fun A => hP.kept ((Below.refl _ _).alloc (Nat.le_refl _) A) hgs
  generalize ha : zs.getD who 0 = a
  have HA := Lib.hid ha
  clear ha hP
  go_wp2_with fail
  rw [← HA.out]
  refine (yearsWhen_YearsToProduct _ test g _ who zs _ hg hw (by simp; omega) (hP1.out _) (fun y h1 h2 g c W hB => HT.out y h1 h2 g c W ((hb1.out _).trans (hB.mono (hb1.out _).size)))).mono ?_
  rintro e w2 ⟨v, rfl, ho, hb2⟩
  go_wp2_with fail
  go_ret
  exact ⟨_, rfl, ho.mono (hb1.out _).size, (hb1.out _).trans (hb2.mono (hb1.out _).size)⟩

theorem yearsFor_zero_YearsToProduct (b off c : Nat) (p1 : Value) (test : Int → Bool) (zs : List Int) (w : World) (hg : goodB zs 120 = true) (hw : 0 < zs.length) (hI : Ints w b off zs)
    (hT : TestsYearsToProduct p1 0 zs test w) :
    Calls Try.prog 39 #[.slice (some ⟨b, off, none⟩) zs.length c, .int .i64 0, .func (.func 40) #[] #[p1]] w (RetOwn (found test zs) w) := by
  rw [show (0 : Int) = ((0 : Nat) : Int) from rfl]
  exact yearsFor_YearsToProduct b off c 0 p1 test zs w hg hw hI hT

theorem lastOf_some (B g c : Nat) (zs : List Int) (w : World) (h0 : 0 < zs.length) (h1 : zs.length ≤ 1048576) (hI : Ints w g 0 zs) :
    Calls Try.prog 38 #[.slice (some ⟨g, 0, none⟩) zs.length c] w (RetIB (zs.getD (zs.length - 1) 0) true w) := by
  have hc := hI (zs.length - 1) (by omega)
  rw [Nat.zero_add] at hc
  have hne : ((zs.length : Int) == 0) = false := beq_eq_false_iff_ne.2 (by omega)
  generalize hz : zs.getD (zs.length - 1) 0 = z at hc
  have HZ := Lib.hid hz
  clear hz
  go_enter Try.func38, Try.ntmps38
  go_wp2
  go_ret2
  exact ⟨rfl, Below.refl _ _⟩
theorem lastOf_none (a : Option Addr) (c : Nat) (w : World) :
    Calls Try.prog 38 #[.slice a 0 c] w (RetIB 0 false w) := by
  go_enter Try.func38, Try.ntmps38
  go_wp2
  go_ret2
  exact ⟨rfl, Below.refl _ _⟩
theorem lastOf_any (B : Nat) (v : Value) (zs : List Int) (w : World) (h1 : zs.length ≤ 1048576) (ho : Own B w v zs) :
    Calls Try.prog 38 #[v] w (RetIB (zs.getD (zs.length - 1) 0) (decide (0 < zs.length)) w) := by
  by_cases h0 : 0 < zs.length
  · obtain ⟨g, c, rfl, _, _, hI⟩ := ownNonempty ho h0
    rw [decide_eq_true h0]
    exact lastOf_some B g c zs w h0 h1 hI
  · have hz : zs = [] := List.eq_nil_of_length_eq_zero (by omega)
    subst hz
    rcases ho.cases with ⟨rfl, _⟩ | ⟨g, c, rfl, _⟩
    · exact lastOf_none _ _ _
    · exact lastOf_none _ _ _

set_option maxHeartbeats 1000000 in
theorem yearsToProduct_yes (b off c : Nat) (p : Int) (zs : List Int) (w : World) (hn : zs.length ≤ 1048576) (hI : Ints w b off zs) (hg : goodB zs 120 = true) :
    Calls Try.prog 13 #[.slice (some ⟨b, off, none⟩) zs.length c, .int .i64 p] w
      (RetIB ((found (fun y => decide (prodTo (agesIn zs y) zs.length ≤ p)) zs).getD ((found (fun y => decide (prodTo (agesIn zs y) zs.length ≤ p)) zs).length - 1) 0) (decide (0 < (found (fun y => decide (prodTo (agesIn zs y) zs.length ≤ p)) zs).length)) w) := by
  have h8 := goodB_len hg
  have hbl := ints_lt hI (by omega)
  have hI' := Lib.hid fun A => hI.kept ((Below.refl w.heap.size w).alloc (Nat.le_refl _) A) hbl
  have hW := Lib.hid fun A => (Below.refl w.heap.size w).alloc (Nat.le_refl _) A
  have HL := Lib.hid (found_len hg (fun y => decide (prodTo (agesIn zs y) zs.length ≤ p)))
  have HT := Lib.hid (show ∀ (W1 : World), Below (w.alloc (.cells #[.int .i64 p] 3)).heap.size (w.alloc (.cells #[.int .i64 p] 3)) W1 → TestsYearsToProduct (.pointer (some ⟨w.heap.size, 0, none⟩)) 0 zs (fun y => decide (prodTo (agesIn zs y) zs.length ≤ p)) W1 from
    fun W1 hW1 y h1 h2 g c W hB hgs hP => by
      have hf : fitB zs y = true := by unfold fitB; rw [hg, inB_true h1 h2]; rfl
      obtain ⟨_, _, hl, hz⟩ := fit_in hf
      have hq : (w.alloc (.cells #[.int .i64 p] 3)).cell? ⟨w.heap.size, 0, none⟩ = some (.int .i64 p) := by simp
      exact prodTest _ g c _ _ _ p (agesIn zs y) W hl (by omega) hgs hP hz (below_cells hB (below_cells hW1 hq)))
  generalize hfd : found (fun y => decide (prodTo (agesIn zs y) zs.length ≤ p)) zs = fd at HL
  have HF := Lib.hid hfd
  clear hfd
  go_enter Try.func13, Try.ntmps13
  go_wp2_with fail
  refine (yearsFor_zero_YearsToProduct _ _ _ _ _ zs _ hg (by omega) (hI'.out _) (HT.out _ (Below.refl _ _))).mono ?_
  rw [HF.out]
  rintro e w2 ⟨v, rfl, ho, hb2⟩
  go_wp2_with fail
  refine (lastOf_any _ _ fd _ (by have := HL.out; omega) ho).mono ?_
  rintro e w3 ⟨rfl, hb3⟩
  have hb2' := (hW.out _).trans (hb2.mono (by simp))
  go_wp2_with fail
  go_ret2
  exact ⟨rfl, hb2'.trans (hb3.mono hb2'.size)⟩

theorem yearsFor_YearsToProduct_no (b off c : Nat) (p1 : Value) (zs : List Int) (w : World) (hn : zs.length ≤ 1048576) (hbl : b < w.heap.size) (hI : Ints w b off zs) (hg : goodB zs 120 = false) :
    Calls Try.prog 39 #[.slice (some ⟨b, off, none⟩) zs.length c, .int .i64 0, .func (.func 40) #[] #[p1]] w (RetOwn [] w) := by
  go_enter Try.func39, Try.ntmps39
  go_wp2_with fail
  refine (householdOf_nozero _ _ _ _ zs _ rfl hn hI hbl hg).mono ?_
  rintro e w1 ⟨rfl, hb⟩
  go_wp2_with fail
  go_ret
  exact ⟨_, rfl, own_nil _ _, hb.alloc hb.size _⟩
theorem yearsToProduct_no (b off c : Nat) (p : Int) (zs : List Int) (w : World) (hn : zs.length ≤ 1048576) (hbl : b < w.heap.size) (hI : Ints w b off zs) (hg : goodB zs 120 = false) :
    Calls Try.prog 13 #[.slice (some ⟨b, off, none⟩) zs.length c, .int .i64 p] w (RetIB 0 false w) := by
  have hI' := Lib.hid fun A => hI.kept ((Below.refl w.heap.size w).alloc (Nat.le_refl _) A) hbl
  have hW := Lib.hid fun A => (Below.refl w.heap.size w).alloc (Nat.le_refl _) A
  go_enter Try.func13, Try.ntmps13
  go_wp2_with fail
  refine (yearsFor_YearsToProduct_no _ _ _ _ zs _ hn (by simp; omega) (hI'.out _) hg).mono ?_
  rintro e w2 ⟨v, rfl, ho, hb2⟩
  go_wp2_with fail
  refine (lastOf_any _ _ [] _ (by simp) ho).mono ?_
  rintro e w3 ⟨rfl, hb3⟩
  have hb2' := (hW.out _).trans (hb2.mono (by simp))
  go_wp2_with fail
  go_ret2
  exact ⟨rfl, hb2'.trans (hb3.mono hb2'.size)⟩

theorem specYearsToProduct_no (b off c : Nat) (p : Int) (zs : List Int) (w : World) (hn : zs.length ≤ 1048576) (hI : Ints w b off zs) (hg : (goodB zs 120 && decide (0 ≤ p)) = false) :
    Calls Try.prog 11 #[.slice (some ⟨b, off, none⟩) zs.length c, .int .i64 p] w (RetIB 0 false w) := by
  cases hg' : goodB zs 120 with
  | false =>
    clear hg
    go_enter Try.func11, Try.ntmps11
    go_wp2_with (first | (go_at_call 34; refine (agGood_any _ _ _ _ zs _ rfl hn hI).mono ?_; rintro e w' ⟨rfl, rfl⟩))
    go_ret2
    exact ⟨rfl, Below.refl _ _⟩
  | true =>
    have hp : p < 0 := by rw [hg'] at hg; simp at hg; omega
    clear hg
    go_enter Try.func11, Try.ntmps11
    go_wp2_with (first | (go_at_call 34; refine (agGood_any _ _ _ _ zs _ rfl hn hI).mono ?_; rintro e w' ⟨rfl, rfl⟩))
    go_ret2
    exact ⟨rfl, Below.refl _ _⟩

/-- Back from the greatest year on. -/
theorem found_last {test : Int → Bool} {zs : List Int} {y : Int} (h1 : loY zs ≤ y) (h2 : y ≤ hiY zs) (ht : test y = true) (hf : ∀ x, y < x → x ≤ hiY zs → test x = false) :
    (found test zs).getD ((found test zs).length - 1) 0 = y ∧ 0 < (found test zs).length := by
  obtain ⟨m, hm⟩ : ∃ m : Nat, y = loY zs + m := ⟨(y - loY zs).toNat, by omega⟩
  have hN : m < nY zs := by unfold nY; omega
  have e := yTo_last (lo := loY zs) (test := test) (m := m) (by rw [← hm]; exact ht) hN (fun j h1 h2 => hf _ (by omega) (by unfold nY at h2; omega))
  unfold found
  rw [e]
  constructor
  · rw [List.length_append]
    simp [hm]
  · simp
theorem found_none {test : Int → Bool} {zs : List Int} (hf : ∀ x, loY zs ≤ x → x ≤ hiY zs → test x = false) : found test zs = [] :=
  yTo_none fun j hj => hf _ (by omega) (by unfold nY at hj; omega)

set_option maxHeartbeats 1000000 in
theorem specYearsToProduct_yes (b off c : Nat) (p : Int) (zs : List Int) (w : World) (hn : zs.length ≤ 1048576) (hI : Ints w b off zs) (hg : goodB zs 120 = true) (hp : 0 ≤ p) :
    Calls Try.prog 11 #[.slice (some ⟨b, off, none⟩) zs.length c, .int .i64 p] w
      (RetIB ((found (fun y => decide (prodTo (agesIn zs y) zs.length ≤ p)) zs).getD ((found (fun y => decide (prodTo (agesIn zs y) zs.length ≤ p)) zs).length - 1) 0) (decide (0 < (found (fun y => decide (prodTo (agesIn zs y) zs.length ≤ p)) zs).length)) w) := by
  have h8 := goodB_len hg
  have hbl := ints_lt hI (by omega)
  have hbd := loY_bd hg
  have HFL := Lib.hid (fun y h1 h2 ht hf => found_last (test := fun y => decide (prodTo (agesIn zs y) zs.length ≤ p)) (zs := zs) (y := y) h1 h2 ht hf)
  have HFN := Lib.hid (fun hf => found_none (test := fun y => decide (prodTo (agesIn zs y) zs.length ≤ p)) (zs := zs) hf)
  generalize found (fun y => decide (prodTo (agesIn zs y) zs.length ≤ p)) zs = fd at HFL HFN
  have HG := Lib.hid hg
  go_enter Try.func11, Try.ntmps11
  go_wp2_with (first | (go_at_call 34; refine (agGood_any _ _ _ _ zs _ rfl hn hI).mono ?_; rintro e w' ⟨rfl, rfl⟩))
  refine (agRange_any _ _ _ _ zs _ rfl hI hg).mono ?_
  rintro e w1 ⟨rfl, hb⟩
  clear hg
  go_wp2_with fail
  go_loopw [8] (fun v wr => ∃ y : Int, v = .int .i64 y ∧ loY zs - 1 ≤ y ∧ y ≤ hiY zs ∧ Hid (∀ x, y < x → x ≤ hiY zs → decide (prodTo (agesIn zs x) zs.length ≤ p) = false) ∧ Below w.heap.size w wr) (fun v _ => (intOf v + 121).toNat)
  case atStart => exact ⟨hiY zs, rfl, by omega, by omega, Lib.hid fun x h1 h2 => by omega, hb⟩
  case round =>
    obtain ⟨y, rfl, hy1, hy2, hno, hbr⟩ := hrel
    have hsz := hbr.size
    by_cases hge : loY zs ≤ y
    · have hf : fitB zs y = true := by unfold fitB; rw [HG.out, inB_true hge hy2]; rfl
      obtain ⟨_, hyb, hl, hz⟩ := fit_in hf
      have HL := Lib.hid hl
      have HZ := Lib.hid hz
      clear hf hl hz
      go_wp2_with fail
      refine (agIn_any _ _ _ _ zs _ (by omega) (hI.kept hbr hbl) HG.out hyb).mono ?_
      rintro e w2 ⟨v, rfl, ho, hb2⟩
      obtain ⟨g2, c2, rfl, hg2, hgs2, hI2⟩ := ownNonempty ho (by rw [HL.out]; omega)
      have hb2' := hbr.trans (hb2.mono hsz)
      go_wp2_with fail
      refine (agProduct_any _ _ _ (agesIn zs y) _ (by rw [HL.out]; omega) hI2 HZ.out).mono ?_
      rintro e w3 ⟨rfl, rfl⟩
      rw [HL.out]
      by_cases ht : prodTo (agesIn zs y) zs.length ≤ p
      · have HR := Lib.hid (HFL.out y hge hy2 (decide_eq_true ht) hno.out)
        go_wp2_with fail
        go_ret2
        exact ⟨by rw [HR.out.1, decide_eq_true HR.out.2]; rfl, hb2'⟩
      · have hno' : Hid (∀ x, y - 1 < x → x ≤ hiY zs → decide (prodTo (agesIn zs x) zs.length ≤ p) = false) := Lib.hid fun x h1 h2 => by
          by_cases e : x = y
          · subst e; exact decide_eq_false ht
          · exact hno.out x (by omega) h2
        go_wp2_with fail
        go_roundw
        case rel => exact ⟨y - 1, by go_num, by omega, by omega, hno', hb2'⟩
        case measure => simp [intOf]; omega
    · have HR := Lib.hid (HFN.out fun x h1 h2 => hno.out x (by omega) h2)
      clear hno
      go_wp2
      go_ret2
      exact ⟨by rw [HR.out]; rfl, hbr⟩

theorem yearsToProduct_both (zs : List Int) (p : Int) : ∃ r ok,
    (∀ b c w, zs.length ≤ 1048576 → b < w.heap.size → Ints w b 0 zs → Calls Try.prog 11 #[.slice (some ⟨b, 0, none⟩) zs.length c, .int .i64 p] w (RetIB r ok w)) ∧
    (∀ b c w, zs.length ≤ 1048576 → b < w.heap.size → Ints w b 0 zs → Calls Try.prog 13 #[.slice (some ⟨b, 0, none⟩) zs.length c, .int .i64 p] w (RetIB r ok w)) := by
  cases hg : goodB zs 120 with
  | false => exact ⟨0, false, fun b c w hn hbl hI => specYearsToProduct_no _ _ _ _ _ _ hn hI (by rw [hg]; rfl), fun b c w hn hbl hI => yearsToProduct_no _ _ _ _ _ _ hn hbl hI hg⟩
  | true =>
    by_cases hp : 0 ≤ p
    · exact ⟨_, _, fun b c w hn hbl hI => specYearsToProduct_yes _ _ _ _ _ _ hn hI hg hp, fun b c w hn hbl hI => yearsToProduct_yes _ _ _ _ _ _ hn hI hg⟩
    · refine ⟨0, false, fun b c w hn hbl hI => specYearsToProduct_no _ _ _ _ _ _ hn hI (by rw [hg, decide_eq_false hp]; rfl), fun b c w hn hbl hI => ?_⟩
      have h8 := goodB_len hg
      have hf : found (fun y => decide (prodTo (agesIn zs y) zs.length ≤ p)) zs = [] := found_none fun x h1 h2 => by
        have hf : fitB zs x = true := by unfold fitB; rw [hg, inB_true h1 h2]; rfl
        obtain ⟨_, _, hl, hz⟩ := fit_in hf
        have := (prod_fits (zs := agesIn zs x) (by omega) hz zs.length (by omega)).1
        exact decide_eq_false (by omega)
      have h := yearsToProduct_yes b 0 c p zs w hn hI hg
      rw [hf] at h
      exact h
end Go.Proofs.Ytonnknhmmljmaab
