/- Sums and products of ages, both texts. -/
import Derived.Test.YtonnknhmmljmaaaIn
set_option linter.unusedVariables false
set_option linter.unusedSimpArgs false
namespace Go.Proofs.Ytonnknhmmljmaaa
open Go.RowKit

/-- People of whatever numbers and these ages. -/
def Prs (w : World) (g : Nat) (ns : Nat → Int) (zs : List Int) : Prop :=
  ∀ j, j < zs.length → w.cell? ⟨g, j * 2, none⟩ = some (.int .i64 (ns j)) ∧ w.cell? ⟨g, j * 2 + 1, none⟩ = some (.int .i64 (zs.getD j 0))
theorem Ppl.prs {w : World} {g : Nat} {zs : List Int} (h : Ppl w g zs) : Prs w g (fun j => (j : Int)) zs := fun j hj => ⟨h.num j hj, h.age j hj⟩
theorem Prs.kept {B : Nat} {w w' : World} {g : Nat} {ns : Nat → Int} {zs : List Int} (h : Prs w g ns zs) (hb : Below B w w') (hlt : g < B) : Prs w' g ns zs :=
  fun j hj => ⟨(hb.cell (p := ⟨g, j * 2, none⟩) hlt).trans (h j hj).1, (hb.cell (p := ⟨g, j * 2 + 1, none⟩) hlt).trans (h j hj).2⟩

set_option maxHeartbeats 400000 in
theorem sumOf_any (g c : Nat) (ns : Nat → Int) (zs : List Int) (w : World) (h8 : zs.length ≤ 8) (hgs : g < w.heap.size) (hP : Prs w g ns zs) (hz : ∀ j, j < zs.length → 0 ≤ zs.getD j 0 ∧ zs.getD j 0 ≤ 120) :
    Calls Try.prog 79 #[.slice (some ⟨g, 0, none⟩) zs.length c] w (Ret (.int .i64 (sumTo zs zs.length)) w) := by
  have HZ := Lib.hid hz
  have HP := Lib.hid hP
  clear hz hP
  go_enter Try.func79, Try.ntmps79
  go_wp2
  go_loopw [3, 8] (fun s v wr => ∃ k : Nat, k ≤ zs.length ∧ v = .int .i64 k ∧ s = .int .i64 (sumTo zs k) ∧ Below w.heap.size w wr) (fun _ v _ => zs.length - (intOf v).toNat)
  case atStart => exact ⟨0, Nat.zero_le _, rfl, rfl, Below.refl _ _⟩
  case round =>
    obtain ⟨k, hk, rfl, rfl, hb⟩ := hrel
    have m1 := sumTo_bd HZ.out k (by omega)
    have hsz := hb.size
    by_cases hlt : k < zs.length
    · have hz := HZ.out k hlt
      obtain ⟨hc1, hc2⟩ := (HP.out.kept hb hgs) k hlt
      have S1 := Lib.hid (sumTo_succ zs k hlt)
      generalize sumTo zs k = x at m1 S1 ⊢
      generalize zs.getD k 0 = z at hz hc2 S1
      generalize ns k = q at hc1
      go_wp2
      go_roundw
      case rel => exact ⟨k + 1, by omega, by go_num, by rw [S1.out], hb.alloc hsz _⟩
      case measure => simp [intOf]; omega
    · have hkn : k = zs.length := by omega
      clear hlt hk
      subst hkn
      go_wp2
      go_ret
      exact ⟨rfl, hb⟩

theorem sumOf_nil (w : World) : Calls Try.prog 79 #[.slice none 0 0] w (Ret (.int .i64 0) w) := by
  go_enter Try.func79, Try.ntmps79
  go_wp2
  go_rounds 1
  go_ret
  exact ⟨rfl, Below.refl _ _⟩

theorem sum_any (num age : Int) (g c : Nat) (zs : List Int) (w : World) (h8 : zs.length ≤ 8) (hgs : g < w.heap.size) (hP : Ppl w g zs) (hz : ∀ j, j < zs.length → 0 ≤ zs.getD j 0 ∧ zs.getD j 0 ≤ 120) :
    Calls Try.prog 54 #[.agg #[.int .i64 num, .int .i64 age, .slice (some ⟨g, 0, none⟩) zs.length c]] w (Ret (.int .i64 (sumTo zs zs.length)) w) := by
  have HZ := Lib.hid hz
  have HP := Lib.hid fun A => hP.kept ((Below.refl w.heap.size w).alloc (Nat.le_refl _) A) hgs
  clear hz hP
  go_enter Try.func54, Try.ntmps54
  go_wp2_with fail
  refine (sumOf_any _ _ _ zs _ h8 (by simp; omega) (HP.out _).prs HZ.out).mono ?_
  rintro e w1 ⟨rfl, hb⟩
  go_wp2_with fail
  go_ret
  exact ⟨rfl, ((Below.refl w.heap.size w).alloc (Nat.le_refl _) _).trans (hb.mono (by simp))⟩

theorem prod_fits {zs : List Int} (h8 : zs.length ≤ 8) (hz : ∀ j, j < zs.length → 0 ≤ zs.getD j 0 ∧ zs.getD j 0 ≤ 120) (k : Nat) (hk : k ≤ zs.length) : 0 ≤ prodTo zs k ∧ prodTo zs k ≤ 42998169600000000 := by
  obtain ⟨h1, h2⟩ := prodTo_bd hz k hk
  refine ⟨h1, Int.le_trans h2 ?_⟩
  have : k ≤ 8 := by omega
  match k, this with
  | 0, _ | 1, _ | 2, _ | 3, _ | 4, _ | 5, _ | 6, _ | 7, _ | 8, _ => decide

set_option maxHeartbeats 400000 in
theorem product_any (num age : Int) (g c : Nat) (zs : List Int) (w : World) (h8 : zs.length ≤ 8) (hgs : g < w.heap.size) (hP : Ppl w g zs) (hz : ∀ j, j < zs.length → 0 ≤ zs.getD j 0 ∧ zs.getD j 0 ≤ 120) :
    Calls Try.prog 56 #[.agg #[.int .i64 num, .int .i64 age, .slice (some ⟨g, 0, none⟩) zs.length c]] w (Ret (.int .i64 (prodTo zs zs.length)) w) := by
  have HZ := Lib.hid hz
  have HP := Lib.hid hP
  clear hz hP
  go_enter Try.func56, Try.ntmps56
  go_wp2
  go_loopw [3, 9] (fun s v wr => ∃ k : Nat, k ≤ zs.length ∧ v = .int .i64 k ∧ s = .int .i64 (prodTo zs k) ∧ Below w.heap.size w wr) (fun _ v _ => zs.length - (intOf v).toNat)
  case atStart => exact ⟨0, Nat.zero_le _, rfl, rfl, (Below.refl _ _).alloc (Nat.le_refl _) _⟩
  case round =>
    obtain ⟨k, hk, rfl, rfl, hb⟩ := hrel
    have hsz := hb.size
    by_cases hlt : k < zs.length
    · have m2 := prod_fits h8 HZ.out (k + 1) (by omega)
      obtain ⟨hc1, hc2⟩ := ((HP.out.prs).kept hb hgs) k hlt
      have S1 := Lib.hid (prodTo_succ zs k hlt)
      rw [prodTo_succ zs k hlt] at m2
      generalize prodTo zs k = x at m2 S1 ⊢
      generalize zs.getD k 0 = z at hc2 S1 m2
      go_wp2
      go_roundw
      case rel => exact ⟨k + 1, by omega, by go_num, by rw [S1.out], hb.alloc hsz _⟩
      case measure => simp [intOf]; omega
    · have hkn : k = zs.length := by omega
      clear hlt hk
      subst hkn
      go_wp2
      go_ret
      exact ⟨rfl, hb⟩

/-- What the walk asks of a result's variable of three cells. -/
structure Slot3 (w : World) (R : Nat) (x0 x1 x2 : Value) : Prop where
  r0 : w.cell? ⟨R, 0, none⟩ = some x0
  r1 : w.cell? ⟨R, 1, none⟩ = some x1
  r2 : w.cell? ⟨R, 2, none⟩ = some x2
  f : ∀ j, w.frozen? ⟨R, j, none⟩ = false
  s0 : ∀ v, (w.setCell ⟨R, 0, none⟩ v).cell? ⟨R, 0, none⟩ = some v
  s1 : ∀ v0 v, ((w.setCell ⟨R, 0, none⟩ v0).setCell ⟨R, 1, none⟩ v).cell? ⟨R, 1, none⟩ = some v
  s2 : ∀ v0 v1 v, (((w.setCell ⟨R, 0, none⟩ v0).setCell ⟨R, 1, none⟩ v1).setCell ⟨R, 2, none⟩ v).cell? ⟨R, 2, none⟩ = some v
  lt : R < w.heap.size
theorem slot3 {w : World} {R : Nat} {x0 x1 x2 : Value} {t : TypeId} (h : w.heap[R]? = some (.cells #[x0, x1, x2] t (0, 0))) : Slot3 w R x0 x1 x2 := by
  have r0 : w.cell? ⟨R, 0, none⟩ = some x0 := by simp [World.cell?, h]
  have r1 : w.cell? ⟨R, 1, none⟩ = some x1 := by simp [World.cell?, h]
  have r2 : w.cell? ⟨R, 2, none⟩ = some x2 := by simp [World.cell?, h]
  obtain ⟨s0, s1, s2⟩ := three_cells r0 r1 r2
  exact ⟨r0, r1, r2, fun j => by simp [World.frozen?, h], s0, s1, s2, lt_of_block h⟩
theorem heap_new (w : World) (A : Obj) : (w.alloc A).heap[w.heap.size]? = some A := heap_alloc_new w A
theorem heap_newer (w w1 : World) (A : Obj) (hb : Below (w.alloc A).heap.size (w.alloc A) w1) : w1.heap[w.heap.size]? = some A := (hb.block _ (by simp)).trans (heap_new w A)
theorem heap_later {w1 : World} {R : Nat} {A : Obj} (h : w1.heap[R]? = some A) (H : Obj) : (w1.alloc H).heap[R]? = some A := by
  rw [Below.heap_alloc _ _ _ (lt_of_block h)]; exact h
theorem heap_kept {w1 w2 : World} {R : Nat} {A : Obj} (h : w1.heap[R]? = some A) (hb : Below w1.heap.size w1 w2) : w2.heap[R]? = some A :=
  (hb.block _ (lt_of_block h)).trans h

def fitB (zs : List Int) (y : Int) : Bool := goodB zs 120 && inB y (loY zs) (hiY zs)
def RetHIn (zs : List Int) (y : Int) (w : World) (e : Ending) (w' : World) : Prop :=
  ∃ g c, w.heap.size ≤ g ∧ e = .returned (.tuple #[.agg #[.int .i64 0, .int .i64 ((agesIn zs y).getD 0 0), .slice (some ⟨g, 0, none⟩) zs.length c], .bool true]) ∧ Ppl w' g (agesIn zs y) ∧ g < w'.heap.size ∧ Below w.heap.size w w'

set_option maxHeartbeats 1000000 in
theorem householdIn_no (b off c : Nat) (y : Int) (zs : List Int) (w : World) (hn : zs.length ≤ 1048576) (hbl : b < w.heap.size) (hI : Ints w b off zs) (hf : fitB zs y = false) :
    Calls Try.prog 50 #[.slice (some ⟨b, off, none⟩) zs.length c, .int .i64 y] w (RetNoHouse w) := by
  have hI' := Lib.hid fun A => hI.kept ((Below.refl w.heap.size w).alloc (Nat.le_refl _) A) hbl
  have hW := Lib.hid fun A => (Below.refl w.heap.size w).alloc (Nat.le_refl _) A
  cases hg : goodB zs 120 with
  | false =>
    clear hf
    go_enter Try.func50, Try.ntmps50
    go_wp2_with fail
    refine (householdOf_nozero _ _ _ _ zs _ rfl hn (hI'.out _) (by simp; omega) hg).mono ?_
    rintro e w1 ⟨rfl, hb⟩
    have S := fun H => slot3 (heap_later (heap_newer _ _ _ hb) H)
    have t0 := fun H => (S H).r0
    have t1 := fun H => (S H).r1
    have t2 := fun H => (S H).r2
    have t3 := fun H => (S H).f
    have t4 := fun H => (S H).s0
    have t5 := fun H => (S H).s1
    have t6 := fun H => (S H).s2
    have hlt := (S (.cells #[] 0)).lt
    clear S
    go_wp2_with fail
    refine bodyPost_ret (v := .tuple #[.agg #[.int .i64 0, .int .i64 0, .slice none 0 0], .bool false]) (by simp [results, Try.results50, go_sem, t4, t5, t6]) rfl ?_
    have hb1 := (hW.out _).trans (hb.mono (by simp))
    exact ⟨rfl, (((hb1.alloc hb1.size _).setCell (Nat.le_refl _) _).setCell (Nat.le_refl _) _).setCell (Nat.le_refl _) _⟩
  | true =>
    have hy : inB y (loY zs) (hiY zs) = false := by unfold fitB at hf; rw [hg] at hf; exact hf
    have h8 := goodB_len hg
    have ha := goodB_at hg 0 (by omega)
    have HR := Lib.hid (show loY zs = -(minTo (zs.getD 0 0) zs zs.length) ∧ hiY zs = 120 - maxTo (zs.getD 0 0) zs zs.length from ⟨rfl, rfl⟩)
    clear hf
    go_enter Try.func50, Try.ntmps50
    go_wp2_with fail
    refine (householdOf_zero _ _ _ _ zs _ rfl hn (hI'.out _) hg).mono ?_
    rintro e w1 ⟨g, hg1, rfl, hP, hgs, hb⟩
    have hb1 := (hW.out _).trans (hb.mono (by simp))
    generalize zs.getD 0 0 = a at ha HR
    have HH := Lib.hid (heap_newer _ _ _ hb)
    go_wp2_with fail
    refine (fitYears_any _ _ _ _ _ zs _ rfl hg (by simp; omega) (hP.kept ((Below.refl _ _).alloc (Nat.le_refl _) _) hgs) ha).mono ?_
    rintro e w2 ⟨rfl, hb2⟩
    rw [← HR.out.1, ← HR.out.2]
    have hb2' := (hb1.alloc hb1.size _).trans (hb2.mono (by simp; have := hb1.size; omega))
    obtain ⟨t0, t1, t2, t3, t4, t5, t6, hlt⟩ := slot3 (heap_kept (heap_later HH.out _) hb2)
    generalize loY zs = lo at hy ⊢
    generalize hiY zs = hi at hy ⊢
    go_wp2_with (first | (go_at_call 64; refine (isWithin_any _ _ _ _).mono ?_; rintro e w' ⟨rfl, rfl⟩))
    refine bodyPost_ret (v := .tuple #[.agg #[.int .i64 0, .int .i64 0, .slice none 0 0], .bool false]) (by simp [results, Try.results50, go_sem, t4, t5, t6]) rfl ?_
    exact ⟨rfl, ((hb2'.setCell (Nat.le_refl _) _).setCell (Nat.le_refl _) _).setCell (Nat.le_refl _) _⟩

set_option maxHeartbeats 1000000 in
theorem householdIn_yes (b off c : Nat) (y : Int) (zs : List Int) (w : World) (hn : zs.length ≤ 1048576) (hI : Ints w b off zs) (hf : fitB zs y = true) :
    Calls Try.prog 50 #[.slice (some ⟨b, off, none⟩) zs.length c, .int .i64 y] w (RetHIn zs y w) := by
  have hg : goodB zs 120 = true := by unfold fitB at hf; rw [Bool.and_eq_true] at hf; exact hf.1
  have hy : inB y (loY zs) (hiY zs) = true := by unfold fitB at hf; rw [Bool.and_eq_true] at hf; exact hf.2
  have h8 := goodB_len hg
  have hI' := Lib.hid fun A => hI.kept ((Below.refl w.heap.size w).alloc (Nat.le_refl _) A) (ints_lt hI (by omega))
  have hW := Lib.hid fun A => (Below.refl w.heap.size w).alloc (Nat.le_refl _) A
  have hyb : -120 ≤ y ∧ y ≤ 120 := by have := loY_bd hg; have := inB_iff.1 hy; omega
  have ha := goodB_at hg 0 (by omega)
  have HR := Lib.hid (show loY zs = -(minTo (zs.getD 0 0) zs zs.length) ∧ hiY zs = 120 - maxTo (zs.getD 0 0) zs zs.length from ⟨rfl, rfl⟩)
  clear hf
  go_enter Try.func50, Try.ntmps50
  go_wp2_with fail
  refine (householdOf_zero _ _ _ _ zs _ rfl hn (hI'.out _) hg).mono ?_
  rintro e w1 ⟨g, hg1, rfl, hP, hgs, hb⟩
  have hb1 := (hW.out _).trans (hb.mono (by simp))
  generalize zs.getD 0 0 = a at ha HR
  have HH := Lib.hid (heap_newer _ _ _ hb)
  go_wp2_with fail
  refine (fitYears_any _ _ _ _ _ zs _ rfl hg (by simp; omega) (hP.kept ((Below.refl _ _).alloc (Nat.le_refl _) _) hgs) ha).mono ?_
  rintro e w2 ⟨rfl, hb2⟩
  rw [← HR.out.1, ← HR.out.2]
  have hb2' := (hb1.alloc hb1.size _).trans (hb2.mono (by simp; have := hb1.size; omega))
  have HH2 := Lib.hid (heap_kept (heap_later HH.out _) hb2)
  obtain ⟨q0, q1, q2, _, _, _, _, hq⟩ := slot3 (heap_kept (heap_new w1 _) hb2)
  have hP2 := (hP.kept ((Below.refl _ _).alloc (Nat.le_refl _) _) hgs).kept hb2 (by simp; omega)
  generalize loY zs = lo at hy ⊢
  generalize hiY zs = hi at hy ⊢
  go_wp2_with (first | (go_at_call 64; refine (isWithin_any _ _ _ _).mono ?_; rintro e w' ⟨rfl, rfl⟩))
  refine (in_zero _ _ _ _ zs _ (by omega) (by omega) (by omega) hP2 (goodB_at hg) hyb).mono ?_
  rintro e w3 ⟨g3, c3, hg3, rfl, hP3, hgs3, hb3⟩
  have hb3' := hb2'.trans (hb3.mono hb2'.size)
  clear q0 q1 q2
  obtain ⟨t0, t1, t2, t3, t4, t5, t6, hlt⟩ := slot3 (heap_kept HH2.out hb3)
  generalize hz : (agesIn zs y).getD 0 0 = z
  have HZ := Lib.hid hz
  clear hz
  go_wp2_with fail
  refine bodyPost_ret (v := .tuple #[.agg #[.int .i64 0, .int .i64 z, .slice (some ⟨g3, 0, none⟩) zs.length c3], .bool true]) (by simp [results, Try.results50, go_sem, t4, t5, t6]) rfl ?_
  have hne : w.heap.size ≠ g3 := by have := hb2'.size; have := hb1.size; simp at hg1; have : w.heap.size < w2.heap.size := by have := hb2.size; simp at this; omega
                                    omega
  refine ⟨g3, c3, by have := hb2'.size; omega, by rw [HZ.out], ?_, by simpa [World.setCell] using hgs3, ?_⟩
  · exact ((hP3.heap (Below.heap_setCell _ _ _ _ (by simp; omega))).heap (Below.heap_setCell _ _ _ _ (by simp; omega))).heap (Below.heap_setCell _ _ _ _ (by simp; omega))
  · exact ((hb3'.setCell (Nat.le_refl _) _).setCell (Nat.le_refl _) _).setCell (Nat.le_refl _) _
end Go.Proofs.Ytonnknhmmljmaaa
