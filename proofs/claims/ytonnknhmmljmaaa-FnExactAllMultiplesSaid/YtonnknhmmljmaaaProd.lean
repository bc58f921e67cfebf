/- People and their product; ages in other years and their product, the model's text. -/
import Derived.Test.YtonnknhmmljmaaaIn
set_option linter.unusedVariables false
set_option linter.unusedSimpArgs false
namespace Go.Proofs.Ytonnknhmmljmaaa
open Go.RowKit

/-- People of whatever numbers and these ages. -/
def Prs (w : World) (g : Nat) (ns : Nat → Int) (zs : List Int) : Prop :=
  ∀ j, j < zs.length → w.cell? ⟨g, j * 2, none⟩ = some (.int .i64 (ns j)) ∧ w.cell? ⟨g, j * 2 + 1, none⟩ = some (.int .i64 (zs.getD j 0))
theorem Ppl.prs {w : World} {g : Nat} {zs : List Int} (h : Ppl w g zs) : Prs w g (fun j => (j : Int)) zs := fun j hj => ⟨h.num j hj, h.age j hj⟩
theorem Prs.kept {B : Nat} {w w' : World} {g : Nat} {ns : Nat → Int} {zs : List Int} (h : Prs w g ns zs) (hb : Below B w w') (hlt : g < B) : Prs w' g ns zs :=
  fun j hj => ⟨(hb.cell (p := ⟨g, j * 2, none⟩) hlt).trans (h j hj).1, (hb.cell (p := ⟨g, j * 2 + 1, none⟩) hlt).trans (h j hj).2⟩

theorem prod_fits {zs : List Int} (h8 : zs.length ≤ 8) (hz : ∀ j, j < zs.length → 0 ≤ zs.getD j 0 ∧ zs.getD j 0 ≤ 120) (k : Nat) (hk : k ≤ zs.length) : 0 ≤ prodTo zs k ∧ prodTo zs k ≤ 42998169600000000 := by
  obtain ⟨h1, h2⟩ := prodTo_bd hz k hk
  refine ⟨h1, Int.le_trans h2 ?_⟩
  have : k ≤ 8 := by omega
  match k, this with
  | 0, _ | 1, _ | 2, _ | 3, _ | 4, _ | 5, _ | 6, _ | 7, _ | 8, _ => decide

set_option maxHeartbeats 400000 in
theorem product_any (num age : Int) (g c : Nat) (zs : List Int) (w : World) (h8 : zs.length ≤ 8) (hgs : g < w.heap.size) (hP : Ppl w g zs) (hz : ∀ j, j < zs.length → 0 ≤ zs.getD j 0 ∧ zs.getD j 0 ≤ 120) :
    Calls Try.prog 56 #[.agg #[.int .i64 num, .int .i64 age, .slice (some ⟨g, 0, none⟩) zs.length c]] w (Ret (.int .i64 (prodTo zs zs.length)) w) := by
  have HZ := Lib.hid hz
  have HP := Lib.hid hP
  clear hz hP
  go_enter Try.func56, Try.ntmps56
  go_wp2
  go_loopw [3, 9] (fun s v wr => ∃ k : Nat, k ≤ zs.length ∧ v = .int .i64 k ∧ s = .int .i64 (prodTo zs k) ∧ Below w.heap.size w wr) (fun _ v _ => zs.length - (intOf v).toNat)
  case atStart => exact ⟨0, Nat.zero_le _, rfl, rfl, (Below.refl _ _).alloc (Nat.le_refl _) _⟩
  case round =>
    obtain ⟨k, hk, rfl, rfl, hb⟩ := hrel
    have hsz := hb.size
    by_cases hlt : k < zs.length
    · have m2 := prod_fits h8 HZ.out (k + 1) (by omega)
      obtain ⟨hc1, hc2⟩ := ((HP.out.prs).kept hb hgs) k hlt
      have S1 := Lib.hid (prodTo_succ zs k hlt)
      rw [prodTo_succ zs k hlt] at m2
      generalize prodTo zs k = x at m2 S1 ⊢
      generalize zs.getD k 0 = z at hc2 S1 m2
      go_wp2
      go_roundw
      case rel => exact ⟨k + 1, by omega, by go_num, by rw [S1.out], hb.alloc hsz _⟩
      case measure => simp [intOf]; omega
    · have hkn : k = zs.length := by omega
      clear hlt hk
      subst hkn
      go_wp2
      go_ret
      exact ⟨rfl, hb⟩

theorem product_len (num age : Int) (g c n : Nat) (zs : List Int) (w : World) (hl : zs.length = n) (h8 : n ≤ 8) (hgs : g < w.heap.size) (hP : Ppl w g zs) (hz : ∀ j, j < zs.length → 0 ≤ zs.getD j 0 ∧ zs.getD j 0 ≤ 120) :
    Calls Try.prog 56 #[.agg #[.int .i64 num, .int .i64 age, .slice (some ⟨g, 0, none⟩) n c]] w (Ret (.int .i64 (prodTo zs n)) w) := by
  subst hl
  exact product_any num age g c zs w h8 hgs hP hz

/-- What the walk asks of a result's variable of three cells. -/
structure Slot3 (w : World) (R : Nat) (x0 x1 x2 : Value) : Prop where
  r0 : w.cell? ⟨R, 0, none⟩ = some x0
  r1 : w.cell? ⟨R, 1, none⟩ = some x1
  r2 : w.cell? ⟨R, 2, none⟩ = some x2
  f : ∀ j, w.frozen? ⟨R, j, none⟩ = false
  s0 : ∀ v, (w.setCell ⟨R, 0, none⟩ v).cell? ⟨R, 0, none⟩ = some v
  s1 : ∀ v0 v, ((w.setCell ⟨R, 0, none⟩ v0).setCell ⟨R, 1, none⟩ v).cell? ⟨R, 1, none⟩ = some v
  s2 : ∀ v0 v1 v, (((w.setCell ⟨R, 0, none⟩ v0).setCell ⟨R, 1, none⟩ v1).setCell ⟨R, 2, none⟩ v).cell? ⟨R, 2, none⟩ = some v
  lt : R < w.heap.size
theorem slot3 {w : World} {R : Nat} {x0 x1 x2 : Value} {t : TypeId} (h : w.heap[R]? = some (.cells #[x0, x1, x2] t (0, 0))) : Slot3 w R x0 x1 x2 := by
  have r0 : w.cell? ⟨R, 0, none⟩ = some x0 := by simp [World.cell?, h]
  have r1 : w.cell? ⟨R, 1, none⟩ = some x1 := by simp [World.cell?, h]
  have r2 : w.cell? ⟨R, 2, none⟩ = some x2 := by simp [World.cell?, h]
  obtain ⟨s0, s1, s2⟩ := three_cells r0 r1 r2
  exact ⟨r0, r1, r2, fun j => by simp [World.frozen?, h], s0, s1, s2, lt_of_block h⟩
theorem heap_new (w : World) (A : Obj) : (w.alloc A).heap[w.heap.size]? = some A := heap_alloc_new w A
theorem heap_newer (w w1 : World) (A : Obj) (hb : Below (w.alloc A).heap.size (w.alloc A) w1) : w1.heap[w.heap.size]? = some A := (hb.block _ (by simp)).trans (heap_new w A)
theorem heap_later {w1 : World} {R : Nat} {A : Obj} (h : w1.heap[R]? = some A) (H : Obj) : (w1.alloc H).heap[R]? = some A := by
  rw [Below.heap_alloc _ _ _ (lt_of_block h)]; exact h
theorem heap_kept {w1 w2 : World} {R : Nat} {A : Obj} (h : w1.heap[R]? = some A) (hb : Below w1.heap.size w1 w2) : w2.heap[R]? = some A :=
  (hb.block _ (lt_of_block h)).trans h

def fitB (zs : List Int) (y : Int) : Bool := goodB zs 120 && inB y (loY zs) (hiY zs)
theorem fit_in {zs : List Int} {y : Int} (hf : fitB zs y = true) : (goodB zs 120 = true) ∧ (-120 ≤ y ∧ y ≤ 120) ∧ (agesIn zs y).length = zs.length ∧ ∀ j, j < (agesIn zs y).length → 0 ≤ (agesIn zs y).getD j 0 ∧ (agesIn zs y).getD j 0 ≤ 120 := by
  unfold fitB at hf
  rw [Bool.and_eq_true, inB_iff] at hf
  refine ⟨hf.1, ?_, agesIn_length _ _, fun j hj => ?_⟩
  · have := loY_bd hf.1; omega
  · rw [agesIn_length] at hj
    rw [agesIn_getD _ _ _ hj]
    exact fit_bd hf.2.1 hf.2.2 j hj

set_option maxHeartbeats 400000 in
theorem agIn_any (b off c : Nat) (y : Int) (zs : List Int) (w : World) (hbl : b < w.heap.size) (hI : Ints w b off zs) (hg : goodB zs 120 = true) (hy : -120 ≤ y ∧ y ≤ 120) :
    Calls Try.prog 49 #[.slice (some ⟨b, off, none⟩) zs.length c, .int .i64 y] w (RetOwn (agesIn zs y) w) := by
  obtain ⟨i0, hi, hz0, hz1, hz2⟩ := info_parts infoInt
  have h8 := goodB_len hg
  go_enter Try.func49, Try.ntmps49
  have hzb := Lib.hid (goodB_at hg)
  go_wp2
  go_loopw [5, 10] (fun v i wr => ∃ k : Nat, k ≤ zs.length ∧ i = .int .i64 k ∧ Own w.heap.size wr v (mapTo (· + y) zs k) ∧ Below w.heap.size w wr) (fun _ i _ => zs.length - (intOf i).toNat)
  case atStart => exact ⟨0, Nat.zero_le _, rfl, own_nil _ _, Below.refl _ _⟩
  case round =>
    obtain ⟨k, hk, rfl, ho, hb⟩ := hrel
    by_cases hlt : k < zs.length
    · have hc := (hI.kept hb hbl) k (by omega)
      have hz := hzb.out k (by omega)
      have HT := Lib.hid (mapTo_succ (· + y) zs k (by omega))
      have hs := mapTo_len (· + y) zs k
      have hsz := hb.size
      generalize zs.getD k 0 = z at hc hz HT
      go_wp2_with (first | (at_builtin; refine wpList_append_own _ rfl _ _ 22 rfl w.heap.size 3 i0 (.int .i64 0) 1 8 Try.underlying22 hi hz0 hz1 hz2 rfl (by decide) _ _ _ rfl (World.ownsRow.alloc ho _) ⟨wr.heap.size, 0, none⟩ 1 1 [.int .i64 (z + y)] rfl rfl (newCell _ _ _) (oneInt _) ?c3 ?c4 ?c5 ?_))
      case c3 => unfold maxLen; omega
      case c4 => omega
      case c5 => simp; omega
      intro v' w1 hown' hgrow _
      have hb1 := below_push hb ho hgrow
      have ho1 := own_push hown'
      rw [← HT.out] at ho1
      clear hown' hgrow hc
      go_wp2
      go_roundw
      case rel => exact ⟨k + 1, by omega, by go_num, ho1, hb1⟩
      case measure => simp [intOf]; omega
    · have hkn : k = zs.length := by omega
      clear hlt hk
      subst hkn
      rw [mapTo_all _ _ _ (by omega)] at ho
      go_wp2
      go_ret
      exact ⟨_, rfl, ho, hb⟩

theorem ownNonempty {B : Nat} {w : World} {v : Value} {zs : List Int} (h : Own B w v zs) (h0 : 0 < zs.length) : ∃ g c, v = .slice (some ⟨g, 0, none⟩) zs.length c ∧ B ≤ g ∧ g < w.heap.size ∧ Ints w g 0 zs := by
  rcases h.cases with ⟨_, rfl⟩ | ⟨g, c, rfl, h1, h2, _, _, h3, _⟩
  · simp at h0
  · exact ⟨g, c, rfl, h1, h2, h3⟩

set_option maxHeartbeats 400000 in
theorem agProduct_any (b off c : Nat) (zs : List Int) (w : World) (h8 : zs.length ≤ 8) (hI : Ints w b off zs) (hz : ∀ j, j < zs.length → 0 ≤ zs.getD j 0 ∧ zs.getD j 0 ≤ 120) :
    Calls Try.prog 55 #[.slice (some ⟨b, off, none⟩) zs.length c] w (RetSame (.int .i64 (prodTo zs zs.length)) w) := by
  have HZ := Lib.hid hz
  clear hz
  go_enter Try.func55, Try.ntmps55
  go_wp2
  go_loop [3, 8] (fun s v => ∃ k : Nat, k ≤ zs.length ∧ v = .int .i64 k ∧ s = .int .i64 (prodTo zs k)) (fun _ v => zs.length - (intOf v).toNat)
  case atStart => exact ⟨0, Nat.zero_le _, rfl, rfl⟩
  case round =>
    obtain ⟨k, hk, rfl, rfl⟩ := hrel
    by_cases hlt : k < zs.length
    · skip
      have m2 := prod_fits h8 HZ.out (k + 1) (by omega)
      have hc := hI k hlt
      have S1 := Lib.hid (prodTo_succ zs k hlt)
      rw [prodTo_succ zs k hlt] at m2
      generalize prodTo zs k = x at m2 S1 ⊢
      generalize zs.getD k 0 = z at hc S1 m2
      go_wp2
      go_round
      case rel => exact ⟨k + 1, by omega, by go_num, by rw [S1.out]⟩
      case measure => simp [intOf]; omega
    · have hkn : k = zs.length := by omega
      clear hlt hk
      subst hkn
      go_wp2
      go_ret
      exact ⟨rfl, rfl⟩
end Go.Proofs.Ytonnknhmmljmaaa
