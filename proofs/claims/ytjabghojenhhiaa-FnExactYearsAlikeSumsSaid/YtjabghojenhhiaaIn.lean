/- The household in other years; sums and products of ages. -/
import Derived.Test.YtjabghojenhhiaaFit
import Derived.Lib.SliceRun
set_option linter.unusedVariables false
set_option linter.unusedSimpArgs false
namespace Go.Proofs.Ytjabghojenhhiaa
open Go.RowKit

/-- The cells of people of these ages, from number 0 on. -/
def pflat (zs : List Int) : List Value := (List.range (zs.length * 2)).map fun i => if i % 2 = 0 then .int .i64 ((i / 2 : Nat) : Int) else .int .i64 (zs.getD (i / 2) 0)
theorem pflat_length (zs : List Int) : (pflat zs).length = zs.length * 2 := by simp [pflat]
theorem pflat_to (zs : List Int) : PplTo zs zs.length (pflat zs) := by
  intro j hj
  constructor
  · rw [pflat, List.getElem?_map, List.getElem?_range (by omega)]
    have h1 : 2 * j % 2 = 0 := by omega
    have h2 : 2 * j / 2 = j := by omega
    simp only [Option.map_some, h1, h2, if_true]
  · rw [pflat, List.getElem?_map, List.getElem?_range (by omega)]
    have h1 : (2 * j + 1) % 2 = 1 := by omega
    have h2 : (2 * j + 1) / 2 = j := by omega
    simp [h1, h2]
theorem pflat_cells {w : World} {g : Nat} {zs : List Int} (h : Ppl w g zs) : ∀ j u, (pflat zs)[j]? = some u → w.cell? ((⟨g, 0, none⟩ : Addr).add j) = some u := by
  intro j u hj
  have hlt : j < zs.length * 2 := by
    have := (List.getElem?_eq_some_iff.1 hj).1
    rw [pflat_length] at this; exact this
  rw [WideShapes.add_plain, Nat.zero_add]
  rw [pflat, List.getElem?_map, List.getElem?_range hlt] at hj
  simp only [Option.map_some, Option.some.injEq] at hj
  by_cases hp : j % 2 = 0
  · rw [if_pos hp] at hj
    obtain ⟨q, rfl⟩ : ∃ q, j = 2 * q := ⟨j / 2, by omega⟩
    rw [(h q (by omega)).1, ← hj]
    congr 3; omega
  · rw [if_neg hp] at hj
    obtain ⟨q, rfl⟩ : ∃ q, j = 2 * q + 1 := ⟨j / 2, by omega⟩
    rw [(h q (by omega)).2, ← hj]
    congr 4; omega
theorem pflat_one (zs : List Int) : ∀ u ∈ pflat zs, u.oneCell' = true := by
  intro u hu
  obtain ⟨i, _, rfl⟩ := List.mem_map.1 hu
  split <;> rfl

def RetClone (zs : List Int) (w : World) (e : Ending) (w' : World) : Prop :=
  ∃ g c xs, e = .returned (.slice (some ⟨g, 0, none⟩) zs.length c) ∧ w'.ownsRow w.heap.size 39 2 (.slice (some ⟨g, 0, none⟩) zs.length c) zs.length xs ∧ PplTo zs zs.length xs ∧ Below w.heap.size w w'

set_option maxHeartbeats 400000 in
theorem clone_any (g c : Nat) (zs : List Int) (w : World) (h0 : 0 < zs.length) (h8 : zs.length ≤ 8) (hgs : g < w.heap.size) (hP : Ppl w g zs) :
    Calls Try.prog 65 #[.slice (some ⟨g, 0, none⟩) zs.length c] w (RetClone zs w) := by
  obtain ⟨i0, hi, hz0, hz1, hz2⟩ := info_parts infoPerson
  have qT : ∀ (w : World) (a : Option Addr) (n c n' c' : Nat), (binOp .eql 40 (.slice a n c) (.slice none n' c')).run Try.prog w = .ok (.bool a.isNone) w := fun w a n c n' c' => Lib.run_eql_slice_nil w _ _ a n c n' c' Try.underlying40
  have hP' := Lib.hid (hP.kept ((Below.refl w.heap.size w).alloc (Nat.le_refl _) (.cells #[] 39)) hgs)
  have hO := Lib.hid (World.ownsRow_lit (base := w.heap.size) (size := 2) (e := 39) w #[] 0 (Nat.le_refl _) (by unfold maxLen; omega) rfl)
  go_enter Try.func65, Try.ntmps65
  go_wp2_with (first | (at_builtin; refine wpList_append_own _ rfl _ _ 40 rfl w.heap.size 39 i0 _ 2 16 Try.underlying40 hi hz0 hz1 hz2 rfl (by decide) _ 0 [] rfl hO.out ⟨g, 0, none⟩ zs.length c (pflat zs) rfl (pflat_length zs) (pflat_cells hP'.out) (pflat_one zs) ?c3 ?c4 ?c5 ?_))
  case c3 => unfold maxLen; omega
  case c4 => omega
  intro v' w1 hown hgr _
  have hb : Below w.heap.size w w1 := (((Below.refl w.heap.size w).alloc (Nat.le_refl _) _).grown hgr (by simp) (by intro k hk; simp [Value.ownBlock] at hk; omega))
  rcases hown.2 with ⟨_, h⟩ | ⟨g', c', cur, rfl, _⟩
  · omega
  · go_wp2_with fail
    go_ret
    exact ⟨g', c', _, rfl, hown, pflat_to zs, hb⟩

/-- The ages so many years on. -/
def agesIn (zs : List Int) (y : Int) : List Int := zs.map (· + y)
theorem agesIn_length (zs : List Int) (y : Int) : (agesIn zs y).length = zs.length := by simp [agesIn]
theorem agesIn_getD (zs : List Int) (y : Int) (k : Nat) (hk : k < zs.length) : (agesIn zs y).getD k 0 = zs.getD k 0 + y := by
  simp [agesIn, List.getElem?_eq_getElem hk]
/-- The first k people are older by y, the others as they were. -/
def InTo (zs : List Int) (y : Int) (k : Nat) (xs : List Value) : Prop :=
  ∀ j, j < zs.length → xs[2 * j]? = some (.int .i64 j) ∧ xs[2 * j + 1]? = some (.int .i64 (if j < k then zs.getD j 0 + y else zs.getD j 0))
theorem inTo_zero {zs : List Int} {xs : List Value} (y : Int) (h : PplTo zs zs.length xs) : InTo zs y 0 xs := fun j hj => by
  rw [if_neg (by omega)]; exact h j hj
theorem inTo_step {zs : List Int} {y : Int} {k : Nat} {xs : List Value} (h : InTo zs y k xs) (hk : k < zs.length) (hl : k * 2 + 1 < xs.length) : InTo zs y (k + 1) (xs.set (k * 2 + 1) (.int .i64 (zs.getD k 0 + y))) := by
  intro j hj
  obtain ⟨h1, h2⟩ := h j hj
  refine ⟨by rw [List.getElem?_set_ne (by omega)]; exact h1, ?_⟩
  by_cases hjk : j = k
  · subst hjk
    rw [Nat.mul_comm 2 j, List.getElem?_set_self hl, if_pos (by omega)]
  · rw [List.getElem?_set_ne (by omega), h2]
    by_cases hlt : j < k
    · rw [if_pos hlt, if_pos (by omega)]
    · rw [if_neg hlt, if_neg (by omega)]
theorem inTo_age {zs : List Int} {y : Int} {k : Nat} {xs : List Value} (h : InTo zs y k xs) (hk : k < zs.length) : xs[k * 2 + 1]? = some (.int .i64 (zs.getD k 0)) := by
  have := (h k hk).2
  rw [if_neg (by omega)] at this
  rw [Nat.mul_comm]; exact this
theorem ppl_in {w : World} {B g n c : Nat} {zs : List Int} {y : Int} {xs : List Value} (hr : w.ownsRow B 39 2 (.slice (some ⟨g, 0, none⟩) n c) n xs) (h : InTo zs y n xs) (hl : zs.length = n) : Ppl w g (agesIn zs y) := by
  intro j hj
  rw [agesIn_length] at hj
  obtain ⟨h1, h2⟩ := h j hj
  rw [if_pos (by omega)] at h2
  rw [agesIn_getD _ _ _ hj]
  exact ⟨(World.ownsRow.cellAt hr (2 * j) (by omega)).trans h1, (World.ownsRow.cellAt hr (2 * j + 1) (by omega)).trans h2⟩

def RetIn (zs : List Int) (y : Int) (who : Nat) (w : World) (e : Ending) (w' : World) : Prop :=
  ∃ g c, w.heap.size ≤ g ∧ e = .returned (.agg #[.int .i64 who, .int .i64 ((agesIn zs y).getD who 0), .slice (some ⟨g, 0, none⟩) zs.length c]) ∧ Ppl w' g (agesIn zs y) ∧ g < w'.heap.size ∧ Below w.heap.size w w'

set_option maxHeartbeats 400000 in
theorem in_any (g c who : Nat) (age y : Int) (zs : List Int) (w : World) (h0 : 0 < zs.length) (h8 : zs.length ≤ 8) (hw : who < zs.length) (hgs : g < w.heap.size) (hP : Ppl w g zs)
    (hz : ∀ j, j < zs.length → 0 ≤ zs.getD j 0 ∧ zs.getD j 0 ≤ 120) (hy : -120 ≤ y ∧ y ≤ 120) :
    Calls Try.prog 47 #[.agg #[.int .i64 who, .int .i64 age, .slice (some ⟨g, 0, none⟩) zs.length c], .int .i64 y] w (RetIn zs y who w) := by
  have HZ := Lib.hid hz
  clear hz
  have hP' := Lib.hid fun A B => hP.kept (((Below.refl w.heap.size w).alloc (Nat.le_refl _) A).alloc (by simp) B) hgs
  have hA := Lib.hid fun A B => (show ((w.alloc A).alloc B).heap[w.heap.size]? = some A by rw [Below.heap_alloc _ _ _ (by simp)]; exact heap_alloc_new w A)
  have hB := Lib.hid fun A B => (show ((w.alloc A).alloc B).heap[w.heap.size + 1]? = some B by have := heap_alloc_new (w.alloc A) B; simpa using this)
  have hW := Lib.hid fun A B => ((Below.refl w.heap.size w).alloc (Nat.le_refl _) A).alloc (by simp) B
  go_enter Try.func47, Try.ntmps47
  go_wp2_with fail
  refine (clone_any _ _ zs _ h0 h8 (by simp; omega) (hP'.out _ _)).mono ?_
  rintro e w1 ⟨g', c', xs, rfl, hr, hx, hb⟩
  have hg1 : w.heap.size + 1 < g' := by have := (hr.lt g' rfl).1; simp at this; omega
  have hb1 : Below w.heap.size w w1 := (hW.out _ _).trans (hb.mono (by simp; omega))
  have hA1 := (hb.block w.heap.size (by simp; omega)).trans (hA.out _ _)
  have hB1 := (hb.block (w.heap.size + 1) (by simp)).trans (hB.out _ _)
  have hr2 : w1.ownsRow w.heap.size 39 2 (.slice (some ⟨g', 0, none⟩) zs.length c') zs.length xs := by
    obtain ⟨q1, q2⟩ := hr
    refine ⟨q1, ?_⟩
    rcases q2 with ⟨q, _⟩ | ⟨a, b, d, q3, q4, q5⟩
    · simp at q
    · exact .inr ⟨a, b, d, q3, by simp at q4; omega, q5⟩
  have HA := Lib.hid hA1
  have HB := Lib.hid hB1
  clear hA1 hB1 hr hP' hA hB hW hP hb
  go_wp2_with fail
  go_loopw [12] (fun v wr => ∃ (k : Nat) (xs : List Value), k ≤ zs.length ∧ v = .int .i64 k ∧ wr.ownsRow w.heap.size 39 2 (.slice (some ⟨g', 0, none⟩) zs.length c') zs.length xs ∧ InTo zs y k xs ∧ Below w.heap.size w wr ∧
      Hid (wr.heap[w.heap.size]? = w1.heap[w.heap.size]?) ∧ Hid (wr.heap[w.heap.size + 1]? = w1.heap[w.heap.size + 1]?)) (fun v _ => zs.length - (intOf v).toNat)
  case atStart => exact ⟨0, xs, Nat.zero_le _, rfl, hr2, inTo_zero y hx, hb1, Lib.hid rfl, Lib.hid rfl⟩
  case round =>
    obtain ⟨k, xs', hk, rfl, hr, hx', hb, h3, h4⟩ := hrel
    have HX := Lib.hid hx'
    have hxl : xs'.length = zs.length * 2 := hr.1
    clear hx' hr2 hx
    by_cases hlt : k < zs.length
    · have hz := HZ.out k hlt
      have hc : wr.cell? ⟨g', k * 2 + 1, none⟩ = some (.int .i64 (zs.getD k 0)) := (World.ownsRow.cellAt hr (k * 2 + 1) (by omega)).trans (inTo_age HX.out hlt)
      have hf := World.ownsRow.frozenAt hr (k * 2 + 1)
      have HS := World.ownsRow.stored hr (k * 2 + 1) (.int .i64 (zs.getD k 0 + y))
      have HP := Lib.hid (inTo_step HX.out hlt (by omega))
      clear hxl
      generalize zs.getD k 0 = z at hc HS HP hz
      go_wp2
      go_roundw
      case rel => exact ⟨k + 1, _, by omega, by go_num, HS.1, HP.out, hb.setCell (by simp; omega) _, Lib.hid ((Below.heap_setCell _ _ _ _ (by simp; omega)).trans h3.out), Lib.hid ((Below.heap_setCell _ _ _ _ (by simp; omega)).trans h4.out)⟩
      case measure => simp [intOf]; omega
    · have hkn : k = zs.length := by omega
      clear hlt hk
      subst hkn
      have hP := ppl_in hr HX.out rfl
      have hp0 := hP.num who (by rw [agesIn_length]; exact hw)
      have hp1 := hP.age who (by rw [agesIn_length]; exact hw)
      have hhA := h3.out.trans HA.out
      have hhB := h4.out.trans HB.out
      have b0 : wr.cell? ⟨w.heap.size, 0, none⟩ = some (.int .i64 who) := by simp [World.cell?, hhA]
      have r0 : wr.cell? ⟨w.heap.size + 1, 0, none⟩ = some (.int .i64 0) := by simp [World.cell?, hhB]
      have r1 : wr.cell? ⟨w.heap.size + 1, 1, none⟩ = some (.int .i64 0) := by simp [World.cell?, hhB]
      have r2 : wr.cell? ⟨w.heap.size + 1, 2, none⟩ = some (.slice none 0 0) := by simp [World.cell?, hhB]
      obtain ⟨s0, s1, s2⟩ := three_cells r0 r1 r2
      have f0 : ∀ j, wr.frozen? ⟨w.heap.size + 1, j, none⟩ = false := fun j => by simp [World.frozen?, hhB]
      have hw0 : (0 : Int) ≤ (who : Int) := by omega
      have hw1 : (who : Int) < (zs.length : Int) := by omega
      have hgs' : g' < wr.heap.size := (hr.lt g' rfl).2
      clear hhA hhB hxl
      generalize hz : (agesIn zs y).getD who 0 = z at hp1
      have HZ := Lib.hid hz
      clear hz
      go_wp2
      refine bodyPost_ret (v := .agg #[.int .i64 who, .int .i64 z, .slice (some ⟨g', 0, none⟩) zs.length c']) (by simp [results, Try.results47, go_sem, s0, s1, s2]) rfl ?_
      refine ⟨g', c', by omega, by rw [HZ.out], ?_, by simpa [World.setCell] using hgs', ?_⟩
      · exact ((hP.heap (Below.heap_setCell _ _ _ _ (by simp; omega))).heap (Below.heap_setCell _ _ _ _ (by simp; omega))).heap (Below.heap_setCell _ _ _ _ (by simp; omega))
      · exact ((hb.setCell (by simp) _).setCell (by simp) _).setCell (by simp) _

def RetIn0 (zs : List Int) (y : Int) (w : World) (e : Ending) (w' : World) : Prop :=
  ∃ g c, w.heap.size ≤ g ∧ e = .returned (.agg #[.int .i64 0, .int .i64 ((agesIn zs y).getD 0 0), .slice (some ⟨g, 0, none⟩) zs.length c]) ∧ Ppl w' g (agesIn zs y) ∧ g < w'.heap.size ∧ Below w.heap.size w w'
theorem in_zero (g c : Nat) (age y : Int) (zs : List Int) (w : World) (h0 : 0 < zs.length) (h8 : zs.length ≤ 8) (hgs : g < w.heap.size) (hP : Ppl w g zs)
    (hz : ∀ j, j < zs.length → 0 ≤ zs.getD j 0 ∧ zs.getD j 0 ≤ 120) (hy : -120 ≤ y ∧ y ≤ 120) :
    Calls Try.prog 47 #[.agg #[.int .i64 0, .int .i64 age, .slice (some ⟨g, 0, none⟩) zs.length c], .int .i64 y] w (RetIn0 zs y w) := by
  have h := in_any g c 0 age y zs w h0 h8 h0 hgs hP hz hy
  rw [show ((0 : Nat) : Int) = 0 from rfl] at h
  refine h.mono ?_
  rintro e w' ⟨g, c, h1, rfl, h2⟩
  exact ⟨g, c, h1, rfl, h2⟩

/-- The sum and the product of the first k numbers. -/
def sumTo (zs : List Int) (k : Nat) : Int := (zs.take k).foldl (· + ·) 0
def prodTo (zs : List Int) (k : Nat) : Int := (zs.take k).foldl (· * ·) 1
theorem sumTo_zero (zs : List Int) : sumTo zs 0 = 0 := rfl
theorem prodTo_zero (zs : List Int) : prodTo zs 0 = 1 := rfl
theorem sumTo_succ (zs : List Int) (k : Nat) (hk : k < zs.length) : sumTo zs (k + 1) = sumTo zs k + zs.getD k 0 := by
  unfold sumTo
  rw [List.take_succ_eq_append_getElem hk, List.foldl_append]
  simp [List.getElem?_eq_getElem hk]
theorem prodTo_succ (zs : List Int) (k : Nat) (hk : k < zs.length) : prodTo zs (k + 1) = prodTo zs k * zs.getD k 0 := by
  unfold prodTo
  rw [List.take_succ_eq_append_getElem hk, List.foldl_append]
  simp [List.getElem?_eq_getElem hk]
theorem sumTo_bd {zs : List Int} (hz : ∀ j, j < zs.length → 0 ≤ zs.getD j 0 ∧ zs.getD j 0 ≤ 120) : ∀ k, k ≤ zs.length → 0 ≤ sumTo zs k ∧ sumTo zs k ≤ 120 * k := by
  intro k
  induction k with
  | zero => intro _; simp [sumTo]
  | succ k ih => intro hk; rw [sumTo_succ zs k (by omega)]; have := ih (by omega); have := hz k (by omega); omega
theorem prodTo_bd {zs : List Int} (hz : ∀ j, j < zs.length → 0 ≤ zs.getD j 0 ∧ zs.getD j 0 ≤ 120) : ∀ k, k ≤ zs.length → 0 ≤ prodTo zs k ∧ prodTo zs k ≤ 120 ^ k := by
  intro k
  induction k with
  | zero => intro _; simp [prodTo]
  | succ k ih =>
    intro hk
    rw [prodTo_succ zs k (by omega)]
    obtain ⟨h1, h2⟩ := ih (by omega)
    obtain ⟨h3, h4⟩ := hz k (by omega)
    refine ⟨Int.mul_nonneg h1 h3, ?_⟩
    rw [Int.pow_succ]
    exact Int.mul_le_mul h2 h4 h3 (Int.le_trans h1 h2)
end Go.Proofs.Ytjabghojenhhiaa
