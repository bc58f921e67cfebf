/- The household of a question: both results, and the fit years. -/
import Derived.Test.YtjabghojenhhiaaGood
set_option linter.unusedVariables false
set_option linter.unusedSimpArgs false
namespace Go.Proofs.Ytjabghojenhhiaa
open Go.RowKit

set_option maxHeartbeats 400000 in
theorem arePeople_any (b off n c b2 off2 n2 c2 : Nat) (zs who : List Int) (w : World) (hl : zs.length = n) (hn : n ≤ 1048576) (hI : Ints w b off zs) (hl2 : who.length = n2) (hn2 : n2 ≤ 1048576) (hI2 : Ints w b2 off2 who) :
    Calls Try.prog 64 #[.slice (some ⟨b, off, none⟩) n c, .slice (some ⟨b2, off2, none⟩) n2 c2] w (RetSame (.bool (goodB zs 120 && allB who 0 (n - 1))) w) := by
  cases hg : goodB zs 120 with
  | false =>
    go_enter Try.func64, Try.ntmps64
    go_wp2_with (first | (go_at_call 42; refine (areAges_any _ _ _ _ zs _ hl hn hI).mono ?_; rintro e w' ⟨rfl, rfl⟩))
    go_ret
    exact ⟨rfl, rfl⟩
  | true =>
    go_enter Try.func64, Try.ntmps64
    go_wp2_with (first | (go_at_call 42; refine (areAges_any _ _ _ _ zs _ hl hn hI).mono ?_; rintro e w' ⟨rfl, rfl⟩))
    clear hg
    go_loop [12] (fun v => ∃ k : Nat, k ≤ n2 ∧ v = .int .i64 k ∧ ∀ j, j < k → inB (who.getD j 0) 0 (n - 1) = true) (fun v => n2 - (intOf v).toNat)
    case atStart => exact ⟨0, Nat.zero_le _, rfl, fun j hj => absurd hj (by omega)⟩
    case round =>
      obtain ⟨k, hk, rfl, hall⟩ := hrel
      have HA := Lib.hid hall; clear hall
      by_cases hlt : k < n2
      · have hc := hI2 k (by omega)
        cases hz : inB (who.getD k 0) 0 (n - 1) with
        | true =>
          have HZ := Lib.hid hz
          generalize who.getD k 0 = z at hc hz
          go_wp2_with (first | (go_at_call 80; refine (isWithin_any _ _ _ _).mono ?_; rintro e w' ⟨rfl, rfl⟩))
          go_round
          case rel => exact ⟨k + 1, by omega, by go_num, fun j hj => by rcases Nat.lt_succ_iff_lt_or_eq.1 hj with h | rfl; exact HA.out j h; exact HZ.out⟩
          case measure => simp [intOf]; omega
        | false =>
          have hF := Lib.hid (allB_not (lo := 0) (hi := n - 1) k (by omega) hz)
          generalize who.getD k 0 = z at hc hz
          go_wp2_with (first | (go_at_call 80; refine (isWithin_any _ _ _ _).mono ?_; rintro e w' ⟨rfl, rfl⟩))
          go_ret
          exact ⟨by rw [hF.out]; rfl, rfl⟩
      · have hF : Hid (allB who 0 (n - 1) = true) := Lib.hid (allB_iff.2 fun j hj => HA.out j (by omega))
        go_wp2
        go_ret
        exact ⟨by rw [hF.out]; rfl, rfl⟩

theorem infoPerson : (Try.prog.info? 39).map (fun i => (i.zero, i.size, i.bytes)) = some (some (.agg #[.int .i64 0, .int .i64 0]), 2, 16) := by kernel_rfl

/-- A household is told whose block of people is g: numbers and ages. -/
def Ppl (w : World) (g : Nat) (zs : List Int) : Prop :=
  ∀ j, j < zs.length → w.cell? ⟨g, 2 * j, none⟩ = some (.int .i64 j) ∧ w.cell? ⟨g, 2 * j + 1, none⟩ = some (.int .i64 (zs.getD j 0))

theorem Ppl.heap {w w' : World} {g : Nat} {zs : List Int} (h : Ppl w g zs) (hh : w'.heap[g]? = w.heap[g]?) : Ppl w' g zs :=
  fun j hj => ⟨(World.cell?_of_block (w := w) (a := ⟨g, 2 * j, none⟩) hh).trans (h j hj).1, (World.cell?_of_block (w := w) (a := ⟨g, 2 * j + 1, none⟩) hh).trans (h j hj).2⟩
theorem Ppl.kept {B : Nat} {w w' : World} {g : Nat} {zs : List Int} (h : Ppl w g zs) (hb : Below B w w') (hlt : g < B) : Ppl w' g zs := h.heap (hb.block g hlt)
theorem Ppl.num {w : World} {g : Nat} {zs : List Int} (h : Ppl w g zs) (k : Nat) (hk : k < zs.length) : w.cell? ⟨g, k * 2, none⟩ = some (.int .i64 k) := by
  rw [Nat.mul_comm]; exact (h k hk).1
theorem Ppl.age {w : World} {g : Nat} {zs : List Int} (h : Ppl w g zs) (k : Nat) (hk : k < zs.length) : w.cell? ⟨g, k * 2 + 1, none⟩ = some (.int .i64 (zs.getD k 0)) := by
  rw [Nat.mul_comm]; exact (h k hk).2
/-- The first k people stand in the list of cells. -/
def PplTo (zs : List Int) (k : Nat) (xs : List Value) : Prop :=
  ∀ j, j < k → xs[2 * j]? = some (.int .i64 j) ∧ xs[2 * j + 1]? = some (.int .i64 (zs.getD j 0))
theorem pplTo_zero (zs : List Int) (xs : List Value) : PplTo zs 0 xs := fun j hj => absurd hj (by omega)
theorem pplTo_step {zs : List Int} {k : Nat} {xs : List Value} (h : PplTo zs k xs) (hl : k * 2 + 1 < xs.length) : PplTo zs (k + 1) ((xs.set (k * 2) (.int .i64 k)).set (k * 2 + 1) (.int .i64 (zs.getD k 0))) := by
  intro j hj
  by_cases hjk : j = k
  · subst hjk
    rw [Nat.mul_comm 2 j]
    constructor
    · rw [List.getElem?_set_ne (by omega), List.getElem?_set_self (by omega)]
    · rw [List.getElem?_set_self (by simpa using hl)]
  · obtain ⟨h1, h2⟩ := h j (by omega)
    constructor
    · rw [List.getElem?_set_ne (by omega), List.getElem?_set_ne (by omega)]; exact h1
    · rw [List.getElem?_set_ne (by omega), List.getElem?_set_ne (by omega)]; exact h2
theorem ppl_of {w : World} {B g n c : Nat} {zs : List Int} {xs : List Value} (hr : w.ownsRow B 39 2 (.slice (some ⟨g, 0, none⟩) n c) n xs) (h : PplTo zs n xs) (hl : zs.length = n) : Ppl w g zs := by
  intro j hj
  obtain ⟨h1, h2⟩ := h j (by omega)
  exact ⟨(World.ownsRow.cellAt hr (2 * j) (by omega)).trans h1, (World.ownsRow.cellAt hr (2 * j + 1) (by omega)).trans h2⟩

/-- A result of three cells that is written, cell by cell. -/
theorem three_cells {w : World} {B : Nat} {x0 x1 x2 : Value} (r0 : w.cell? ⟨B, 0, none⟩ = some x0) (r1 : w.cell? ⟨B, 1, none⟩ = some x1) (r2 : w.cell? ⟨B, 2, none⟩ = some x2) :
    (∀ v, (w.setCell ⟨B, 0, none⟩ v).cell? ⟨B, 0, none⟩ = some v) ∧ (∀ v0 v, ((w.setCell ⟨B, 0, none⟩ v0).setCell ⟨B, 1, none⟩ v).cell? ⟨B, 1, none⟩ = some v) ∧
    (∀ v0 v1 v, (((w.setCell ⟨B, 0, none⟩ v0).setCell ⟨B, 1, none⟩ v1).setCell ⟨B, 2, none⟩ v).cell? ⟨B, 2, none⟩ = some v) := by
  refine ⟨fun v => World.cell?_setCell_same _ _ _ r0, fun v0 v => World.cell?_setCell_same _ _ _ (u := x1) ?_, fun v0 v1 v => World.cell?_setCell_same _ _ _ (u := x2) ?_⟩
  · simp [go_sem, r1]
  · simp [go_sem, r2]

/-- No household: the zero struct and false. -/
def RetNoHouse (w : World) (e : Ending) (w' : World) : Prop :=
  e = .returned (.tuple #[.agg #[.int .i64 0, .int .i64 0, .slice none 0 0], .bool false]) ∧ Below w.heap.size w w'
def RetHouse (zs : List Int) (who : Nat) (w : World) (e : Ending) (w' : World) : Prop :=
  ∃ g, w.heap.size ≤ g ∧ e = .returned (.tuple #[.agg #[.int .i64 who, .int .i64 (zs.getD who 0), .slice (some ⟨g, 0, none⟩) zs.length zs.length], .bool true]) ∧ Ppl w' g zs ∧ g < w'.heap.size ∧ Below w.heap.size w w'

theorem ints_one {W : World} {g : Nat} (x : Int) (t : TypeId) (h : g = W.heap.size) : Ints (W.alloc (.cells #[.int .i64 x] t)) g 0 [x] := by
  subst h
  intro j hj
  have : j = 0 := by simp at hj; omega
  subst this
  simp
theorem allB_one (x lo hi : Int) : allB [x] lo hi = inB x lo hi := by simp [allB]

set_option maxHeartbeats 400000 in
theorem householdOf_yes (b off n c who : Nat) (zs : List Int) (w : World) (hl : zs.length = n) (hn : n ≤ 1048576) (hI : Ints w b off zs) (hg : goodB zs 120 = true) (hw : who < n) :
    Calls Try.prog 36 #[.slice (some ⟨b, off, none⟩) n c, .int .i64 who] w (RetHouse zs who w) := by
  obtain ⟨i0, hi, hz0, hz1, hz2⟩ := info_parts infoPerson
  have hg8 := goodB_len hg
  have hbl := ints_lt hI (by omega)
  have hI' : ∀ A B, Ints ((w.alloc A).alloc B) b off zs := fun A B => hI.kept (((Below.refl w.heap.size w).alloc (Nat.le_refl _) A).alloc (by simp) B) hbl
  have hA : allB [(who : Int)] 0 ((n : Int) - 1) = true := by rw [allB_one, inB_true (by omega) (by omega)]
  go_enter Try.func36, Try.ntmps36
  go_wp2_with fail
  refine (arePeople_any _ _ _ _ _ _ _ _ zs [(who : Int)] _ hl hn (hI' _ _) rfl (by simp) (ints_one _ _ (by simp))).mono ?_
  rintro e w' ⟨rfl, rfl⟩
  go_wp2_with (first | (at_make; refine wpList_make_full _ rfl _ _ 40 rfl w.heap.size 39 i0 _ 2 Try.underlying40 hi hz0 hz1 .i64 .i64 n n n rfl rfl rfl rfl ?c1 ?c2 ?c3 ?_))
  case c1 => rw [hz2]; omega
  case c2 => unfold maxLen; omega
  case c3 => simp; omega
  intro w1 hown hgr
  go_wp2_with fail
  have hG : w1.heap[w.heap.size]? = some (.cells #[.int .i64 0, .int .i64 0, .slice none 0 0] 42 (0, 0)) := by
    rw [hgr.block _ (by simp; omega) (by simp)]
    rw [Below.heap_alloc _ _ _ (by simp)]
    exact heap_alloc_new w _
  have hB : Below w.heap.size w w1 := ((((Below.refl w.heap.size w).alloc (Nat.le_refl _) _).alloc (by simp) _).grown hgr (by simp; omega) (by simp))
  have hown2 := hown
  have hg2 : w.heap.size < w.heap.size + 1 + 1 := by omega
  clear hown hgr
  generalize w.heap.size + 1 + 1 = g at hown2 hg2 ⊢
  go_loopw [20] (fun v wr => ∃ (k : Nat) (xs : List Value), k ≤ n ∧ v = .int .i64 k ∧ wr.ownsRow w.heap.size 39 2 (.slice (some ⟨g, 0, none⟩) n n) n xs ∧ PplTo zs k xs ∧ Below w.heap.size w wr ∧ wr.heap[w.heap.size]? = some (.cells #[.int .i64 0, .int .i64 0, .slice none 0 0] 42 (0, 0))) (fun v _ => n - (intOf v).toNat)
  case atStart => exact ⟨0, _, Nat.zero_le _, rfl, hown2, pplTo_zero _ _, hB, hG⟩
  case round =>
    obtain ⟨k, xs, hk, rfl, hr, hx, hb, hG'⟩ := hrel
    have HX := Lib.hid hx
    have HG := Lib.hid hG'
    have hxl : xs.length = n * 2 := hr.1
    clear hx hG' hG hown2
    by_cases hlt : k < n
    · have hc : wr.cell? ⟨b, off + k, none⟩ = some (.int .i64 (zs.getD k 0)) := (hI.kept hb hbl) k (by omega)
      obtain ⟨u0, hu0⟩ : ∃ u, wr.cell? ⟨g, k * 2, none⟩ = some u := ⟨_, (World.ownsRow.cellAt hr (k * 2) (by omega)).trans (List.getElem?_eq_getElem (by omega))⟩
      obtain ⟨u1, hu1⟩ : ∃ u, wr.cell? ⟨g, k * 2 + 1, none⟩ = some u := ⟨_, (World.ownsRow.cellAt hr (k * 2 + 1) (by omega)).trans (List.getElem?_eq_getElem (by omega))⟩
      have hf0 := World.ownsRow.frozenAt hr (k * 2)
      have hf1 := World.ownsRow.frozenAt hr (k * 2 + 1)
      have HS1 := World.ownsRow.stored hr (k * 2) (.int .i64 k)
      have HS2 := World.ownsRow.stored HS1.1 (k * 2 + 1) (.int .i64 (zs.getD k 0))
      have HP := pplTo_step HX.out (by omega)
      clear hxl
      generalize zs.getD k 0 = z at hc HS2 HP
      go_wp2
      go_roundw
      case rel => exact ⟨k + 1, _, by omega, by go_num, HS2.1, HP, (hb.setCell (by simp; omega) _).setCell (by simp; omega) _, by rw [Below.heap_setCell _ _ _ _ (by simp; omega), Below.heap_setCell _ _ _ _ (by simp; omega)]; exact HG.out⟩
      case measure => simp [intOf]; omega
    · have hkn : k = n := by omega
      subst hkn
      have hP := ppl_of hr HX.out hl
      have hp0 := hP.num who (by omega)
      have hp1 := hP.age who (by omega)
      have hh := HG.out
      have r0 : wr.cell? ⟨w.heap.size, 0, none⟩ = some (.int .i64 0) := by simp [World.cell?, hh]
      have r1 : wr.cell? ⟨w.heap.size, 1, none⟩ = some (.int .i64 0) := by simp [World.cell?, hh]
      have r2 : wr.cell? ⟨w.heap.size, 2, none⟩ = some (.slice none 0 0) := by simp [World.cell?, hh]
      obtain ⟨s0, s1, s2⟩ := three_cells r0 r1 r2
      have f0 : ∀ j, wr.frozen? ⟨w.heap.size, j, none⟩ = false := fun j => by simp [World.frozen?, hh]
      have hw0 : (0 : Int) ≤ (who : Int) := by omega
      have hw1 : (who : Int) < (k : Int) := by omega
      have hgs : g < wr.heap.size := (hr.lt g rfl).2
      clear hh hxl
      generalize hz : zs.getD who 0 = z at hp1
      have HZ := Lib.hid hz
      clear hz
      go_wp2
      refine bodyPost_ret (v := .tuple #[.agg #[.int .i64 who, .int .i64 z, .slice (some ⟨g, 0, none⟩) k k], .bool true]) (by simp [results, Try.results36, go_sem, s0, s1, s2]) rfl ?_
      refine ⟨g, by omega, by rw [HZ.out, hl], ?_, by simpa [World.setCell] using hgs, ?_⟩
      · exact ((hP.heap (Below.heap_setCell _ _ _ _ (by simp; omega))).heap (Below.heap_setCell _ _ _ _ (by simp; omega))).heap (Below.heap_setCell _ _ _ _ (by simp; omega))
      · exact ((hb.setCell (Nat.le_refl _) _).setCell (Nat.le_refl _) _).setCell (Nat.le_refl _) _

set_option maxHeartbeats 400000 in
theorem householdOf_no (b off n c : Nat) (who : Int) (zs : List Int) (w : World) (hl : zs.length = n) (hn : n ≤ 1048576) (hI : Ints w b off zs) (hbl : b < w.heap.size) (hno : (goodB zs 120 && inB who 0 (n - 1)) = false) :
    Calls Try.prog 36 #[.slice (some ⟨b, off, none⟩) n c, .int .i64 who] w (RetNoHouse w) := by
  have hI' : ∀ A B, Ints ((w.alloc A).alloc B) b off zs := fun A B => hI.kept (((Below.refl w.heap.size w).alloc (Nat.le_refl _) A).alloc (by simp) B) hbl
  rw [← allB_one] at hno
  generalize hA : (goodB zs 120 && allB [who] 0 ((n : Int) - 1)) = r at hno
  subst hno
  have HA := Lib.hid hA
  clear hA
  go_enter Try.func36, Try.ntmps36
  go_wp2_with fail
  refine (arePeople_any _ _ _ _ _ _ _ _ zs [who] _ hl hn (hI' _ _) rfl (by simp) (ints_one _ _ (by simp))).mono ?_
  rintro e w' ⟨rfl, rfl⟩
  rw [HA.out]
  go_wp2_with fail
  go_returns
  refine ⟨rfl, ?_⟩
  go_grown
end Go.Proofs.Ytjabghojenhhiaa
