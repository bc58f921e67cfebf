/- The statements' own helpers on dates: copying, comparing, marking and checking. -/
import Derived.Test.YtmidobhfahpkcaaHelp
import Derived.Test.YtmidobhfahpkcaaDate
import Derived.Deep.RegionHeld3
set_option linter.unusedVariables false
set_option linter.unusedSimpArgs false
namespace Go.Proofs.Ytmidobhfahpkcaa
open Go.RowKit

theorem below_cell2 {w w' : World} {a b : Nat} {x : Value} (h : Below w.heap.size w w') (h1 : w.cell? ⟨a, b, none⟩ = some x) : w'.cell? ⟨a, b, none⟩ = some x :=
  (h.cell (p := ⟨a, b, none⟩) (World.block_lt_of_cell? w _ h1)).trans h1
theorem two_cells {w : World} {B : Nat} {x0 x1 : Value} (r0 : w.cell? ⟨B, 0, none⟩ = some x0) (r1 : w.cell? ⟨B, 1, none⟩ = some x1) :
    (∀ v0 v1, ((w.setCell ⟨B, 0, none⟩ v0).setCell ⟨B, 1, none⟩ v1).cell? ⟨B, 0, none⟩ = some v0) ∧ (∀ v0 v1, ((w.setCell ⟨B, 0, none⟩ v0).setCell ⟨B, 1, none⟩ v1).cell? ⟨B, 1, none⟩ = some v1) := by
  have h0 : ∀ v, (w.setCell ⟨B, 0, none⟩ v).cell? ⟨B, 0, none⟩ = some v := fun v => World.cell?_setCell_same _ _ _ r0
  refine ⟨fun v0 v1 => ?_, fun v0 v1 => World.cell?_setCell_same _ _ _ (u := x1) ?_⟩
  · rw [World.cell?_setCell_other _ _ _ _ (by simp)]
    exact h0 v0
  · rw [World.cell?_setCell_other _ _ _ _ (by simp)]
    exact r1
theorem cell_above {w : World} {g o : Nat} {v : Value} (h : w.cell? ⟨g, o, none⟩ = some v) (A : Obj) : (w.alloc A).cell? ⟨g, o, none⟩ = some v :=
  (World.cell?_of_block (w := w) (a := ⟨g, o, none⟩) (Below.heap_alloc _ _ _ (World.block_lt_of_cell? w _ h))).trans h
theorem infoDate : (Try.prog.info? 25).map (fun i => (i.zero, i.size, i.bytes)) = some (some (.agg #[.int .i64 0, .int .i64 0]), 2, 16) := by kernel_rfl

set_option maxHeartbeats 1000000 in
theorem toDate_any (y d : Int) (w : World) : Calls Try.prog 16 #[.agg #[.int .i64 y, .int .i64 d]] w (Ret (.agg #[.int .i64 y, .int .i64 d]) w) := by
  go_enter Try.func16, Try.ntmps16
  go_wp2_with fail
  refine bodyPost_ret (v := .agg #[.int .i64 y, .int .i64 d]) (by simp [results, Try.results16, go_sem]) rfl ?_
  exact ⟨rfl, (((Below.refl w.heap.size w).alloc (Nat.le_refl _) _).alloc (by simp) _).alloc (by simp; omega) _⟩

set_option maxHeartbeats 1000000 in
theorem eqDate_same (y d : Int) (w : World) : Calls Try.prog 34 #[.agg #[.int .i64 y, .int .i64 d], .agg #[.int .i64 y, .int .i64 d]] w (Ret (.bool true) w) := by
  go_enter Try.func34, Try.ntmps34
  go_wp2_with fail
  go_ret
  exact ⟨rfl, ((Below.refl w.heap.size w).alloc (Nat.le_refl _) _).alloc (by simp) _⟩

set_option maxHeartbeats 1000000 in
theorem szDateS_any (a : Option Addr) (n c : Nat) (w : World) (hn : n ≤ 1048576) : Calls Try.prog 40 #[.slice a n c, .int .i64 1048576] w (RetSame (.int .i64 (1048576 - (n : Int))) w) := by
  have h : ¬ (1048576 : Int) - (n : Int) < 0 := by omega
  go_enter Try.func40, Try.ntmps40
  go_wp2_with fail
  go_ret
  exact ⟨rfl, rfl⟩
set_option maxHeartbeats 1000000 in
theorem szDateS_great (a : Option Addr) (n c : Nat) (w : World) (hn : 1048576 < n) (hm : n ≤ maxLen) : Calls Try.prog 40 #[.slice a n c, .int .i64 1048576] w (RetSame (.int .i64 (-1)) w) := by
  have h : (1048576 : Int) - (n : Int) < 0 := by omega
  unfold maxLen at hm
  go_enter Try.func40, Try.ntmps40
  go_wp2_with fail
  go_ret
  exact ⟨rfl, rfl⟩

/-- The first k pairs of cells are the dates. -/
def DtTo (ds : List Dt) (k : Nat) (xs : List Value) : Prop := ∀ j, j < k → xs[j * 2]? = some (.int .i64 (at2 ds j).1) ∧ xs[j * 2 + 1]? = some (.int .i64 (at2 ds j).2)
theorem dtTo_zero (ds : List Dt) (xs : List Value) : DtTo ds 0 xs := fun j hj => absurd hj (by omega)
theorem dtTo_step {ds : List Dt} {k : Nat} {xs : List Value} (h : DtTo ds k xs) (hl : k * 2 + 1 < xs.length) : DtTo ds (k + 1) ((xs.set (k * 2) (.int .i64 (at2 ds k).1)).set (k * 2 + 1) (.int .i64 (at2 ds k).2)) := by
  intro j hj
  by_cases hjk : j = k
  · subst hjk
    constructor
    · rw [List.getElem?_set_ne (by omega), List.getElem?_set_self (by omega)]
    · rw [List.getElem?_set_self (by simpa using hl)]
  · have := h j (by omega)
    constructor
    · rw [List.getElem?_set_ne (by omega), List.getElem?_set_ne (by omega)]; exact this.1
    · rw [List.getElem?_set_ne (by omega), List.getElem?_set_ne (by omega)]; exact this.2
theorem dtTo_all {ds : List Dt} {n : Nat} {xs : List Value} (hl : ds.length = n) (hx : xs.length = n * 2) (h : DtTo ds n xs) : xs = flatD ds := by
  apply List.ext_getElem?
  intro i
  by_cases hi : i < n * 2
  · obtain ⟨j, hj⟩ : ∃ j, i = j * 2 ∨ i = j * 2 + 1 := ⟨i / 2, by omega⟩
    have hjn : j < n := by omega
    have h1 := h j hjn
    have h2 := flatD_at ds j (by omega)
    rcases hj with rfl | rfl
    · rw [h1.1, h2.1]
    · rw [h1.2, h2.2]
  · rw [List.getElem?_eq_none (by omega), List.getElem?_eq_none (by rw [flatD_length]; omega)]
theorem ownD_of {T : TypeId} {B : Nat} {w : World} {v : Value} {n : Nat} {ds : List Dt} {xs : List Value} (hl : ds.length = n) (h : w.ownsRow B T 2 v n xs) (hx : DtTo ds n xs) : OwnD T B w v ds := by
  have hxl : xs.length = n * 2 := h.1
  rw [dtTo_all hl hxl hx] at h
  subst hl
  exact h

set_option maxHeartbeats 1000000 in
theorem toDateS_any (a : Option Addr) (n c : Nat) (ds : List Dt) (w : World) (h : ArgD w a n ds) (hn : n ≤ 1048576) :
    Calls Try.prog 42 #[.slice a n c] w (RetRowD 25 ds w) := by
  obtain ⟨i0, hi, hz0, hz1, hz2⟩ := info_parts infoDate
  obtain ⟨hl, h⟩ := h
  have HL := Lib.hid hl
  clear hl
  go_enter Try.func42, Try.ntmps42
  go_wp2_with (first | (at_make; refine wpList_make_full _ rfl _ _ 45 rfl w.heap.size 25 i0 _ 2 Try.underlying45 hi hz0 hz1 .i64 .i64 n n n rfl rfl rfl rfl ?c1 ?c2 ?c3 ?_))
  case c1 => rw [hz2]; omega
  case c2 => unfold maxLen; omega
  case c3 => exact Nat.le_refl _
  intro w1 hown hgr
  go_wp2_with fail
  go_loopw [4] (fun v wr => ∃ (k : Nat) (xs : List Value), k ≤ n ∧ v = .int .i64 k ∧ wr.ownsRow w.heap.size 25 2 (.slice (some ⟨w.heap.size, 0, none⟩) n n) n xs ∧ DtTo ds k xs ∧ Below w.heap.size w wr) (fun v _ => n - (intOf v).toNat)
  case atStart => exact ⟨0, _, Nat.zero_le _, rfl, hown, dtTo_zero _ _, (Below.refl _ _).grown hgr (Nat.le_refl _) (by simp)⟩
  case round =>
    obtain ⟨k, xs, hk, rfl, hr, hx, hb⟩ := hrel
    have HX := Lib.hid hx
    have HR := Lib.hid hr
    have hxl : Hid (xs.length = n * 2) := Lib.hid hr.1
    have hsz := hb.size
    clear hx hr
    by_cases hlt : k < n
    · rcases h with h | ⟨b, off, rfl, hbl, hI⟩
      · omega
      obtain ⟨hc0, hc1⟩ := (hI.kept hb hbl) k (by rw [HL.out]; exact hlt)
      obtain ⟨u0, hu0⟩ : ∃ u, xs[k * 2]? = some u := ⟨_, List.getElem?_eq_getElem (by rw [hxl.out]; omega)⟩
      obtain ⟨u1, hu1⟩ : ∃ u, xs[k * 2 + 1]? = some u := ⟨_, List.getElem?_eq_getElem (by rw [hxl.out]; omega)⟩
      have HU0 := Lib.hid hu0
      have HU1 := Lib.hid hu1
      have HP := Lib.hid (dtTo_step HX.out (by rw [hxl.out]; omega))
      clear hu0 hu1
      generalize (at2 ds k).1 = y at hc0 HP
      generalize (at2 ds k).2 = d at hc1 HP
      go_wp2_with (go_at_call 16; refine (toDate_any y d _).mono ?_; rintro e w' ⟨rfl, hcall⟩; have hr2 := World.ownsRow.kept HR.out (below_grown hcall none) (by simp [Value.ownBlock]); have hd0 := (World.ownsRow.cellAt hr2 (k * 2) (by omega)).trans HU0.out; have hd1 := (World.ownsRow.cellAt hr2 (k * 2 + 1) (by omega)).trans HU1.out; have hf0 := World.ownsRow.frozenAt hr2 (k * 2); have hf1 := World.ownsRow.frozenAt hr2 (k * 2 + 1); have HS := Lib.hid (World.ownsRow.stored (World.ownsRow.stored hr2 (k * 2) (.int .i64 y)).1 (k * 2 + 1) (.int .i64 d)); have hb2 := Lib.hid (hb.trans (hcall.mono hsz)); clear hr2 hcall)
      go_roundw
      case rel => exact ⟨k + 1, _, by omega, by go_num, HS.out.1, HP.out, (hb2.out.setCell (Nat.le_refl _) _).setCell (Nat.le_refl _) _⟩
      case measure => simp [intOf]; omega
    · have hkn : k = n := by omega
      go_wp2_with fail
      go_ret
      subst hkn
      have ho := ownD_of HL.out HR.out HX.out
      have hl := HL.out
      subst hl
      exact ⟨w.heap.size, Nat.le_refl _, rfl, ho, hb⟩
end Go.Proofs.Ytmidobhfahpkcaa
