/- The statements' own helpers on kin: copying, comparing, marking and checking. -/
import Derived.Test.YtkkjbkagkmngkaaHelp
import Derived.Test.YtkkjbkagkmngkaaClu
import Derived.Deep.RegionHeld3
set_option linter.unusedVariables false
set_option linter.unusedSimpArgs false
namespace Go.Proofs.Ytkkjbkagkmngkaa
open Go.RowKit

theorem below_cell2 {w w' : World} {a b : Nat} {x : Value} (h : Below w.heap.size w w') (h1 : w.cell? ⟨a, b, none⟩ = some x) : w'.cell? ⟨a, b, none⟩ = some x :=
  (h.cell (p := ⟨a, b, none⟩) (World.block_lt_of_cell? w _ h1)).trans h1
theorem cell_above {w : World} {g o : Nat} {v : Value} (h : w.cell? ⟨g, o, none⟩ = some v) (A : Obj) : (w.alloc A).cell? ⟨g, o, none⟩ = some v :=
  (World.cell?_of_block (w := w) (a := ⟨g, o, none⟩) (Below.heap_alloc _ _ _ (World.block_lt_of_cell? w _ h))).trans h
theorem infoClue : (Try.prog.info? 54).map (fun i => (i.zero, i.size, i.bytes)) = some (some (.agg #[.int .i64 0, .int .i64 0, .int .i64 0]), 3, 24) := by kernel_rfl

set_option maxHeartbeats 1000000 in
theorem toClue_any (y d e : Int) (w : World) : Calls Try.prog 43 #[.agg #[.int .i64 y, .int .i64 d, .int .i64 e]] w (Ret (.agg #[.int .i64 y, .int .i64 d, .int .i64 e]) w) := by
  go_enter Try.func43, Try.ntmps43
  go_wp2_with fail
  refine bodyPost_ret (v := .agg #[.int .i64 y, .int .i64 d, .int .i64 e]) (by simp [results, Try.results43, go_sem]) rfl ?_
  exact ⟨rfl, (((Below.refl w.heap.size w).alloc (Nat.le_refl _) _).alloc (by simp) _).alloc (by simp; omega) _⟩

set_option maxHeartbeats 1000000 in
theorem eqClue_same (y d e : Int) (w : World) : Calls Try.prog 78 #[.agg #[.int .i64 y, .int .i64 d, .int .i64 e], .agg #[.int .i64 y, .int .i64 d, .int .i64 e]] w (Ret (.bool true) w) := by
  go_enter Try.func78, Try.ntmps78
  go_wp2_with fail
  go_ret
  exact ⟨rfl, ((Below.refl w.heap.size w).alloc (Nat.le_refl _) _).alloc (by simp) _⟩

set_option maxHeartbeats 1000000 in
theorem szClueS_any (a : Option Addr) (n c : Nat) (w : World) (hn : n ≤ 1048576) : Calls Try.prog 51 #[.slice a n c, .int .i64 1048576] w (RetSame (.int .i64 (1048576 - (n : Int))) w) := by
  have h : ¬ (1048576 : Int) - (n : Int) < 0 := by omega
  go_enter Try.func51, Try.ntmps51
  go_wp2_with fail
  go_ret
  exact ⟨rfl, rfl⟩
set_option maxHeartbeats 1000000 in
theorem szClueS_great (a : Option Addr) (n c : Nat) (w : World) (hn : 1048576 < n) (hm : n ≤ maxLen) : Calls Try.prog 51 #[.slice a n c, .int .i64 1048576] w (RetSame (.int .i64 (-1)) w) := by
  have h : (1048576 : Int) - (n : Int) < 0 := by omega
  unfold maxLen at hm
  go_enter Try.func51, Try.ntmps51
  go_wp2_with fail
  go_ret
  exact ⟨rfl, rfl⟩

/-- The first k triples of cells are the kin. -/
def KnTo (ds : List Kn) (k : Nat) (xs : List Value) : Prop := ∀ j, j < k → xs[j * 3]? = some (.int .i64 (at3 ds j).1) ∧ xs[j * 3 + 1]? = some (.int .i64 (at3 ds j).2.1) ∧ xs[j * 3 + 2]? = some (.int .i64 (at3 ds j).2.2)
theorem knTo_zero (ds : List Kn) (xs : List Value) : KnTo ds 0 xs := fun j hj => absurd hj (by omega)
theorem knTo_step {ds : List Kn} {k : Nat} {xs : List Value} (h : KnTo ds k xs) (hl : k * 3 + 2 < xs.length) : KnTo ds (k + 1) (((xs.set (k * 3) (.int .i64 (at3 ds k).1)).set (k * 3 + 1) (.int .i64 (at3 ds k).2.1)).set (k * 3 + 2) (.int .i64 (at3 ds k).2.2)) := by
  intro j hj
  by_cases hjk : j = k
  · subst hjk
    refine ⟨?_, ?_, ?_⟩
    · rw [List.getElem?_set_ne (by omega), List.getElem?_set_ne (by omega), List.getElem?_set_self (by omega)]
    · rw [List.getElem?_set_ne (by omega), List.getElem?_set_self (by simp; omega)]
    · rw [List.getElem?_set_self (by simpa using hl)]
  · have := h j (by omega)
    refine ⟨?_, ?_, ?_⟩
    · rw [List.getElem?_set_ne (by omega), List.getElem?_set_ne (by omega), List.getElem?_set_ne (by omega)]; exact this.1
    · rw [List.getElem?_set_ne (by omega), List.getElem?_set_ne (by omega), List.getElem?_set_ne (by omega)]; exact this.2.1
    · rw [List.getElem?_set_ne (by omega), List.getElem?_set_ne (by omega), List.getElem?_set_ne (by omega)]; exact this.2.2
theorem knTo_all {ds : List Kn} {n : Nat} {xs : List Value} (hl : ds.length = n) (hx : xs.length = n * 3) (h : KnTo ds n xs) : xs = flatK ds := by
  apply List.ext_getElem?
  intro i
  by_cases hi : i < n * 3
  · obtain ⟨j, hj⟩ : ∃ j, i = j * 3 ∨ i = j * 3 + 1 ∨ i = j * 3 + 2 := ⟨i / 3, by omega⟩
    have hjn : j < n := by omega
    have h1 := h j hjn
    have h2 := flatK_at ds j (by omega)
    rcases hj with rfl | rfl | rfl
    · rw [h1.1, h2.1]
    · rw [h1.2.1, h2.2.1]
    · rw [h1.2.2, h2.2.2]
  · rw [List.getElem?_eq_none (by omega), List.getElem?_eq_none (by rw [flatK_length]; omega)]
theorem ownK_of {B : Nat} {w : World} {v : Value} {n : Nat} {ds : List Kn} {xs : List Value} (hl : ds.length = n) (h : w.ownsRow B 54 3 v n xs) (hx : KnTo ds n xs) : OwnK B w v ds := by
  have hxl : xs.length = n * 3 := h.1
  rw [knTo_all hl hxl hx] at h
  subst hl
  exact h

set_option maxHeartbeats 1000000 in
theorem toClueS_any (a : Option Addr) (n c : Nat) (ds : List Kn) (w : World) (h : ArgK w a n ds) (hn : n ≤ 1048576) :
    Calls Try.prog 53 #[.slice a n c] w (RetRowK ds w) := by
  obtain ⟨i0, hi, hz0, hz1, hz2⟩ := info_parts infoClue
  obtain ⟨hl, h⟩ := h
  have HL := Lib.hid hl
  clear hl
  go_enter Try.func53, Try.ntmps53
  go_wp2_with (first | (at_make; refine wpList_make_full _ rfl _ _ 27 rfl w.heap.size 54 i0 _ 3 Try.underlying27 hi hz0 hz1 .i64 .i64 n n n rfl rfl rfl rfl ?c1 ?c2 ?c3 ?_))
  case c1 => rw [hz2]; omega
  case c2 => unfold maxLen; omega
  case c3 => exact Nat.le_refl _
  intro w1 hown hgr
  go_wp2_with fail
  go_loopw [4] (fun v wr => ∃ (k : Nat) (xs : List Value), k ≤ n ∧ v = .int .i64 k ∧ wr.ownsRow w.heap.size 54 3 (.slice (some ⟨w.heap.size, 0, none⟩) n n) n xs ∧ KnTo ds k xs ∧ Below w.heap.size w wr) (fun v _ => n - (intOf v).toNat)
  case atStart => exact ⟨0, _, Nat.zero_le _, rfl, hown, knTo_zero _ _, (Below.refl _ _).grown hgr (Nat.le_refl _) (by simp)⟩
  case round =>
    obtain ⟨k, xs, hk, rfl, hr, hx, hb⟩ := hrel
    have HX := Lib.hid hx
    have HR := Lib.hid hr
    have hxl : Hid (xs.length = n * 3) := Lib.hid hr.1
    have hsz := hb.size
    clear hx hr
    by_cases hlt : k < n
    · rcases h with h | ⟨b, off, rfl, hbl, hI⟩
      · omega
      obtain ⟨hc0, hc1, hc2⟩ := (hI.kept hb hbl) k (by rw [HL.out]; exact hlt)
      obtain ⟨u0, hu0⟩ : ∃ u, xs[k * 3]? = some u := ⟨_, List.getElem?_eq_getElem (by rw [hxl.out]; omega)⟩
      obtain ⟨u1, hu1⟩ : ∃ u, xs[k * 3 + 1]? = some u := ⟨_, List.getElem?_eq_getElem (by rw [hxl.out]; omega)⟩
      obtain ⟨u2, hu2⟩ : ∃ u, xs[k * 3 + 2]? = some u := ⟨_, List.getElem?_eq_getElem (by rw [hxl.out]; omega)⟩
      have HU0 := Lib.hid hu0
      have HU1 := Lib.hid hu1
      have HU2 := Lib.hid hu2
      have HP := Lib.hid (knTo_step HX.out (by rw [hxl.out]; omega))
      clear hu0 hu1 hu2
      generalize (at3 ds k).1 = y at hc0 HP
      generalize (at3 ds k).2.1 = d at hc1 HP
      generalize (at3 ds k).2.2 = o at hc2 HP
      go_wp2_with (go_at_call 43; refine (toClue_any y d o _).mono ?_; rintro e w' ⟨rfl, hcall⟩; have hr2 := World.ownsRow.kept HR.out (below_grown hcall none) (by simp [Value.ownBlock]); have hd0 := (World.ownsRow.cellAt hr2 (k * 3) (by omega)).trans HU0.out; have hd1 := (World.ownsRow.cellAt hr2 (k * 3 + 1) (by omega)).trans HU1.out; have hd2 := (World.ownsRow.cellAt hr2 (k * 3 + 2) (by omega)).trans HU2.out; have hf0 := World.ownsRow.frozenAt hr2 (k * 3); have hf1 := World.ownsRow.frozenAt hr2 (k * 3 + 1); have hf2 := World.ownsRow.frozenAt hr2 (k * 3 + 2); have HS := Lib.hid (World.ownsRow.stored (World.ownsRow.stored (World.ownsRow.stored hr2 (k * 3) (.int .i64 y)).1 (k * 3 + 1) (.int .i64 d)).1 (k * 3 + 2) (.int .i64 o)); have hb2 := Lib.hid (hb.trans (hcall.mono hsz)); clear hr2 hcall)
      go_roundw
      case rel => exact ⟨k + 1, _, by omega, by go_num, HS.out.1, HP.out, ((hb2.out.setCell (Nat.le_refl _) _).setCell (Nat.le_refl _) _).setCell (Nat.le_refl _) _⟩
      case measure => simp [intOf]; omega
    · have hkn : k = n := by omega
      go_wp2_with fail
      go_ret
      subst hkn
      have ho := ownK_of HL.out HR.out HX.out
      have hl := HL.out
      subst hl
      exact ⟨w.heap.size, Nat.le_refl _, rfl, ho, hb⟩
end Go.Proofs.Ytkkjbkagkmngkaa
