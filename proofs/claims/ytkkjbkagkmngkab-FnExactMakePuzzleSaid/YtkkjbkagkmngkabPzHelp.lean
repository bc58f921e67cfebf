/- The statements' own helpers on puzzles: copying, comparing, marking and checking. -/
import Derived.Test.YtkkjbkagkmngkabCluHelp2
import Derived.Lib.BufferWrite
set_option linter.unusedVariables false
set_option linter.unusedSimpArgs false
namespace Go.Proofs.Ytkkjbkagkmngkab
open Go.RowKit

theorem two_cells {w : World} {B : Nat} {x0 x1 : Value} (r0 : w.cell? ⟨B, 0, none⟩ = some x0) (r1 : w.cell? ⟨B, 1, none⟩ = some x1) :
    (∀ v0 v1, ((w.setCell ⟨B, 0, none⟩ v0).setCell ⟨B, 1, none⟩ v1).cell? ⟨B, 0, none⟩ = some v0) ∧ (∀ v0 v1, ((w.setCell ⟨B, 0, none⟩ v0).setCell ⟨B, 1, none⟩ v1).cell? ⟨B, 1, none⟩ = some v1) := by
  have h0 : ∀ v, (w.setCell ⟨B, 0, none⟩ v).cell? ⟨B, 0, none⟩ = some v := fun v => World.cell?_setCell_same _ _ _ r0
  refine ⟨fun v0 v1 => ?_, fun v0 v1 => World.cell?_setCell_same _ _ _ (u := x1) ?_⟩
  · rw [World.cell?_setCell_other _ _ _ _ (by simp)]
    exact h0 v0
  · rw [World.cell?_setCell_other _ _ _ _ (by simp)]
    exact r1
/-- A call returned a new puzzle of exactly the clues ds, never nil. -/
def RetRowP (p : Int) (ds : List Kn) (w : World) (e : Ending) (w' : World) : Prop :=
  ∃ g, w.heap.size ≤ g ∧ e = .returned (.agg #[.int .i64 p, .slice (some ⟨g, 0, none⟩) ds.length ds.length]) ∧ OwnK w.heap.size w' (.slice (some ⟨g, 0, none⟩) ds.length ds.length) ds ∧ Below w.heap.size w w'
/-- A call returned a puzzle with new clues, maybe nil, and a bool. -/
def RetPB (p : Int) (ds : List Kn) (ok : Bool) (w : World) (e : Ending) (w' : World) : Prop :=
  ∃ v, e = .returned (.tuple #[.agg #[.int .i64 p, v], .bool ok]) ∧ OwnK w.heap.size w' v ds ∧ Below w.heap.size w w'

theorem own_sliceK {B : Nat} {w : World} {v : Value} {ds : List Kn} (h : OwnK B w v ds) : ∃ (q : Option Addr × Nat × Nat), v = .slice q.1 q.2.1 q.2.2 := by
  rcases h.2 with ⟨h1, -⟩ | ⟨g, cap, cur, h1, -⟩
  · exact ⟨(none, 0, 0), h1⟩
  · exact ⟨(_, _, _), h1⟩
theorem ownK_slice {B : Nat} {w : World} {v : Value} {zs : List Kn} (h : OwnK B w v zs) : ∃ a n c, v = .slice a n c := by
  rcases h.2 with ⟨h1, h2⟩ | ⟨g, cap, cur, h1, -⟩
  · exact ⟨_, _, _, h1⟩
  · exact ⟨_, _, _, h1⟩
set_option maxHeartbeats 2000000 in
theorem eqPuzzle_any (B1 B2 : Nat) (p : Int) (v1 v2 : Value) (ds : List Kn) (w : World) (hn : ds.length ≤ 1048576) (h1 : OwnK B1 w v1 ds) (h2 : OwnK B2 w v2 ds) :
    Calls Try.prog 12 #[.agg #[.int .i64 p, v1], .agg #[.int .i64 p, v2]] w (Ret (.bool true) w) := by
  have HC := Lib.hid (fun (W : World) (hb : Below w.heap.size w W) => eqClueS_any B1 B2 v1 v2 ds W hn (h1.kept hb) (h2.kept hb))
  have hbq := ((Below.refl w.heap.size w).alloc (Nat.le_refl _) (.cells #[.int .i64 p, v1] 34)).alloc (by simp) (.cells #[.int .i64 p, v2] 34)
  have HBQ := Lib.hid hbq
  clear h1 h2 hbq
  go_enter Try.func12, Try.ntmps12
  go_wp2_with (go_at_call 28; refine (HC.out _ HBQ.out).mono ?_; rintro e w' ⟨rfl, hcall⟩)
  go_ret
  exact ⟨rfl, HBQ.out.trans (hcall.mono HBQ.out.size)⟩

set_option maxHeartbeats 2000000 in
theorem markPuzzle_some (B g c n : Nat) (p : Int) (ds : List Kn) (k : Int) (w : World) (hl : ds.length = n) (hn : n ≤ 1048576) (hk0 : 0 ≤ k) (hk1 : k ≤ 1099511627776) (hB : B ≤ w.heap.size) (h : OwnK B w (.slice (some ⟨g, 0, none⟩) n c) ds) :
    Calls Try.prog 14 #[.agg #[.int .i64 p, .slice (some ⟨g, 0, none⟩) n c], .int .i64 k] w (RetMarkK B g c n k w) := by
  have HC := Lib.hid (fun (W : World) (hb : Below w.heap.size w W) => markClueS_some B g c n ds k W hl hn hk0 hk1 (h.kept hb))
  have HBQ := Lib.hid ((Below.refl w.heap.size w).alloc (Nat.le_refl _) (.cells #[.int .i64 p, .slice (some ⟨g, 0, none⟩) n c] 34))
  have hg := h.shape.2.2.1
  clear h
  go_enter Try.func14, Try.ntmps14
  go_wp2_with (go_at_call 29; refine (HC.out _ HBQ.out).mono ?_; rintro e w' ⟨rfl, hown, hgr⟩)
  go_ret
  exact ⟨rfl, hown, grown_trans (below_grown HBQ.out _) hgr⟩
set_option maxHeartbeats 2000000 in
theorem markPuzzle_any (B : Nat) (v : Value) (p : Int) (ds : List Kn) (k : Int) (w : World) (hn : ds.length ≤ 1048576) (hk0 : 0 ≤ k) (hk1 : k ≤ 1099511627776) (h : OwnK B w v ds) :
    Calls Try.prog 14 #[.agg #[.int .i64 p, v], .int .i64 k] w (RetMarkKV B v ds.length k w) := by
  have HC := Lib.hid (fun (W : World) (hb : Below w.heap.size w W) => markClueS_any B v ds k W hn hk0 hk1 (h.kept hb))
  have HBQ := Lib.hid ((Below.refl w.heap.size w).alloc (Nat.le_refl _) (.cells #[.int .i64 p, v] 34))
  clear h
  go_enter Try.func14, Try.ntmps14
  go_wp2_with (go_at_call 29; refine (HC.out _ HBQ.out).mono ?_; rintro e w' ⟨rfl, hown, hgr⟩)
  go_ret
  exact ⟨rfl, hown, grown_trans (below_grown HBQ.out _) hgr⟩
set_option maxHeartbeats 2000000 in
theorem heldPuzzle_any (B : Nat) (v : Value) (p : Int) (ds : List Kn) (k : Int) (w : World) (hn : ds.length ≤ 1048576) (hk0 : 0 ≤ k) (hk1 : k ≤ 1099511627776) (h : OwnK B w v (marksK k ds.length)) :
    Calls Try.prog 15 #[.agg #[.int .i64 p, v], .int .i64 k] w (Ret (.int .i64 (k + 3 * ds.length)) w) := by
  have HC := Lib.hid (fun (W : World) (hb : Below w.heap.size w W) => heldClueS_any B v ds k W hn hk0 hk1 (h.kept hb))
  have HBQ := Lib.hid ((Below.refl w.heap.size w).alloc (Nat.le_refl _) (.cells #[.int .i64 p, v] 34))
  have hk3 : ¬ k + 3 * (ds.length : Int) < 0 := by omega
  clear h
  go_enter Try.func15, Try.ntmps15
  go_wp2_with (go_at_call 30; refine (HC.out _ HBQ.out).mono ?_; rintro e w' ⟨rfl, hcall⟩)
  go_ret
  exact ⟨rfl, HBQ.out.trans (hcall.mono HBQ.out.size)⟩
theorem cell_grownNe {w w' : World} {g b o : Nat} {v : Value} (hg : w.grownBy w' (some g)) (hne : b ≠ g) (h : w.cell? ⟨b, o, none⟩ = some v) : w'.cell? ⟨b, o, none⟩ = some v :=
  (World.cell?_of_block (w := w) (a := ⟨b, o, none⟩) (hg.block b (World.block_lt_of_cell? w ⟨b, o, none⟩ h) (fun e => by simp at e; omega))).trans h
theorem cell_ownAbove {B : Nat} {w w' : World} {v : Value} {zs : List Int} {b o : Nat} {u : Value} (ho : Own B w v zs) (hg : w.grownBy w' v.ownBlock) (hne : b < B) (h : w.cell? ⟨b, o, none⟩ = some u) : w'.cell? ⟨b, o, none⟩ = some u := by
  refine (World.cell?_of_block (w := w) (a := ⟨b, o, none⟩) (hg.block b (World.block_lt_of_cell? w ⟨b, o, none⟩ h) ?_)).trans h
  rcases ho.block with e | ⟨g, e, h1, _⟩
  · rw [e]; simp
  · rw [e]; simp; omega
theorem cell_ownAboveT {B : Nat} {w0 w w' : World} {v : Value} {zs : List Kn} {b o : Nat} {u : Value} (ho : OwnK B w0 v zs) (hlt : w0.heap.size ≤ b) (hg : w.grownBy w' v.ownBlock) (h : w.cell? ⟨b, o, none⟩ = some u) : w'.cell? ⟨b, o, none⟩ = some u := by
  refine (World.cell?_of_block (w := w) (a := ⟨b, o, none⟩) (hg.block b (World.block_lt_of_cell? w ⟨b, o, none⟩ h) ?_)).trans h
  rcases ho.block with e | ⟨g, e, _, h1⟩
  · rw [e]; simp
  · rw [e]; simp; omega
end Go.Proofs.Ytkkjbkagkmngkab
