/- The statements' own helpers on puzzles: copying, comparing, marking and checking. -/
import Derived.Test.YtkkjbkagkmngkaaCluHelp2
import Derived.Lib.BufferWrite
set_option linter.unusedVariables false
set_option linter.unusedSimpArgs false
namespace Go.Proofs.Ytkkjbkagkmngkaa
open Go.RowKit

theorem two_cells {w : World} {B : Nat} {x0 x1 : Value} (r0 : w.cell? ⟨B, 0, none⟩ = some x0) (r1 : w.cell? ⟨B, 1, none⟩ = some x1) :
    (∀ v0 v1, ((w.setCell ⟨B, 0, none⟩ v0).setCell ⟨B, 1, none⟩ v1).cell? ⟨B, 0, none⟩ = some v0) ∧ (∀ v0 v1, ((w.setCell ⟨B, 0, none⟩ v0).setCell ⟨B, 1, none⟩ v1).cell? ⟨B, 1, none⟩ = some v1) := by
  have h0 : ∀ v, (w.setCell ⟨B, 0, none⟩ v).cell? ⟨B, 0, none⟩ = some v := fun v => World.cell?_setCell_same _ _ _ r0
  refine ⟨fun v0 v1 => ?_, fun v0 v1 => World.cell?_setCell_same _ _ _ (u := x1) ?_⟩
  · rw [World.cell?_setCell_other _ _ _ _ (by simp)]
    exact h0 v0
  · rw [World.cell?_setCell_other _ _ _ _ (by simp)]
    exact r1
/-- A call returned a new puzzle of exactly the clues ds, never nil. -/
def RetRowP (p : Int) (ds : List Kn) (w : World) (e : Ending) (w' : World) : Prop :=
  ∃ g, w.heap.size ≤ g ∧ e = .returned (.agg #[.int .i64 p, .slice (some ⟨g, 0, none⟩) ds.length ds.length]) ∧ OwnK w.heap.size w' (.slice (some ⟨g, 0, none⟩) ds.length ds.length) ds ∧ Below w.heap.size w w'
/-- A call returned a puzzle with new clues, maybe nil, and a bool. -/
def RetPB (p : Int) (ds : List Kn) (ok : Bool) (w : World) (e : Ending) (w' : World) : Prop :=
  ∃ v, e = .returned (.tuple #[.agg #[.int .i64 p, v], .bool ok]) ∧ OwnK w.heap.size w' v ds ∧ Below w.heap.size w w'

theorem own_sliceK {B : Nat} {w : World} {v : Value} {ds : List Kn} (h : OwnK B w v ds) : ∃ (q : Option Addr × Nat × Nat), v = .slice q.1 q.2.1 q.2.2 := by
  rcases h.2 with ⟨h1, -⟩ | ⟨g, cap, cur, h1, -⟩
  · exact ⟨(none, 0, 0), h1⟩
  · exact ⟨(_, _, _), h1⟩
theorem ownK_slice {B : Nat} {w : World} {v : Value} {zs : List Kn} (h : OwnK B w v zs) : ∃ a n c, v = .slice a n c := by
  rcases h.2 with ⟨h1, h2⟩ | ⟨g, cap, cur, h1, -⟩
  · exact ⟨_, _, _, h1⟩
  · exact ⟨_, _, _, h1⟩
theorem szPuzzle_any (p : Int) (a : Option Addr) (n c : Nat) (w : World) (hn : n ≤ 1048576) : Calls Try.prog 15 #[.agg #[.int .i64 p, .slice a n c], .int .i64 1048576] w (Ret (.int .i64 (1048576 - (n : Int))) w) := by
  have h : ¬ (1048576 : Int) - (n : Int) < 0 := by omega
  go_enter Try.func15, Try.ntmps15
  go_wp2_with (go_at_call 51; refine (szClueS_any _ _ _ _ hn).mono ?_; rintro e w' ⟨rfl, rfl⟩)
  go_ret
  exact ⟨rfl, (Below.refl w.heap.size w).alloc (Nat.le_refl _) _⟩
theorem szPuzzle_great (p : Int) (a : Option Addr) (n c : Nat) (w : World) (hn : 1048576 < n) (hm : n ≤ maxLen) : Calls Try.prog 15 #[.agg #[.int .i64 p, .slice a n c], .int .i64 1048576] w (Ret (.int .i64 (-1)) w) := by
  go_enter Try.func15, Try.ntmps15
  go_wp2_with (go_at_call 51; refine (szClueS_great _ _ _ _ hn hm).mono ?_; rintro e w' ⟨rfl, rfl⟩)
  go_ret
  exact ⟨rfl, (Below.refl w.heap.size w).alloc (Nat.le_refl _) _⟩

set_option maxHeartbeats 2000000 in
theorem toPuzzle_any (p : Int) (a : Option Addr) (n c : Nat) (ds : List Kn) (w : World) (h : ArgK w a n ds) (hn : n ≤ 1048576) :
    Calls Try.prog 17 #[.agg #[.int .i64 p, .slice a n c]] w (RetRowP p ds w) := by
  have HC := Lib.hid (fun (W : World) (hb : Below w.heap.size w W) => toClueS_any a n c ds W (h.kept hb) hn)
  have hbq := (((Below.refl w.heap.size w).alloc (Nat.le_refl _) (.cells #[.int .i64 p, .slice a n c] 24)).alloc (by simp) (.cells #[.int .i64 0, .slice none 0 0] 29)).alloc (by simp; omega) (.cells #[.int .i64 p, .slice none 0 0] 29)
  have HBQ := Lib.hid hbq
  have HN := Lib.hid (show ds.length = n from h.1)
  clear h hbq
  go_enter Try.func17, Try.ntmps17
  go_wp2_with fail
  refine (HC.out _ HBQ.out).mono ?_
  rintro e w' ⟨g, hg, rfl, ho, hcall⟩
  rw [HN.out] at ho ⊢
  have c20 : w'.cell? ⟨w.heap.size + 1 + 1, 0, none⟩ = some (.int .i64 p) := below_cell2 hcall (by simp [go_sem])
  have c21 : w'.cell? ⟨w.heap.size + 1 + 1, 1, none⟩ = some (.slice none 0 0) := below_cell2 hcall (by simp [go_sem])
  have c10 : w'.cell? ⟨w.heap.size + 1, 0, none⟩ = some (.int .i64 0) := below_cell2 hcall (by simp [go_sem])
  have c11 : w'.cell? ⟨w.heap.size + 1, 1, none⟩ = some (.slice none 0 0) := below_cell2 hcall (by simp [go_sem])
  have z20 : w'.frozen? ⟨w.heap.size + 1 + 1, 0, none⟩ = false := (hcall.frozen (p := ⟨w.heap.size + 1 + 1, 0, none⟩) (by simp)).trans (by simp [go_sem])
  have z21 : w'.frozen? ⟨w.heap.size + 1 + 1, 1, none⟩ = false := (hcall.frozen (p := ⟨w.heap.size + 1 + 1, 1, none⟩) (by simp)).trans (by simp [go_sem])
  have z10 : w'.frozen? ⟨w.heap.size + 1, 0, none⟩ = false := (hcall.frozen (p := ⟨w.heap.size + 1, 0, none⟩) (by simp)).trans (by simp [go_sem])
  have z11 : w'.frozen? ⟨w.heap.size + 1, 1, none⟩ = false := (hcall.frozen (p := ⟨w.heap.size + 1, 1, none⟩) (by simp)).trans (by simp [go_sem])
  have hb' := HBQ.out.trans (hcall.mono HBQ.out.size)
  have hg' : w.heap.size + 3 ≤ g := by simpa using hg
  clear hcall hg
  go_wp2_with fail
  have c10' : (w'.setCell ⟨w.heap.size + 1 + 1, 1, none⟩ (.slice (some ⟨g, 0, none⟩) n n)).cell? ⟨w.heap.size + 1, 0, none⟩ = some (.int .i64 0) := (World.cell?_setCell_other _ _ _ _ (by simp)).trans c10
  have c11' : (w'.setCell ⟨w.heap.size + 1 + 1, 1, none⟩ (.slice (some ⟨g, 0, none⟩) n n)).cell? ⟨w.heap.size + 1, 1, none⟩ = some (.slice none 0 0) := (World.cell?_setCell_other _ _ _ _ (by simp)).trans c11
  obtain ⟨s0, s1⟩ := two_cells c10' c11'
  have ho0 := ho.mono (B' := w.heap.size + 3) (by simp)
  have ho2 := ((ho0.grownLt (g := w.heap.size + 1 + 1) (Lib.grownBy_setCell w' (w.heap.size + 1 + 1) 1 (.slice (some ⟨g, 0, none⟩) n n)) (by omega)).grownLt (g := w.heap.size + 1) (Lib.grownBy_setCell _ (w.heap.size + 1) 0 (.int .i64 p)) (by omega)).grownLt (g := w.heap.size + 1) (Lib.grownBy_setCell _ (w.heap.size + 1) 1 (.slice (some ⟨g, 0, none⟩) n n)) (by omega)
  refine bodyPost_ret (v := .agg #[.int .i64 p, .slice (some ⟨g, 0, none⟩) n n]) (by simp [results, Try.results17, go_sem, s0, s1]) rfl ?_
  refine ⟨g, by omega, by rw [HN.out], ?_, ((hb'.setCell (p := ⟨w.heap.size + 1 + 1, 1, none⟩) (by show w.heap.size ≤ w.heap.size + 1 + 1; omega) _).setCell (p := ⟨w.heap.size + 1, 0, none⟩) (by show w.heap.size ≤ w.heap.size + 1; omega) _).setCell (p := ⟨w.heap.size + 1, 1, none⟩) (by show w.heap.size ≤ w.heap.size + 1; omega) _⟩
  rw [HN.out]
  exact ho2.mono (by omega)

set_option maxHeartbeats 2000000 in
theorem eqPuzzle_any (B1 B2 : Nat) (p : Int) (v1 v2 : Value) (ds : List Kn) (w : World) (hn : ds.length ≤ 1048576) (h1 : OwnK B1 w v1 ds) (h2 : OwnK B2 w v2 ds) :
    Calls Try.prog 19 #[.agg #[.int .i64 p, v1], .agg #[.int .i64 p, v2]] w (Ret (.bool true) w) := by
  have HC := Lib.hid (fun (W : World) (hb : Below w.heap.size w W) => eqClueS_any B1 B2 v1 v2 ds W hn (h1.kept hb) (h2.kept hb))
  have hbq := ((Below.refl w.heap.size w).alloc (Nat.le_refl _) (.cells #[.int .i64 p, v1] 29)).alloc (by simp) (.cells #[.int .i64 p, v2] 29)
  have HBQ := Lib.hid hbq
  clear h1 h2 hbq
  go_enter Try.func19, Try.ntmps19
  go_wp2_with (go_at_call 56; refine (HC.out _ HBQ.out).mono ?_; rintro e w' ⟨rfl, hcall⟩)
  go_ret
  exact ⟨rfl, HBQ.out.trans (hcall.mono HBQ.out.size)⟩

set_option maxHeartbeats 2000000 in
theorem markPuzzle_some (B g c n : Nat) (p : Int) (ds : List Kn) (k : Int) (w : World) (hl : ds.length = n) (hn : n ≤ 1048576) (hk0 : 0 ≤ k) (hk1 : k ≤ 1099511627776) (hB : B ≤ w.heap.size) (h : OwnK B w (.slice (some ⟨g, 0, none⟩) n c) ds) :
    Calls Try.prog 23 #[.agg #[.int .i64 p, .slice (some ⟨g, 0, none⟩) n c], .int .i64 k] w (RetMarkK B g c n k w) := by
  have HC := Lib.hid (fun (W : World) (hb : Below w.heap.size w W) => markClueS_some B g c n ds k W hl hn hk0 hk1 (h.kept hb))
  have HBQ := Lib.hid ((Below.refl w.heap.size w).alloc (Nat.le_refl _) (.cells #[.int .i64 p, .slice (some ⟨g, 0, none⟩) n c] 29))
  have hg := h.shape.2.2.1
  clear h
  go_enter Try.func23, Try.ntmps23
  go_wp2_with (go_at_call 59; refine (HC.out _ HBQ.out).mono ?_; rintro e w' ⟨rfl, hown, hgr⟩)
  go_ret
  exact ⟨rfl, hown, grown_trans (below_grown HBQ.out _) hgr⟩
set_option maxHeartbeats 2000000 in
theorem markPuzzle_any (B : Nat) (v : Value) (p : Int) (ds : List Kn) (k : Int) (w : World) (hn : ds.length ≤ 1048576) (hk0 : 0 ≤ k) (hk1 : k ≤ 1099511627776) (h : OwnK B w v ds) :
    Calls Try.prog 23 #[.agg #[.int .i64 p, v], .int .i64 k] w (RetMarkKV B v ds.length k w) := by
  have HC := Lib.hid (fun (W : World) (hb : Below w.heap.size w W) => markClueS_any B v ds k W hn hk0 hk1 (h.kept hb))
  have HBQ := Lib.hid ((Below.refl w.heap.size w).alloc (Nat.le_refl _) (.cells #[.int .i64 p, v] 29))
  clear h
  go_enter Try.func23, Try.ntmps23
  go_wp2_with (go_at_call 59; refine (HC.out _ HBQ.out).mono ?_; rintro e w' ⟨rfl, hown, hgr⟩)
  go_ret
  exact ⟨rfl, hown, grown_trans (below_grown HBQ.out _) hgr⟩
set_option maxHeartbeats 2000000 in
theorem heldPuzzle_any (B : Nat) (v : Value) (p : Int) (ds : List Kn) (k : Int) (w : World) (hn : ds.length ≤ 1048576) (hk0 : 0 ≤ k) (hk1 : k ≤ 1099511627776) (h : OwnK B w v (marksK k ds.length)) :
    Calls Try.prog 41 #[.agg #[.int .i64 p, v], .int .i64 k] w (Ret (.int .i64 (k + 3 * ds.length)) w) := by
  have HC := Lib.hid (fun (W : World) (hb : Below w.heap.size w W) => heldClueS_any B v ds k W hn hk0 hk1 (h.kept hb))
  have HBQ := Lib.hid ((Below.refl w.heap.size w).alloc (Nat.le_refl _) (.cells #[.int .i64 p, v] 29))
  have hk3 : ¬ k + 3 * (ds.length : Int) < 0 := by omega
  clear h
  go_enter Try.func41, Try.ntmps41
  go_wp2_with (go_at_call 68; refine (HC.out _ HBQ.out).mono ?_; rintro e w' ⟨rfl, hcall⟩)
  go_ret
  exact ⟨rfl, HBQ.out.trans (hcall.mono HBQ.out.size)⟩
theorem cell_grownNe {w w' : World} {g b o : Nat} {v : Value} (hg : w.grownBy w' (some g)) (hne : b ≠ g) (h : w.cell? ⟨b, o, none⟩ = some v) : w'.cell? ⟨b, o, none⟩ = some v :=
  (World.cell?_of_block (w := w) (a := ⟨b, o, none⟩) (hg.block b (World.block_lt_of_cell? w ⟨b, o, none⟩ h) (fun e => by simp at e; omega))).trans h
theorem cell_ownAbove {B : Nat} {w w' : World} {v : Value} {zs : List Int} {b o : Nat} {u : Value} (ho : Own B w v zs) (hg : w.grownBy w' v.ownBlock) (hne : b < B) (h : w.cell? ⟨b, o, none⟩ = some u) : w'.cell? ⟨b, o, none⟩ = some u := by
  refine (World.cell?_of_block (w := w) (a := ⟨b, o, none⟩) (hg.block b (World.block_lt_of_cell? w ⟨b, o, none⟩ h) ?_)).trans h
  rcases ho.block with e | ⟨g, e, h1, _⟩
  · rw [e]; simp
  · rw [e]; simp; omega
theorem cell_ownAboveT {B : Nat} {w0 w w' : World} {v : Value} {zs : List Kn} {b o : Nat} {u : Value} (ho : OwnK B w0 v zs) (hlt : w0.heap.size ≤ b) (hg : w.grownBy w' v.ownBlock) (h : w.cell? ⟨b, o, none⟩ = some u) : w'.cell? ⟨b, o, none⟩ = some u := by
  refine (World.cell?_of_block (w := w) (a := ⟨b, o, none⟩) (hg.block b (World.block_lt_of_cell? w ⟨b, o, none⟩ h) ?_)).trans h
  rcases ho.block with e | ⟨g, e, _, h1⟩
  · rw [e]; simp
  · rw [e]; simp; omega
end Go.Proofs.Ytkkjbkagkmngkaa
