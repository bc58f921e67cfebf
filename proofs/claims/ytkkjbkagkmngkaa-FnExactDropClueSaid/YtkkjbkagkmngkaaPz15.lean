/- A puzzle without a clue: both texts. -/
import Derived.Test.YtkkjbkagkmngkaaPzHelp
import Derived.Test.YtkkjbkagkmngkaaPz12
import Derived.Test.YtkkjbkagkmngkaaPz14
import Derived.Deep.CutRange
import Derived.Deep.RegionWith
set_option linter.unusedVariables false
set_option linter.unusedSimpArgs false
namespace Go.Proofs.Ytkkjbkagkmngkaa
open Go.RowKit

def dropOk (p : Int) (ds : List Kn) (x : Int) : Bool := pzB p ds && inB x 0 ((ds.length : Int) - 1)
def dropP (p : Int) (ds : List Kn) (x : Int) : Int := if dropOk p ds x = true then p else 0
def dropL (p : Int) (ds : List Kn) (x : Int) : List Kn := if dropOk p ds x = true then ds.eraseIdx x.toNat else []
theorem own_under2K {B g : Nat} {w : World} {v v0 v1 : Value} {zs : List Kn} (h : OwnK B w v zs) (hg : g < B) : OwnK B ((w.setCell ⟨g, 0, none⟩ v0).setCell ⟨g, 1, none⟩ v1) v zs :=
  (h.grownLt (g := g) (Lib.grownBy_setCell w g 0 v0) hg).grownLt (g := g) (Lib.grownBy_setCell _ g 1 v1) hg

set_option maxHeartbeats 4000000 in
theorem imDrop_no (p x : Int) (b n c : Nat) (ds : List Kn) (w : World) (hl : ds.length = n) (hn : n ≤ 1048576) (hbl : b < w.heap.size) (hI : Kns w b 0 ds) (h : pzB p ds = false) : Calls Try.prog 40 #[.agg #[.int .i64 p, .slice (some ⟨b, 0, none⟩) n c], .int .i64 x] w (RetPB 0 [] false w) := by
  have HL := Lib.hid hl
  have HW := Lib.hid (((Below.refl w.heap.size w).alloc (Nat.le_refl _) (.cells #[.int .i64 p, .slice (some ⟨b, 0, none⟩) n c] 29)).alloc (by simp) (.cells #[.int .i64 0, .slice none 0 0] 29))
  have HG := Lib.hid (fun (W : World) (hb : Below w.heap.size w W) => isPuzzle_any p b 0 n c ds W hl hn (Nat.lt_of_lt_of_le hbl hb.size) (hI.kept hb hbl))
  rw [h] at HG
  clear hI h hl
  go_enter Try.func40, Try.ntmps40
  go_wp2_with fail
  refine (HG.out _ HW.out).mono ?_
  rintro e w1 ⟨rfl, hb1⟩
  have hb1' := HW.out.trans (hb1.mono HW.out.size)
  have q0 : w1.cell? ⟨w.heap.size, 0, none⟩ = some (.int .i64 p) := below_cell2 hb1 (by simp [go_sem])
  have q1 : w1.cell? ⟨w.heap.size, 1, none⟩ = some (.slice (some ⟨b, 0, none⟩) n c) := below_cell2 hb1 (by simp [go_sem])
  have r0 : w1.cell? ⟨w.heap.size + 1, 0, none⟩ = some (.int .i64 0) := below_cell2 hb1 (by simp [go_sem])
  have r1 : w1.cell? ⟨w.heap.size + 1, 1, none⟩ = some (.slice none 0 0) := below_cell2 hb1 (by simp [go_sem])
  have z0 : w1.frozen? ⟨w.heap.size + 1, 0, none⟩ = false := below_frz hb1 (by simp) (by simp [go_sem])
  have z1 : w1.frozen? ⟨w.heap.size + 1, 1, none⟩ = false := below_frz hb1 (by simp) (by simp [go_sem])
  have hR : w.heap.size + 1 < w1.heap.size := World.block_lt_of_cell? _ ⟨w.heap.size + 1, 0, none⟩ r0
  go_wp2_with fail
  have e0 : w1.cell? ⟨w.heap.size + 1, 0, none⟩ = some (.int .i64 0) := r0
  obtain ⟨s0, s1⟩ := two_cells r0 r1
  refine bodyPost_ret (v := .tuple #[.agg #[.int .i64 0, .slice none 0 0], .bool false]) (by simp [results, Try.results40, go_sem, s0, s1]) rfl ?_
  exact ⟨_, rfl, ownK_nil _ _, (hb1'.setCell (p := ⟨w.heap.size + 1, 0, none⟩) (by show w.heap.size ≤ w.heap.size + 1; omega) _).setCell (p := ⟨w.heap.size + 1, 1, none⟩) (by show w.heap.size ≤ w.heap.size + 1; omega) _⟩

set_option maxHeartbeats 4000000 in
theorem imDrop_out (p x : Int) (b n c : Nat) (ds : List Kn) (w : World) (hl : ds.length = n) (hn : n ≤ 1048576) (hbl : b < w.heap.size) (hI : Kns w b 0 ds) (h : pzB p ds = true) (hx : inB x 0 ((n : Int) - 1) = false) : Calls Try.prog 40 #[.agg #[.int .i64 p, .slice (some ⟨b, 0, none⟩) n c], .int .i64 x] w (RetPB 0 [] false w) := by
  have HL := Lib.hid hl
  have HW := Lib.hid (((Below.refl w.heap.size w).alloc (Nat.le_refl _) (.cells #[.int .i64 p, .slice (some ⟨b, 0, none⟩) n c] 29)).alloc (by simp) (.cells #[.int .i64 0, .slice none 0 0] 29))
  have HG := Lib.hid (fun (W : World) (hb : Below w.heap.size w W) => isPuzzle_any p b 0 n c ds W hl hn (Nat.lt_of_lt_of_le hbl hb.size) (hI.kept hb hbl))
  rw [h] at HG
  have HX := Lib.hid (fun W => isWithin_any x 0 ((n : Int) - 1) W)
  rw [hx] at HX
  have hw : IntKind.i64.wrap ((n : Int) - 1) = (n : Int) - 1 := IntWalk.i64_in _ (by omega)
  clear hI h hl hx
  go_enter Try.func40, Try.ntmps40
  go_wp2_with fail
  refine (HG.out _ HW.out).mono ?_
  rintro e w1 ⟨rfl, hb1⟩
  have hb1' := HW.out.trans (hb1.mono HW.out.size)
  have q0 : w1.cell? ⟨w.heap.size, 0, none⟩ = some (.int .i64 p) := below_cell2 hb1 (by simp [go_sem])
  have q1 : w1.cell? ⟨w.heap.size, 1, none⟩ = some (.slice (some ⟨b, 0, none⟩) n c) := below_cell2 hb1 (by simp [go_sem])
  have r0 : w1.cell? ⟨w.heap.size + 1, 0, none⟩ = some (.int .i64 0) := below_cell2 hb1 (by simp [go_sem])
  have r1 : w1.cell? ⟨w.heap.size + 1, 1, none⟩ = some (.slice none 0 0) := below_cell2 hb1 (by simp [go_sem])
  have z0 : w1.frozen? ⟨w.heap.size + 1, 0, none⟩ = false := below_frz hb1 (by simp) (by simp [go_sem])
  have z1 : w1.frozen? ⟨w.heap.size + 1, 1, none⟩ = false := below_frz hb1 (by simp) (by simp [go_sem])
  have hR : w.heap.size + 1 < w1.heap.size := World.block_lt_of_cell? _ ⟨w.heap.size + 1, 0, none⟩ r0
  go_wp2_with (go_at_call 67; refine (HX.out _).mono ?_; rintro e w' ⟨rfl, rfl⟩)
  have e0 : w1.cell? ⟨w.heap.size + 1, 0, none⟩ = some (.int .i64 0) := r0
  obtain ⟨s0, s1⟩ := two_cells r0 r1
  refine bodyPost_ret (v := .tuple #[.agg #[.int .i64 0, .slice none 0 0], .bool false]) (by simp [results, Try.results40, go_sem, s0, s1]) rfl ?_
  exact ⟨_, rfl, ownK_nil _ _, (hb1'.setCell (p := ⟨w.heap.size + 1, 0, none⟩) (by show w.heap.size ≤ w.heap.size + 1; omega) _).setCell (p := ⟨w.heap.size + 1, 1, none⟩) (by show w.heap.size ≤ w.heap.size + 1; omega) _⟩

set_option maxHeartbeats 8000000 in
theorem imDrop_yes (p : Int) (b n c k : Nat) (ds : List Kn) (w : World) (hl : ds.length = n) (hn : n ≤ 6) (hc : n ≤ c) (hk : k < n) (hbl : b < w.heap.size) (hI : Kns w b 0 ds) (h : pzB p ds = true) : Calls Try.prog 40 #[.agg #[.int .i64 p, .slice (some ⟨b, 0, none⟩) n c], .int .i64 (k : Int)] w (RetPB p (ds.eraseIdx k) true w) := by
  have HL := Lib.hid hl
  have HW := Lib.hid (((Below.refl w.heap.size w).alloc (Nat.le_refl _) (.cells #[.int .i64 p, .slice (some ⟨b, 0, none⟩) n c] 29)).alloc (by simp) (.cells #[.int .i64 0, .slice none 0 0] 29))
  have HG := Lib.hid (fun (W : World) (hb : Below w.heap.size w W) => isPuzzle_any p b 0 n c ds W hl (by omega) (Nat.lt_of_lt_of_le hbl hb.size) (hI.kept hb hbl))
  rw [h] at HG
  have HX := Lib.hid (fun W => isWithin_any (k : Int) 0 ((n : Int) - 1) W)
  rw [show inB (k : Int) 0 ((n : Int) - 1) = true from inB_true (by omega) (by omega)] at HX
  have hw : IntKind.i64.wrap ((n : Int) - 1) = (n : Int) - 1 := IntWalk.i64_in _ (by omega)
  have HC := Lib.hid (fun (W : World) (hb : Below w.heap.size w W) => withoutClue_any b n c k ds W hl (by omega) hk hc (Nat.lt_of_lt_of_le hbl hb.size) (hI.kept hb hbl))
  clear hI h hl
  go_enter Try.func40, Try.ntmps40
  go_wp2_with fail
  refine (HG.out _ HW.out).mono ?_
  rintro e w1 ⟨rfl, hb1⟩
  have hb1' := HW.out.trans (hb1.mono HW.out.size)
  have q0 : w1.cell? ⟨w.heap.size, 0, none⟩ = some (.int .i64 p) := below_cell2 hb1 (by simp [go_sem])
  have q1 : w1.cell? ⟨w.heap.size, 1, none⟩ = some (.slice (some ⟨b, 0, none⟩) n c) := below_cell2 hb1 (by simp [go_sem])
  have r0 : w1.cell? ⟨w.heap.size + 1, 0, none⟩ = some (.int .i64 0) := below_cell2 hb1 (by simp [go_sem])
  have r1 : w1.cell? ⟨w.heap.size + 1, 1, none⟩ = some (.slice none 0 0) := below_cell2 hb1 (by simp [go_sem])
  have z0 : w1.frozen? ⟨w.heap.size + 1, 0, none⟩ = false := below_frz hb1 (by simp) (by simp [go_sem])
  have z1 : w1.frozen? ⟨w.heap.size + 1, 1, none⟩ = false := below_frz hb1 (by simp) (by simp [go_sem])
  have hR : w.heap.size + 1 < w1.heap.size := World.block_lt_of_cell? _ ⟨w.heap.size + 1, 0, none⟩ r0
  go_upto_region 3 with (go_at_call 67; refine (HX.out _).mono ?_; rintro e w' ⟨rfl, rfl⟩)
  have HB1 := Lib.hid hb1'
  clear hb1
  go_region_with (go_at_call 65; refine (HC.out _ (by first | exact HB1.out | exact HB1.out.drew | exact HB1.out.drew.drew)).mono ?_; rintro e w2 ⟨v, rfl, hown, hcall⟩; obtain ⟨sa, sn, sc, rfl⟩ := ownK_slice hown; have hbw : Below w1.heap.size w1 w2 := (by first | exact hcall | exact (Below.refl _ _).drew.trans hcall | exact (Below.refl _ _).drew.drew.trans hcall); have hs2 := hbw.size; have ho2 : OwnK (w.heap.size + 2) w2 (.slice sa sn sc) (ds.eraseIdx k) := hown.mono (by show w.heap.size + 2 ≤ w1.heap.size; omega); have p0 := below_cell2 hbw q0; have p1 := below_cell2 hbw q1; have t0 := below_cell2 hbw r0; have t1 := below_cell2 hbw r1; have y0 := below_frz hbw hR z0; have y1 := below_frz hbw hR z1; clear hcall hown)
  all_goals
    go_wp2_with fail
    have hb2' := HB1.out.trans (hbw.mono HB1.out.size)
    obtain ⟨s0, s1⟩ := two_cells t0 t1
    have ho3 := own_under2K (v0 := .int .i64 p) (v1 := .slice sa sn sc) ho2 (g := w.heap.size + 1) (by omega)
    refine bodyPost_ret (v := .tuple #[.agg #[.int .i64 p, .slice sa sn sc], .bool true]) (by simp [results, Try.results40, go_sem, s0, s1]) rfl ?_
    first
      | exact ⟨_, rfl, ho3.mono (by omega), (hb2'.setCell (p := ⟨w.heap.size + 1, 0, none⟩) (by show w.heap.size ≤ w.heap.size + 1; omega) _).setCell (p := ⟨w.heap.size + 1, 1, none⟩) (by show w.heap.size ≤ w.heap.size + 1; omega) _⟩
      | exact ⟨_, rfl, (ho3.kept (Below.refl _ _).drew).mono (by omega), ((hb2'.setCell (p := ⟨w.heap.size + 1, 0, none⟩) (by show w.heap.size ≤ w.heap.size + 1; omega) _).setCell (p := ⟨w.heap.size + 1, 1, none⟩) (by show w.heap.size ≤ w.heap.size + 1; omega) _).drew⟩

theorem imDrop_any (p x : Int) (b c : Nat) (ds : List Kn) (w : World) (hn : ds.length ≤ 1048576) (hc : ds.length ≤ c) (hbl : b < w.heap.size) (hI : Kns w b 0 ds) :
    Calls Try.prog 40 #[.agg #[.int .i64 p, .slice (some ⟨b, 0, none⟩) ds.length c], .int .i64 x] w (RetPB (dropP p ds x) (dropL p ds x) (dropOk p ds x) w) := by
  cases h : dropOk p ds x with
  | false =>
    rw [show dropP p ds x = 0 by unfold dropP; rw [if_neg (by rw [h]; simp)], show dropL p ds x = [] by unfold dropL; rw [if_neg (by rw [h]; simp)]]
    unfold dropOk at h
    cases h1 : pzB p ds with
    | false => exact imDrop_no p x b _ c ds w rfl hn hbl hI h1
    | true =>
      rw [h1, Bool.true_and] at h
      exact imDrop_out p x b _ c ds w rfl hn hbl hI h1 h
  | true =>
    rw [show dropP p ds x = p by unfold dropP; rw [if_pos h], show dropL p ds x = ds.eraseIdx x.toNat by unfold dropL; rw [if_pos h]]
    unfold dropOk at h
    rw [Bool.and_eq_true, inB_iff] at h
    obtain ⟨_, _, _, h6, _⟩ := pz_of h.1
    have := imDrop_yes p b _ c x.toNat ds w rfl (by omega) hc (by omega) hbl hI h.1
    rwa [Int.toNat_of_nonneg h.2.1] at this

set_option maxHeartbeats 4000000 in
theorem spDrop_no (p x : Int) (b n c : Nat) (ds : List Kn) (w : World) (hl : ds.length = n) (hn : n ≤ 1048576) (hbl : b < w.heap.size) (hI : Kns w b 0 ds) (h : pzB p ds = false) : Calls Try.prog 39 #[.agg #[.int .i64 p, .slice (some ⟨b, 0, none⟩) n c], .int .i64 x] w (RetPB 0 [] false w) := by
  have HL := Lib.hid hl
  have HW := Lib.hid (((Below.refl w.heap.size w).alloc (Nat.le_refl _) (.cells #[.int .i64 p, .slice (some ⟨b, 0, none⟩) n c] 29)).alloc (by simp) (.cells #[.int .i64 0, .slice none 0 0] 29))
  have HG := Lib.hid (fun (W : World) (hb : Below w.heap.size w W) => pzGood_any p b 0 n c ds W hl hn (Nat.lt_of_lt_of_le hbl hb.size) (hI.kept hb hbl))
  rw [h] at HG
  clear hI h hl
  go_enter Try.func39, Try.ntmps39
  go_wp2_with fail
  refine (HG.out _ HW.out).mono ?_
  rintro e w1 ⟨rfl, hb1⟩
  have hb1' := HW.out.trans (hb1.mono HW.out.size)
  have q0 : w1.cell? ⟨w.heap.size, 0, none⟩ = some (.int .i64 p) := below_cell2 hb1 (by simp [go_sem])
  have q1 : w1.cell? ⟨w.heap.size, 1, none⟩ = some (.slice (some ⟨b, 0, none⟩) n c) := below_cell2 hb1 (by simp [go_sem])
  have r0 : w1.cell? ⟨w.heap.size + 1, 0, none⟩ = some (.int .i64 0) := below_cell2 hb1 (by simp [go_sem])
  have r1 : w1.cell? ⟨w.heap.size + 1, 1, none⟩ = some (.slice none 0 0) := below_cell2 hb1 (by simp [go_sem])
  have z0 : w1.frozen? ⟨w.heap.size + 1, 0, none⟩ = false := below_frz hb1 (by simp) (by simp [go_sem])
  have z1 : w1.frozen? ⟨w.heap.size + 1, 1, none⟩ = false := below_frz hb1 (by simp) (by simp [go_sem])
  have hR : w.heap.size + 1 < w1.heap.size := World.block_lt_of_cell? _ ⟨w.heap.size + 1, 0, none⟩ r0
  go_wp2_with fail
  have e0 : w1.cell? ⟨w.heap.size + 1, 0, none⟩ = some (.int .i64 0) := r0
  obtain ⟨s0, s1⟩ := two_cells r0 r1
  refine bodyPost_ret (v := .tuple #[.agg #[.int .i64 0, .slice none 0 0], .bool false]) (by simp [results, Try.results39, go_sem, s0, s1]) rfl ?_
  exact ⟨_, rfl, ownK_nil _ _, (hb1'.setCell (p := ⟨w.heap.size + 1, 0, none⟩) (by show w.heap.size ≤ w.heap.size + 1; omega) _).setCell (p := ⟨w.heap.size + 1, 1, none⟩) (by show w.heap.size ≤ w.heap.size + 1; omega) _⟩

set_option maxHeartbeats 4000000 in
theorem spDrop_out (p x : Int) (b n c : Nat) (ds : List Kn) (w : World) (hl : ds.length = n) (hn : n ≤ 1048576) (hbl : b < w.heap.size) (hI : Kns w b 0 ds) (h : pzB p ds = true) (hx : inB x 0 ((n : Int) - 1) = false) : Calls Try.prog 39 #[.agg #[.int .i64 p, .slice (some ⟨b, 0, none⟩) n c], .int .i64 x] w (RetPB 0 [] false w) := by
  have HL := Lib.hid hl
  have HW := Lib.hid (((Below.refl w.heap.size w).alloc (Nat.le_refl _) (.cells #[.int .i64 p, .slice (some ⟨b, 0, none⟩) n c] 29)).alloc (by simp) (.cells #[.int .i64 0, .slice none 0 0] 29))
  have HG := Lib.hid (fun (W : World) (hb : Below w.heap.size w W) => pzGood_any p b 0 n c ds W hl hn (Nat.lt_of_lt_of_le hbl hb.size) (hI.kept hb hbl))
  rw [h] at HG
  have HX := Lib.hid (fun W => l1In_any x 0 ((n : Int) - 1) W)
  rw [hx] at HX
  have hw : IntKind.i64.wrap ((n : Int) - 1) = (n : Int) - 1 := IntWalk.i64_in _ (by omega)
  clear hI h hl hx
  go_enter Try.func39, Try.ntmps39
  go_wp2_with fail
  refine (HG.out _ HW.out).mono ?_
  rintro e w1 ⟨rfl, hb1⟩
  have hb1' := HW.out.trans (hb1.mono HW.out.size)
  have q0 : w1.cell? ⟨w.heap.size, 0, none⟩ = some (.int .i64 p) := below_cell2 hb1 (by simp [go_sem])
  have q1 : w1.cell? ⟨w.heap.size, 1, none⟩ = some (.slice (some ⟨b, 0, none⟩) n c) := below_cell2 hb1 (by simp [go_sem])
  have r0 : w1.cell? ⟨w.heap.size + 1, 0, none⟩ = some (.int .i64 0) := below_cell2 hb1 (by simp [go_sem])
  have r1 : w1.cell? ⟨w.heap.size + 1, 1, none⟩ = some (.slice none 0 0) := below_cell2 hb1 (by simp [go_sem])
  have z0 : w1.frozen? ⟨w.heap.size + 1, 0, none⟩ = false := below_frz hb1 (by simp) (by simp [go_sem])
  have z1 : w1.frozen? ⟨w.heap.size + 1, 1, none⟩ = false := below_frz hb1 (by simp) (by simp [go_sem])
  have hR : w.heap.size + 1 < w1.heap.size := World.block_lt_of_cell? _ ⟨w.heap.size + 1, 0, none⟩ r0
  go_wp2_with (go_at_call 66; refine (HX.out _).mono ?_; rintro e w' ⟨rfl, rfl⟩)
  have e0 : w1.cell? ⟨w.heap.size + 1, 0, none⟩ = some (.int .i64 0) := r0
  obtain ⟨s0, s1⟩ := two_cells r0 r1
  refine bodyPost_ret (v := .tuple #[.agg #[.int .i64 0, .slice none 0 0], .bool false]) (by simp [results, Try.results39, go_sem, s0, s1]) rfl ?_
  exact ⟨_, rfl, ownK_nil _ _, (hb1'.setCell (p := ⟨w.heap.size + 1, 0, none⟩) (by show w.heap.size ≤ w.heap.size + 1; omega) _).setCell (p := ⟨w.heap.size + 1, 1, none⟩) (by show w.heap.size ≤ w.heap.size + 1; omega) _⟩

set_option maxHeartbeats 8000000 in
theorem spDrop_yes (p : Int) (b n c k : Nat) (ds : List Kn) (w : World) (hl : ds.length = n) (hn : n ≤ 6) (hc : n ≤ c) (hk : k < n) (hbl : b < w.heap.size) (hI : Kns w b 0 ds) (h : pzB p ds = true) : Calls Try.prog 39 #[.agg #[.int .i64 p, .slice (some ⟨b, 0, none⟩) n c], .int .i64 (k : Int)] w (RetPB p (ds.eraseIdx k) true w) := by
  have HL := Lib.hid hl
  have HW := Lib.hid (((Below.refl w.heap.size w).alloc (Nat.le_refl _) (.cells #[.int .i64 p, .slice (some ⟨b, 0, none⟩) n c] 29)).alloc (by simp) (.cells #[.int .i64 0, .slice none 0 0] 29))
  have HG := Lib.hid (fun (W : World) (hb : Below w.heap.size w W) => pzGood_any p b 0 n c ds W hl (by omega) (Nat.lt_of_lt_of_le hbl hb.size) (hI.kept hb hbl))
  rw [h] at HG
  have HX := Lib.hid (fun W => l1In_any (k : Int) 0 ((n : Int) - 1) W)
  rw [show inB (k : Int) 0 ((n : Int) - 1) = true from inB_true (by omega) (by omega)] at HX
  have hw : IntKind.i64.wrap ((n : Int) - 1) = (n : Int) - 1 := IntWalk.i64_in _ (by omega)
  have HC := Lib.hid (fun (W : World) (hb : Below w.heap.size w W) => pzWithout_any b n c k ds W hl (by omega) hk hc (Nat.lt_of_lt_of_le hbl hb.size) (hI.kept hb hbl))
  clear hI h hl
  go_enter Try.func39, Try.ntmps39
  go_wp2_with fail
  refine (HG.out _ HW.out).mono ?_
  rintro e w1 ⟨rfl, hb1⟩
  have hb1' := HW.out.trans (hb1.mono HW.out.size)
  have q0 : w1.cell? ⟨w.heap.size, 0, none⟩ = some (.int .i64 p) := below_cell2 hb1 (by simp [go_sem])
  have q1 : w1.cell? ⟨w.heap.size, 1, none⟩ = some (.slice (some ⟨b, 0, none⟩) n c) := below_cell2 hb1 (by simp [go_sem])
  have r0 : w1.cell? ⟨w.heap.size + 1, 0, none⟩ = some (.int .i64 0) := below_cell2 hb1 (by simp [go_sem])
  have r1 : w1.cell? ⟨w.heap.size + 1, 1, none⟩ = some (.slice none 0 0) := below_cell2 hb1 (by simp [go_sem])
  have z0 : w1.frozen? ⟨w.heap.size + 1, 0, none⟩ = false := below_frz hb1 (by simp) (by simp [go_sem])
  have z1 : w1.frozen? ⟨w.heap.size + 1, 1, none⟩ = false := below_frz hb1 (by simp) (by simp [go_sem])
  have hR : w.heap.size + 1 < w1.heap.size := World.block_lt_of_cell? _ ⟨w.heap.size + 1, 0, none⟩ r0
  go_upto_region 3 with (go_at_call 66; refine (HX.out _).mono ?_; rintro e w' ⟨rfl, rfl⟩)
  have HB1 := Lib.hid hb1'
  clear hb1
  go_region_with (go_at_call 63; refine (HC.out _ (by first | exact HB1.out | exact HB1.out.drew | exact HB1.out.drew.drew)).mono ?_; rintro e w2 ⟨v, rfl, hown, hcall⟩; obtain ⟨sa, sn, sc, rfl⟩ := ownK_slice hown; have hbw : Below w1.heap.size w1 w2 := (by first | exact hcall | exact (Below.refl _ _).drew.trans hcall | exact (Below.refl _ _).drew.drew.trans hcall); have hs2 := hbw.size; have ho2 : OwnK (w.heap.size + 2) w2 (.slice sa sn sc) (ds.eraseIdx k) := hown.mono (by show w.heap.size + 2 ≤ w1.heap.size; omega); have p0 := below_cell2 hbw q0; have p1 := below_cell2 hbw q1; have t0 := below_cell2 hbw r0; have t1 := below_cell2 hbw r1; have y0 := below_frz hbw hR z0; have y1 := below_frz hbw hR z1; clear hcall hown)
  all_goals
    go_wp2_with fail
    have hb2' := HB1.out.trans (hbw.mono HB1.out.size)
    obtain ⟨s0, s1⟩ := two_cells t0 t1
    have ho3 := own_under2K (v0 := .int .i64 p) (v1 := .slice sa sn sc) ho2 (g := w.heap.size + 1) (by omega)
    refine bodyPost_ret (v := .tuple #[.agg #[.int .i64 p, .slice sa sn sc], .bool true]) (by simp [results, Try.results39, go_sem, s0, s1]) rfl ?_
    first
      | exact ⟨_, rfl, ho3.mono (by omega), (hb2'.setCell (p := ⟨w.heap.size + 1, 0, none⟩) (by show w.heap.size ≤ w.heap.size + 1; omega) _).setCell (p := ⟨w.heap.size + 1, 1, none⟩) (by show w.heap.size ≤ w.heap.size + 1; omega) _⟩
      | exact ⟨_, rfl, (ho3.kept (Below.refl _ _).drew).mono (by omega), ((hb2'.setCell (p := ⟨w.heap.size + 1, 0, none⟩) (by show w.heap.size ≤ w.heap.size + 1; omega) _).setCell (p := ⟨w.heap.size + 1, 1, none⟩) (by show w.heap.size ≤ w.heap.size + 1; omega) _).drew⟩

theorem spDrop_any (p x : Int) (b c : Nat) (ds : List Kn) (w : World) (hn : ds.length ≤ 1048576) (hc : ds.length ≤ c) (hbl : b < w.heap.size) (hI : Kns w b 0 ds) :
    Calls Try.prog 39 #[.agg #[.int .i64 p, .slice (some ⟨b, 0, none⟩) ds.length c], .int .i64 x] w (RetPB (dropP p ds x) (dropL p ds x) (dropOk p ds x) w) := by
  cases h : dropOk p ds x with
  | false =>
    rw [show dropP p ds x = 0 by unfold dropP; rw [if_neg (by rw [h]; simp)], show dropL p ds x = [] by unfold dropL; rw [if_neg (by rw [h]; simp)]]
    unfold dropOk at h
    cases h1 : pzB p ds with
    | false => exact spDrop_no p x b _ c ds w rfl hn hbl hI h1
    | true =>
      rw [h1, Bool.true_and] at h
      exact spDrop_out p x b _ c ds w rfl hn hbl hI h1 h
  | true =>
    rw [show dropP p ds x = p by unfold dropP; rw [if_pos h], show dropL p ds x = ds.eraseIdx x.toNat by unfold dropL; rw [if_pos h]]
    unfold dropOk at h
    rw [Bool.and_eq_true, inB_iff] at h
    obtain ⟨_, _, _, h6, _⟩ := pz_of h.1
    have := spDrop_yes p b _ c x.toNat ds w rfl (by omega) hc (by omega) hbl hI h.1
    rwa [Int.toNat_of_nonneg h.2.1] at this

theorem dropL_le (p : Int) (ds : List Kn) (x : Int) : (dropL p ds x).length ≤ 1048576 := by
  unfold dropL
  split
  · rename_i h
    unfold dropOk at h
    rw [Bool.and_eq_true] at h
    obtain ⟨_, _, _, h6, _⟩ := pz_of h.1
    have := List.length_eraseIdx_le ds x.toNat
    omega
  · simp
theorem dropClue_both (p : Int) (ds : List Kn) (x : Int) : ∃ rp rs ok, rs.length ≤ 1048576 ∧
    (∀ b c w, ds.length ≤ 1048576 → ds.length ≤ c → b < w.heap.size → Kns w b 0 ds → Calls Try.prog 39 #[.agg #[.int .i64 p, .slice (some ⟨b, 0, none⟩) ds.length c], .int .i64 x] w (RetPB rp rs ok w)) ∧
    (∀ b c w, ds.length ≤ 1048576 → ds.length ≤ c → b < w.heap.size → Kns w b 0 ds → Calls Try.prog 40 #[.agg #[.int .i64 p, .slice (some ⟨b, 0, none⟩) ds.length c], .int .i64 x] w (RetPB rp rs ok w)) :=
  ⟨_, _, _, dropL_le p ds x, fun b c w hn hc hb hI => spDrop_any p x b c ds w hn hc hb hI, fun b c w hn hc hb hI => imDrop_any p x b c ds w hn hc hb hI⟩
end Go.Proofs.Ytkkjbkagkmngkaa
