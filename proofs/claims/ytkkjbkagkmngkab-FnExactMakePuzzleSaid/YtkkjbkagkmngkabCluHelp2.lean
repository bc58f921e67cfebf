/- The statements' own helpers on slices of kin: comparing, marking and checking. -/
import Derived.Test.YtkkjbkagkmngkabCluHelp
set_option linter.unusedVariables false
set_option linter.unusedSimpArgs false
namespace Go.Proofs.Ytkkjbkagkmngkab
open Go.RowKit

set_option maxHeartbeats 2000000 in
theorem eqClueS_same (g1 c1 g2 c2 n : Nat) (ds : List Kn) (w : World) (hl : ds.length = n) (hn : n ≤ 1048576) (h1 : Kns w g1 0 ds) (h2 : Kns w g2 0 ds) (hb1 : g1 < w.heap.size) (hb2 : g2 < w.heap.size) :
    Calls Try.prog 28 #[.slice (some ⟨g1, 0, none⟩) n c1, .slice (some ⟨g2, 0, none⟩) n c2] w (Ret (.bool true) w) := by
  have HL := Lib.hid hl
  clear hl
  go_enter Try.func28, Try.ntmps28
  go_wp2_with fail
  go_loopw [5] (fun v wr => ∃ k : Nat, k ≤ n ∧ v = .int .i64 k ∧ Below w.heap.size w wr) (fun v _ => n - (intOf v).toNat)
  case atStart => exact ⟨0, Nat.zero_le _, rfl, Below.refl _ _⟩
  case round =>
    obtain ⟨k, hk, rfl, hb⟩ := hrel
    by_cases hlt : k < n
    · have a1 := (h1.kept hb hb1) k (by rw [HL.out]; exact hlt)
      have a2 := (h2.kept hb hb2) k (by rw [HL.out]; exact hlt)
      rw [Nat.zero_add] at a1 a2
      obtain ⟨p1, p2, p3⟩ := a1
      obtain ⟨q1, q2, q3⟩ := a2
      generalize (at3 ds k).1 = y at p1 q1
      generalize (at3 ds k).2.1 = d at p2 q2
      generalize (at3 ds k).2.2 = o at p3 q3
      have hi0 : (0 : Int) ≤ (k : Int) := by omega
      have hi1 : (k : Int) < (n : Int) := by omega
      have hbd : Below w.heap.size w wr.drew := hb.drew
      go_wp2_with fail
      go_region_held3 (fun w' => Below w.heap.size w w' ∧ w'.cell? ⟨g1, k * 3, none⟩ = some (.int .i64 y) ∧ w'.cell? ⟨g1, k * 3 + 1, none⟩ = some (.int .i64 d) ∧ w'.cell? ⟨g1, k * 3 + 2, none⟩ = some (.int .i64 o) ∧ w'.cell? ⟨g2, k * 3, none⟩ = some (.int .i64 y) ∧ w'.cell? ⟨g2, k * 3 + 1, none⟩ = some (.int .i64 d) ∧ w'.cell? ⟨g2, k * 3 + 2, none⟩ = some (.int .i64 o))
        (first
          | go_keep
          | (go_split_ands
             refine ⟨?_, ?_, ?_, ?_, ?_, ?_, ?_⟩
             · exact Below.trans (by assumption) (Below.mono hcall (Below.size (by assumption)))
             · exact below_cell2 hcall (by assumption)
             · exact below_cell2 hcall (by assumption)
             · exact below_cell2 hcall (by assumption)
             · exact below_cell2 hcall (by assumption)
             · exact below_cell2 hcall (by assumption)
             · exact below_cell2 hcall (by assumption)))
        (first | (go_at_call 42; refine (eqClue_same y d o _).mono ?_; rintro e w' ⟨rfl, hcall⟩))
      obtain ⟨hbf, _⟩ := ‹Below w.heap.size w _ ∧ _›
      go_wp2_with fail
      go_roundw
      case rel => exact ⟨k + 1, by omega, by go_num, hbf⟩
      case measure => simp [intOf]; omega
    · go_wp2_with fail
      go_ret
      exact ⟨rfl, hb⟩
theorem eqClueS_empty (a1 a2 : Option Addr) (c1 c2 : Nat) (w : World) :
    Calls Try.prog 28 #[.slice a1 0 c1, .slice a2 0 c2] w (Ret (.bool true) w) := by
  go_enter Try.func28, Try.ntmps28
  go_wp2
  go_rounds 1
  go_ret
  exact ⟨rfl, Below.refl _ _⟩
theorem eqClueS_any (B1 B2 : Nat) (v1 v2 : Value) (ds : List Kn) (w : World) (hn : ds.length ≤ 1048576) (h1 : OwnK B1 w v1 ds) (h2 : OwnK B2 w v2 ds) :
    Calls Try.prog 28 #[v1, v2] w (Ret (.bool true) w) := by
  rcases h1.cases with ⟨rfl, rfl⟩ | ⟨g1, c1, rfl, _, l1, _, _, i1, _⟩
  · rcases h2.cases with ⟨rfl, _⟩ | ⟨g2, c2, rfl, _, l2, _, _, i2, _⟩
    · exact eqClueS_empty _ _ _ _ _
    · exact eqClueS_empty _ _ _ _ _
  · rcases h2.cases with ⟨rfl, rfl⟩ | ⟨g2, c2, rfl, _, l2, _, _, i2, _⟩
    · exact eqClueS_empty _ _ _ _ _
    · exact eqClueS_same _ _ _ _ _ ds _ rfl hn i1 i2 l1 l2

/-- Kin that are marks: k, k + 1 and k + 2, .. -/
def marksK (k : Int) (n : Nat) : List Kn := (List.range n).map fun (j : Nat) => (k + 3 * (j : Int), k + 3 * (j : Int) + 1, k + 3 * (j : Int) + 2)
theorem marksK_length (k : Int) (n : Nat) : (marksK k n).length = n := by simp [marksK]
theorem marksK_at (k : Int) (n j : Nat) (hj : j < n) : at3 (marksK k n) j = (k + 3 * (j : Int), k + 3 * (j : Int) + 1, k + 3 * (j : Int) + 2) := by
  simp [at3, marksK, List.getElem?_map, List.getElem?_range hj]
/-- A call marked the kin of block g. -/
def RetMarkK (B g c n : Nat) (k : Int) (w : World) (e : Ending) (w' : World) : Prop :=
  e = .returned (.int .i64 (k + 3 * n)) ∧ OwnK B w' (.slice (some ⟨g, 0, none⟩) n c) (marksK k n) ∧ w.grownBy w' (some g)
def RetMarkKV (B : Nat) (v : Value) (n : Nat) (k : Int) (w : World) (e : Ending) (w' : World) : Prop :=
  e = .returned (.int .i64 (k + 3 * n)) ∧ OwnK B w' v (marksK k n) ∧ w.grownBy w' v.ownBlock
theorem grown_trans {w w1 w2 : World} {g : Option Nat} (h : w.grownBy w1 g) (k : w1.grownBy w2 g) : w.grownBy w2 g :=
  ⟨k.os.trans h.os, k.tape.trans h.tape, k.output.trans h.output, Nat.le_trans h.size k.size, fun i hi hne => (k.block i (Nat.lt_of_lt_of_le hi h.size) hne).trans (h.block i hi hne)⟩
set_option maxHeartbeats 2000000 in
theorem markClueS_some (B g c n : Nat) (ds : List Kn) (k : Int) (w : World) (hl : ds.length = n) (hn : n ≤ 1048576) (hk0 : 0 ≤ k) (hk1 : k ≤ 1099511627776) (h : OwnK B w (.slice (some ⟨g, 0, none⟩) n c) ds) :
    Calls Try.prog 29 #[.slice (some ⟨g, 0, none⟩) n c, .int .i64 k] w (RetMarkK B g c n k w) := by
  subst hl
  generalize hn0 : ds.length = n at hn h ⊢
  have HN := Lib.hid hn0
  have h' : w.ownsRow B 27 3 (.slice (some ⟨g, 0, none⟩) n c) n (flatK ds) := by
    have := h
    unfold OwnK at this
    rw [hn0] at this
    exact this
  clear hn0 h
  go_enter Try.func29, Try.ntmps29
  go_wp2_with fail
  go_loopw [1, 5] (fun q v wr => ∃ (j : Nat) (xs : List Value), j ≤ n ∧ v = .int .i64 j ∧ q = .int .i64 (k + 3 * j) ∧ wr.ownsRow B 27 3 (.slice (some ⟨g, 0, none⟩) n c) n xs ∧ KnTo (marksK k n) j xs ∧ w.grownBy wr (some g)) (fun _ v _ => n - (intOf v).toNat)
  case atStart => exact ⟨0, _, Nat.zero_le _, rfl, by go_num, h', knTo_zero _ _, World.grownBy.refl _ _⟩
  case round =>
    obtain ⟨j, xs, hj, rfl, rfl, hr, hx, hg⟩ := hrel
    have hxl : xs.length = n * 3 := hr.1
    have HX := Lib.hid hx
    clear hx
    by_cases hlt : j < n
    · obtain ⟨u0, hu0⟩ : ∃ u, xs[j * 3]? = some u := ⟨_, List.getElem?_eq_getElem (by omega)⟩
      obtain ⟨u1, hu1⟩ : ∃ u, xs[j * 3 + 1]? = some u := ⟨_, List.getElem?_eq_getElem (by omega)⟩
      obtain ⟨u2, hu2⟩ : ∃ u, xs[j * 3 + 2]? = some u := ⟨_, List.getElem?_eq_getElem (by omega)⟩
      have hd0 := (World.ownsRow.cellAt hr (j * 3) (by omega)).trans hu0
      have hd1 := (World.ownsRow.cellAt hr (j * 3 + 1) (by omega)).trans hu1
      have hd2 := (World.ownsRow.cellAt hr (j * 3 + 2) (by omega)).trans hu2
      have hf0 := World.ownsRow.frozenAt hr (j * 3)
      have hf1 := World.ownsRow.frozenAt hr (j * 3 + 1)
      have hf2 := World.ownsRow.frozenAt hr (j * 3 + 2)
      have hs1 := World.ownsRow.stored hr (j * 3) (.int .i64 (k + 3 * j))
      have hs2 := World.ownsRow.stored hs1.1 (j * 3 + 1) (.int .i64 (k + 3 * j + 1))
      have HS1 := Lib.hid hs1
      have HS2 := Lib.hid hs2
      have HS3 := Lib.hid (World.ownsRow.stored hs2.1 (j * 3 + 2) (.int .i64 (k + 3 * j + 2)))
      have hp := knTo_step HX.out (show j * 3 + 2 < xs.length by omega)
      rw [marksK_at k n j hlt] at hp
      have HP := Lib.hid hp
      clear hu0 hu1 hu2 hs1 hs2 hxl hp hr
      have e1 : k + 3 * (j : Int) + 1 + 1 = k + 3 * j + 2 := by omega
      go_wp2_with fail
      go_roundw
      case rel => exact ⟨j + 1, _, by omega, by go_num, by go_num, HS3.out.1, HP.out, grown_trans hg (grown_trans (grown_trans HS1.out.2 HS2.out.2) HS3.out.2)⟩
      case measure => simp [intOf]; omega
    · have hkn : j = n := by omega
      subst hkn
      go_wp2_with fail
      go_ret
      exact ⟨rfl, ownK_of (marksK_length _ _) hr HX.out, hg⟩

set_option maxHeartbeats 2000000 in
theorem heldClueS_some (B g c n : Nat) (k : Int) (w : World) (hn : n ≤ 1048576) (hk0 : 0 ≤ k) (hk1 : k ≤ 1099511627776) (h : OwnK B w (.slice (some ⟨g, 0, none⟩) n c) (marksK k n)) :
    Calls Try.prog 30 #[.slice (some ⟨g, 0, none⟩) n c, .int .i64 k] w (Ret (.int .i64 (k + 3 * n)) w) := by
  have hI := h.shape.2.2.2.2.1
  go_enter Try.func30, Try.ntmps30
  go_wp2_with fail
  go_loop [1, 5] (fun q v => ∃ j : Nat, j ≤ n ∧ v = .int .i64 j ∧ q = .int .i64 (k + 3 * j)) (fun _ v => n - (intOf v).toNat)
  case atStart => exact ⟨0, Nat.zero_le _, rfl, by go_num⟩
  case round =>
    obtain ⟨j, hj, rfl, rfl⟩ := hrel
    by_cases hlt : j < n
    · have hc := hI j (by rw [marksK_length]; exact hlt)
      rw [marksK_at k n j hlt, Nat.zero_add] at hc
      obtain ⟨c0, c1, c2⟩ := hc
      simp only at c0 c1 c2
      have e1 : k + 3 * (j : Int) + 1 + 1 = k + 3 * j + 2 := by omega
      go_wp2_with fail
      go_round
      case rel => exact ⟨j + 1, by omega, by go_num, by go_num⟩
      case measure => simp [intOf]; omega
    · have hkn : j = n := by omega
      subst hkn
      go_wp2_with fail
      go_ret
      exact ⟨rfl, Below.refl _ _⟩
theorem markClueS_nil (k : Int) (w : World) :
    Calls Try.prog 29 #[.slice none 0 0, .int .i64 k] w (Ret (.int .i64 k) w) := by
  go_enter Try.func29, Try.ntmps29
  go_wp2
  go_rounds 1
  go_ret
  exact ⟨rfl, Below.refl _ _⟩
theorem heldClueS_nil (k : Int) (w : World) :
    Calls Try.prog 30 #[.slice none 0 0, .int .i64 k] w (Ret (.int .i64 k) w) := by
  go_enter Try.func30, Try.ntmps30
  go_wp2
  go_rounds 1
  go_ret
  exact ⟨rfl, Below.refl _ _⟩
theorem markClueS_any (B : Nat) (v : Value) (zs : List Kn) (k : Int) (w : World) (hn : zs.length ≤ 1048576) (hk0 : 0 ≤ k) (hk1 : k ≤ 1099511627776) (h : OwnK B w v zs) :
    Calls Try.prog 29 #[v, .int .i64 k] w (RetMarkKV B v zs.length k w) := by
  rcases h.cases with ⟨rfl, rfl⟩ | ⟨g, c, rfl, _⟩
  · refine (markClueS_nil k w).mono ?_
    rintro e w' ⟨rfl, hb⟩
    exact ⟨by simp, ownK_nil _ _, below_grown hb _⟩
  · exact markClueS_some B g c _ zs k w rfl hn hk0 hk1 h
theorem heldClueS_any (B : Nat) (v : Value) (zs : List Kn) (k : Int) (w : World) (hn : zs.length ≤ 1048576) (hk0 : 0 ≤ k) (hk1 : k ≤ 1099511627776) (h : OwnK B w v (marksK k zs.length)) :
    Calls Try.prog 30 #[v, .int .i64 k] w (Ret (.int .i64 (k + 3 * zs.length)) w) := by
  rcases h.cases with ⟨rfl, h0⟩ | ⟨g, c, rfl, _⟩
  · have h1 : zs.length = 0 := by have := congrArg List.length h0; rw [marksK_length] at this; exact this
    rw [h1]
    refine (heldClueS_nil k w).mono ?_
    rintro e w' ⟨rfl, hb⟩
    exact ⟨by simp, hb⟩
  · rw [marksK_length] at h ⊢
    exact heldClueS_some B g c _ k w hn hk0 hk1 h
/-- A cell below a block that alone may have been written. -/
theorem cell_grown {w w' : World} {g b o : Nat} {v : Value} (hg : w.grownBy w' (some g)) (hne : b < g) (h : w.cell? ⟨b, o, none⟩ = some v) : w'.cell? ⟨b, o, none⟩ = some v :=
  (World.cell?_of_block (w := w) (a := ⟨b, o, none⟩) (hg.block b (World.block_lt_of_cell? w _ h) (fun e => by simp at e; omega))).trans h
theorem cell_ownAboveK {B : Nat} {w w' : World} {v : Value} {zs : List Kn} {b o : Nat} {u : Value} (ho : OwnK B w v zs) (hg : w.grownBy w' v.ownBlock) (hne : b < B) (h : w.cell? ⟨b, o, none⟩ = some u) : w'.cell? ⟨b, o, none⟩ = some u := by
  refine (World.cell?_of_block (w := w) (a := ⟨b, o, none⟩) (hg.block b (World.block_lt_of_cell? w _ h) ?_)).trans h
  rcases ho.block with e | ⟨g, e, h1, _⟩
  · rw [e]; simp
  · rw [e]; simp; omega
end Go.Proofs.Ytkkjbkagkmngkab
