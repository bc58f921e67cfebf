/- The statements' own helpers on slices of dates: comparing, marking and checking. -/
import Derived.Test.YtmidobhfahpkcaaRatHelp
set_option linter.unusedVariables false
set_option linter.unusedSimpArgs false
namespace Go.Proofs.Ytmidobhfahpkcaa
open Go.RowKit

theorem below_dts {w w' : World} {a b : Nat} {x y : Value} (h : Below w.heap.size w w') (h1 : w.cell? ⟨a, b, none⟩ = some x) : w'.cell? ⟨a, b, none⟩ = some x :=
  (h.cell (p := ⟨a, b, none⟩) (World.block_lt_of_cell? w _ h1)).trans h1
set_option maxHeartbeats 2000000 in
theorem eqDateS_same (g1 c1 g2 c2 n : Nat) (ds : List Dt) (w : World) (hl : ds.length = n) (hn : n ≤ 1048576) (h1 : Dts w g1 0 ds) (h2 : Dts w g2 0 ds) (hb1 : g1 < w.heap.size) (hb2 : g2 < w.heap.size) :
    Calls Try.prog 37 #[.slice (some ⟨g1, 0, none⟩) n c1, .slice (some ⟨g2, 0, none⟩) n c2] w (Ret (.bool true) w) := by
  have HL := Lib.hid hl
  clear hl
  go_enter Try.func37, Try.ntmps37
  go_wp2_with fail
  go_loopw [5] (fun v wr => ∃ k : Nat, k ≤ n ∧ v = .int .i64 k ∧ Below w.heap.size w wr) (fun v _ => n - (intOf v).toNat)
  case atStart => exact ⟨0, Nat.zero_le _, rfl, Below.refl _ _⟩
  case round =>
    obtain ⟨k, hk, rfl, hb⟩ := hrel
    by_cases hlt : k < n
    · have a1 := (h1.kept hb hb1) k (by rw [HL.out]; exact hlt)
      have a2 := (h2.kept hb hb2) k (by rw [HL.out]; exact hlt)
      rw [Nat.zero_add] at a1 a2
      obtain ⟨p1, p2⟩ := a1
      obtain ⟨q1, q2⟩ := a2
      generalize (at2 ds k).1 = y at p1 q1
      generalize (at2 ds k).2 = d at p2 q2
      have hi0 : (0 : Int) ≤ (k : Int) := by omega
      have hi1 : (k : Int) < (n : Int) := by omega
      have hbd : Below w.heap.size w wr.drew := hb.drew
      go_wp2_with fail
      go_region_held3 (fun w' => Below w.heap.size w w' ∧ w'.cell? ⟨g1, k * 2, none⟩ = some (.int .i64 y) ∧ w'.cell? ⟨g1, k * 2 + 1, none⟩ = some (.int .i64 d) ∧ w'.cell? ⟨g2, k * 2, none⟩ = some (.int .i64 y) ∧ w'.cell? ⟨g2, k * 2 + 1, none⟩ = some (.int .i64 d))
        (first
          | go_keep
          | (go_split_ands
             refine ⟨?_, ?_, ?_, ?_, ?_⟩
             · exact Below.trans (by assumption) (Below.mono hcall (Below.size (by assumption)))
             · exact below_dts (y := .nilIface) hcall (by assumption)
             · exact below_dts (y := .nilIface) hcall (by assumption)
             · exact below_dts (y := .nilIface) hcall (by assumption)
             · exact below_dts (y := .nilIface) hcall (by assumption)))
        (first | (go_at_call 34; refine (eqDate_same y d _).mono ?_; rintro e w' ⟨rfl, hcall⟩))
      obtain ⟨hbf, _⟩ := ‹Below w.heap.size w _ ∧ _›
      go_wp2_with fail
      go_roundw
      case rel => exact ⟨k + 1, by omega, by go_num, hbf⟩
      case measure => simp [intOf]; omega
    · go_wp2_with fail
      go_ret
      exact ⟨rfl, hb⟩
theorem eqDateS_empty (a1 a2 : Option Addr) (c1 c2 : Nat) (w : World) :
    Calls Try.prog 37 #[.slice a1 0 c1, .slice a2 0 c2] w (Ret (.bool true) w) := by
  go_enter Try.func37, Try.ntmps37
  go_wp2
  go_rounds 1
  go_ret
  exact ⟨rfl, Below.refl _ _⟩
theorem eqDateS_any (T1 T2 : TypeId) (B1 B2 : Nat) (v1 v2 : Value) (ds : List Dt) (w : World) (hn : ds.length ≤ 1048576) (h1 : OwnD T1 B1 w v1 ds) (h2 : OwnD T2 B2 w v2 ds) :
    Calls Try.prog 37 #[v1, v2] w (Ret (.bool true) w) := by
  rcases h1.cases with ⟨rfl, rfl⟩ | ⟨g1, c1, rfl, _, l1, _, _, i1, _⟩
  · rcases h2.cases with ⟨rfl, _⟩ | ⟨g2, c2, rfl, _, l2, _, _, i2, _⟩
    · exact eqDateS_empty _ _ _ _ _
    · exact eqDateS_empty _ _ _ _ _
  · rcases h2.cases with ⟨rfl, rfl⟩ | ⟨g2, c2, rfl, _, l2, _, _, i2, _⟩
    · exact eqDateS_empty _ _ _ _ _
    · exact eqDateS_same _ _ _ _ _ ds _ rfl hn i1 i2 l1 l2

/-- Dates that are marks: k and k + 1, k + 2 and k + 3, .. -/
def marksD (k : Int) (n : Nat) : List Dt := (List.range n).map fun (j : Nat) => (k + 2 * (j : Int), k + 2 * (j : Int) + 1)
theorem marksD_length (k : Int) (n : Nat) : (marksD k n).length = n := by simp [marksD]
theorem marksD_at (k : Int) (n j : Nat) (hj : j < n) : at2 (marksD k n) j = (k + 2 * (j : Int), k + 2 * (j : Int) + 1) := by
  simp [at2, marksD, List.getElem?_map, List.getElem?_range hj]
/-- A call marked the dates of block g. -/
def RetMarkD (B g c n : Nat) (k : Int) (w : World) (e : Ending) (w' : World) : Prop :=
  e = .returned (.int .i64 (k + 2 * n)) ∧ OwnD 25 B w' (.slice (some ⟨g, 0, none⟩) n c) (marksD k n) ∧ w.grownBy w' (some g)
theorem grown_trans {w w1 w2 : World} {g : Option Nat} (h : w.grownBy w1 g) (k : w1.grownBy w2 g) : w.grownBy w2 g :=
  ⟨k.os.trans h.os, k.tape.trans h.tape, k.output.trans h.output, Nat.le_trans h.size k.size, fun i hi hne => (k.block i (Nat.lt_of_lt_of_le hi h.size) hne).trans (h.block i hi hne)⟩
set_option maxHeartbeats 2000000 in
theorem markDateS_some (B g c n : Nat) (ds : List Dt) (k : Int) (w : World) (hl : ds.length = n) (hn : n ≤ 1048576) (hk0 : 0 ≤ k) (hk1 : k ≤ 1099511627776) (h : OwnD 25 B w (.slice (some ⟨g, 0, none⟩) n c) ds) :
    Calls Try.prog 38 #[.slice (some ⟨g, 0, none⟩) n c, .int .i64 k] w (RetMarkD B g c n k w) := by
  subst hl
  generalize hn0 : ds.length = n at hn h ⊢
  have HN := Lib.hid hn0
  have h' : w.ownsRow B 25 2 (.slice (some ⟨g, 0, none⟩) n c) n (flatD ds) := by
    have := h
    unfold OwnD at this
    rw [hn0] at this
    exact this
  clear hn0 h
  go_enter Try.func38, Try.ntmps38
  go_wp2_with fail
  go_loopw [1, 5] (fun q v wr => ∃ (j : Nat) (xs : List Value), j ≤ n ∧ v = .int .i64 j ∧ q = .int .i64 (k + 2 * j) ∧ wr.ownsRow B 25 2 (.slice (some ⟨g, 0, none⟩) n c) n xs ∧ DtTo (marksD k n) j xs ∧ w.grownBy wr (some g)) (fun _ v _ => n - (intOf v).toNat)
  case atStart => exact ⟨0, _, Nat.zero_le _, rfl, by go_num, h', dtTo_zero _ _, World.grownBy.refl _ _⟩
  case round =>
    obtain ⟨j, xs, hj, rfl, rfl, hr, hx, hg⟩ := hrel
    have hxl : xs.length = n * 2 := hr.1
    have HX := Lib.hid hx
    clear hx
    by_cases hlt : j < n
    · obtain ⟨u0, hu0⟩ : ∃ u, xs[j * 2]? = some u := ⟨_, List.getElem?_eq_getElem (by omega)⟩
      obtain ⟨u1, hu1⟩ : ∃ u, xs[j * 2 + 1]? = some u := ⟨_, List.getElem?_eq_getElem (by omega)⟩
      have hd0 := (World.ownsRow.cellAt hr (j * 2) (by omega)).trans hu0
      have hd1 := (World.ownsRow.cellAt hr (j * 2 + 1) (by omega)).trans hu1
      have hf0 := World.ownsRow.frozenAt hr (j * 2)
      have hf1 := World.ownsRow.frozenAt hr (j * 2 + 1)
      have hs1 := World.ownsRow.stored hr (j * 2) (.int .i64 (k + 2 * j))
      have HS1 := Lib.hid hs1
      have HS2 := Lib.hid (World.ownsRow.stored hs1.1 (j * 2 + 1) (.int .i64 (k + 2 * j + 1)))
      have hp := dtTo_step HX.out (show j * 2 + 1 < xs.length by omega)
      rw [marksD_at k n j hlt] at hp
      have HP := Lib.hid hp
      clear hu0 hu1 hs1 hxl hp hr
      go_wp2_with fail
      go_roundw
      case rel => exact ⟨j + 1, _, by omega, by go_num, by go_num, HS2.out.1, HP.out, grown_trans hg (grown_trans HS1.out.2 HS2.out.2)⟩
      case measure => simp [intOf]; omega
    · have hkn : j = n := by omega
      subst hkn
      go_wp2_with fail
      go_ret
      exact ⟨rfl, ownD_of (marksD_length _ _) hr HX.out, hg⟩

set_option maxHeartbeats 2000000 in
theorem heldDateS_some (T : TypeId) (B g c n : Nat) (k : Int) (w : World) (hn : n ≤ 1048576) (hk0 : 0 ≤ k) (hk1 : k ≤ 1099511627776) (h : OwnD T B w (.slice (some ⟨g, 0, none⟩) n c) (marksD k n)) :
    Calls Try.prog 39 #[.slice (some ⟨g, 0, none⟩) n c, .int .i64 k] w (Ret (.int .i64 (k + 2 * n)) w) := by
  have hI := h.shape.2.2.2.2.1
  go_enter Try.func39, Try.ntmps39
  go_wp2_with fail
  go_loop [1, 5] (fun q v => ∃ j : Nat, j ≤ n ∧ v = .int .i64 j ∧ q = .int .i64 (k + 2 * j)) (fun _ v => n - (intOf v).toNat)
  case atStart => exact ⟨0, Nat.zero_le _, rfl, by go_num⟩
  case round =>
    obtain ⟨j, hj, rfl, rfl⟩ := hrel
    by_cases hlt : j < n
    · have hc := hI j (by rw [marksD_length]; exact hlt)
      rw [marksD_at k n j hlt, Nat.zero_add] at hc
      obtain ⟨c0, c1⟩ := hc
      simp only at c0 c1
      go_wp2_with fail
      go_round
      case rel => exact ⟨j + 1, by omega, by go_num, by go_num⟩
      case measure => simp [intOf]; omega
    · have hkn : j = n := by omega
      subst hkn
      go_wp2_with fail
      go_ret
      exact ⟨rfl, Below.refl _ _⟩
/-- A cell below a block that alone may have been written. -/
theorem cell_grown {w w' : World} {g b o : Nat} {v : Value} (hg : w.grownBy w' (some g)) (hne : b < g) (h : w.cell? ⟨b, o, none⟩ = some v) : w'.cell? ⟨b, o, none⟩ = some v :=
  (World.cell?_of_block (w := w) (a := ⟨b, o, none⟩) (hg.block b (World.block_lt_of_cell? w _ h) (fun e => by simp at e; omega))).trans h
theorem cell_ownAbove {B : Nat} {w w' : World} {v : Value} {zs : List Int} {b o : Nat} {u : Value} (ho : Own B w v zs) (hg : w.grownBy w' v.ownBlock) (hne : b < B) (h : w.cell? ⟨b, o, none⟩ = some u) : w'.cell? ⟨b, o, none⟩ = some u := by
  refine (World.cell?_of_block (w := w) (a := ⟨b, o, none⟩) (hg.block b (World.block_lt_of_cell? w _ h) ?_)).trans h
  rcases ho.block with e | ⟨g, e, h1, _⟩
  · rw [e]; simp
  · rw [e]; simp; omega
end Go.Proofs.Ytmidobhfahpkcaa
