/- The statements' own helpers: copying, comparing, marking and checking slices of integers. -/
import Derived.Test.YtkkjbkagkmngkaaProg
import Derived.Test.YtkkjbkagkmngkaaKit
import Derived.Deep.QuietTactic
import Derived.BigQuiet
set_option linter.unusedVariables false
set_option linter.unusedSimpArgs false
namespace Go.Proofs.Ytkkjbkagkmngkaa
open Go.RowKit

theorem infoInt : (Try.prog.info? 3).map (fun i => (i.zero, i.size, i.bytes)) = some (some (.int .i64 0), 1, 8) := by kernel_rfl

/-- The first k numbers are written, the others still 0. -/
def fill (zs : List Int) (k n : Nat) : List Value := (zs.take k ++ List.replicate (n - k) 0).map (Value.int .i64)
theorem fill_zero (zs : List Int) (n : Nat) : (madeCells #[Value.int IntKind.i64 0] n).toList = fill zs 0 n := by
  rw [toList_madeCells_one]; simp [fill]
theorem fill_all (zs : List Int) (n : Nat) (h : zs.length = n) : fill zs n n = zs.map (Value.int .i64) := by
  subst h; simp [fill]
theorem fill_step (zs : List Int) (k n : Nat) (h : zs.length = n) (hk : k < n) : (fill zs k n).set k (.int .i64 (zs.getD k 0)) = fill zs (k + 1) n := by
  have e : n - k = (n - (k + 1)) + 1 := by omega
  unfold fill
  rw [e, List.replicate_succ, ← List.map_set, List.set_append]
  have hl : (zs.take k).length = k := by simp; omega
  rw [hl, if_neg (by omega), Nat.sub_self, List.set_cons_zero, List.take_succ_eq_append_getElem (by omega)]
  have e2 : zs.getD k 0 = zs[k]'(by omega) := by simp [List.getElem?_eq_getElem (show k < zs.length by omega)]
  rw [e2]
  simp only [List.map_append, List.map_cons, List.map_nil, List.append_assoc, List.singleton_append]
theorem fill_getD (zs : List Int) (k : Nat) (hk : k < zs.length) : zs.getD k 0 = zs[k] := by simp [List.getElem?_eq_getElem hk]
theorem fill_some (zs : List Int) (k n : Nat) (h : zs.length = n) (hk : k < n) : ∃ u, (fill zs k n)[k]? = some u := by
  have hl : (fill zs k n).length = n := by simp [fill]; omega
  exact ⟨_, List.getElem?_eq_getElem (by omega)⟩

set_option maxHeartbeats 400000 in
theorem eqIntS_same (g1 c1 g2 c2 n : Nat) (zs : List Int) (w : World) (hl : zs.length = n) (hn : n ≤ 1048576) (h1 : Ints w g1 0 zs) (h2 : Ints w g2 0 zs) :
    Calls Try.prog 30 #[.slice (some ⟨g1, 0, none⟩) n c1, .slice (some ⟨g2, 0, none⟩) n c2] w (Ret (.bool true) w) := by
  go_enter Try.func30, Try.ntmps30
  go_wp2
  go_loopw [5] (fun v wr => ∃ k d : Nat, k ≤ n ∧ v = .int .i64 k ∧ wr = w.drewN d) (fun v _ => n - (intOf v).toNat)
  case atStart => exact ⟨0, 0, Nat.zero_le _, rfl, rfl⟩
  case round =>
    obtain ⟨k, d, hk, rfl, rfl⟩ := hrel
    by_cases hlt : k < n
    · have hc1 : w.cell? ⟨g1, k, none⟩ = some (.int .i64 (zs.getD k 0)) := by simpa using h1 k (by omega)
      have hc2 : w.cell? ⟨g2, k, none⟩ = some (.int .i64 (zs.getD k 0)) := by simpa using h2 k (by omega)
      have hi0 : (0 : Int) ≤ (k : Int) := by omega
      have hi1 : (k : Int) < (n : Int) := by omega
      go_wp2
      go_quiet (fail)
      go_wp2
      go_roundw
      case rel => exact ⟨k + 1, _, by omega, by go_num, rfl⟩
      case measure => simp [intOf]; omega
    · go_wp2
      go_ret
      exact ⟨rfl, below_drewN (Below.refl _ _) _⟩

theorem eqIntS_empty (a1 a2 : Option Addr) (c1 c2 : Nat) (w : World) :
    Calls Try.prog 30 #[.slice a1 0 c1, .slice a2 0 c2] w (Ret (.bool true) w) := by
  go_enter Try.func30, Try.ntmps30
  go_wp2
  go_rounds 1
  go_ret
  exact ⟨rfl, Below.refl _ _⟩

theorem eqIntS_any (B1 B2 : Nat) (v1 v2 : Value) (zs : List Int) (w : World) (hn : zs.length ≤ 1048576) (h1 : Own B1 w v1 zs) (h2 : Own B2 w v2 zs) :
    Calls Try.prog 30 #[v1, v2] w (Ret (.bool true) w) := by
  rcases h1.cases with ⟨rfl, rfl⟩ | ⟨g1, c1, rfl, _, _, _, _, i1, _⟩
  · rcases h2.cases with ⟨rfl, _⟩ | ⟨g2, c2, rfl, _, _, _, _, i2, _⟩
    · exact eqIntS_empty _ _ _ _ _
    · exact eqIntS_empty _ _ _ _ _
  · rcases h2.cases with ⟨rfl, rfl⟩ | ⟨g2, c2, rfl, _, _, _, _, i2, _⟩
    · exact eqIntS_empty _ _ _ _ _
    · exact eqIntS_same _ _ _ _ _ _ _ rfl hn i1 i2

set_option maxHeartbeats 400000 in
theorem markIntS_some (B g c n : Nat) (zs : List Int) (k : Int) (w : World) (hl : zs.length = n) (hn : n ≤ 1048576) (hk0 : 0 ≤ k) (hk1 : k ≤ 1099511627776) (h : Own B w (.slice (some ⟨g, 0, none⟩) n c) zs) :
    Calls Try.prog 31 #[.slice (some ⟨g, 0, none⟩) n c, .int .i64 k] w (RetMark B g c n k w) := by
  subst hl
  go_enter Try.func31, Try.ntmps31
  go_wp2
  go_loopw [1, 5] (fun q v wr => ∃ j : Nat, j ≤ zs.length ∧ v = .int .i64 j ∧ q = .int .i64 (k + j) ∧ wr.ownsRow B 3 1 (.slice (some ⟨g, 0, none⟩) zs.length c) zs.length (mk zs k j) ∧ w.grownBy wr (some g)) (fun _ v _ => zs.length - (intOf v).toNat)
  case atStart => exact ⟨0, Nat.zero_le _, rfl, by go_num, h, World.grownBy.refl _ _⟩
  case round =>
    obtain ⟨j, hj, rfl, rfl, hr, hg⟩ := hrel
    by_cases hlt : j < zs.length
    · obtain ⟨u, hu⟩ := mk_some zs k j hlt
      have hc2 := (World.ownsRow.cellAt hr j (by omega)).trans hu
      have hf2 := World.ownsRow.frozenAt hr j
      have HS := World.ownsRow.stored hr j (.int .i64 (k + j))
      rw [mk_step zs k j hlt] at HS
      clear hu
      go_wp2
      go_roundw
      case rel => exact ⟨j + 1, by omega, by go_num, by go_num, HS.1, ⟨HS.2.os.trans hg.os, HS.2.tape.trans hg.tape, HS.2.output.trans hg.output, Nat.le_trans hg.size HS.2.size, fun i hi hne => (HS.2.block i (Nat.lt_of_lt_of_le hi hg.size) hne).trans (hg.block i hi hne)⟩⟩
      case measure => simp [intOf]; omega
    · have hkn : j = zs.length := by omega
      subst hkn
      rw [mk_all] at hr
      go_wp2
      go_ret
      exact ⟨rfl, by unfold Own; rw [marks_length]; exact hr, hg⟩

theorem markIntS_nil (k : Int) (w : World) :
    Calls Try.prog 31 #[.slice none 0 0, .int .i64 k] w (Ret (.int .i64 k) w) := by
  go_enter Try.func31, Try.ntmps31
  go_wp2
  go_rounds 1
  go_ret
  exact ⟨rfl, Below.refl _ _⟩

set_option maxHeartbeats 400000 in
theorem heldIntS_some (B g c n : Nat) (k : Int) (w : World) (hn : n ≤ 1048576) (hk0 : 0 ≤ k) (hk1 : k ≤ 1099511627776) (h : Own B w (.slice (some ⟨g, 0, none⟩) n c) (marks k n)) :
    Calls Try.prog 32 #[.slice (some ⟨g, 0, none⟩) n c, .int .i64 k] w (Ret (.int .i64 (k + n)) w) := by
  have hI := h.shape.2.2.2.2.1
  go_enter Try.func32, Try.ntmps32
  go_wp2
  go_loop [1, 5] (fun q v => ∃ j : Nat, j ≤ n ∧ v = .int .i64 j ∧ q = .int .i64 (k + j)) (fun _ v => n - (intOf v).toNat)
  case atStart => exact ⟨0, Nat.zero_le _, rfl, by go_num⟩
  case round =>
    obtain ⟨j, hj, rfl, rfl⟩ := hrel
    by_cases hlt : j < n
    · have hc : w.cell? ⟨g, j, none⟩ = some (.int .i64 (k + j)) := by
        have := hI j (by rw [marks_length]; exact hlt)
        rw [marks_getD n k j hlt] at this
        simpa using this
      go_wp2
      go_round
      case rel => exact ⟨j + 1, by omega, by go_num, by go_num⟩
      case measure => simp [intOf]; omega
    · have hkn : j = n := by omega
      subst hkn
      go_wp2
      go_ret
      exact ⟨rfl, Below.refl _ _⟩

theorem heldIntS_nil (k : Int) (w : World) :
    Calls Try.prog 32 #[.slice none 0 0, .int .i64 k] w (Ret (.int .i64 k) w) := by
  go_enter Try.func32, Try.ntmps32
  go_wp2
  go_rounds 1
  go_ret
  exact ⟨rfl, Below.refl _ _⟩

theorem markIntS_any (B : Nat) (v : Value) (zs : List Int) (k : Int) (w : World) (hn : zs.length ≤ 1048576) (hk0 : 0 ≤ k) (hk1 : k ≤ 1099511627776) (h : Own B w v zs) :
    Calls Try.prog 31 #[v, .int .i64 k] w (RetMarkV B v zs.length k w) := by
  rcases h.cases with ⟨rfl, rfl⟩ | ⟨g, c, rfl, _⟩
  · refine (markIntS_nil k w).mono ?_
    rintro e w' ⟨rfl, hb⟩
    exact ⟨by simp, own_nil _ _, below_grown hb _⟩
  · exact markIntS_some B g c _ zs k w rfl hn hk0 hk1 h

theorem heldIntS_any (B : Nat) (v : Value) (zs : List Int) (k : Int) (w : World) (hn : zs.length ≤ 1048576) (hk0 : 0 ≤ k) (hk1 : k ≤ 1099511627776) (h : Own B w v (marks k zs.length)) :
    Calls Try.prog 32 #[v, .int .i64 k] w (Ret (.int .i64 (k + zs.length)) w) := by
  rcases h.cases with ⟨rfl, h0⟩ | ⟨g, c, rfl, _⟩
  · have h1 : zs.length = 0 := by have := congrArg List.length h0; rw [marks_length] at this; exact this
    rw [h1]
    refine (heldIntS_nil k w).mono ?_
    rintro e w' ⟨rfl, hb⟩
    exact ⟨by simp, hb⟩
  · rw [marks_length] at h ⊢
    exact heldIntS_some B g c _ k w hn hk0 hk1 h
/-- The first k of the numbers ys are written, the others still 0: one step. -/
theorem fill_stepAt (ys : List Int) (k n : Nat) (y : Int) (h : ys.length = n) (hk : k < n) (hy : ys.getD k 0 = y) : (fill ys k n).set k (.int .i64 y) = fill ys (k + 1) n := by
  rw [← hy]; exact fill_step ys k n h hk

/-- A row that was made and filled is what the call returns. -/
theorem retRow_of {w wr : World} {ys : List Int} {n : Nat} (hl : ys.length = n) (hr : wr.ownsRow w.heap.size 3 1 (.slice (some ⟨w.heap.size, 0, none⟩) n n) n (fill ys n n)) (hb : Below w.heap.size w wr) :
    RetRow ys w (.returned (.slice (some ⟨w.heap.size, 0, none⟩) n n)) wr := by
  subst hl
  rw [fill_all _ _ rfl] at hr
  exact ⟨w.heap.size, Nat.le_refl _, rfl, hr, hb⟩

end Go.Proofs.Ytkkjbkagkmngkaa
