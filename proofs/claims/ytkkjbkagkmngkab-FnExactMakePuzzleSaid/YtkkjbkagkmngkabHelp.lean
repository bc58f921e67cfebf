/- The statements' own helpers: copying, comparing, marking and checking slices of integers. -/
import Derived.Test.YtkkjbkagkmngkabProg
import Derived.Test.YtkkjbkagkmngkabKit
import Derived.Deep.QuietTactic
import Derived.BigQuiet
set_option linter.unusedVariables false
set_option linter.unusedSimpArgs false
namespace Go.Proofs.Ytkkjbkagkmngkab
open Go.RowKit

theorem infoInt : (Try.prog.info? 3).map (fun i => (i.zero, i.size, i.bytes)) = some (some (.int .i64 0), 1, 8) := by kernel_rfl

/-- The first k numbers are written, the others still 0. -/
def fill (zs : List Int) (k n : Nat) : List Value := (zs.take k ++ List.replicate (n - k) 0).map (Value.int .i64)
theorem fill_zero (zs : List Int) (n : Nat) : (madeCells #[Value.int IntKind.i64 0] n).toList = fill zs 0 n := by
  rw [toList_madeCells_one]; simp [fill]
theorem fill_all (zs : List Int) (n : Nat) (h : zs.length = n) : fill zs n n = zs.map (Value.int .i64) := by
  subst h; simp [fill]
theorem fill_step (zs : List Int) (k n : Nat) (h : zs.length = n) (hk : k < n) : (fill zs k n).set k (.int .i64 (zs.getD k 0)) = fill zs (k + 1) n := by
  have e : n - k = (n - (k + 1)) + 1 := by omega
  unfold fill
  rw [e, List.replicate_succ, ← List.map_set, List.set_append]
  have hl : (zs.take k).length = k := by simp; omega
  rw [hl, if_neg (by omega), Nat.sub_self, List.set_cons_zero, List.take_succ_eq_append_getElem (by omega)]
  have e2 : zs.getD k 0 = zs[k]'(by omega) := by simp [List.getElem?_eq_getElem (show k < zs.length by omega)]
  rw [e2]
  simp only [List.map_append, List.map_cons, List.map_nil, List.append_assoc, List.singleton_append]
theorem fill_getD (zs : List Int) (k : Nat) (hk : k < zs.length) : zs.getD k 0 = zs[k] := by simp [List.getElem?_eq_getElem hk]
theorem fill_some (zs : List Int) (k n : Nat) (h : zs.length = n) (hk : k < n) : ∃ u, (fill zs k n)[k]? = some u := by
  have hl : (fill zs k n).length = n := by simp [fill]; omega
  exact ⟨_, List.getElem?_eq_getElem (by omega)⟩

set_option maxHeartbeats 400000 in
theorem toIntS_any (a : Option Addr) (n c : Nat) (zs : List Int) (w : World) (h : Arg w a n zs) (hn : n ≤ 1048576) :
    Calls Try.prog 7 #[.slice a n c] w (RetRow zs w) := by
  obtain ⟨i0, hi, hz0, hz1, hz2⟩ := info_parts infoInt
  obtain ⟨hl, h⟩ := h
  go_enter Try.func7, Try.ntmps7
  go_wp2_with (first | (at_make; refine wpList_make_full _ rfl _ _ 24 rfl w.heap.size 3 i0 (.int .i64 0) 1 Try.underlying24 hi hz0 hz1 .i64 .i64 n n n rfl rfl rfl rfl ?c1 ?c2 ?c3 ?_))
  case c1 => rw [hz2]; omega
  case c2 => unfold maxLen; omega
  case c3 => exact Nat.le_refl _
  intro w1 hown hg
  go_wp2
  go_loopw [4] (fun v wr => ∃ k : Nat, k ≤ n ∧ v = .int .i64 k ∧ wr.ownsRow w.heap.size 3 1 (.slice (some ⟨w.heap.size, 0, none⟩) n n) n (fill zs k n) ∧ Below w.heap.size w wr) (fun v _ => n - (intOf v).toNat)
  case atStart => exact ⟨0, Nat.zero_le _, rfl, by rw [← fill_zero]; simpa using hown, (Below.refl _ _).grown hg (Nat.le_refl _) (by simp)⟩
  case round =>
    obtain ⟨k, hk, rfl, hr, hb⟩ := hrel
    by_cases hlt : k < n
    · rcases h with h | ⟨b, off, rfl, hbl, hI⟩
      · omega
      have hc : wr.cell? ⟨b, off + k, none⟩ = some (.int .i64 (zs.getD k 0)) := (hb.cell (p := ⟨b, off + k, none⟩) hbl).trans (hI k (by omega))
      obtain ⟨u, hu⟩ := fill_some zs k n hl hlt
      have hc2 := (World.ownsRow.cellAt hr k (by omega)).trans hu
      have hf2 := World.ownsRow.frozenAt hr k
      have HS := World.ownsRow.stored hr k (.int .i64 (zs.getD k 0))
      rw [fill_step zs k n hl hlt, fill_getD zs k (by omega)] at HS
      clear hu
      go_wp2
      go_roundw
      case rel => exact ⟨k + 1, by omega, by go_num, HS.1, hb.setCell (Nat.le_refl _) _⟩
      case measure => simp [intOf]; omega
    · have hkn : k = n := by omega
      go_wp2
      go_ret
      subst hkn
      rw [fill_all zs k hl] at hr
      subst hl
      exact ⟨w.heap.size, Nat.le_refl _, rfl, hr, hb⟩

set_option maxHeartbeats 400000 in
theorem eqIntS_same (g1 c1 g2 c2 n : Nat) (zs : List Int) (w : World) (hl : zs.length = n) (hn : n ≤ 1048576) (h1 : Ints w g1 0 zs) (h2 : Ints w g2 0 zs) :
    Calls Try.prog 9 #[.slice (some ⟨g1, 0, none⟩) n c1, .slice (some ⟨g2, 0, none⟩) n c2] w (Ret (.bool true) w) := by
  go_enter Try.func9, Try.ntmps9
  go_wp2
  go_loopw [5] (fun v wr => ∃ k d : Nat, k ≤ n ∧ v = .int .i64 k ∧ wr = w.drewN d) (fun v _ => n - (intOf v).toNat)
  case atStart => exact ⟨0, 0, Nat.zero_le _, rfl, rfl⟩
  case round =>
    obtain ⟨k, d, hk, rfl, rfl⟩ := hrel
    by_cases hlt : k < n
    · have hc1 : w.cell? ⟨g1, k, none⟩ = some (.int .i64 (zs.getD k 0)) := by simpa using h1 k (by omega)
      have hc2 : w.cell? ⟨g2, k, none⟩ = some (.int .i64 (zs.getD k 0)) := by simpa using h2 k (by omega)
      have hi0 : (0 : Int) ≤ (k : Int) := by omega
      have hi1 : (k : Int) < (n : Int) := by omega
      go_wp2
      go_quiet (fail)
      go_wp2
      go_roundw
      case rel => exact ⟨k + 1, _, by omega, by go_num, rfl⟩
      case measure => simp [intOf]; omega
    · go_wp2
      go_ret
      exact ⟨rfl, below_drewN (Below.refl _ _) _⟩

theorem eqIntS_empty (a1 a2 : Option Addr) (c1 c2 : Nat) (w : World) :
    Calls Try.prog 9 #[.slice a1 0 c1, .slice a2 0 c2] w (Ret (.bool true) w) := by
  go_enter Try.func9, Try.ntmps9
  go_wp2
  go_rounds 1
  go_ret
  exact ⟨rfl, Below.refl _ _⟩

theorem eqIntS_any (B1 B2 : Nat) (v1 v2 : Value) (zs : List Int) (w : World) (hn : zs.length ≤ 1048576) (h1 : Own B1 w v1 zs) (h2 : Own B2 w v2 zs) :
    Calls Try.prog 9 #[v1, v2] w (Ret (.bool true) w) := by
  rcases h1.cases with ⟨rfl, rfl⟩ | ⟨g1, c1, rfl, _, _, _, _, i1, _⟩
  · rcases h2.cases with ⟨rfl, _⟩ | ⟨g2, c2, rfl, _, _, _, _, i2, _⟩
    · exact eqIntS_empty _ _ _ _ _
    · exact eqIntS_empty _ _ _ _ _
  · rcases h2.cases with ⟨rfl, rfl⟩ | ⟨g2, c2, rfl, _, _, _, _, i2, _⟩
    · exact eqIntS_empty _ _ _ _ _
    · exact eqIntS_same _ _ _ _ _ _ _ rfl hn i1 i2

set_option maxHeartbeats 400000 in
theorem markIntS_some (B g c n : Nat) (zs : List Int) (k : Int) (w : World) (hl : zs.length = n) (hn : n ≤ 1048576) (hk0 : 0 ≤ k) (hk1 : k ≤ 1099511627776) (h : Own B w (.slice (some ⟨g, 0, none⟩) n c) zs) :
    Calls Try.prog 13 #[.slice (some ⟨g, 0, none⟩) n c, .int .i64 k] w (RetMark B g c n k w) := by
  subst hl
  go_enter Try.func13, Try.ntmps13
  go_wp2
  go_loopw [1, 5] (fun q v wr => ∃ j : Nat, j ≤ zs.length ∧ v = .int .i64 j ∧ q = .int .i64 (k + j) ∧ wr.ownsRow B 3 1 (.slice (some ⟨g, 0, none⟩) zs.length c) zs.length (mk zs k j) ∧ w.grownBy wr (some g)) (fun _ v _ => zs.length - (intOf v).toNat)
  case atStart => exact ⟨0, Nat.zero_le _, rfl, by go_num, h, World.grownBy.refl _ _⟩
  case round =>
    obtain ⟨j, hj, rfl, rfl, hr, hg⟩ := hrel
    by_cases hlt : j < zs.length
    · obtain ⟨u, hu⟩ := mk_some zs k j hlt
      have hc2 := (World.ownsRow.cellAt hr j (by omega)).trans hu
      have hf2 := World.ownsRow.frozenAt hr j
      have HS := World.ownsRow.stored hr j (.int .i64 (k + j))
      rw [mk_step zs k j hlt] at HS
      clear hu
      go_wp2
      go_roundw
      case rel => exact ⟨j + 1, by omega, by go_num, by go_num, HS.1, ⟨HS.2.os.trans hg.os, HS.2.tape.trans hg.tape, HS.2.output.trans hg.output, Nat.le_trans hg.size HS.2.size, fun i hi hne => (HS.2.block i (Nat.lt_of_lt_of_le hi hg.size) hne).trans (hg.block i hi hne)⟩⟩
      case measure => simp [intOf]; omega
    · have hkn : j = zs.length := by omega
      subst hkn
      rw [mk_all] at hr
      go_wp2
      go_ret
      exact ⟨rfl, by unfold Own; rw [marks_length]; exact hr, hg⟩

theorem markIntS_nil (k : Int) (w : World) :
    Calls Try.prog 13 #[.slice none 0 0, .int .i64 k] w (Ret (.int .i64 k) w) := by
  go_enter Try.func13, Try.ntmps13
  go_wp2
  go_rounds 1
  go_ret
  exact ⟨rfl, Below.refl _ _⟩

theorem markIntS_any (B : Nat) (v : Value) (zs : List Int) (k : Int) (w : World) (hn : zs.length ≤ 1048576) (hk0 : 0 ≤ k) (hk1 : k ≤ 1099511627776) (h : Own B w v zs) :
    Calls Try.prog 13 #[v, .int .i64 k] w (RetMarkV B v zs.length k w) := by
  rcases h.cases with ⟨rfl, rfl⟩ | ⟨g, c, rfl, _⟩
  · refine (markIntS_nil k w).mono ?_
    rintro e w' ⟨rfl, hb⟩
    exact ⟨by simp, own_nil _ _, below_grown hb _⟩
  · exact markIntS_some B g c _ zs k w rfl hn hk0 hk1 h

/-- The first k of the numbers ys are written, the others still 0: one step. -/
theorem fill_stepAt (ys : List Int) (k n : Nat) (y : Int) (h : ys.length = n) (hk : k < n) (hy : ys.getD k 0 = y) : (fill ys k n).set k (.int .i64 y) = fill ys (k + 1) n := by
  rw [← hy]; exact fill_step ys k n h hk

/-- A row that was made and filled is what the call returns. -/
theorem retRow_of {w wr : World} {ys : List Int} {n : Nat} (hl : ys.length = n) (hr : wr.ownsRow w.heap.size 3 1 (.slice (some ⟨w.heap.size, 0, none⟩) n n) n (fill ys n n)) (hb : Below w.heap.size w wr) :
    RetRow ys w (.returned (.slice (some ⟨w.heap.size, 0, none⟩) n n)) wr := by
  subst hl
  rw [fill_all _ _ rfl] at hr
  exact ⟨w.heap.size, Nat.le_refl _, rfl, hr, hb⟩

end Go.Proofs.Ytkkjbkagkmngkab
