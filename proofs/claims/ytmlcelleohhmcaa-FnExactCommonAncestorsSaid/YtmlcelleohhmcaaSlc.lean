/- slices.Contains over relatives; the question of commonAncestors. -/
import Derived.Test.YtmlcelleohhmcaaAncs
set_option linter.unusedVariables false
set_option linter.unusedSimpArgs false
namespace Go.Proofs.Ytmlcelleohhmcaa
open Go.RowKit

theorem run_eql_rel (fs : List Kn) (a b : Nat) (w : World) : (binOp .eql 70 (keyV fs a) (keyV fs b)).run Try.prog w = .ok (.bool (decide (a = b))) w := by
  have h := equal_rel fs a b w
  unfold keyV at h ⊢
  simp [binOp, h, Result.andThen]
/-- A call returned a place, or something below 0. -/
def RetIxR (b : Bool) (w : World) (e : Ending) (w' : World) : Prop := ∃ i : Int, e = .returned (.int .i64 i) ∧ decide (0 ≤ i) = b ∧ Below w.heap.size w w'
set_option maxHeartbeats 4000000 in
set_option maxRecDepth 100000 in
theorem indexR_any (fs : List Kn) (go n c x : Nat) (ns : List Nat) (w : World) (hl : ns.length = n) (hn : n ≤ 14) (hI : Rls fs w go 0 ns) (hgo : go < w.heap.size) :
    Calls Try.prog 77 #[.slice (some ⟨go, 0, none⟩) n c, .agg #[.int .i64 (at3 fs x).1, .int .i64 (at3 fs x).2.1, .int .i64 (at3 fs x).2.2, .int .i64 x]] w (RetIxR (ns.contains x) w) := by
  have HL := Lib.hid hl
  have HI := Lib.hid hI
  have hx := relAt_new fs w x _ rfl
  have hb0 := (Below.refl w.heap.size w).alloc (Nat.le_refl _) (.cells #[.int .i64 (at3 fs x).1, .int .i64 (at3 fs x).2.1, .int .i64 (at3 fs x).2.2, .int .i64 x] 70)
  have hlt0 : w.heap.size < (w.alloc (.cells #[.int .i64 (at3 fs x).1, .int .i64 (at3 fs x).2.1, .int .i64 (at3 fs x).2.2, .int .i64 x] 70)).heap.size := by simp
  clear hl hI
  go_enter Try.func77, Try.ntmps77
  go_wp2
  go_loopw [8] (fun v wr => ∃ k : Nat, k ≤ n ∧ v = .int .i64 k ∧ Hid (∀ j, j < k → ns.getD j 0 ≠ x) ∧ Below w.heap.size w wr ∧ RelAt fs wr w.heap.size x) (fun v _ => n - (intOf v).toNat)
  case atStart => exact ⟨0, Nat.zero_le _, rfl, Lib.hid (fun j hj => absurd hj (by omega)), hb0, hx⟩
  case round =>
    obtain ⟨k, hk, rfl, HA, hb, hxr⟩ := hrel
    by_cases hlt : k < n
    · obtain ⟨p1, p2, p3, p4⟩ := (HI.out.kept hb hgo) k (by rw [HL.out]; exact hlt)
      rw [Nat.zero_add] at p1 p2 p3 p4
      obtain ⟨q1, q2, q3, q4⟩ := hxr
      have HXR : Hid (∀ n : Nat, RelAt fs (wr.drewN n) w.heap.size x) := Lib.hid (fun n => ⟨q1, q2, q3, q4⟩)
      have hlc : (k : Int) < (n : Int) := by omega
      have hk0 : (0 : Int) ≤ (k : Int) := by omega
      have hel : ns.getD k 0 ∈ ns := by
        have e : ns.getD k 0 = ns[k]'(by rw [HL.out]; exact hlt) := by simp [List.getElem?_eq_getElem (show k < ns.length by rw [HL.out]; exact hlt)]
        rw [e]; exact List.getElem_mem _
      have HY : Hid (x = ns.getD k 0 → ns.contains x = true) := Lib.hid (fun h => List.contains_iff_mem.2 (h ▸ hel))
      have HN : Hid (x ≠ ns.getD k 0 → ∀ j, j < k + 1 → ns.getD j 0 ≠ x) := Lib.hid (fun h j hj => by
        rcases Nat.lt_succ_iff_lt_or_eq.1 hj with h' | rfl
        · exact HA.out j h'
        · exact fun e => h e.symm)
      clear hel HA
      generalize ns.getD k 0 = y at p1 p2 p3 p4 HY HN
      have hq := fun W => run_eql_rel fs x y W
      unfold keyV at hq
      by_cases hxy : x = y
      · have HE := Lib.hid (HY.out hxy)
        simp only [decide_eq_true hxy] at hq
        clear HY HN hxy
        generalize (at3 fs y).1 = y1 at p1 hq
        generalize (at3 fs y).2.1 = y2 at p2 hq
        generalize (at3 fs y).2.2 = y3 at p3 hq
        go_wp2
        go_quiet (fail)
        go_wp2
        go_ret
        exact ⟨_, rfl, by rw [HE.out]; exact decide_eq_true (by omega), below_drewN hb _⟩
      · have HE := Lib.hid (HN.out hxy)
        simp only [decide_eq_false hxy] at hq
        clear HY HN
        generalize (at3 fs y).1 = y1 at p1 hq
        generalize (at3 fs y).2.1 = y2 at p2 hq
        generalize (at3 fs y).2.2 = y3 at p3 hq
        go_wp2
        go_quiet (fail)
        go_wp2
        go_roundw
        case rel => exact ⟨k + 1, by omega, by go_num, HE, below_drewN hb _, HXR.out _⟩
        case measure => simp [intOf]; omega
    · have hlc : ¬ (k : Int) < (n : Int) := by omega
      have HE : Hid (ns.contains x = false) := Lib.hid (by
        rw [Bool.eq_false_iff]
        intro h
        obtain ⟨j, hj, e⟩ := List.getElem_of_mem (List.contains_iff_mem.1 h)
        have := HA.out j (by rw [HL.out] at hj; omega)
        exact this (by simpa [List.getElem?_eq_getElem hj] using e))
      go_wp2
      go_ret
      have h9 : x ∉ ns := by have := HE.out; simpa using this
      exact ⟨_, rfl, by simp [h9], hb⟩
theorem indexR_own (fs : List Kn) (B x : Nat) (v : Value) (ns : List Nat) (w : World) (hO : OwnR fs B w v ns) (hn : ns.length ≤ 14) :
    Calls Try.prog 77 #[v, .agg #[.int .i64 (at3 fs x).1, .int .i64 (at3 fs x).2.1, .int .i64 (at3 fs x).2.2, .int .i64 x]] w (RetIxR (ns.contains x) w) := by
  rcases hO.cases with ⟨rfl, rfl⟩ | ⟨g, c, rfl, _, hg, _, _, hI, _⟩
  · have hb0 := (Below.refl w.heap.size w).alloc (Nat.le_refl _) (.cells #[.int .i64 (at3 fs x).1, .int .i64 (at3 fs x).2.1, .int .i64 (at3 fs x).2.2, .int .i64 x] 70)
    go_enter Try.func77, Try.ntmps77
    go_wp2
    go_rounds 1
    go_ret
    exact ⟨_, rfl, rfl, hb0⟩
  · exact indexR_any fs g _ c x ns w rfl hn hI hg
set_option maxHeartbeats 1000000 in
theorem containsR_any (fs : List Kn) (B x : Nat) (v : Value) (ns : List Nat) (w : World) (hO : OwnR fs B w v ns) (hn : ns.length ≤ 14) :
    Calls Try.prog 60 #[v, .agg #[.int .i64 (at3 fs x).1, .int .i64 (at3 fs x).2.1, .int .i64 (at3 fs x).2.2, .int .i64 x]] w (Ret (.bool (ns.contains x)) w) := by
  have HB := Lib.hid ((Below.refl w.heap.size w).alloc (Nat.le_refl _) (.cells #[.int .i64 (at3 fs x).1, .int .i64 (at3 fs x).2.1, .int .i64 (at3 fs x).2.2, .int .i64 x] 70))
  have HC := Lib.hid (indexR_own fs B x v ns (w.alloc (.cells #[.int .i64 (at3 fs x).1, .int .i64 (at3 fs x).2.1, .int .i64 (at3 fs x).2.2, .int .i64 x] 70)) (World.ownsRow.alloc hO _) hn)
  clear hO
  generalize ns.contains x = r at HC ⊢
  go_enter Try.func60, Try.ntmps60
  go_wp2_with (go_at_call 77; refine HC.out.mono ?_; rintro e w2 ⟨i, rfl, hi, hb2⟩)
  go_ret
  exact ⟨rfl, HB.out.trans (hb2.mono HB.out.size)⟩
set_option maxHeartbeats 1000000 in
theorem comQ_any (fs : List Kn) (B x q : Nat) (v : Value) (ns : List Nat) (w : World) (hO : OwnR fs B w v ns) (hn : ns.length ≤ 14) (hq : w.cell? ⟨q, 0, none⟩ = some v) :
    Calls Try.prog 59 #[.agg #[.int .i64 (at3 fs x).1, .int .i64 (at3 fs x).2.1, .int .i64 (at3 fs x).2.2, .int .i64 x], .pointer (some ⟨q, 0, none⟩)] w (Ret (.bool (ns.contains x)) w) := by
  have HB := Lib.hid ((Below.refl w.heap.size w).alloc (Nat.le_refl _) (.cells #[.int .i64 (at3 fs x).1, .int .i64 (at3 fs x).2.1, .int .i64 (at3 fs x).2.2, .int .i64 x] 70))
  have hq2 := cell_above hq (.cells #[.int .i64 (at3 fs x).1, .int .i64 (at3 fs x).2.1, .int .i64 (at3 fs x).2.2, .int .i64 x] 70)
  have HC := Lib.hid (containsR_any fs B x v ns (w.alloc (.cells #[.int .i64 (at3 fs x).1, .int .i64 (at3 fs x).2.1, .int .i64 (at3 fs x).2.2, .int .i64 x] 70)) (World.ownsRow.alloc hO _) hn)
  obtain ⟨a0, c0, rfl⟩ := hO.form
  clear hO hq
  generalize ns.contains x = r at HC ⊢
  go_enter Try.func59, Try.ntmps59
  go_wp2_with (go_at_call 60; refine HC.out.mono ?_; rintro e w2 ⟨rfl, hb2⟩)
  go_ret
  exact ⟨rfl, HB.out.trans (hb2.mono HB.out.size)⟩
end Go.Proofs.Ytmlcelleohhmcaa
