/- How the model parses families. -/
import Derived.Test.YthmcimdnbapnhabDoorFp0
import Derived.Test.YthmcimdnbapnhabDoorFSplit
set_option linter.unusedVariables false
set_option linter.unusedSimpArgs false
namespace Go.Proofs.YthmcimdnbapnhabDoor
open Go.RowKit

theorem ownT_cases {B : Nat} {w : World} {v : Value} {ss : List ByteArray} (h : OwnT B w v ss) (hne : 0 < ss.length) :
    ∃ g c, v = .slice (some ⟨g, 0, none⟩) ss.length c ∧ B ≤ g ∧ g < w.heap.size ∧ ∀ j, j < ss.length → w.cell? ⟨g, j, none⟩ = some (.string (ss.getD j ByteArray.empty)) := by
  have h' := h
  rcases h.2 with ⟨h2, h3⟩ | ⟨g, cap, cur, rfl, h2, h3, h4, h5, h6, h7⟩
  · omega
  · refine ⟨g, cap, rfl, h2, (Array.getElem?_eq_some_iff.1 h3).1, fun j hj => ?_⟩
    have := World.ownsRow.cellAt h' j (by omega)
    rw [this]
    simp [List.getElem?_map, List.getElem?_eq_getElem hj, List.getD_eq_getElem?_getD]
theorem cuts_len1 (c : UInt8) (s : ByteArray) : 0 < (cuts c s).length := by unfold cuts; simp
theorem cuts_len2 (c : UInt8) (s : ByteArray) : (cuts c s).length ≤ s.size + 1 := by
  have := cutO_len c s s.size
  unfold cuts
  rw [List.length_append]
  simp only [List.length_cons, List.length_nil]
  omega
theorem cutO_size (c : UInt8) (s : ByteArray) : ∀ i, ∀ x ∈ cutO c s i, x.size ≤ s.size
  | 0, x, h => by simp [cutO] at h
  | i + 1, x, h => by
    unfold cutO at h
    split at h
    · rcases List.mem_append.1 h with h | h
      · exact cutO_size c s i x h
      · simp only [List.mem_singleton] at h
        rw [h, ByteArray.size_extract]; omega
    · exact cutO_size c s i x h
theorem cuts_size {c : UInt8} {s : ByteArray} : ∀ x ∈ cuts c s, x.size ≤ s.size := by
  intro x h
  unfold cuts at h
  rcases List.mem_append.1 h with h | h
  · exact cutO_size c s _ x h
  · simp only [List.mem_singleton] at h
    rw [h, ByteArray.size_extract]; omega
theorem getD_mem {l : List ByteArray} {k : Nat} (h : k < l.length) : l.getD k ByteArray.empty ∈ l := by
  rw [List.getD_eq_getElem?_getD, List.getElem?_eq_getElem h]
  exact List.getElem_mem h

/-- What the first k pieces read as. -/
def rdF (s : ByteArray) (k : Nat) : List Kn := ((cuts 59 s).take k).map pcK
theorem rdF_succ (s : ByteArray) (k : Nat) (hk : k < (cuts 59 s).length) : rdF s (k + 1) = rdF s k ++ [pcK ((cuts 59 s).getD k ByteArray.empty)] := by
  unfold rdF
  rw [List.take_succ_eq_append_getElem hk, List.map_append]
  simp [List.getElem?_eq_getElem hk]
theorem rdF_all (s : ByteArray) (k : Nat) (hk : (cuts 59 s).length ≤ k) : rdF s k = fsOf s := by unfold rdF fsOf; rw [List.take_of_length_le hk]
theorem rdF_len (s : ByteArray) (k : Nat) : (rdF s k).length ≤ (cuts 59 s).length := by unfold rdF; simp; omega
theorem parsedF_bad {s : ByteArray} {k : Nat} (hk : k < (cuts 59 s).length) (h : pcOk ((cuts 59 s).getD k ByteArray.empty) = false) : parsedF s = false := by
  cases e : parsedF s with
  | false => rfl
  | true => rw [(parsedF_parts e).2.1 _ (getD_mem hk)] at h; exact absurd h (by simp)
theorem parsedF_long {s : ByteArray} (h : 154 < s.size) : parsedF s = false := by unfold parsedF; rw [decide_eq_false (by omega)]; rfl
theorem newKn (w : World) (y f o : Int) (t : TypeId) : ∀ j u, [Value.int .i64 y, Value.int .i64 f, Value.int .i64 o][j]? = some u → (w.alloc (.cells #[.int .i64 y, .int .i64 f, .int .i64 o] t)).cell? ((⟨w.heap.size, 0, none⟩ : Addr).add j) = some u := by
  intro j u h
  match j, h with
  | 0, h => simp at h; subst h; simp [go_sem, Addr.add]
  | 1, h => simp at h; subst h; simp [go_sem, Addr.add]
  | 2, h => simp at h; subst h; simp [go_sem, Addr.add]
  | j + 3, h => simp at h
theorem kn_ints (y f o : Int) : ∀ u ∈ [Value.int .i64 y, Value.int .i64 f, Value.int .i64 o], u.oneCell' = true := by
  intro u hu; simp at hu; rcases hu with rfl | rfl | rfl <;> rfl
set_option maxHeartbeats 1000000 in
theorem spParse_long (s : ByteArray) (w : World) (h : 154 < s.size) : Calls Tryd.prog 10 #[.string s] w (RetOwnKB [] false w) := by
  have h2 : (154 : Int) < (s.size : Int) := by omega
  go_enter Tryd.func10, Tryd.ntmps10
  go_wp2_with fail
  go_ret2
  exact ⟨_, rfl, ownK_nil _ _, Below.refl _ _⟩
/-- What a piece with its numbers told does. -/
structure PcSt (q : ByteArray) (L : Nat) (r0 r1 r2 : Int) : Prop where
  ok : pcOk q = (decide (L ≤ 3) && (decide (¬ 1 < L) || decide (0 ≤ r1)) && (decide (¬ 2 < L) || decide (0 ≤ r2)))
  kn : pcK q = (r0, if 1 < L then r1 else -1, if 2 < L then r2 else -1)
end Go.Proofs.YthmcimdnbapnhabDoor
