/- Numbers in order, each once: plain mathematics; the library's sort and compaction laid at this program. -/
import Derived.Test.YtmdhdbkeiennmabKit
import Derived.Test.YtmdhdbkeiennmabProg
import Derived.Ground.NamesProg
import Derived.Ground.Names2Prog
import Derived.Shelf.Lay
import Derived.Shelf.Sort.Plain
import Derived.Shelf.Slices.CompactI
import Derived.Shelf.Slices.In.SortNone
import Derived.Lib.OwnBridge
import Derived.Sort.OwnSortedInts
namespace Go.Proofs
open Go.Shelf
shelf_lay Lays.n189 Nm 189 at Try as Try.laysSort
shelf_lay Lays2.n20 Nm2 20 at Try as Try.laysCompact
end Go.Proofs
set_option linter.unusedVariables false
set_option linter.unusedSimpArgs false
namespace Go.Proofs.Ytmdhdbkeiennmab
open Go.RowKit

def srt (zs : List Int) : List Int := zs.mergeSort fun x y => decide (x ≤ y)
/-- The numbers in order, each once. -/
def cps (zs : List Int) : List Int := Lib.compact (srt zs)
theorem srt_length (zs : List Int) : (srt zs).length = zs.length := List.length_mergeSort zs
theorem srt_mem (zs : List Int) (x : Int) : x ∈ srt zs ↔ x ∈ zs := (List.mergeSort_perm zs _).mem_iff
theorem srt_sorted (zs : List Int) : (srt zs).Pairwise (· ≤ ·) := by
  have h := List.pairwise_mergeSort (le := fun (x y : Int) => decide (x ≤ y)) (fun a b c h1 h2 => by simp at *; omega) (fun a b => by simp; omega) zs
  exact h.imp fun h => of_decide_eq_true h
theorem compact_le (zs : List Int) : (Lib.compact zs).length ≤ zs.length := by
  unfold Lib.compact Lib.compactUpTo
  rw [List.length_map]
  exact Nat.le_trans (List.length_filter_le _ _) (by simp)
theorem cps_len (zs : List Int) : (cps zs).length ≤ zs.length := by
  unfold cps
  have := compact_le (srt zs)
  rw [srt_length] at this
  exact this
theorem mem_compact1 {zs : List Int} {x : Int} (h : x ∈ Lib.compact zs) : x ∈ zs := by
  unfold Lib.compact Lib.compactUpTo at h
  obtain ⟨i, hi, rfl⟩ := List.mem_map.1 h
  have hi' : i < zs.length := List.mem_range.1 (List.mem_filter.1 hi).1
  simp [getElem!_pos, hi']
theorem mem_compact2 {zs : List Int} : ∀ j, j < zs.length → zs.toArray[j]! ∈ Lib.compact zs
  | j, hj => by
    by_cases hk : Lib.keeps zs.toArray j = true
    · unfold Lib.compact Lib.compactUpTo
      exact List.mem_map.2 ⟨j, List.mem_filter.2 ⟨List.mem_range.2 hj, hk⟩, rfl⟩
    · cases j with
      | zero => exact absurd (Lib.keeps_lt_one zs.toArray 0 (by omega)) hk
      | succ j =>
        have e : zs.toArray[j + 1]! = zs.toArray[j]! := by
          rcases Classical.em (zs.toArray[j + 1]! = zs.toArray[j + 1 - 1]!) with h | h
          · exact h
          · exact absurd (Lib.keeps_pos h) hk
        rw [e]
        exact mem_compact2 j (by omega)
theorem cps_mem (zs : List Int) (x : Int) : x ∈ cps zs ↔ x ∈ zs := by
  unfold cps
  constructor
  · intro h; exact (srt_mem zs x).1 (mem_compact1 h)
  · intro h
    obtain ⟨j, hj, rfl⟩ := List.getElem_of_mem ((srt_mem zs x).2 h)
    have := mem_compact2 (zs := srt zs) j hj
    simpa [getElem!_pos, hj] using this
theorem cps_sorted (zs : List Int) : (cps zs).Pairwise (· < ·) := by
  unfold cps Lib.compact Lib.compactUpTo
  rw [List.pairwise_map]
  have hs := srt_sorted zs
  rw [List.pairwise_iff_getElem] at hs
  refine List.Pairwise.imp_of_mem (R := (· < ·)) ?_ (List.pairwise_lt_range.filter _)
  intro i j hi hj hij
  have hil : i < (srt zs).length := List.mem_range.1 (List.mem_filter.1 hi).1
  have hjl : j < (srt zs).length := List.mem_range.1 (List.mem_filter.1 hj).1
  have hk := (List.mem_filter.1 hj).2
  have hne : (srt zs).toArray[j]! ≠ (srt zs).toArray[j - 1]! := by
    intro e
    rw [Lib.keeps_neg (by omega) e] at hk
    simp at hk
  have e1 : (srt zs).toArray[j]! = (srt zs)[j] := by simp [getElem!_pos, hjl]
  have e2 : (srt zs).toArray[j - 1]! = (srt zs)[j - 1]'(by omega) := by simp [getElem!_pos, show j - 1 < (srt zs).length by omega]
  have e3 : (srt zs).toArray[i]! = (srt zs)[i] := by simp [getElem!_pos, hil]
  rw [e1, e2] at hne
  rw [e1, e3]
  have h1 := hs (j - 1) j (by omega) hjl (by omega)
  have h2 : (srt zs)[i] ≤ (srt zs)[j - 1]'(by omega) := by
    rcases Nat.lt_or_ge i (j - 1) with h | h
    · exact hs i (j - 1) hil (by omega) h
    · have : i = j - 1 := by omega
      subst this
      exact Int.le_refl _
  omega
/-- Two increasing lists of the same numbers are one. -/
theorem incr_eq : ∀ {l m : List Int}, l.Pairwise (· < ·) → m.Pairwise (· < ·) → (∀ x, x ∈ l ↔ x ∈ m) → l = m
  | [], [], _, _, _ => rfl
  | [], y :: m, _, _, h => by have := (h y).2 (by simp); simp at this
  | x :: l, [], _, _, h => by have := (h x).1 (by simp); simp at this
  | x :: l, y :: m, h1, h2, h => by
    rw [List.pairwise_cons] at h1 h2
    have exy : x = y := by
      have a := (h x).1 (by simp)
      have b := (h y).2 (by simp)
      simp only [List.mem_cons] at a b
      rcases a with a | a
      · exact a
      · rcases b with b | b
        · exact b.symm
        · have := h1.1 y b
          have := h2.1 x a
          omega
    subst exy
    congr 1
    refine incr_eq h1.2 h2.2 fun z => ?_
    have hz := h z
    simp only [List.mem_cons] at hz
    constructor
    · intro hl
      rcases hz.1 (.inr hl) with e | e
      · have := h1.1 z hl; omega
      · exact e
    · intro hm
      rcases hz.2 (.inr hm) with e | e
      · have := h2.1 z hm; omega
      · exact e
/-- Owned numbers, kept when their block is. -/
theorem own_keepBlk {B : Nat} {w w' : World} {v : Value} {zs : List Int} (h : Own B w v zs) (hk : ∀ g, v.ownBlock = some g → w'.heap[g]? = w.heap[g]?) : Own B w' v zs := by
  refine ⟨h.1, ?_⟩
  rcases h.2 with h2 | ⟨g, cap, cur, rfl, hg, hc, r⟩
  · exact .inl h2
  · exact .inr ⟨g, cap, cur, rfl, hg, by rw [hk g rfl]; exact hc, r⟩
/-- A call put the numbers of block g in order. -/
def RetSrt (B g n c : Nat) (zs : List Int) (w : World) (e : Ending) (w' : World) : Prop :=
  e = .returned (.tuple #[]) ∧ Own B w' (.slice (some ⟨g, 0, none⟩) n c) (srt zs) ∧ w.grownBy w' (some g)
theorem sort_any (B g n c : Nat) (zs : List Int) (w : World) (hn : n ≤ 1000000) (h : Own B w (.slice (some ⟨g, 0, none⟩) n c) zs) :
    Calls Try.prog 72 #[.slice (some ⟨g, 0, none⟩) n c] w (RetSrt B g n c zs w) := by
  obtain ⟨hl, _, hlt, _⟩ := h.shape
  have hH := Lib.holds_of_ownsRow (zs := zs) (enc := Value.int .i64) h (by simp)
  obtain ⟨g', c', e0, hb, hg, hnc, hcm, hln, hHo⟩ := hH
  simp only [Value.slice.injEq, Option.some.injEq, Addr.mk.injEq, and_true, true_and] at e0
  obtain ⟨rfl, _, rfl⟩ := e0
  have hcon := Any.slices_Sort_int Try.laysSort g 0 c zs w hHo hlt (by omega)
  change Calls Try.prog 72 _ _ _ at hcon
  rw [← hl] at hcon
  refine hcon.mono ?_
  rintro e w' ⟨rfl, m, os, rfl⟩
  refine ⟨rfl, ?_, grownBy_sortedI _⟩
  rcases h.2 with ⟨h0, _⟩ | ⟨q, cap, cur, hv, hq, hc, h1, h2, h3, h4⟩
  · simp at h0
  · simp only [Value.slice.injEq, Option.some.injEq, Addr.mk.injEq, and_true] at hv
    obtain ⟨rfl, _, rfl⟩ := hv
    have := ownsRow_sortedI (n := m) (os := os) (ss := zs) (ts := srt zs) (srt_length zs) hq hc (by omega) h2 h3
    unfold Own
    rw [srt_length, hl]
    rw [← hl] at this
    rw [← hl]
    exact this
/-- A call left each number of block g once. -/
def RetCps (B g c : Nat) (zs : List Int) (w : World) (e : Ending) (w' : World) : Prop :=
  e = .returned (.slice (some ⟨g, 0, none⟩) (Lib.compact zs).length c) ∧ Own B w' (.slice (some ⟨g, 0, none⟩) (Lib.compact zs).length c) (Lib.compact zs) ∧ w.grownBy w' (some g)
theorem compact_any (B g n c : Nat) (zs : List Int) (w : World) (hn : n ≤ 1000000) (h : Own B w (.slice (some ⟨g, 0, none⟩) n c) zs) :
    Calls Try.prog 73 #[.slice (some ⟨g, 0, none⟩) n c] w (RetCps B g c zs w) := by
  obtain ⟨hl, _, hlt, hnc, _⟩ := h.shape
  obtain ⟨g', c', e0, hb, hg, hnc', hcm, hln, hHo⟩ := Lib.holds_of_ownsRow (zs := zs) (enc := Value.int .i64) h (by simp)
  simp only [Value.slice.injEq, Option.some.injEq, Addr.mk.injEq, and_true, true_and] at e0
  obtain ⟨rfl, _, rfl⟩ := e0
  have hcon := Any.slices_Compact_int Try.laysCompact g 0 c zs w hHo (by omega) (by omega)
  change Calls Try.prog 73 _ _ _ at hcon
  rw [← hl] at hcon
  refine hcon.mono ?_
  rintro e w' ⟨rfl, q, rfl⟩
  have hle := compact_le zs
  refine ⟨rfl, ?_, ⟨rfl, rfl, rfl, by simp [Sort.putRow, Sort.mapBlock, Sort.ahead], fun k hk hne => ?_⟩⟩
  · have h' : w.ownsRow B 3 1 (.slice (some ⟨g, 0, none⟩) n c) n (zs.map (Value.int .i64)) := by rw [hl]; rw [hl] at h; exact h
    have h2 := Lib.ownsRow_putRow (q := q) (k := (Lib.compact zs).length) (ys := Lib.compact zs ++ List.replicate (n - (Lib.compact zs).length) 0) h' (by simp; omega) (by omega)
    rw [List.take_left' rfl] at h2
    exact h2
  · have : g ≠ k := fun e => hne (by rw [e])
    simp [Sort.putRow, Sort.mapBlock, Sort.ahead, Array.getElem?_modify, this]
theorem sort_none (p : Option Addr) (c : Nat) (w : World) : Calls Try.prog 72 #[.slice p 0 c] w (RetSame (.tuple #[]) w) := by
  have hcon := Any.slices_Sort_int_none Try.laysSort p c w
  change Calls Try.prog 72 _ _ _ at hcon
  exact hcon.mono fun e w' h => ⟨h.1, h.2.symm⟩
theorem compact_none (p : Option Addr) (c : Nat) (w : World) : Calls Try.prog 73 #[.slice p 0 c] w (RetSame (.slice p 0 c) w) := by
  have hcon := Any.slices_Compact_int_empty Try.laysCompact p c w
  change Calls Try.prog 73 _ _ _ at hcon
  exact hcon.mono fun e w' h => ⟨h.1, h.2.symm⟩
end Go.Proofs.Ytmdhdbkeiennmab
