/- Older ones first: the program's method. -/
import Derived.Test.YtjabghojenhhiaaOrd
set_option linter.unusedVariables false
set_option linter.unusedSimpArgs false
namespace Go.Proofs.Ytjabghojenhhiaa
open Go.RowKit Go.Shelf Go.Lib Go.Sort

def peopleL (zs : List Int) : List (Int × Int) := (List.range zs.length).map fun (i : Nat) => ((i : Int), zs.getD i 0)
def ordP (zs : List Int) : List (Int × Int) := insAll [] (peopleL zs)
theorem peopleL_length (zs : List Int) : (peopleL zs).length = zs.length := by simp [peopleL]
theorem ordP_length (zs : List Int) : (ordP zs).length = zs.length := by unfold ordP; rw [insAll_length, peopleL_length]; simp
theorem insP_people (zs : List Int) (h0 : 0 < zs.length) : insP (peopleL zs).toArray = (ordP zs).toArray := by
  have hl := peopleL_length zs
  unfold ordP
  cases h : peopleL zs with
  | nil => rw [h] at hl; simp at hl; omega
  | cons x r => exact insP_list x r
theorem holds_people {w : World} {B g n c : Nat} {zs : List Int} {xs : List Value} (hr : w.ownsRow B 39 2 (.slice (some ⟨g, 0, none⟩) n c) n xs) (h : PplTo zs n xs) (hl : zs.length = n) : HoldsK encP 2 w g 0 (peopleL zs).toArray := by
  intro t ht
  have ht' : t < n * 2 := by simpa [peopleL_length, hl] using ht
  rw [get_flatK _ _ _ _ (by simpa [peopleL_length, hl] using ht')]
  have hq : t / 2 < n := by omega
  have ep : (peopleL zs).toArray[t / 2]! = (((t / 2 : Nat) : Int), zs.getD (t / 2) 0) := by
    rw [getElem!_pos _ _ (by simpa [peopleL_length, hl] using hq)]
    simp [peopleL]
  rw [ep]
  obtain ⟨h1, h2⟩ := h (t / 2) hq
  refine ⟨?_, by simpa using World.ownsRow.frozenAt hr (0 + t)⟩
  show w.cell? ⟨g, 0 + t, none⟩ = _
  rw [Nat.zero_add, World.ownsRow.cellAt hr t ht']
  rcases Nat.mod_two_eq_zero_or_one t with e | e
  · rw [e, show t = 2 * (t / 2) by omega, h1]
    simp [encP]
  · rw [e, show t = 2 * (t / 2) + 1 by omega, h2]
    rw [show (2 * (t / 2) + 1) / 2 = t / 2 by omega]
    simp [encP]
theorem prs_holds {w : World} {g : Nat} {l : List (Int × Int)} (h : HoldsK encP 2 w g 0 l.toArray) : Prs w g (fun j => (l.getD j (0, 0)).1) (l.map (·.2)) := by
  intro j hj
  rw [List.length_map] at hj
  have h0 := (HoldsK.cell h (i := j) (c := 0) (by simpa using hj) (by omega)).1
  have h1 := (HoldsK.cell h (i := j) (c := 1) (by simpa using hj) (by omega)).1
  have ep : l.toArray[j]! = l.getD j (0, 0) := by
    rw [getElem!_pos _ _ (by simpa using hj)]
    simp [List.getElem?_eq_getElem hj]
  rw [ep] at h0 h1
  rw [Nat.zero_add] at h0 h1
  refine ⟨h0, h1.trans ?_⟩
  simp [encP, List.getElem?_map, List.getElem?_eq_getElem hj]
theorem below_sort {B : Nat} {w0 w1 : World} {g m : Nat} {d : Array (Int × Int)} {os : Array Obj} (hb : Below B w0 w1) (hB : B ≤ g) (hs : B ≤ w0.heap.size) : Below B w0 (sortWorldK encP 2 w1 g 0 m d os) := by
  refine ⟨hb.os, hb.tape, hb.output, Nat.le_trans hb.size (size_sortWorldK_c encP 2 w1 g 0 m d os), ?_⟩
  intro k hk
  have hsz := hb.size
  rw [← hb.block k hk]
  unfold sortWorldK
  rw [heap_grow_old _ _ (by rw [size_putRowK]; show k < w1.heap.size; omega)]
  unfold putRowK putRow mapBlock
  show ((w1.heap).modify g _)[k]? = _
  rw [Array.getElem?_modify, if_neg (by omega)]

def RetOlder (zs : List Int) (w : World) (e : Ending) (w' : World) : Prop :=
  ∃ g c, e = .returned (.slice (some ⟨g, 0, none⟩) zs.length c) ∧ w.heap.size ≤ g ∧ g < w'.heap.size ∧ Prs w' g (fun j => ((ordP zs).getD j (0, 0)).1) ((ordP zs).map (·.2)) ∧ Below w.heap.size w w'

set_option maxHeartbeats 1000000 in
theorem older_any (g c : Nat) (who age : Int) (zs : List Int) (w : World) (h0 : 0 < zs.length) (h8 : zs.length ≤ 8) (hgs : g < w.heap.size) (hP : Ppl w g zs) :
    Calls Try.prog 37 #[.agg #[.int .i64 who, .int .i64 age, .slice (some ⟨g, 0, none⟩) zs.length c]] w (RetOlder zs w) := by
  have hP1 := Lib.hid fun A => hP.kept ((Below.refl w.heap.size w).alloc (Nat.le_refl _) A) hgs
  have hA := Lib.hid fun A => (heap_new w A)
  clear hP
  go_enter Try.func37, Try.ntmps37
  go_wp2_with fail
  refine (clone_any _ _ zs _ h0 h8 (by simp; omega) (hP1.out _)).mono ?_
  rintro e w1 ⟨g1, c1, xs, rfl, hr, hx, hb1⟩
  have hlt := World.ownsRow.lt hr g1 rfl
  have hH := holds_people hr hx rfl
  have hbz := ((Below.refl w.heap.size w).alloc (Nat.le_refl _) _).trans (hb1.mono (by simp))
  clear hr hx hb1
  go_wp2_with fail
  refine (sortStable_any _ _ zs.length (peopleL zs).toArray _ (by simp [peopleL_length]) hH hlt.2 h8).mono ?_
  rintro e w2 ⟨rfl, m, os, rfl⟩
  rw [insP_people zs h0]
  have hH2 := holdsK_sortWorldK_c encP 2 w1 g1 0 (peopleL zs).toArray (ordP zs).toArray m os hH hlt.2 (by simp [ordP_length, peopleL_length])
  have hsz := size_sortWorldK_c encP 2 w1 g1 0 m (ordP zs).toArray os
  have hg1 : w.heap.size ≤ g1 := by have := hlt.1; simp at this; omega
  have hb2 := below_sort (m := m) (d := (ordP zs).toArray) (os := os) hbz hg1 (Nat.le_refl _)
  have hp2 := prs_holds hH2
  have hg2 : g1 < (sortWorldK encP 2 w1 g1 0 m (ordP zs).toArray os).heap.size := by omega
  clear hH2 hH
  generalize sortWorldK encP 2 w1 g1 0 m (ordP zs).toArray os = w2 at *
  go_wp2_with fail
  go_ret
  exact ⟨g1, c1, rfl, hg1, hg2, hp2, hb2⟩
end Go.Proofs.Ytjabghojenhhiaa
