/- The marks of a kind, by its letter: the program's map. -/
import Derived.Test.YtjabghojenhhiaaDoorMarks
set_option linter.unusedVariables false
set_option linter.unusedSimpArgs false
namespace Go.Proofs.YtjabghojenhhiaaDoor
open Go.RowKit

def letters : List (ByteArray × Value) := [(sP, .agg (pc prB)), (sS, .agg (pc (anyTo sqN 31))), (sC, .agg (pc (anyTo cuN 10))), (sT, .agg (pc (anyTo trN 44))), (sD, .agg (pc dgB)), (sR, .agg (pc (anyTo rdN 96)))]
theorem look_letters (s : ByteArray) : (under s letters).getD (.agg (pc pnone)) = .agg (pc (kOf s)) ∧ (under s letters).isSome = isK s := by
  unfold letters
  cases h : isK s with
  | false =>
    rw [kOf_none h]
    have h' : ¬ (s = sP ∨ s = sS ∨ s = sC ∨ s = sT ∨ s = sD ∨ s = sR) := fun h2 => by rw [(isK_iff s).2 h2] at h; cases h
    simp only [not_or] at h'
    obtain ⟨h1, h2, h3, h4, h5, h6⟩ := h'
    simp only [under, if_neg h1, if_neg h2, if_neg h3, if_neg h4, if_neg h5, if_neg h6]
    exact ⟨rfl, rfl⟩
  | true =>
    rcases (isK_iff s).1 h with rfl | rfl | rfl | rfl | rfl | rfl
    · rw [kOf_p]; simp only [under, if_true]; exact ⟨rfl, rfl⟩
    · rw [kOf_s]; simp only [under]; rw [if_neg (by decide), if_pos trivial]; exact ⟨rfl, rfl⟩
    · rw [kOf_c]; simp only [under]; rw [if_neg (by decide), if_neg (by decide), if_pos trivial]; exact ⟨rfl, rfl⟩
    · rw [kOf_t]; simp only [under]; rw [if_neg (by decide), if_neg (by decide), if_neg (by decide), if_pos trivial]; exact ⟨rfl, rfl⟩
    · rw [kOf_d]; simp only [under]; rw [if_neg (by decide), if_neg (by decide), if_neg (by decide), if_neg (by decide), if_pos trivial]; exact ⟨rfl, rfl⟩
    · rw [kOf_r]; simp only [under]; rw [if_neg (by decide), if_neg (by decide), if_neg (by decide), if_neg (by decide), if_neg (by decide), if_pos trivial]; exact ⟨rfl, rfl⟩
theorem under_ne {s t : ByteArray} {v : Value} {l : List (ByteArray × Value)} (h : s ≠ t) (h2 : under s l = none) : under s ((t, v) :: l) = none := by
  simp only [under, if_neg h, h2]
/-- A call returned a new map of all kinds' marks. -/
def RetLetters (w : World) (e : Ending) (w' : World) : Prop := ∃ b, e = .returned (.map (some b)) ∧ w.heap.size ≤ b ∧ IsMap w' b letters ∧ Below w.heap.size w w'

set_option maxHeartbeats 4000000 in
set_option maxRecDepth 100000 in
theorem byLetter_any (w : World) : Calls Tryd.prog 27 #[] w (RetLetters w) := by
  have hmm := @run_makeMap Tryd.prog
  go_enter Tryd.func27, Tryd.ntmps27
  go_wp2_with fail
  have hb0 : Below w.heap.size w (w.alloc (.map #[] 0)) := (Below.refl _ _).alloc (Nat.le_refl _) _
  have hm0 := isMap_new w
  have hz0 : w.heap.size < (w.alloc (.map #[] 0)).heap.size := by simp
  refine (where_prime _).mono ?_
  rintro e v1 ⟨rfl, hc1⟩
  have hx1 := hm0.kept hc1 hz0
  have hy1 := hb0.trans (hc1.mono hb0.size)
  have hq1 : w.heap.size < v1.heap.size := hx1.lt
  clear hm0 hb0 hc1 hz0
  go_wp2_with (refine wpList_insert_str rfl _ _ _ 44 rfl 9 48 Tryd.underlying44 Tryd.underlying9 w.heap.size _ rfl hx1 _ rfl _ rfl rfl ?_; intro w1 hm1 hg1 hs1)
  have hb1 : Below w.heap.size w w1 := hy1.grown hg1 (by omega) (by intro k hk; simp at hk; omega)
  have hz1 : w.heap.size < w1.heap.size := hm1.lt
  clear hx1 hy1 hg1 hs1 hq1
  go_wp2_with fail
  refine (of_sqN _).mono ?_
  rintro e v2 ⟨rfl, hc2⟩
  have hx2 := hm1.kept hc2 hz1
  have hy2 := hb1.trans (hc2.mono hb1.size)
  have hq2 : w.heap.size < v2.heap.size := hx2.lt
  clear hm1 hb1 hc2 hz1
  go_wp2_with (refine wpList_insert_str rfl _ _ _ 44 rfl 9 48 Tryd.underlying44 Tryd.underlying9 w.heap.size _ rfl hx2 _ rfl _ rfl (under_ne (by decide) rfl) ?_; intro w2 hm2 hg2 hs2)
  have hb2 : Below w.heap.size w w2 := hy2.grown hg2 (by omega) (by intro k hk; simp at hk; omega)
  have hz2 : w.heap.size < w2.heap.size := hm2.lt
  clear hx2 hy2 hg2 hs2 hq2
  go_wp2_with fail
  refine (of_cuN _).mono ?_
  rintro e v3 ⟨rfl, hc3⟩
  have hx3 := hm2.kept hc3 hz2
  have hy3 := hb2.trans (hc3.mono hb2.size)
  have hq3 : w.heap.size < v3.heap.size := hx3.lt
  clear hm2 hb2 hc3 hz2
  go_wp2_with (refine wpList_insert_str rfl _ _ _ 44 rfl 9 48 Tryd.underlying44 Tryd.underlying9 w.heap.size _ rfl hx3 _ rfl _ rfl (under_ne (by decide) (under_ne (by decide) rfl)) ?_; intro w3 hm3 hg3 hs3)
  have hb3 : Below w.heap.size w w3 := hy3.grown hg3 (by omega) (by intro k hk; simp at hk; omega)
  have hz3 : w.heap.size < w3.heap.size := hm3.lt
  clear hx3 hy3 hg3 hs3 hq3
  go_wp2_with fail
  refine (of_trN _).mono ?_
  rintro e v4 ⟨rfl, hc4⟩
  have hx4 := hm3.kept hc4 hz3
  have hy4 := hb3.trans (hc4.mono hb3.size)
  have hq4 : w.heap.size < v4.heap.size := hx4.lt
  clear hm3 hb3 hc4 hz3
  go_wp2_with (refine wpList_insert_str rfl _ _ _ 44 rfl 9 48 Tryd.underlying44 Tryd.underlying9 w.heap.size _ rfl hx4 _ rfl _ rfl (under_ne (by decide) (under_ne (by decide) (under_ne (by decide) rfl))) ?_; intro w4 hm4 hg4 hs4)
  have hb4 : Below w.heap.size w w4 := hy4.grown hg4 (by omega) (by intro k hk; simp at hk; omega)
  have hz4 : w.heap.size < w4.heap.size := hm4.lt
  clear hx4 hy4 hg4 hs4 hq4
  go_wp2_with fail
  refine (where_alike _).mono ?_
  rintro e v5 ⟨rfl, hc5⟩
  have hx5 := hm4.kept hc5 hz4
  have hy5 := hb4.trans (hc5.mono hb4.size)
  have hq5 : w.heap.size < v5.heap.size := hx5.lt
  clear hm4 hb4 hc5 hz4
  go_wp2_with (refine wpList_insert_str rfl _ _ _ 44 rfl 9 48 Tryd.underlying44 Tryd.underlying9 w.heap.size _ rfl hx5 _ rfl _ rfl (under_ne (by decide) (under_ne (by decide) (under_ne (by decide) (under_ne (by decide) rfl)))) ?_; intro w5 hm5 hg5 hs5)
  have hb5 : Below w.heap.size w w5 := hy5.grown hg5 (by omega) (by intro k hk; simp at hk; omega)
  have hz5 : w.heap.size < w5.heap.size := hm5.lt
  clear hx5 hy5 hg5 hs5 hq5
  go_wp2_with fail
  refine (of_rdN _).mono ?_
  rintro e v6 ⟨rfl, hc6⟩
  have hx6 := hm5.kept hc6 hz5
  have hy6 := hb5.trans (hc6.mono hb5.size)
  have hq6 : w.heap.size < v6.heap.size := hx6.lt
  clear hm5 hb5 hc6 hz5
  go_wp2_with (refine wpList_insert_str rfl _ _ _ 44 rfl 9 48 Tryd.underlying44 Tryd.underlying9 w.heap.size _ rfl hx6 _ rfl _ rfl (under_ne (by decide) (under_ne (by decide) (under_ne (by decide) (under_ne (by decide) (under_ne (by decide) rfl))))) ?_; intro w6 hm6 hg6 hs6)
  have hb6 : Below w.heap.size w w6 := hy6.grown hg6 (by omega) (by intro k hk; simp at hk; omega)
  have hz6 : w.heap.size < w6.heap.size := hm6.lt
  clear hx6 hy6 hg6 hs6 hq6
  go_wp2_with fail
  go_ret
  exact ⟨w.heap.size, rfl, Nat.le_refl _, hm6, hb6⟩
end Go.Proofs.YtjabghojenhhiaaDoor
