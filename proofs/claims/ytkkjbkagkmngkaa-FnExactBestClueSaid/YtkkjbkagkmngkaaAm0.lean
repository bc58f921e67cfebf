/- Some of the sets of a list, in its order: what a call that picks them returns. -/
import Derived.Test.YtkkjbkagkmngkaaSt0
import Derived.Test.YtkkjbkagkmngkaaRowsAdd
import Derived.Test.YtkkjbkagkmngkaaSu1
set_option linter.unusedVariables false
set_option linter.unusedSimpArgs false
namespace Go.Proofs.Ytkkjbkagkmngkaa
open Go.RowKit

def selN (q : List Int → Bool) (rss : List (List Int)) (k : Nat) : List Nat := (List.range k).filter fun (i : Nat) => q (rss.getD i [])
def subV (q : List Int → Bool) (vs : List Value) (rss : List (List Int)) (k : Nat) : List Value := (selN q rss k).map fun (i : Nat) => vs.getD i (.slice none 0 0)
theorem subV_zero (q : List Int → Bool) (vs : List Value) (rss : List (List Int)) : subV q vs rss 0 = [] := rfl
theorem subV_yes {q : List Int → Bool} {vs : List Value} {rss : List (List Int)} {k : Nat} (h : q (rss.getD k []) = true) : subV q vs rss (k + 1) = subV q vs rss k ++ [vs.getD k (.slice none 0 0)] := by
  unfold subV selN
  rw [List.range_succ, List.filter_append, List.map_append]
  congr 1
  rw [List.filter_cons, if_pos (by simpa using h)]
  simp
theorem subV_no {q : List Int → Bool} {vs : List Value} {rss : List (List Int)} {k : Nat} (h : q (rss.getD k []) = false) : subV q vs rss (k + 1) = subV q vs rss k := by
  unfold subV selN
  rw [List.range_succ, List.filter_append, List.map_append]
  have : List.filter (fun (i : Nat) => q (rss.getD i [])) [k] = [] := by
    rw [List.filter_cons, if_neg (by rw [h]; simp), List.filter_nil]
  rw [this, List.map_nil, List.append_nil]
theorem subV_len (q : List Int → Bool) (vs : List Value) (rss : List (List Int)) (k : Nat) : (subV q vs rss k).length ≤ k := by
  unfold subV selN
  rw [List.length_map]
  exact Nat.le_trans (List.length_filter_le _ _) (by simp)
theorem sub_filter (q : List Int → Bool) (rss : List (List Int)) : (selN q rss rss.length).map (fun (i : Nat) => rss.getD i []) = rss.filter q := by
  have e : (List.range rss.length).map (fun (i : Nat) => rss.getD i []) = rss := by
    apply List.ext_getElem
    · simp
    · intro i h1 h2
      simp [List.getElem?_eq_getElem h2]
  unfold selN
  have h := List.filter_map (p := q) (f := fun (i : Nat) => rss.getD i []) (l := List.range rss.length)
  rw [e] at h
  rw [h]
  rfl
/-- A call returned a list of sets that were there. -/
def RetSub (B : Nat) (rss : List (List Int)) (w : World) (e : Ending) (w' : World) : Prop :=
  ∃ v vs, e = .returned v ∧ OwnSS B w'.heap.size w' v vs rss ∧ Below w.heap.size w w'
theorem sub_own {B U : Nat} {w w' : World} {v u : Value} {vs : List Value} {rss : List (List Int)} {q : List Int → Bool} {n : Nat} (hn : n = rss.length) (h : OwnSS B U w v vs rss) (hU : U ≤ w.heap.size) (hB : B ≤ U) (hb : Below w.heap.size w w')
    (ho : w'.ownsRow w.heap.size 41 1 u (subV q vs rss n).length (subV q vs rss n)) : OwnSS B w'.heap.size w' u (subV q vs rss n) (rss.filter q) := by
  subst hn
  have h' := h.kept hU hb
  have hs := hb.size
  have hlen : (subV q vs rss rss.length).length = (rss.filter q).length := by
    rw [← sub_filter]; simp [subV]
  have hget : ∀ i, i < (rss.filter q).length → ∃ j, (selN q rss rss.length)[i]? = some j ∧ j < rss.length ∧ (subV q vs rss rss.length).getD i (.slice none 0 0) = vs.getD j (.slice none 0 0) ∧ (rss.filter q).getD i [] = rss.getD j [] := by
    intro i hi
    have hsl : i < (selN q rss rss.length).length := by
      rw [← sub_filter, List.length_map] at hi; exact hi
    refine ⟨(selN q rss rss.length)[i], List.getElem?_eq_getElem hsl, ?_, ?_, ?_⟩
    · have := (List.mem_filter.1 (List.getElem_mem hsl)).1
      exact List.mem_range.1 this
    · unfold subV
      rw [List.getD_eq_getElem?_getD, List.getElem?_map, List.getElem?_eq_getElem hsl]
      rfl
    · rw [← sub_filter, List.getD_eq_getElem?_getD, List.getElem?_map, List.getElem?_eq_getElem hsl]
      rfl
  refine ⟨hlen, ?_, fun g hg => (World.ownsRow.lt ho g hg).2, fun i hi => ?_, fun i hi g hg => ?_, fun i j hi hj hij g hg => ?_⟩
  · refine ⟨ho.1, ?_⟩
    rcases ho.2 with h2 | ⟨g, cap, cur, hv, hg, r⟩
    · exact .inl h2
    · exact .inr ⟨g, cap, cur, hv, by omega, r⟩
  · obtain ⟨j, _, hj, e1, e2⟩ := hget i hi
    rw [e1, e2]
    exact h'.row j hj
  · obtain ⟨j, _, hj, e1, e2⟩ := hget i hi
    rw [e1] at hg
    have := h'.rbl j hj g hg
    omega
  · obtain ⟨a, ha, hal, e1, _⟩ := hget i hi
    obtain ⟨b, hb2, hbl, e2, _⟩ := hget j hj
    rw [e1] at hg
    rw [e2]
    refine h'.apart a b hal hbl ?_ g hg
    intro e
    subst e
    have hnd : (selN q rss rss.length).Nodup := List.nodup_range.filter _
    have hi2 := (List.getElem?_eq_some_iff.1 ha)
    have hj2 := (List.getElem?_eq_some_iff.1 hb2)
    obtain ⟨hi3, hi4⟩ := hi2
    obtain ⟨hj3, hj4⟩ := hj2
    exact hij ((List.getElem_inj (i := i) (j := j) (h₀ := hi3) (h₁ := hj3) hnd).1 (by rw [hi4, hj4]))
/-- Lists of ages of one to four children, not very many. -/
def FamA (rss : List (List Int)) : Prop := rss.length ≤ 160000 ∧ ∀ i, i < rss.length → Kids (rss.getD i []) ∧ 1 ≤ (rss.getD i []).length
theorem famA_mem {rss : List (List Int)} (h : FamA rss) {r : List Int} (hr : r ∈ rss) : Kids r ∧ 1 ≤ r.length := by
  obtain ⟨i, hi, rfl⟩ := List.getElem_of_mem hr
  have := h.2 i hi
  simpa [List.getElem?_eq_getElem hi] using this
theorem famA_filter {rss : List (List Int)} (h : FamA rss) (q : List Int → Bool) : FamA (rss.filter q) := by
  refine ⟨Nat.le_trans (List.length_filter_le _ _) h.1, fun i hi => ?_⟩
  have e : (rss.filter q).getD i [] = (rss.filter q)[i] := by simp [List.getElem?_eq_getElem hi]
  rw [e]
  exact famA_mem h (List.mem_filter.1 (List.getElem_mem hi)).1
/-- What is added to the sets so far. -/
theorem sub_push {B : Nat} {w wr w1 : World} {u v' x : Value} {xs : List Value} {o : Obj} (hb : Below w.heap.size w wr) (ho : wr.ownsRow w.heap.size 41 1 u xs.length xs) (hg : (wr.alloc o).grownBy w1 u.ownBlock) : Below w.heap.size w w1 := by
  have h1 := (hb.alloc hb.size o)
  exact h1.grown hg (by have := hb.size; simp; omega) (fun k hk => (World.ownsRow.lt ho k hk).1)
end Go.Proofs.Ytkkjbkagkmngkaa
