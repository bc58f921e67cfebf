/- People who count in a year, round ages: plain lists. -/
import Derived.Test.YtadfojjglceheaaRo
import Derived.Test.YtadfojjglceheaaDate
set_option linter.unusedVariables false
set_option linter.unusedSimpArgs false
namespace Go.Proofs.Ytadfojjglceheaa
open Go.RowKit

def cnt (b y : Int) : Bool := inB (y - b) 0 120
theorem cnt_iff {b y : Int} : cnt b y = true ↔ 0 ≤ y - b ∧ y - b ≤ 120 := by unfold cnt; exact inB_iff
/-- The people who count in a year among the first k. -/
def pgL (zs : List Int) (y : Int) (k : Nat) : List (Int × Int) := ((List.range k).filter fun i => cnt (zs.getD i 0) y).map fun (i : Nat) => ((i : Int), y - zs.getD i 0)
theorem pgL_zero (zs : List Int) (y : Int) : pgL zs y 0 = [] := rfl
theorem pgL_skip (zs : List Int) (y : Int) (k : Nat) (h : cnt (zs.getD k 0) y = false) : pgL zs y (k + 1) = pgL zs y k := by
  unfold pgL; rw [List.range_succ, List.filter_append]; simp only [List.filter_cons, h, Bool.false_eq_true, if_false, List.filter_nil, List.append_nil]
theorem pgL_take (zs : List Int) (y : Int) (k : Nat) (h : cnt (zs.getD k 0) y = true) : pgL zs y (k + 1) = pgL zs y k ++ [((k : Int), y - zs.getD k 0)] := by
  unfold pgL; rw [List.range_succ, List.filter_append]; simp only [List.filter_cons, h, if_true, List.filter_nil, List.map_append, List.map_cons, List.map_nil]
theorem pgL_len (zs : List Int) (y : Int) (k : Nat) : (pgL zs y k).length ≤ k := by
  unfold pgL; rw [List.length_map]; exact Nat.le_trans (List.length_filter_le _ _) (by simp)
theorem pgL_mem {zs : List Int} {y : Int} {k : Nat} {p : Int × Int} (h : p ∈ pgL zs y k) : 0 ≤ p.1 ∧ p.1 < k ∧ 0 ≤ p.2 ∧ p.2 ≤ 120 := by
  unfold pgL at h
  obtain ⟨i, hi, rfl⟩ := List.mem_map.1 h
  obtain ⟨h1, h2⟩ := List.mem_filter.1 hi
  have h3 := cnt_iff.1 h2
  have h4 : i < k := by simpa using h1
  exact ⟨by simp, by simpa using h4, h3.1, h3.2⟩
theorem getD_memP {ps : List (Int × Int)} {j : Nat} (h : j < ps.length) : at2 ps j ∈ ps := by
  simp [at2, List.getElem?_eq_getElem h]
theorem pgL_at {zs : List Int} {y : Int} {k j : Nat} (h : j < (pgL zs y k).length) : 0 ≤ (at2 (pgL zs y k) j).1 ∧ (at2 (pgL zs y k) j).1 < k ∧ 0 ≤ (at2 (pgL zs y k) j).2 ∧ (at2 (pgL zs y k) j).2 ≤ 120 := pgL_mem (getD_memP h)

/-- A round number. -/
def rnd (a e : Int) : Bool := decide (0 < a) && (a % e == 0)
/-- Those of the first k people whose ages are round. -/
def rdL (ps : List (Int × Int)) (e : Int) (k : Nat) : List (Int × Int) := (ps.take k).filter fun p => rnd p.2 e
theorem rdL_zero (ps : List (Int × Int)) (e : Int) : rdL ps e 0 = [] := rfl
theorem rdL_succ (ps : List (Int × Int)) (e : Int) (k : Nat) (hk : k < ps.length) : rdL ps e (k + 1) = rdL ps e k ++ (if rnd (at2 ps k).2 e = true then [at2 ps k] else []) := by
  unfold rdL
  rw [List.take_succ_eq_append_getElem hk, List.filter_append]
  have e1 : at2 ps k = ps[k] := by simp [at2, List.getElem?_eq_getElem hk]
  rw [e1]
  simp [List.filter_cons]
theorem rdL_skip (ps : List (Int × Int)) (e : Int) (k : Nat) (hk : k < ps.length) (h : rnd (at2 ps k).2 e = false) : rdL ps e (k + 1) = rdL ps e k := by
  rw [rdL_succ _ _ _ hk, h]; simp
theorem rdL_take (ps : List (Int × Int)) (e : Int) (k : Nat) (hk : k < ps.length) (h : rnd (at2 ps k).2 e = true) : rdL ps e (k + 1) = rdL ps e k ++ [at2 ps k] := by
  rw [rdL_succ _ _ _ hk, h]; simp
theorem rdL_len (ps : List (Int × Int)) (e : Int) (k : Nat) : (rdL ps e k).length ≤ k := by
  unfold rdL; exact Nat.le_trans (List.length_filter_le _ _) (by simp; omega)
theorem rdL_mem {ps : List (Int × Int)} {e : Int} {k : Nat} {p : Int × Int} (h : p ∈ rdL ps e k) : p ∈ ps ∧ rnd p.2 e = true := by
  unfold rdL at h
  obtain ⟨h1, h2⟩ := List.mem_filter.1 h
  exact ⟨List.mem_of_mem_take h1, h2⟩

/-- The people with a jubilee among the first k. -/
def jbL (zs : List Int) (y e : Int) (k : Nat) : List Int := ((List.range k).filter fun i => cnt (zs.getD i 0) y && rnd (y - zs.getD i 0) e).map fun (i : Nat) => (i : Int)
theorem jbL_zero (zs : List Int) (y e : Int) : jbL zs y e 0 = [] := rfl
theorem jbL_succ (zs : List Int) (y e : Int) (k : Nat) : jbL zs y e (k + 1) = jbL zs y e k ++ (if (cnt (zs.getD k 0) y && rnd (y - zs.getD k 0) e) = true then [(k : Int)] else []) := by
  unfold jbL
  rw [List.range_succ, List.filter_append, List.map_append]
  congr 1
  simp only [List.filter_cons, List.filter_nil]
  split <;> simp
theorem jbL_skip (zs : List Int) (y e : Int) (k : Nat) (h : (cnt (zs.getD k 0) y && rnd (y - zs.getD k 0) e) = false) : jbL zs y e (k + 1) = jbL zs y e k := by
  rw [jbL_succ, h]; simp
theorem jbL_take (zs : List Int) (y e : Int) (k : Nat) (h : (cnt (zs.getD k 0) y && rnd (y - zs.getD k 0) e) = true) : jbL zs y e (k + 1) = jbL zs y e k ++ [(k : Int)] := by
  rw [jbL_succ, h]; simp
theorem jbL_len (zs : List Int) (y e : Int) (k : Nat) : (jbL zs y e k).length ≤ k := by
  unfold jbL; rw [List.length_map]; exact Nat.le_trans (List.length_filter_le _ _) (by simp)
/-- All round people of a page. -/
def rdA (zs : List Int) (y e : Int) : List (Int × Int) := rdL (pgL zs y zs.length) e (pgL zs y zs.length).length
theorem rdA_eq (zs : List Int) (y e : Int) : rdA zs y e = ((List.range zs.length).filter fun i => cnt (zs.getD i 0) y && rnd (y - zs.getD i 0) e).map fun (i : Nat) => ((i : Int), y - zs.getD i 0) := by
  unfold rdA rdL
  rw [List.take_length]
  unfold pgL
  rw [List.filter_map, List.filter_filter]
  congr 1
  apply List.filter_congr
  intro i _
  simp only [Function.comp]
  exact Bool.and_comm _ _
theorem rdA_num (zs : List Int) (y e : Int) : (rdA zs y e).map (·.1) = jbL zs y e zs.length := by
  rw [rdA_eq, List.map_map]; rfl
theorem rdA_len (zs : List Int) (y e : Int) : (rdA zs y e).length = (jbL zs y e zs.length).length := by
  rw [← rdA_num, List.length_map]

/-- The sum of the ages of those who count among the first k. -/
def sbT (zs : List Int) (y : Int) : Nat → Int
  | 0 => 0
  | k + 1 => sbT zs y k + (if cnt (zs.getD k 0) y = true then y - zs.getD k 0 else 0)
theorem sbT_bd (zs : List Int) (y : Int) : ∀ k, 0 ≤ sbT zs y k ∧ sbT zs y k ≤ 120 * (k : Int)
  | 0 => by simp [sbT]
  | k + 1 => by
    have h := sbT_bd zs y k
    rw [sbT]
    split
    · rename_i hc; have := cnt_iff.1 hc; constructor <;> omega
    · constructor <;> omega
def smP (ps : List (Int × Int)) (k : Nat) : Int := ((ps.take k).map (·.2)).sum
theorem smP_zero (ps : List (Int × Int)) : smP ps 0 = 0 := rfl
theorem smP_succ (ps : List (Int × Int)) (k : Nat) (hk : k < ps.length) : smP ps (k + 1) = smP ps k + (at2 ps k).2 := by
  unfold smP
  rw [List.take_succ_eq_append_getElem hk, List.map_append, List.sum_append]
  simp [at2, List.getElem?_eq_getElem hk]
theorem sum_pg (zs : List Int) (y : Int) : ∀ k, ((pgL zs y k).map (·.2)).sum = sbT zs y k
  | 0 => rfl
  | k + 1 => by
    rw [sbT]
    cases h : cnt (zs.getD k 0) y with
    | true => rw [pgL_take _ _ _ h, List.map_append, List.sum_append, sum_pg zs y k]; simp
    | false => rw [pgL_skip _ _ _ h, sum_pg zs y k]; simp
theorem smP_all (zs : List Int) (y : Int) : smP (pgL zs y zs.length) (pgL zs y zs.length).length = sbT zs y zs.length := by
  unfold smP; rw [List.take_length]; exact sum_pg zs y _
end Go.Proofs.Ytadfojjglceheaa
