/- The library's stable sort over at most 8 people: older ones first. -/
import Derived.Test.YtjabghojenhhiaaOthers
import Derived.Deep.RegionHeld3
set_option linter.unusedVariables false
set_option linter.unusedSimpArgs false
namespace Go.Proofs.Ytjabghojenhhiaa
open Go.RowKit

def cmpI (x y : Int) : Int := if x < y then -1 else if y < x then 1 else 0
set_option maxHeartbeats 1000000 in
theorem cmpOlder_any (n1 a1 n2 a2 : Int) (w : World) :
    Calls Try.prog 67 #[.agg #[.int .i64 n1, .int .i64 a1], .agg #[.int .i64 n2, .int .i64 a2]] w (Ret (.int .i64 (cmpI a2 a1)) w) := by
  have hs1 : (a1 != a1) = false := by simp
  have hs2 : (a2 != a2) = false := by simp
  rcases (show a2 < a1 ∨ a2 = a1 ∨ a1 < a2 by omega) with h | h | h
  · have e : cmpI a2 a1 = -1 := by simp [cmpI, h]
    rw [e]; clear e
    go_enter Try.func67, Try.ntmps67
    go_wp2
    go_ret
    exact ⟨rfl, by go_grown⟩
  · have e : cmpI a2 a1 = 0 := by simp [cmpI, h]
    rw [e]; clear e
    subst h
    go_enter Try.func67, Try.ntmps67
    go_wp2
    go_ret
    exact ⟨rfl, by go_grown⟩
  · have e : cmpI a2 a1 = 1 := by unfold cmpI; rw [if_neg (by omega), if_pos h]
    rw [e]; clear e
    go_enter Try.func67, Try.ntmps67
    go_wp2
    go_ret
    exact ⟨rfl, by go_grown⟩

def sw (ps : List (Int × Int)) (j : Nat) : List (Int × Int) := (ps.set j (ps.getD (j - 1) (0, 0))).set (j - 1) (ps.getD j (0, 0))
def sift : Nat → List (Int × Int) → List (Int × Int)
  | 0, ps => ps
  | j + 1, ps => if (ps.getD j (0, 0)).2 < (ps.getD (j + 1) (0, 0)).2 then sift j (sw ps (j + 1)) else ps
def iso : Nat → List (Int × Int) → List (Int × Int)
  | 0, ps => ps
  | i + 1, ps => sift (i + 1) (iso i ps)
theorem sw_length (ps : List (Int × Int)) (j : Nat) : (sw ps j).length = ps.length := by simp [sw]
theorem sift_length : ∀ j ps, (sift j ps).length = ps.length := by
  intro j
  induction j with
  | zero => intro ps; rfl
  | succ j ih => intro ps; unfold sift; split; rw [ih, sw_length]; rfl
theorem iso_length : ∀ i ps, (iso i ps).length = ps.length := by
  intro i
  induction i with
  | zero => intro ps; rfl
  | succ i ih => intro ps; unfold iso; rw [sift_length, ih]

/-- A row of people whose block was g. -/
def PRow (B g c : Nat) (w : World) (ps : List (Int × Int)) : Prop := w.ownsRow B 39 2 (.slice (some ⟨g, 0, none⟩) ps.length c) ps.length (flatP ps)
def RetSort (B g c : Nat) (ps : List (Int × Int)) (w : World) (e : Ending) (w' : World) : Prop :=
  e = .returned (.tuple #[]) ∧ PRow B g c w' ps ∧ Below B w w'

end Go.Proofs.Ytjabghojenhhiaa
