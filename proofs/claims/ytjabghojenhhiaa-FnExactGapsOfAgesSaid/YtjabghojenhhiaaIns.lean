/- The library's insertion sort over people: the shelf's contract, laid at this program. -/
import Derived.Shelf.SlSortCmp.InsertionK
import Derived.Test.YtjabghojenhhiaaSort
set_option linter.unusedVariables false
set_option linter.unusedSimpArgs false
namespace Go.Proofs.Ytjabghojenhhiaa
open Go.RowKit Go.Shelf Go.Lib Go.Sort

def insRen : Go.Shelf.Ren := ⟨fun | 20 => 91 | n => n, fun | 24 => 39 | 22 => 40 | 3 => 3 | 25 => 72 | 4 => 4 | 0 => 0 | n => n, fun | n => n⟩
theorem laysIns : Go.Proofs.SlLaysF0.n20 Try.prog insRen := {
  mixed := by kernel_rfl
  f20 := ⟨Try.f91.name, by decide, Try.func91.trans (congrArg some (by kernel_rfl))⟩
  t0 := Try.underlying0
  a0 := Try.isAgg0
  z0 := Try.sizeOf0
  v0 := Try.zeroValue0
  t3 := Try.underlying3
  a3 := Try.isAgg3
  z3 := Try.sizeOf3
  v3 := Try.zeroValue3
  t4 := Try.underlying4
  a4 := Try.isAgg4
  z4 := Try.sizeOf4
  v4 := Try.zeroValue4
  t22 := Try.underlying40
  a22 := Try.isAgg40
  z22 := Try.sizeOf40
  v22 := Try.zeroValue40
  t25 := Try.underlying72
  a25 := Try.isAgg72
  z25 := Try.sizeOf72
  v25 := Try.zeroValue72 }

/-- A person's two cells. -/
def encP (p : Int × Int) : List Value := [.int .i64 p.1, .int .i64 p.2]
def cfP (p q : Int × Int) : Int := cmpI q.2 p.2
set_option maxHeartbeats 1000000 in
theorem cmpOlder_grow (x y : Int × Int) (w : World) :
    Calls Try.prog 67 #[.agg #[.int .i64 x.1, .int .i64 x.2], .agg #[.int .i64 y.1, .int .i64 y.2]] w fun e w' => e = .returned (.int .i64 (cfP x y)) ∧ ∃ q os', w' = grow (w.drewN q) os' := by
  obtain ⟨n1, a1⟩ := x
  obtain ⟨n2, a2⟩ := y
  have hs1 : (a1 != a1) = false := by simp
  have hs2 : (a2 != a2) = false := by simp
  simp only [cfP]
  rcases (show a2 < a1 ∨ a2 = a1 ∨ a1 < a2 by omega) with h | h | h
  · have e : cmpI a2 a1 = -1 := by simp [cmpI, h]
    rw [e]; clear e
    go_enter Try.func67, Try.ntmps67
    go_wp2
    go_ret
    exact ⟨rfl, 0, _, by rw [alloc_eq_grow, alloc_eq_grow, grow_grow]; rfl⟩
  · have e : cmpI a2 a1 = 0 := by simp [cmpI, h]
    rw [e]; clear e
    subst h
    go_enter Try.func67, Try.ntmps67
    go_wp2
    go_ret
    exact ⟨rfl, 0, _, by rw [alloc_eq_grow, alloc_eq_grow, grow_grow]; rfl⟩
  · have e : cmpI a2 a1 = 1 := by unfold cmpI; rw [if_neg (by omega), if_pos h]
    rw [e]; clear e
    go_enter Try.func67, Try.ntmps67
    go_wp2
    go_ret
    exact ⟨rfl, 0, _, by rw [alloc_eq_grow, alloc_eq_grow, grow_grow]; rfl⟩

theorem cmpLaysP (blk off size : Nat) (w : World) : CmpLays Try.prog 67 #[] encP 2 cfP blk off size w := fun _ _ _ _ x y => cmpOlder_grow x y _

/-- What the sort leaves. -/
def insP (d : Array (Int × Int)) : Array (Int × Int) := Sort.insertionSort (ltOf cfP) d 0 d.size
def RetIns (blk : Nat) (d : Array (Int × Int)) (w : World) (e : Ending) (w' : World) : Prop :=
  e = .returned (.tuple #[]) ∧ ∃ n os, w' = sortWorldK encP 2 w blk 0 n (insP d) os

theorem insertion_any (g c : Nat) (d : Array (Int × Int)) (w : World) (hH : HoldsK encP 2 w g 0 d) (hblk : g < w.heap.size) (h8 : d.size ≤ 8) :
    Calls Try.prog 91 #[.slice (some ⟨g, 0, none⟩) d.size c, .int .i64 0, .int .i64 d.size, .func (.func 67) #[] #[]] w (RetIns g d w) := by
  have eg : ∀ args w, (callFunc 67 args).run Try.prog w = .ok (.enter 67 args) w := enters_of Try.func67 (by kernel_rfl) rfl
  have hcon := AnyQ.insertionSortCmpFunc laysIns 2 Try.isAgg39 Try.sizeOf39 encP (fun _ => rfl) (fun x v hv => by simp [encP] at hv; rcases hv with rfl | rfl <;> rfl) cfP 67 #[] g 0 c 0 d.size d w eg (cmpLaysP g 0 d.size w) hH hblk (Nat.zero_le _) (Nat.le_refl _) (by omega)
  exact hcon
end Go.Proofs.Ytjabghojenhhiaa
