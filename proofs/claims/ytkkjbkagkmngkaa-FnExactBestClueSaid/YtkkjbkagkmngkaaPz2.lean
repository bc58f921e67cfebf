/- The clue that is none comes to a recovered door: the program. -/
import Derived.Test.YtkkjbkagkmngkaaPz1
import Derived.Recover
import Derived.WalkLawsBesides
import Derived.Laws.Pointers
set_option linter.unusedVariables false
set_option linter.unusedSimpArgs false
namespace Go.Proofs.Ytkkjbkagkmngkaa
open Go.RowKit

theorem frozen_abv {w : World} {g o : Nat} {v : Value} {f : Bool} {j : Nat} (h : w.cell? ⟨g, o, none⟩ = some v) (hz : w.frozen? ⟨g, j, none⟩ = f) (A : Obj) : (w.alloc A).frozen? ⟨g, j, none⟩ = f :=
  ((((Below.refl w.heap.size w).alloc (Nat.le_refl _) A)).frozen (p := ⟨g, j, none⟩) (World.block_lt_of_cell? w ⟨g, o, none⟩ h)).trans hz
theorem require_yes (p : Int) (c : Kn) (h : icB p c = true) (w : World) :
    Calls Try.prog 77 #[.int .i64 p, .agg #[.int .i64 c.1, .int .i64 c.2.1, .int .i64 c.2.2]] w (Ret (.tuple #[]) w) := by
  have HC := Lib.hid (fun w => isClue_any p c w)
  rw [h] at HC
  clear h
  generalize c.1 = k at HC ⊢
  generalize c.2.1 = a at HC ⊢
  generalize c.2.2 = b at HC ⊢
  go_enter Try.func77, Try.ntmps77
  go_wp2_with (go_at_call 70; refine (HC.out _).mono ?_; rintro e w' ⟨rfl, hcall⟩)
  go_end0
  exact ⟨rfl, ((Below.refl w.heap.size w).alloc (Nat.le_refl _) _).trans (hcall.mono (by simp))⟩
theorem require_no (p : Int) (c : Kn) (h : icB p c = false) (w : World) :
    Calls Try.prog 77 #[.int .i64 p, .agg #[.int .i64 c.1, .int .i64 c.2.1, .int .i64 c.2.2]] w fun e w' =>
      e = .panicked [{ v := .iface 54 (.agg #[.int .i64 c.1, .int .i64 c.2.1, .int .i64 c.2.2]), recovered := false }] ∧ Below w.heap.size w w' := by
  have HC := Lib.hid (fun w => isClue_any p c w)
  rw [h] at HC
  clear h
  generalize c.1 = k at HC ⊢
  generalize c.2.1 = a at HC ⊢
  generalize c.2.2 = b at HC ⊢
  have HB := Lib.hid (fun (w' : World) (hcall : Below (w.alloc (.cells #[.int .i64 k, .int .i64 a, .int .i64 b] 54)).heap.size (w.alloc (.cells #[.int .i64 k, .int .i64 a, .int .i64 b] 54)) w') => (show Below w.heap.size w w' ∧ w'.cell? ⟨w.heap.size, 0, none⟩ = some (.int .i64 k) ∧ w'.cell? ⟨w.heap.size, 1, none⟩ = some (.int .i64 a) ∧ w'.cell? ⟨w.heap.size, 2, none⟩ = some (.int .i64 b) from ⟨((Below.refl w.heap.size w).alloc (Nat.le_refl _) _).trans (hcall.mono (by simp)), below_cell2 hcall (by simp [go_sem]), below_cell2 hcall (by simp [go_sem]), below_cell2 hcall (by simp [go_sem])⟩))
  go_enter Try.func77, Try.ntmps77
  go_wp2_with (go_at_call 70; refine (HC.out _).mono ?_; rintro e w' ⟨rfl, hcall⟩; obtain ⟨hb, q0, q1, q2⟩ := HB.out _ hcall; clear hcall)
  exact ⟨rfl, rfl, hb⟩

theorem assert_clue (k a b : Int) (w : World) : (Instr.typeAssert (.iface 54 (.agg #[.int .i64 k, .int .i64 a, .int .i64 b])) 20 54 true).run Try.prog w = .ok (.tuple #[.agg #[.int .i64 k, .int .i64 a, .int .i64 b], .bool true]) w := by
  rfl
theorem assert_nil (w : World) : (Instr.typeAssert .nilIface 20 54 true).run Try.prog w = .ok (.tuple #[.agg #[.int .i64 0, .int .i64 0, .int .i64 0], .bool false]) w := by
  rfl
theorem door_panicking (p : Addr) (x : Bool) (k a b : Int) (older : List PanicEntry) (w : World) (hc : w.cell? p = some (.bool x)) (hz : w.frozen? p = false) :
    CallsD Try.prog 76 #[.pointer (some p)] (.panicking ({ v := .iface 54 (.agg #[.int .i64 k, .int .i64 a, .int .i64 b]), recovered := false } :: older)) w fun e u' w' =>
      e = .returned (.tuple #[]) ∧ u' = .panicking ({ v := .iface 54 (.agg #[.int .i64 k, .int .i64 a, .int .i64 b]), recovered := true } :: older) ∧ w' = w.setCell p (.bool true) := by
  refine callsD_of_wpS Try.func76 rfl fun c₀ cs hu => ?_
  apply wpS_region
  simp [wpOpsS, go_sem, assert_clue, assert_nil, recoverD, hu, Try.ntmps76, Exit.thenS, hc, hz, bodyPostS, results, Try.results76]
theorem door_idle (p : Addr) (x : Bool) (w : World) (hc : w.cell? p = some (.bool x)) (hz : w.frozen? p = false) :
    CallsD Try.prog 76 #[.pointer (some p)] .returning w fun e u' w' =>
      e = .returned (.tuple #[]) ∧ u' = .returning ∧ w' = w.setCell p (.bool false) := by
  refine callsD_of_wpS Try.func76 rfl fun c₀ cs hu => ?_
  apply wpS_region
  simp [wpOpsS, go_sem, assert_clue, assert_nil, recoverD, hu, Try.ntmps76, Exit.thenS, hc, hz, bodyPostS, results, Try.results76]
  cases c₀
  simp_all

/-- None of the first k clues is false. -/
def cluesTo (p : Int) (ds : List Kn) (k : Nat) : Bool := (List.range k).all fun j => icB p (at3 ds j)
theorem cluesTo_succ (p : Int) (ds : List Kn) (k : Nat) : cluesTo p ds (k + 1) = (cluesTo p ds k && icB p (at3 ds k)) := by
  unfold cluesTo; rw [List.range_succ, List.all_append]; simp
theorem cluesTo_at {p : Int} {ds : List Kn} {n : Nat} (h : cluesTo p ds n = true) (i : Nat) (hi : i < n) : icB p (at3 ds i) = true := by
  unfold cluesTo at h; rw [List.all_eq_true] at h; exact h i (List.mem_range.2 hi)
theorem cluesTo_not {p : Int} {ds : List Kn} {n : Nat} (i : Nat) (hi : i < n) (h : icB p (at3 ds i) = false) : cluesTo p ds n = false := by
  cases e : cluesTo p ds n with
  | false => rfl
  | true => rw [cluesTo_at e i hi] at h; exact absurd h (by simp)

set_option maxHeartbeats 4000000 in
theorem hasFalse_any (p : Int) (b off n c : Nat) (ds : List Kn) (w : World) (hl : ds.length = n) (hn : n ≤ 1048576) (hbl : b < w.heap.size) (hI : Kns w b off ds) :
    Calls Try.prog 55 #[.int .i64 p, .slice (some ⟨b, off, none⟩) n c] w (Ret (.bool (!cluesTo p ds n)) w) := by
  have HL := Lib.hid hl
  have HI := Lib.hid hI
  have hmf : ∀ (fn : Fn) (first cap : Array Value) (w : World), (Instr.makeFunc fn first cap).run Try.prog w = .ok (.func fn first cap) w := fun _ _ _ _ => rfl
  clear hl hI
  go_enter_defers Try.func55, Try.ntmps55
  go_wp2_with fail
  go_loopw [10] (fun v wr => ∃ k : Nat, k ≤ n ∧ v = .int .i64 k ∧ Hid (cluesTo p ds k = true) ∧ Below w.heap.size w wr ∧ wr.cell? ⟨w.heap.size, 0, none⟩ = some (.bool false) ∧ wr.frozen? ⟨w.heap.size, 0, none⟩ = false) (fun v _ => n - (intOf v).toNat)
  case atStart => exact ⟨0, Nat.zero_le _, rfl, Lib.hid rfl, (Below.refl w.heap.size w).alloc (Nat.le_refl _) _, by simp [go_sem], by simp [go_sem]⟩
  case round =>
    obtain ⟨k, hk, rfl, HA, hb, hc, hz⟩ := hrel
    have hsz := hb.size
    have hlt0 : w.heap.size < wr.heap.size := World.block_lt_of_cell? _ ⟨w.heap.size, 0, none⟩ hc
    by_cases hlt : k < n
    · obtain ⟨p1, p2, p3⟩ := (HI.out.kept hb hbl) k (by rw [HL.out]; exact hlt)
      have HS := Lib.hid (cluesTo_succ p ds k)
      rw [HA.out, Bool.true_and] at HS
      have HN := Lib.hid (fun h => cluesTo_not (p := p) (ds := ds) (n := n) k hlt h)
      cases hz1 : icB p (at3 ds k) with
      | true =>
        rw [hz1] at HS
        have HR := Lib.hid (fun w => require_yes p (at3 ds k) hz1 w)
        clear hz1 HN
        generalize (at3 ds k).1 = y at p1 HR
        generalize (at3 ds k).2.1 = d at p2 HR
        generalize (at3 ds k).2.2 = o at p3 HR
        go_wp2_with (go_at_call 77; refine (HR.out _).mono ?_; rintro e w' ⟨rfl, hcall⟩)
        go_roundw
        case rel => exact ⟨k + 1, by omega, by go_num, Lib.hid HS.out, (hb.alloc hsz _).trans (hcall.mono (by simp; omega)), below_cell2 hcall (cell_above hc _), below_frz hcall (by simp; omega) (frozen_abv hc hz _)⟩
        case measure => simp [intOf]; omega
      | false =>
        have HR := Lib.hid (fun w => require_no p (at3 ds k) hz1 w)
        have HZ := Lib.hid (HN.out hz1)
        clear hz1 HN HS
        generalize (at3 ds k).1 = y at p1 HR
        generalize (at3 ds k).2.1 = d at p2 HR
        generalize (at3 ds k).2.2 = o at p3 HR
        have hz0 : w.heap.size ≤ wr.heap.size := hsz
        go_wp2_with (go_at_call 77; refine (HR.out _).mono ?_; rintro e w' ⟨rfl, hcall⟩)
        have hb' := (hb.alloc hsz (.cells #[.int .i64 y, .int .i64 d, .int .i64 o] 54)).trans (hcall.mono (by simp; omega))
        have hc' := below_cell2 hcall (cell_above hc _)
        have hzz := below_frz hcall (by simp; omega) (frozen_abv hc hz _)
        refine leaves_cons (f := 76) (args := #[.pointer (some ⟨w.heap.size, 0, none⟩)]) (by simp) (by simp [go_sem]) ?_
        refine (door_panicking ⟨w.heap.size, 0, none⟩ false y d o [] _ hc' hzz).mono ?_
        rintro e u' w'' ⟨rfl, rfl, rfl⟩
        rw [HZ.out]
        have hcq : (w'.setCell ⟨w.heap.size, 0, none⟩ (.bool true)).cell? ⟨w.heap.size, 0, none⟩ = some (.bool true) := World.cell?_setCell_same _ _ _ hc'
        simp [Leaves, settle, results, Try.results55, go_sem, hcq]
        exact ⟨rfl, hb'.setCell (Nat.le_refl _) _⟩
    · have hkn : k = n := by omega
      subst hkn
      go_wp2_with fail
      have c1 : (wr.setCell ⟨w.heap.size, 0, none⟩ (.bool false)).cell? ⟨w.heap.size, 0, none⟩ = some (.bool false) := World.cell?_setCell_same _ _ _ hc
      have f1 : (wr.setCell ⟨w.heap.size, 0, none⟩ (.bool false)).frozen? ⟨w.heap.size, 0, none⟩ = false := (World.frozen?_setCell _ _ _ _).trans hz
      refine leaves_cons (f := 76) (args := #[.pointer (some ⟨w.heap.size, 0, none⟩)]) (by simp) (by simp [go_sem]) ?_
      refine (door_idle ⟨w.heap.size, 0, none⟩ false _ c1 f1).mono ?_
      rintro e u' w'' ⟨rfl, rfl, rfl⟩
      rw [HA.out]
      have hcq : ((wr.setCell ⟨w.heap.size, 0, none⟩ (.bool false)).setCell ⟨w.heap.size, 0, none⟩ (.bool false)).cell? ⟨w.heap.size, 0, none⟩ = some (.bool false) := World.cell?_setCell_same _ _ _ c1
      simp [Leaves, settle, results, Try.results55, go_sem, hcq]
      exact ⟨rfl, (hb.setCell (Nat.le_refl _) _).setCell (Nat.le_refl _) _⟩

/-- Whether there is a puzzle. -/
def pzB (p : Int) (ds : List Kn) : Bool := inB p 2 3 && (decide (ds.length ≤ 6) && cluesTo p ds ds.length)
set_option maxHeartbeats 4000000 in
theorem isPuzzle_any (p : Int) (b off n c : Nat) (ds : List Kn) (w : World) (hl : ds.length = n) (hn : n ≤ 1048576) (hbl : b < w.heap.size) (hI : Kns w b off ds) :
    Calls Try.prog 18 #[.agg #[.int .i64 p, .slice (some ⟨b, off, none⟩) n c]] w (Ret (.bool (pzB p ds)) w) := by
  have HF := Lib.hid (fun (W : World) (hb : Below w.heap.size w W) => hasFalse_any p b off n c ds W hl hn (Nat.lt_of_lt_of_le hbl hb.size) (hI.kept hb hbl))
  have HB := Lib.hid (show pzB p ds = (inB p 2 3 && (decide (n ≤ 6) && cluesTo p ds n)) by unfold pzB; rw [hl])
  have HW := Lib.hid ((Below.refl w.heap.size w).alloc (Nat.le_refl _) (.cells #[.int .i64 p, .slice (some ⟨b, off, none⟩) n c] 29))
  clear hl hI
  rw [HB.out]
  generalize cluesTo p ds n = x at HF
  cases h1 : inB p 2 3 with
  | false =>
    go_enter Try.func18, Try.ntmps18
    go_wp2_with (go_at_call 54; refine (areHiddenPeople_any _ _).mono ?_; rintro e w' ⟨rfl, rfl⟩)
    go_ret
    exact ⟨rfl, HW.out⟩
  | true =>
    by_cases h6 : n ≤ 6
    · have h6' : ((n : Int) ≤ 6) := by omega
      rw [decide_eq_true h6]
      go_enter Try.func18, Try.ntmps18
      go_wp2_with (first | (go_at_call 54; refine (areHiddenPeople_any _ _).mono ?_; rintro e w' ⟨rfl, rfl⟩) | (go_at_call 55; refine (HF.out _ HW.out).mono ?_; rintro e w' ⟨rfl, hcall⟩))
      go_ret
      exact ⟨by cases x <;> rfl, HW.out.trans (hcall.mono (by simp))⟩
    · have h6' : ¬ ((n : Int) ≤ 6) := by omega
      rw [decide_eq_false h6]
      go_enter Try.func18, Try.ntmps18
      go_wp2_with (first | (go_at_call 54; refine (areHiddenPeople_any _ _).mono ?_; rintro e w' ⟨rfl, rfl⟩))
      go_ret
      exact ⟨rfl, HW.out⟩
end Go.Proofs.Ytkkjbkagkmngkaa
