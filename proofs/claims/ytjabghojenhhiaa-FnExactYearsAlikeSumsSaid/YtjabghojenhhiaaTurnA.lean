/- YearsTurned: both texts. -/
import Derived.Test.YtjabghojenhhiaaNum
import Derived.Test.YtjabghojenhhiaaWho
import Derived.Test.YtjabghojenhhiaaWhenYearsTurned
import Derived.Deep.QuietTactic
import Derived.BigQuiet
import Derived.IntWalk
set_option linter.unusedVariables false
set_option linter.unusedSimpArgs false
namespace Go.Proofs.Ytjabghojenhhiaa
open Go.RowKit

set_option maxHeartbeats 1000000 in
theorem areDifferent_any (b off c : Nat) (x y : Int) (zs : List Int) (w : World) (hn : zs.length ≤ 1048576) (hbl : b < w.heap.size) (hI : Ints w b off zs) :
    Calls Try.prog 57 #[.slice (some ⟨b, off, none⟩) zs.length c, .int .i64 x, .int .i64 y] w (Ret (.bool (whoB zs x && whoB zs y && (x != y))) w) := by
  have hW := Lib.hid fun A => (Below.refl w.heap.size w).alloc (Nat.le_refl _) A
  have hI' := Lib.hid fun A => hI.kept (hW.out A) hbl
  have HP := Lib.hid (who_two (zs := zs) (a := x) (b := y))
  generalize (whoB zs x && whoB zs y) = r at HP
  go_enter Try.func57, Try.ntmps57
  go_wp2_with fail
  refine (arePeople_any _ _ _ _ _ _ _ _ zs [x, y] _ rfl hn (hI'.out _) rfl (by simp) (ints_two _ _ _ (by simp))).mono ?_
  rintro e w' ⟨rfl, rfl⟩
  rw [HP.out]
  cases r with
  | true =>
    go_wp2_with fail
    go_ret
    exact ⟨rfl, hW.out _⟩
  | false =>
    go_wp2_with fail
    go_ret
    exact ⟨rfl, hW.out _⟩


theorem sameQ {v : Value} {w : World} : ∀ e w', RetSame v w e w' → e = .returned v ∧ w' = w := fun _ _ h => ⟨h.1, h.2.symm⟩
def tT (p q : Int) : Bool := inB q 10 99 && decide (turned q = p)
theorem retBo {a b : Bool} (h : a = b) : Ending.returned (.bool a) = .returned (.bool b) := by rw [h]
set_option maxHeartbeats 4000000 in
theorem turnTest (q g c n o : Nat) (num age : Int) (ys : List Int) (w : World) (hl : ys.length = n) (h8 : n ≤ 8) (ho : o < n) (hgs : g < w.heap.size) (hP : Ppl w g ys)
    (hq : w.cell? ⟨q, 0, none⟩ = some (.int .i64 o)) :
    Calls Try.prog 58 #[.agg #[.int .i64 num, .int .i64 age, .slice (some ⟨g, 0, none⟩) n c], .pointer (some ⟨q, 0, none⟩)] w (Ret (.bool (tT age (ys.getD o 0))) w) := by
  have hW := Lib.hid fun A => (Below.refl w.heap.size w).alloc (Nat.le_refl _) A
  have hql := World.block_lt_of_cell? w _ hq
  have hq' : ∀ A, (w.alloc A).cell? ⟨q, 0, none⟩ = some (.int .i64 o) := fun A => ((hW.out A).cell (p := ⟨q, 0, none⟩) hql).trans hq
  have hc' : ∀ A, (w.alloc A).cell? ⟨g, o * 2 + 1, none⟩ = some (.int .i64 (ys.getD o 0)) := fun A => (hP.kept (hW.out A) hgs).age o (by omega)
  generalize hz : ys.getD o 0 = z at hc' ⊢
  clear hz hP hl hq
  cases hin : inB z 10 99 with
  | false =>
    have HE : Hid (tT age z = false) := Lib.hid (by unfold tT; rw [hin]; rfl)
    have HR := Lib.hid (turnR_no hin)
    go_enter Try.func58, Try.ntmps58
    go_wp2_with (first | (go_at_call 59; refine (turnedAge_any _ _).mono ?_; rintro e w' ⟨rfl, rfl⟩))
    go_ret
    exact ⟨retBo HE.out.symm, hW.out _⟩
  | true =>
    have HR := Lib.hid (turnR_yes hin)
    by_cases he : turned z = age
    · have HE : Hid (tT age z = true) := Lib.hid (by unfold tT; rw [hin, decide_eq_true he]; rfl)
      have hd : (age == turnR z) = true := by rw [beq_iff_eq, HR.out, he]
      clear he
      go_enter Try.func58, Try.ntmps58
      go_wp2_with (first | (go_at_call 59; refine (turnedAge_any _ _).mono ?_; rintro e w' ⟨rfl, rfl⟩))
      go_ret
      exact ⟨retBo HE.out.symm, hW.out _⟩
    · have HE : Hid (tT age z = false) := Lib.hid (by unfold tT; rw [hin, decide_eq_false he]; rfl)
      have hd : (age == turnR z) = false := by rw [beq_eq_false_iff_ne, HR.out]; exact fun h => he h.symm
      clear he
      go_enter Try.func58, Try.ntmps58
      go_wp2_with (first | (go_at_call 59; refine (turnedAge_any _ _).mono ?_; rintro e w' ⟨rfl, rfl⟩))
      go_ret
      exact ⟨retBo HE.out.symm, hW.out _⟩
def turnY (zs : List Int) (A B : Nat) (y : Int) : Bool := tT (zs.getD A 0 + y) (zs.getD B 0 + y)
set_option maxHeartbeats 4000000 in
theorem yearsTurned_yes (b off c A B : Nat) (zs : List Int) (w : World) (hn : zs.length ≤ 1048576) (hI : Ints w b off zs) (h1 : (whoB zs A && whoB zs B && ((A : Int) != (B : Int))) = true) (hA : A < zs.length) (hB : B < zs.length) (hg : goodB zs 120 = true) :
    Calls Try.prog 31 #[.slice (some ⟨b, off, none⟩) zs.length c, .int .i64 A, .int .i64 B] w (RetOwnB (found (turnY zs A B) zs) true w) := by
  have hmf : ∀ (fn : Fn) (first cap : Array Value) (w : World), (Instr.makeFunc fn first cap).run Try.prog w = .ok (.func fn first cap) w := fun _ _ _ _ => rfl
  have h8 := goodB_len hg
  have hbl := ints_lt hI (by omega)
  have hW := Lib.hid fun A => ((Below.refl w.heap.size w).alloc (Nat.le_refl _) A)
  have hI' := Lib.hid fun A => hI.kept (hW.out A) hbl
  have hq1 : (w.alloc (.cells #[.int .i64 (B : Int)] 3)).cell? ⟨w.heap.size, 0, none⟩ = some (.int .i64 (B : Int)) := by simp
  have HT := Lib.hid (show ∀ W1, Below (w.alloc (.cells #[.int .i64 (B : Int)] 3)).heap.size (w.alloc (.cells #[.int .i64 (B : Int)] 3)) W1 → TestsYearsTurned (.pointer (some ⟨w.heap.size, 0, none⟩)) A zs (turnY zs A B) W1 from
    fun W1 hW1 y y1 y2 g c W hB' hgs hP => by
      have hf : fitB zs y = true := by unfold fitB; rw [hg, inB_true y1 y2]; rfl
      obtain ⟨_, _, hl, hz⟩ := fit_in hf
      have e1 := agesIn_getD zs y A hA
      have e2 := agesIn_getD zs y B hB
      have k1 := (hW1.cell (p := ⟨w.heap.size, 0, none⟩) (by simp)).trans hq1
      have k2 := (hB'.cell (p := ⟨w.heap.size, 0, none⟩) (World.block_lt_of_cell? W1 _ k1)).trans k1
      have := turnTest _ g c _ B A ((agesIn zs y).getD A 0) (agesIn zs y) W hl (by omega) hB hgs hP k2
      rw [e2] at this
      rw [e1] at this ⊢
      exact this)
  generalize turnY zs A B = test at HT ⊢
  have HG := Lib.hid hg
  have H1 := Lib.hid h1
  clear hg h1 hq1
  go_enter Try.func31, Try.ntmps31
  go_wp2_with fail
  refine (areDifferent_any _ _ _ _ _ zs _ hn (by simp; omega) (hI'.out _)).mono ?_
  rw [H1.out]
  rintro e w1 ⟨rfl, hb⟩
  have hb' := (hW.out _).trans (hb.mono (by simp))
  have HT1 := Lib.hid (HT.out w1 hb)
  have hI1 := (hI'.out _).kept hb (by simp; omega)
  clear HT
  go_wp2_with fail
  refine (yearsFor_YearsTurned _ _ _ A _ test zs _ HG.out hA hI1 HT1.out).mono ?_
  rintro e w2 ⟨v, rfl, ho, hb2⟩
  have hb3 := hb'.trans (hb2.mono hb'.size)
  have ho3 := ho.mono hb'.size
  go_wp2_with fail
  go_ret2
  exact ⟨_, rfl, ho3, hb3⟩
theorem yearsTurned_no (b off c : Nat) (x y : Int) (zs : List Int) (w : World) (hn : zs.length ≤ 1048576) (hbl : b < w.heap.size) (hI : Ints w b off zs) (h : (whoB zs x && whoB zs y && (x != y)) = false) :
    Calls Try.prog 31 #[.slice (some ⟨b, off, none⟩) zs.length c, .int .i64 x, .int .i64 y] w (RetOwnB [] false w) := by
  have hW := Lib.hid fun A => ((Below.refl w.heap.size w).alloc (Nat.le_refl _) A)
  have hI' := Lib.hid fun A => hI.kept (hW.out A) hbl
  have H1 := Lib.hid h
  clear h
  go_enter Try.func31, Try.ntmps31
  go_wp2_with fail
  refine (areDifferent_any _ _ _ _ _ zs _ hn (by simp; omega) (hI'.out _)).mono ?_
  rw [H1.out]
  rintro e w1 ⟨rfl, hb⟩
  go_wp2_with fail
  go_ret2
  exact ⟨_, rfl, own_nil _ _, (hW.out _).trans (hb.mono (by simp))⟩
end Go.Proofs.Ytjabghojenhhiaa
