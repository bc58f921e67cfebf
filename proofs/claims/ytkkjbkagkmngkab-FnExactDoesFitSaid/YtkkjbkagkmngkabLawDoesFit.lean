/- The statement on DoesFit, walked over the contracts of what it calls. -/
import Derived.Test.YtkkjbkagkmngkabCluHelp2
import Derived.Test.YtkkjbkagkmngkabPz19
set_option linter.unusedVariables false
set_option linter.unusedSimpArgs false
namespace Go.Proofs.Ytkkjbkagkmngkab
open Go.RowKit

set_option maxHeartbeats 2000000 in
theorem law_DoesFit_of (y f o : Int) (a : Option Addr) (n c : Nat) (zs : List Int) (r ok : Bool) (w : World) (h : Arg w a n zs)
    (hs : ∀ b c w, zs.length ≤ 1048576 → b < w.heap.size → Ints w b 0 zs → Calls Try.prog 5 #[.agg #[.int .i64 y, .int .i64 f, .int .i64 o], .slice (some ⟨b, 0, none⟩) zs.length c] w (RetB2 r ok w))
    (hi : ∀ b c w, zs.length ≤ 1048576 → b < w.heap.size → Ints w b 0 zs → Calls Try.prog 8 #[.agg #[.int .i64 y, .int .i64 f, .int .i64 o], .slice (some ⟨b, 0, none⟩) zs.length c] w (RetB2 r ok w)) :
    Calls Try.prog 3 #[.agg #[.int .i64 y, .int .i64 f, .int .i64 o], .slice a n c] w (Ret (.bool true) w) := by
  obtain ⟨hl, h2⟩ := h
  subst hl
  have h : Arg w a zs.length zs := ⟨rfl, h2⟩
  have HS := Lib.hid hs
  have HI := Lib.hid hi
  have HW0 := Lib.hid ((Below.refl w.heap.size w).alloc (Nat.le_refl _) (.cells #[.int .i64 y, .int .i64 f, .int .i64 o] 23))
  clear h2 hs hi
  by_cases hn : 1048576 < zs.length
  · have hn2 : (1048576 : Int) < (zs.length : Int) := by omega
    go_enter Try.func3, Try.ntmps3
    go_wp2_with fail
    go_ret
    exact ⟨rfl, HW0.out⟩
  have hn' : zs.length ≤ 1048576 := by omega
  have hn2 : ¬ (1048576 : Int) < (zs.length : Int) := by omega
  go_enter Try.func3, Try.ntmps3
  go_wp2_with fail
  refine (toClue_any y f o _).mono ?_
  rintro e w1 ⟨rfl, hb1⟩
  have hb1' := HW0.out.trans (hb1.mono HW0.out.size)
  have q0 : w1.cell? ⟨w.heap.size, 0, none⟩ = some (.int .i64 y) := below_cell2 hb1 (by simp [go_sem])
  have q1 : w1.cell? ⟨w.heap.size, 1, none⟩ = some (.int .i64 f) := below_cell2 hb1 (by simp [go_sem])
  have q2 : w1.cell? ⟨w.heap.size, 2, none⟩ = some (.int .i64 o) := below_cell2 hb1 (by simp [go_sem])
  go_wp2_with fail
  refine (toIntS_any _ _ _ zs _ (h.kept hb1') hn').mono ?_
  rintro e w2 ⟨g2, hg2, rfl, ho2, hb2⟩
  have hb2' := hb1'.trans (hb2.mono hb1'.size)
  replace q0 := below_cell2 hb2 q0
  replace q1 := below_cell2 hb2 q1
  replace q2 := below_cell2 hb2 q2
  go_wp2_with fail
  refine (HS.out _ _ _ hn' ho2.shape.2.2.1 ho2.shape.2.2.2.2.1).mono ?_
  rintro e w3 ⟨rfl, hb3⟩
  have hb3' := hb2'.trans (hb3.mono hb2'.size)
  replace q0 := below_cell2 hb3 q0
  replace q1 := below_cell2 hb3 q1
  replace q2 := below_cell2 hb3 q2
  go_wp2_with fail
  refine (toIntS_any _ _ _ zs _ (h.kept hb3') hn').mono ?_
  rintro e w4 ⟨g4, hg4, rfl, ho4, hb4⟩
  have hb4' := hb3'.trans (hb4.mono hb3'.size)
  replace q0 := below_cell2 hb4 q0
  replace q1 := below_cell2 hb4 q1
  replace q2 := below_cell2 hb4 q2
  go_wp2_with fail
  refine (toClue_any y f o _).mono ?_
  rintro e w5 ⟨rfl, hb5⟩
  have hb5' := hb4'.trans (hb5.mono hb4'.size)
  have ho5 := ho4.kept hb5
  go_wp2_with fail
  refine (HI.out _ _ _ hn' ho5.shape.2.2.1 ho5.shape.2.2.2.2.1).mono ?_
  rintro e w6 ⟨rfl, hb6⟩
  have hb6' := hb5'.trans (hb6.mono hb5'.size)
  have ho6 := ho5.kept hb6
  go_wp2_with fail
  refine (toIntS_any _ _ _ zs _ (h.kept hb6') hn').mono ?_
  rintro e w7 ⟨g7, hg7, rfl, ho7, hb7⟩
  have hb7' := hb6'.trans (hb7.mono hb6'.size)
  have ho67 := ho6.kept hb7
  go_wp2_with fail
  refine (eqIntS_any _ _ _ _ zs _ hn' ho67 ho7).mono ?_
  rintro e w8 ⟨rfl, hb8⟩
  have hb8' := hb7'.trans (hb8.mono hb7'.size)
  go_wp2_with fail
  go_ret
  exact ⟨rfl, hb8'⟩
theorem law_DoesFit (y f o : Int) (a : Option Addr) (n c : Nat) (zs : List Int) (w : World) (h : Arg w a n zs) :
    Calls Try.prog 3 #[.agg #[.int .i64 y, .int .i64 f, .int .i64 o], .slice a n c] w (Ret (.bool true) w) := by
  obtain ⟨r, ok, hs, hi⟩ := doesFit_both (y, f, o) zs
  exact law_DoesFit_of y f o a n c zs r ok w h hs hi
end Go.Proofs.Ytkkjbkagkmngkab
