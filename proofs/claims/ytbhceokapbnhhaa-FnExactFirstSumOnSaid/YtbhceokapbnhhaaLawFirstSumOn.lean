/- The statement on FirstSumOn, walked over the contracts of what it calls. -/
import Derived.Test.YtbhceokapbnhhaaDateHelp2
import Derived.Test.YtbhceokapbnhhaaFs3
set_option linter.unusedVariables false
set_option linter.unusedSimpArgs false
namespace Go.Proofs.Ytbhceokapbnhhaa
open Go.RowKit

set_option maxHeartbeats 2000000 in
theorem law_FirstSumOn_of (a : Option Addr) (n c : Nat) (ds : List Dt) (x1 : Int) (p : Dt) (ok : Bool) (w : World) (h : ArgD w a n ds) (hm : n ≤ maxLen)
    (hs : ∀ b c w, ds.length ≤ 1048576 → b < w.heap.size → Dts w b 0 ds → Calls Try.prog 36 #[.slice (some ⟨b, 0, none⟩) ds.length c, .int .i64 x1] w (RetPB p ok w))
    (hi : ∀ b c w, ds.length ≤ 1048576 → b < w.heap.size → Dts w b 0 ds → Calls Try.prog 37 #[.slice (some ⟨b, 0, none⟩) ds.length c, .int .i64 x1] w (RetPB p ok w)) :
    Calls Try.prog 10 #[.slice a n c, .int .i64 x1] w (Ret (.bool true) w) := by
  obtain ⟨u1, u2⟩ := p
  obtain ⟨hl, h2⟩ := h
  subst hl
  have h : ArgD w a ds.length ds := ⟨rfl, h2⟩
  have HS := Lib.hid hs
  have HI := Lib.hid hi
  clear h2 hs hi
  by_cases hn : 1048576 < ds.length
  · go_enter Try.func10, Try.ntmps10
    go_wp2_with (go_at_call 13; refine (szDateS_great _ _ _ _ hn hm).mono ?_; rintro e w' ⟨rfl, rfl⟩)
    go_ret
    exact ⟨rfl, Below.refl _ _⟩
  have hn' : ds.length ≤ 1048576 := by omega
  have hleft : ¬ (1048576 : Int) - (ds.length : Int) < 0 := by omega
  clear hm
  go_enter Try.func10, Try.ntmps10
  go_wp2_with (go_at_call 13; refine (szDateS_any _ _ _ _ hn').mono ?_; rintro e w' ⟨rfl, rfl⟩)
  refine (toDateS_any _ _ _ ds _ h hn').mono ?_
  rintro e w1 ⟨g1, hg1, rfl, ho1, hb1⟩
  go_wp2_with fail
  refine (HS.out _ _ _ hn' ho1.shape.2.2.1 ho1.shape.2.2.2.2.1).mono ?_
  rintro e w2 ⟨rfl, hb2⟩
  have hb2' := hb1.trans (hb2.mono hb1.size)
  have hb2a := hb2'.alloc hb2'.size (.cells #[.int .i64 u1, .int .i64 u2] 34)
  go_wp2_with fail
  refine (toDateS_any _ _ _ ds _ (h.kept hb2a) hn').mono ?_
  rintro e w3 ⟨g3, hg3, rfl, ho3, hb3⟩
  have hb3' := hb2a.trans (hb3.mono hb2a.size)
  have c1 : w3.cell? ⟨w2.heap.size, 0, none⟩ = some (.int .i64 u1) := below_cell2 hb3 (by simp [go_sem])
  have c2 : w3.cell? ⟨w2.heap.size, 1, none⟩ = some (.int .i64 u2) := below_cell2 hb3 (by simp [go_sem])
  go_wp2_with fail
  refine (HI.out _ _ _ hn' ho3.shape.2.2.1 ho3.shape.2.2.2.2.1).mono ?_
  rintro e w4 ⟨rfl, hb4⟩
  have hb4' := hb3'.trans (hb4.mono hb3'.size)
  replace c1 := below_cell2 hb4 c1
  replace c2 := below_cell2 hb4 c2
  have hal : Below w4.heap.size w4 (w4.alloc (.cells #[.int .i64 u1, .int .i64 u2] 34)) := (Below.refl _ _).alloc (Nat.le_refl _) _
  have hb4a := hb4'.trans (hal.mono hb4'.size)
  have ho4 := (ho3.kept hb4).kept hal
  have z1 := cell_above c1
  have z2 := cell_above c2
  go_wp2_with fail
  refine (eqDate_same u1 u2 _).mono ?_
  rintro e w5 ⟨rfl, hb5⟩
  have hb5' := hb4a.trans (hb5.mono hb4a.size)
  go_wp2_with fail
  refine (toDateS_any _ _ _ ds _ (h.kept hb5') hn').mono ?_
  rintro e w6 ⟨g6, hg6, rfl, ho6, hb6⟩
  have hb6' := hb5'.trans (hb6.mono hb5'.size)
  go_wp2_with fail
  refine (eqDateS_any _ _ _ _ _ _ ds _ hn' ((ho4.kept hb5).kept hb6) ho6).mono ?_
  rintro e w7 ⟨rfl, hb7⟩
  have hb7' := hb6'.trans (hb7.mono hb6'.size)
  go_wp2_with fail
  go_ret
  exact ⟨rfl, hb7'⟩

theorem law_FirstSumOn (a : Option Addr) (n c : Nat) (ds : List Dt) (x1 : Int) (w : World) (h : ArgD w a n ds) (hm : n ≤ maxLen) (_w1 : (Lit.int .i64 x1).wf = true) :
    Calls Try.prog 10 #[.slice a n c, .int .i64 x1] w (Ret (.bool true) w) := by
  obtain ⟨p, ok, hs, hi⟩ := firstSumOn_both ds x1
  exact law_FirstSumOn_of a n c ds x1 p ok w h hm hs hi
end Go.Proofs.Ytbhceokapbnhhaa
