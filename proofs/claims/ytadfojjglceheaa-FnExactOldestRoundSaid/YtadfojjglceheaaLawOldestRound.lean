/- The statement on OldestRound, walked over the contracts of what it calls. -/
import Derived.Test.YtadfojjglceheaaOd3
set_option linter.unusedVariables false
set_option linter.unusedSimpArgs false
namespace Go.Proofs.Ytadfojjglceheaa
open Go.RowKit

set_option maxHeartbeats 1000000 in
theorem law_OldestRound_of (a : Option Addr) (n c : Nat) (zs : List Int) (x1 : Int) (x2 : Int) (r1 r2 : Int) (ok : Bool) (w : World) (h : Arg w a n zs)
    (hs : ∀ b c w, zs.length ≤ 1048576 → b < w.heap.size → Ints w b 0 zs → Calls Try.prog 30 #[.slice (some ⟨b, 0, none⟩) zs.length c, .int .i64 x1, .int .i64 x2] w (RetIIB r1 r2 ok w))
    (hi : ∀ b c w, zs.length ≤ 1048576 → b < w.heap.size → Ints w b 0 zs → Calls Try.prog 31 #[.slice (some ⟨b, 0, none⟩) zs.length c, .int .i64 x1, .int .i64 x2] w (RetIIB r1 r2 ok w)) :
    Calls Try.prog 10 #[.slice a n c, .int .i64 x1, .int .i64 x2] w (Ret (.bool true) w) := by
  obtain ⟨hl, h2⟩ := h
  subst hl
  have h : Arg w a zs.length zs := ⟨rfl, h2⟩
  have HS := Lib.hid hs
  have HI := Lib.hid hi
  clear h2 hs hi
  by_cases hn : 1048576 < zs.length
  · go_enter Try.func10, Try.ntmps10
    go_wp2
    go_ret
    exact ⟨rfl, Below.refl _ _⟩
  have hn' : zs.length ≤ 1048576 := by omega
  go_enter Try.func10, Try.ntmps10
  go_wp2_with fail
  refine (toIntS_any _ _ _ zs _ h hn').mono ?_
  rintro e w1 ⟨g1, hg1, rfl, ho1, hb1⟩
  go_wp2_with fail
  refine (HS.out _ _ _ hn' ho1.shape.2.2.1 ho1.shape.2.2.2.2.1).mono ?_
  rintro e w2 ⟨rfl, hb2⟩
  have hb2' := hb1.trans (hb2.mono hb1.size)
  go_wp2_with fail
  refine (toIntS_any _ _ _ zs _ (h.kept hb2') hn').mono ?_
  rintro e w3 ⟨g3, hg3, rfl, ho3, hb3⟩
  have hb3' := hb2'.trans (hb3.mono hb2'.size)
  go_wp2_with fail
  refine (HI.out _ _ _ hn' ho3.shape.2.2.1 ho3.shape.2.2.2.2.1).mono ?_
  rintro e w4 ⟨rfl, hb4⟩
  have hb4' := hb3'.trans (hb4.mono hb3'.size)
  go_wp2_with fail
  refine (toIntS_any _ _ _ zs _ (h.kept hb4') hn').mono ?_
  rintro e w5 ⟨g5, hg5, rfl, ho5, hb5⟩
  have hb5' := hb4'.trans (hb5.mono hb4'.size)
  go_wp2_with fail
  refine (eqIntS_any _ _ _ _ zs _ hn' ((ho3.kept hb4).kept hb5) ho5).mono ?_
  rintro e w6 ⟨rfl, hb6⟩
  have hb6' := hb5'.trans (hb6.mono hb5'.size)
  go_wp2_with fail
  go_ret
  exact ⟨rfl, hb6'⟩

theorem law_OldestRound (a : Option Addr) (n c : Nat) (zs : List Int) (x1 : Int) (x2 : Int) (w : World) (h : Arg w a n zs) (_w1 : (Lit.int .i64 x1).wf = true) (_w2 : (Lit.int .i64 x2).wf = true) :
    Calls Try.prog 10 #[.slice a n c, .int .i64 x1, .int .i64 x2] w (Ret (.bool true) w) := by
  obtain ⟨r1, r2, ok, hs, hi⟩ := oldestRound_both zs x1 x2
  exact law_OldestRound_of a n c zs x1 x2 _ _ _ w h hs hi
end Go.Proofs.Ytadfojjglceheaa
