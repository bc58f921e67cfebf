/- The statement on GenerationsOf, walked over the contracts of what it calls. -/
import Derived.Test.YthmcimdnbapnhaaKinHelp2
import Derived.Test.YthmcimdnbapnhaaGs2
import Derived.Test.YthmcimdnbapnhaaRowsHelp
set_option linter.unusedVariables false
set_option linter.unusedSimpArgs false
namespace Go.Proofs.Ythmcimdnbapnhaa
open Go.RowKit

set_option maxHeartbeats 1000000 in
theorem law_GenerationsOf_of (a : Option Addr) (n c : Nat) (ds : List Kn) (rss : List (List Int)) (ok : Bool) (hrs : Small rss) (w : World) (h : ArgK w a n ds) (hm : n ≤ maxLen)
    (hs : ∀ b c w, ds.length ≤ 1048576 → ds.length ≤ c → b < w.heap.size → Kns w b 0 ds → Calls Try.prog 34 #[.slice (some ⟨b, 0, none⟩) ds.length c] w (RetSSB rss ok w))
    (hi : ∀ b c w, ds.length ≤ 1048576 → ds.length ≤ c → b < w.heap.size → Kns w b 0 ds → Calls Try.prog 35 #[.slice (some ⟨b, 0, none⟩) ds.length c] w (RetSSB rss ok w)) :
    Calls Try.prog 8 #[.slice a n c] w (Ret (.bool true) w) := by
  obtain ⟨hl, h2⟩ := h
  subst hl
  have h : ArgK w a ds.length ds := ⟨rfl, h2⟩
  have HS := Lib.hid hs
  have HI := Lib.hid hi
  clear h2 hs hi
  by_cases hn : 1048576 < ds.length
  · go_enter Try.func8, Try.ntmps8
    go_wp2_with (go_at_call 15; refine (szKinS_great _ _ _ _ hn hm).mono ?_; rintro e w' ⟨rfl, rfl⟩)
    go_ret
    exact ⟨rfl, Below.refl _ _⟩
  have hn' : ds.length ≤ 1048576 := by omega
  have hleft : ¬ (1048576 : Int) - (ds.length : Int) < 0 := by omega
  have hmark : ¬ (1 : Int) + 3 * (ds.length : Int) < 0 := by omega
  clear hm
  go_enter Try.func8, Try.ntmps8
  go_wp2_with (go_at_call 15; refine (szKinS_any _ _ _ _ hn').mono ?_; rintro e w' ⟨rfl, rfl⟩)
  refine (toKinS_any _ _ _ ds _ h hn').mono ?_
  rintro e w1 ⟨g1, hg1, rfl, ho1, hb1⟩
  go_wp2_with fail
  refine (HS.out _ _ _ hn' (Nat.le_refl _) ho1.shape.2.2.1 ho1.shape.2.2.2.2.1).mono ?_
  rintro e w2 ⟨vs, vvs, rfl, hr2, hb2⟩
  have hb2' := hb1.trans (hb2.mono hb1.size)
  go_wp2_with fail
  refine (toKinS_any _ _ _ ds _ (h.kept hb2') hn').mono ?_
  rintro e w3 ⟨g3, hg3, rfl, ho3, hb3⟩
  have hb3' := hb2'.trans (hb3.mono hb2'.size)
  go_wp2_with fail
  refine (HI.out _ _ _ hn' (Nat.le_refl _) ho3.shape.2.2.1 ho3.shape.2.2.2.2.1).mono ?_
  rintro e w4 ⟨vi, vvi, rfl, hr4, hb4⟩
  have hb4' := hb3'.trans (hb4.mono hb3'.size)
  have z1 := hb1.size
  have z2 := hb2.size
  have z3 := hb3.size
  have z4 := hb4.size
  have hs3 := (hr2.kept (Nat.le_refl _) hb3).kept (by omega) hb4
  have hlt3 := ho3.shape.2.2.1
  have hT := total_le rss hrs rss.length (Nat.le_refl _)
  rw [List.take_length] at hT
  have hT2 := hrs.1
  go_wp2_with fail
  -- the two answers alike
  refine (eqIntSS_any _ _ _ _ _ _ _ _ rss _ hrs hr4 hs3 (Nat.le_refl _) (by omega)).mono ?_
  rintro e w5 ⟨rfl, hb5⟩
  have hb5' := hb4'.trans (hb5.mono hb4'.size)
  have z5 := hb5.size
  go_wp2_with fail
  refine (toKinS_any _ _ _ ds _ (h.kept hb5') hn').mono ?_
  rintro e w6 ⟨g6, hg6, rfl, ho6, hb6⟩
  have hb6' := hb5'.trans (hb6.mono hb5'.size)
  have z6 := hb6.size
  have hx6 := ((ho3.kept hb4).kept hb5).kept hb6
  go_wp2_with fail
  refine (eqKinS_any _ _ _ _ ds _ hn' hx6 ho6).mono ?_
  rintro e w7 ⟨rfl, hb7⟩
  have hb7' := hb6'.trans (hb7.mono hb6'.size)
  have z7 := hb7.size
  have hx7 := hx6.kept hb7
  go_wp2_with fail
  -- the copy that was handed in is marked
  refine (markKinS_some _ _ _ _ ds _ _ rfl hn' (by omega) (by omega) hx7).mono ?_
  rintro e w8 ⟨rfl, hx8, hg8⟩
  have hb8' := below_grownAbove hb7' hg8 (Nat.le_trans hb2'.size hg3)
  have z8 := hg8.size
  have hi7 := ((hr4.kept (Nat.le_refl _) hb5).kept (by omega) hb6).kept (by omega) hb7
  have hs7 := ((hs3.kept (by omega) hb5).kept (by omega) hb6).kept (by omega) hb7
  have hi8 := hi7.keep (w' := w8) fun k h1 h2 => hg8.block k (by omega) (by simp; omega)
  have hs8 := hs7.keep (w' := w8) fun k h1 h2 => hg8.block k (by omega) (by simp; omega)
  go_wp2_with fail
  refine (eqIntSS_any _ _ _ _ _ _ _ _ rss _ hrs hi8 hs8 (by omega) (by omega)).mono ?_
  rintro e w9 ⟨rfl, hb9⟩
  have hb9' := hb8'.trans (hb9.mono hb8'.size)
  have z9 := hb9.size
  go_wp2_with fail
  -- the answer is marked
  refine (markIntSS_any _ _ _ _ rss _ _ hrs (by omega) (by omega) (by omega) (by omega) (hi8.kept (by omega) hb9)).mono ?_
  rintro e w10 ⟨rfl, hi10, hb10⟩
  have hb10' := hb9'.trans (hb10.mono (by have := hb3'.size; omega))
  have z10 := hb10.size
  go_wp2_with fail
  refine (heldIntSS_any _ _ _ _ rss _ _ hrs (by omega) (by omega) (by omega) hi10).mono ?_
  rintro e w11 ⟨rfl, hb11⟩
  have hb11' := hb10'.trans (hb11.mono hb10'.size)
  have z11 := hb11.size
  have hs10 := (hs8.kept (by omega) hb9).keep (w' := w10) fun k h1 h2 => hb10.block k (by omega)
  have hs11 := hs10.kept (by omega) hb11
  go_wp2_with fail
  refine (toKinS_any _ _ _ ds _ (h.kept hb11') hn').mono ?_
  rintro e w12 ⟨g12, hg12, rfl, ho12, hb12⟩
  have hb12' := hb11'.trans (hb12.mono hb11'.size)
  have z12 := hb12.size
  go_wp2_with fail
  refine (HI.out _ _ _ hn' (Nat.le_refl _) ho12.shape.2.2.1 ho12.shape.2.2.2.2.1).mono ?_
  rintro e w13 ⟨vj, vvj, rfl, hr13, hb13⟩
  have hb13' := hb12'.trans (hb13.mono hb12'.size)
  have z13 := hb13.size
  go_wp2_with fail
  refine (eqIntSS_any _ _ _ _ _ _ _ _ rss _ hrs hr13 ((hs11.kept (by omega) hb12).kept (by omega) hb13) (Nat.le_refl _) (by omega)).mono ?_
  rintro e w14 ⟨rfl, hb14⟩
  have hb14' := hb13'.trans (hb14.mono hb13'.size)
  have hi14 := (((hi10.kept (by omega) hb11).kept (by omega) hb12).kept (by omega) hb13).kept (by omega) hb14
  have z14 := hb14.size
  go_wp2_with fail
  refine (heldIntSS_any _ _ _ _ rss _ _ hrs (by omega) (by omega) (by omega) hi14).mono ?_
  rintro e w15 ⟨rfl, hb15⟩
  have hb15' := hb14'.trans (hb15.mono hb14'.size)
  go_wp2_with fail
  go_ret
  exact ⟨rfl, hb15'⟩

theorem law_GenerationsOf (a : Option Addr) (n c : Nat) (ds : List Kn) (w : World) (h : ArgK w a n ds) (hm : n ≤ maxLen) :
    Calls Try.prog 8 #[.slice a n c] w (Ret (.bool true) w) := by
  obtain ⟨rs, ok, hr, hs, hi⟩ := gens_both ds 
  exact law_GenerationsOf_of a n c ds _ _ hr w h hm hs hi
end Go.Proofs.Ythmcimdnbapnhaa
