/- The statement on CommonAncestors, walked over the contracts of what it calls. -/
import Derived.Test.YtmlcelleohhmcaaKinHelp2
import Derived.Test.YtmlcelleohhmcaaCom
set_option linter.unusedVariables false
set_option linter.unusedSimpArgs false
namespace Go.Proofs.Ytmlcelleohhmcaa
open Go.RowKit

set_option maxHeartbeats 1000000 in
theorem law_CommonAncestors_of (a : Option Addr) (n c : Nat) (ds : List Kn) (x1 : Int) (x2 : Int) (rs : List Int) (ok : Bool) (hrs : rs.length ≤ 1048576) (w : World) (h : ArgK w a n ds) (hm : n ≤ maxLen)
    (hs : ∀ b c w, ds.length ≤ 1048576 → ds.length ≤ c → b < w.heap.size → Kns w b 0 ds → Calls Try.prog 20 #[.slice (some ⟨b, 0, none⟩) ds.length c, .int .i64 x1, .int .i64 x2] w (RetOwnB rs ok w))
    (hi : ∀ b c w, ds.length ≤ 1048576 → ds.length ≤ c → b < w.heap.size → Kns w b 0 ds → Calls Try.prog 21 #[.slice (some ⟨b, 0, none⟩) ds.length c, .int .i64 x1, .int .i64 x2] w (RetOwnB rs ok w)) :
    Calls Try.prog 5 #[.slice a n c, .int .i64 x1, .int .i64 x2] w (Ret (.bool true) w) := by
  obtain ⟨hl, h2⟩ := h
  subst hl
  have h : ArgK w a ds.length ds := ⟨rfl, h2⟩
  have HS := Lib.hid hs
  have HI := Lib.hid hi
  clear h2 hs hi
  by_cases hn : 1048576 < ds.length
  · go_enter Try.func5, Try.ntmps5
    go_wp2_with (go_at_call 9; refine (szKinS_great _ _ _ _ hn hm).mono ?_; rintro e w' ⟨rfl, rfl⟩)
    go_ret
    exact ⟨rfl, Below.refl _ _⟩
  have hn' : ds.length ≤ 1048576 := by omega
  have hleft : ¬ (1048576 : Int) - (ds.length : Int) < 0 := by omega
  have hmark : ¬ (1 : Int) + 3 * (ds.length : Int) < 0 := by omega
  clear hm
  go_enter Try.func5, Try.ntmps5
  go_wp2_with (go_at_call 9; refine (szKinS_any _ _ _ _ hn').mono ?_; rintro e w' ⟨rfl, rfl⟩)
  refine (toKinS_any _ _ _ ds _ h hn').mono ?_
  rintro e w1 ⟨g1, hg1, rfl, ho1, hb1⟩
  go_wp2_with fail
  refine (HS.out _ _ _ hn' (Nat.le_refl _) ho1.shape.2.2.1 ho1.shape.2.2.2.2.1).mono ?_
  rintro e w2 ⟨vs, rfl, hr2, hb2⟩
  have hb2' := hb1.trans (hb2.mono hb1.size)
  go_wp2_with fail
  refine (toKinS_any _ _ _ ds _ (h.kept hb2') hn').mono ?_
  rintro e w3 ⟨g3, hg3, rfl, ho3, hb3⟩
  have hb3' := hb2'.trans (hb3.mono hb2'.size)
  go_wp2_with fail
  refine (HI.out _ _ _ hn' (Nat.le_refl _) ho3.shape.2.2.1 ho3.shape.2.2.2.2.1).mono ?_
  rintro e w4 ⟨vi, rfl, hr4, hb4⟩
  have hb4' := hb3'.trans (hb4.mono hb3'.size)
  have hs3 := (hr2.kept hb3).kept hb4
  have hlt3 := ho3.shape.2.2.1
  have hg3' := hb2'.size
  have hg4' := hb4.size
  go_wp2_with fail
  -- the two answers alike
  refine (eqIntS_any _ _ _ _ rs _ hrs hr4 hs3).mono ?_
  rintro e w5 ⟨rfl, hb5⟩
  have hb5' := hb4'.trans (hb5.mono hb4'.size)
  go_wp2_with fail
  refine (toKinS_any _ _ _ ds _ (h.kept hb5') hn').mono ?_
  rintro e w6 ⟨g6, hg6, rfl, ho6, hb6⟩
  have hb6' := hb5'.trans (hb6.mono hb5'.size)
  have hx6 := ((ho3.kept hb4).kept hb5).kept hb6
  go_wp2_with fail
  refine (eqKinS_any _ _ _ _ ds _ hn' hx6 ho6).mono ?_
  rintro e w7 ⟨rfl, hb7⟩
  have hb7' := hb6'.trans (hb7.mono hb6'.size)
  have hx7 := hx6.kept hb7
  go_wp2_with fail
  -- the copy that was handed in is marked
  refine (markKinS_some _ _ _ _ ds _ _ rfl hn' (by omega) (by omega) hx7).mono ?_
  rintro e w8 ⟨rfl, hx8, hg8⟩
  have hb8' := below_grownAbove hb7' hg8 (Nat.le_trans hb2'.size hg3)
  have hi8 := ((hr4.kept hb5).kept hb6).kept hb7 |>.grownLt hg8 hlt3
  have hs8 := ((hs3.kept hb5).kept hb6).kept hb7 |>.grown hg8 (hr2.blockNe hg3)
  go_wp2_with fail
  refine (eqIntS_any _ _ _ _ rs _ hrs hi8 hs8).mono ?_
  rintro e w9 ⟨rfl, hb9⟩
  have hb9' := hb8'.trans (hb9.mono hb8'.size)
  go_wp2_with fail
  -- the answer is marked
  refine (markIntS_any _ _ rs _ _ hrs (by omega) (by omega) (hi8.kept hb9)).mono ?_
  rintro e w10 ⟨rfl, hi10, hg10⟩
  have hb10' := below_ownAbove hb9' (hi8.kept hb9) hg10 (Nat.le_trans hb3'.size (Nat.le_refl _))
  go_wp2_with fail
  refine (heldIntS_any _ _ rs _ _ hrs (by omega) (by omega) hi10).mono ?_
  rintro e w11 ⟨rfl, hb11⟩
  have hb11' := hb10'.trans (hb11.mono hb10'.size)
  have hs11 := ((hs8.kept hb9).grownV hg10 (hr2.ownNe hb3.size hr4)).kept hb11
  go_wp2_with fail
  refine (toKinS_any _ _ _ ds _ (h.kept hb11') hn').mono ?_
  rintro e w12 ⟨g12, hg12, rfl, ho12, hb12⟩
  have hb12' := hb11'.trans (hb12.mono hb11'.size)
  go_wp2_with fail
  refine (HI.out _ _ _ hn' (Nat.le_refl _) ho12.shape.2.2.1 ho12.shape.2.2.2.2.1).mono ?_
  rintro e w13 ⟨vj, rfl, hr13, hb13⟩
  have hb13' := hb12'.trans (hb13.mono hb12'.size)
  go_wp2_with fail
  refine (eqIntS_any _ _ _ _ rs _ hrs hr13 ((hs11.kept hb12).kept hb13)).mono ?_
  rintro e w14 ⟨rfl, hb14⟩
  have hb14' := hb13'.trans (hb14.mono hb13'.size)
  have hi14 := (((hi10.kept hb11).kept hb12).kept hb13).kept hb14
  go_wp2_with fail
  refine (heldIntS_any _ _ rs _ _ hrs (by omega) (by omega) hi14).mono ?_
  rintro e w15 ⟨rfl, hb15⟩
  have hb15' := hb14'.trans (hb15.mono hb14'.size)
  go_wp2_with fail
  go_ret
  exact ⟨rfl, hb15'⟩

theorem law_CommonAncestors (a : Option Addr) (n c : Nat) (ds : List Kn) (x1 : Int) (x2 : Int) (w : World) (h : ArgK w a n ds) (hm : n ≤ maxLen) (_w1 : (Lit.int .i64 x1).wf = true) (_w2 : (Lit.int .i64 x2).wf = true) :
    Calls Try.prog 5 #[.slice a n c, .int .i64 x1, .int .i64 x2] w (Ret (.bool true) w) := by
  obtain ⟨rs, ok, hr, hs, hi⟩ := Com_both ds x1 x2
  exact law_CommonAncestors_of a n c ds x1 x2 _ _ hr w h hm hs hi
end Go.Proofs.Ytmlcelleohhmcaa
