/- The statement on JoinBorn, walked over the contracts of what it calls. -/
import Derived.Test.YtadfojjglceheaaJb
set_option linter.unusedVariables false
set_option linter.unusedSimpArgs false
namespace Go.Proofs.Ytadfojjglceheaa
open Go.RowKit

set_option maxHeartbeats 2000000 in
theorem law_JoinBorn_of (a : Option Addr) (n c : Nat) (zs : List Int) (a2 : Option Addr) (n2 c2 : Nat) (ys : List Int) (rs : List Int) (ok : Bool) (hrs : rs.length ≤ 1048576) (w : World) (h : Arg w a n zs) (h' : Arg w a2 n2 ys)
    (hs : ∀ b1 c1 b2 c2 w, zs.length ≤ 1048576 → ys.length ≤ 1048576 → b1 < w.heap.size → b2 < w.heap.size → Ints w b1 0 zs → Ints w b2 0 ys → Calls Try.prog 32 #[.slice (some ⟨b1, 0, none⟩) zs.length c1, .slice (some ⟨b2, 0, none⟩) ys.length c2] w (RetOwnB rs ok w))
    (hi : ∀ b1 c1 b2 c2 w, zs.length ≤ 1048576 → ys.length ≤ 1048576 → b1 < w.heap.size → b2 < w.heap.size → Ints w b1 0 zs → Ints w b2 0 ys → Calls Try.prog 33 #[.slice (some ⟨b1, 0, none⟩) zs.length c1, .slice (some ⟨b2, 0, none⟩) ys.length c2] w (RetOwnB rs ok w)) :
    Calls Try.prog 11 #[.slice a n c, .slice a2 n2 c2] w (Ret (.bool true) w) := by
  obtain ⟨hl, q2⟩ := h
  subst hl
  obtain ⟨hl', q3⟩ := h'
  subst hl'
  have h : Arg w a zs.length zs := ⟨rfl, q2⟩
  have h' : Arg w a2 ys.length ys := ⟨rfl, q3⟩
  have HS := Lib.hid hs
  have HI := Lib.hid hi
  clear q2 q3 hs hi
  by_cases hn : 1048576 < zs.length
  · go_enter Try.func11, Try.ntmps11
    go_wp2
    go_ret
    exact ⟨rfl, Below.refl _ _⟩
  have hn' : zs.length ≤ 1048576 := by omega
  by_cases hm : 1048576 < ys.length
  · go_enter Try.func11, Try.ntmps11
    go_wp2
    go_ret
    exact ⟨rfl, Below.refl _ _⟩
  have hm' : ys.length ≤ 1048576 := by omega
  go_enter Try.func11, Try.ntmps11
  go_wp2_with fail
  refine (toIntS_any _ _ _ zs _ h hn').mono ?_
  rintro e w0 ⟨g0, hg0, rfl, ho0, hb0⟩
  go_wp2_with fail
  refine (toIntS_any _ _ _ ys _ (h'.kept hb0) hm').mono ?_
  rintro e w1 ⟨g1, hg1, rfl, ho1, hb1⟩
  have hb1' := hb0.trans (hb1.mono hb0.size)
  have ho0' := ho0.kept hb1
  go_wp2_with fail
  refine (HS.out _ _ _ _ _ hn' hm' ho0'.shape.2.2.1 ho1.shape.2.2.1 ho0'.shape.2.2.2.2.1 ho1.shape.2.2.2.2.1).mono ?_
  rintro e w2 ⟨vs, rfl, hr2, hb2⟩
  have hb2' := hb1'.trans (hb2.mono hb1'.size)
  go_wp2_with fail
  refine (toIntS_any _ _ _ zs _ (h.kept hb2') hn').mono ?_
  rintro e w2b ⟨g2, hg2, rfl, ho2, hb2b⟩
  have hb2b' := hb2'.trans (hb2b.mono hb2'.size)
  go_wp2_with fail
  refine (toIntS_any _ _ _ ys _ (h'.kept hb2b') hm').mono ?_
  rintro e w3 ⟨g3, hg3, rfl, ho3, hb3⟩
  have hb3' := hb2b'.trans (hb3.mono hb2b'.size)
  have ho2' := ho2.kept hb3
  go_wp2_with fail
  refine (HI.out _ _ _ _ _ hn' hm' ho2'.shape.2.2.1 ho3.shape.2.2.1 ho2'.shape.2.2.2.2.1 ho3.shape.2.2.2.2.1).mono ?_
  rintro e w4 ⟨vi, rfl, hr4, hb4⟩
  have hb4' := hb3'.trans (hb4.mono hb3'.size)
  have hs3 := ((hr2.kept hb2b).kept hb3).kept hb4
  have hlt2 := ho2'.shape.2.2.1
  have hlt2b := ho2.shape.2.2.1
  have hlt3 := ho3.shape.2.2.1
  have z2 := hb2'.size
  have z2b := hb2b.size
  have z3 := hb3.size
  have z4 := hb4.size
  go_wp2_with fail
  -- the two answers alike
  refine (eqIntS_any _ _ _ _ rs _ hrs hr4 hs3).mono ?_
  rintro e w5 ⟨rfl, hb5⟩
  have hb5' := hb4'.trans (hb5.mono hb4'.size)
  go_wp2_with fail
  refine (toIntS_any _ _ _ zs _ (h.kept hb5') hn').mono ?_
  rintro e w6 ⟨g6, hg6, rfl, ho6, hb6⟩
  have hb6' := hb5'.trans (hb6.mono hb5'.size)
  have hx6 := ((ho2'.kept hb4).kept hb5).kept hb6
  have hy6 := ((ho3.kept hb4).kept hb5).kept hb6
  go_wp2_with fail
  refine (eqIntS_any _ _ _ _ zs _ hn' hx6 ho6).mono ?_
  rintro e w7 ⟨rfl, hb7⟩
  have hb7' := hb6'.trans (hb7.mono hb6'.size)
  have hx7 := hx6.kept hb7
  have hy7 := hy6.kept hb7
  go_wp2_with fail
  refine (toIntS_any _ _ _ ys _ (h'.kept hb7') hm').mono ?_
  rintro e w6c ⟨g6c, hg6c, rfl, ho6c, hb6c⟩
  have hb6c' := hb7'.trans (hb6c.mono hb7'.size)
  have hx6c := hx7.kept hb6c
  have hy6c := hy7.kept hb6c
  go_wp2_with fail
  refine (eqIntS_any _ _ _ _ ys _ hm' hy6c ho6c).mono ?_
  rintro e w7c ⟨rfl, hb7c⟩
  have hb7c' := hb6c'.trans (hb7c.mono hb6c'.size)
  have hx7c := hx6c.kept hb7c
  have hy7c := hy6c.kept hb7c
  have hi7 := (((((hr4.kept hb5).kept hb6).kept hb7).kept hb6c).kept hb7c)
  have hs7 := (((((hs3.kept hb5).kept hb6).kept hb7).kept hb6c).kept hb7c)
  go_wp2_with fail
  -- the copies that were handed in are marked
  refine (markIntS_some _ _ _ _ zs _ _ rfl hn' (by omega) (by omega) hx7c).mono ?_
  rintro e w8 ⟨rfl, hx8, hg8⟩
  have hb8' := below_grownAbove hb7c' hg8 (Nat.le_trans hb2'.size hg2)
  have hi8 := hi7.grownLt hg8 (by omega)
  have hs8 := hs7.grown hg8 (hr2.blockNe hg2)
  have hy8 := hy7c.grown hg8 (by simp [Value.ownBlock]; omega)
  go_wp2_with fail
  refine (markIntS_some _ _ _ _ ys _ _ rfl hm' (by omega) (by omega) hy8).mono ?_
  rintro e w8c ⟨rfl, hx8c, hg8c⟩
  have hb8c' := below_grownAbove hb8' hg8c (Nat.le_trans hb2b'.size hg3)
  have hi8c := hi8.grownLt hg8c (by omega)
  have hs8c := hs8.grown hg8c (hr2.blockNe (by omega))
  go_wp2_with fail
  refine (eqIntS_any _ _ _ _ rs _ hrs hi8c hs8c).mono ?_
  rintro e w9 ⟨rfl, hb9⟩
  have hb9' := hb8c'.trans (hb9.mono hb8c'.size)
  go_wp2_with fail
  -- the answer is marked
  refine (markIntS_any _ _ rs _ _ hrs (by omega) (by omega) (hi8c.kept hb9)).mono ?_
  rintro e w10 ⟨rfl, hi10, hg10⟩
  have hb10' := below_ownAbove hb9' (hi8c.kept hb9) hg10 (Nat.le_trans hb3'.size (Nat.le_refl _))
  go_wp2_with fail
  refine (heldIntS_any _ _ rs _ _ hrs (by omega) (by omega) hi10).mono ?_
  rintro e w11 ⟨rfl, hb11⟩
  have hb11' := hb10'.trans (hb11.mono hb10'.size)
  have hs11 := ((hs8c.kept hb9).grownV hg10 (hr2.ownNe (Nat.le_trans z2b z3) hr4)).kept hb11
  go_wp2_with fail
  refine (toIntS_any _ _ _ zs _ (h.kept hb11') hn').mono ?_
  rintro e w12 ⟨g12, hg12, rfl, ho12, hb12⟩
  have hb12' := hb11'.trans (hb12.mono hb11'.size)
  go_wp2_with fail
  refine (toIntS_any _ _ _ ys _ (h'.kept hb12') hm').mono ?_
  rintro e w12c ⟨g12c, hg12c, rfl, ho12c, hb12c⟩
  have hb12c' := hb12'.trans (hb12c.mono hb12'.size)
  have ho12' := ho12.kept hb12c
  go_wp2_with fail
  refine (HI.out _ _ _ _ _ hn' hm' ho12'.shape.2.2.1 ho12c.shape.2.2.1 ho12'.shape.2.2.2.2.1 ho12c.shape.2.2.2.2.1).mono ?_
  rintro e w13 ⟨vj, rfl, hr13, hb13⟩
  have hb13' := hb12c'.trans (hb13.mono hb12c'.size)
  go_wp2_with fail
  refine (eqIntS_any _ _ _ _ rs _ hrs hr13 (((hs11.kept hb12).kept hb12c).kept hb13)).mono ?_
  rintro e w14 ⟨rfl, hb14⟩
  have hb14' := hb13'.trans (hb14.mono hb13'.size)
  have hi14 := ((((hi10.kept hb11).kept hb12).kept hb12c).kept hb13).kept hb14
  go_wp2_with fail
  refine (heldIntS_any _ _ rs _ _ hrs (by omega) (by omega) hi14).mono ?_
  rintro e w15 ⟨rfl, hb15⟩
  have hb15' := hb14'.trans (hb15.mono hb14'.size)
  go_wp2_with fail
  go_ret
  exact ⟨rfl, hb15'⟩

theorem law_JoinBorn (a : Option Addr) (n c : Nat) (zs : List Int) (a2 : Option Addr) (n2 c2 : Nat) (ys : List Int) (w : World) (h : Arg w a n zs) (h' : Arg w a2 n2 ys) :
    Calls Try.prog 11 #[.slice a n c, .slice a2 n2 c2] w (Ret (.bool true) w) := by
  obtain ⟨rs, ok, hr, hs, hi⟩ := join_both zs ys
  exact law_JoinBorn_of a n c zs a2 n2 c2 ys _ _ hr w h h' hs hi
end Go.Proofs.Ytadfojjglceheaa
