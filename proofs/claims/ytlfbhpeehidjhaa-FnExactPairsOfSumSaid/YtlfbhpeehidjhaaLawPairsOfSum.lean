/- The statement on PairsOfSum, walked over the contracts of what it calls. -/
import Derived.Test.YtlfbhpeehidjhaaIps
set_option linter.unusedVariables false
set_option linter.unusedSimpArgs false
namespace Go.Proofs.Ytlfbhpeehidjhaa
open Go.RowKit

set_option maxHeartbeats 1000000 in
theorem law_PairsOfSum_of (x1 : Int) (x2 : Int) (rss : List (List Int)) (ok : Bool) (hrs : Small rss) (w : World)
    (hs : ∀ w, Calls Try.prog 8 #[.int .i64 x1, .int .i64 x2] w (RetSSB rss ok w))
    (hi : ∀ w, Calls Try.prog 9 #[.int .i64 x1, .int .i64 x2] w (RetSSB rss ok w)) :
    Calls Try.prog 4 #[.int .i64 x1, .int .i64 x2] w (Ret (.bool true) w) := by
  have HS := Lib.hid hs
  have HI := Lib.hid hi
  clear hs hi
  go_enter Try.func4, Try.ntmps4
  go_wp2_with fail
  refine (HS.out _).mono ?_
  rintro e w2 ⟨vs, vvs, rfl, hr2, hb2⟩
  have z2 := hb2.size
  go_wp2_with fail
  refine (HI.out _).mono ?_
  rintro e w4 ⟨vi, vvi, rfl, hr4, hb4⟩
  have hb4' := hb2.trans (hb4.mono hb2.size)
  have z4 := hb4.size
  have hs3 := hr2.kept (Nat.le_refl _) hb4
  have hT := total_le rss hrs rss.length (Nat.le_refl _)
  rw [List.take_length] at hT
  have hT2 := hrs.1
  go_wp2_with fail
  refine (eqIntSS_any _ _ _ _ _ _ _ _ rss _ hrs hr4 hs3 (Nat.le_refl _) (by omega)).mono ?_
  rintro e w9 ⟨rfl, hb9⟩
  have hb9' := hb4'.trans (hb9.mono hb4'.size)
  have z9 := hb9.size
  go_wp2_with fail
  refine (markIntSS_any _ _ _ _ rss _ _ hrs (by omega) (by omega) (by omega) (by omega) (hr4.kept (by omega) hb9)).mono ?_
  rintro e w10 ⟨rfl, hi10, hb10⟩
  have hb10' := hb9'.trans (hb10.mono (by omega))
  have z10 := hb10.size
  go_wp2_with fail
  refine (heldIntSS_any _ _ _ _ rss _ _ hrs (by omega) (by omega) (by omega) hi10).mono ?_
  rintro e w11 ⟨rfl, hb11⟩
  have hb11' := hb10'.trans (hb11.mono hb10'.size)
  have z11 := hb11.size
  have hs10 := (hs3.kept (by omega) hb9).keep (w' := w10) fun k h1 h2 => hb10.block k (by omega)
  have hs11 := hs10.kept (by omega) hb11
  go_wp2_with fail
  refine (HI.out _).mono ?_
  rintro e w13 ⟨vj, vvj, rfl, hr13, hb13⟩
  have hb13' := hb11'.trans (hb13.mono hb11'.size)
  have z13 := hb13.size
  go_wp2_with fail
  refine (eqIntSS_any _ _ _ _ _ _ _ _ rss _ hrs hr13 (hs11.kept (by omega) hb13) (Nat.le_refl _) (by omega)).mono ?_
  rintro e w14 ⟨rfl, hb14⟩
  have hb14' := hb13'.trans (hb14.mono hb13'.size)
  have hi14 := ((hi10.kept (by omega) hb11).kept (by omega) hb13).kept (by omega) hb14
  have z14 := hb14.size
  go_wp2_with fail
  refine (heldIntSS_any _ _ _ _ rss _ _ hrs (by omega) (by omega) (by omega) hi14).mono ?_
  rintro e w15 ⟨rfl, hb15⟩
  have hb15' := hb14'.trans (hb15.mono hb14'.size)
  go_wp2_with fail
  go_ret
  exact ⟨rfl, hb15'⟩

theorem law_PairsOfSum (x1 : Int) (x2 : Int) (w : World) (_w1 : (Lit.int .i64 x1).wf = true) (_w2 : (Lit.int .i64 x2).wf = true) :
    Calls Try.prog 4 #[.int .i64 x1, .int .i64 x2] w (Ret (.bool true) w) := by
  obtain ⟨rss, ok, hr, hs, hi⟩ := pairsOfSum_both x1 x2
  exact law_PairsOfSum_of x1 x2 rss ok hr w hs hi
end Go.Proofs.Ytlfbhpeehidjhaa
