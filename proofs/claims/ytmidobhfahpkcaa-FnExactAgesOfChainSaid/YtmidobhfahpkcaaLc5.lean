/- LeastChain: both texts. -/
import Derived.Test.YtmidobhfahpkcaaLc4
set_option linter.unusedVariables false
set_option linter.unusedSimpArgs false
namespace Go.Proofs.Ytmidobhfahpkcaa
open Go.RowKit

set_option maxHeartbeats 2000000 in
theorem specLc_any (b c n : Nat) (ds : List Dt) (w : World) (hl : ds.length = n) (hI : Dts w b 0 ds) (hbl : b < w.heap.size) :
    Calls Try.prog 41 #[.slice (some ⟨b, 0, none⟩) n c] w (RetOwnB (lcR ds) (chB ds) w) := by
  have HA0 := raChain_any b 0 n c ds w hl hI hbl
  cases hc : chB ds with
  | false =>
    rw [show lcR ds = [] by simp [lcR, hc]]
    rw [hc] at HA0
    have HA := Lib.hid HA0
    clear HA0 hc
    go_enter Try.func41, Try.ntmps41
    go_wp2_with (first | (go_at_call 69; refine (HA.out).mono ?_; rintro e w1 ⟨rfl, hcall⟩; have hb1 : Below w.heap.size w w1 := hcall; have hd1 := hI.kept hcall hbl; have hl1 := Nat.lt_of_lt_of_le hbl hcall.size; clear hcall))
    go_ret2
    exact ⟨_, rfl, own_nil _ _, hb1⟩
  | true =>
    rw [show lcR ds = zc (lcL ds) by simp [lcR, hc]]
    rw [hc] at HA0
    have HA := Lib.hid HA0
    have HR := Lib.hid (fun (W : World) (h1 : Dts W b 0 ds) (h2 : b < W.heap.size) => raLeast_any b c n ds W hc hl h1 h2)
    clear HA0 hc
    go_enter Try.func41, Try.ntmps41
    go_wp2_with (first | (go_at_call 69; refine (HA.out).mono ?_; rintro e w1 ⟨rfl, hcall⟩; have hb1 : Below w.heap.size w w1 := hcall; have hd1 := hI.kept hcall hbl; have hl1 := Nat.lt_of_lt_of_le hbl hcall.size; clear hcall) | (go_at_call 70; refine (HR.out _ hd1 hl1).mono ?_; rintro e w2 ⟨v, rfl, ho, hcall⟩; have hb2 : Below w.heap.size w w2 := hb1.trans (hcall.mono hb1.size); have ho2 := Own.mono ho hb1.size; clear hcall ho))
    go_ret2
    exact ⟨v, rfl, ho2, hb2⟩
theorem lc_both (ds : List Dt) : ∃ (rs : List Int) (ok : Bool), rs.length ≤ 1048576 ∧ (∀ b c w, ds.length ≤ 1048576 → b < w.heap.size → Dts w b 0 ds → Calls Try.prog 41 #[.slice (some ⟨b, 0, none⟩) ds.length c] w (RetOwnB rs ok w)) ∧ ∀ b c w, ds.length ≤ 1048576 → b < w.heap.size → Dts w b 0 ds → Calls Try.prog 43 #[.slice (some ⟨b, 0, none⟩) ds.length c] w (RetOwnB rs ok w) := by
  refine ⟨_, _, ?_, fun b c w _ hb hI => specLc_any b c _ ds w rfl hI hb, fun b c w _ hb hI => lc_any b c _ ds w rfl hI hb⟩
  unfold lcR
  split
  · next h =>
    have := chB_len h
    rw [zc_length, lcL_length]
    omega
  · simp
end Go.Proofs.Ytmidobhfahpkcaa
