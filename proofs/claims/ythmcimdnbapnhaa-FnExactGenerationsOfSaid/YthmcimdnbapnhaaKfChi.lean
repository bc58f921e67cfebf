/- kinFor, told by (loop.example/g01369/impl.kindred).children; ChildrenOf of the program. -/
import Derived.Test.YthmcimdnbapnhaaToChi
import Derived.Test.YthmcimdnbapnhaaNm
import Derived.Test.YthmcimdnbapnhaaNm
set_option linter.unusedVariables false
set_option linter.unusedSimpArgs false
namespace Go.Proofs.Ythmcimdnbapnhaa
open Go.RowKit

set_option maxRecDepth 100000 in
set_option maxHeartbeats 1000000 in
theorem kinForChi_any (fs : List Kn) (b0 c : Nat) (x : Int) (w : World) (hc : fs.length ≤ c) (hbl : b0 < w.heap.size) (hI : Kns w b0 0 fs) :
    Calls Try.prog 59 #[.slice (some ⟨b0, 0, none⟩) fs.length c, .int .i64 x, (.func (.func 62) #[] #[])] w (RetOwnB (if twoB fs x x = true then (chiN fs x.toNat).map fun (n : Nat) => (n : Int) else []) (twoB fs x x) w) := by
  cases h2 : twoB fs x x with
  | false =>
    rw [if_neg (by simp)]
    have HT := Lib.hid (tellOneChi_no fs b0 c x w hc hbl hI h2)
    have HN := Lib.hid (fun w => numbers_any fs 0 (.slice none 0 0) [] w (ownR_nil _ _) (by simp))
    clear hI h2
    go_enter Try.func59, Try.ntmps59
    go_wp2_with (first | (go_at_call 82; refine HT.out.mono ?_; rintro e w1 ⟨rfl, hb1⟩) | (go_at_call 83; refine (HN.out _).mono ?_; rintro e w2 ⟨v2, rfl, ho2, hb2⟩))
    go_ret2
    exact ⟨v2, rfl, ho2.mono hb1.size, hb1.trans (hb2.mono hb1.size)⟩
  | true =>
    obtain ⟨hf, i, i2, rfl, hii, hi, hi2⟩ := twoB_yes h2
    clear hii hi2 i2
    rw [if_pos rfl, Int.toNat_natCast]
    have hn := (famB_len hf).2
    have HT := Lib.hid (tellOneChi_yes fs (fun a w' v => OwnR fs w.heap.size w' v (chiN fs a)) b0 c i w hc hbl hI hf hi (fun W hb g cc a hK _ => (children_any fs g cc a W hK).mono (fun e w' h => by
      obtain ⟨v, he, ho, hb2⟩ := h
      exact ⟨v, he, ho.mono hb.size, hb2⟩)))
    have hl : (chiN fs i).length ≤ 14 := by
      have h1 : (chiN fs i).length ≤ (allN fs).length := chiN_len fs i
      rw [allN_len] at h1; omega
    clear hI h2 hf hn
    generalize chiN fs i = ns at HT hl ⊢
    go_enter Try.func59, Try.ntmps59
    go_wp2_with (first | (go_at_call 82; refine HT.out.mono ?_; rintro e w1 ⟨v1, rfl, ho1, hb1⟩) | (go_at_call 83; refine (numbers_any fs _ v1 ns _ ho1 hl).mono ?_; rintro e w2 ⟨v2, rfl, ho2, hb2⟩))
    go_ret2
    exact ⟨v2, rfl, ho2.mono hb1.size, hb1.trans (hb2.mono hb1.size)⟩
theorem imChi_any (fs : List Kn) (b0 c : Nat) (x : Int) (w : World) (hc : fs.length ≤ c) (hbl : b0 < w.heap.size) (hI : Kns w b0 0 fs) :
    Calls Try.prog 31 #[.slice (some ⟨b0, 0, none⟩) fs.length c, .int .i64 x] w (RetOwnB (if twoB fs x x = true then (chiN fs x.toNat).map fun (n : Nat) => (n : Int) else []) (twoB fs x x) w) := by
  have HT := Lib.hid (kinForChi_any fs b0 c x w hc hbl hI)
  clear hI
  generalize (if twoB fs x x = true then (chiN fs x.toNat).map fun (n : Nat) => (n : Int) else []) = rs at HT ⊢
  generalize twoB fs x x = ok at HT ⊢
  go_enter Try.func31, Try.ntmps31
  go_wp2_with (go_at_call 59; refine HT.out.mono ?_; rintro e w1 ⟨v1, rfl, ho1, hb1⟩)
  go_ret2
  exact ⟨v1, rfl, ho1, hb1⟩
end Go.Proofs.Ythmcimdnbapnhaa
