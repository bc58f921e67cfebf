/- kinFor, told by (loop.example/g01369/impl.kindred).descendants; DescendantsOf of the program. -/
import Derived.Test.YtmlcelleohhmcaaToDes
import Derived.Test.YtmlcelleohhmcaaNm
import Derived.Test.YtmlcelleohhmcaaAncs
set_option linter.unusedVariables false
set_option linter.unusedSimpArgs false
namespace Go.Proofs.Ytmlcelleohhmcaa
open Go.RowKit

set_option maxRecDepth 100000 in
set_option maxHeartbeats 1000000 in
theorem kinForDes_any (fs : List Kn) (b0 c : Nat) (x : Int) (w : World) (hc : fs.length ≤ c) (hbl : b0 < w.heap.size) (hI : Kns w b0 0 fs) :
    Calls Try.prog 32 #[.slice (some ⟨b0, 0, none⟩) fs.length c, .int .i64 x, (.func (.func 35) #[] #[])] w (RetOwnB (if twoB fs x x = true then (desN fs x.toNat).map fun (n : Nat) => (n : Int) else []) (twoB fs x x) w) := by
  cases h2 : twoB fs x x with
  | false =>
    rw [if_neg (by simp)]
    have HT := Lib.hid (tellOneDes_no fs b0 c x w hc hbl hI h2)
    have HN := Lib.hid (fun w => numbers_any fs 0 (.slice none 0 0) [] w (ownR_nil _ _) (by simp))
    clear hI h2
    go_enter Try.func32, Try.ntmps32
    go_wp2_with (first | (go_at_call 53; refine HT.out.mono ?_; rintro e w1 ⟨rfl, hb1⟩) | (go_at_call 40; refine (HN.out _).mono ?_; rintro e w2 ⟨v2, rfl, ho2, hb2⟩))
    go_ret2
    exact ⟨v2, rfl, ho2.mono hb1.size, hb1.trans (hb2.mono hb1.size)⟩
  | true =>
    obtain ⟨hf, i, i2, rfl, hii, hi, hi2⟩ := twoB_yes h2
    clear hii hi2 i2
    rw [if_pos rfl, Int.toNat_natCast]
    have hn := (famB_len hf).2
    have HT := Lib.hid (tellOneDes_yes fs (fun a w' v => OwnR fs w.heap.size w' v (desN fs a)) b0 c i w hc hbl hI hf hi (fun W hb g cc a hK h9 => (descendants_any fs g cc a W hK h9).mono (fun e w' h => by
      obtain ⟨v, he, ho, hb2⟩ := h
      exact ⟨v, he, ho.mono hb.size, hb2⟩)))
    have hl : (desN fs i).length ≤ 14 := by
      have h1 : (desN fs i).length ≤ (allN fs).length := desN_len fs i
      rw [allN_len] at h1; omega
    clear hI h2 hf hn
    generalize desN fs i = ns at HT hl ⊢
    go_enter Try.func32, Try.ntmps32
    go_wp2_with (first | (go_at_call 53; refine HT.out.mono ?_; rintro e w1 ⟨v1, rfl, ho1, hb1⟩) | (go_at_call 40; refine (numbers_any fs _ v1 ns _ ho1 hl).mono ?_; rintro e w2 ⟨v2, rfl, ho2, hb2⟩))
    go_ret2
    exact ⟨v2, rfl, ho2.mono hb1.size, hb1.trans (hb2.mono hb1.size)⟩
theorem imDes_any (fs : List Kn) (b0 c : Nat) (x : Int) (w : World) (hc : fs.length ≤ c) (hbl : b0 < w.heap.size) (hI : Kns w b0 0 fs) :
    Calls Try.prog 19 #[.slice (some ⟨b0, 0, none⟩) fs.length c, .int .i64 x] w (RetOwnB (if twoB fs x x = true then (desN fs x.toNat).map fun (n : Nat) => (n : Int) else []) (twoB fs x x) w) := by
  have HT := Lib.hid (kinForDes_any fs b0 c x w hc hbl hI)
  clear hI
  generalize (if twoB fs x x = true then (desN fs x.toNat).map fun (n : Nat) => (n : Int) else []) = rs at HT ⊢
  generalize twoB fs x x = ok at HT ⊢
  go_enter Try.func19, Try.ntmps19
  go_wp2_with (go_at_call 32; refine HT.out.mono ?_; rintro e w1 ⟨v1, rfl, ho1, hb1⟩)
  go_ret2
  exact ⟨v1, rfl, ho1, hb1⟩
end Go.Proofs.Ytmlcelleohhmcaa
