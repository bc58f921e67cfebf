/- ParentsOf, ChildrenOf: both texts. -/
import Derived.Test.YthmcimdnbapnhaaKfPar
import Derived.Test.YthmcimdnbapnhaaKfChi
import Derived.Test.YthmcimdnbapnhaaPq
import Derived.Test.YthmcimdnbapnhaaRetK
set_option linter.unusedVariables false
set_option linter.unusedSimpArgs false
namespace Go.Proofs.Ythmcimdnbapnhaa
open Go.RowKit

theorem whoB_eq (fs : List Kn) (x : Int) : whoB fs x = twoB fs x x := by
  unfold whoB twoB; rw [Bool.and_self]
theorem spPar_any (fs : List Kn) (b c : Nat) (x : Int) (w : World) (hc : fs.length ≤ c) (hbl : b < w.heap.size) (hI : Kns w b 0 fs) :
    Calls Try.prog 25 #[.slice (some ⟨b, 0, none⟩) fs.length c, .int .i64 x] w (RetOwnB (if twoB fs x x = true then (parN fs x.toNat).map fun (n : Nat) => (n : Int) else []) (twoB fs x x) w) := by
  have HT := Lib.hid (faWho_any fs b c x w hc hbl hI)
  rw [whoB_eq] at HT
  cases h2 : twoB fs x x with
  | false =>
    rw [if_neg (by simp)]
    rw [h2] at HT
    clear hI h2
    go_enter Try.func25, Try.ntmps25
    go_wp2_with (first | (go_at_call 57; refine HT.out.mono ?_; rintro e w1 ⟨rfl, hb1⟩; have hs1 := hb1.size))
    go_ret2
    exact ⟨_, rfl, own_nil _ _, hb1⟩
  | true =>
    rw [h2] at HT
    obtain ⟨hf, i, i2, rfl, hii, hi, hi2⟩ := twoB_yes h2
    clear hii hi2 i2
    rw [if_pos rfl, Int.toNat_natCast]
    have hF : Fm fs w b c := ⟨hI, hbl, hc, (famB_len hf).2⟩
    have HS := Lib.hid (fun (W : World) (hb : Below w.heap.size w W) => faParents_any fs b c i W (hF.kept hb) hi)
    rw [parI_eq hf hi] at HS
    change Hid (∀ W hb, Calls _ _ _ _ (RetOwn ((parN fs i).map fun (n : Nat) => (n : Int)) W)) at HS
    clear hI h2 hf hF
    generalize ((parN fs i).map fun (n : Nat) => (n : Int)) = rs at HS ⊢
    go_enter Try.func25, Try.ntmps25
    go_wp2_with (first | (go_at_call 57; refine HT.out.mono ?_; rintro e w1 ⟨rfl, hb1⟩; have hs1 := hb1.size) | (go_at_call 58; refine (HS.out w1 hb1).mono ?_; rintro e w2 ⟨v2, rfl, ho2, hb2⟩))
    go_ret2
    exact ⟨v2, rfl, ho2.mono hs1, hb1.trans (hb2.mono hs1)⟩
theorem Par_both (ds : List Kn) (x1 : Int) : ∃ rs ok, rs.length ≤ 1048576 ∧
    (∀ b c w, ds.length ≤ 1048576 → ds.length ≤ c → b < w.heap.size → Kns w b 0 ds → Calls Try.prog 25 #[.slice (some ⟨b, 0, none⟩) ds.length c, .int .i64 x1] w (RetOwnB rs ok w)) ∧
    (∀ b c w, ds.length ≤ 1048576 → ds.length ≤ c → b < w.heap.size → Kns w b 0 ds → Calls Try.prog 26 #[.slice (some ⟨b, 0, none⟩) ds.length c, .int .i64 x1] w (RetOwnB rs ok w)) := by
  refine ⟨_, _, ?_, fun b c w _ hc hb hI => spPar_any ds b c x1 w hc hb hI, fun b c w _ hc hb hI => imPar_any ds b c x1 w hc hb hI⟩
  split
  · rename_i h
    have h1 := parN_len ds x1.toNat
    have h2 := (famB_len (twoB_yes h).1).2
    rw [allN_len] at h1
    rw [List.length_map]; omega
  · simp
theorem spChi_any (fs : List Kn) (b c : Nat) (x : Int) (w : World) (hc : fs.length ≤ c) (hbl : b < w.heap.size) (hI : Kns w b 0 fs) :
    Calls Try.prog 30 #[.slice (some ⟨b, 0, none⟩) fs.length c, .int .i64 x] w (RetOwnB (if twoB fs x x = true then (chiN fs x.toNat).map fun (n : Nat) => (n : Int) else []) (twoB fs x x) w) := by
  have HT := Lib.hid (faWho_any fs b c x w hc hbl hI)
  rw [whoB_eq] at HT
  cases h2 : twoB fs x x with
  | false =>
    rw [if_neg (by simp)]
    rw [h2] at HT
    clear hI h2
    go_enter Try.func30, Try.ntmps30
    go_wp2_with (first | (go_at_call 57; refine HT.out.mono ?_; rintro e w1 ⟨rfl, hb1⟩; have hs1 := hb1.size))
    go_ret2
    exact ⟨_, rfl, own_nil _ _, hb1⟩
  | true =>
    rw [h2] at HT
    obtain ⟨hf, i, i2, rfl, hii, hi, hi2⟩ := twoB_yes h2
    clear hii hi2 i2
    rw [if_pos rfl, Int.toNat_natCast]
    have hF : Fm fs w b c := ⟨hI, hbl, hc, (famB_len hf).2⟩
    have HS := Lib.hid (fun (W : World) (hb : Below w.heap.size w W) => faChildren_any fs b c i W (hF.kept hb))
    rw [chi_eq fs i] at HS
    change Hid (∀ W hb, Calls _ _ _ _ (RetOwn ((chiN fs i).map fun (n : Nat) => (n : Int)) W)) at HS
    clear hI h2 hf hF
    generalize ((chiN fs i).map fun (n : Nat) => (n : Int)) = rs at HS ⊢
    go_enter Try.func30, Try.ntmps30
    go_wp2_with (first | (go_at_call 57; refine HT.out.mono ?_; rintro e w1 ⟨rfl, hb1⟩; have hs1 := hb1.size) | (go_at_call 61; refine (HS.out w1 hb1).mono ?_; rintro e w2 ⟨v2, rfl, ho2, hb2⟩))
    go_ret2
    exact ⟨v2, rfl, ho2.mono hs1, hb1.trans (hb2.mono hs1)⟩
theorem Chi_both (ds : List Kn) (x1 : Int) : ∃ rs ok, rs.length ≤ 1048576 ∧
    (∀ b c w, ds.length ≤ 1048576 → ds.length ≤ c → b < w.heap.size → Kns w b 0 ds → Calls Try.prog 30 #[.slice (some ⟨b, 0, none⟩) ds.length c, .int .i64 x1] w (RetOwnB rs ok w)) ∧
    (∀ b c w, ds.length ≤ 1048576 → ds.length ≤ c → b < w.heap.size → Kns w b 0 ds → Calls Try.prog 31 #[.slice (some ⟨b, 0, none⟩) ds.length c, .int .i64 x1] w (RetOwnB rs ok w)) := by
  refine ⟨_, _, ?_, fun b c w _ hc hb hI => spChi_any ds b c x1 w hc hb hI, fun b c w _ hc hb hI => imChi_any ds b c x1 w hc hb hI⟩
  split
  · rename_i h
    have h1 := chiN_len ds x1.toNat
    have h2 := (famB_len (twoB_yes h).1).2
    rw [allN_len] at h1
    rw [List.length_map]; omega
  · simp
end Go.Proofs.Ythmcimdnbapnhaa
