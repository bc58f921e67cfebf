/- AreSiblings, AreHalf, AreCousins: both texts. -/
import Derived.Test.YthmcimdnbapnhaaTtSib
import Derived.Test.YthmcimdnbapnhaaTtHalf
import Derived.Test.YthmcimdnbapnhaaTtCous
import Derived.Test.YthmcimdnbapnhaaPq
import Derived.Test.YthmcimdnbapnhaaRetK
set_option linter.unusedVariables false
set_option linter.unusedSimpArgs false
namespace Go.Proofs.Ythmcimdnbapnhaa
open Go.RowKit

theorem twoM_eq (fs : List Kn) (x y : Int) : twoM fs x y = twoB fs x y := by
  unfold twoM whoB twoB; rw [Bool.and_assoc]
/-- What is told of two where there are two. -/
def ofTwo (fs : List Kn) (q : Nat → Nat → Bool) (x y : Int) : Bool := twoB fs x y && q x.toNat y.toNat
theorem imSib_any (fs : List Kn) (b c : Nat) (x y : Int) (w : World) (hc : fs.length ≤ c) (hbl : b < w.heap.size) (hI : Kns w b 0 fs) :
    Calls Try.prog 40 #[.slice (some ⟨b, 0, none⟩) fs.length c, .int .i64 x, .int .i64 y] w (RetB2 (ofTwo fs (sibB fs) x y) (twoB fs x y) w) := by
  cases h2 : twoB fs x y with
  | false =>
    rw [show ofTwo fs (sibB fs) x y = false by unfold ofTwo; rw [h2]; rfl]
    have HT := Lib.hid (tellSib_no fs b c x y w hc hbl hI h2)
    clear hI h2
    go_enter Try.func40, Try.ntmps40
    go_wp2_with (go_at_call 70; refine HT.out.mono ?_; rintro e w' ⟨rfl, hb⟩)
    go_ret2
    exact ⟨rfl, hb⟩
  | true =>
    obtain ⟨hf, i, j, rfl, rfl, hi, hj⟩ := twoB_yes h2
    rw [show ofTwo fs (sibB fs) i j = sibB fs i j by unfold ofTwo; rw [h2]; rfl]
    have HT := Lib.hid (tellSib_yes fs (fun a b _ v => v = .bool (sibB fs a b)) b c i j w hc hbl hI hf hi hj (fun W _ g cc a b hK _ _ => (sib_any fs g cc a b W hK).mono (fun e w' h => ⟨_, h.1, rfl, h.2⟩)))
    clear hI h2 hf
    generalize sibB fs i j = r at HT ⊢
    go_enter Try.func40, Try.ntmps40
    go_wp2_with (go_at_call 70; refine HT.out.mono ?_; rintro e w' ⟨v, rfl, rfl, hb⟩)
    go_ret2
    exact ⟨rfl, hb⟩
theorem spSib_any (fs : List Kn) (b c : Nat) (x y : Int) (w : World) (hc : fs.length ≤ c) (hbl : b < w.heap.size) (hI : Kns w b 0 fs) :
    Calls Try.prog 39 #[.slice (some ⟨b, 0, none⟩) fs.length c, .int .i64 x, .int .i64 y] w (RetB2 (ofTwo fs (sibB fs) x y) (twoB fs x y) w) := by
  have HT := Lib.hid (faTwo_any fs b c x y w hc hbl hI)
  rw [twoM_eq] at HT
  cases h2 : twoB fs x y with
  | false =>
    rw [show ofTwo fs (sibB fs) x y = false by unfold ofTwo; rw [h2]; rfl]
    rw [h2] at HT
    clear hI h2
    go_enter Try.func39, Try.ntmps39
    go_wp2_with (first | (go_at_call 68; refine HT.out.mono ?_; rintro e w1 ⟨rfl, hb1⟩; have hs1 := hb1.size))
    go_ret2
    exact ⟨rfl, hb1⟩
  | true =>
    obtain ⟨hf, i, j, rfl, rfl, hi, hj⟩ := twoB_yes h2
    rw [h2] at HT
    rw [show ofTwo fs (sibB fs) i j = sibB fs i j by unfold ofTwo; rw [h2]; rfl]
    have hF : Fm fs w b c := ⟨hI, hbl, hc, (famB_len hf).2⟩
    have HS := Lib.hid (fun (W : World) (hb : Below w.heap.size w W) => faSib_any fs b c i j W (hF.kept hb) hi hj)
    rw [sibM_eq hf hi] at HS
    clear hI h2 hf hF
    generalize sibB fs i j = r at HS ⊢
    go_enter Try.func39, Try.ntmps39
    go_wp2_with (first | (go_at_call 68; refine HT.out.mono ?_; rintro e w1 ⟨rfl, hb1⟩; have hs1 := hb1.size) | (go_at_call 69; refine (HS.out w1 hb1).mono ?_; rintro e w2 ⟨rfl, hb2⟩))
    go_ret2
    exact ⟨rfl, hb1.trans (hb2.mono hs1)⟩
theorem Sib_both (ds : List Kn) (x1 x2 : Int) : ∃ r ok,
    (∀ b c w, ds.length ≤ 1048576 → ds.length ≤ c → b < w.heap.size → Kns w b 0 ds → Calls Try.prog 39 #[.slice (some ⟨b, 0, none⟩) ds.length c, .int .i64 x1, .int .i64 x2] w (RetB2 r ok w)) ∧
    (∀ b c w, ds.length ≤ 1048576 → ds.length ≤ c → b < w.heap.size → Kns w b 0 ds → Calls Try.prog 40 #[.slice (some ⟨b, 0, none⟩) ds.length c, .int .i64 x1, .int .i64 x2] w (RetB2 r ok w)) :=
  ⟨_, _, fun b c w _ hc hb hI => spSib_any ds b c x1 x2 w hc hb hI, fun b c w _ hc hb hI => imSib_any ds b c x1 x2 w hc hb hI⟩
theorem imCous_any (fs : List Kn) (b c : Nat) (x y : Int) (w : World) (hc : fs.length ≤ c) (hbl : b < w.heap.size) (hI : Kns w b 0 fs) :
    Calls Try.prog 44 #[.slice (some ⟨b, 0, none⟩) fs.length c, .int .i64 x, .int .i64 y] w (RetB2 (ofTwo fs (cousB fs) x y) (twoB fs x y) w) := by
  cases h2 : twoB fs x y with
  | false =>
    rw [show ofTwo fs (cousB fs) x y = false by unfold ofTwo; rw [h2]; rfl]
    have HT := Lib.hid (tellCous_no fs b c x y w hc hbl hI h2)
    clear hI h2
    go_enter Try.func44, Try.ntmps44
    go_wp2_with (go_at_call 70; refine HT.out.mono ?_; rintro e w' ⟨rfl, hb⟩)
    go_ret2
    exact ⟨rfl, hb⟩
  | true =>
    obtain ⟨hf, i, j, rfl, rfl, hi, hj⟩ := twoB_yes h2
    rw [show ofTwo fs (cousB fs) i j = cousB fs i j by unfold ofTwo; rw [h2]; rfl]
    have HT := Lib.hid (tellCous_yes fs (fun a b _ v => v = .bool (cousB fs a b)) b c i j w hc hbl hI hf hi hj (fun W _ g cc a b hK _ _ => (cous_any fs g cc a b W hK).mono (fun e w' h => ⟨_, h.1, rfl, h.2⟩)))
    clear hI h2 hf
    generalize cousB fs i j = r at HT ⊢
    go_enter Try.func44, Try.ntmps44
    go_wp2_with (go_at_call 70; refine HT.out.mono ?_; rintro e w' ⟨v, rfl, rfl, hb⟩)
    go_ret2
    exact ⟨rfl, hb⟩
theorem spCous_any (fs : List Kn) (b c : Nat) (x y : Int) (w : World) (hc : fs.length ≤ c) (hbl : b < w.heap.size) (hI : Kns w b 0 fs) :
    Calls Try.prog 43 #[.slice (some ⟨b, 0, none⟩) fs.length c, .int .i64 x, .int .i64 y] w (RetB2 (ofTwo fs (cousB fs) x y) (twoB fs x y) w) := by
  have HT := Lib.hid (faTwo_any fs b c x y w hc hbl hI)
  rw [twoM_eq] at HT
  cases h2 : twoB fs x y with
  | false =>
    rw [show ofTwo fs (cousB fs) x y = false by unfold ofTwo; rw [h2]; rfl]
    rw [h2] at HT
    clear hI h2
    go_enter Try.func43, Try.ntmps43
    go_wp2_with (first | (go_at_call 68; refine HT.out.mono ?_; rintro e w1 ⟨rfl, hb1⟩; have hs1 := hb1.size))
    go_ret2
    exact ⟨rfl, hb1⟩
  | true =>
    obtain ⟨hf, i, j, rfl, rfl, hi, hj⟩ := twoB_yes h2
    rw [h2] at HT
    rw [show ofTwo fs (cousB fs) i j = cousB fs i j by unfold ofTwo; rw [h2]; rfl]
    have hF : Fm fs w b c := ⟨hI, hbl, hc, (famB_len hf).2⟩
    have HS := Lib.hid (fun (W : World) (hb : Below w.heap.size w W) => faCous_any fs b c i j W hf (hF.kept hb) hi hj)
    rw [cousM_eq hf hi hj] at HS
    clear hI h2 hf hF
    generalize cousB fs i j = r at HS ⊢
    go_enter Try.func43, Try.ntmps43
    go_wp2_with (first | (go_at_call 68; refine HT.out.mono ?_; rintro e w1 ⟨rfl, hb1⟩; have hs1 := hb1.size) | (go_at_call 74; refine (HS.out w1 hb1).mono ?_; rintro e w2 ⟨rfl, hb2⟩))
    go_ret2
    exact ⟨rfl, hb1.trans (hb2.mono hs1)⟩
theorem Cous_both (ds : List Kn) (x1 x2 : Int) : ∃ r ok,
    (∀ b c w, ds.length ≤ 1048576 → ds.length ≤ c → b < w.heap.size → Kns w b 0 ds → Calls Try.prog 43 #[.slice (some ⟨b, 0, none⟩) ds.length c, .int .i64 x1, .int .i64 x2] w (RetB2 r ok w)) ∧
    (∀ b c w, ds.length ≤ 1048576 → ds.length ≤ c → b < w.heap.size → Kns w b 0 ds → Calls Try.prog 44 #[.slice (some ⟨b, 0, none⟩) ds.length c, .int .i64 x1, .int .i64 x2] w (RetB2 r ok w)) :=
  ⟨_, _, fun b c w _ hc hb hI => spCous_any ds b c x1 x2 w hc hb hI, fun b c w _ hc hb hI => imCous_any ds b c x1 x2 w hc hb hI⟩
theorem imHalf_any (fs : List Kn) (b c : Nat) (x y : Int) (w : World) (hc : fs.length ≤ c) (hbl : b < w.heap.size) (hI : Kns w b 0 fs) :
    Calls Try.prog 42 #[.slice (some ⟨b, 0, none⟩) fs.length c, .int .i64 x, .int .i64 y] w (RetB2 (ofTwo fs (halfB fs) x y) (twoB fs x y) w) := by
  cases h2 : twoB fs x y with
  | false =>
    rw [show ofTwo fs (halfB fs) x y = false by unfold ofTwo; rw [h2]; rfl]
    have HT := Lib.hid (tellHalf_no fs b c x y w hc hbl hI h2)
    clear hI h2
    go_enter Try.func42, Try.ntmps42
    go_wp2_with (go_at_call 70; refine HT.out.mono ?_; rintro e w' ⟨rfl, hb⟩)
    go_ret2
    exact ⟨rfl, hb⟩
  | true =>
    obtain ⟨hf, i, j, rfl, rfl, hi, hj⟩ := twoB_yes h2
    rw [show ofTwo fs (halfB fs) i j = halfB fs i j by unfold ofTwo; rw [h2]; rfl]
    have HT := Lib.hid (tellHalf_yes fs (fun a b _ v => v = .bool (halfB fs a b)) b c i j w hc hbl hI hf hi hj (fun W _ g cc a b hK _ _ => (half_any fs g cc a b W hK).mono (fun e w' h => ⟨_, h.1, rfl, h.2⟩)))
    clear hI h2 hf
    generalize halfB fs i j = r at HT ⊢
    go_enter Try.func42, Try.ntmps42
    go_wp2_with (go_at_call 70; refine HT.out.mono ?_; rintro e w' ⟨v, rfl, rfl, hb⟩)
    go_ret2
    exact ⟨rfl, hb⟩
theorem spHalf_any (fs : List Kn) (b c : Nat) (x y : Int) (w : World) (hc : fs.length ≤ c) (hbl : b < w.heap.size) (hI : Kns w b 0 fs) :
    Calls Try.prog 41 #[.slice (some ⟨b, 0, none⟩) fs.length c, .int .i64 x, .int .i64 y] w (RetB2 (ofTwo fs (halfB fs) x y) (twoB fs x y) w) := by
  have HT := Lib.hid (faTwo_any fs b c x y w hc hbl hI)
  rw [twoM_eq] at HT
  cases h2 : twoB fs x y with
  | false =>
    rw [show ofTwo fs (halfB fs) x y = false by unfold ofTwo; rw [h2]; rfl]
    rw [h2] at HT
    clear hI h2
    go_enter Try.func41, Try.ntmps41
    go_wp2_with (first | (go_at_call 68; refine HT.out.mono ?_; rintro e w1 ⟨rfl, hb1⟩; have hs1 := hb1.size))
    go_ret2
    exact ⟨rfl, hb1⟩
  | true =>
    obtain ⟨hf, i, j, rfl, rfl, hi, hj⟩ := twoB_yes h2
    rw [h2] at HT
    rw [show ofTwo fs (halfB fs) i j = halfB fs i j by unfold ofTwo; rw [h2]; rfl]
    have hF : Fm fs w b c := ⟨hI, hbl, hc, (famB_len hf).2⟩
    have HS := Lib.hid (fun (W : World) (hb : Below w.heap.size w W) => faShared_any fs b c i j W (hF.kept hb) hi hj)
    by_cases hij : i = j
    · subst hij
      rw [show halfB fs i i = false by simp [halfB]]
      clear hI h2 hf hF HS
      go_enter Try.func41, Try.ntmps41
      go_wp2_with (first | (go_at_call 68; refine HT.out.mono ?_; rintro e w1 ⟨rfl, hb1⟩; have hs1 := hb1.size))
      go_ret2
      exact ⟨rfl, hb1⟩
    · have hne : ((i : Int) == (j : Int)) = false := beq_eq_false_iff_ne.2 (by omega)
      have HE : Hid (halfB fs i j = (((shM fs i j : Nat) : Int) == 1)) := Lib.hid (by rw [← halfM_eq hf hi]; unfold halfM; rw [hne]; rfl)
      clear hI h2 hf hF
      generalize halfB fs i j = r at HE ⊢
      generalize shM fs i j = s at HS HE
      go_enter Try.func41, Try.ntmps41
      go_wp2_with (first | (go_at_call 68; refine HT.out.mono ?_; rintro e w1 ⟨rfl, hb1⟩; have hs1 := hb1.size) | (go_at_call 72; refine (HS.out w1 hb1).mono ?_; rintro e w2 ⟨rfl, hb2⟩))
      go_ret2
      exact ⟨by rw [HE.out]; first | rfl | (simp; intro _; omega), hb1.trans (hb2.mono hs1)⟩
theorem Half_both (ds : List Kn) (x1 x2 : Int) : ∃ r ok,
    (∀ b c w, ds.length ≤ 1048576 → ds.length ≤ c → b < w.heap.size → Kns w b 0 ds → Calls Try.prog 41 #[.slice (some ⟨b, 0, none⟩) ds.length c, .int .i64 x1, .int .i64 x2] w (RetB2 r ok w)) ∧
    (∀ b c w, ds.length ≤ 1048576 → ds.length ≤ c → b < w.heap.size → Kns w b 0 ds → Calls Try.prog 42 #[.slice (some ⟨b, 0, none⟩) ds.length c, .int .i64 x1, .int .i64 x2] w (RetB2 r ok w)) :=
  ⟨_, _, fun b c w _ hc hb hI => spHalf_any ds b c x1 x2 w hc hb hI, fun b c w _ hc hb hI => imHalf_any ds b c x1 x2 w hc hb hI⟩
end Go.Proofs.Ythmcimdnbapnhaa
