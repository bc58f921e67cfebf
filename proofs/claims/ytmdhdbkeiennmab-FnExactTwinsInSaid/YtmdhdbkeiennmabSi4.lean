/- HasOldest, HasYoungest and IsSet: both texts. -/
import Derived.Test.YtmdhdbkeiennmabSi1
import Derived.Test.YtmdhdbkeiennmabSi3
set_option linter.unusedVariables false
set_option linter.unusedSimpArgs false
namespace Go.Proofs.Ytmdhdbkeiennmab
open Go.RowKit

/-- A call returned a bool and whether it succeeded. -/
def RetB2 (r ok : Bool) (w : World) (e : Ending) (w' : World) : Prop := e = .returned (.tuple #[.bool r, .bool ok]) ∧ Below w.heap.size w w'
set_option maxHeartbeats 1600000 in
theorem imIsSet_any (b c : Nat) (zs : List Int) (w : World) (hn : zs.length ≤ 1048576) (hI : Ints w b 0 zs) :
    Calls Try.prog 15 #[.slice (some ⟨b, 0, none⟩) zs.length c] w (Ret (.bool (setB zs)) w) := isSet_any b 0 zs.length c zs w rfl hn hI
theorem spIsSet_any (b c : Nat) (zs : List Int) (w : World) (hn : zs.length ≤ 1048576) (hI : Ints w b 0 zs) :
    Calls Try.prog 13 #[.slice (some ⟨b, 0, none⟩) zs.length c] w (Ret (.bool (setB zs)) w) := by
  have H := Lib.hid (siGood_any b 0 zs.length c zs w rfl hn hI)
  clear hI
  go_enter Try.func13, Try.ntmps13
  go_wp2_with (go_at_call 40; refine H.out.mono ?_; rintro e w' ⟨rfl, hb⟩)
  go_ret
  exact ⟨rfl, hb⟩
set_option maxHeartbeats 1600000 in
theorem imHasOldest_any (b c : Nat) (zs : List Int) (w : World) (hn : zs.length ≤ 1048576) (hbl : b < w.heap.size) (hI : Ints w b 0 zs) :
    Calls Try.prog 18 #[.slice (some ⟨b, 0, none⟩) zs.length c] w (RetB2 (setB zs && oldM zs) (setB zs) w) := by
  have H := Lib.hid (isSet_any b 0 zs.length c zs w rfl hn hI)
  cases h : setB zs with
  | false =>
    rw [h] at H
    rw [Bool.false_and]
    clear hI h
    go_enter Try.func18, Try.ntmps18
    go_wp2_with (go_at_call 15; refine H.out.mono ?_; rintro e w' ⟨rfl, hb⟩)
    go_ret2
    exact ⟨rfl, hb⟩
  | true =>
    obtain ⟨h1, h2, h3⟩ := setB_parts h
    have HO := Lib.hid (fun (W : World) (hb : Below w.heap.size w W) => imOld_any b zs.length c zs W rfl h1.1 h1.2 (Nat.lt_of_lt_of_le hbl hb.size) (hI.kept hb hbl))
    rw [old_eq h1.1 h1.2 h3] at HO
    rw [h] at H
    rw [Bool.true_and]
    have HM := Lib.hid (show oldM zs = _ from rfl)
    change Hid (∀ W, Below w.heap.size w W → Calls _ _ _ W (Ret (.bool (oldM zs)) W)) at HO
    generalize oldM zs = r at HO ⊢
    clear hI h h2 h3 HM
    go_enter Try.func18, Try.ntmps18
    go_wp2_with (first | (go_at_call 15; refine H.out.mono ?_; rintro e w' ⟨rfl, hb⟩) | (go_at_call 45; refine (HO.out _ hb).mono ?_; rintro e w2 ⟨rfl, hb2⟩))
    go_ret2
    exact ⟨rfl, hb.trans (hb2.mono hb.size)⟩
set_option maxHeartbeats 1600000 in
theorem spHasOldest_any (b c : Nat) (zs : List Int) (w : World) (hn : zs.length ≤ 1048576) (hbl : b < w.heap.size) (hI : Ints w b 0 zs) :
    Calls Try.prog 17 #[.slice (some ⟨b, 0, none⟩) zs.length c] w (RetB2 (setB zs && oldM zs) (setB zs) w) := by
  have H := Lib.hid (siGood_any b 0 zs.length c zs w rfl hn hI)
  cases h : setB zs with
  | false =>
    rw [h] at H
    rw [Bool.false_and]
    clear hI h
    go_enter Try.func17, Try.ntmps17
    go_wp2_with (go_at_call 40; refine H.out.mono ?_; rintro e w' ⟨rfl, hb⟩)
    go_ret2
    exact ⟨rfl, hb⟩
  | true =>
    obtain ⟨h1, h2, h3⟩ := setB_parts h
    have HO := Lib.hid (fun (W : World) (hb : Below w.heap.size w W) => spOld_any b zs.length c zs W rfl h1.1 h1.2 (hI.kept hb hbl))
    rw [h] at H
    rw [Bool.true_and]
    generalize oldM zs = r at HO ⊢
    clear hI h h2 h3
    go_enter Try.func17, Try.ntmps17
    go_wp2_with (first | (go_at_call 40; refine H.out.mono ?_; rintro e w' ⟨rfl, hb⟩) | (go_at_call 44; refine (HO.out _ hb).mono ?_; rintro e w2 ⟨rfl, hb2⟩))
    go_ret2
    exact ⟨rfl, hb.trans (hb2.mono hb.size)⟩
set_option maxHeartbeats 1600000 in
theorem imHasYoungest_any (b c : Nat) (zs : List Int) (w : World) (hn : zs.length ≤ 1048576) (hbl : b < w.heap.size) (hI : Ints w b 0 zs) :
    Calls Try.prog 20 #[.slice (some ⟨b, 0, none⟩) zs.length c] w (RetB2 (setB zs && youngM zs) (setB zs) w) := by
  have H := Lib.hid (isSet_any b 0 zs.length c zs w rfl hn hI)
  cases h : setB zs with
  | false =>
    rw [h] at H
    rw [Bool.false_and]
    clear hI h
    go_enter Try.func20, Try.ntmps20
    go_wp2_with (go_at_call 15; refine H.out.mono ?_; rintro e w' ⟨rfl, hb⟩)
    go_ret2
    exact ⟨rfl, hb⟩
  | true =>
    obtain ⟨h1, h2, h3⟩ := setB_parts h
    have HO := Lib.hid (fun (W : World) (hb : Below w.heap.size w W) => imYoung_any b zs.length c zs W rfl h1.1 h1.2 (Nat.lt_of_lt_of_le hbl hb.size) (hI.kept hb hbl))
    rw [young_eq h1.1 h1.2 h3] at HO
    rw [h] at H
    rw [Bool.true_and]
    have HM := Lib.hid (show youngM zs = _ from rfl)
    change Hid (∀ W, Below w.heap.size w W → Calls _ _ _ W (Ret (.bool (youngM zs)) W)) at HO
    generalize youngM zs = r at HO ⊢
    clear hI h h2 h3 HM
    go_enter Try.func20, Try.ntmps20
    go_wp2_with (first | (go_at_call 15; refine H.out.mono ?_; rintro e w' ⟨rfl, hb⟩) | (go_at_call 47; refine (HO.out _ hb).mono ?_; rintro e w2 ⟨rfl, hb2⟩))
    go_ret2
    exact ⟨rfl, hb.trans (hb2.mono hb.size)⟩
set_option maxHeartbeats 1600000 in
theorem spHasYoungest_any (b c : Nat) (zs : List Int) (w : World) (hn : zs.length ≤ 1048576) (hbl : b < w.heap.size) (hI : Ints w b 0 zs) :
    Calls Try.prog 19 #[.slice (some ⟨b, 0, none⟩) zs.length c] w (RetB2 (setB zs && youngM zs) (setB zs) w) := by
  have H := Lib.hid (siGood_any b 0 zs.length c zs w rfl hn hI)
  cases h : setB zs with
  | false =>
    rw [h] at H
    rw [Bool.false_and]
    clear hI h
    go_enter Try.func19, Try.ntmps19
    go_wp2_with (go_at_call 40; refine H.out.mono ?_; rintro e w' ⟨rfl, hb⟩)
    go_ret2
    exact ⟨rfl, hb⟩
  | true =>
    obtain ⟨h1, h2, h3⟩ := setB_parts h
    have HO := Lib.hid (fun (W : World) (hb : Below w.heap.size w W) => spYoung_any b zs.length c zs W rfl h1.1 h1.2 (hI.kept hb hbl))
    rw [h] at H
    rw [Bool.true_and]
    generalize youngM zs = r at HO ⊢
    clear hI h h2 h3
    go_enter Try.func19, Try.ntmps19
    go_wp2_with (first | (go_at_call 40; refine H.out.mono ?_; rintro e w' ⟨rfl, hb⟩) | (go_at_call 46; refine (HO.out _ hb).mono ?_; rintro e w2 ⟨rfl, hb2⟩))
    go_ret2
    exact ⟨rfl, hb.trans (hb2.mono hb.size)⟩
theorem isSet_both (zs : List Int) : ∃ r,
    (∀ b c w, zs.length ≤ 1048576 → b < w.heap.size → Ints w b 0 zs → Calls Try.prog 13 #[.slice (some ⟨b, 0, none⟩) zs.length c] w (Ret (.bool r) w)) ∧
    (∀ b c w, zs.length ≤ 1048576 → b < w.heap.size → Ints w b 0 zs → Calls Try.prog 15 #[.slice (some ⟨b, 0, none⟩) zs.length c] w (Ret (.bool r) w)) :=
  ⟨setB zs, fun b c w hn hbl hI => spIsSet_any b c zs w hn hI, fun b c w hn hbl hI => imIsSet_any b c zs w hn hI⟩
theorem hasOldest_both (zs : List Int) : ∃ r ok,
    (∀ b c w, zs.length ≤ 1048576 → b < w.heap.size → Ints w b 0 zs → Calls Try.prog 17 #[.slice (some ⟨b, 0, none⟩) zs.length c] w (RetB2 r ok w)) ∧
    (∀ b c w, zs.length ≤ 1048576 → b < w.heap.size → Ints w b 0 zs → Calls Try.prog 18 #[.slice (some ⟨b, 0, none⟩) zs.length c] w (RetB2 r ok w)) :=
  ⟨setB zs && oldM zs, setB zs, fun b c w hn hbl hI => spHasOldest_any b c zs w hn hbl hI, fun b c w hn hbl hI => imHasOldest_any b c zs w hn hbl hI⟩
theorem hasYoungest_both (zs : List Int) : ∃ r ok,
    (∀ b c w, zs.length ≤ 1048576 → b < w.heap.size → Ints w b 0 zs → Calls Try.prog 19 #[.slice (some ⟨b, 0, none⟩) zs.length c] w (RetB2 r ok w)) ∧
    (∀ b c w, zs.length ≤ 1048576 → b < w.heap.size → Ints w b 0 zs → Calls Try.prog 20 #[.slice (some ⟨b, 0, none⟩) zs.length c] w (RetB2 r ok w)) :=
  ⟨setB zs && youngM zs, setB zs, fun b c w hn hbl hI => spHasYoungest_any b c zs w hn hbl hI, fun b c w hn hbl hI => imHasYoungest_any b c zs w hn hbl hI⟩
end Go.Proofs.Ytmdhdbkeiennmab
