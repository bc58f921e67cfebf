/- Whether there is somebody, two; children, parents in common, siblings, cousins: the model's text. -/
import Derived.Test.YtmlcelleohhmcaaMo1
set_option linter.unusedVariables false
set_option linter.unusedSimpArgs false
namespace Go.Proofs.Ytmlcelleohhmcaa
open Go.RowKit

/-- An owned slice of numbers is a slice that can be read. -/
theorem Own.arg {B : Nat} {w : World} {v : Value} {zs : List Int} (h : Own B w v zs) : ∃ a c, v = .slice a zs.length c ∧ Arg w a zs.length zs := by
  rcases h.cases with ⟨rfl, rfl⟩ | ⟨g, c, rfl, _, hg, _, _, hI, _⟩
  · exact ⟨none, 0, rfl, rfl, .inl rfl⟩
  · exact ⟨_, c, rfl, rfl, .inr ⟨g, 0, rfl, hg, hI⟩⟩
theorem l1Has_own (B : Nat) (v : Value) (zs : List Int) (x : Int) (w : World) (hn : zs.length ≤ 1000000) (h : Own B w v zs) :
    Calls Try.prog 48 #[v, .int .i64 x] w (RetSame (.bool (zs.contains x)) w) := by
  rcases h.cases with ⟨rfl, rfl⟩ | ⟨g, c, rfl, _, _, _, _, hI, _⟩
  · go_enter Try.func48, Try.ntmps48
    go_wp2
    go_rounds 1
    go_ret
    exact ⟨rfl, rfl⟩
  · exact l1Has_some g zs.length c zs x w rfl hn hI
theorem parI_len (fs : List Kn) (i : Nat) : (parI fs i).length ≤ 2 := List.length_filter_le _ _
/-- Those of the first k numbers that answer with yes. -/
def pickI (q : Nat → Bool) (k : Nat) : List Int := ((List.range k).filter q).map fun (n : Nat) => (n : Int)
theorem pickI_yes {q : Nat → Bool} {k : Nat} (h : q k = true) : pickI q (k + 1) = pickI q k ++ [(k : Int)] := by
  unfold pickI; rw [List.range_succ, List.filter_append, List.map_append, List.filter_cons, if_pos h]; rfl
theorem pickI_no {q : Nat → Bool} {k : Nat} (h : q k = false) : pickI q (k + 1) = pickI q k := by
  unfold pickI; rw [List.range_succ, List.filter_append, List.map_append, List.filter_cons, if_neg (by rw [h]; simp)]; simp
theorem pickI_len (q : Nat → Bool) (k : Nat) : (pickI q k).length ≤ k := by
  unfold pickI; rw [List.length_map]; exact Nat.le_trans (List.length_filter_le _ _) (by simp)
def isChiB (fs : List Kn) (a : Int) (c : Nat) : Bool := (parI fs c).contains a
set_option maxHeartbeats 2000000 in
theorem faChildren_any (fs : List Kn) (b c : Nat) (a : Int) (w : World) (h : Fm fs w b c) :
    Calls Try.prog 45 #[.slice (some ⟨b, 0, none⟩) fs.length c, .int .i64 a] w (RetOwn (pickI (isChiB fs a) fs.length) w) := by
  obtain ⟨i0, hi, hz0, hz1, hz2⟩ := info_parts infoInt
  have hn := h.few
  have HFm := Lib.hid h
  clear h
  generalize hq : isChiB fs a = q
  have HQ := Lib.hid hq
  clear hq
  go_enter Try.func45, Try.ntmps45
  go_wp2
  go_loopw [5, 9] (fun u v wr => ∃ k : Nat, k ≤ fs.length ∧ v = .int .i64 k ∧ Hid (Own w.heap.size wr u (pickI q k)) ∧ Below w.heap.size w wr) (fun _ v _ => fs.length - (intOf v).toNat)
  case atStart => exact ⟨0, Nat.zero_le _, rfl, Lib.hid (own_nil _ _), Below.refl _ _⟩
  case round =>
    obtain ⟨k, hk, rfl, Ho, hb⟩ := hrel
    have hsz := hb.size
    by_cases hlt : k < fs.length
    · have HP := Lib.hid (faParents_any fs b c k wr (HFm.out.kept hb) hlt)
      have hpl := parI_len fs k
      have HE : Hid ((parI fs k).contains a = q k) := Lib.hid (by rw [← HQ.out]; rfl)
      have HY := Lib.hid (fun h => pickI_yes (q := q) (k := k) h)
      have HN := Lib.hid (fun h => pickI_no (q := q) (k := k) h)
      have htl := pickI_len q k
      have HK := Lib.hid (fun (w2 : World) (h2 : Below wr.heap.size wr w2) => (show Below w.heap.size w w2 ∧ Own w.heap.size w2 u5 (pickI q k) from ⟨hb.trans (h2.mono hsz), Ho.out.kept h2⟩))
      clear hb Ho
      generalize parI fs k = zs at HP hpl HE
      generalize hxs : pickI q k = xs at HK HY HN htl
      clear hxs
      have hlc : (k : Int) < (fs.length : Int) := by omega
      cases hz : q k with
      | true =>
        have HT := Lib.hid (HY.out hz)
        rw [hz] at HE
        clear hz HY HN
        go_wp2_with (first | (go_at_call 49; refine HP.out.mono ?_; rintro e w2 ⟨v2, rfl, ho2, hb2⟩; obtain ⟨hbw, how⟩ := HK.out w2 hb2; have hsw := hbw.size; clear hb2) | (go_at_call 48; refine (l1Has_own _ _ zs a _ (by omega) ho2).mono ?_; rw [HE.out]; rintro e w' ⟨rfl, rfl⟩) | (at_builtin; refine wpList_append_own _ rfl _ _ 24 rfl w.heap.size 3 i0 (.int .i64 0) 1 8 Try.underlying24 hi hz0 hz1 hz2 rfl (by decide) u5 xs.length (xs.map (Value.int .i64)) rfl (World.ownsRow.alloc how _) ⟨w2.heap.size, 0, none⟩ 1 1 [.int .i64 k] rfl rfl (newCell _ _ _) (oneInt _) ?c4 ?c5 ?c6 ?_))
        case c4 => unfold maxLen; omega
        case c5 => omega
        case c6 => simp; omega
        intro v' w3 hown' hgrow _
        have hb3 := below_push hbw how hgrow
        have Ho3 : Hid (Own w.heap.size w3 v' (pickI q (k + 1))) := Lib.hid (by rw [HT.out]; exact own_push hown')
        clear hown' hgrow how ho2
        go_wp2
        go_roundw
        case rel => exact ⟨k + 1, by omega, by go_num, Ho3, hb3⟩
        case measure => simp [intOf]; omega
      | false =>
        have HT := Lib.hid (HN.out hz)
        rw [hz] at HE
        clear hz HY HN
        go_wp2_with (first | (go_at_call 49; refine HP.out.mono ?_; rintro e w2 ⟨v2, rfl, ho2, hb2⟩; obtain ⟨hbw, how⟩ := HK.out w2 hb2; have hsw := hbw.size; clear hb2) | (go_at_call 48; refine (l1Has_own _ _ zs a _ (by omega) ho2).mono ?_; rw [HE.out]; rintro e w' ⟨rfl, rfl⟩))
        have Ho3 : Hid (Own w.heap.size w2 u5 (pickI q (k + 1))) := Lib.hid (by rw [HT.out]; exact how)
        clear how ho2
        go_roundw
        case rel => exact ⟨k + 1, by omega, by go_num, Ho3, hbw⟩
        case measure => simp [intOf]; omega
    · have hkn : k = fs.length := by omega
      have HD := Lib.hid (show pickI q k = pickI q fs.length by rw [hkn])
      have hlc : ¬ (k : Int) < (fs.length : Int) := by omega
      clear hkn
      go_wp2
      go_ret
      exact ⟨_, rfl, by rw [← HD.out]; exact Ho.out, hb⟩
def whoB (fs : List Kn) (x : Int) : Bool := famB fs && inB x 0 ((fs.length : Int) - 1)
theorem faWho_any (fs : List Kn) (b c : Nat) (x : Int) (w : World) (hc : fs.length ≤ c) (hbl : b < w.heap.size) (hI : Kns w b 0 fs) :
    Calls Try.prog 28 #[.slice (some ⟨b, 0, none⟩) fs.length c, .int .i64 x] w (Ret (.bool (whoB fs x)) w) := by
  have HG := Lib.hid (faGood_any b fs.length c fs w rfl hc hbl hI)
  clear hI
  cases hf : famB fs with
  | false =>
    rw [show whoB fs x = false by unfold whoB; rw [hf]; rfl]
    rw [hf] at HG
    clear hf
    go_enter Try.func28, Try.ntmps28
    go_wp2_with (first | (go_at_call 51; refine HG.out.mono ?_; rintro e w' ⟨rfl, hb⟩) | (go_at_call 52; refine (l1In_any _ _ _ _).mono ?_; rintro e w' ⟨rfl, rfl⟩))
    go_ret
    exact ⟨rfl, hb⟩
  | true =>
    have hn := famB_len hf
    rw [show whoB fs x = inB x 0 ((fs.length : Int) - 1) by unfold whoB; rw [hf]; rfl]
    rw [hf] at HG
    clear hf
    go_enter Try.func28, Try.ntmps28
    go_wp2_with (first | (go_at_call 51; refine HG.out.mono ?_; rintro e w' ⟨rfl, hb⟩) | (go_at_call 52; refine (l1In_any _ _ _ _).mono ?_; rintro e w' ⟨rfl, rfl⟩))
    go_ret
    exact ⟨rfl, hb⟩
def twoM (fs : List Kn) (x y : Int) : Bool := whoB fs x && inB y 0 ((fs.length : Int) - 1)
theorem faTwo_any (fs : List Kn) (b c : Nat) (x y : Int) (w : World) (hc : fs.length ≤ c) (hbl : b < w.heap.size) (hI : Kns w b 0 fs) :
    Calls Try.prog 36 #[.slice (some ⟨b, 0, none⟩) fs.length c, .int .i64 x, .int .i64 y] w (Ret (.bool (twoM fs x y)) w) := by
  have HG := Lib.hid (faWho_any fs b c x w hc hbl hI)
  clear hI
  cases hf : whoB fs x with
  | false =>
    rw [show twoM fs x y = false by unfold twoM; rw [hf]; rfl]
    rw [hf] at HG
    clear hf
    go_enter Try.func36, Try.ntmps36
    go_wp2_with (first | (go_at_call 28; refine HG.out.mono ?_; rintro e w' ⟨rfl, hb⟩) | (go_at_call 52; refine (l1In_any _ _ _ _).mono ?_; rintro e w' ⟨rfl, rfl⟩))
    go_ret
    exact ⟨rfl, hb⟩
  | true =>
    have hn := famB_len (by unfold whoB at hf; rw [Bool.and_eq_true] at hf; exact hf.1)
    rw [show twoM fs x y = inB y 0 ((fs.length : Int) - 1) by unfold twoM; rw [hf]; rfl]
    rw [hf] at HG
    clear hf
    go_enter Try.func36, Try.ntmps36
    go_wp2_with (first | (go_at_call 28; refine HG.out.mono ?_; rintro e w' ⟨rfl, hb⟩) | (go_at_call 52; refine (l1In_any _ _ _ _).mono ?_; rintro e w' ⟨rfl, rfl⟩))
    go_ret
    exact ⟨rfl, hb⟩
theorem twoM_yes {fs : List Kn} {x y : Int} (h : twoM fs x y = true) : famB fs = true ∧ ∃ a b : Nat, x = a ∧ y = b ∧ a < fs.length ∧ b < fs.length := by
  unfold twoM whoB at h
  rw [Bool.and_eq_true, Bool.and_eq_true, inB_iff, inB_iff] at h
  exact ⟨h.1.1, x.toNat, y.toNat, by omega, by omega, by omega, by omega⟩
theorem whoB_yes {fs : List Kn} {x : Int} (h : whoB fs x = true) : famB fs = true ∧ ∃ a : Nat, x = a ∧ a < fs.length := by
  unfold whoB at h
  rw [Bool.and_eq_true, inB_iff] at h
  exact ⟨h.1, x.toNat, by omega, by omega⟩
end Go.Proofs.Ytmlcelleohhmcaa
