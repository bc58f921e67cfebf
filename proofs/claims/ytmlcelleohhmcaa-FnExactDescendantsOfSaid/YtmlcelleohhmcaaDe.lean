/- Descendants: both texts. -/
import Derived.Test.YtmlcelleohhmcaaAbd
import Derived.Test.YtmlcelleohhmcaaKfDes
set_option linter.unusedVariables false
set_option linter.unusedSimpArgs false
namespace Go.Proofs.Ytmlcelleohhmcaa
open Go.RowKit

theorem Pth.cons {st : Nat → Nat → Bool} {N t p a : Nat} {l : List Nat} (h : Pth st N p l a) (hs : st t p = true) (hp : p < N) : Pth st N t (t :: l) a := by
  induction h with
  | one => exact Pth.snoc Pth.one hs hp
  | snoc _ h2 h3 ih => exact Pth.snoc ih h2 h3
theorem Pth.rev {st : Nat → Nat → Bool} {N a x : Nat} {l : List Nat} (ha : a < N) (h : Pth st N a l x) : ∃ l', Pth (fun u t => st t u) N x l' a := by
  induction h with
  | one => exact ⟨_, Pth.one⟩
  | snoc h1 h2 h3 ih =>
    obtain ⟨l', hl'⟩ := ih
    exact ⟨_, Pth.cons hl' h2 (h1.lt ha)⟩
theorem rch_rev {fs : List Kn} {a x : Nat} (ha : a < fs.length) (hx : x < fs.length) : rchB (stUp fs) fs.length x a = rchB (stDn fs) fs.length a x := by
  rw [Bool.eq_iff_iff, rchB_iff, rchB_iff]
  constructor
  · rintro ⟨l, h⟩; exact h.rev hx
  · rintro ⟨l, h⟩; exact h.rev ha
/-- Is i an ancestor of o? -/
def deQ (fs : List Kn) (i o : Nat) : Bool := abS fs o (o + 1) i
theorem pick_des {fs : List Kn} (hf : famB fs = true) {i : Nat} (hi : i < fs.length) : pickI (deQ fs i) fs.length = (desN fs i).map fun (n : Nat) => (n : Int) := by
  unfold pickI desN rchN allN
  congr 1
  refine List.filter_congr fun x hx => ?_
  have hxn : x < fs.length := by simpa using hx
  unfold deQ
  rw [abS_eq hf hxn, rch_rev hi hxn]
  congr 2
  by_cases e : i = x
  · rw [decide_eq_true e, decide_eq_true e.symm]
  · rw [decide_eq_false e, decide_eq_false (fun h => e h.symm)]
set_option maxHeartbeats 4000000 in
theorem spDes_any (fs : List Kn) (b c : Nat) (x : Int) (w : World) (hc : fs.length ≤ c) (hbl : b < w.heap.size) (hI : Kns w b 0 fs) :
    Calls Try.prog 18 #[.slice (some ⟨b, 0, none⟩) fs.length c, .int .i64 x] w (RetOwnB (if twoB fs x x = true then (desN fs x.toNat).map fun (n : Nat) => (n : Int) else []) (twoB fs x x) w) := by
  obtain ⟨i0, hzi, hz0, hz1, hz2⟩ := info_parts infoInt
  have HT := Lib.hid (faWho_any fs b c x w hc hbl hI)
  rw [whoB_eq] at HT
  cases h2 : twoB fs x x with
  | false =>
    rw [if_neg (by simp)]
    rw [h2] at HT
    clear hI h2
    go_enter Try.func18, Try.ntmps18
    go_wp2_with (first | (go_at_call 28; refine HT.out.mono ?_; rintro e w1 ⟨rfl, hb1⟩; have hs1 := hb1.size))
    go_ret2
    exact ⟨_, rfl, own_nil _ _, hb1⟩
  | true =>
    rw [h2] at HT
    obtain ⟨hf, i, i2, rfl, hii, hi, hi2⟩ := twoB_yes h2
    clear hii hi2 i2
    rw [if_pos rfl, Int.toNat_natCast]
    have hF : Fm fs w b c := ⟨hI, hbl, hc, (famB_len hf).2⟩
    have hn := hF.few
    have HS := Lib.hid (fun (W : World) (k : Nat) (hb : Below w.heap.size w W) (hk : k < fs.length) => faAbove_any fs b c k W (hF.kept hb) hf hk)
    have HE := Lib.hid (pick_des hf hi)
    have HQ : Hid (∀ k, abS fs k (k + 1) i = deQ fs i k) := Lib.hid (fun k => rfl)
    clear hI h2 hf hF
    generalize ((desN fs i).map fun (n : Nat) => (n : Int)) = rs at HE ⊢
    generalize deQ fs i = q at HE HQ
    go_enter Try.func18, Try.ntmps18
    go_wp2_with (first | (go_at_call 28; refine HT.out.mono ?_; rintro e w1 ⟨rfl, hb1⟩; have hs1 := hb1.size))
    go_loopw [6, 14] (fun u v wr => ∃ k : Nat, k ≤ fs.length ∧ v = .int .i64 k ∧ Hid (Own w.heap.size wr u (pickI q k)) ∧ Below w.heap.size w wr) (fun _ v _ => fs.length - (intOf v).toNat)
    case atStart => exact ⟨0, Nat.zero_le _, rfl, Lib.hid (own_nil _ _), hb1⟩
    case round =>
      obtain ⟨k, hk, rfl, Ho, hb⟩ := hrel
      have hsz := hb.size
      by_cases hlt : k < fs.length
      · have HP := Lib.hid (HS.out wr k hb hlt)
        have HCK : Hid (∀ (w2 : World) (g : Nat), w2.ownsRow wr.heap.size 4 1 (.slice (some ⟨g, 0, none⟩) fs.length fs.length) fs.length (mkRow (abS fs k (k + 1)) fs.length) → w2.cell? ⟨g, i, none⟩ = some (.bool (q k))) :=
          Lib.hid fun w2 g h => by
            have := (World.ownsRow.cellAt h i (by omega)).trans (mkRow_at hi)
            rw [HQ.out] at this
            simpa using this
        have HY := Lib.hid (fun h => pickI_yes (q := q) (k := k) h)
        have HN := Lib.hid (fun h => pickI_no (q := q) (k := k) h)
        have htl := pickI_len q k
        have HK := Lib.hid (fun (w2 : World) (h2 : Below wr.heap.size wr w2) => (show Below w.heap.size w w2 ∧ Own w.heap.size w2 u6 (pickI q k) from ⟨hb.trans (h2.mono hsz), Ho.out.kept h2⟩))
        clear hb Ho
        generalize hxs : pickI q k = xs at HK HY HN htl
        clear hxs
        generalize abS fs k (k + 1) = m at HP HCK
        have hlc : (k : Int) < (fs.length : Int) := by omega
        have hi0 : (0 : Int) ≤ (i : Int) := by omega
        have hi1 : (i : Int) < (fs.length : Int) := by omega
        cases hz : q k with
        | true =>
          have HT := Lib.hid (HY.out hz)
          rw [hz] at HCK
          clear hz HY HN
          go_wp2_with (first | (go_at_call 30; refine HP.out.mono ?_; rintro e w2 ⟨g, hg, rfl, ho2, hb2⟩; have hck := HCK.out w2 g ho2; obtain ⟨hbw, how⟩ := HK.out w2 hb2; have hsw := hbw.size; clear hb2 ho2) | (at_builtin; refine wpList_append_own _ rfl _ _ 24 rfl w.heap.size 3 i0 (.int .i64 0) 1 8 Try.underlying24 hzi hz0 hz1 hz2 rfl (by decide) u6 xs.length (xs.map (Value.int .i64)) rfl (World.ownsRow.alloc how _) ⟨w2.heap.size, 0, none⟩ 1 1 [.int .i64 k] rfl rfl (newCell _ _ _) (oneInt _) ?c4 ?c5 ?c6 ?_))
          case c4 => unfold maxLen; omega
          case c5 => omega
          case c6 => simp; omega
          intro v' w3 hown' hgrow _
          have hb3 := below_push hbw how hgrow
          have Ho3 : Hid (Own w.heap.size w3 v' (pickI q (k + 1))) := Lib.hid (by rw [HT.out]; exact own_push hown')
          clear hown' hgrow how hck
          go_wp2
          go_roundw
          case rel => exact ⟨k + 1, by omega, by go_num, Ho3, hb3⟩
          case measure => simp [intOf]; omega
        | false =>
          have HT := Lib.hid (HN.out hz)
          rw [hz] at HCK
          clear hz HY HN
          go_wp2_with (first | (go_at_call 30; refine HP.out.mono ?_; rintro e w2 ⟨g, hg, rfl, ho2, hb2⟩; have hck := HCK.out w2 g ho2; obtain ⟨hbw, how⟩ := HK.out w2 hb2; have hsw := hbw.size; clear hb2 ho2))
          have Ho3 : Hid (Own w.heap.size w2 u6 (pickI q (k + 1))) := Lib.hid (by rw [HT.out]; exact how)
          clear how hck
          go_roundw
          case rel => exact ⟨k + 1, by omega, by go_num, Ho3, hbw⟩
          case measure => simp [intOf]; omega
      · have hkn : k = fs.length := by omega
        have HD := Lib.hid (show pickI q k = rs by rw [hkn]; exact HE.out)
        have hlc : ¬ (k : Int) < (fs.length : Int) := by omega
        clear hkn
        go_wp2
        go_ret2
        exact ⟨_, rfl, by rw [← HD.out]; exact Ho.out, hb⟩
theorem Des_both (ds : List Kn) (x1 : Int) : ∃ rs ok, rs.length ≤ 1048576 ∧
    (∀ b c w, ds.length ≤ 1048576 → ds.length ≤ c → b < w.heap.size → Kns w b 0 ds → Calls Try.prog 18 #[.slice (some ⟨b, 0, none⟩) ds.length c, .int .i64 x1] w (RetOwnB rs ok w)) ∧
    (∀ b c w, ds.length ≤ 1048576 → ds.length ≤ c → b < w.heap.size → Kns w b 0 ds → Calls Try.prog 19 #[.slice (some ⟨b, 0, none⟩) ds.length c, .int .i64 x1] w (RetOwnB rs ok w)) := by
  refine ⟨_, _, ?_, fun b c w _ hc hb hI => spDes_any ds b c x1 w hc hb hI, fun b c w _ hc hb hI => imDes_any ds b c x1 w hc hb hI⟩
  split
  · rename_i h
    have h1 := desN_len ds x1.toNat
    have h2 := (famB_len (twoB_yes h).1).2
    rw [allN_len] at h1
    rw [List.length_map]; omega
  · simp
end Go.Proofs.Ytmlcelleohhmcaa
