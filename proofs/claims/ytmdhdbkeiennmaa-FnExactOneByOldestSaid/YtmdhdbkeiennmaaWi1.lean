/- The model's count of the sums of sets, and the sums that so many have. -/
import Derived.Test.YtmdhdbkeiennmaaNoS
import Derived.Test.YtmdhdbkeiennmaaSi2
import Derived.Test.YtmdhdbkeiennmaaSt0
set_option linter.unusedVariables false
set_option linter.unusedSimpArgs false
namespace Go.Proofs.Ytmdhdbkeiennmaa
open Go.RowKit

set_option maxHeartbeats 1600000 in
theorem agSum_kids (b off n c : Nat) (zs : List Int) (w : World) (hl : zs.length = n) (hk : Kids zs) (hI : Ints w b off zs) :
    Calls Try.prog 71 #[.slice (some ⟨b, off, none⟩) n c] w (RetSame (.int .i64 (sumL zs)) w) := by
  have hn : n ≤ 4 := by have := hk.1; omega
  have HK := Lib.hid (fun k h => kid_sum hk k h)
  have HA := Lib.hid (fun k h => kid_at hk k h)
  have HT := Lib.hid (fun k h => sumL_take zs k h)
  have HE := Lib.hid (show sumL (zs.take n) = sumL zs by rw [← hl, List.take_length])
  have HL := Lib.hid hl
  clear hk hl
  go_enter Try.func71, Try.ntmps71
  go_wp2
  go_loop [3, 8] (fun s v => ∃ k : Nat, k ≤ n ∧ v = .int .i64 k ∧ s = .int .i64 (sumL (zs.take k))) (fun _ v => n - (intOf v).toNat)
  case atStart => exact ⟨0, Nat.zero_le _, rfl, rfl⟩
  case round =>
    obtain ⟨k, hkn, rfl, rfl⟩ := hrel
    have hs := HK.out k (by rw [HL.out]; exact hkn)
    by_cases hlt : k < n
    · have hc := hI k (by rw [HL.out]; exact hlt)
      have hz := HA.out k (by rw [HL.out]; exact hlt)
      have HS := Lib.hid (HT.out k (by rw [HL.out]; exact hlt))
      generalize zs.getD k 0 = x at hc hz HS
      generalize sumL (zs.take k) = s at hs HS ⊢
      go_wp2
      go_round
      case rel => exact ⟨k + 1, by omega, by go_num, by rw [HS.out]⟩
      case measure => simp [intOf]; omega
    · have hkn2 : k = n := by omega
      subst hkn2
      rw [HE.out]
      go_wp2
      go_ret
      exact ⟨rfl, rfl⟩

theorem cntL_pos (a : Int) (l : List Int) : 1 ≤ cntL a l ↔ a ∈ l := by
  induction l with
  | nil => simp [cntL]
  | cons x l ih =>
    have hb := cntL_bd a l
    have he := eqI_bd x a
    simp only [cntL, List.mem_cons]
    constructor
    · intro h
      by_cases hx : x = a
      · exact .inl hx.symm
      · have : eqI x a = 0 := if_neg hx
        exact .inr (ih.1 (by omega))
    · rintro (rfl | h)
      · rw [eqI_self]; omega
      · have := ih.2 h; omega
/-- How many of the numbers are each of 0 .. 80. -/
def cnts (l : List Int) : List Int := (List.range 81).map fun (s : Nat) => cntL (s : Int) l
theorem cnts_length (l : List Int) : (cnts l).length = 81 := by simp [cnts]
theorem cnts_nil : cnts [] = List.replicate 81 0 := by rfl
theorem cnts_getD (l : List Int) (s : Nat) (h : s < 81) : (cnts l).getD s 0 = cntL (s : Int) l := by
  simp [cnts, List.getElem?_map, List.getElem?_range h]
theorem cnts_snoc (l : List Int) (s : Nat) (h : s < 81) : (cnts l).set s (cntL (s : Int) l + 1) = cnts (l ++ [(s : Int)]) := by
  apply List.ext_getElem?
  intro j
  unfold cnts
  rw [List.getElem?_set]
  by_cases hj : j < 81
  · by_cases e : s = j
    · subst e
      rw [if_pos rfl]
      simp [List.getElem?_map, List.getElem?_range hj, cntL_append, cntL, eqI_self, hj]
    · rw [if_neg e]
      have : eqI (s : Int) (j : Int) = 0 := if_neg (by omega)
      simp [List.getElem?_map, List.getElem?_range hj, cntL_append, cntL, this]
  · rw [List.getElem?_eq_none (by simp; omega), List.getElem?_eq_none (by simp; omega)]
    split
    · rename_i h1; split <;> simp_all
    · rfl
/-- The numbers below k that so many have. -/
def withTo (l : List Int) (many : Int) (k : Nat) : List Int := ((List.range k).filter fun (s : Nat) => decide (many ≤ cntL (s : Int) l)).map fun (s : Nat) => (s : Int)
theorem withTo_succ (l : List Int) (many : Int) (k : Nat) : withTo l many (k + 1) = withTo l many k ++ (if many ≤ cntL (k : Int) l then [(k : Int)] else []) := by
  unfold withTo
  rw [List.range_succ, List.filter_append, List.map_append]
  congr 1
  by_cases h : many ≤ cntL (k : Int) l
  · rw [if_pos h]; simp [h]
  · rw [if_neg h]; simp [h]
theorem withTo_len (l : List Int) (many : Int) (k : Nat) : (withTo l many k).length ≤ k := by
  unfold withTo
  rw [List.length_map]
  exact Nat.le_trans (List.length_filter_le _ _) (by simp)
theorem withTo_mem (l : List Int) (many : Int) (k : Nat) (x : Int) : x ∈ withTo l many k ↔ ∃ s : Nat, s < k ∧ many ≤ cntL (s : Int) l ∧ x = (s : Int) := by
  unfold withTo
  simp only [List.mem_map, List.mem_filter, List.mem_range, decide_eq_true_eq]
  constructor
  · rintro ⟨s, ⟨h1, h2⟩, rfl⟩; exact ⟨s, h1, h2, rfl⟩
  · rintro ⟨s, h1, h2, rfl⟩; exact ⟨s, ⟨h1, h2⟩, rfl⟩
theorem withTo_sorted (l : List Int) (many : Int) (k : Nat) : (withTo l many k).Pairwise (· < ·) := by
  unfold withTo
  rw [List.pairwise_map]
  exact (List.pairwise_lt_range.filter _).imp fun h => by omega

set_option maxHeartbeats 4000000 in
set_option maxRecDepth 100000 in
theorem siSums_some (B U go n c : Nat) (vs : List Value) (rss : List (List Int)) (w : World) (hl : rss.length = n) (hO : OwnSS B U w (.slice (some ⟨go, 0, none⟩) n c) vs rss) (hU : U ≤ w.heap.size) (hF : FamS rss) (hcell : ∀ i, i < n → w.cell? ⟨go, i, none⟩ = some (vs.getD i (.slice none 0 0))) :
    Calls Try.prog 66 #[.slice (some ⟨go, 0, none⟩) n c] w (RetRow (cnts (rss.map sumL)) w) := by
  obtain ⟨i0, hi, hz0, hz1, hz2⟩ := info_parts infoInt
  have HO := Lib.hid hO
  have HF := Lib.hid hF
  have HL := Lib.hid hl
  have HCell := Lib.hid hcell
  have hn : n ≤ 160000 := by have := hF.1; omega
  clear hO hF hl hcell
  go_enter Try.func66, Try.ntmps66
  go_wp2_with (first | (at_make; refine wpList_make_full _ rfl _ _ 30 rfl w.heap.size 3 i0 (.int .i64 0) 1 Try.underlying30 hi hz0 hz1 .i64 .i64 81 81 81 rfl rfl rfl rfl ?c1 ?c2 ?c3 ?_))
  case c1 => rw [hz2]; omega
  case c2 => unfold maxLen; omega
  case c3 => exact Nat.le_refl _
  intro w1 hown hg
  have hb1 : Below w.heap.size w w1 := (Below.refl _ _).grown hg (Nat.le_refl _) (by simp)
  have HO1 : Hid (Own w.heap.size w1 (.slice (some ⟨w.heap.size, 0, none⟩) 81 81) (cnts [])) := Lib.hid (by
    have e : (madeCells #[Value.int IntKind.i64 0] 81).toList = (cnts []).map (Value.int .i64) := by
      rw [toList_madeCells_one, cnts_nil, List.map_replicate]
    unfold Own
    rw [cnts_length, ← e]
    simpa using hown)
  clear hown hg
  have hbs1 := hb1.size
  go_wp2
  go_loopw [9] (fun v wr => ∃ k : Nat, k ≤ n ∧ v = .int .i64 k ∧ Hid (Own w.heap.size wr (.slice (some ⟨w.heap.size, 0, none⟩) 81 81) (cnts (numsS rss k))) ∧ Below w.heap.size w wr) (fun v _ => n - (intOf v).toNat)
  case atStart => exact ⟨0, Nat.zero_le _, rfl, HO1, hb1⟩
  case round =>
    obtain ⟨k, hk, rfl, HOk, hb⟩ := hrel
    have hsz := hb.size
    have hnl := numsS_len rss k
    by_cases hlt : k < n
    · have hkr : k < rss.length := by rw [HL.out]; exact hlt
      have hrow := ((HO.out.kept hU hb).row k hkr)
      have hfam := HF.out.2 k hkr
      have HS := Lib.hid (numsS_succ rss k hkr)
      have hc := below_cells2 hb (HCell.out k hlt)
      generalize vs.getD k (.slice none 0 0) = x at hc hrow
      generalize rss.getD k [] = r at hrow hfam HS
      rcases hrow.cases with ⟨rfl, rfl⟩ | ⟨gk, ck, rfl, _, hgl, _, _, hIk, _⟩
      · have := hfam.2; simp at this
      have HC := Lib.hid (agSum_kids gk 0 r.length ck r wr rfl hfam.1 hIk)
      have hsb := kid_sum hfam.1 r.length (Nat.le_refl _)
      rw [List.take_length] at hsb
      have hr4 := hfam.1.1
      have hr1 := hfam.2
      clear hrow hfam hIk
      obtain ⟨q, hq⟩ : ∃ q : Nat, sumL r = (q : Int) := ⟨(sumL r).toNat, by omega⟩
      rw [hq] at HC HS hsb
      have hq81 : q < 81 := by omega
      have hcnt := (HOk.out.shape.2.2.2.2.1) q (by rw [cnts_length]; exact hq81)
      rw [cnts_getD _ _ hq81, Nat.zero_add] at hcnt
      have hfz := HOk.out.shape.2.2.2.2.2 q
      have hcb := cntL_bd (q : Int) (numsS rss k)
      have HSt := Lib.hid (own_set HOk.out q (cntL (q : Int) (numsS rss k) + 1))
      have HN := Lib.hid (cnts_snoc (numsS rss k) q hq81)
      have hcb2 : 0 ≤ cntL (q : Int) (numsS rss k) ∧ cntL (q : Int) (numsS rss k) ≤ 160000 := by omega
      have q1 : (0 : Int) ≤ (q : Int) := by omega
      have q2 : (q : Int) < 81 := by omega
      clear hq hcb hnl hsb hr4 hr1
      generalize hcn : cntL (q : Int) (numsS rss k) = cn at hcnt hcb2 HSt HN
      clear hcn
      go_wp2_with (first | (go_at_call 71; refine HC.out.mono ?_; rintro e w' ⟨rfl, rfl⟩))
      go_roundw
      case rel =>
        refine ⟨k + 1, by omega, by go_num, Lib.hid ?_, hb.setCell (Nat.le_refl _) _⟩
        rw [HS.out, ← HN.out]
        exact HSt.out
      case measure => simp [intOf]; omega
    · have hkn : k = n := by omega
      have HA := Lib.hid (numsS_all rss k (by rw [HL.out]; exact hkn))
      clear hkn hk
      go_wp2
      go_ret
      refine ⟨w.heap.size, Nat.le_refl _, by rw [cnts_length]; rfl, ?_, hb⟩
      rw [cnts_length, ← HA.out]
      exact HOk.out
end Go.Proofs.Ytmdhdbkeiennmaa
