/- numbersOf, with loop.example/g01369/impl.productOfSet. -/
import Derived.Test.YtmdhdbkeiennmabNo0
import Derived.Test.YtmdhdbkeiennmabSu1
import Derived.Test.YtmdhdbkeiennmabRowsHelp
set_option linter.unusedVariables false
set_option linter.unusedSimpArgs false
namespace Go.Proofs.Ytmdhdbkeiennmab
open Go.RowKit

/-- Lists of ages of one to four children, not very many. -/
def FamP (rss : List (List Int)) : Prop := rss.length ≤ 160000 ∧ ∀ i, i < rss.length → Kids (rss.getD i []) ∧ 1 ≤ (rss.getD i []).length
theorem cps_nilP : cps [] = [] := List.eq_nil_of_length_eq_zero (by have := cps_len []; simpa using this)
def numsP (rss : List (List Int)) (k : Nat) : List Int := (rss.take k).map prodL
theorem numsP_succ (rss : List (List Int)) (k : Nat) (hk : k < rss.length) : numsP rss (k + 1) = numsP rss k ++ [prodL (rss.getD k [])] := by
  unfold numsP
  rw [List.take_succ_eq_append_getElem hk, List.map_append]
  simp [List.getElem?_eq_getElem hk]
theorem numsP_len (rss : List (List Int)) (k : Nat) : (numsP rss k).length ≤ k := by unfold numsP; simp; omega
theorem numsP_all (rss : List (List Int)) (k : Nat) (hk : k = rss.length) : numsP rss k = rss.map prodL := by unfold numsP; subst hk; rw [List.take_length]

set_option maxHeartbeats 4000000 in
set_option maxRecDepth 100000 in
theorem numbersP_some (B U go n c : Nat) (vs : List Value) (rss : List (List Int)) (w : World) (hl : rss.length = n) (hO : OwnSS B U w (.slice (some ⟨go, 0, none⟩) n c) vs rss) (hU : U ≤ w.heap.size) (hF : FamP rss) (hcell : ∀ i, i < n → w.cell? ⟨go, i, none⟩ = some (vs.getD i (.slice none 0 0))) :
    Calls Try.prog 54 #[.slice (some ⟨go, 0, none⟩) n c, .func (.func 55) #[] #[]] w (RetOwn (cps (rss.map prodL)) w) := by
  obtain ⟨i0, hi, hz0, hz1, hz2⟩ := info_parts infoInt
  have HO := Lib.hid hO
  have HF := Lib.hid hF
  have HL := Lib.hid hl
  have HCell := Lib.hid hcell
  have hn : n ≤ 160000 := by have := hF.1; omega
  clear hO hF hl hcell
  go_enter Try.func54, Try.ntmps54
  go_wp2
  go_loopw [5, 10] (fun u v wr => ∃ k : Nat, k ≤ n ∧ v = .int .i64 k ∧ Own w.heap.size wr u (numsP rss k) ∧ Below w.heap.size w wr) (fun _ v _ => n - (intOf v).toNat)
  case atStart => exact ⟨0, Nat.zero_le _, rfl, own_nil _ _, Below.refl _ _⟩
  case round =>
    obtain ⟨k, hk, rfl, ho, hb⟩ := hrel
    have hsz := hb.size
    have hnl := numsP_len rss k
    by_cases hlt : k < n
    · have hkr : k < rss.length := by rw [HL.out]; exact hlt
      have hrow := ((HO.out.kept hU hb).row k hkr)
      have hfam := HF.out.2 k hkr
      have HS := Lib.hid (numsP_succ rss k hkr)
      have hc := below_cells2 hb (HCell.out k hlt)
      generalize vs.getD k (.slice none 0 0) = x at hc hrow
      generalize rss.getD k [] = r at hrow hfam HS
      rcases hrow.cases with ⟨rfl, rfl⟩ | ⟨gk, ck, rfl, _, hgl, _, _, hIk, _⟩
      · have := hfam.2; simp at this
      have HC := Lib.hid (productOfSet_any gk 0 r.length ck r wr rfl hfam.1 hIk)
      clear hrow hfam hIk
      generalize prodL r = y at HC HS
      go_wp2_with (first | (go_at_call 55; refine HC.out.mono ?_; rintro e w' ⟨rfl, rfl⟩) | (at_builtin; refine wpList_append_own _ rfl _ _ 22 rfl w.heap.size 3 i0 (.int .i64 0) 1 8 Try.underlying22 hi hz0 hz1 hz2 rfl (by decide) _ _ _ rfl (World.ownsRow.alloc ho _) ⟨wr.heap.size, 0, none⟩ 1 1 [.int .i64 y] rfl rfl (newCell _ _ _) (oneInt _) ?c3 ?c4 ?c5 ?_))
      case c3 => unfold maxLen; omega
      case c4 => omega
      case c5 => simp; omega
      intro v' w1 hown' hgrow _
      have hb1 := below_push hb ho hgrow
      have ho1 := own_push hown'
      rw [← HS.out] at ho1
      clear hown' hgrow hc
      go_wp2
      go_roundw
      case rel => exact ⟨k + 1, by omega, by go_num, ho1, hb1⟩
      case measure => simp [intOf]; omega
    · have hkn : k = n := by omega
      have HA := Lib.hid (numsP_all rss k (by rw [HL.out]; exact hkn))
      rw [HA.out] at ho hnl
      have hnl2 : (rss.map prodL).length ≤ 160000 := by omega
      clear hkn hk
      obtain ⟨ns, hns⟩ : ∃ ns, rss.map prodL = ns := ⟨_, rfl⟩
      rw [hns] at ho hnl hnl2
      have HNs := Lib.hid hns
      clear hns
      rcases ho.cases with ⟨rfl, rfl⟩ | ⟨gk, ck, rfl, hgB, hgl, _⟩
      · go_wp2_with (first | (go_at_call 72; refine (sort_none _ _ _).mono ?_; rintro e w' ⟨rfl, rfl⟩) | (go_at_call 73; refine (compact_none _ _ _).mono ?_; rintro e w' ⟨rfl, rfl⟩))
        go_ret
        exact ⟨_, rfl, by rw [HNs.out, cps_nilP]; exact own_nil _ _, hb⟩
      · have HSo := Lib.hid (sort_any w.heap.size gk ns.length ck ns wr (by omega) ho)
        clear ho hnl
        go_wp2_with (first | (go_at_call 72; refine HSo.out.mono ?_; rintro e w2 ⟨rfl, ho2, hg2⟩))
        have HCo := Lib.hid (compact_any w.heap.size gk ns.length ck (srt ns) w2 (by rw [← srt_length ns] at hnl2; have := hnl2; rw [srt_length] at this; omega) ho2)
        have hb2 := below_grownAbove hb hg2 hgB
        clear ho2 hg2
        go_wp2_with (first | (go_at_call 73; refine HCo.out.mono ?_; rintro e w3 ⟨rfl, ho3, hg3⟩))
        go_ret
        exact ⟨_, rfl, by rw [HNs.out]; exact ho3, below_grownAbove hb2 hg3 hgB⟩
set_option maxHeartbeats 4000000 in
set_option maxRecDepth 100000 in
theorem numbersP_any (B U : Nat) (v : Value) (vs : List Value) (rss : List (List Int)) (w : World) (hO : OwnSS B U w v vs rss) (hU : U ≤ w.heap.size) (hF : FamP rss) :
    Calls Try.prog 54 #[v, .func (.func 55) #[] #[]] w (RetOwn (cps (rss.map prodL)) w) := by
  rcases hO.cases with ⟨rfl, rfl⟩ | ⟨g, c, rfl, hc⟩
  · rw [List.map_nil, cps_nilP]
    go_enter Try.func54, Try.ntmps54
    go_wp2
    go_loop [5, 10] (fun u v => u = .slice none 0 0 ∧ v = .int .i64 0) (fun _ _ => 0)
    case atStart => exact ⟨rfl, rfl⟩
    case round =>
      obtain ⟨rfl, rfl⟩ := hrel
      go_wp2_with (first | (go_at_call 72; refine (sort_none _ _ _).mono ?_; rintro e w' ⟨rfl, rfl⟩) | (go_at_call 73; refine (compact_none _ _ _).mono ?_; rintro e w' ⟨rfl, rfl⟩))
      go_ret
      exact ⟨_, rfl, own_nil _ _, Below.refl _ _⟩
  · exact numbersP_some B U g rss.length c vs rss w rfl hO hU hF hc
end Go.Proofs.Ytmdhdbkeiennmab
