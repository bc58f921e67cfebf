/- The statements' helpers on lists of lists. -/
import Derived.Test.YtkkjbkagkmngkaaRowsKit
import Derived.Deep.RegionHeld3
set_option linter.unusedVariables false
set_option linter.unusedSimpArgs false
namespace Go.Proofs.Ytkkjbkagkmngkaa
open Go.RowKit

theorem below_cells2 {W W' : World} (hb : Below W.heap.size W W') {g : Nat} {j : Nat} {v : Value} (h : W.cell? ⟨g, j, none⟩ = some v) : W'.cell? ⟨g, j, none⟩ = some v :=
  (hb.cell (p := ⟨g, j, none⟩) (World.block_lt_of_cell? W _ h)).trans h

set_option maxHeartbeats 1600000 in
theorem eqIntSS_some (B1 U1 B2 U2 g1 c1 g2 c2 n : Nat) (vs1 vs2 : List Value) (rss : List (List Int)) (w : World) (hl : rss.length = n) (hs : Small rss) (h1 : OwnSS B1 U1 w (.slice (some ⟨g1, 0, none⟩) n c1) vs1 rss) (h2 : OwnSS B2 U2 w (.slice (some ⟨g2, 0, none⟩) n c2) vs2 rss) (hU1 : U1 ≤ w.heap.size) (hU2 : U2 ≤ w.heap.size)
    (hc1 : ∀ i, i < n → w.cell? ⟨g1, i, none⟩ = some (vs1.getD i (.slice none 0 0))) (hc2 : ∀ i, i < n → w.cell? ⟨g2, i, none⟩ = some (vs2.getD i (.slice none 0 0))) :
    Calls Try.prog 22 #[.slice (some ⟨g1, 0, none⟩) n c1, .slice (some ⟨g2, 0, none⟩) n c2] w (Ret (.bool true) w) := by
  have H1 := Lib.hid h1
  have H2 := Lib.hid h2
  have HC1 := Lib.hid hc1
  have HC2 := Lib.hid hc2
  have HS := Lib.hid hs
  have HL := Lib.hid hl
  have hn : n ≤ 200000 := by have := hs.1; omega
  clear h1 h2 hc1 hc2 hs hl
  go_enter Try.func22, Try.ntmps22
  go_wp2
  go_loopw [5] (fun v wr => ∃ k : Nat, k ≤ n ∧ v = .int .i64 k ∧ Below w.heap.size w wr) (fun v _ => n - (intOf v).toNat)
  case atStart => exact ⟨0, Nat.zero_le _, rfl, Below.refl _ _⟩
  case round =>
    obtain ⟨k, hk, rfl, hb⟩ := hrel
    by_cases hlt : k < n
    · have d1 := below_cells2 hb (HC1.out k hlt)
      have d2 := below_cells2 hb (HC2.out k hlt)
      have e1 := ((H1.out.kept hU1 hb).row k (by rw [HL.out]; exact hlt))
      have e2 := ((H2.out.kept hU2 hb).row k (by rw [HL.out]; exact hlt))
      have hz := HS.out.2 k (by rw [HL.out]; exact hlt)
      have e1' : Own B1 wr.drew (vs1.getD k (.slice none 0 0)) (rss.getD k []) := e1
      have e2' : Own B2 wr.drew (vs2.getD k (.slice none 0 0)) (rss.getD k []) := e2
      clear e1 e2
      generalize vs1.getD k (.slice none 0 0) = x1 at d1 e1'
      generalize vs2.getD k (.slice none 0 0) = x2 at d2 e2'
      generalize rss.getD k [] = zs at e1' e2' hz
      have hi0 : (0 : Int) ≤ (k : Int) := by omega
      have hi1 : (k : Int) < (n : Int) := by omega
      have hbd : Below w.heap.size w wr.drew := hb.drew
      go_wp2_with fail
      go_region_held3 (fun w' => Below w.heap.size w w' ∧ w'.cell? ⟨g1, k, none⟩ = some x1 ∧ w'.cell? ⟨g2, k, none⟩ = some x2 ∧ Own B1 w' x1 zs ∧ Own B2 w' x2 zs)
        (first
          | go_keep
          | (go_split_ands
             refine ⟨?_, ?_, ?_, ?_, ?_⟩
             · exact Below.trans (by assumption) (Below.mono hcall (Below.size (by assumption)))
             · exact below_cells2 hcall (by assumption)
             · exact below_cells2 hcall (by assumption)
             · exact Own.kept (by assumption) hcall
             · exact Own.kept (by assumption) hcall))
        (first | (go_at_call 30; refine (eqIntS_any B1 B2 x1 x2 zs _ (by omega) ?_ ?_).mono ?_; (go_split_ands; assumption); (go_split_ands; assumption); rintro e w' ⟨rfl, hcall⟩))
      obtain ⟨hbf, _⟩ := ‹Below w.heap.size w _ ∧ _›
      go_wp2
      go_roundw
      case rel => exact ⟨k + 1, by omega, by go_num, hbf⟩
      case measure => simp [intOf]; omega
    · go_wp2
      go_ret
      exact ⟨rfl, hb⟩
theorem eqIntSS_empty (a1 a2 : Option Addr) (c1 c2 : Nat) (w : World) :
    Calls Try.prog 22 #[.slice a1 0 c1, .slice a2 0 c2] w (Ret (.bool true) w) := by
  go_enter Try.func22, Try.ntmps22
  go_wp2
  go_rounds 1
  go_ret
  exact ⟨rfl, Below.refl _ _⟩
theorem eqIntSS_any (B1 U1 B2 U2 : Nat) (v1 v2 : Value) (vs1 vs2 : List Value) (rss : List (List Int)) (w : World) (hs : Small rss) (h1 : OwnSS B1 U1 w v1 vs1 rss) (h2 : OwnSS B2 U2 w v2 vs2 rss) (hU1 : U1 ≤ w.heap.size) (hU2 : U2 ≤ w.heap.size) :
    Calls Try.prog 22 #[v1, v2] w (Ret (.bool true) w) := by
  rcases h1.cases with ⟨rfl, rfl⟩ | ⟨g1, c1, rfl, i1⟩
  · rcases h2.cases with ⟨rfl, _⟩ | ⟨g2, c2, rfl, i2⟩
    · exact eqIntSS_empty _ _ _ _ _
    · exact eqIntSS_empty _ _ _ _ _
  · rcases h2.cases with ⟨rfl, rfl⟩ | ⟨g2, c2, rfl, i2⟩
    · exact eqIntSS_empty _ _ _ _ _
    · exact eqIntSS_some B1 U1 B2 U2 g1 c1 g2 c2 _ vs1 vs2 rss w rfl hs h1 h2 hU1 hU2 i1 i2

def RetMarkSS (B U : Nat) (v : Value) (vs : List Value) (rss : List (List Int)) (k : Int) (w : World) (e : Ending) (w' : World) : Prop :=
  e = .returned (.int .i64 (k + total rss)) ∧ OwnSS B U w' v vs (mkSS rss k rss.length) ∧ Below B w w'

set_option maxHeartbeats 1600000 in
theorem markIntSS_some (B U g c n : Nat) (vs : List Value) (rss : List (List Int)) (k : Int) (w : World) (hl : rss.length = n) (hs : Small rss) (hk0 : 0 ≤ k) (hk1 : k ≤ 1000000) (hB : B ≤ w.heap.size) (h : OwnSS B U w (.slice (some ⟨g, 0, none⟩) n c) vs rss) :
    Calls Try.prog 24 #[.slice (some ⟨g, 0, none⟩) n c, .int .i64 k] w (RetMarkSS B U (.slice (some ⟨g, 0, none⟩) n c) vs rss k w) := by
  have HH := Lib.hid h
  have HS := Lib.hid hs
  have HL := Lib.hid hl
  have hn : n ≤ 200000 := by have := hs.1; omega
  clear h hs hl
  go_enter Try.func24, Try.ntmps24
  go_wp2
  go_loopw [1, 5] (fun q v wr => ∃ i : Nat, i ≤ n ∧ v = .int .i64 i ∧ q = .int .i64 (k + total (rss.take i)) ∧ OwnSS B U wr (.slice (some ⟨g, 0, none⟩) n c) vs (mkSS rss k i) ∧ Below B w wr) (fun _ v _ => n - (intOf v).toNat)
  case atStart => exact ⟨0, Nat.zero_le _, rfl, by simp [total], by rw [mkSS_zero]; exact HH.out, Below.refl _ _⟩
  case round =>
    obtain ⟨i, hi, rfl, rfl, ho, hb⟩ := hrel
    have ht := total_le rss HS.out i (by rw [HL.out]; exact hi)
    have hsz := hb.size
    by_cases hlt : i < n
    · have hlr : i < rss.length := by rw [HL.out]; exact hlt
      have hlm : i < (mkSS rss k i).length := by rw [mkSS_length]; exact hlr
      have hc : wr.cell? ⟨g, i, none⟩ = some (vs.getD i (.slice none 0 0)) := by
        rcases ho.cases with ⟨h0, _⟩ | ⟨g', c', h0, hc⟩
        · simp at h0
        · simp only [Value.slice.injEq, Option.some.injEq, Addr.mk.injEq, and_true, true_and] at h0
          obtain ⟨rfl, _⟩ := h0
          exact hc i hlm
      have hrow := ho.row i hlm
      have hg0 := mkSS_getD rss k i i hlr
      rw [if_neg (by omega)] at hg0
      rw [hg0] at hrow
      have hz := HS.out.2 i hlr
      have HT := Lib.hid (total_succ rss i hlr)
      have HO := Lib.hid ho
      have HX : ∀ (w' : World), wr.grownBy w' (vs.getD i (.slice none 0 0)).ownBlock → Own B w' (vs.getD i (.slice none 0 0)) (marks (k + total (rss.take i)) (rss.getD i []).length) → OwnSS B U w' (.slice (some ⟨g, 0, none⟩) n c) vs (mkSS rss k (i + 1)) := fun w' hg hr => by
        refine HO.out.write i hlm (by rw [mkSS_length, mkSS_length]) hg ?_ fun j hj hji => ?_
        · rw [mkSS_getD _ _ _ _ hlr, if_pos (by omega)]; exact hr
        · rw [mkSS_length] at hj
          rw [mkSS_getD _ _ _ _ hj, mkSS_getD _ _ _ _ hj]
          by_cases h1 : j < i
          · rw [if_pos h1, if_pos (by omega)]
          · rw [if_neg h1, if_neg (by omega)]
      have hbl := hrow.block
      have HX' := Lib.hid HX
      clear HX hg0 ho
      generalize vs.getD i (.slice none 0 0) = x at hc hrow hbl HX'
      generalize rss.getD i [] = zs at hrow hz HT HX'
      have hi0 : (0 : Int) ≤ (i : Int) := by omega
      have hi1 : (i : Int) < (n : Int) := by omega
      generalize total (rss.take i) = s at ht HT HX' ⊢
      go_wp2_with fail
      refine (markIntS_any B x zs _ _ (by omega) (by omega) (by omega) hrow).mono ?_
      rintro e w' ⟨rfl, hr', hg'⟩
      have ho' := HX'.out w' hg' hr'
      have hb' := hb.grown hg' (by omega) (fun q hq => by rcases hbl with h | ⟨g1, h, h1, _⟩ <;> rw [h] at hq <;> simp at hq; omega)
      clear hbl hg' hr'
      go_wp2
      go_roundw
      case rel => exact ⟨i + 1, by omega, by go_num, by rw [HT.out]; go_num, ho', hb'⟩
      case measure => simp [intOf]; omega
    · have hin : i = rss.length := by rw [HL.out]; omega
      have hin2 : i = n := by omega
      have HF := Lib.hid (show total (rss.take i) = total rss by rw [hin, List.take_length])
      have HO := Lib.hid ho
      clear ho
      go_wp2
      go_ret
      exact ⟨by rw [← HF.out]; rfl, by rw [← hin]; exact HO.out, hb⟩
theorem markIntSS_nil (k : Int) (w : World) :
    Calls Try.prog 24 #[.slice none 0 0, .int .i64 k] w (Ret (.int .i64 k) w) := by
  go_enter Try.func24, Try.ntmps24
  go_wp2
  go_rounds 1
  go_ret
  exact ⟨rfl, Below.refl _ _⟩
theorem markIntSS_any (B U : Nat) (v : Value) (vs : List Value) (rss : List (List Int)) (k : Int) (w : World) (hs : Small rss) (hk0 : 0 ≤ k) (hk1 : k ≤ 1000000) (hB : B ≤ w.heap.size) (hU : U ≤ w.heap.size) (h : OwnSS B U w v vs rss) :
    Calls Try.prog 24 #[v, .int .i64 k] w (RetMarkSS B U v vs rss k w) := by
  rcases h.cases with ⟨rfl, rfl⟩ | ⟨g, c, rfl, _⟩
  · refine (markIntSS_nil k w).mono ?_
    rintro e w' ⟨rfl, hb⟩
    exact ⟨by simp [total], h.keep (fun i _ h2 => hb.block i (by omega)), hb.mono hB⟩
  · exact markIntSS_some B U g c _ vs rss k w rfl hs hk0 hk1 hB h

set_option maxHeartbeats 1600000 in
theorem heldIntSS_some (B U g c n : Nat) (vs : List Value) (rss : List (List Int)) (k : Int) (w : World) (hl : rss.length = n) (hs : Small rss) (hk0 : 0 ≤ k) (hk1 : k ≤ 1000000) (hU : U ≤ w.heap.size) (h : OwnSS B U w (.slice (some ⟨g, 0, none⟩) n c) vs (mkSS rss k rss.length)) :
    Calls Try.prog 25 #[.slice (some ⟨g, 0, none⟩) n c, .int .i64 k] w (Ret (.int .i64 (k + total rss)) w) := by
  have HH := Lib.hid h
  have HS := Lib.hid hs
  have HL := Lib.hid hl
  have hn : n ≤ 200000 := by have := hs.1; omega
  clear h hs hl
  go_enter Try.func25, Try.ntmps25
  go_wp2
  go_loopw [1, 5] (fun q v wr => ∃ i : Nat, i ≤ n ∧ v = .int .i64 i ∧ q = .int .i64 (k + total (rss.take i)) ∧ Below w.heap.size w wr) (fun _ v _ => n - (intOf v).toNat)
  case atStart => exact ⟨0, Nat.zero_le _, rfl, by simp [total], Below.refl _ _⟩
  case round =>
    obtain ⟨i, hi, rfl, rfl, hb⟩ := hrel
    have ht := total_le rss HS.out i (by rw [HL.out]; exact hi)
    by_cases hlt : i < n
    · have hlr : i < rss.length := by rw [HL.out]; exact hlt
      have ho := HH.out.kept hU hb
      have hlm : i < (mkSS rss k rss.length).length := by rw [mkSS_length]; exact hlr
      have hc : wr.cell? ⟨g, i, none⟩ = some (vs.getD i (.slice none 0 0)) := by
        rcases ho.cases with ⟨h0, _⟩ | ⟨g', c', h0, hc⟩
        · simp at h0
        · simp only [Value.slice.injEq, Option.some.injEq, Addr.mk.injEq, and_true, true_and] at h0
          obtain ⟨rfl, _⟩ := h0
          exact hc i hlm
      have hrow := ho.row i hlm
      rw [mkSS_getD _ _ _ _ hlr, if_pos hlr] at hrow
      have hz := HS.out.2 i hlr
      have HT := Lib.hid (total_succ rss i hlr)
      clear ho
      generalize vs.getD i (.slice none 0 0) = x at hc hrow
      generalize rss.getD i [] = zs at hrow hz HT
      have hi0 : (0 : Int) ≤ (i : Int) := by omega
      have hi1 : (i : Int) < (n : Int) := by omega
      generalize total (rss.take i) = s at ht HT hrow ⊢
      go_wp2_with fail
      refine (heldIntS_any B x zs _ _ (by omega) (by omega) (by omega) hrow).mono ?_
      rintro e w' ⟨rfl, hb2⟩
      have hb' := hb.trans (hb2.mono hb.size)
      go_wp2
      go_roundw
      case rel => exact ⟨i + 1, by omega, by go_num, by rw [HT.out]; go_num, hb'⟩
      case measure => simp [intOf]; omega
    · have hin : i = rss.length := by rw [HL.out]; omega
      have HF := Lib.hid (show total (rss.take i) = total rss by rw [hin, List.take_length])
      go_wp2
      go_ret
      exact ⟨by rw [← HF.out]; rfl, hb⟩
theorem heldIntSS_nil (k : Int) (w : World) :
    Calls Try.prog 25 #[.slice none 0 0, .int .i64 k] w (Ret (.int .i64 k) w) := by
  go_enter Try.func25, Try.ntmps25
  go_wp2
  go_rounds 1
  go_ret
  exact ⟨rfl, Below.refl _ _⟩

theorem heldIntSS_any (B U : Nat) (v : Value) (vs : List Value) (rss : List (List Int)) (k : Int) (w : World) (hs : Small rss) (hk0 : 0 ≤ k) (hk1 : k ≤ 1000000) (hU : U ≤ w.heap.size) (h : OwnSS B U w v vs (mkSS rss k rss.length)) :
    Calls Try.prog 25 #[v, .int .i64 k] w (Ret (.int .i64 (k + total rss)) w) := by
  rcases h.cases with ⟨rfl, h0⟩ | ⟨g, c, rfl, _⟩
  · have h1 : rss = [] := by
      have := congrArg List.length h0
      rw [mkSS_length] at this
      exact List.eq_nil_of_length_eq_zero this
    subst h1
    refine (heldIntSS_nil k w).mono ?_
    rintro e w' ⟨rfl, hb⟩
    exact ⟨by simp [total], hb⟩
  · rw [mkSS_length] at h ⊢
    exact heldIntSS_some B U g c _ vs rss k w rfl hs hk0 hk1 hU h
end Go.Proofs.Ytkkjbkagkmngkaa
