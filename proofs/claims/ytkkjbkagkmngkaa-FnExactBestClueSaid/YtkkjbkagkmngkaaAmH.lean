/- setsAmong, with the question of loop.example/g01369/impl.solutionsOf$1. -/
import Derived.Test.YtkkjbkagkmngkaaPz7
set_option linter.unusedVariables false
set_option linter.unusedSimpArgs false
namespace Go.Proofs.Ytkkjbkagkmngkaa
open Go.RowKit

/-- Hidden ages of N people, not very many. -/
def FamH (N : Nat) (rss : List (List Int)) : Prop := rss.length ≤ 160000 ∧ ∀ i, i < rss.length → Hdn (rss.getD i []) ∧ (rss.getD i []).length = N
def AsksH (q0 N : Nat) (q : List Int → Bool) (w : World) : Prop :=
  ∀ (W : World), Below w.heap.size w W → ∀ (g c : Nat) (r : List Int), Hdn r → r.length = N → g < W.heap.size → Ints W g 0 r →
    Calls Try.prog 82 #[.slice (some ⟨g, 0, none⟩) r.length c, .pointer (some ⟨q0, 0, none⟩)] W (Ret (.bool (q r)) W)
set_option maxHeartbeats 8000000 in
set_option maxRecDepth 100000 in
theorem amongH_some (q0 N : Nat) (hN : 1 ≤ N) (q : List Int → Bool) (B U go n c : Nat) (vs : List Value) (rss : List (List Int)) (w : World) (hl : rss.length = n) (hO : OwnSS B U w (.slice (some ⟨go, 0, none⟩) n c) vs rss) (hB : B ≤ U) (hU : U ≤ w.heap.size) (hF : FamH N rss) (hcell : ∀ i, i < n → w.cell? ⟨go, i, none⟩ = some (vs.getD i (.slice none 0 0))) (hQ : AsksH q0 N q w) :
    Calls Try.prog 80 #[.slice (some ⟨go, 0, none⟩) n c, (.func (.func 82) #[] #[.pointer (some ⟨q0, 0, none⟩)])] w (RetSub B (rss.filter q) w) := by
  obtain ⟨j0, hj, jz0, jz1, jz2⟩ := info_parts infoSlice
  have HO := Lib.hid hO
  have HF := Lib.hid hF
  have HL := Lib.hid hl
  have HCell := Lib.hid hcell
  have HQ := Lib.hid hQ
  have hn : n ≤ 160000 := by have := hF.1; omega
  have HV0 := Lib.hid (subV_zero q vs rss)
  have HVl := Lib.hid (fun k => subV_len q vs rss k)
  clear hO hF hl hcell hQ
  go_enter Try.func80, Try.ntmps80
  go_wp2
  go_loopw [5, 10] (fun u v wr => ∃ k : Nat, k ≤ n ∧ v = .int .i64 k ∧ Hid (wr.ownsRow w.heap.size 41 1 u (subV q vs rss k).length (subV q vs rss k)) ∧ Below w.heap.size w wr) (fun _ v _ => n - (intOf v).toNat)
  case atStart => exact ⟨0, Nat.zero_le _, rfl, Lib.hid (by rw [HV0.out]; exact World.ownsRow_nil _ _ _ _), Below.refl _ _⟩
  case round =>
    obtain ⟨k, hk, rfl, Ho, hb⟩ := hrel
    have hsz := hb.size
    have hvl := HVl.out k
    by_cases hlt : k < n
    · have hkr : k < rss.length := by rw [HL.out]; exact hlt
      have hrow := ((HO.out.kept hU hb).row k hkr)
      have hfam := HF.out.2 k hkr
      have HY := Lib.hid (fun h => subV_yes (q := q) (vs := vs) (rss := rss) (k := k) h)
      have HN := Lib.hid (fun h => subV_no (q := q) (vs := vs) (rss := rss) (k := k) h)
      have hc := below_cells2 hb (HCell.out k hlt)
      generalize vs.getD k (.slice none 0 0) = x at hc hrow HY
      generalize rss.getD k [] = r at hrow hfam HY HN
      have hone := oneU hrow
      rcases hrow.cases with ⟨rfl, rfl⟩ | ⟨gk, ck, rfl, _, hgl, _, _, hIk, _⟩
      · have := hfam.2; simp at this; omega
      have HC := Lib.hid (HQ.out wr hb gk ck r hfam.1 hfam.2 hgl hIk)
      clear hrow hfam hIk hgl
      have HK := Lib.hid (fun (w2 : World) (hb2 : Below wr.heap.size wr w2) => (show Below w.heap.size w w2 ∧ w2.ownsRow w.heap.size 41 1 u5 (subV q vs rss k).length (subV q vs rss k) ∧ w.heap.size ≤ w2.heap.size from ⟨hb.trans (hb2.mono hsz), World.ownsRow.kept Ho.out (below_grown hb2 none) (by cases hv : u5.ownBlock <;> simp), Nat.le_trans hsz hb2.size⟩))
      clear Ho hb
      cases hq : q r with
      | true =>
        rw [hq] at HC
        have HY2 := Lib.hid (HY.out hq)
        clear hq HY HN
        go_wp2_with (first | (go_at_call 82; refine HC.out.mono ?_; rintro e w2 ⟨rfl, hb2⟩; obtain ⟨hbw, how, hsw⟩ := HK.out w2 hb2; clear hb2) | (at_builtin; refine wpList_append_own _ rfl _ _ 33 rfl w.heap.size 41 j0 (.slice none 0 0) 1 24 Try.underlying33 hj jz0 jz1 jz2 rfl (by decide) _ _ _ rfl (World.ownsRow.alloc how _) ⟨w2.heap.size, 0, none⟩ 1 1 [.slice (some ⟨gk, 0, none⟩) r.length ck] rfl rfl (newCellAt _ _ _ _ rfl) hone ?c4 ?c5 ?c6 ?_))
        case c4 => unfold maxLen; omega
        case c5 => omega
        case c6 => simp; omega
        intro v' w3 hown' hgrow _
        have hb3 := sub_push (B := B) (v' := v') (x := v') hbw how hgrow
        have Ho3 : Hid (w3.ownsRow w.heap.size 41 1 v' (subV q vs rss (k + 1)).length (subV q vs rss (k + 1))) := Lib.hid (by
          rw [HY2.out, List.length_append]
          exact hown')
        clear hown' hgrow how hbw
        go_wp2
        go_roundw
        case rel => exact ⟨k + 1, by omega, by go_num, Ho3, hb3⟩
        case measure => simp [intOf]; omega
      | false =>
        rw [hq] at HC
        have HN2 := Lib.hid (HN.out hq)
        clear hq HY HN
        go_wp2_with (first | (go_at_call 82; refine HC.out.mono ?_; rintro e w2 ⟨rfl, hb2⟩; obtain ⟨hbw, how, hsw⟩ := HK.out w2 hb2; clear hb2))
        have Ho3 : Hid (w2.ownsRow w.heap.size 41 1 u5 (subV q vs rss (k + 1)).length (subV q vs rss (k + 1))) := Lib.hid (by rw [HN2.out]; exact how)
        clear how
        go_roundw
        case rel => exact ⟨k + 1, by omega, by go_num, Ho3, hbw⟩
        case measure => simp [intOf]; omega
    · have hkn : k = n := by omega
      have HS := Lib.hid (sub_own (q := q) (show k = rss.length by rw [HL.out]; exact hkn) HO.out hU hB hb Ho.out)
      clear hkn hk
      go_wp2
      go_ret
      exact ⟨_, _, rfl, HS.out, hb⟩
set_option maxHeartbeats 4000000 in
theorem amongH_any (q0 N : Nat) (hN : 1 ≤ N) (q : List Int → Bool) (B U : Nat) (v : Value) (vs : List Value) (rss : List (List Int)) (w : World) (hO : OwnSS B U w v vs rss) (hB : B ≤ U) (hU : U ≤ w.heap.size) (hF : FamH N rss) (hQ : AsksH q0 N q w) :
    Calls Try.prog 80 #[v, (.func (.func 82) #[] #[.pointer (some ⟨q0, 0, none⟩)])] w (RetSub B (rss.filter q) w) := by
  rcases hO.cases with ⟨rfl, rfl⟩ | ⟨g, c, rfl, hc⟩
  · rw [List.filter_nil]
    clear hQ
    go_enter Try.func80, Try.ntmps80
    go_wp2
    go_loop [5, 10] (fun u v => u = .slice none 0 0 ∧ v = .int .i64 0) (fun _ _ => 0)
    case atStart => exact ⟨rfl, rfl⟩
    case round =>
      obtain ⟨rfl, rfl⟩ := hrel
      go_wp2
      go_ret
      exact ⟨_, [], rfl, ownSS_nil _ _ _, Below.refl _ _⟩
  · exact amongH_some q0 N hN q B U g rss.length c vs rss w rfl hO hB hU hF hc hQ
end Go.Proofs.Ytkkjbkagkmngkaa
