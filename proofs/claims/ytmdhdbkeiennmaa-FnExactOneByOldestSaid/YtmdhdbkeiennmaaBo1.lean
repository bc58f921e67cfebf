/- The sets of a list with a sum: both texts. -/
import Derived.Test.YtmdhdbkeiennmaaAmW
import Derived.Test.YtmdhdbkeiennmaaWi1
import Derived.Test.YtmdhdbkeiennmaaLk2
set_option linter.unusedVariables false
set_option linter.unusedSimpArgs false
namespace Go.Proofs.Ytmdhdbkeiennmaa
open Go.RowKit

def sumIs (s : Int) (r : List Int) : Bool := sumL r == s
set_option maxHeartbeats 8000000 in
set_option maxRecDepth 100000 in
theorem siBoth_some (s : Int) (B U go n c : Nat) (vs : List Value) (rss : List (List Int)) (w : World) (hl : rss.length = n) (hO : OwnSS B U w (.slice (some ⟨go, 0, none⟩) n c) vs rss) (hB : B ≤ U) (hU : U ≤ w.heap.size) (hF : FamA rss) (hcell : ∀ i, i < n → w.cell? ⟨go, i, none⟩ = some (vs.getD i (.slice none 0 0))) :
    Calls Try.prog 50 #[.slice (some ⟨go, 0, none⟩) n c, .int .i64 s] w (RetSub B (rss.filter (sumIs s)) w) := by
  obtain ⟨j0, hj, jz0, jz1, jz2⟩ := info_parts infoSlice
  have HO := Lib.hid hO
  have HF := Lib.hid hF
  have HL := Lib.hid hl
  have HCell := Lib.hid hcell
  have hn : n ≤ 160000 := by have := hF.1; omega
  have HV0 := Lib.hid (subV_zero (sumIs s) vs rss)
  have HVl := Lib.hid (fun k => subV_len (sumIs s) vs rss k)
  clear hO hF hl hcell
  go_enter Try.func50, Try.ntmps50
  go_wp2
  go_loopw [5, 10] (fun u v wr => ∃ k : Nat, k ≤ n ∧ v = .int .i64 k ∧ Hid (wr.ownsRow w.heap.size 30 1 u (subV (sumIs s) vs rss k).length (subV (sumIs s) vs rss k)) ∧ Below w.heap.size w wr) (fun _ v _ => n - (intOf v).toNat)
  case atStart => exact ⟨0, Nat.zero_le _, rfl, Lib.hid (by rw [HV0.out]; exact World.ownsRow_nil _ _ _ _), Below.refl _ _⟩
  case round =>
    obtain ⟨k, hk, rfl, Ho, hb⟩ := hrel
    have hsz := hb.size
    have hvl := HVl.out k
    by_cases hlt : k < n
    · have hkr : k < rss.length := by rw [HL.out]; exact hlt
      have hrow := ((HO.out.kept hU hb).row k hkr)
      have hfam := HF.out.2 k hkr
      have HY := Lib.hid (fun h => subV_yes (q := sumIs s) (vs := vs) (rss := rss) (k := k) h)
      have HN := Lib.hid (fun h => subV_no (q := sumIs s) (vs := vs) (rss := rss) (k := k) h)
      have hc := below_cells2 hb (HCell.out k hlt)
      generalize vs.getD k (.slice none 0 0) = x at hc hrow HY
      generalize rss.getD k [] = r at hrow hfam HY HN
      have hone := oneU hrow
      rcases hrow.cases with ⟨rfl, rfl⟩ | ⟨gk, ck, rfl, _, hgl, _, _, hIk, _⟩
      · have := hfam.2; simp at this
      have HC := Lib.hid (agSum_kids gk 0 r.length ck r wr rfl hfam.1 hIk)
      have HKw := Lib.hid (show Below wr.heap.size wr wr from Below.refl _ _)
      clear hrow hfam hIk hgl
      have HK := Lib.hid (fun (w2 : World) (hb2 : Below wr.heap.size wr w2) => (show Below w.heap.size w w2 ∧ w2.ownsRow w.heap.size 30 1 u5 (subV (sumIs s) vs rss k).length (subV (sumIs s) vs rss k) ∧ w.heap.size ≤ w2.heap.size from ⟨hb.trans (hb2.mono hsz), World.ownsRow.kept Ho.out (below_grown hb2 none) (by cases hv : u5.ownBlock <;> simp), Nat.le_trans hsz hb2.size⟩))
      clear Ho hb
      generalize hsr : sumL r = sr at HC
      cases hq : sumIs s r with
      | true =>
        have hd : (sr == s) = true := by rw [← hsr]; exact hq
        have HY2 := Lib.hid (HY.out hq)
        obtain ⟨hbw, how, hsw⟩ := HK.out wr HKw.out
        clear hq HY HN hsr
        go_wp2_with (first | (go_at_call 71; refine HC.out.mono ?_; rintro e w' ⟨rfl, rfl⟩) | (at_builtin; refine wpList_append_own _ rfl _ _ 22 rfl w.heap.size 30 j0 (.slice none 0 0) 1 24 Try.underlying22 hj jz0 jz1 jz2 rfl (by decide) _ _ _ rfl (World.ownsRow.alloc how _) ⟨wr.heap.size, 0, none⟩ 1 1 [.slice (some ⟨gk, 0, none⟩) r.length ck] rfl rfl (newCellAt _ _ _ _ rfl) hone ?c4 ?c5 ?c6 ?_))
        case c4 => unfold maxLen; omega
        case c5 => omega
        case c6 => simp; omega
        intro v' w3 hown' hgrow _
        have hb3 := sub_push (B := B) (v' := v') (x := v') hbw how hgrow
        have Ho3 : Hid (w3.ownsRow w.heap.size 30 1 v' (subV (sumIs s) vs rss (k + 1)).length (subV (sumIs s) vs rss (k + 1))) := Lib.hid (by
          rw [HY2.out, List.length_append]
          exact hown')
        clear hown' hgrow how hbw
        go_wp2
        go_roundw
        case rel => exact ⟨k + 1, by omega, by go_num, Ho3, hb3⟩
        case measure => simp [intOf]; omega
      | false =>
        have hd : (sr == s) = false := by rw [← hsr]; exact hq
        have HN2 := Lib.hid (HN.out hq)
        obtain ⟨hbw, how, hsw⟩ := HK.out wr HKw.out
        clear hq HY HN hsr
        go_wp2_with (first | (go_at_call 71; refine HC.out.mono ?_; rintro e w' ⟨rfl, rfl⟩))
        have Ho3 : Hid (wr.ownsRow w.heap.size 30 1 u5 (subV (sumIs s) vs rss (k + 1)).length (subV (sumIs s) vs rss (k + 1))) := Lib.hid (by rw [HN2.out]; exact how)
        clear how
        go_roundw
        case rel => exact ⟨k + 1, by omega, by go_num, Ho3, hbw⟩
        case measure => simp [intOf]; omega
    · have hkn : k = n := by omega
      have HS := Lib.hid (sub_own (q := sumIs s) (show k = rss.length by rw [HL.out]; exact hkn) HO.out hU hB hb Ho.out)
      clear hkn hk
      go_wp2
      go_ret
      exact ⟨_, _, rfl, HS.out, hb⟩
set_option maxHeartbeats 4000000 in
theorem siBoth_any (s : Int) (B U : Nat) (v : Value) (vs : List Value) (rss : List (List Int)) (w : World) (hO : OwnSS B U w v vs rss) (hB : B ≤ U) (hU : U ≤ w.heap.size) (hF : FamA rss) :
    Calls Try.prog 50 #[v, .int .i64 s] w (RetSub B (rss.filter (sumIs s)) w) := by
  rcases hO.cases with ⟨rfl, rfl⟩ | ⟨g, c, rfl, hc⟩
  · rw [List.filter_nil]
    go_enter Try.func50, Try.ntmps50
    go_wp2
    go_loop [5, 10] (fun u v => u = .slice none 0 0 ∧ v = .int .i64 0) (fun _ _ => 0)
    case atStart => exact ⟨rfl, rfl⟩
    case round =>
      obtain ⟨rfl, rfl⟩ := hrel
      go_wp2
      go_ret
      exact ⟨_, [], rfl, ownSS_nil _ _ _, Below.refl _ _⟩
  · exact siBoth_some s B U g rss.length c vs rss w rfl hO hB hU hF hc
set_option maxHeartbeats 1600000 in
theorem sumTest_any (q0 g c : Nat) (s : Int) (r : List Int) (w : World) (hk : Kids r) (hg : g < w.heap.size) (hI : Ints w g 0 r) (hq : w.cell? ⟨q0, 0, none⟩ = some (.int .i64 s)) :
    Calls Try.prog 72 #[.slice (some ⟨g, 0, none⟩) r.length c, .pointer (some ⟨q0, 0, none⟩)] w (Ret (.bool (sumIs s r)) w) := by
  have HSum' := Lib.hid (fun (W : World) (n : Nat) (e : W = w.drewN n) => sumOfSet_any g 0 r.length c r W rfl hk (hI.kept (show Below w.heap.size w W by rw [e]; exact below_drewN (Below.refl _ _) _) hg))
  unfold sumIs
  generalize sumL r = x at HSum' ⊢
  clear hI
  go_enter Try.func72, Try.ntmps72
  go_wp2
  go_big_quiet ((first | (go_at_call 48; exact (HSum'.out _ _ rfl).mono (fun e w1 h => ⟨h.1, _, h.2.symm⟩))))
  go_wp2
  go_ret
  exact ⟨rfl, below_drewN (Below.refl _ _) _⟩
set_option maxHeartbeats 1600000 in
theorem withSum_any (s : Int) (B U : Nat) (v : Value) (vs : List Value) (rss : List (List Int)) (w : World) (hO : OwnSS B U w v vs rss) (hB : B ≤ U) (hU : U ≤ w.heap.size) (hF : FamA rss) :
    Calls Try.prog 52 #[v, .int .i64 s] w (RetSub B (rss.filter (sumIs s)) w) := by
  have HB0 := Lib.hid (show Below w.heap.size w (w.alloc (.cells #[.int .i64 s] 3)) from (Below.refl w.heap.size w).alloc (Nat.le_refl _) _)
  have HA := Lib.hid (fun (W : World) (hb : Below w.heap.size w W) (hq : W.cell? ⟨w.heap.size, 0, none⟩ = some (.int .i64 s)) => amongW_any w.heap.size (sumIs s) B U v vs rss W (hO.kept hU hb) hB (Nat.le_trans hU hb.size) hF (fun W2 hb2 g c r hk _ hg hI => sumTest_any w.heap.size g c s r W2 hk hg hI (below_cells2 hb2 hq)))
  clear hO hF
  go_enter Try.func52, Try.ntmps52
  go_wp2_with (go_at_call 53; refine (HA.out _ HB0.out (boxC (box_newC rfl))).mono ?_; rintro e w2 ⟨v2, vs2, rfl, ho, hb2⟩)
  go_ret
  exact ⟨v2, vs2, rfl, ho, HB0.out.trans (hb2.mono HB0.out.size)⟩
theorem siSum_any (N S : Int) (w : World) : Calls Try.prog 49 #[.int .i64 N, .int .i64 S] w (RetSame (.bool (inB N 1 4 && inB S 1 80)) w) := by
  have H1 := Lib.hid (fun W => l1In_any N 1 4 W)
  have H2 := Lib.hid (fun W => l1In_any S 1 80 W)
  cases e1 : inB N 1 4 with
  | false =>
    rw [e1] at H1
    go_enter Try.func49, Try.ntmps49
    go_wp2_with (go_at_call 62; refine (H1.out _).mono ?_; rintro e w' ⟨rfl, rfl⟩)
    go_ret
    exact ⟨rfl, rfl⟩
  | true =>
    rw [e1] at H1
    go_enter Try.func49, Try.ntmps49
    go_wp2_with (first | (go_at_call_of 62 (Value.int IntKind.i64 N); refine (H1.out _).mono ?_; rintro e w' ⟨rfl, rfl⟩) | (go_at_call_of 62 (Value.int IntKind.i64 S); refine (H2.out _).mono ?_; rintro e w' ⟨rfl, rfl⟩))
    go_ret
    exact ⟨by simp, rfl⟩
end Go.Proofs.Ytmdhdbkeiennmaa
