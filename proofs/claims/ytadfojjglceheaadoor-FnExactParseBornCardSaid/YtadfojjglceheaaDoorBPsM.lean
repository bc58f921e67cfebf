/- How the model parses births. -/
import Derived.Test.YtadfojjglceheaaDoorBSplit
import Derived.Test.YtadfojjglceheaaDoorBPs
set_option linter.unusedVariables false
set_option linter.unusedSimpArgs false
namespace Go.Proofs.YtadfojjglceheaaDoor
open Go.RowKit

theorem ownT_cases {B : Nat} {w : World} {v : Value} {ss : List ByteArray} (h : OwnT B w v ss) (hne : 0 < ss.length) :
    ∃ g c, v = .slice (some ⟨g, 0, none⟩) ss.length c ∧ B ≤ g ∧ g < w.heap.size ∧ ∀ j, j < ss.length → w.cell? ⟨g, j, none⟩ = some (.string (ss.getD j ByteArray.empty)) := by
  have h' := h
  rcases h.2 with ⟨h2, h3⟩ | ⟨g, cap, cur, rfl, h2, h3, h4, h5, h6, h7⟩
  · omega
  · refine ⟨g, cap, rfl, h2, (Array.getElem?_eq_some_iff.1 h3).1, fun j hj => ?_⟩
    have := World.ownsRow.cellAt h' j (by omega)
    rw [this]
    simp [List.getElem?_map, List.getElem?_eq_getElem hj, List.getD_eq_getElem?_getD]
theorem cuts_len1 (s : ByteArray) : 0 < (cuts 44 s).length := by unfold cuts; simp
theorem cuts_len2 (s : ByteArray) : (cuts 44 s).length ≤ s.size + 1 := by
  have := cutO_len 44 s s.size
  unfold cuts
  rw [List.length_append]
  simp only [List.length_cons, List.length_nil]
  omega
/-- What the first k pieces read as. -/
def rd (s : ByteArray) (k : Nat) : List Int := ((cuts 44 s).take k).map readB
theorem rd_zero (s : ByteArray) : rd s 0 = [] := rfl
theorem rd_succ (s : ByteArray) (k : Nat) (hk : k < (cuts 44 s).length) : rd s (k + 1) = rd s k ++ [readB ((cuts 44 s).getD k ByteArray.empty)] := by
  unfold rd
  rw [List.take_succ_eq_append_getElem hk, List.map_append]
  simp [List.getElem?_eq_getElem hk, List.getD_eq_getElem?_getD]
theorem rd_all (s : ByteArray) (k : Nat) (hk : (cuts 44 s).length ≤ k) : rd s k = bReads s := by unfold rd bReads; rw [List.take_of_length_le hk]
theorem rd_len (s : ByteArray) (k : Nat) : (rd s k).length ≤ (cuts 44 s).length := by unfold rd; simp; omega
theorem bReads_len (s : ByteArray) : (bReads s).length = (cuts 44 s).length := by unfold bReads; simp


set_option maxHeartbeats 1000000 in
theorem parseS_long (s : ByteArray) (w : World) (h : 50 < s.size) : Calls Tryd.prog 9 #[.string s] w (RetOwnB [] false w) := by
  have hI : (50 : Int) < (s.size : Int) := by omega
  go_enter Tryd.func9, Tryd.ntmps9
  go_wp2_with fail
  go_ret2
  exact ⟨_, rfl, own_nil _ _, Below.refl _ _⟩

set_option maxHeartbeats 2000000 in
set_option maxRecDepth 100000 in
theorem parseS_of (s : ByteArray) (w : World) (h : s.size ≤ 50) (rs : List Int) (ok : Bool) (hok : Hid (bornB (bReads s) = ok)) (hrs : Hid (rs = if ok = true then bReads s else [])) : Calls Tryd.prog 9 #[.string s] w (RetOwnB rs ok w) := by
  obtain ⟨i0, hi, hz0, hz1, hz2⟩ := info_parts infoInt
  have hI : ¬ (50 : Int) < (s.size : Int) := by omega
  have hl1 := cuts_len1 s
  have hl2 := cuts_len2 s
  go_enter Tryd.func9, Tryd.ntmps9
  go_wp2_with fail
  refine (l1Split_any 44 s _ (by omega)).mono ?_
  rintro e w2 ⟨v, rfl, ho, hb0⟩
  obtain ⟨g, c, rfl, hg0, hg1, hcs⟩ := ownT_cases ho hl1
  have HC := Lib.hid hcs
  have hs0 := hb0.size
  clear ho hcs
  obtain ⟨n, hn⟩ : ∃ n, (cuts 44 s).length = n := ⟨_, rfl⟩
  rw [hn] at hl1 hl2 HC ⊢
  go_wp2_with fail
  go_loopw [4, 13] (fun o v wr => ∃ k : Nat, k ≤ n ∧ v = .int .i64 (k : Int) ∧ Own w2.heap.size wr o (rd s k) ∧ Below w2.heap.size w2 wr) (fun _ v _ => ((n : Int) + 1 - intOf v).toNat)
  case atStart => exact ⟨0, by omega, rfl, own_nil _ _, Below.refl _ _⟩
  case round =>
    obtain ⟨k, hk, rfl, ho, hb⟩ := hrel
    have hrl := rd_len s k
    have hsz := hb.size
    by_cases hlt : k < n
    · have hc : wr.cell? ⟨g, k, none⟩ = some (.string ((cuts 44 s).getD k ByteArray.empty)) := (hb.cell (p := ⟨g, k, none⟩) hg1).trans (HC.out k hlt)
      have HR := Lib.hid (rd_succ s k (by omega))
      generalize (cuts 44 s).getD k ByteArray.empty = x at hc HR
      go_wp2_with (first | (go_at_call 19; refine (l1Read_any x _).mono ?_; rintro e w' ⟨rfl, rfl⟩) | (at_builtin; refine wpList_append_own _ rfl _ _ 22 rfl w2.heap.size 3 i0 (.int .i64 0) 1 8 Tryd.underlying22 hi hz0 hz1 hz2 rfl (by decide) _ _ _ rfl (World.ownsRow.alloc ho _) ⟨wr.heap.size, 0, none⟩ 1 1 [.int .i64 (readB x)] rfl rfl (newCell _ _ _) (oneInt _) ?c3 ?c4 ?c5 ?_))
      case c3 => unfold maxLen; omega
      case c4 => omega
      case c5 => simp; omega
      intro v' w1 hown' hgrow _
      have hb1 := below_push hb ho hgrow
      have ho1 := own_push hown'
      rw [← HR.out] at ho1
      clear hown' hgrow hc
      go_wp2_with fail
      go_roundw
      case rel => exact ⟨k + 1, by omega, by go_num, ho1, hb1⟩
      case measure => simp [intOf]; omega
    · rw [rd_all s k (by omega)] at ho
      have hrn := bReads_len s
      rw [hn] at hrn
      rcases ho.cases with ⟨rfl, h0⟩ | ⟨q, cq, rfl, hq0, hq1, hq2, hq3, hq4, hq5⟩
      · rw [h0] at hrn
        simp at hrn
        omega
      · have hbb := hb0.trans (hb.mono hs0)
        clear hn hrl
        subst hrn
        have ho2 := ho.mono hs0
        have hGA := fun w (hI : Ints w q 0 (bReads s)) => roBorn_any q 0 (bReads s).length cq (bReads s) w rfl (by omega) hI
        cases ok with
        | false =>
          rw [hok.out] at hGA
          obtain rfl : rs = [] := hrs.out
          go_wp2_with (go_at_call 13; refine (hGA _ hq4).mono ?_; rintro e w' ⟨rfl, rfl⟩)
          go_ret2
          exact ⟨_, rfl, own_nil _ _, hbb⟩
        | true =>
          have hT := Lib.hid fun w (hI : Ints w q 0 (bReads s)) hbl => roText_any q 0 (bReads s).length cq (bReads s) w rfl hI hbl hok.out
          rw [← bx_bReads (good_ok hok.out)] at hT
          rw [hok.out] at hGA
          obtain rfl : rs = bReads s := hrs.out
          have HO2 := Lib.hid ho2
          have HBB := Lib.hid hbb
          clear ho2 hbb
          go_wp2_with (first | (go_at_call 13; refine (hGA _ hq4).mono ?_; rintro e w' ⟨rfl, rfl⟩) | (go_at_call 14; refine (hT.out _ hq4 hq1).mono ?_; rintro e w' ⟨rfl, hcall⟩))
          go_ret2
          exact ⟨_, rfl, HO2.out.kept hcall, HBB.out.trans (hcall.mono HBB.out.size)⟩

theorem parseS_any (s : ByteArray) (w : World) : Calls Tryd.prog 9 #[.string s] w (RetOwnB (psOr s) (psd s) w) := by
  unfold psOr psd
  by_cases h : s.size ≤ 50
  · rw [decide_eq_true h, Bool.true_and]
    exact parseS_of s w h _ _ (Lib.hid rfl) (Lib.hid rfl)
  · rw [decide_eq_false h, Bool.false_and]
    exact parseS_long s w (by omega)
end Go.Proofs.YtadfojjglceheaaDoor
