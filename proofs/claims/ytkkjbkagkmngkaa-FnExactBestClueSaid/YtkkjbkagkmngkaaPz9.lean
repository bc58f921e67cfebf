/- All hidden ages, in order: the program. -/
import Derived.Test.YtkkjbkagkmngkaaPz7
import Derived.Test.YtkkjbkagkmngkaaOwnI
set_option linter.unusedVariables false
set_option linter.unusedSimpArgs false
namespace Go.Proofs.Ytkkjbkagkmngkaa
open Go.RowKit

theorem clone_none (w : World) : Calls Try.prog 61 #[.slice none 0 0] w (RetOwn [] w) := by
  have he : ∀ w, (binOp BinOp.eql 41 (.slice none 0 0) (.slice none 0 0)).run Try.prog w = .ok (.bool true) w := fun _ => rfl
  go_enter Try.func61, Try.ntmps61
  go_wp2_with fail
  go_ret
  exact ⟨_, rfl, own_nil _ _, Below.refl _ _⟩
set_option maxHeartbeats 400000 in
theorem clone_some (b off c : Nat) (zs : List Int) (w : World) (hn : zs.length ≤ 1048576) (hbl : b < w.heap.size) (hI : Ints w b off zs) :
    Calls Try.prog 61 #[.slice (some ⟨b, off, none⟩) zs.length c] w (RetOwn zs w) := by
  obtain ⟨i0, hi, hz0, hz1, hz2⟩ := info_parts infoInt
  have he : ∀ w, (binOp BinOp.eql 41 (.slice (some ⟨b, off, none⟩) zs.length c) (.slice none 0 0)).run Try.prog w = .ok (.bool false) w := fun _ => rfl
  have hI' := Lib.hid (hI.kept ((Below.refl w.heap.size w).alloc (Nat.le_refl _) (.cells #[] 3)) hbl)
  have hO := Lib.hid (World.ownsRow_lit (base := w.heap.size) (size := 1) (e := 3) w #[] 0 (Nat.le_refl _) (by unfold maxLen; omega) rfl)
  have HU := Lib.hid (ints_oneCell .i64 zs)
  have HLn : (zs.map (Value.int .i64)).length = zs.length * 1 := by simp
  generalize hxs : zs.map (Value.int .i64) = xs at HU HLn
  have HX := Lib.hid hxs
  have HC := Lib.hid (ints_cells hI'.out)
  rw [hxs] at HC
  clear hxs
  go_enter Try.func61, Try.ntmps61
  go_wp2_with (first | (at_builtin; refine wpList_append_own _ rfl _ _ 41 rfl w.heap.size 3 i0 _ 1 8 Try.underlying41 hi hz0 hz1 hz2 rfl (by decide) _ 0 [] rfl hO.out ⟨b, off, none⟩ zs.length c xs rfl HLn HC.out HU.out ?c3 ?c4 ?c5 ?_))
  case c3 => unfold maxLen; omega
  case c4 => omega
  intro v' w1 hown hgr _
  have hb : Below w.heap.size w w1 := (((Below.refl w.heap.size w).alloc (Nat.le_refl _) _).grown hgr (by simp) (by intro k hk; simp [Value.ownBlock] at hk; omega))
  have ho : Own w.heap.size w1 v' zs := by unfold Own; rw [HX.out]; exact hown
  clear hown hgr
  go_wp2_with fail
  go_ret
  exact ⟨_, rfl, ho, hb⟩
theorem cloneV_any (B : Nat) (v : Value) (zs : List Int) (w : World) (hn : zs.length ≤ 1000) (h : Own B w v zs) : Calls Try.prog 61 #[v] w (RetOwn zs w) := by
  rcases h.cases with ⟨rfl, rfl⟩ | ⟨g, c, rfl, h1, h2, h3, h4, hI, hF⟩
  · exact clone_none w
  · exact clone_some g 0 c zs w (by omega) h2 hI

/-- The ages of the first i lists, each with one age more; of one list with the first j ages. -/
def hidX (k i : Nat) : List (List Int) := ((hidL k).take i).flatMap fun l => ageR.map fun a => l ++ [a]
def exA (r : List Int) (j : Nat) : List (List Int) := (List.range j).map fun (i : Nat) => r ++ [(i : Int) + 1]
theorem exA_zero (r : List Int) : exA r 0 = [] := rfl
theorem exA_succ (r : List Int) (j : Nat) : exA r (j + 1) = exA r j ++ [r ++ [(j : Int) + 1]] := by
  unfold exA; rw [List.range_succ, List.map_append]; rfl
theorem exA_all (r : List Int) : exA r 12 = ageR.map fun a => r ++ [a] := by
  unfold exA ageR; rw [List.map_map]; rfl
theorem exA_len (r : List Int) (j : Nat) : (exA r j).length = j := by simp [exA]
theorem hidX_zero (k : Nat) : hidX k 0 = [] := rfl
theorem hidX_succ (k i : Nat) (hi : i < (hidL k).length) : hidX k (i + 1) = hidX k i ++ exA ((hidL k).getD i []) 12 := by
  unfold hidX
  rw [List.take_succ_eq_append_getElem hi, List.flatMap_append, exA_all]
  simp [List.getElem?_eq_getElem hi]
theorem hidX_all (k : Nat) : hidX k (hidL k).length = hidL (k + 1) := by
  unfold hidX; rw [List.take_length]; rfl
theorem hidX_len (k : Nat) : ∀ i, i ≤ (hidL k).length → (hidX k i).length = 12 * i
  | 0, _ => rfl
  | i + 1, h => by rw [hidX_succ k i (by omega), List.length_append, exA_len, hidX_len k i (by omega)]; omega
theorem hidL_le {k : Nat} (h : k ≤ 2) : (hidL k).length ≤ 144 := by
  match k, h with
  | 0, _ => decide
  | 1, _ => decide
  | 2, _ => rw [hidL_len2]; omega
theorem hidL_pos {k : Nat} (h : k ≤ 2) : 0 < (hidL k).length := by
  match k, h with
  | 0, _ => decide
  | 1, _ => decide
  | 2, _ => rw [hidL_len2]; omega
theorem ownSS_one (w : World) : OwnSS w.heap.size (w.heap.size + 1) (w.alloc (.cells #[.slice none 0 0] 41)) (.slice (some ⟨w.heap.size, 0, none⟩) 1 1) [.slice none 0 0] [[]] := by
  have hO := World.ownsRow_lit (base := w.heap.size) (size := 1) (e := 41) w #[.slice none 0 0] 1 (Nat.le_refl _) (by unfold maxLen; omega) rfl
  refine ⟨rfl, hO, fun g hg => ?_, fun i hi => ?_, fun i hi g hg => ?_, fun i j hi hj hij => ?_⟩
  · simp [Value.ownBlock] at hg; omega
  · simp at hi; subst hi; exact own_nil _ _
  · simp at hi; subst hi; simp [Value.ownBlock] at hg
  · simp at hi hj; omega
theorem OwnSS.monoB' {B B' U : Nat} {w : World} {v : Value} {vs : List Value} {rss : List (List Int)} (h : OwnSS B U w v vs rss) (hB : B' ≤ B) : OwnSS B' U w v vs rss := by
  refine ⟨h.len, ?_, h.obl, fun i hi => (h.row i hi).mono hB, h.rbl, h.apart⟩
  refine ⟨h.outer.1, ?_⟩
  rcases h.outer.2 with h2 | ⟨g, cap, cur, hv, hg, r⟩
  · exact .inl h2
  · exact .inr ⟨g, cap, cur, hv, Nat.le_trans hB hg, r⟩
/-- The state while the list of longer lists grows: nothing below B is written. -/
def Grw (B : Nat) (w wr : World) (v : Value) (vs : List Value) (rss : List (List Int)) : Prop := OwnSS B wr.heap.size wr v vs rss ∧ Below B w wr ∧ B ≤ wr.heap.size

set_option maxHeartbeats 8000000 in
set_option maxRecDepth 100000 in
theorem hidden_any (n : Nat) (w : World) (hn : n ≤ 3) : Calls Try.prog 81 #[.int .i64 n] w (RetSets (hidL n) w) := by
  obtain ⟨i0, hi, hz0, hz1, hz2⟩ := info_parts infoInt
  obtain ⟨j0, hj, jz0, jz1, jz2⟩ := info_parts infoSlice
  have H1 := Lib.hid (ownSS_one w)
  have HB1 := Lib.hid ((Below.refl w.heap.size w).alloc (Nat.le_refl _) (.cells #[.slice none 0 0] 41))
  go_enter Try.func81, Try.ntmps81
  go_wp2_with fail
  go_loopw [3, 10] (fun u q wr => ∃ (k : Nat) (vs : List Value), k ≤ n ∧ q = .int .i64 k ∧ Hid (OwnSS w.heap.size wr.heap.size wr u vs (hidL k)) ∧ Below w.heap.size w wr) (fun _ q _ => n - (intOf q).toNat)
  case atStart => exact ⟨0, _, Nat.zero_le _, rfl, Lib.hid (by simpa [hidL] using H1.out), HB1.out⟩
  case round =>
    obtain ⟨k, vs, hk, rfl, HO, hb⟩ := hrel
    have hsz := hb.size
    by_cases hlt : k < n
    · have hk2 : k ≤ 2 := by omega
      have HL1 := Lib.hid (hidL_le hk2)
      have HL0 := Lib.hid (hidL_pos hk2)
      rcases HO.out.cases with ⟨_, h0⟩ | ⟨go, cgo, rfl, hcell⟩
      · have := HL0.out; rw [h0] at this; simp at this
      have HCell := Lib.hid hcell
      have HA := Lib.hid (hidX_all k)
      have HX := Lib.hid (fun i h => hidX_succ k i h)
      have HXl := Lib.hid (fun i h => hidX_len k i h)
      have HMem := Lib.hid (fun i h => hidL_mem k _ (hidL_getD k i h))
      clear hcell
      obtain ⟨m, hm⟩ : ∃ m, (hidL k).length = m := ⟨_, rfl⟩
      rw [hm] at HL1 HL0 ⊢
      have HM := Lib.hid hm
      have hm1 := HL1.out
      clear hm
      obtain ⟨w0, hw0⟩ : ∃ w0, w0 = wr := ⟨_, rfl⟩
      subst hw0
      go_wp2_with fail
      go_loopw [4, 14] (fun u q wr2 => ∃ (i : Nat) (vs2 : List Value), i ≤ m ∧ q = .int .i64 i ∧ Hid (OwnSS w0.heap.size wr2.heap.size wr2 u vs2 (hidX k i)) ∧ Below w0.heap.size w0 wr2) (fun _ q _ => m - (intOf q).toNat)
      case atStart => exact ⟨0, [], Nat.zero_le _, rfl, Lib.hid (ownSS_nil _ _ _), Below.refl _ _⟩
      case round =>
        obtain ⟨i, vs2, hi2, rfl, HO2, hb2⟩ := hrel
        have hsz2 := hb2.size
        by_cases hilt : i < m
        · have hc := below_cells2 hb2 (HCell.out i (by rw [HM.out]; exact hilt))
          have hrow := (HO.out.row i (by rw [HM.out]; exact hilt))
          have hmem := HMem.out i (by rw [HM.out]; exact hilt)
          have HS := Lib.hid (HX.out i (by rw [HM.out]; exact hilt))
          have HXi := Lib.hid (HXl.out i (by rw [HM.out]; exact hi2))
          generalize vs.getD i (.slice none 0 0) = x at hc hrow
          generalize (hidL k).getD i [] = r at hrow hmem HS
          have HRow := Lib.hid hrow
          have HMm := Lib.hid hmem
          have hrl : r.length ≤ 3 := by omega
          clear hrow hmem
          go_wp2_with fail
          go_loopw [4, 7] (fun u q wr3 => ∃ (j : Nat) (vs3 : List Value), j ≤ 12 ∧ q = .int .i64 ((j : Int) + 1) ∧ Hid (OwnSS w0.heap.size wr3.heap.size wr3 u vs3 (hidX k i ++ exA r j)) ∧ Below w0.heap.size w0 wr3) (fun _ q _ => 14 - (intOf q).toNat)
          case atStart => exact ⟨0, vs2, by omega, by go_num, Lib.hid (by rw [exA_zero, List.append_nil]; exact HO2.out), hb2⟩
          case round =>
            obtain ⟨j, vs3, hj2, rfl, HO3, hb3⟩ := hrel
            have hsz3 := hb3.size
            by_cases hjlt : j < 12
            · have HEs := Lib.hid (exA_succ r j)
              have HEl := Lib.hid (exA_len r j)
              have HClone := Lib.hid (cloneV_any w.heap.size x r wr (by omega) (HRow.out.kept hb3))
              have hVL : vs3.length ≤ 1800 := by
                have h1 := HO3.out.len
                rw [List.length_append, HXi.out, HEl.out] at h1
                omega
              have hj13 : ((j : Int) + 1 ≤ 12) := by omega
              have HPush := Lib.hid (fun (W W2 : World) (u u2 : Value) (hb : Below wr.heap.size wr W) (hu : Own wr.heap.size W u r) (hg : W.grownBy W2 u.ownBlock) (hr : W2.ownsRow wr.heap.size 3 1 u2 (r.length + 1) (r.map (Value.int .i64) ++ [.int .i64 ((j : Int) + 1)])) => (show Below wr.heap.size wr W2 ∧ Own wr.heap.size W2 u2 (r ++ [(j : Int) + 1]) from ⟨below_ownAbove (B := wr.heap.size) hb hu hg (Nat.le_refl _), own_push hr⟩))
              generalize hage : (j : Int) + 1 = age at hj13 HPush HEs ⊢
              have HAge := Lib.hid hage
              have hage0 : 1 ≤ age := by omega
              clear hage
              go_wp2_with (first | (go_at_call 61; refine HClone.out.mono ?_; rintro e wA ⟨u, rfl, hu, hbA⟩) | (at_builtin; refine wpList_append_own _ rfl _ _ 41 rfl wr.heap.size 3 i0 (.int .i64 0) 1 8 Try.underlying41 hi hz0 hz1 hz2 rfl (by decide) _ _ _ rfl (World.ownsRow.alloc hu _) ⟨wA.heap.size, 0, none⟩ 1 1 [.int .i64 age] rfl rfl (newCell _ _ _) (oneInt _) ?c3 ?c4 ?c5 ?_))
              case c3 => unfold maxLen; omega
              case c4 => omega
              case c5 => have := hbA.size; first | omega | (simp; omega)
              intro u2 wB hown2 hgrow2 _
              obtain ⟨hbB, hu2⟩ := HPush.out _ _ _ _ (hbA.alloc hbA.size _) (World.ownsRow.alloc hu _) hgrow2 hown2
              obtain ⟨gu, cu, hueq⟩ : ∃ gu cu, u2 = .slice (some ⟨gu, 0, none⟩) (r.length + 1) cu := by
                rcases hu2.cases with ⟨_, h0⟩ | ⟨gu, cu, h1, _⟩
                · simp at h0
                · exact ⟨gu, cu, by rw [h1]; simp⟩
              subst hueq
              have hszB := hbB.size
              have hO4 := HO3.out.kept (Nat.le_refl _) hbB
              have hone := oneU hu2
              have hout := hO4.outer
              clear hown2 hgrow2
              go_wp2_with (first | (at_builtin; refine wpList_append_own _ rfl _ _ 33 rfl w0.heap.size 41 j0 (.slice none 0 0) 1 24 Try.underlying33 hj jz0 jz1 jz2 rfl (by decide) _ _ _ rfl (World.ownsRow.alloc hout _) ⟨wB.heap.size, 0, none⟩ 1 1 [.slice (some ⟨gu, 0, none⟩) (r.length + 1) cu] rfl rfl (newCellAt _ _ _ _ rfl) hone ?d4 ?d5 ?d6 ?_))
              case d4 => unfold maxLen; omega
              case d5 => omega
              case d6 => first | omega | (simp; omega)
              intro v' wC hownC hgrowC _
              have hbC := sub_push (B := w0.heap.size) (v' := v') (x := v') (hb3.trans (hbB.mono hsz3)) hout hgrowC
              have hOC := hO4.pushRow hsz3 hszB hu2 hownC hgrowC
              have HOC : Hid (OwnSS w0.heap.size wC.heap.size wC v' (vs3 ++ [.slice (some ⟨gu, 0, none⟩) (r.length + 1) cu]) (hidX k i ++ exA r (j + 1))) := Lib.hid (by rw [HEs.out, ← List.append_assoc]; exact hOC)
              clear hOC hownC hgrowC hout hO4
              go_wp2_with fail
              go_roundw
              case rel => exact ⟨j + 1, _, by omega, by rw [← HAge.out]; go_num, HOC, hbC⟩
              case measure => have := HAge.out; simp [intOf]; omega
            · have hj12 : j = 12 := by omega
              subst hj12
              have HOn : Hid (OwnSS w0.heap.size wr.heap.size wr u4 vs3 (hidX k (i + 1))) := Lib.hid (by rw [HS.out]; exact HO3.out)
              go_wp2_with fail
              go_roundw
              case rel => exact ⟨i + 1, _, by omega, by go_num, HOn, hb3⟩
              case measure => simp [intOf]; omega
        · have hin : i = m := by omega
          have HOn : Hid (OwnSS w.heap.size wr.heap.size wr u4 vs2 (hidL (k + 1))) := Lib.hid (by
            have h := HO2.out.monoB' (B' := w.heap.size) hsz
            rw [hin, ← HM.out, HA.out] at h
            exact h)
          have hbn := hb.trans (hb2.mono hsz)
          go_wp2_with fail
          go_roundw
          case rel => exact ⟨k + 1, _, by omega, by go_num, HOn, hbn⟩
          case measure => simp [intOf]; omega
    · have hkn : k = n := by omega
      subst hkn
      go_wp2_with fail
      go_ret
      exact ⟨_, vs, rfl, HO.out, hb⟩
end Go.Proofs.Ytkkjbkagkmngkaa
