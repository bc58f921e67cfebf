/- The text of ages, of the model. -/
import Derived.Test.YtadfojjglceheaaDoorBNum
import Derived.Test.YtadfojjglceheaaDoorRo
import Derived.Test.YtadfojjglceheaaDoorBTx
set_option linter.unusedVariables false
set_option linter.unusedSimpArgs false
namespace Go.Proofs.YtadfojjglceheaaDoor
open Go.RowKit

/-- The text of the first k ages. -/
def txt (zs : List Int) (k : Nat) : ByteArray := bx (zs.take k)
theorem txt_zero (zs : List Int) : txt zs 0 = ByteArray.empty := rfl
theorem take_one_more {zs : List Int} {k : Nat} (h : k < zs.length) : zs.take (k + 1) = zs.take k ++ [zs.getD k 0] := by
  rw [List.take_succ_eq_append_getElem h]
  simp [List.getElem?_eq_getElem h]
theorem txt_first {zs : List Int} {k : Nat} (h : k < zs.length) (h0 : k = 0) : txt zs (k + 1) = txt zs k ++ decB (zs.getD k 0) := by
  subst h0
  unfold txt
  rw [take_one_more h]
  simp only [List.take_zero, List.nil_append]
  rw [bx_one, bx_nil]
  simp
theorem txt_more {zs : List Int} {k : Nat} (h : k < zs.length) (h0 : 0 < k) : txt zs (k + 1) = (txt zs k ++ dash) ++ decB (zs.getD k 0) := by
  unfold txt
  rw [take_one_more h, bx_snoc]
  intro e
  have : (zs.take k).length = 0 := by rw [e]; rfl
  rw [List.length_take] at this
  omega
theorem good_ok {zs : List Int} (h : bornB zs = true) : okBorn zs := by
  refine ⟨(bornB_len h).1, (bornB_len h).2, fun z hz => ?_⟩
  obtain ⟨j, hj, rfl⟩ := List.getElem_of_mem hz
  simpa [List.getElem?_eq_getElem hj] using bornB_at h j hj
theorem ok_good {zs : List Int} (h : okBorn zs) : bornB zs = true := by
  unfold bornB
  rw [Bool.and_eq_true, inB_iff, allB_iff]
  refine ⟨⟨by have := h.1; omega, by have := h.2.1; omega⟩, fun j hj => inB_iff.2 ?_⟩
  have hm : zs.getD j 0 ∈ zs := by
    rw [List.getD_eq_getElem?_getD, List.getElem?_eq_getElem hj]
    exact List.getElem_mem hj
  exact h.2.2 _ hm
theorem txt_size {zs : List Int} (h : bornB zs = true) (k : Nat) (hk : k ≤ zs.length) : (txt zs k).size ≤ 50 := by
  have ho := good_ok h
  rcases Nat.eq_zero_or_pos k with rfl | h0
  · show (0 : Nat) ≤ 50
    omega
  · have h1 : okBorn (zs.take k) := ⟨by simp; omega, by have := ho.2.1; simp; omega, fun z hz => ho.2.2 z (List.mem_of_mem_take hz)⟩
    have h2 := bx_le49 h1
    unfold txt
    omega
theorem txt_sum1 {zs : List Int} (h : bornB zs = true) (k : Nat) (hk : k < zs.length) : ¬ 9223372036854775807 < (txt zs k).size + dash.size := by
  have h1 := txt_size h k (by omega)
  have h2 : dash.size = 1 := rfl
  omega
theorem txt_sum2 {zs : List Int} (h : bornB zs = true) (k : Nat) (hk : k < zs.length) : ¬ 9223372036854775807 < (txt zs k ++ dash).size + (decB (zs.getD k 0)).size := by
  have h1 := txt_size h k (by omega)
  have h2 : dash.size = 1 := rfl
  have h3 := bornB_at h k hk
  have h4 := decB_size (z := zs.getD k 0) h3.1 (by omega)
  rw [ByteArray.size_append]
  omega
theorem txt_sum3 {zs : List Int} (h : bornB zs = true) (k : Nat) (hk : k < zs.length) : ¬ 9223372036854775807 < (txt zs k).size + (decB (zs.getD k 0)).size := by
  have h1 := txt_size h k (by omega)
  have h3 := bornB_at h k hk
  have h4 := decB_size (z := zs.getD k 0) h3.1 (by omega)
  omega

set_option maxHeartbeats 1000000 in
set_option maxRecDepth 100000 in
theorem roText_any (b off n c : Nat) (zs : List Int) (w : World) (hl : zs.length = n) (hI : Ints w b off zs) (hbl : b < w.heap.size) (hg : bornB zs = true) :
    Calls Tryd.prog 14 #[.slice (some ⟨b, off, none⟩) n c] w (RetS (bx zs) w) := by
  have h8 := bornB_len hg
  have HG := Lib.hid hg
  clear hg
  go_enter Tryd.func14, Tryd.ntmps14
  go_wp2_with fail
  go_loopw [3, 8] (fun u v wr => ∃ k : Nat, k ≤ n ∧ v = .int .i64 (k : Int) ∧ u = .string (txt zs k) ∧ Below w.heap.size w wr) (fun _ v _ => (n + 1 - intOf v).toNat)
  case atStart => exact ⟨0, by omega, rfl, rfl, Below.refl _ _⟩
  case round =>
    obtain ⟨k, hk, rfl, rfl, hb⟩ := hrel
    by_cases hlt : k < n
    · have hc := (hI.kept hb hbl) k (by omega)
      have hz := bornB_at HG.out k (by omega)
      have hs1 := txt_sum1 HG.out k (by omega)
      have hs2 := txt_sum2 HG.out k (by omega)
      have hs3 := txt_sum3 HG.out k (by omega)
      have hsz := hb.size
      have hd : dash = { data := #[44] } := rfl
      rcases Nat.eq_zero_or_pos k with h0 | h0
      · have HT := Lib.hid (txt_first (zs := zs) (k := k) (by omega) h0)
        have hk0 : ¬ (0 < (k : Int)) := by omega
        clear h0
        generalize zs.getD k 0 = z at hc hz HT hs2 hs3
        go_wp2_with (go_at_call 22; refine (num_year z hz.1 (by omega) _).mono ?_; rintro e w' ⟨rfl, hcall⟩)
        go_roundw
        case rel => exact ⟨k + 1, by omega, by go_num, by rw [HT.out], hb.trans (hcall.mono hsz)⟩
        case measure => simp [intOf]; omega
      · have HT := Lib.hid (txt_more (zs := zs) (k := k) (by omega) h0)
        rw [hd] at hs1 hs2
        generalize zs.getD k 0 = z at hc hz HT hs2 hs3
        go_wp2_with (go_at_call 22; refine (num_year z hz.1 (by omega) _).mono ?_; rintro e w' ⟨rfl, hcall⟩)
        go_roundw
        case rel => exact ⟨k + 1, by omega, by go_num, by rw [HT.out, hd], hb.trans (hcall.mono hsz)⟩
        case measure => simp [intOf]; omega
    · have hkn : k = n := by omega
      have HT := Lib.hid (show txt zs k = bx zs by unfold txt; rw [List.take_of_length_le (by omega)])
      go_wp2_with fail
      go_ret
      exact ⟨by rw [HT.out]; rfl, hb⟩

/-- What BornText answers. -/
def bxOr (zs : List Int) : ByteArray := if bornB zs = true then bx zs else ByteArray.empty
set_option maxHeartbeats 1000000 in
theorem specBornText_any (b off n c : Nat) (zs : List Int) (w : World) (hl : zs.length = n) (hn : n ≤ 1048576) (hI : Ints w b off zs) (hbl : b < w.heap.size) :
    Calls Tryd.prog 5 #[.slice (some ⟨b, off, none⟩) n c] w (RetSB (bxOr zs) (bornB zs) w) := by
  have hA := fun w (h : Ints w b off zs) => roBorn_any b off n c zs w hl hn h
  cases hg : bornB zs with
  | false =>
    rw [show bxOr zs = ByteArray.empty by unfold bxOr; rw [hg]; rfl]
    rw [hg] at hA
    clear hg
    go_enter Tryd.func5, Tryd.ntmps5
    go_wp2_with (go_at_call 13; refine (hA _ hI).mono ?_; rintro e w' ⟨rfl, rfl⟩)
    go_ret2
    exact ⟨rfl, Below.refl _ _⟩
  | true =>
    rw [show bxOr zs = bx zs by unfold bxOr; rw [hg]; rfl]
    have HG := Lib.hid hg
    rw [hg] at hA
    clear hg
    go_enter Tryd.func5, Tryd.ntmps5
    go_wp2_with (first | (go_at_call 13; refine (hA _ hI).mono ?_; rintro e w' ⟨rfl, rfl⟩) | (go_at_call 14; refine (roText_any b off n c zs _ hl hI hbl HG.out).mono ?_; rintro e w' ⟨rfl, hcall⟩))
    go_ret2
    exact ⟨rfl, hcall⟩
end Go.Proofs.YtadfojjglceheaaDoor
