/- Generations: the program's text. -/
import Derived.Test.YthmcimdnbapnhaaPo
import Derived.StillTailTactics
set_option linter.unusedVariables false
set_option linter.unusedSimpArgs false
namespace Go.Proofs.Ythmcimdnbapnhaa
open Go.RowKit

/-- One more than the greatest generation of the first j parents, 0 for none. -/
def gmax (g : List Int) (ps : List Nat) : Nat → Int
  | 0 => 0
  | j + 1 => max (gmax g ps j) (g.getD (ps.getD j 0) 0 + 1)
/-- The generations of the first k. -/
def genL (fs : List Kn) : Nat → List Int
  | 0 => []
  | k + 1 => genL fs k ++ [gmax (genL fs k) (parN fs k) (parN fs k).length]
theorem genL_len (fs : List Kn) : ∀ k, (genL fs k).length = k := by
  intro k
  induction k with
  | zero => rfl
  | succ k ih => rw [genL, List.length_append, ih]; rfl
theorem gmax_bd {g : List Int} {ps : List Nat} {B : Int} (hB : 0 ≤ B) (h : ∀ p, g.getD p 0 + 1 ≤ B) : ∀ j, 0 ≤ gmax g ps j ∧ gmax g ps j ≤ B := by
  intro j
  induction j with
  | zero => simp [gmax]; exact hB
  | succ j ih => have := h (ps.getD j 0); rw [gmax]; omega
theorem genL_bd (fs : List Kn) : ∀ k p, 0 ≤ (genL fs k).getD p 0 ∧ (genL fs k).getD p 0 + 1 ≤ (k : Int) + 1 := by
  intro k
  induction k with
  | zero => intro p; simp [genL]
  | succ k ih =>
    intro p
    have hl := genL_len fs k
    rw [genL]
    by_cases hp : p < k
    · have := ih p
      rw [List.getD_eq_getElem?_getD, List.getElem?_append_left (by omega), ← List.getD_eq_getElem?_getD]
      omega
    · by_cases hpk : p = k
      · subst hpk
        have hb := gmax_bd (g := genL fs p) (ps := parN fs p) (B := (p : Int) + 1) (by omega) (fun q => (ih q).2) (parN fs p).length
        rw [List.getD_eq_getElem?_getD, List.getElem?_append_right (by omega), hl, Nat.sub_self]
        simp only [List.getElem?_cons_zero, Option.getD_some]
        omega
      · rw [List.getD_eq_getElem?_getD, List.getElem?_eq_none (by rw [List.length_append, hl]; simp; omega)]
        simp
        omega
/-- The row while the one of number k is told: x so far. -/
def rowG (fs : List Kn) (n k : Nat) (x : Int) : List Value := ((genL fs k ++ [x]) ++ List.replicate (n - (k + 1)) 0).map (Value.int .i64)
/-- The row behind the first k. -/
def rowN (fs : List Kn) (n k : Nat) : List Value := (genL fs k ++ List.replicate (n - k) 0).map (Value.int .i64)
theorem rowN_zero (fs : List Kn) (n : Nat) : (madeCells #[Value.int IntKind.i64 0] n).toList = rowN fs n 0 := by
  rw [toList_madeCells_one]; simp [rowN, genL]
theorem rowN_all (fs : List Kn) (n : Nat) : rowN fs n n = (genL fs n).map (Value.int .i64) := by simp [rowN]
theorem rowN_start (fs : List Kn) (n k : Nat) (h : k < n) : rowN fs n k = rowG fs n k 0 := by
  unfold rowN rowG
  rw [show n - k = (n - (k + 1)) + 1 by omega, List.replicate_succ, List.append_assoc]; rfl
theorem rowN_next (fs : List Kn) (n k : Nat) : rowG fs n k (gmax (genL fs k) (parN fs k) (parN fs k).length) = rowN fs n (k + 1) := rfl
theorem rowG_at (fs : List Kn) (n k : Nat) (x : Int) : (rowG fs n k x)[k]? = some (.int .i64 x) := by
  unfold rowG
  rw [List.getElem?_map, List.append_assoc, List.getElem?_append_right (by rw [genL_len]; omega), genL_len, Nat.sub_self]; rfl
theorem rowG_old (fs : List Kn) (n k p : Nat) (x : Int) (h : p < k) : (rowG fs n k x)[p]? = some (.int .i64 ((genL fs k).getD p 0)) := by
  unfold rowG
  have hl := genL_len fs k
  rw [List.getElem?_map, List.append_assoc, List.getElem?_append_left (by omega), List.getElem?_eq_getElem (by omega)]
  simp [List.getElem?_eq_getElem (show p < (genL fs k).length by omega)]
theorem rowG_set (fs : List Kn) (n k : Nat) (x y : Int) : (rowG fs n k x).set k (.int .i64 y) = rowG fs n k y := by
  unfold rowG
  rw [← List.map_set]
  congr 1
  rw [List.append_assoc, List.append_assoc, List.set_append, genL_len, if_neg (by omega), Nat.sub_self]; rfl
theorem parN_before {fs : List Kn} (hf : famB fs = true) {k p : Nat} (hk : k < fs.length) (hp : p ∈ parN fs k) : p < k := by
  have h1 : ((p : Nat) : Int) ∈ parI fs k := by
    rw [parI_eq hf hk]; unfold castN; exact List.mem_map.2 ⟨p, hp, rfl⟩
  obtain ⟨n, hn, hlt⟩ := parI_mem hf hk h1
  omega
theorem getD_mem {ps : List Nat} {j : Nat} (hj : j < ps.length) : ps.getD j 0 ∈ ps := by
  have e : ps.getD j 0 = ps[j] := by simp [List.getElem?_eq_getElem hj]
  rw [e]; exact List.getElem_mem hj
theorem grownDrew {w w' : World} {row : Option Nat} (h : w.grownBy w' row) : w.grownBy w'.drew row := ⟨h.os, h.tape, h.output, h.size, h.block⟩
theorem gens_nil (w : World) : Calls Try.prog 66 #[.slice none 0 0] w (RetRow [] w) := by
  obtain ⟨i0, hi, hz0, hz1, hz2⟩ := info_parts infoInt
  go_enter Try.func66, Try.ntmps66
  go_wp2_with (first | (at_make; refine wpList_make_full _ rfl _ _ 37 rfl w.heap.size 3 i0 (.int .i64 0) 1 Try.underlying37 hi hz0 hz1 .i64 .i64 0 0 0 rfl rfl rfl rfl ?c1 ?c2 ?c3 ?_))
  case c1 => rw [hz2]; omega
  case c2 => unfold maxLen; omega
  case c3 => exact Nat.le_refl _
  intro w1 hown hgr
  go_wp2_with fail
  go_rounds 1
  go_ret
  exact ⟨w.heap.size, Nat.le_refl _, rfl, by have h := hown; rw [show (madeCells #[Value.int IntKind.i64 0] 0).toList = [] by rw [toList_madeCells_one]; rfl] at h; exact h, (Below.refl _ _).grown hgr (Nat.le_refl _) (by simp)⟩
set_option maxHeartbeats 4000000 in
set_option maxRecDepth 100000 in
theorem gens_any (fs : List Kn) (g cc : Nat) (w : World) (hf : famB fs = true) (hK : Kdr fs w g cc) :
    Calls Try.prog 66 #[.slice (some ⟨g, 0, none⟩) fs.length cc] w (RetRow (genL fs fs.length) w) := by
  obtain ⟨i0, hi, hz0, hz1, hz2⟩ := info_parts infoInt
  have hn := famB_len hf
  have HK := Lib.hid hK
  have HR := Lib.hid hK.1.shape.2.2.2.2.1
  have hgl := hK.1.shape.2.2.1
  have HBf := Lib.hid (fun k p hk hp => parN_before (k := k) (p := p) hf hk hp)
  have HBd := Lib.hid (genL_bd fs)
  clear hK hf
  go_enter Try.func66, Try.ntmps66
  go_wp2_with (first | (at_make; refine wpList_make_full _ rfl _ _ 37 rfl w.heap.size 3 i0 (.int .i64 0) 1 Try.underlying37 hi hz0 hz1 .i64 .i64 fs.length fs.length fs.length rfl rfl rfl rfl ?c1 ?c2 ?c3 ?_))
  case c1 => rw [hz2]; omega
  case c2 => unfold maxLen; omega
  case c3 => exact Nat.le_refl _
  intro w0 hown hgr
  go_wp2_with fail
  go_loopw [13] (fun v wr => ∃ k : Nat, k ≤ fs.length ∧ v = .int .i64 k ∧ Hid (wr.ownsRow w.heap.size 3 1 (.slice (some ⟨w.heap.size, 0, none⟩) fs.length fs.length) fs.length (rowN fs fs.length k)) ∧ Below w.heap.size w wr) (fun v _ => fs.length - (intOf v).toNat)
  case atStart => exact ⟨0, Nat.zero_le _, rfl, Lib.hid (by rw [← rowN_zero]; simpa using hown), (Below.refl _ _).grown hgr (Nat.le_refl _) (by simp)⟩
  case round =>
    obtain ⟨k, hk, rfl, Hr, hb⟩ := hrel
    have hsz := hb.size
    by_cases hlt : k < fs.length
    · obtain ⟨p1, p2, p3, p4⟩ := (HR.out.kept hb hgl) k (by rw [allN_len]; exact hlt)
      rw [allN_at fs k hlt, Nat.zero_add] at p1 p2 p3 p4
      have hRl := (World.ownsRow.lt Hr.out w.heap.size rfl).2
      have HP := Lib.hid (parents_any fs g cc k (wr.alloc (.cells #[.int .i64 (at3 fs k).1, .int .i64 (at3 fs k).2.1, .int .i64 (at3 fs k).2.2, .int .i64 k] 70)) ((HK.out.kept hb).above _))
      have HX := Lib.hid (fun (w2 : World) (h2 : Below (wr.alloc (.cells #[.int .i64 (at3 fs k).1, .int .i64 (at3 fs k).2.1, .int .i64 (at3 fs k).2.2, .int .i64 k] 70)).heap.size (wr.alloc (.cells #[.int .i64 (at3 fs k).1, .int .i64 (at3 fs k).2.1, .int .i64 (at3 fs k).2.2, .int .i64 k] 70)) w2) => (show w2.cell? ⟨wr.heap.size, 3, none⟩ = some (.int .i64 k) ∧ Below w.heap.size w w2 ∧ w2.ownsRow w.heap.size 3 1 (.slice (some ⟨w.heap.size, 0, none⟩) fs.length fs.length) fs.length (rowG fs fs.length k 0) ∧ wr.heap.size < w2.heap.size from
        ⟨below_cell2 h2 (by simp [go_sem]), (hb.alloc hsz _).trans (h2.mono (by simp; omega)), by
          rw [← rowN_start fs fs.length k hlt]
          exact World.ownsRow.kept (World.ownsRow.alloc Hr.out _) (below_grown h2 none) (by simp [Value.ownBlock]), by have := h2.size; simp at this; omega⟩))
      have HB := Lib.hid (fun j (hj : j < (parN fs k).length) => HBf.out k _ hlt (getD_mem hj))
      have HBd2 := Lib.hid (HBd.out k)
      have HGB := Lib.hid (fun j => gmax_bd (g := genL fs k) (ps := parN fs k) (B := (k : Int) + 1) (by omega) (fun q => (HBd.out k q).2) j)
      have hl14 : (parN fs k).length ≤ 14 := by have := parN_len fs k; rw [allN_len] at this; omega
      have HN : Hid (rowG fs fs.length k (gmax (genL fs k) (parN fs k) (parN fs k).length) = rowN fs fs.length (k + 1)) := Lib.hid rfl
      have hn0 : (0 : Int) ≤ (k : Int) := by omega
      have hn1 : (k : Int) < (fs.length : Int) := by omega
      clear hb Hr
      generalize parN fs k = ps at HP HB HGB hl14 HN
      generalize (at3 fs k).1 = y at p1 HP HX
      generalize (at3 fs k).2.1 = d at p2 HP HX
      generalize (at3 fs k).2.2 = o at p3 HP HX
      go_wp2_with (first | (go_at_call 60; refine HP.out.mono ?_; rintro e w2 ⟨v2, rfl, ho2, hb2⟩; obtain ⟨a2, c2, rfl⟩ := ho2.form; obtain ⟨hck, hbw, hrow, hsz2⟩ := HX.out w2 hb2))
      have HO2 := Lib.hid ho2
      have HROW := Lib.hid hrow
      have hz2' : wr.heap.size + 1 ≤ w2.heap.size := by omega
      clear ho2 hrow
      go_loopw [21] (fun v wi => ∃ j : Nat, j ≤ ps.length ∧ v = .int .i64 j ∧ Hid (wi.ownsRow w.heap.size 3 1 (.slice (some ⟨w.heap.size, 0, none⟩) fs.length fs.length) fs.length (rowG fs fs.length k (gmax (genL fs k) ps j))) ∧ w2.grownBy wi (some w.heap.size)) (fun v _ => ps.length - (intOf v).toNat)
      case atStart => exact ⟨0, Nat.zero_le _, rfl, HROW, World.grownBy.refl _ _⟩
      case round =>
        obtain ⟨j, hj, rfl, Hri, hgi⟩ := hrel
        by_cases hlt2 : j < ps.length
        · rcases HO2.out.cases with ⟨h0, hnil⟩ | ⟨g2, c2', h0, hgb, hgl2, _, _, hI2, _⟩
          · rw [hnil] at hlt2; simp at hlt2
          simp only [Value.slice.injEq, and_true, true_and] at h0
          obtain ⟨rfl, rfl⟩ := h0
          have hgne : w.heap.size < g2 := by simp at hgb; omega
          obtain ⟨r1, r2, r3, r4⟩ := hI2 j hlt2
          rw [Nat.zero_add] at r1 r2 r3 r4
          replace r1 := hgi.cell r1 (by simp; omega)
          replace r2 := hgi.cell r2 (by simp; omega)
          replace r3 := hgi.cell r3 (by simp; omega)
          replace r4 := hgi.cell r4 (by simp; omega)
          have hck2 := hgi.cell hck (by simp; omega)
          have hpk := HB.out j hlt2
          have hxb := HGB.out j
          have HG1 : Hid (gmax (genL fs k) ps (j + 1) = max (gmax (genL fs k) ps j) ((genL fs k).getD (ps.getD j 0) 0 + 1)) := Lib.hid rfl
          generalize ps.getD j 0 = p at r1 r2 r3 r4 hpk HG1
          have hqb := HBd2.out p
          have hcR := (World.ownsRow.cellAt Hri.out k (by omega)).trans (rowG_at fs fs.length k _)
          have hcP := (World.ownsRow.cellAt Hri.out p (by omega)).trans (rowG_old fs fs.length k p _ hpk)
          have hfR := World.ownsRow.frozenAt Hri.out k
          have HST := Lib.hid (fun (A : Obj) (v : Int) => (show ((wr.alloc A).setCell ⟨w.heap.size, k, none⟩ (.int .i64 v)).ownsRow w.heap.size 3 1 (.slice (some ⟨w.heap.size, 0, none⟩) fs.length fs.length) fs.length (rowG fs fs.length k v) ∧ w2.grownBy ((wr.alloc A).setCell ⟨w.heap.size, k, none⟩ (.int .i64 v)) (some w.heap.size) from by
            have h1 := World.ownsRow.stored (World.ownsRow.alloc Hri.out A) k (.int .i64 v)
            rw [rowG_set] at h1
            exact ⟨h1.1, grown_trans (grown_trans hgi (below_grown ((Below.refl wr.heap.size wr).alloc (Nat.le_refl _) A) _)) h1.2⟩))
          generalize (at3 fs p).1 = y2 at r1
          generalize (at3 fs p).2.1 = d2 at r2
          generalize (at3 fs p).2.2 = o2 at r3
          generalize gmax (genL fs k) ps j = x at hxb HG1 hcR hcP Hri
          generalize (genL fs k).getD p 0 = q at hqb HG1 hcP
          have hA : ∀ {bb oo : Nat} {vv : Value}, wr.cell? ⟨bb, oo, none⟩ = some vv → (wr.alloc (.cells #[.int .i64 y2, .int .i64 d2, .int .i64 o2, .int .i64 p] 70)).cell? ⟨bb, oo, none⟩ = some vv := fun h => cell_above h _
          have hcR' := hA hcR
          have hcP' := hA hcP
          have hck' := hA hck2
          have hfR' : (wr.alloc (.cells #[.int .i64 y2, .int .i64 d2, .int .i64 o2, .int .i64 p] 70)).frozen? ⟨w.heap.size, k, none⟩ = false := World.ownsRow.frozenAt (World.ownsRow.alloc Hri.out _) k
          have HSQ := Lib.hid (fun v => HST.out (.cells #[.int .i64 y2, .int .i64 d2, .int .i64 o2, .int .i64 p] 70) v)
          have hcp' : (wr.alloc (.cells #[.int .i64 y2, .int .i64 d2, .int .i64 o2, .int .i64 p] 70)).cell? ⟨wr.heap.size, 3, none⟩ = some (.int .i64 p) := by simp [go_sem]
          have hm0 : (0 : Int) ≤ (p : Int) := by omega
          have hm1 : (p : Int) < (fs.length : Int) := by omega
          have hj0 : (0 : Int) ≤ (j : Int) := by omega
          have hj1 : (j : Int) < (ps.length : Int) := by omega
          have hwr : IntKind.i64.wrap (q + 1) = q + 1 := IntWalk.i64_in _ (by omega)
          clear hA hcR hcP hck2 hfR hck
          by_cases hxq : x < q + 1
          · have HV := Lib.hid (show gmax (genL fs k) ps (j + 1) = q + 1 by rw [HG1.out]; omega)
            clear HG1
            go_wp2_with fail
            generalize (wr.alloc (.cells #[.int .i64 y2, .int .i64 d2, .int .i64 o2, .int .i64 p] 70)) = wq at hcR' hcP' hck' hfR' HSQ hcp' ⊢
            go_still_tail 16, (by kernel_rfl)
            change wpList _ _ _ _ _ wq.drew
            have hcRd : wq.drew.cell? ⟨w.heap.size, k, none⟩ = some (.int .i64 x) := hcR'
            have hfRd : wq.drew.frozen? ⟨w.heap.size, k, none⟩ = false := hfR'
            clear hcR' hcP' hck' hfR' hcp' r1 r2 r3 r4
            have HS := Lib.hid (HSQ.out (q + 1))
            go_wp2_with fail
            go_roundw
            case rel => exact ⟨j + 1, by omega, by go_num, Lib.hid (by rw [HV.out]; exact World.ownsRow.drew HS.out.1), grownDrew HS.out.2⟩
            case measure => simp [intOf]; omega
          · have HV := Lib.hid (show gmax (genL fs k) ps (j + 1) = x by rw [HG1.out]; omega)
            clear HG1
            go_wp2_with fail
            generalize (wr.alloc (.cells #[.int .i64 y2, .int .i64 d2, .int .i64 o2, .int .i64 p] 70)) = wq at hcR' hcP' hck' hfR' HSQ hcp' ⊢
            go_still_tail 16, (by kernel_rfl)
            change wpList _ _ _ _ _ wq.drew
            have hcRd : wq.drew.cell? ⟨w.heap.size, k, none⟩ = some (.int .i64 x) := hcR'
            have hfRd : wq.drew.frozen? ⟨w.heap.size, k, none⟩ = false := hfR'
            clear hcR' hcP' hck' hfR' hcp' r1 r2 r3 r4
            have HS := Lib.hid (HSQ.out (x))
            go_wp2_with fail
            go_roundw
            case rel => exact ⟨j + 1, by omega, by go_num, Lib.hid (by rw [HV.out]; exact World.ownsRow.drew HS.out.1), grownDrew HS.out.2⟩
            case measure => simp [intOf]; omega
        · have hjn : j = ps.length := by omega
          have HD := Lib.hid (show rowG fs fs.length k (gmax (genL fs k) ps j) = rowN fs fs.length (k + 1) by rw [hjn]; exact HN.out)
          have hlc : ¬ (j : Int) < (ps.length : Int) := by omega
          clear hjn
          go_wp2_with fail
          go_roundw
          case rel => exact ⟨k + 1, by omega, by go_num, Lib.hid (by rw [← HD.out]; exact Hri.out), below_grownAbove hbw hgi (Nat.le_refl _)⟩
          case measure => simp [intOf]; omega
    · have hkn : k = fs.length := by omega
      have HD := Lib.hid (show rowN fs fs.length k = (genL fs fs.length).map (Value.int .i64) by rw [hkn]; exact rowN_all fs _)
      have HLL := Lib.hid (genL_len fs fs.length)
      have hlc : ¬ (k : Int) < (fs.length : Int) := by omega
      clear hkn
      go_wp2_with fail
      go_ret
      have hr := Hr.out
      rw [HD.out] at hr
      refine ⟨w.heap.size, Nat.le_refl _, by rw [HLL.out]; rfl, ?_, hb⟩
      unfold Own
      rw [HLL.out]
      exact hr
end Go.Proofs.Ythmcimdnbapnhaa
