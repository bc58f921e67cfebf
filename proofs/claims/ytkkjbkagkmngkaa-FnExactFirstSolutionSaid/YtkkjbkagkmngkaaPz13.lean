/- The first solution; what is sure: both texts. -/
import Derived.Test.YtkkjbkagkmngkaaPz12
set_option linter.unusedVariables false
set_option linter.unusedSimpArgs false
namespace Go.Proofs.Ytkkjbkagkmngkaa
open Go.RowKit

/-- The first of some lists, and whether there is one. -/
def firstR (rss : List (List Int)) : List Int := rss.getD 0 []
def someB (rss : List (List Int)) : Bool := decide (0 < rss.length)
/-- Ages that the row r does not have are not sure: the first k. -/
def mixTo (s r : List Int) (k : Nat) : List Int := (List.range s.length).map fun j => if j < k ∧ r.getD j 0 ≠ s.getD j 0 then -1 else s.getD j 0
theorem mixTo_len (s r : List Int) (k : Nat) : (mixTo s r k).length = s.length := by simp [mixTo]
theorem mixTo_get (s r : List Int) (k j : Nat) (hj : j < s.length) : (mixTo s r k).getD j 0 = if j < k ∧ r.getD j 0 ≠ s.getD j 0 then -1 else s.getD j 0 := by
  unfold mixTo
  rw [List.getD_eq_getElem?_getD, List.getElem?_map, List.getElem?_range hj]
  rfl
theorem mixTo_zero (s r : List Int) : mixTo s r 0 = s := by
  apply List.ext_getElem
  · exact mixTo_len s r 0
  · intro j h1 h2
    have := mixTo_get s r 0 j h2
    rw [if_neg (by omega)] at this
    simpa [List.getD_eq_getElem?_getD, List.getElem?_eq_getElem h1, List.getElem?_eq_getElem h2] using this
theorem mixTo_at (s r : List Int) (k : Nat) (hk : k < s.length) : (mixTo s r k).getD k 0 = s.getD k 0 := by
  rw [mixTo_get s r k k hk, if_neg (by omega)]
theorem eq_of_getD {a b : List Int} (hl : a.length = b.length) (h : ∀ j, j < a.length → a.getD j 0 = b.getD j 0) : a = b := by
  apply List.ext_getElem hl
  intro j h1 h2
  have := h j h1
  simpa [List.getD_eq_getElem?_getD, List.getElem?_eq_getElem h1, List.getElem?_eq_getElem h2] using this
theorem mixTo_eq (s r : List Int) (k : Nat) (hk : k < s.length) (h : r.getD k 0 = s.getD k 0) : mixTo s r (k + 1) = mixTo s r k := by
  refine eq_of_getD (by rw [mixTo_len, mixTo_len]) fun j hj => ?_
  rw [mixTo_len] at hj
  rw [mixTo_get _ _ _ _ hj, mixTo_get _ _ _ _ hj]
  by_cases e : j = k
  · subst e; rw [if_neg (fun h2 => h2.2 h), if_neg (by omega)]
  · by_cases h2 : j < k ∧ r.getD j 0 ≠ s.getD j 0
    · rw [if_pos ⟨by omega, h2.2⟩, if_pos h2]
    · rw [if_neg (fun h3 => h2 ⟨by omega, h3.2⟩), if_neg h2]
theorem getD_setI (l : List Int) (i j : Nat) (a : Int) (hj : j < l.length) : (l.set i a).getD j 0 = if i = j then a else l.getD j 0 := by
  rw [List.getD_eq_getElem?_getD, List.getElem?_set, List.getD_eq_getElem?_getD]
  by_cases e : i = j
  · subst e; rw [if_pos rfl, if_pos rfl, if_pos hj]; rfl
  · rw [if_neg e, if_neg e]
theorem mixTo_ne (s r : List Int) (k : Nat) (hk : k < s.length) (h : ¬ r.getD k 0 = s.getD k 0) : mixTo s r (k + 1) = (mixTo s r k).set k (-1) := by
  refine eq_of_getD (by rw [List.length_set, mixTo_len, mixTo_len]) fun j hj => ?_
  rw [mixTo_len] at hj
  rw [getD_setI _ _ _ _ (by rw [mixTo_len]; exact hj), mixTo_get _ _ _ _ hj, mixTo_get _ _ _ _ hj]
  by_cases e : k = j
  · subst e; rw [if_pos ⟨by omega, h⟩, if_pos rfl]
  · rw [if_neg e]
    by_cases h2 : j < k ∧ r.getD j 0 ≠ s.getD j 0
    · rw [if_pos ⟨by omega, h2.2⟩, if_pos h2]
    · rw [if_neg (fun h3 => h2 ⟨by omega, h3.2⟩), if_neg h2]
/-- What is sure of the first i lists. -/
def sureL (rss : List (List Int)) : Nat → List Int
  | 0 => firstR rss
  | i + 1 => mixTo (sureL rss i) (rss.getD i []) (sureL rss i).length
theorem sureL_len (rss : List (List Int)) : ∀ i, (sureL rss i).length = (firstR rss).length
  | 0 => rfl
  | i + 1 => by rw [sureL, mixTo_len, sureL_len rss i]
def sureR (rss : List (List Int)) : List Int := if rss.length = 0 then [] else sureL rss rss.length
/-- A list of which all rows have n numbers. -/
def AllN (n : Nat) (rss : List (List Int)) : Prop := ∀ i, i < rss.length → (rss.getD i []).length = n
theorem alln_sol {n : Nat} (h : n = 2 ∨ n = 3) (cs : List Kn) : AllN n (solL n cs) := fun i hi => (solL_at h cs i hi).2

set_option maxHeartbeats 4000000 in
theorem imFirst_any (p : Int) (b c : Nat) (ds : List Kn) (w : World) (hn : ds.length ≤ 1048576) (hbl : b < w.heap.size) (hI : Kns w b 0 ds) : Calls Try.prog 29 #[.agg #[.int .i64 p, .slice (some ⟨b, 0, none⟩) ds.length c]] w (RetOwnB (firstR (solOf p ds)) (someB (solOf p ds)) w) := by
  have HW := Lib.hid ((Below.refl w.heap.size w).alloc (Nat.le_refl _) (.cells #[.int .i64 p, .slice (some ⟨b, 0, none⟩) ds.length c] 29))
  have HC := Lib.hid (fun (W : World) (hb : Below w.heap.size w W) => imSol_any p b c ds W hn (Nat.lt_of_lt_of_le hbl hb.size) (hI.kept hb hbl))
  clear hI
  generalize pzB p ds = okp at HC
  generalize solOf p ds = rss at HC ⊢
  go_enter Try.func29, Try.ntmps29
  go_wp2_with fail
  refine (HC.out _ HW.out).mono ?_
  rintro e w2 ⟨v, vs, rfl, hO0, hb2⟩
  have hO := hO0.monoB HW.out.size
  have hb2' := HW.out.trans (hb2.mono HW.out.size)
  rcases hO.cases with ⟨rfl, h0⟩ | ⟨go, cgo, rfl, hcell⟩
  · subst h0
    go_wp2_with fail
    go_ret2
    exact ⟨_, rfl, own_nil _ _, hb2'⟩
  · by_cases hm : rss.length = 0
    · have h0 := List.eq_nil_of_length_eq_zero hm
      subst h0
      go_wp2_with fail
      go_ret2
      exact ⟨_, rfl, own_nil _ _, hb2'⟩
    · have hc0 := hcell 0 (by omega)
      have hrow := hO.row 0 (by omega)
      have HE1 := Lib.hid (show someB rss = true from decide_eq_true (by omega))
      have HR := Lib.hid hrow
      have HFr := Lib.hid (show rss.getD 0 [] = firstR rss from rfl)
      generalize rss.getD 0 [] = r at HR HFr
      generalize vs.getD 0 (.slice none 0 0) = x at hc0 HR
      have hmI : ¬ ((rss.length : Nat) : Int) = 0 := by omega
      have hmP : 0 < rss.length := by omega
      have hmP2 : (0 : Int) < (rss.length : Int) := by omega
      have hmB : (((rss.length : Nat) : Int) == 0) = false := by rw [beq_eq_false_iff_ne]; omega
      clear hO hO0 hcell hrow
      generalize rss.length = m at hm hmI hmP hmP2 hmB
      go_wp2_with fail
      go_ret2
      exact ⟨_, by rw [HE1.out]; rfl, HFr.out ▸ HR.out, hb2'⟩

set_option maxHeartbeats 2000000 in
theorem spFirst_no (p : Int) (b c : Nat) (ds : List Kn) (w : World) (hn : ds.length ≤ 1048576) (hbl : b < w.heap.size) (hI : Kns w b 0 ds) (h : pzB p ds = false) : Calls Try.prog 28 #[.agg #[.int .i64 p, .slice (some ⟨b, 0, none⟩) ds.length c]] w (RetOwnB [] false w) := by
  have HW := Lib.hid ((Below.refl w.heap.size w).alloc (Nat.le_refl _) (.cells #[.int .i64 p, .slice (some ⟨b, 0, none⟩) ds.length c] 29))
  have HG := Lib.hid (fun (W : World) (hb : Below w.heap.size w W) => pzGood_any p b 0 ds.length c ds W rfl hn (Nat.lt_of_lt_of_le hbl hb.size) (hI.kept hb hbl))
  rw [h] at HG
  clear hI h
  go_enter Try.func28, Try.ntmps28
  go_wp2_with fail
  refine (HG.out _ HW.out).mono ?_
  rintro e w1 ⟨rfl, hb1⟩
  have hb1' := HW.out.trans (hb1.mono HW.out.size)
  go_wp2_with fail
  go_ret2
  exact ⟨_, rfl, own_nil _ _, hb1'⟩

set_option maxHeartbeats 4000000 in
theorem spFirst_yes (n : Nat) (b c : Nat) (ds : List Kn) (w : World) (hbl : b < w.heap.size) (hI : Kns w b 0 ds) (h : pzB (n : Int) ds = true) : Calls Try.prog 28 #[.agg #[.int .i64 (n : Int), .slice (some ⟨b, 0, none⟩) ds.length c]] w (RetOwnB (firstR (solL n ds)) (someB (solL n ds)) w) := by
  obtain ⟨n', hn', h23, h6, hcs⟩ := pz_of h
  have hnn : n' = n := by omega
  subst hnn
  have HW := Lib.hid ((Below.refl w.heap.size w).alloc (Nat.le_refl _) (.cells #[.int .i64 (n' : Int), .slice (some ⟨b, 0, none⟩) ds.length c] 29))
  have HG := Lib.hid (fun (W : World) (hb : Below w.heap.size w W) => pzGood_any (n' : Int) b 0 ds.length c ds W rfl (by omega) (Nat.lt_of_lt_of_le hbl hb.size) (hI.kept hb hbl))
  have HA := Lib.hid (fun (W : World) (hb : Below w.heap.size w W) => pzAll_any n' (some ⟨b, 0, none⟩) ds.length c ds W h23 (by omega) hcs ((argK_lit hbl hI).kept hb))
  rw [h] at HG
  have hA := alln_sol h23 ds
  generalize solL n' ds = rss at HA hA ⊢
  clear hI h hcs hn'
  go_enter Try.func28, Try.ntmps28
  go_wp2_with fail
  refine (HG.out _ HW.out).mono ?_
  rintro e w1 ⟨rfl, hb1⟩
  have hb1' := HW.out.trans (hb1.mono HW.out.size)
  have q0 : w1.cell? ⟨w.heap.size, 0, none⟩ = some (.int .i64 (n' : Int)) := below_cell2 hb1 (by simp [go_sem])
  have q1 : w1.cell? ⟨w.heap.size, 1, none⟩ = some (.slice (some ⟨b, 0, none⟩) ds.length c) := below_cell2 hb1 (by simp [go_sem])
  go_wp2_with fail
  refine (HA.out _ hb1').mono ?_
  rintro e w2 ⟨v, vs, rfl, hO0, hb2⟩
  have hO := hO0.monoB hb1'.size
  have hb2' := hb1'.trans (hb2.mono hb1'.size)
  rcases hO.cases with ⟨rfl, h0⟩ | ⟨go, cgo, rfl, hcell⟩
  · subst h0
    go_wp2_with fail
    go_ret2
    exact ⟨_, rfl, own_nil _ _, hb2'⟩
  · by_cases hm : rss.length = 0
    · have h0 := List.eq_nil_of_length_eq_zero hm
      subst h0
      go_wp2_with fail
      go_ret2
      exact ⟨_, rfl, own_nil _ _, hb2'⟩
    · have hc0 := hcell 0 (by omega)
      have hrow := hO.row 0 (by omega)
      have HE1 := Lib.hid (show someB rss = true from decide_eq_true (by omega))
      have HR := Lib.hid hrow
      have HFr := Lib.hid (show rss.getD 0 [] = firstR rss from rfl)
      generalize rss.getD 0 [] = r at HR HFr
      generalize vs.getD 0 (.slice none 0 0) = x at hc0 HR
      have hmI : ¬ ((rss.length : Nat) : Int) = 0 := by omega
      have hmP : 0 < rss.length := by omega
      have hmP2 : (0 : Int) < (rss.length : Int) := by omega
      have hmB : (((rss.length : Nat) : Int) == 0) = false := by rw [beq_eq_false_iff_ne]; omega
      clear hO hO0 hcell hrow
      generalize rss.length = m at hm hmI hmP hmP2 hmB
      go_wp2_with fail
      go_ret2
      exact ⟨_, by rw [HE1.out]; rfl, HFr.out ▸ HR.out, hb2'⟩

theorem spFirst_any (p : Int) (b c : Nat) (ds : List Kn) (w : World) (hn : ds.length ≤ 1048576) (hbl : b < w.heap.size) (hI : Kns w b 0 ds) : Calls Try.prog 28 #[.agg #[.int .i64 p, .slice (some ⟨b, 0, none⟩) ds.length c]] w (RetOwnB (firstR (solOf p ds)) (someB (solOf p ds)) w) := by
  cases h : pzB p ds with
  | false => rw [solOf_no h]; exact spFirst_no p b c ds w hn hbl hI h
  | true =>
    obtain ⟨n, rfl, _⟩ := pz_of h
    rw [solOf_yes h]
    exact spFirst_yes n b c ds w hbl hI h

theorem first_le (p : Int) (ds : List Kn) : (firstR (solOf p ds)).length ≤ 1048576 := by
  have h := small_solOf p ds
  unfold firstR
  by_cases h0 : 0 < (solOf p ds).length
  · have := h.2 0 h0; omega
  · rw [List.getD_eq_getElem?_getD, List.getElem?_eq_none (by omega)]; simp

theorem firstSolution_both (p : Int) (ds : List Kn) : ∃ rs ok, rs.length ≤ 1048576 ∧
    (∀ b c w, ds.length ≤ 1048576 → ds.length ≤ c → b < w.heap.size → Kns w b 0 ds → Calls Try.prog 28 #[.agg #[.int .i64 p, .slice (some ⟨b, 0, none⟩) ds.length c]] w (RetOwnB rs ok w)) ∧
    (∀ b c w, ds.length ≤ 1048576 → ds.length ≤ c → b < w.heap.size → Kns w b 0 ds → Calls Try.prog 29 #[.agg #[.int .i64 p, .slice (some ⟨b, 0, none⟩) ds.length c]] w (RetOwnB rs ok w)) :=
  ⟨_, _, first_le p ds, fun b c w hn _ hb hI => spFirst_any p b c ds w hn hb hI, fun b c w hn _ hb hI => imFirst_any p b c ds w hn hb hI⟩

set_option maxHeartbeats 8000000 in
set_option maxRecDepth 100000 in
theorem imSure_of (p : Int) (b c : Nat) (ds : List Kn) (w : World) (hn : ds.length ≤ 1048576) (hbl : b < w.heap.size) (hI : Kns w b 0 ds) (N : Nat) (hN : N ≤ 3) (hN2 : 2 ≤ N) (hAll : AllN N (solOf p ds)) (hLen : (solOf p ds).length ≤ 200000) : Calls Try.prog 34 #[.agg #[.int .i64 p, .slice (some ⟨b, 0, none⟩) ds.length c]] w (RetOwnB (sureR (solOf p ds)) (someB (solOf p ds)) w) := by
  have HW := Lib.hid ((Below.refl w.heap.size w).alloc (Nat.le_refl _) (.cells #[.int .i64 p, .slice (some ⟨b, 0, none⟩) ds.length c] 29))
  have HC := Lib.hid (fun (W : World) (hb : Below w.heap.size w W) => imSol_any p b c ds W hn (Nat.lt_of_lt_of_le hbl hb.size) (hI.kept hb hbl))
  clear hI
  generalize pzB p ds = okp at HC
  generalize solOf p ds = rss at HC hAll hLen ⊢
  go_enter Try.func34, Try.ntmps34
  go_wp2_with fail
  refine (HC.out _ HW.out).mono ?_
  rintro e w2 ⟨v, vs, rfl, hO0, hb2⟩
  have hO := hO0.monoB HW.out.size
  have hb2' := HW.out.trans (hb2.mono HW.out.size)
  rcases hO.cases with ⟨rfl, h0⟩ | ⟨go, cgo, rfl, hcell⟩
  · subst h0
    go_wp2_with fail
    go_ret2
    exact ⟨_, rfl, own_nil _ _, hb2'⟩
  · by_cases hm : rss.length = 0
    · have h0 := List.eq_nil_of_length_eq_zero hm
      subst h0
      go_wp2_with fail
      go_ret2
      exact ⟨_, rfl, own_nil _ _, hb2'⟩
    · have hc0 := hcell 0 (by omega)
      have hrow := hO.row 0 (by omega)
      have HE1 := Lib.hid (show someB rss = true from decide_eq_true (by omega))
      have HSr := Lib.hid (show sureR rss = sureL rss rss.length by unfold sureR; rw [if_neg hm])
      have HR := Lib.hid hrow
      have HS0 := Lib.hid (show sureL rss 0 = rss.getD 0 [] from rfl)
      have HS1 := Lib.hid (fun i => (show sureL rss (i + 1) = mixTo (sureL rss i) (rss.getD i []) (sureL rss i).length from rfl))
      have HSl := Lib.hid (fun i => sureL_len rss i)
      have HF := Lib.hid (show (firstR rss).length = N from hAll 0 (by omega))
      have HAll := Lib.hid hAll
      have HO := Lib.hid hO
      have HCell := Lib.hid hcell
      have HRl := Lib.hid (hAll 0 (by omega))
      generalize rss.getD 0 [] = r at HR HS0 HRl
      generalize vs.getD 0 (.slice none 0 0) = x at hc0 HR
      have hmI : ¬ ((rss.length : Nat) : Int) = 0 := by omega
      have hmP : 0 < rss.length := by omega
      have hmP2 : (0 : Int) < (rss.length : Int) := by omega
      have hmB : (((rss.length : Nat) : Int) == 0) = false := by rw [beq_eq_false_iff_ne]; omega
      have hrl := HRl.out
      have HClone := Lib.hid (cloneV_any w.heap.size x r w2 (by omega) HR.out)
      clear hO hO0 hcell hrow hAll
      obtain ⟨m, hmm⟩ : ∃ m, rss.length = m := ⟨_, rfl⟩
      rw [hmm] at hm hmI hmP hmP2 hmB hLen ⊢
      have HM := Lib.hid hmm
      clear hmm hrl
      go_wp2_with (go_at_call 61; refine HClone.out.mono ?_; rintro e w3 ⟨vc, rfl, hown, hb3⟩)
      obtain ⟨g, cg, hvc⟩ : ∃ g cg, vc = .slice (some ⟨g, 0, none⟩) N cg := by
        rcases hown.cases with ⟨_, h0⟩ | ⟨g, cg, h1, _⟩
        · have := HRl.out; rw [h0] at this; simp at this; omega
        · exact ⟨g, cg, by rw [h1, HRl.out]⟩
      subst hvc
      have hgB := hown.shape.2.1
      have HOw : Hid (Own w2.heap.size w3 (.slice (some ⟨g, 0, none⟩) N cg) (sureL rss 0)) := Lib.hid (by rw [HS0.out]; exact hown)
      clear hown
      go_loopw [25] (fun q wr => ∃ i : Nat, i ≤ m ∧ q = .int .i64 i ∧ Hid (Own w2.heap.size wr (.slice (some ⟨g, 0, none⟩) N cg) (sureL rss i)) ∧ Below w2.heap.size w2 wr) (fun q _ => m - (intOf q).toNat)
      case atStart => exact ⟨0, Nat.zero_le _, rfl, HOw, hb3⟩
      case round =>
        obtain ⟨i, hi, rfl, HOi, hbi⟩ := hrel
        by_cases hilt : i < m
        · have hc := below_cells2 hbi (HCell.out i (by rw [HM.out]; exact hilt))
          have hrow := (HO.out.row i (by rw [HM.out]; exact hilt)).kept hbi
          have hrlen := HAll.out i (by rw [HM.out]; exact hilt)
          have HSi := Lib.hid (HS1.out i)
          have HLi := Lib.hid ((HSl.out i).trans HF.out)
          have hblk := HO.out.rbl i (by rw [HM.out]; exact hilt)
          generalize vs.getD i (.slice none 0 0) = y at hc hrow hblk
          generalize rss.getD i [] = t at hrow hrlen HSi
          obtain ⟨gy, cy, hvy⟩ : ∃ gy cy, y = .slice (some ⟨gy, 0, none⟩) N cy := by
            rcases hrow.cases with ⟨_, h0⟩ | ⟨gy, cy, h1, _⟩
            · have h9 : N = 0 := by rw [← hrlen, h0]; rfl
              omega
            · exact ⟨gy, cy, by rw [h1, hrlen]⟩
          subst hvy
          have HIt := Lib.hid hrow.shape.2.2.2.2.1
          have hgy : gy < w2.heap.size := hblk gy rfl
          have HTl := Lib.hid hrlen
          clear hrow hrlen
          generalize sureL rss i = s at HOi HSi HLi
          obtain ⟨w4, hw4⟩ : ∃ w4, w4 = wr := ⟨_, rfl⟩
          subst hw4
          go_wp2_with fail
          go_loopw [31] (fun q wr2 => ∃ k : Nat, k ≤ N ∧ q = .int .i64 k ∧ Hid (Own w2.heap.size wr2 (.slice (some ⟨g, 0, none⟩) N cg) (mixTo s t k)) ∧ Below w2.heap.size w2 wr2 ∧ Ints wr2 gy 0 t) (fun q _ => N - (intOf q).toNat)
          case atStart => exact ⟨0, Nat.zero_le _, rfl, Lib.hid (by rw [mixTo_zero]; exact HOi.out), hbi, HIt.out⟩
          case round =>
            obtain ⟨k, hk, rfl, HOk, hbk, hIt⟩ := hrel
            by_cases hklt : k < N
            · have ht := hIt k (by rw [HTl.out]; exact hklt)
              have hs := HOk.out.shape.2.2.2.2.1 k (by rw [mixTo_len, HLi.out]; exact hklt)
              have hfz := HOk.out.shape.2.2.2.2.2 k
              rw [mixTo_at s t k (by rw [HLi.out]; exact hklt)] at hs
              rw [Nat.zero_add] at ht hs
              have HEq := Lib.hid (fun h => mixTo_eq s t k (by rw [HLi.out]; exact hklt) h)
              have HNe := Lib.hid (fun h => mixTo_ne s t k (by rw [HLi.out]; exact hklt) h)
              have HSet := Lib.hid (own_set HOk.out k (-1))
              have HItS := Lib.hid (show Ints (wr.setCell ⟨g, k, none⟩ (.int .i64 (-1))) gy 0 t from fun j hj => (World.cell?_setCell_other _ _ _ _ (by first | (simp; done) | (simp; omega))).trans (hIt j hj))
              have hi0 : (0 : Int) ≤ (k : Int) := by omega
              have hi1 : (k : Int) < (N : Int) := by omega
              generalize t.getD k 0 = tk at ht HEq HNe
              generalize s.getD k 0 = sk at hs HEq HNe
              by_cases he : tk = sk
              · have HE := Lib.hid (HEq.out he)
                subst he
                clear HEq HNe
                go_wp2_with fail
                go_roundw
                case rel => exact ⟨k + 1, by omega, by go_num, Lib.hid (by rw [HE.out]; exact HOk.out), by first | assumption | exact hbk | exact below_drewN hbk _, by first | exact hIt | exact fun j hj => hIt j hj⟩
                case measure => simp [intOf]; omega
              · have HN := Lib.hid (HNe.out he)
                have heb : (tk == sk) = false := beq_eq_false_iff_ne.2 he
                have hen : (tk != sk) = true := by simp [bne, heb]
                clear HEq HNe
                go_wp2_with fail
                go_roundw
                case rel => exact ⟨k + 1, by omega, by go_num, Lib.hid (by rw [HN.out]; first | exact HSet.out | exact own_set (HOk.out) k (-1)), by first | exact hbk.setCell hgB _ | exact (below_drewN hbk _).setCell hgB _, by first | exact HItS.out | exact fun j hj => HItS.out j hj⟩
                case measure => simp [intOf]; omega
            · have HkN := Lib.hid (show k = N by omega)
              have HOn : Hid (Own w2.heap.size wr (.slice (some ⟨g, 0, none⟩) N cg) (sureL rss (i + 1))) := Lib.hid (by rw [HSi.out, HLi.out]; have h := HOk.out; rw [HkN.out] at h; exact h)
              go_wp2_with fail
              go_roundw
              case rel => exact ⟨i + 1, by omega, by go_num, HOn, hbk⟩
              case measure => simp [intOf]; omega
        · have him : i = m := by omega
          subst him
          go_wp2_with fail
          go_ret2
          exact ⟨_, by rw [HE1.out]; rfl, by rw [HSr.out, HM.out]; exact HOi.out.mono hb2'.size, hb2'.trans (hbi.mono hb2'.size)⟩

set_option maxHeartbeats 2000000 in
theorem spSure_no (p : Int) (b c : Nat) (ds : List Kn) (w : World) (hn : ds.length ≤ 1048576) (hbl : b < w.heap.size) (hI : Kns w b 0 ds) (h : pzB p ds = false) : Calls Try.prog 33 #[.agg #[.int .i64 p, .slice (some ⟨b, 0, none⟩) ds.length c]] w (RetOwnB [] false w) := by
  have HW := Lib.hid ((Below.refl w.heap.size w).alloc (Nat.le_refl _) (.cells #[.int .i64 p, .slice (some ⟨b, 0, none⟩) ds.length c] 29))
  have HG := Lib.hid (fun (W : World) (hb : Below w.heap.size w W) => pzGood_any p b 0 ds.length c ds W rfl hn (Nat.lt_of_lt_of_le hbl hb.size) (hI.kept hb hbl))
  rw [h] at HG
  clear hI h
  go_enter Try.func33, Try.ntmps33
  go_wp2_with fail
  refine (HG.out _ HW.out).mono ?_
  rintro e w1 ⟨rfl, hb1⟩
  have hb1' := HW.out.trans (hb1.mono HW.out.size)
  go_wp2_with fail
  go_ret2
  exact ⟨_, rfl, own_nil _ _, hb1'⟩

set_option maxHeartbeats 8000000 in
set_option maxRecDepth 100000 in
theorem spSure_yes (n : Nat) (b c : Nat) (ds : List Kn) (w : World) (hbl : b < w.heap.size) (hI : Kns w b 0 ds) (h : pzB (n : Int) ds = true) : Calls Try.prog 33 #[.agg #[.int .i64 (n : Int), .slice (some ⟨b, 0, none⟩) ds.length c]] w (RetOwnB (sureR (solL n ds)) (someB (solL n ds)) w) := by
  obtain ⟨n', hn', h23, h6, hcs⟩ := pz_of h
  have hnn : n' = n := by omega
  subst hnn
  have HW := Lib.hid ((Below.refl w.heap.size w).alloc (Nat.le_refl _) (.cells #[.int .i64 (n' : Int), .slice (some ⟨b, 0, none⟩) ds.length c] 29))
  have HG := Lib.hid (fun (W : World) (hb : Below w.heap.size w W) => pzGood_any (n' : Int) b 0 ds.length c ds W rfl (by omega) (Nat.lt_of_lt_of_le hbl hb.size) (hI.kept hb hbl))
  have HA := Lib.hid (fun (W : World) (hb : Below w.heap.size w W) => pzAll_any n' (some ⟨b, 0, none⟩) ds.length c ds W h23 (by omega) hcs ((argK_lit hbl hI).kept hb))
  rw [h] at HG
  obtain ⟨N, hNe⟩ : ∃ N : Nat, N = n' := ⟨_, rfl⟩
  have hAll : AllN N (solL n' ds) := by rw [hNe]; exact alln_sol h23 ds
  have hLen := (small_sol h23 ds).1
  have hN : N ≤ 3 := by omega
  have hN2 : 2 ≤ N := by omega
  generalize solL n' ds = rss at HA hAll hLen ⊢
  clear hNe
  clear hI h hcs hn'
  go_enter Try.func33, Try.ntmps33
  go_wp2_with fail
  refine (HG.out _ HW.out).mono ?_
  rintro e w1 ⟨rfl, hb1⟩
  have hb1' := HW.out.trans (hb1.mono HW.out.size)
  have q0 : w1.cell? ⟨w.heap.size, 0, none⟩ = some (.int .i64 (n' : Int)) := below_cell2 hb1 (by simp [go_sem])
  have q1 : w1.cell? ⟨w.heap.size, 1, none⟩ = some (.slice (some ⟨b, 0, none⟩) ds.length c) := below_cell2 hb1 (by simp [go_sem])
  go_wp2_with fail
  refine (HA.out _ hb1').mono ?_
  rintro e w2 ⟨v, vs, rfl, hO0, hb2⟩
  have hO := hO0.monoB hb1'.size
  have hb2' := hb1'.trans (hb2.mono hb1'.size)
  rcases hO.cases with ⟨rfl, h0⟩ | ⟨go, cgo, rfl, hcell⟩
  · subst h0
    go_wp2_with fail
    go_ret2
    exact ⟨_, rfl, own_nil _ _, hb2'⟩
  · by_cases hm : rss.length = 0
    · have h0 := List.eq_nil_of_length_eq_zero hm
      subst h0
      go_wp2_with fail
      go_ret2
      exact ⟨_, rfl, own_nil _ _, hb2'⟩
    · have hc0 := hcell 0 (by omega)
      have hrow := hO.row 0 (by omega)
      have HE1 := Lib.hid (show someB rss = true from decide_eq_true (by omega))
      have HSr := Lib.hid (show sureR rss = sureL rss rss.length by unfold sureR; rw [if_neg hm])
      have HR := Lib.hid hrow
      have HS0 := Lib.hid (show sureL rss 0 = rss.getD 0 [] from rfl)
      have HS1 := Lib.hid (fun i => (show sureL rss (i + 1) = mixTo (sureL rss i) (rss.getD i []) (sureL rss i).length from rfl))
      have HSl := Lib.hid (fun i => sureL_len rss i)
      have HF := Lib.hid (show (firstR rss).length = N from hAll 0 (by omega))
      have HAll := Lib.hid hAll
      have HO := Lib.hid hO
      have HCell := Lib.hid hcell
      have HRl := Lib.hid (hAll 0 (by omega))
      generalize rss.getD 0 [] = r at HR HS0 HRl
      generalize vs.getD 0 (.slice none 0 0) = x at hc0 HR
      have hmI : ¬ ((rss.length : Nat) : Int) = 0 := by omega
      have hmP : 0 < rss.length := by omega
      have hmP2 : (0 : Int) < (rss.length : Int) := by omega
      have hmB : (((rss.length : Nat) : Int) == 0) = false := by rw [beq_eq_false_iff_ne]; omega
      have hrl := HRl.out
      have HClone := Lib.hid (ownOf_any w.heap.size x r w2 (by omega) HR.out)
      clear hO hO0 hcell hrow hAll
      obtain ⟨m, hmm⟩ : ∃ m, rss.length = m := ⟨_, rfl⟩
      rw [hmm] at hm hmI hmP hmP2 hmB hLen ⊢
      have HM := Lib.hid hmm
      clear hmm hrl
      go_wp2_with (go_at_call 60; refine HClone.out.mono ?_; rintro e w3 ⟨vc, rfl, hown, hb3⟩)
      obtain ⟨g, cg, hvc⟩ : ∃ g cg, vc = .slice (some ⟨g, 0, none⟩) N cg := by
        rcases hown.cases with ⟨_, h0⟩ | ⟨g, cg, h1, _⟩
        · have := HRl.out; rw [h0] at this; simp at this; omega
        · exact ⟨g, cg, by rw [h1, HRl.out]⟩
      subst hvc
      have hgB := hown.shape.2.1
      have HOw : Hid (Own w2.heap.size w3 (.slice (some ⟨g, 0, none⟩) N cg) (sureL rss 0)) := Lib.hid (by rw [HS0.out]; exact hown)
      clear hown
      go_loopw [26] (fun q wr => ∃ i : Nat, i ≤ m ∧ q = .int .i64 i ∧ Hid (Own w2.heap.size wr (.slice (some ⟨g, 0, none⟩) N cg) (sureL rss i)) ∧ Below w2.heap.size w2 wr) (fun q _ => m - (intOf q).toNat)
      case atStart => exact ⟨0, Nat.zero_le _, rfl, HOw, hb3⟩
      case round =>
        obtain ⟨i, hi, rfl, HOi, hbi⟩ := hrel
        by_cases hilt : i < m
        · have hc := below_cells2 hbi (HCell.out i (by rw [HM.out]; exact hilt))
          have hrow := (HO.out.row i (by rw [HM.out]; exact hilt)).kept hbi
          have hrlen := HAll.out i (by rw [HM.out]; exact hilt)
          have HSi := Lib.hid (HS1.out i)
          have HLi := Lib.hid ((HSl.out i).trans HF.out)
          have hblk := HO.out.rbl i (by rw [HM.out]; exact hilt)
          generalize vs.getD i (.slice none 0 0) = y at hc hrow hblk
          generalize rss.getD i [] = t at hrow hrlen HSi
          obtain ⟨gy, cy, hvy⟩ : ∃ gy cy, y = .slice (some ⟨gy, 0, none⟩) N cy := by
            rcases hrow.cases with ⟨_, h0⟩ | ⟨gy, cy, h1, _⟩
            · have h9 : N = 0 := by rw [← hrlen, h0]; rfl
              omega
            · exact ⟨gy, cy, by rw [h1, hrlen]⟩
          subst hvy
          have HIt := Lib.hid hrow.shape.2.2.2.2.1
          have hgy : gy < w2.heap.size := hblk gy rfl
          have HTl := Lib.hid hrlen
          clear hrow hrlen
          generalize sureL rss i = s at HOi HSi HLi
          obtain ⟨w4, hw4⟩ : ∃ w4, w4 = wr := ⟨_, rfl⟩
          subst hw4
          go_wp2_with fail
          go_loopw [32] (fun q wr2 => ∃ k : Nat, k ≤ N ∧ q = .int .i64 k ∧ Hid (Own w2.heap.size wr2 (.slice (some ⟨g, 0, none⟩) N cg) (mixTo s t k)) ∧ Below w2.heap.size w2 wr2 ∧ Ints wr2 gy 0 t) (fun q _ => N - (intOf q).toNat)
          case atStart => exact ⟨0, Nat.zero_le _, rfl, Lib.hid (by rw [mixTo_zero]; exact HOi.out), hbi, HIt.out⟩
          case round =>
            obtain ⟨k, hk, rfl, HOk, hbk, hIt⟩ := hrel
            by_cases hklt : k < N
            · have ht := hIt k (by rw [HTl.out]; exact hklt)
              have hs := HOk.out.shape.2.2.2.2.1 k (by rw [mixTo_len, HLi.out]; exact hklt)
              have hfz := HOk.out.shape.2.2.2.2.2 k
              rw [mixTo_at s t k (by rw [HLi.out]; exact hklt)] at hs
              rw [Nat.zero_add] at ht hs
              have HEq := Lib.hid (fun h => mixTo_eq s t k (by rw [HLi.out]; exact hklt) h)
              have HNe := Lib.hid (fun h => mixTo_ne s t k (by rw [HLi.out]; exact hklt) h)
              have HSet := Lib.hid (own_set HOk.out k (-1))
              have HItS := Lib.hid (show Ints (wr.setCell ⟨g, k, none⟩ (.int .i64 (-1))) gy 0 t from fun j hj => (World.cell?_setCell_other _ _ _ _ (by first | (simp; done) | (simp; omega))).trans (hIt j hj))
              have hi0 : (0 : Int) ≤ (k : Int) := by omega
              have hi1 : (k : Int) < (N : Int) := by omega
              generalize t.getD k 0 = tk at ht HEq HNe
              generalize s.getD k 0 = sk at hs HEq HNe
              by_cases he : tk = sk
              · have HE := Lib.hid (HEq.out he)
                subst he
                clear HEq HNe
                go_wp2_with fail
                go_quiet (fail)
                go_wp2_with fail
                go_roundw
                case rel => exact ⟨k + 1, by omega, by go_num, Lib.hid (by rw [HE.out]; exact HOk.out), by first | assumption | exact hbk | exact below_drewN hbk _, by first | exact hIt | exact fun j hj => hIt j hj⟩
                case measure => simp [intOf]; omega
              · have HN := Lib.hid (HNe.out he)
                have heb : (tk == sk) = false := beq_eq_false_iff_ne.2 he
                have hen : (tk != sk) = true := by simp [bne, heb]
                clear HEq HNe
                go_wp2_with fail
                go_quiet (fail)
                go_wp2_with fail
                go_roundw
                case rel => exact ⟨k + 1, by omega, by go_num, Lib.hid (by rw [HN.out]; first | exact HSet.out | exact own_set (HOk.out) k (-1)), by first | exact hbk.setCell hgB _ | exact (below_drewN hbk _).setCell hgB _, by first | exact HItS.out | exact fun j hj => HItS.out j hj⟩
                case measure => simp [intOf]; omega
            · have HkN := Lib.hid (show k = N by omega)
              have HOn : Hid (Own w2.heap.size wr (.slice (some ⟨g, 0, none⟩) N cg) (sureL rss (i + 1))) := Lib.hid (by rw [HSi.out, HLi.out]; have h := HOk.out; rw [HkN.out] at h; exact h)
              go_wp2_with fail
              go_roundw
              case rel => exact ⟨i + 1, by omega, by go_num, HOn, hbk⟩
              case measure => simp [intOf]; omega
        · have him : i = m := by omega
          subst him
          go_wp2_with fail
          go_ret2
          exact ⟨_, by rw [HE1.out]; rfl, by rw [HSr.out, HM.out]; exact HOi.out.mono hb2'.size, hb2'.trans (hbi.mono hb2'.size)⟩

theorem spSure_any (p : Int) (b c : Nat) (ds : List Kn) (w : World) (hn : ds.length ≤ 1048576) (hbl : b < w.heap.size) (hI : Kns w b 0 ds) : Calls Try.prog 33 #[.agg #[.int .i64 p, .slice (some ⟨b, 0, none⟩) ds.length c]] w (RetOwnB (sureR (solOf p ds)) (someB (solOf p ds)) w) := by
  cases h : pzB p ds with
  | false => rw [solOf_no h]; exact spSure_no p b c ds w hn hbl hI h
  | true =>
    obtain ⟨n, rfl, _⟩ := pz_of h
    rw [solOf_yes h]
    exact spSure_yes n b c ds w hbl hI h

theorem imSure_any (p : Int) (b c : Nat) (ds : List Kn) (w : World) (hn : ds.length ≤ 1048576) (hbl : b < w.heap.size) (hI : Kns w b 0 ds) : Calls Try.prog 34 #[.agg #[.int .i64 p, .slice (some ⟨b, 0, none⟩) ds.length c]] w (RetOwnB (sureR (solOf p ds)) (someB (solOf p ds)) w) := by
  cases h : pzB p ds with
  | false => exact imSure_of p b c ds w hn hbl hI 2 (by omega) (by omega) (by rw [solOf_no h]; intro i hi; simp at hi) (small_solOf p ds).1
  | true =>
    obtain ⟨n, rfl, h23, _⟩ := pz_of h
    exact imSure_of n b c ds w hn hbl hI n (by omega) (by omega) (by rw [solOf_yes h]; exact alln_sol h23 ds) (small_solOf _ ds).1
theorem sure_le (p : Int) (ds : List Kn) : (sureR (solOf p ds)).length ≤ 1048576 := by
  unfold sureR
  split
  · simp
  · rw [sureL_len]; exact first_le p ds

theorem sureAges_both (p : Int) (ds : List Kn) : ∃ rs ok, rs.length ≤ 1048576 ∧
    (∀ b c w, ds.length ≤ 1048576 → ds.length ≤ c → b < w.heap.size → Kns w b 0 ds → Calls Try.prog 33 #[.agg #[.int .i64 p, .slice (some ⟨b, 0, none⟩) ds.length c]] w (RetOwnB rs ok w)) ∧
    (∀ b c w, ds.length ≤ 1048576 → ds.length ≤ c → b < w.heap.size → Kns w b 0 ds → Calls Try.prog 34 #[.agg #[.int .i64 p, .slice (some ⟨b, 0, none⟩) ds.length c]] w (RetOwnB rs ok w)) :=
  ⟨_, _, sure_le p ds, fun b c w hn _ hb hI => spSure_any p b c ds w hn hb hI, fun b c w hn _ hb hI => imSure_any p b c ds w hn hb hI⟩

end Go.Proofs.Ytkkjbkagkmngkaa
