/- Solutions, how many there are, the first one: both texts. -/
import Derived.Test.YtkkjbkagkmngkaaPz3
import Derived.Test.YtkkjbkagkmngkaaPz8
import Derived.Test.YtkkjbkagkmngkaaPz11
set_option linter.unusedVariables false
set_option linter.unusedSimpArgs false
namespace Go.Proofs.Ytkkjbkagkmngkaa
open Go.RowKit

theorem pz_of {p : Int} {ds : List Kn} (h : pzB p ds = true) : ∃ n : Nat, p = (n : Int) ∧ (n = 2 ∨ n = 3) ∧ ds.length ≤ 6 ∧ ∀ j, j < ds.length → icB (n : Int) (at3 ds j) = true := by
  unfold pzB at h
  rw [Bool.and_eq_true, Bool.and_eq_true, inB_iff, decide_eq_true_iff] at h
  obtain ⟨h1, h2, h3⟩ := h
  refine ⟨p.toNat, by omega, by omega, h2, fun j hj => ?_⟩
  rw [show ((p.toNat : Nat) : Int) = p by omega]
  exact cluesTo_at h3 j hj
def solOf (p : Int) (ds : List Kn) : List (List Int) := if pzB p ds = true then solL p.toNat ds else []
theorem solOf_yes {n : Nat} {ds : List Kn} (h : pzB n ds = true) : solOf n ds = solL n ds := by unfold solOf; rw [if_pos h, Int.toNat_natCast]
theorem solOf_no {p : Int} {ds : List Kn} (h : pzB p ds = false) : solOf p ds = [] := by unfold solOf; rw [if_neg (by rw [h]; simp)]
theorem small_nil : Small [] := ⟨by simp, fun i hi => by simp at hi⟩
theorem small_solOf (p : Int) (ds : List Kn) : Small (solOf p ds) := by
  cases h : pzB p ds with
  | false => rw [solOf_no h]; exact small_nil
  | true =>
    obtain ⟨n, rfl, hn, _⟩ := pz_of h
    rw [solOf_yes h]; exact small_sol hn ds
theorem argK_lit {w : World} {b : Nat} {ds : List Kn} (hbl : b < w.heap.size) (hI : Kns w b 0 ds) : ArgK w (some ⟨b, 0, none⟩) ds.length ds := ⟨rfl, .inr ⟨b, 0, rfl, hbl, hI⟩⟩
def RetRows (rss : List (List Int)) (w : World) (e : Ending) (w' : World) : Prop := RetSets rss w e w'

set_option maxHeartbeats 2000000 in
theorem imSol_no (p : Int) (b c : Nat) (ds : List Kn) (w : World) (hn : ds.length ≤ 1048576) (hbl : b < w.heap.size) (hI : Kns w b 0 ds) (h : pzB p ds = false) : Calls Try.prog 21 #[.agg #[.int .i64 p, .slice (some ⟨b, 0, none⟩) ds.length c]] w (RetSSB [] false w) := by
  have HW := Lib.hid ((Below.refl w.heap.size w).alloc (Nat.le_refl _) (.cells #[.int .i64 p, .slice (some ⟨b, 0, none⟩) ds.length c] 29))
  have HG := Lib.hid (fun (W : World) (hb : Below w.heap.size w W) => isPuzzle_any p b 0 ds.length c ds W rfl hn (Nat.lt_of_lt_of_le hbl hb.size) (hI.kept hb hbl))
  rw [h] at HG
  clear hI h
  go_enter Try.func21, Try.ntmps21
  go_wp2_with fail
  refine (HG.out _ HW.out).mono ?_
  rintro e w1 ⟨rfl, hb1⟩
  have hb1' := HW.out.trans (hb1.mono HW.out.size)
  go_wp2_with fail
  go_ret2
  exact ⟨_, [], rfl, ownSS_nil _ _ _, hb1'⟩

set_option maxHeartbeats 2000000 in
theorem imSol_yes (n : Nat) (b c : Nat) (ds : List Kn) (w : World) (hbl : b < w.heap.size) (hI : Kns w b 0 ds) (h : pzB (n : Int) ds = true) : Calls Try.prog 21 #[.agg #[.int .i64 (n : Int), .slice (some ⟨b, 0, none⟩) ds.length c]] w (RetSSB (solL n ds) true w) := by
  obtain ⟨n', hn', h23, h6, hcs⟩ := pz_of h
  have hnn : n' = n := by omega
  subst hnn
  have HW := Lib.hid ((Below.refl w.heap.size w).alloc (Nat.le_refl _) (.cells #[.int .i64 (n' : Int), .slice (some ⟨b, 0, none⟩) ds.length c] 29))
  have HG := Lib.hid (fun (W : World) (hb : Below w.heap.size w W) => isPuzzle_any (n' : Int) b 0 ds.length c ds W rfl (by omega) (Nat.lt_of_lt_of_le hbl hb.size) (hI.kept hb hbl))
  have HA := Lib.hid (fun (W : World) (hb : Below w.heap.size w W) => solutions_any n' (some ⟨b, 0, none⟩) ds.length c ds W h23 (by omega) hcs ((argK_lit hbl hI).kept hb))
  rw [h] at HG
  clear hI h hcs h23 hn'
  go_enter Try.func21, Try.ntmps21
  go_wp2_with fail
  refine (HG.out _ HW.out).mono ?_
  rintro e w1 ⟨rfl, hb1⟩
  have hb1' := HW.out.trans (hb1.mono HW.out.size)
  have q0 : w1.cell? ⟨w.heap.size, 0, none⟩ = some (.int .i64 (n' : Int)) := below_cell2 hb1 (by simp [go_sem])
  have q1 : w1.cell? ⟨w.heap.size, 1, none⟩ = some (.slice (some ⟨b, 0, none⟩) ds.length c) := below_cell2 hb1 (by simp [go_sem])
  go_wp2_with fail
  refine (HA.out _ hb1').mono ?_
  rintro e w2 ⟨v, vs, rfl, hO, hb2⟩
  have hb2' := hb1'.trans (hb2.mono hb1'.size)
  go_wp2_with fail
  go_ret2
  exact ⟨v, vs, rfl, hO.monoB hb1'.size, hb2'⟩

theorem imSol_any (p : Int) (b c : Nat) (ds : List Kn) (w : World) (hn : ds.length ≤ 1048576) (hbl : b < w.heap.size) (hI : Kns w b 0 ds) : Calls Try.prog 21 #[.agg #[.int .i64 p, .slice (some ⟨b, 0, none⟩) ds.length c]] w (RetSSB (solOf p ds) (pzB p ds) w) := by
  cases h : pzB p ds with
  | false => rw [solOf_no h]; exact imSol_no p b c ds w hn hbl hI h
  | true =>
    obtain ⟨n, rfl, _⟩ := pz_of h
    rw [solOf_yes h]
    exact imSol_yes n b c ds w hbl hI h

set_option maxHeartbeats 2000000 in
theorem spSol_no (p : Int) (b c : Nat) (ds : List Kn) (w : World) (hn : ds.length ≤ 1048576) (hbl : b < w.heap.size) (hI : Kns w b 0 ds) (h : pzB p ds = false) : Calls Try.prog 20 #[.agg #[.int .i64 p, .slice (some ⟨b, 0, none⟩) ds.length c]] w (RetSSB [] false w) := by
  have HW := Lib.hid ((Below.refl w.heap.size w).alloc (Nat.le_refl _) (.cells #[.int .i64 p, .slice (some ⟨b, 0, none⟩) ds.length c] 29))
  have HG := Lib.hid (fun (W : World) (hb : Below w.heap.size w W) => pzGood_any p b 0 ds.length c ds W rfl hn (Nat.lt_of_lt_of_le hbl hb.size) (hI.kept hb hbl))
  rw [h] at HG
  clear hI h
  go_enter Try.func20, Try.ntmps20
  go_wp2_with fail
  refine (HG.out _ HW.out).mono ?_
  rintro e w1 ⟨rfl, hb1⟩
  have hb1' := HW.out.trans (hb1.mono HW.out.size)
  go_wp2_with fail
  go_ret2
  exact ⟨_, [], rfl, ownSS_nil _ _ _, hb1'⟩

set_option maxHeartbeats 2000000 in
theorem spSol_yes (n : Nat) (b c : Nat) (ds : List Kn) (w : World) (hbl : b < w.heap.size) (hI : Kns w b 0 ds) (h : pzB (n : Int) ds = true) : Calls Try.prog 20 #[.agg #[.int .i64 (n : Int), .slice (some ⟨b, 0, none⟩) ds.length c]] w (RetSSB (solL n ds) true w) := by
  obtain ⟨n', hn', h23, h6, hcs⟩ := pz_of h
  have hnn : n' = n := by omega
  subst hnn
  have HW := Lib.hid ((Below.refl w.heap.size w).alloc (Nat.le_refl _) (.cells #[.int .i64 (n' : Int), .slice (some ⟨b, 0, none⟩) ds.length c] 29))
  have HG := Lib.hid (fun (W : World) (hb : Below w.heap.size w W) => pzGood_any (n' : Int) b 0 ds.length c ds W rfl (by omega) (Nat.lt_of_lt_of_le hbl hb.size) (hI.kept hb hbl))
  have HA := Lib.hid (fun (W : World) (hb : Below w.heap.size w W) => pzAll_any n' (some ⟨b, 0, none⟩) ds.length c ds W h23 (by omega) hcs ((argK_lit hbl hI).kept hb))
  rw [h] at HG
  clear hI h hcs h23 hn'
  go_enter Try.func20, Try.ntmps20
  go_wp2_with fail
  refine (HG.out _ HW.out).mono ?_
  rintro e w1 ⟨rfl, hb1⟩
  have hb1' := HW.out.trans (hb1.mono HW.out.size)
  have q0 : w1.cell? ⟨w.heap.size, 0, none⟩ = some (.int .i64 (n' : Int)) := below_cell2 hb1 (by simp [go_sem])
  have q1 : w1.cell? ⟨w.heap.size, 1, none⟩ = some (.slice (some ⟨b, 0, none⟩) ds.length c) := below_cell2 hb1 (by simp [go_sem])
  go_wp2_with fail
  refine (HA.out _ hb1').mono ?_
  rintro e w2 ⟨v, vs, rfl, hO, hb2⟩
  have hb2' := hb1'.trans (hb2.mono hb1'.size)
  go_wp2_with fail
  go_ret2
  exact ⟨v, vs, rfl, hO.monoB hb1'.size, hb2'⟩

theorem spSol_any (p : Int) (b c : Nat) (ds : List Kn) (w : World) (hn : ds.length ≤ 1048576) (hbl : b < w.heap.size) (hI : Kns w b 0 ds) : Calls Try.prog 20 #[.agg #[.int .i64 p, .slice (some ⟨b, 0, none⟩) ds.length c]] w (RetSSB (solOf p ds) (pzB p ds) w) := by
  cases h : pzB p ds with
  | false => rw [solOf_no h]; exact spSol_no p b c ds w hn hbl hI h
  | true =>
    obtain ⟨n, rfl, _⟩ := pz_of h
    rw [solOf_yes h]
    exact spSol_yes n b c ds w hbl hI h

theorem solutions_both (p : Int) (ds : List Kn) : ∃ rss ok, Small rss ∧
    (∀ b c w, ds.length ≤ 1048576 → ds.length ≤ c → b < w.heap.size → Kns w b 0 ds → Calls Try.prog 20 #[.agg #[.int .i64 p, .slice (some ⟨b, 0, none⟩) ds.length c]] w (RetSSB rss ok w)) ∧
    (∀ b c w, ds.length ≤ 1048576 → ds.length ≤ c → b < w.heap.size → Kns w b 0 ds → Calls Try.prog 21 #[.agg #[.int .i64 p, .slice (some ⟨b, 0, none⟩) ds.length c]] w (RetSSB rss ok w)) :=
  ⟨solOf p ds, pzB p ds, small_solOf p ds, fun b c w hn _ hb hI => spSol_any p b c ds w hn hb hI, fun b c w hn _ hb hI => imSol_any p b c ds w hn hb hI⟩

set_option maxHeartbeats 2000000 in
theorem spCnt_no (p : Int) (b c : Nat) (ds : List Kn) (w : World) (hn : ds.length ≤ 1048576) (hbl : b < w.heap.size) (hI : Kns w b 0 ds) (h : pzB p ds = false) : Calls Try.prog 26 #[.agg #[.int .i64 p, .slice (some ⟨b, 0, none⟩) ds.length c]] w (RetIB 0 false w) := by
  have HW := Lib.hid ((Below.refl w.heap.size w).alloc (Nat.le_refl _) (.cells #[.int .i64 p, .slice (some ⟨b, 0, none⟩) ds.length c] 29))
  have HG := Lib.hid (fun (W : World) (hb : Below w.heap.size w W) => pzGood_any p b 0 ds.length c ds W rfl hn (Nat.lt_of_lt_of_le hbl hb.size) (hI.kept hb hbl))
  rw [h] at HG
  clear hI h
  go_enter Try.func26, Try.ntmps26
  go_wp2_with fail
  refine (HG.out _ HW.out).mono ?_
  rintro e w1 ⟨rfl, hb1⟩
  have hb1' := HW.out.trans (hb1.mono HW.out.size)
  go_wp2_with fail
  go_ret2
  exact ⟨rfl, hb1'⟩

set_option maxHeartbeats 2000000 in
theorem spCnt_yes (n : Nat) (b c : Nat) (ds : List Kn) (w : World) (hbl : b < w.heap.size) (hI : Kns w b 0 ds) (h : pzB (n : Int) ds = true) : Calls Try.prog 26 #[.agg #[.int .i64 (n : Int), .slice (some ⟨b, 0, none⟩) ds.length c]] w (RetIB ((solL n ds).length : Nat) true w) := by
  obtain ⟨n', hn', h23, h6, hcs⟩ := pz_of h
  have hnn : n' = n := by omega
  subst hnn
  have HW := Lib.hid ((Below.refl w.heap.size w).alloc (Nat.le_refl _) (.cells #[.int .i64 (n' : Int), .slice (some ⟨b, 0, none⟩) ds.length c] 29))
  have HG := Lib.hid (fun (W : World) (hb : Below w.heap.size w W) => pzGood_any (n' : Int) b 0 ds.length c ds W rfl (by omega) (Nat.lt_of_lt_of_le hbl hb.size) (hI.kept hb hbl))
  have HA := Lib.hid (fun (W : World) (hb : Below w.heap.size w W) => pzAll_any n' (some ⟨b, 0, none⟩) ds.length c ds W h23 (by omega) hcs ((argK_lit hbl hI).kept hb))
  rw [h] at HG
  generalize solL n' ds = rss at HA ⊢
  clear hI h hcs h23 hn'
  go_enter Try.func26, Try.ntmps26
  go_wp2_with fail
  refine (HG.out _ HW.out).mono ?_
  rintro e w1 ⟨rfl, hb1⟩
  have hb1' := HW.out.trans (hb1.mono HW.out.size)
  have q0 : w1.cell? ⟨w.heap.size, 0, none⟩ = some (.int .i64 (n' : Int)) := below_cell2 hb1 (by simp [go_sem])
  have q1 : w1.cell? ⟨w.heap.size, 1, none⟩ = some (.slice (some ⟨b, 0, none⟩) ds.length c) := below_cell2 hb1 (by simp [go_sem])
  go_wp2_with fail
  refine (HA.out _ hb1').mono ?_
  rintro e w2 ⟨v, vs, rfl, hO, hb2⟩
  have hb2' := hb1'.trans (hb2.mono hb1'.size)
  rcases hO.cases with ⟨rfl, h0⟩ | ⟨go, cgo, rfl, _⟩
  · subst h0
    go_wp2_with fail
    go_ret2
    exact ⟨rfl, hb2'⟩
  · go_wp2_with fail
    go_ret2
    exact ⟨rfl, hb2'⟩

theorem spCnt_any (p : Int) (b c : Nat) (ds : List Kn) (w : World) (hn : ds.length ≤ 1048576) (hbl : b < w.heap.size) (hI : Kns w b 0 ds) : Calls Try.prog 26 #[.agg #[.int .i64 p, .slice (some ⟨b, 0, none⟩) ds.length c]] w (RetIB ((solOf p ds).length : Nat) (pzB p ds) w) := by
  cases h : pzB p ds with
  | false => rw [solOf_no h]; exact spCnt_no p b c ds w hn hbl hI h
  | true =>
    obtain ⟨n, rfl, _⟩ := pz_of h
    rw [solOf_yes h]
    exact spCnt_yes n b c ds w hbl hI h

set_option maxHeartbeats 2000000 in
theorem imCnt_any (p : Int) (b c : Nat) (ds : List Kn) (w : World) (hn : ds.length ≤ 1048576) (hbl : b < w.heap.size) (hI : Kns w b 0 ds) : Calls Try.prog 27 #[.agg #[.int .i64 p, .slice (some ⟨b, 0, none⟩) ds.length c]] w (RetIB ((solOf p ds).length : Nat) (pzB p ds) w) := by
  have HW := Lib.hid ((Below.refl w.heap.size w).alloc (Nat.le_refl _) (.cells #[.int .i64 p, .slice (some ⟨b, 0, none⟩) ds.length c] 29))
  have HC := Lib.hid (fun (W : World) (hb : Below w.heap.size w W) => imSol_any p b c ds W hn (Nat.lt_of_lt_of_le hbl hb.size) (hI.kept hb hbl))
  clear hI
  generalize solOf p ds = rss at HC ⊢
  generalize pzB p ds = ok at HC ⊢
  go_enter Try.func27, Try.ntmps27
  go_wp2_with fail
  refine (HC.out _ HW.out).mono ?_
  rintro e w1 ⟨v, vs, rfl, hO, hb1⟩
  have hb1' := HW.out.trans (hb1.mono HW.out.size)
  rcases hO.cases with ⟨rfl, h0⟩ | ⟨go, cgo, rfl, _⟩
  · subst h0
    go_wp2_with fail
    go_ret2
    exact ⟨rfl, hb1'⟩
  · go_wp2_with fail
    go_ret2
    exact ⟨rfl, hb1'⟩

theorem countSolutions_both (p : Int) (ds : List Kn) : ∃ r ok,
    (∀ b c w, ds.length ≤ 1048576 → ds.length ≤ c → b < w.heap.size → Kns w b 0 ds → Calls Try.prog 26 #[.agg #[.int .i64 p, .slice (some ⟨b, 0, none⟩) ds.length c]] w (RetIB r ok w)) ∧
    (∀ b c w, ds.length ≤ 1048576 → ds.length ≤ c → b < w.heap.size → Kns w b 0 ds → Calls Try.prog 27 #[.agg #[.int .i64 p, .slice (some ⟨b, 0, none⟩) ds.length c]] w (RetIB r ok w)) :=
  ⟨_, _, fun b c w hn _ hb hI => spCnt_any p b c ds w hn hb hI, fun b c w hn _ hb hI => imCnt_any p b c ds w hn hb hI⟩

def RetB2 (r ok : Bool) (w : World) (e : Ending) (w' : World) : Prop := e = .returned (.tuple #[.bool r, .bool ok]) ∧ Below w.heap.size w w'
/-- There is just one. -/
def oneB (n : Nat) : Bool := (n : Int) == 1
set_option maxHeartbeats 2000000 in
theorem imOne_any (p : Int) (b c : Nat) (ds : List Kn) (w : World) (hn : ds.length ≤ 1048576) (hbl : b < w.heap.size) (hI : Kns w b 0 ds) : Calls Try.prog 36 #[.agg #[.int .i64 p, .slice (some ⟨b, 0, none⟩) ds.length c]] w (RetB2 (oneB (solOf p ds).length) (pzB p ds) w) := by
  have HW := Lib.hid ((Below.refl w.heap.size w).alloc (Nat.le_refl _) (.cells #[.int .i64 p, .slice (some ⟨b, 0, none⟩) ds.length c] 29))
  have HC := Lib.hid (fun (W : World) (hb : Below w.heap.size w W) => imCnt_any p b c ds W hn (Nat.lt_of_lt_of_le hbl hb.size) (hI.kept hb hbl))
  clear hI
  unfold oneB
  generalize (solOf p ds).length = m at HC ⊢
  generalize pzB p ds = ok at HC ⊢
  generalize ((m : Nat) : Int) = M at HC ⊢
  go_enter Try.func36, Try.ntmps36
  go_wp2_with fail
  refine (HC.out _ HW.out).mono ?_
  rintro e w1 ⟨rfl, hb1⟩
  have hb1' := HW.out.trans (hb1.mono HW.out.size)
  go_wp2_with fail
  go_ret2
  exact ⟨rfl, hb1'⟩

set_option maxHeartbeats 2000000 in
theorem pzSolved_any (n : Nat) (a : Option Addr) (nc c : Nat) (cs : List Kn) (w : World) (h : n = 2 ∨ n = 3) (hn6 : nc ≤ 1048576) (hcs : ∀ j, j < nc → icB n (at3 cs j) = true) (hK : ArgK w a nc cs) :
    Calls Try.prog 62 #[.int .i64 n, .slice a nc c] w (Ret (.bool (oneB (solL n cs).length)) w) := by
  have HC := Lib.hid (pzAll_any n a nc c cs w h hn6 hcs hK)
  clear hK hcs
  generalize solL n cs = rss at HC ⊢
  unfold oneB
  go_enter Try.func62, Try.ntmps62
  go_wp2_with fail
  refine HC.out.mono ?_
  rintro e w1 ⟨v, vs, rfl, hO, hb1⟩
  rcases hO.cases with ⟨rfl, rfl⟩ | ⟨go, cgo, rfl, _⟩
  · go_wp2_with fail
    go_ret
    exact ⟨rfl, hb1⟩
  · go_wp2_with fail
    go_ret
    exact ⟨rfl, hb1⟩

set_option maxHeartbeats 2000000 in
theorem spOne_no (p : Int) (b c : Nat) (ds : List Kn) (w : World) (hn : ds.length ≤ 1048576) (hbl : b < w.heap.size) (hI : Kns w b 0 ds) (h : pzB p ds = false) : Calls Try.prog 35 #[.agg #[.int .i64 p, .slice (some ⟨b, 0, none⟩) ds.length c]] w (RetB2 false false w) := by
  have HW := Lib.hid ((Below.refl w.heap.size w).alloc (Nat.le_refl _) (.cells #[.int .i64 p, .slice (some ⟨b, 0, none⟩) ds.length c] 29))
  have HG := Lib.hid (fun (W : World) (hb : Below w.heap.size w W) => pzGood_any p b 0 ds.length c ds W rfl hn (Nat.lt_of_lt_of_le hbl hb.size) (hI.kept hb hbl))
  rw [h] at HG
  clear hI h
  go_enter Try.func35, Try.ntmps35
  go_wp2_with fail
  refine (HG.out _ HW.out).mono ?_
  rintro e w1 ⟨rfl, hb1⟩
  have hb1' := HW.out.trans (hb1.mono HW.out.size)
  go_wp2_with fail
  go_ret2
  exact ⟨rfl, hb1'⟩

set_option maxHeartbeats 2000000 in
theorem spOne_yes (n : Nat) (b c : Nat) (ds : List Kn) (w : World) (hbl : b < w.heap.size) (hI : Kns w b 0 ds) (h : pzB (n : Int) ds = true) : Calls Try.prog 35 #[.agg #[.int .i64 (n : Int), .slice (some ⟨b, 0, none⟩) ds.length c]] w (RetB2 (oneB (solL n ds).length) true w) := by
  obtain ⟨n', hn', h23, h6, hcs⟩ := pz_of h
  have hnn : n' = n := by omega
  subst hnn
  have HW := Lib.hid ((Below.refl w.heap.size w).alloc (Nat.le_refl _) (.cells #[.int .i64 (n' : Int), .slice (some ⟨b, 0, none⟩) ds.length c] 29))
  have HG := Lib.hid (fun (W : World) (hb : Below w.heap.size w W) => pzGood_any (n' : Int) b 0 ds.length c ds W rfl (by omega) (Nat.lt_of_lt_of_le hbl hb.size) (hI.kept hb hbl))
  have HA := Lib.hid (fun (W : World) (hb : Below w.heap.size w W) => pzSolved_any n' (some ⟨b, 0, none⟩) ds.length c ds W h23 (by omega) hcs ((argK_lit hbl hI).kept hb))
  rw [h] at HG
  clear hI h hcs h23 hn'
  generalize oneB (solL n' ds).length = r at HA ⊢
  go_enter Try.func35, Try.ntmps35
  go_wp2_with fail
  refine (HG.out _ HW.out).mono ?_
  rintro e w1 ⟨rfl, hb1⟩
  have hb1' := HW.out.trans (hb1.mono HW.out.size)
  have q0 : w1.cell? ⟨w.heap.size, 0, none⟩ = some (.int .i64 (n' : Int)) := below_cell2 hb1 (by simp [go_sem])
  have q1 : w1.cell? ⟨w.heap.size, 1, none⟩ = some (.slice (some ⟨b, 0, none⟩) ds.length c) := below_cell2 hb1 (by simp [go_sem])
  go_wp2_with fail
  refine (HA.out _ hb1').mono ?_
  rintro e w2 ⟨rfl, hb2⟩
  have hb2' := hb1'.trans (hb2.mono hb1'.size)
  go_wp2_with fail
  go_ret2
  exact ⟨rfl, hb2'⟩

theorem spOne_any (p : Int) (b c : Nat) (ds : List Kn) (w : World) (hn : ds.length ≤ 1048576) (hbl : b < w.heap.size) (hI : Kns w b 0 ds) : Calls Try.prog 35 #[.agg #[.int .i64 p, .slice (some ⟨b, 0, none⟩) ds.length c]] w (RetB2 (oneB (solOf p ds).length) (pzB p ds) w) := by
  cases h : pzB p ds with
  | false => rw [solOf_no h]; exact spOne_no p b c ds w hn hbl hI h
  | true =>
    obtain ⟨n, rfl, _⟩ := pz_of h
    rw [solOf_yes h]
    exact spOne_yes n b c ds w hbl hI h

theorem isSolved_both (p : Int) (ds : List Kn) : ∃ r ok,
    (∀ b c w, ds.length ≤ 1048576 → ds.length ≤ c → b < w.heap.size → Kns w b 0 ds → Calls Try.prog 35 #[.agg #[.int .i64 p, .slice (some ⟨b, 0, none⟩) ds.length c]] w (RetB2 r ok w)) ∧
    (∀ b c w, ds.length ≤ 1048576 → ds.length ≤ c → b < w.heap.size → Kns w b 0 ds → Calls Try.prog 36 #[.agg #[.int .i64 p, .slice (some ⟨b, 0, none⟩) ds.length c]] w (RetB2 r ok w)) :=
  ⟨_, _, fun b c w hn _ hb hI => spOne_any p b c ds w hn hb hI, fun b c w hn _ hb hI => imOne_any p b c ds w hn hb hI⟩

end Go.Proofs.Ytkkjbkagkmngkaa
