/- OpenSums: both texts. -/
import Derived.Test.YtmdhdbkeiennmaaBo2
import Derived.Test.YtmdhdbkeiennmaaAmO
import Derived.Deep.RegionHeld3
set_option linter.unusedVariables false
set_option linter.unusedSimpArgs false
namespace Go.Proofs.Ytmdhdbkeiennmaa
open Go.RowKit

def openB (rss : List (List Int)) (s : Int) : Bool := decide (2 ≤ (rss.filter (sumIs s)).length)
set_option maxHeartbeats 1600000 in
theorem isOpen_any (s : Int) (B U : Nat) (v : Value) (vs : List Value) (rss : List (List Int)) (w : World) (hO : OwnSS B U w v vs rss) (hB : B ≤ U) (hU : U ≤ w.heap.size) (hF : FamA rss) :
    Calls Try.prog 55 #[v, .int .i64 s] w (Ret (.bool (openB rss s)) w) := by
  have HW := Lib.hid ((withSum_any s B U v vs rss w hO hB hU hF).mono (fun e W' h => (show ∃ a c, e = .returned (.slice a (rss.filter (sumIs s)).length c) ∧ Below w.heap.size w W' from by
    obtain ⟨v, vs, rfl, ho, hb⟩ := h
    obtain ⟨a, c, rfl⟩ := ownSS_lit ho
    exact ⟨a, c, rfl, hb⟩)))
  unfold openB
  clear hO hF
  generalize (rss.filter (sumIs s)).length = L at HW ⊢
  have HD := Lib.hid (show decide (2 ≤ L) = decide ((2 : Int) ≤ ((L : Nat) : Int)) by
    rw [Bool.eq_iff_iff, decide_eq_true_eq, decide_eq_true_eq]; omega)
  go_enter Try.func55, Try.ntmps55
  go_wp2_with (go_at_call 52; refine HW.out.mono ?_; rintro e w2 ⟨a, c, rfl, hb⟩)
  go_ret
  exact ⟨by first | rfl | (rw [HD.out]; rfl) | (rw [HD.out]; simp), hb⟩
set_option maxHeartbeats 4000000 in
theorem openTest_any (q0 g c : Nat) (r : List Int) (B U : Nat) (v : Value) (vs : List Value) (rss : List (List Int)) (w : World) (hO : OwnSS B U w v vs rss) (hB : B ≤ U) (hU : U ≤ w.heap.size) (hF : FamA rss) (hk : Kids r) (hg : g < w.heap.size) (hI : Ints w g 0 r) (hq : w.cell? ⟨q0, 0, none⟩ = some v) :
    Calls Try.prog 54 #[.slice (some ⟨g, 0, none⟩) r.length c, .pointer (some ⟨q0, 0, none⟩)] w (Ret (.bool (openB rss (sumL r))) w) := by
  have HSm := Lib.hid (fun (W : World) (hb : Below w.heap.size w W) => sumOfSet_any g 0 r.length c r W rfl hk (hI.kept hb hg))
  generalize sumL r = s at HSm ⊢
  have HOp := Lib.hid (fun (W : World) (hb : Below w.heap.size w W) => isOpen_any s B U v vs rss W (hO.kept hU hb) hB (Nat.le_trans hU hb.size) hF)
  have hbd : Below w.heap.size w w.drew := (Below.refl _ _).drew
  have hqb := World.block_lt_of_cell? w _ hq
  have HQ := Lib.hid (fun (W : World) (hb : Below w.heap.size w W) => below_cells2 hb hq)
  clear hO hF hI
  generalize openB rss s = r2 at HOp ⊢
  go_enter Try.func54, Try.ntmps54
  go_wp2_with fail
  go_region_held3 (fun w' => Below w.heap.size w w' ∧ w'.cell? ⟨q0, 0, none⟩ = some v)
    (first
      | go_keep
      | (go_split_ands
         refine ⟨?_, ?_⟩
         · first | assumption | exact Below.trans (by assumption) (Below.mono hcall (Below.size (by assumption)))
         · first | assumption | exact below_cells2 hcall (by assumption)))
    (first | (go_at_call 48; refine (HSm.out _ ?_).mono ?_; (go_split_ands; assumption); rintro e w' ⟨rfl, rfl⟩) | (go_at_call 55; refine (HOp.out _ ?_).mono ?_; (go_split_ands; assumption); rintro e w' ⟨rfl, hcall⟩))
  obtain ⟨hb2, _⟩ := ‹Below w.heap.size w _ ∧ _›
  go_wp2
  go_ret
  exact ⟨rfl, hb2⟩
theorem filter_cnt (rss : List (List Int)) (s : Int) : (((rss.filter (sumIs s)).length : Nat) : Int) = cntL s (rss.map sumL) := by
  induction rss with
  | nil => simp [cntL]
  | cons r rss ih =>
    rw [List.map_cons, List.filter_cons]
    by_cases h : sumL r = s
    · have e : sumIs s r = true := beq_iff_eq.2 h
      rw [if_pos e, List.length_cons]
      have : eqI (sumL r) s = 1 := if_pos h
      simp only [cntL, this]
      omega
    · have e : sumIs s r = false := beq_eq_false_iff_ne.2 h
      rw [if_neg (by rw [e]; simp)]
      have : eqI (sumL r) s = 0 := if_neg h
      simp only [cntL, this]
      omega
theorem with_two {rss : List (List Int)} (hF : FamS rss) : withTo (rss.map sumL) 2 81 = cps ((rss.filter fun r => openB rss (sumL r)).map sumL) := by
  refine incr_eq (withTo_sorted _ _ _) (cps_sorted _) fun x => ?_
  rw [withTo_mem, cps_mem]
  constructor
  · rintro ⟨s, _, h, rfl⟩
    have hm : (s : Int) ∈ rss.map sumL := (cntL_pos _ _).1 (by omega)
    obtain ⟨r, hr, hrs⟩ := List.mem_map.1 hm
    refine List.mem_map.2 ⟨r, List.mem_filter.2 ⟨hr, ?_⟩, hrs⟩
    rw [hrs]
    have := filter_cnt rss (s : Int)
    exact decide_eq_true (by omega)
  · intro h
    obtain ⟨r, hr, rfl⟩ := List.mem_map.1 h
    obtain ⟨hr1, hr2⟩ := List.mem_filter.1 hr
    have hb := sums_within hF (sumL r) (List.mem_map.2 ⟨r, hr1, rfl⟩)
    have hc := filter_cnt rss (sumL r)
    have h2 : 2 ≤ (rss.filter (sumIs (sumL r))).length := of_decide_eq_true hr2
    refine ⟨(sumL r).toNat, by omega, ?_, by omega⟩
    rw [show (((sumL r).toNat : Nat) : Int) = sumL r by omega]
    omega
set_option maxHeartbeats 1600000 in
theorem spOpen_no (N P : Int) (w : World) (h : prodOk N P = false) :
    Calls Try.prog 29 #[.int .i64 N, .int .i64 P] w (RetOwnB [] false w) := by
  have HS := Lib.hid (fun W => siChildren_any N P W)
  rw [h] at HS
  go_enter Try.func29, Try.ntmps29
  go_wp2_with (first | (go_at_call 39; refine (HS.out _).mono ?_; rintro e w' ⟨rfl, rfl⟩))
  go_ret2
  exact ⟨_, rfl, own_nil _ _, Below.refl _ _⟩
set_option maxHeartbeats 1600000 in
theorem spOpen_yes (n : Nat) (P : Int) (w : World) (h : prodOk n P = true) :
    Calls Try.prog 29 #[.int .i64 n, .int .i64 P] w (RetOwnB (cps (((setsP n P).filter fun r => openB (setsP n P) (sumL r)).map sumL)) true w) := by
  have HS := Lib.hid (fun W => siChildren_any n P W)
  rw [h] at HS
  obtain ⟨n', hn', h4, h1, hP⟩ := nat_of h
  have hF := fam_setsP (n := n) P (by omega) (by omega)
  have HR := Lib.hid (fun (W : World) => siSets_any n P W (by omega) (by omega) hP)
  have HW := Lib.hid (fun (W : World) (B U : Nat) (v : Value) (vs : List Value) (ho : OwnSS B U W v vs (setsP n P)) (hU : U ≤ W.heap.size) => siWith_any B U v vs (setsP n P) 2 W ho hU hF)
  rw [with_two hF] at HW
  clear h hn' h4 h1 hP hF
  generalize cps (((setsP n P).filter fun r => openB (setsP n P) (sumL r)).map sumL) = ys at HW ⊢
  generalize setsP n P = rss at HR HW
  go_enter Try.func29, Try.ntmps29
  go_wp2_with (first | (go_at_call 39; refine (HS.out _).mono ?_; rintro e w' ⟨rfl, rfl⟩) | (go_at_call 40; refine (HR.out _).mono ?_; rintro e w1 ⟨v, vs, rfl, hss, hb⟩) | (go_at_call 46; refine (HW.out _ _ _ _ _ hss (Nat.le_refl _)).mono ?_; rintro e w2 ⟨u, rfl, ho, hb2⟩))
  go_ret2
  exact ⟨u, rfl, ho.mono hb.size, hb.trans (hb2.mono hb.size)⟩
set_option maxHeartbeats 4000000 in
theorem imOpen_of (N P : Int) (rss : List (List Int)) (ok : Bool) (hF : FamA rss) (w : World) (h : ∀ w, Calls Try.prog 14 #[.int .i64 N, .int .i64 P] w (RetSSB rss ok w)) :
    Calls Try.prog 30 #[.int .i64 N, .int .i64 P] w (RetOwnB (cps ((rss.filter fun r => openB rss (sumL r)).map sumL)) ok w) := by
  have H := Lib.hid h
  have HA := Lib.hid (fun (W W2 : World) (B U q0 : Nat) (v : Value) (vs : List Value) (ho : OwnSS B U W v vs rss) (hB : B ≤ U) (hU : U ≤ W.heap.size) (hb : Below W.heap.size W W2) (hq : W2.cell? ⟨q0, 0, none⟩ = some v) => amongO_any q0 (fun r => openB rss (sumL r)) B U v vs rss W2 (ho.kept hU hb) hB (Nat.le_trans hU hb.size) hF (fun W3 hb3 g c r hk _ hg hI => openTest_any q0 g c r B U v vs rss W3 ((ho.kept hU hb).kept (Nat.le_trans hU hb.size) hb3) hB (Nat.le_trans (Nat.le_trans hU hb.size) hb3.size) hF hk hg hI (below_cells2 hb3 hq)))
  have HW := Lib.hid (fun (W : World) (B U : Nat) (v : Value) (vs : List Value) (ho : OwnSS B U W v vs (rss.filter fun r => openB rss (sumL r))) (hU : U ≤ W.heap.size) => numbersS_any B U v vs _ W ho hU (famA_filter hF _))
  clear h hF
  generalize cps ((rss.filter fun r => openB rss (sumL r)).map sumL) = ys at HW ⊢
  generalize (rss.filter fun r => openB rss (sumL r)) = rf at HA HW
  have H2 := Lib.hid (fun W => ((H.out W).mono (fun e W' h => (show ∃ a L c vs, e = .returned (.tuple #[.slice a L c, .bool ok]) ∧ OwnSS W.heap.size W'.heap.size W' (.slice a L c) vs rss ∧ Below W.heap.size W W' from by
    obtain ⟨v, vs, rfl, ho, hb⟩ := h
    obtain ⟨a, c, rfl⟩ := ownSS_lit ho
    exact ⟨a, _, c, vs, rfl, ho, hb⟩))))
  clear H
  go_enter Try.func30, Try.ntmps30
  have HX := Lib.hid (fun (w1 : World) (x : Value) => (show Below w1.heap.size w1 (w1.alloc (.cells #[x] 22)) ∧ (w1.alloc (.cells #[x] 22)).cell? ⟨w1.heap.size, 0, none⟩ = some x from ⟨(Below.refl w1.heap.size w1).alloc (Nat.le_refl _) _, boxC (box_newC rfl)⟩))
  go_wp2_with (first | (go_at_call 14; refine (H2.out _).mono ?_; rintro e w1 ⟨a, L, c, vs, rfl, hss, hb⟩; obtain ⟨hx1, hx2⟩ := HX.out w1 (.slice a L c)) | (go_at_call 53; refine (HA.out w1 _ _ _ _ _ _ hss hb.size (Nat.le_refl _) hx1 hx2).mono ?_; rintro e w2 ⟨v2, vs2, rfl, ho2, hb2⟩) | (go_at_call 47; refine (HW.out _ _ _ _ _ ho2 (Nat.le_refl _)).mono ?_; rintro e w3 ⟨u, rfl, ho3, hb3⟩))
  go_ret2
  have hb12 := hb.trans ((hx1.trans (hb2.mono hx1.size)).mono hb.size)
  exact ⟨u, rfl, ho3.mono hb12.size, hb12.trans (hb3.mono hb12.size)⟩
theorem openSums_both (N P : Int) : ∃ rs ok, rs.length ≤ 1048576 ∧
    (∀ w, Calls Try.prog 29 #[.int .i64 N, .int .i64 P] w (RetOwnB rs ok w)) ∧
    (∀ w, Calls Try.prog 30 #[.int .i64 N, .int .i64 P] w (RetOwnB rs ok w)) := by
  cases h : prodOk N P with
  | false =>
    refine ⟨[], false, by simp, fun w => spOpen_no N P w h, fun w => ?_⟩
    have := imOpen_of N P [] false ⟨by simp, fun i hi => by simp at hi⟩ w (fun w => imSetsOf_no N P w h)
    rw [List.filter_nil, List.map_nil, cps_nilS] at this
    exact this
  | true =>
    obtain ⟨n, rfl, hn, h1, _⟩ := nat_of h
    refine ⟨_, true, cps_short _ ?_, fun w => spOpen_yes n P w h, fun w => imOpen_of n P _ true (famA_setsP P h1 hn) w (fun w => imSetsOf_yes n P w h)⟩
    rw [List.length_map]
    exact Nat.le_trans (List.length_filter_le _ _) (setsP_length P hn)
end Go.Proofs.Ytmdhdbkeiennmaa
