/- One step of the search for sets, with the question of loop.example/g01369/impl.SetsApart$1. -/
import Derived.Test.YtmdhdbkeiennmabSt0
import Derived.Test.YtmdhdbkeiennmabSrLib
import Derived.WalkMore
import Derived.ScopeJumps
import Derived.BigQuiet
import Derived.Deep.RegionHeld3
import Derived.StillTailTactics
import Derived.Deep.CutRange
set_option linter.unusedVariables false
set_option linter.unusedSimpArgs false
namespace Go.Proofs.Ytmdhdbkeiennmab
open Go.RowKit

/-- What the question answers about a begun set. -/
def HoldsS (q0 q1 q2 : Nat) (B g cp n : Nat) (p : List Int → Bool) (w : World) : Prop :=
  ∀ (W : World), Below B w W → ∀ (m : Nat) (l : List Int), l.length = m → 1 ≤ m → m ≤ n → (∀ x ∈ l, 1 ≤ x ∧ x ≤ 20) → Ints W g 0 l →
    Calls Try.prog 60 #[.slice (some ⟨g, 0, none⟩) m cp, .pointer (some ⟨q0, 0, none⟩), .pointer (some ⟨q1, 0, none⟩), .pointer (some ⟨q2, 0, none⟩)] W (Ret (.bool (p l)) W)

theorem scope_jumpsS {P : Program} {a : Act} {w : World} {Q : Exit → Act → World → Prop} {c rest : Code} (l : Nat) (J : Act → World → Prop) (μ : Act → World → Nat) (hf : findLabel c l = some (Code.seq Code.skip rest))
    (first : c.wp P (Exit.jump l J Q) a w)
    (pass : ∀ a w, J a w → rest.wp P (Exit.jump l (fun a' w' => J a' w' ∧ μ a' w' < μ a w) Q) a w) : (Code.scope c).wp P Q a w :=
  wp_scope_jumps l J μ hf first (fun a w h => wp_seq (wp_skip (pass a w h)))

set_option maxHeartbeats 8000000 in
set_option maxRecDepth 100000 in
theorem searchS_any (q0 q1 q2 : Nat) (B U g cp gs gc gh n c0 : Nat) (p : List Int → Bool) (set0 : List Int) (w0 : World) (hn : n ≤ 4) (hS0 : StS B w0 g cp gs gc gh n set0 c0 (.func (.func 60) #[] #[.pointer (some ⟨q0, 0, none⟩), .pointer (some ⟨q1, 0, none⟩), .pointer (some ⟨q2, 0, none⟩)])) (hO0 : OkS n set0 c0) (hgU : g < U) (hcU : gc < U) (hU : U ≤ w0.heap.size) (hBg : B ≤ g) (hcp : cp ≤ 1000000)
    (HH0 : HoldsS q0 q1 q2 B g cp n p w0) :
    Calls Try.prog 75 #[.pointer (some ⟨gs, 0, none⟩), .pointer (some ⟨gc, 0, none⟩), .pointer (some ⟨gh, 0, none⟩)] w0 (RetS B U p g cp gs gc gh n set0 c0 (.func (.func 60) #[] #[.pointer (some ⟨q0, 0, none⟩), .pointer (some ⟨q1, 0, none⟩), .pointer (some ⟨q2, 0, none⟩)]) w0) := by
  have HH := Lib.hid HH0
  have HS0 := Lib.hid hS0
  have HO0 := Lib.hid hO0
  clear HH0 hS0 hO0
  go_enter Try.func75, Try.ntmps75
  go_wp2
  refine (fun pass => scope_jumpsS 0 (fun a' w' => ∃ (set : List Int) (c : Nat), (∃ (u5 u6 u7 u8 u9 u10 u11 u12 u13 u14 u15 u16 u17 u18 u19 u20 u21 u22 u23 u24 u25 u26 u27 u28 u29 u30 u31 u32 u33 u34 u35 u36 u37 u38 u39 u40 u41 u42 u43 u44 : Value), a' = { tmps := #[.pointer (some ⟨gs, 0, none⟩), .pointer (some ⟨gc, 0, none⟩), .pointer (some ⟨gh, 0, none⟩), .slice none 0 0, .bool false, u5, u6, u7, u8, u9, u10, u11, u12, u13, u14, u15, u16, u17, u18, u19, u20, u21, u22, u23, u24, u25, u26, u27, u28, u29, u30, u31, u32, u33, u34, u35, u36, u37, u38, u39, u40, u41, u42, u43, u44], defers := [] }) ∧ Hid (StS B w' g cp gs gc gh n set c (.func (.func 60) #[] #[.pointer (some ⟨q0, 0, none⟩), .pointer (some ⟨q1, 0, none⟩), .pointer (some ⟨q2, 0, none⟩)])) ∧ Hid (OkS n set c) ∧ Went B U w0 w' ∧ Hid (rest p n set c = rest p n set0 c0)) (fun _ w' => muS g gc n w') rfl ?first pass) ?pass
  case first =>
    go_wp2
    go_step3
    simp only [Exit.then]
    rename_i K hK
    refine hK _ _ ?_
    refine wp_mono (pass _ _ ⟨set0, c0, ⟨_, _, _, _, _, _, _, _, _, _, _, _, _, _, _, _, _, _, _, _, _, _, _, _, _, _, _, _, _, _, _, _, _, _, _, _, _, _, _, _, rfl⟩, HS0, HO0, Went.refl _ _ _, Lib.hid (Eq.refl (rest p n set0 c0))⟩) ?_
    intro e a w h
    cases e <;> first | exact h | exact ⟨h.1, h.2.1⟩
  case pass =>
    rintro a' wr ⟨set, c, ⟨u5, u6, u7, u8, u9, u10, u11, u12, u13, u14, u15, u16, u17, u18, u19, u20, u21, u22, u23, u24, u25, u26, u27, u28, u29, u30, u31, u32, u33, u34, u35, u36, u37, u38, u39, u40, u41, u42, u43, u44, rfl⟩, HS, HO, hwent, HR⟩
    have hS := HS.out
    have hO := HO.out
    have hmu := muS_eq hS
    have hlt := hO.lt
    have hlen := hO.len
    have hat := hO.at_
    have v1 := hS.vs
    have v2 := hS.vc
    have v3 := hS.age c hlt
    have v4 := hS.frz c
    have i1 : (0 : Int) ≤ (c : Int) := by omega
    have i2 : (c : Int) < (n : Int) := by omega
    have HX : Hid (∃ x, x = set.getD c 0) := Lib.hid ⟨_, rfl⟩
    have HA := Lib.hid (hS.store c (set.getD c 0 + 1))
    obtain ⟨x, hx⟩ := HX.out
    rw [← hx] at v3 hat HA
    have HXe := Lib.hid hx
    have HMU := Lib.hid hmu
    have hsz0 := hwent.size
    have hwent1 := hwent.set hBg hgU c (.int .i64 (x + 1))
    clear hS hO hx HX hmu
    go_upto_region 2 with fail
    have y1 := HA.out.vs
    have y2 := HA.out.vc
    have y3 := HA.out.age c hlt
    rw [getD_set_eq _ _ _ (by rw [hlen]; exact hlt)] at y3
    generalize wr.setCell ⟨g, c, none⟩ (.int .i64 (x + 1)) = w1 at *
    clear v1 v2 v3 v4 hwent
    by_cases h20 : x = 20
    · subst h20
      cases c with
      | zero =>
        have hr : Hid (rest p n set0 c0 = []) := Lib.hid (by rw [← HR.out, rest_dry HO.out HXe.out.symm]; rfl)
        go_wp2
        go_ret2
        exact Or.inl ⟨hr.out, rfl, hwent1⟩
      | succ c =>
        have hr : Hid (rest p n (set.set (c + 1) (20 + 1)) c = rest p n set0 c0) := Lib.hid (by
          rw [← HR.out, rest_dry HO.out HXe.out.symm]
          exact rest_congr (by simp) c fun i hi => getD_set_ne _ _ _ _ (by omega))
        have HT := Lib.hid (HA.out.turn c)
        have hwent2 := hwent1.set HA.out.bc hcU 0 (.int .i64 c)
        have fz := HA.out.fc
        have ec : ((c + 1 : Nat) : Int) - 1 = (c : Int) := by omega
        have nz : ((((c + 1 : Nat) : Int)) == 0) = false := by rw [beq_eq_false_iff_ne]; omega
        go_wp2
        go_step3
        refine ⟨rfl, ⟨set.set (c + 1) (20 + 1), c, ⟨_, _, _, _, _, _, _, _, _, _, _, _, _, _, _, _, _, _, _, _, _, _, _, _, _, _, _, _, _, _, _, _, _, _, _, _, _, _, _, _, rfl⟩, HT, Lib.hid (HO.out.dry _), hwent2, hr⟩, ?_⟩
        rw [HMU.out, muS_eq HT.out]
        exact phi_dry _ HXe.out.symm
    · have hx20 : x + 1 ≤ 20 := by omega
      have hB1 := Lib.hid (HO.out.begun (x + 1) (by omega))
      have hlB : (set.take c ++ [x + 1]).length = c + 1 := by simp; omega
      have hIB : Ints w1 g 0 (set.take c ++ [x + 1]) := fun j hj => by
        have h1 := HA.out.ints j (by rw [HA.out.len]; rw [hlB] at hj; omega)
        rw [h1, ← take_set _ _ _ (by rw [hlen]; exact hlt)]
        rw [hlB] at hj
        simp [List.getElem?_take, hj]
      have HHc := Lib.hid (fun (W : World) (hb : Below B w0 W) (hI : Ints W g 0 (set.take c ++ [x + 1])) => HH.out W hb (c + 1) (set.take c ++ [x + 1]) hlB (by omega) (by omega) hB1.out hI)
      have HIB := Lib.hid hIB
      have hg1 : g < w1.heap.size := HA.out.row.shape.2.2.1
      have y4 := HA.out.vh
      have hB0 : B ≤ w1.heap.size := by omega
      have hbd : Below w1.heap.size w1 w1.drew := (Below.refl _ _).drew
      have hlow := hwent1.low
      have hcap := HA.out.cpn
      have s1 : (0 : Int) ≤ (c : Int) + 1 := by omega
      have s2 : (c : Int) + 1 ≤ (cp : Int) := by omega
      have s3 : ((c : Int) + 1).toNat = c + 1 := by omega
      have sw : IntKind.i64.wrap ((c : Int) + 1) = (c : Int) + 1 := IntWalk.i64_in _ (by omega)
      have s4 : c < cp := by omega
      have s5 : (c : Int) < (cp : Int) := by omega
      have s6 : c + 1 ≤ cp := by omega
      have HNo := Lib.hid (fun h => rest_no (p := p) HO.out (x + 1) (by rw [HXe.out]) hx20 h)
      have HLeaf := Lib.hid (fun h1 h2 => rest_leaf (p := p) HO.out (x + 1) (by rw [HXe.out]) hx20 h1 h2)
      have HDown := Lib.hid (fun h1 h2 => rest_down (p := p) HO.out (x + 1) (by rw [HXe.out]) hx20 h1 h2)
      clear hIB
      cases hp : p (set.take c ++ [x + 1]) with
      | false =>
        have HR1 := Lib.hid ((HNo.out hp).symm.trans HR.out)
        rw [hp] at HHc
        clear hp
        go_wp2_with fail
        go_region_held3 (fun w' => Below w1.heap.size w1 w' ∧ w'.cell? ⟨gs, 0, none⟩ = some (.slice (some ⟨g, 0, none⟩) n cp) ∧ w'.cell? ⟨gc, 0, none⟩ = some (.int .i64 c) ∧ w'.cell? ⟨gh, 0, none⟩ = some (.func (.func 60) #[] #[.pointer (some ⟨q0, 0, none⟩), .pointer (some ⟨q1, 0, none⟩), .pointer (some ⟨q2, 0, none⟩)]))
          (first
            | go_keep
            | (go_split_ands
               refine ⟨?_, ?_, ?_, ?_⟩
               · exact Below.trans (by assumption) (Below.mono hcall (Below.size (by assumption)))
               · exact below_cells2 hcall (by assumption)
               · exact below_cells2 hcall (by assumption)
               · exact below_cells2 hcall (by assumption)))
          (first | (go_at_call 60; refine (HHc.out _ ?_ ?_).mono ?_; (go_split_ands; exact Below.trans hlow (Below.mono (by assumption) hB0)); (go_split_ands; exact HIB.out.kept (by assumption) hg1); rintro e w' ⟨rfl, hcall⟩))
        obtain ⟨hb2, _⟩ := ‹Below w1.heap.size w1 _ ∧ _›
        go_wp2
        go_step3
        refine ⟨rfl, ⟨set.set c (x + 1), c, ⟨_, _, _, _, _, _, _, _, _, _, _, _, _, _, _, _, _, _, _, _, _, _, _, _, _, _, _, _, _, _, _, _, _, _, _, _, _, _, _, _, rfl⟩, Lib.hid (HA.out.kept hb2), Lib.hid (HO.out.stay _ (by rw [HXe.out]) hx20), hwent1.below hb2 hB0, HR1⟩, ?_⟩
        rw [HMU.out, muS_eq (HA.out.kept hb2)]
        exact phi_stay HO.out _ (by rw [HXe.out]) hx20
      | true =>
        rw [hp] at HHc
        by_cases hcn : c + 1 = n
        · have HR1 := Lib.hid ((HLeaf.out hp hcn).symm.trans HR.out)
          clear hp
          have d1 : (((c : Nat) : Int) == (n : Int) - 1) = true := by rw [beq_iff_eq]; omega
          have d2 : decide ((c : Int) = (n : Int) - 1) = true := decide_eq_true (by omega)
          have HCN := Lib.hid hcn
          clear hcn
          go_wp2_with fail
          go_region_held3 (fun w' => Below w1.heap.size w1 w' ∧ w'.cell? ⟨gs, 0, none⟩ = some (.slice (some ⟨g, 0, none⟩) n cp) ∧ w'.cell? ⟨gc, 0, none⟩ = some (.int .i64 c) ∧ w'.cell? ⟨gh, 0, none⟩ = some (.func (.func 60) #[] #[.pointer (some ⟨q0, 0, none⟩), .pointer (some ⟨q1, 0, none⟩), .pointer (some ⟨q2, 0, none⟩)]))
            (first
              | go_keep
              | (go_split_ands
                 refine ⟨?_, ?_, ?_, ?_⟩
                 · exact Below.trans (by assumption) (Below.mono hcall (Below.size (by assumption)))
                 · exact below_cells2 hcall (by assumption)
                 · exact below_cells2 hcall (by assumption)
                 · exact below_cells2 hcall (by assumption)))
            (first | (go_at_call 60; refine (HHc.out _ ?_ ?_).mono ?_; (go_split_ands; exact Below.trans hlow (Below.mono (by assumption) hB0)); (go_split_ands; exact HIB.out.kept (by assumption) hg1); rintro e w' ⟨rfl, hcall⟩))
          obtain ⟨hb2, z1, z2, z3⟩ := ‹Below w1.heap.size w1 _ ∧ _›
          have HK := Lib.hid (HA.out.kept hb2)
          have hwent3 := Lib.hid (hwent1.below hb2 hB0)
          go_wp2_with (go_at_call 64; refine (clone_any g n cp (set.set c (x + 1)) _ HK.out.len (by omega) (by omega) HK.out.ints).mono ?_; rintro e w' ⟨v', rfl, hown, hnn, hbc⟩)
          go_ret2
          refine Or.inr ⟨set.set c (x + 1), rest p n (set.set c (x + 1)) c, v', set.set c (x + 1), HR1.out.symm, rfl, ?_, hnn, ?_, ?_, ?_, ?_⟩
          · exact Own.mono hown (by have := hwent3.out.size; omega)
          · exact (show c = n - 1 by have := HCN.out; omega) ▸ HK.out.kept hbc
          · exact (show c = n - 1 by have := HCN.out; omega) ▸ HO.out.stay _ (by rw [HXe.out]) hx20
          · rw [show n - 1 = c by have := HCN.out; omega]
          · exact hwent3.out.below hbc (by have := hb2.size; omega)
        · have hc2 : c + 1 < n := by omega
          have HR1 := Lib.hid ((HDown.out hp hc2).symm.trans HR.out)
          clear hp
          have d1 : (((c : Nat) : Int) == (n : Int) - 1) = false := by rw [beq_eq_false_iff_ne]; omega
          have d2 : decide ((c : Int) = (n : Int) - 1) = false := decide_eq_false (by omega)
          go_wp2_with fail
          go_region_held3 (fun w' => Below w1.heap.size w1 w' ∧ w'.cell? ⟨gs, 0, none⟩ = some (.slice (some ⟨g, 0, none⟩) n cp) ∧ w'.cell? ⟨gc, 0, none⟩ = some (.int .i64 c) ∧ w'.cell? ⟨gh, 0, none⟩ = some (.func (.func 60) #[] #[.pointer (some ⟨q0, 0, none⟩), .pointer (some ⟨q1, 0, none⟩), .pointer (some ⟨q2, 0, none⟩)]))
            (first
              | go_keep
              | (go_split_ands
                 refine ⟨?_, ?_, ?_, ?_⟩
                 · exact Below.trans (by assumption) (Below.mono hcall (Below.size (by assumption)))
                 · exact below_cells2 hcall (by assumption)
                 · exact below_cells2 hcall (by assumption)
                 · exact below_cells2 hcall (by assumption)))
            (first | (go_at_call 60; refine (HHc.out _ ?_ ?_).mono ?_; (go_split_ands; exact Below.trans hlow (Below.mono (by assumption) hB0)); (go_split_ands; exact HIB.out.kept (by assumption) hg1); rintro e w' ⟨rfl, hcall⟩))
          obtain ⟨hb2, z1, z2, z3⟩ := ‹Below w1.heap.size w1 _ ∧ _›
          have HK := Lib.hid (HA.out.kept hb2)
          have hwent3 := Lib.hid (hwent1.below hb2 hB0)
          have fz := HK.out.fc
          have HT : Hid (StS B (w'.setCell ⟨gc, 0, none⟩ (.int .i64 ((c : Int) + 1))) g cp gs gc gh n (set.set c (x + 1)) (c + 1) (.func (.func 60) #[] #[.pointer (some ⟨q0, 0, none⟩), .pointer (some ⟨q1, 0, none⟩), .pointer (some ⟨q2, 0, none⟩)])) := Lib.hid (by
            have h := HK.out.turn (c + 1)
            rw [show ((c + 1 : Nat) : Int) = (c : Int) + 1 by omega] at h
            exact h)
          have hwent4 := Lib.hid (hwent3.out.set HK.out.bc hcU 0 (.int .i64 ((c : Int) + 1)))
          have t2 : (w'.setCell ⟨gc, 0, none⟩ (.int .i64 ((c : Int) + 1))).cell? ⟨gc, 0, none⟩ = some (.int .i64 ((c : Int) + 1)) := by
            have h := HT.out.vc
            rw [show ((c + 1 : Nat) : Int) = (c : Int) + 1 by omega] at h
            exact h
          have t1 := HT.out.vs
          have t3 := HT.out.age c hlt
          have t4 := HT.out.age (c + 1) hc2
          rw [getD_set_eq _ _ _ (by rw [hlen]; exact hlt)] at t3
          have f4 := HT.out.frz (c + 1)
          have HZ := Lib.hid (HT.out.store (c + 1) ((x + 1) - 1))
          have HP := Lib.hid (hwent4.out.set hBg hgU (c + 1) (.int .i64 ((x + 1) - 1)))
          clear hwent1 hwent3 hwent4 y1 y2 y3 y4 hbd hlow
          go_upto_region 10 with fail
          clear fz z1 z2 z3
          generalize (set.set c (x + 1)).getD (c + 1) 0 = old at t4
          generalize w'.setCell ⟨gc, 0, none⟩ (.int .i64 ((c : Int) + 1)) = w3 at *
          have k1 : (c : Int) + 1 < (n : Int) := by omega
          have k2 : (c : Int) + 1 - 1 = (c : Int) := by omega
          have k3 : c + 1 < n := hc2
          have k4 : IntKind.i64.wrap (c : Int) = (c : Int) := IntWalk.i64_in _ (by omega)
          have k5 : IntKind.i64.wrap x = x := IntWalk.i64_in _ (by omega)
          have k6 : (0 : Int) ≤ (c : Int) + 1 := by omega
          have k7 : ((c : Int) + 1).toNat = c + 1 := by omega
          have e1 : w3.drew.cell? ⟨g, c + 1, none⟩ = some (.int .i64 old) := t4
          have e2 : w3.drew.frozen? ⟨g, c + 1, none⟩ = false := f4
          have kx : (x + 1) - 1 = x := by omega
          rw [kx] at HZ HP
          clear hb2
          go_still_tail 9, (by kernel_rfl)
          change wpList _ _ _ _ _ w3.drew
          clear t1 t2 t3 t4 f4
          go_wp2
          go_step3
          have HZ2 := Lib.hid (show StS B (w3.setCell ⟨g, c + 1, none⟩ (.int .i64 x)).drew g cp gs gc gh n ((set.set c (x + 1)).set (c + 1) x) (c + 1) (.func (.func 60) #[] #[.pointer (some ⟨q0, 0, none⟩), .pointer (some ⟨q1, 0, none⟩), .pointer (some ⟨q2, 0, none⟩)]) from ((HZ.out).kept (Below.refl _ _).drew))
          refine ⟨rfl, ⟨(set.set c (x + 1)).set (c + 1) x, c + 1, ⟨_, _, _, _, _, _, _, _, _, _, _, _, _, _, _, _, _, _, _, _, _, _, _, _, _, _, _, _, _, _, _, _, _, _, _, _, _, _, _, _, rfl⟩, HZ2, Lib.hid (by have h := HO.out.down (x + 1) (by rw [HXe.out]) hx20 hc2; rw [kx] at h; exact h), HP.out.drew, Lib.hid (by have h := HR1.out; rw [kx] at h; exact h)⟩, ?_⟩
          rw [HMU.out, muS_eq HZ2.out]
          have h := phi_down HO.out (x + 1) (by rw [HXe.out]) hx20 hc2
          rw [kx] at h
          exact h
end Go.Proofs.Ytmdhdbkeiennmab
