/- YoungestParent: the program's walk; both texts. -/
import Derived.Test.YthmcimdnbapnhaaYp2
set_option linter.unusedVariables false
set_option linter.unusedSimpArgs false
namespace Go.Proofs.Ythmcimdnbapnhaa
open Go.RowKit

theorem YSt.above {fs : List Kn} {w W : World} {q g c : Nat} {B : Option (Nat × Nat)} (h : YSt fs w q g c B W) (hq : q ≤ W.heap.size) (A : Obj) : YSt fs w q g c B (W.alloc A) :=
  h.kept hq ((Below.refl W.heap.size W).alloc (Nat.le_refl _) A)
theorem yp1_cP (fs : List Kn) (B : Option (Nat × Nat)) : (cP fs (B.map (·.1))).2.2.2 = yp1 B := by cases B <;> rfl
theorem yp2_cP (fs : List Kn) (B : Option (Nat × Nat)) : (cP fs (B.map (·.2))).2.2.2 = yp2 B := by cases B <;> rfl
set_option maxHeartbeats 8000000 in
theorem imYou_any (fs : List Kn) (b c : Nat) (w : World) (hc : fs.length ≤ c) (hbl : b < w.heap.size) (hI : Kns w b 0 fs) :
    Calls Try.prog 48 #[.slice (some ⟨b, 0, none⟩) fs.length c] w (RetIIB (yp1 (yRes fs)) (yp2 (yRes fs)) (yRes fs).isSome w) := by
  have hI0 : Kns ((w.alloc (.cells #[.int .i64 0, .int .i64 0, .int .i64 0, .int .i64 0] 70)).alloc (.cells #[.int .i64 0, .int .i64 0, .int .i64 0, .int .i64 0] 70)) b 0 fs := (hI.kept ((Below.refl w.heap.size w).alloc (Nat.le_refl _) (.cells #[.int .i64 0, .int .i64 0, .int .i64 0, .int .i64 0] 70)) hbl).kept ((Below.refl _ (w.alloc (.cells #[.int .i64 0, .int .i64 0, .int .i64 0, .int .i64 0] 70))).alloc (Nat.le_refl _) (.cells #[.int .i64 0, .int .i64 0, .int .i64 0, .int .i64 0] 70)) (by simp; omega)
  have hb0 : Below w.heap.size w ((w.alloc (.cells #[.int .i64 0, .int .i64 0, .int .i64 0, .int .i64 0] 70)).alloc (.cells #[.int .i64 0, .int .i64 0, .int .i64 0, .int .i64 0] 70)) := ((Below.refl w.heap.size w).alloc (Nat.le_refl _) _).alloc (by simp) _
  unfold yRes
  cases hf : famB fs with
  | false =>
    rw [if_neg (by simp)]
    have HK := Lib.hid (kindred_no b fs.length c fs ((w.alloc (.cells #[.int .i64 0, .int .i64 0, .int .i64 0, .int .i64 0] 70)).alloc (.cells #[.int .i64 0, .int .i64 0, .int .i64 0, .int .i64 0] 70)) rfl hc (by simp; omega) hI0 hf)
    have HB0 := Lib.hid hb0
    clear hI hf hI0 hb0
    go_enter Try.func48, Try.ntmps48
    go_wp2_with (go_at_call 67; refine HK.out.mono ?_; rintro e w1 ⟨rfl, hb1⟩; have hbf := HB0.out.trans (hb1.mono (by simp; omega)); have c1 : w1.cell? ⟨w.heap.size, 3, none⟩ = some (.int .i64 0) := below_cell2 hb1 (by simp [go_sem]); have c2 : w1.cell? ⟨w.heap.size + 1, 3, none⟩ = some (.int .i64 0) := below_cell2 hb1 (by simp [go_sem]))
    go_rounds 1
    go_quiet (fail)
    go_wp2_with fail
    go_ret3
    exact ⟨rfl, below_drewN hbf _⟩
  | true =>
    rw [if_pos rfl]
    have HK := Lib.hid (kindred_yes b fs.length c fs ((w.alloc (.cells #[.int .i64 0, .int .i64 0, .int .i64 0, .int .i64 0] 70)).alloc (.cells #[.int .i64 0, .int .i64 0, .int .i64 0, .int .i64 0] 70)) rfl hc (by simp; omega) hI0 hf)
    have HY0 : Hid (∀ w1 g, OwnR fs ((w.alloc (.cells #[.int .i64 0, .int .i64 0, .int .i64 0, .int .i64 0] 70)).alloc (.cells #[.int .i64 0, .int .i64 0, .int .i64 0, .int .i64 0] 70)).heap.size w1 (.slice (some ⟨g, 0, none⟩) fs.length fs.length) (allN fs) → Below ((w.alloc (.cells #[.int .i64 0, .int .i64 0, .int .i64 0, .int .i64 0] 70)).alloc (.cells #[.int .i64 0, .int .i64 0, .int .i64 0, .int .i64 0] 70)).heap.size ((w.alloc (.cells #[.int .i64 0, .int .i64 0, .int .i64 0, .int .i64 0] 70)).alloc (.cells #[.int .i64 0, .int .i64 0, .int .i64 0, .int .i64 0] 70)) w1 → YSt fs w w.heap.size g fs.length none w1) := Lib.hid (fun w1 g ho hb1 =>
      ⟨ho.mono (by simp), hb0.trans (hb1.mono (by simp; omega)),
       ⟨below_cell2 hb1 (by first | (simp [go_sem, cP]; done) | (simp [go_sem]; rfl)), below_cell2 hb1 (by first | (simp [go_sem, cP]; done) | (simp [go_sem]; rfl)), below_cell2 hb1 (by first | (simp [go_sem, cP]; done) | (simp [go_sem]; rfl)), below_cell2 hb1 (by first | (simp [go_sem, cP]; done) | (simp [go_sem]; rfl))⟩,
       ⟨below_cell2 hb1 (by first | (simp [go_sem, cP]; done) | (simp [go_sem]; rfl)), below_cell2 hb1 (by first | (simp [go_sem, cP]; done) | (simp [go_sem]; rfl)), below_cell2 hb1 (by first | (simp [go_sem, cP]; done) | (simp [go_sem]; rfl)), below_cell2 hb1 (by first | (simp [go_sem, cP]; done) | (simp [go_sem]; rfl))⟩,
       fun i => (hb1.frozen (p := ⟨w.heap.size, i, none⟩) (by simp; omega)).trans (by simp [go_sem]),
       fun i => (hb1.frozen (p := ⟨w.heap.size + 1, i, none⟩) (by simp)).trans (by simp [go_sem])⟩)
    have hn := (famB_len hf).2
    have HOK := Lib.hid (fun k => yOut_ok hf k)
    have HOP := Lib.hid (fun p c (h : c ∈ chiN fs p) => okP_of hf h)
    have HCL := Lib.hid (fun k => (show (chiN fs k).length ≤ 14 from by have := chiN_len fs k; rw [allN_len] at this; omega))
    clear hI hf hI0 hb0
    go_enter Try.func48, Try.ntmps48
    go_wp2_with (go_at_call 67; refine HK.out.mono ?_; rintro e w1 ⟨g, hg, rfl, ho1, hb1⟩; have HYS := Lib.hid (HY0.out w1 g ho1 hb1); have hs1 := hb1.size; clear ho1)
    have hq1 : w.heap.size + 2 ≤ w1.heap.size := by simpa using hs1
    go_loopw [7, 21] (fun u7 v wr => ∃ k : Nat, k ≤ fs.length ∧ v = .int .i64 k ∧ u7 = .bool (yOut fs k).isSome ∧ Hid (YSt fs w w.heap.size g fs.length (yOut fs k) wr) ∧ w1.heap.size ≤ wr.heap.size) (fun _ v _ => fs.length - (intOf v).toNat)
    case atStart => exact ⟨0, Nat.zero_le _, rfl, rfl, HYS, Nat.le_refl _⟩
    case round =>
      obtain ⟨k, hk, rfl, rfl, HS, hsz⟩ := hrel
      have hq2 := HS.out.below.size
      by_cases hlt : k < fs.length
      · have HR := HS.out.kdr.shape.2.2.2.2.1
        have hgl := HS.out.kdr.shape.2.2.1
        obtain ⟨p1, p2, p3, p4⟩ := HR k (by rw [allN_len]; exact hlt)
        rw [allN_at fs k hlt, Nat.zero_add] at p1 p2 p3 p4
        replace p1 : wr.cell? ⟨g, k * 4, none⟩ = some (.int .i64 (cP fs (some k)).1) := p1
        replace p2 : wr.cell? ⟨g, k * 4 + 1, none⟩ = some (.int .i64 (cP fs (some k)).2.1) := p2
        replace p3 : wr.cell? ⟨g, k * 4 + 2, none⟩ = some (.int .i64 (cP fs (some k)).2.2.1) := p3
        replace p4 : wr.cell? ⟨g, k * 4 + 3, none⟩ = some (.int .i64 (cP fs (some k)).2.2.2) := p4
        have HC : Hid (Calls Try.prog 62 #[.slice (some ⟨g, 0, none⟩) fs.length fs.length, .agg #[.int .i64 (cP fs (some k)).1, .int .i64 (cP fs (some k)).2.1, .int .i64 (cP fs (some k)).2.2.1, .int .i64 (cP fs (some k)).2.2.2]] (wr.alloc (.cells #[.int .i64 (cP fs (some k)).1, .int .i64 (cP fs (some k)).2.1, .int .i64 (cP fs (some k)).2.2.1, .int .i64 (cP fs (some k)).2.2.2] 70)) (RetR fs (chiN fs k) (wr.alloc (.cells #[.int .i64 (cP fs (some k)).1, .int .i64 (cP fs (some k)).2.1, .int .i64 (cP fs (some k)).2.2.1, .int .i64 (cP fs (some k)).2.2.2] 70)))) :=
          Lib.hid (children_any fs g fs.length k _ (Kdr.above ⟨HS.out.kdr.mono (Nat.zero_le _), hn⟩ _))
        have HPC := Lib.hid (fun c h => HOP.out k c h)
        have hcl := HCL.out k
        have HB0 := Lib.hid (HOK.out k)
        have HY : Hid (yOut fs (k + 1) = yIn fs k (chiN fs k) (yOut fs k) (chiN fs k).length) := Lib.hid rfl
        have HPP := Lib.hid (show (cP fs (some k)).1 = (at3 fs k).1 from rfl)
        have hlc : (k : Int) < (fs.length : Int) := by omega
        have hk0 : (0 : Int) ≤ (k : Int) := by omega
        generalize chiN fs k = cs at HC hcl HPC HY
        generalize yOut fs k = B0 at HB0 HY HS ⊢
        have HSETB := Lib.hid (fun (x : Nat) (B : Option (Nat × Nat)) (W : World) (h : YSt fs w w.heap.size g fs.length B W) (hw : w.heap.size ≤ W.heap.size) => h.set hw k x)
        generalize cP fs (some k) = P at HC HSETB p1 p2 p3 p4 HPP
        have HN1 : Hid (∀ w2, Below (wr.alloc (.cells #[.int .i64 P.1, .int .i64 P.2.1, .int .i64 P.2.2.1, .int .i64 P.2.2.2] 70)).heap.size (wr.alloc (.cells #[.int .i64 P.1, .int .i64 P.2.1, .int .i64 P.2.2.1, .int .i64 P.2.2.2] 70)) w2 → YSt fs w w.heap.size g fs.length B0 w2 ∧ At4 w2 wr.heap.size P ∧ wr.heap.size < w2.heap.size) := Lib.hid (fun w2 hb2 =>
          ⟨(HS.out.above hq2 _).kept (by simp; omega) hb2,
           ⟨below_cell2 hb2 (by simp [go_sem]), below_cell2 hb2 (by simp [go_sem]), below_cell2 hb2 (by simp [go_sem]), below_cell2 hb2 (by simp [go_sem])⟩,
           by have := hb2.size; simp at this; omega⟩)
        clear HR
        go_wp2_with (first | (go_at_call 62; refine HC.out.mono ?_; rintro e w2 ⟨v2, rfl, ho2, hb2⟩; obtain ⟨a2, c2, rfl⟩ := ho2.form; obtain ⟨hy2, hp2, hs2⟩ := HN1.out w2 hb2; replace ho2 := OwnR.mono (B' := w.heap.size + 2) ho2 (by simp; omega)))
        have HY2 := Lib.hid hy2
        have HO2 := Lib.hid ho2
        have HP2 := Lib.hid hp2
        clear hy2 ho2 hp2 hb2 HC HN1 p1 p2 p3 p4 HS
        generalize hpb : wr.heap.size = pb at *
        clear hpb
        generalize hnc : cs.length = nc at *
        have HNC := Lib.hid hnc
        clear hnc
        go_loopw [7, 29] (fun u7 v wr => ∃ j : Nat, j ≤ nc ∧ v = .int .i64 j ∧ u7 = .bool (yIn fs k cs B0 j).isSome ∧ Hid (YSt fs w w.heap.size g fs.length (yIn fs k cs B0 j) wr) ∧ Hid (OwnR fs (w.heap.size + 2) wr (.slice a2 nc c2) cs) ∧ Hid (At4 wr pb P) ∧ w2.heap.size ≤ wr.heap.size) (fun _ v _ => nc - (intOf v).toNat)
        case atStart => exact ⟨0, Nat.zero_le _, rfl, rfl, HY2, HO2, HP2, Nat.le_refl _⟩
        case round =>
          obtain ⟨j, hj, rfl, rfl, HYj, HOj, HPj, hszi⟩ := hrel
          by_cases hlt2 : j < nc
          · obtain ⟨g2, he1, hgl2, hR2⟩ : ∃ g2, a2 = some ⟨g2, 0, none⟩ ∧ g2 < wr.heap.size ∧ Rls fs wr g2 0 cs := by
              rcases HOj.out.cases with ⟨_, hnil⟩ | ⟨g3, c3, he, _, h3, _, _, h6, _⟩
              · have := HNC.out; rw [hnil] at this; simp at this; omega
              · simp only [Value.slice.injEq] at he
                exact ⟨g3, he.1, h3, h6⟩
            subst he1
            have hjl : j < cs.length := by rw [HNC.out]; exact hlt2
            obtain ⟨r1, r2, r3, r4⟩ := hR2 j hjl
            rw [Nat.zero_add] at r1 r2 r3 r4
            have hop := HPC.out _ (mem_getD2 hjl)
            have HBj := Lib.hid (yIn_ok HB0.out HPC.out j (by omega))
            have HYj1 : Hid (yIn fs k cs B0 (j + 1) = upd fs (yIn fs k cs B0 j) k (cs.getD j 0)) := Lib.hid rfl
            generalize cs.getD j 0 = x at r1 r2 r3 r4 hop HYj1
            replace r1 : wr.cell? ⟨g2, j * 4, none⟩ = some (.int .i64 (cP fs (some x)).1) := r1
            replace r2 : wr.cell? ⟨g2, j * 4 + 1, none⟩ = some (.int .i64 (cP fs (some x)).2.1) := r2
            replace r3 : wr.cell? ⟨g2, j * 4 + 2, none⟩ = some (.int .i64 (cP fs (some x)).2.2.1) := r3
            replace r4 : wr.cell? ⟨g2, j * 4 + 3, none⟩ = some (.int .i64 (cP fs (some x)).2.2.2) := r4
            generalize yIn fs k cs B0 j = B at HBj HYj1 HYj ⊢
            have hsb := HYj.out.below.size
            have HSB := Lib.hid (fun W h hw => HSETB.out x B W h hw)
            have hX1 : 0 ≤ (cP fs (some x)).1 ∧ (cP fs (some x)).1 ≤ 3000 := hop.2.2.2.1
            have hP1 : 0 ≤ P.1 ∧ P.1 ≤ 3000 := by rw [HPP.out]; exact hop.2.2.1
            have HAG : Hid (ageN fs k x = (cP fs (some x)).1 - P.1) := Lib.hid (by rw [HPP.out]; rfl)
            clear hop
            generalize cP fs (some x) = X at r1 r2 r3 r4 hX1 HAG HSB
            obtain ⟨hP, hPl⟩ : At4 wr pb P ∧ pb < wr.heap.size := ⟨HPj.out, HPj.out.lt⟩
            have HW9 : Hid (∀ W9 : World, W9 = (wr.alloc (.cells #[.int .i64 X.1, .int .i64 X.2.1, .int .i64 X.2.2.1, .int .i64 X.2.2.2] 70)) → YSt fs w w.heap.size g fs.length B W9 ∧ OwnR fs (w.heap.size + 2) W9 (.slice (some ⟨g2, 0, none⟩) nc c2) cs ∧ At4 W9 pb P ∧ At4 W9 wr.heap.size X ∧ W9.heap.size = wr.heap.size + 1) := Lib.hid (fun W9 he => by
              subst he
              exact ⟨HYj.out.above hsb _, World.ownsRow.alloc HOj.out _, hP.kept ((Below.refl wr.heap.size wr).alloc (Nat.le_refl _) _), ⟨by simp [go_sem], by simp [go_sem], by simp [go_sem], by simp [go_sem]⟩, by simp⟩)
            have HSET : Hid (∀ W, YSt fs w w.heap.size g fs.length B W → OwnR fs (w.heap.size + 2) W (.slice (some ⟨g2, 0, none⟩) nc c2) cs → At4 W pb P → Hid (YSt fs w w.heap.size g fs.length (some (k, x)) (set4 (set4 W w.heap.size P) (w.heap.size + 1) X).drew) ∧ Hid (OwnR fs (w.heap.size + 2) (set4 (set4 W w.heap.size P) (w.heap.size + 1) X).drew (.slice (some ⟨g2, 0, none⟩) nc c2) cs) ∧ Hid (At4 (set4 (set4 W w.heap.size P) (w.heap.size + 1) X).drew pb P) ∧ W.heap.size ≤ (set4 (set4 W w.heap.size P) (w.heap.size + 1) X).drew.heap.size) := Lib.hid (fun W hy ho hp =>
              ⟨Lib.hid ((HSB.out W hy hy.below.size).kept (HSB.out W hy hy.below.size).below.size (Below.refl _ _).drew), Lib.hid (((ho.set4 _ _ (by omega)).set4 _ _ (by omega)).kept (Below.refl _ _).drew), Lib.hid (((hp.grown (set4_grown _ _ _) (by omega)).grown (set4_grown _ _ _) (by omega)).kept (Below.refl _ _).drew), Nat.le_trans (Nat.le_trans (set4_grown _ _ _).size (set4_grown _ _ _).size) (Below.refl 0 _).drew.size⟩)
            unfold set4 at HSET
            have hlc2 : (j : Int) < (nc : Int) := by omega
            have hj0 : (0 : Int) ≤ (j : Int) := by omega
            clear hR2 HYj HOj HPj hP HSETB
            cases B with
            | none =>
              have HT : Hid (upd fs none k x = some (k, x)) := Lib.hid rfl
              rw [HT.out] at HYj1
              go_wp2_with fail
              obtain ⟨hy9, ho9, hp9, hx9, hs9⟩ := HW9.out _ rfl
              go_quiet (fail)
              generalize hgW : wr.alloc (.cells #[.int .i64 X.1, .int .i64 X.2.1, .int .i64 X.2.2.1, .int .i64 X.2.2.2] 70) = W9 at hy9 ho9 hp9 hx9 hs9 ⊢
              have hb9 : Below W9.heap.size W9 (W9.drewN nq) := below_drewN (Below.refl _ _) _
              replace hy9 := hy9.kept hy9.below.size hb9
              replace ho9 := ho9.kept hb9
              replace hp9 := hp9.kept hb9
              replace hx9 := hx9.kept hb9
              replace hs9 := hb9.size
              have hs10 : wr.heap.size + 1 = W9.heap.size := by rw [← hgW]; simp
              generalize W9.drewN nq = W at *
              obtain ⟨n1, n2, n3, n4⟩ := HSET.out W hy9 ho9 hp9
              obtain ⟨u1, u2, u3, u4⟩ := hp9
              obtain ⟨x1, x2, x3, x4⟩ := hx9
              obtain ⟨s1, s2, s3, s4⟩ := hy9.p1
              obtain ⟨t1, t2, t3, t4⟩ := hy9.p2
              have f1 := hy9.f1
              have f2 := hy9.f2
              have hwW : w2.heap.size ≤ W.heap.size := by omega
              clear hy9 ho9
              go_wp2_with fail
              go_region_with (fail)
              all_goals
                go_wp2_with fail
                go_roundw
                case rel => exact ⟨j + 1, by omega, by go_num, by rw [HYj1.out]; rfl, by rw [HYj1.out]; exact n1, n2, n3, Nat.le_trans hwW n4⟩
                case measure => simp [intOf]; omega
            | some qq =>
              have HA1 := Lib.hid (fun W => ageAt_any P.1 P.2.1 P.2.2.1 P.2.2.2 X.1 X.2.1 X.2.2.1 X.2.2.2 W hP1 hX1)
              have hA1 : 0 ≤ (cP fs (Option.map (·.1) (some qq))).1 ∧ (cP fs (Option.map (·.1) (some qq))).1 ≤ 3000 := (HBj.out qq rfl).2.2.1
              have hA2 : 0 ≤ (cP fs (Option.map (·.2) (some qq))).1 ∧ (cP fs (Option.map (·.2) (some qq))).1 ≤ 3000 := (HBj.out qq rfl).2.2.2.1
              have HLT : Hid (ageN fs qq.1 qq.2 = (cP fs (Option.map (·.2) (some qq))).1 - (cP fs (Option.map (·.1) (some qq))).1) := Lib.hid rfl
              have HKP := Lib.hid (fun (W9 W : World) (h : YSt fs w w.heap.size g fs.length (some qq) W9) (hb : Below W9.heap.size W9 W) => (show YSt fs w w.heap.size g fs.length (some qq) W ∧ At4 W w.heap.size (cP fs (Option.map (·.1) (some qq))) ∧ At4 W (w.heap.size + 1) (cP fs (Option.map (·.2) (some qq))) from ⟨h.kept h.below.size hb, (h.kept h.below.size hb).p1, (h.kept h.below.size hb).p2⟩))
              generalize cP fs (Option.map (·.1) (some qq)) = A1 at hA1 HLT HKP
              generalize cP fs (Option.map (·.2) (some qq)) = A2 at hA2 HLT HKP
              have HA2 := Lib.hid (fun W => ageAt_any A1.1 A1.2.1 A1.2.2.1 A1.2.2.2 A2.1 A2.2.1 A2.2.2.1 A2.2.2.2 W hA1 hA2)
              go_wp2_with fail
              obtain ⟨hy9, ho9, hp9, hx9, hs9⟩ := HW9.out _ rfl
              generalize hgW : wr.alloc (.cells #[.int .i64 X.1, .int .i64 X.2.1, .int .i64 X.2.2.1, .int .i64 X.2.2.2] 70) = W9 at hy9 ho9 hp9 hx9 hs9 ⊢
              clear hgW HW9
              generalize hcb : wr.heap.size = cb at *
              obtain ⟨_, q1, q2⟩ := HKP.out W9 W9 hy9 (Below.refl _ _)
              obtain ⟨cz9, cz10, cz11, cz12⟩ := q1
              obtain ⟨cz13, cz14, cz15, cz16⟩ := q2
              have hpk := hp9
              have hxk := hx9
              obtain ⟨cz1, cz2, cz3, cz4⟩ := hp9
              obtain ⟨cz5, cz6, cz7, cz8⟩ := hx9
              have HK9 := Lib.hid (fun (W : World) (hb : Below W9.heap.size W9 W) => (show YSt fs w w.heap.size g fs.length (some qq) W ∧ OwnR fs (w.heap.size + 2) W (.slice (some ⟨g2, 0, none⟩) nc c2) cs ∧ At4 W pb P ∧ At4 W cb X ∧ At4 W w.heap.size A1 ∧ At4 W (w.heap.size + 1) A2 ∧ w2.heap.size ≤ W.heap.size from ⟨(HKP.out W9 W hy9 hb).1, ho9.kept hb, hpk.kept hb, hxk.kept hb, (HKP.out W9 W hy9 hb).2.1, (HKP.out W9 W hy9 hb).2.2, by have := hb.size; omega⟩))
              clear hy9 ho9 hpk hxk HKP
              by_cases hA : X.1 - P.1 < A2.1 - A1.1
              · have HT : Hid (upd fs (some qq) k x = some (k, x)) := Lib.hid (by simp only [upd]; rw [HAG.out, HLT.out, if_pos hA])
                rw [HT.out] at HYj1
                go_region_held3 (fun w' => Below W9.heap.size W9 w' ∧ w'.cell? ⟨pb, 0, none⟩ = some (.int .i64 P.1) ∧ w'.cell? ⟨pb, 1, none⟩ = some (.int .i64 P.2.1) ∧ w'.cell? ⟨pb, 2, none⟩ = some (.int .i64 P.2.2.1) ∧ w'.cell? ⟨pb, 3, none⟩ = some (.int .i64 P.2.2.2) ∧ w'.cell? ⟨cb, 0, none⟩ = some (.int .i64 X.1) ∧ w'.cell? ⟨cb, 1, none⟩ = some (.int .i64 X.2.1) ∧ w'.cell? ⟨cb, 2, none⟩ = some (.int .i64 X.2.2.1) ∧ w'.cell? ⟨cb, 3, none⟩ = some (.int .i64 X.2.2.2) ∧ w'.cell? ⟨w.heap.size, 0, none⟩ = some (.int .i64 A1.1) ∧ w'.cell? ⟨w.heap.size, 1, none⟩ = some (.int .i64 A1.2.1) ∧ w'.cell? ⟨w.heap.size, 2, none⟩ = some (.int .i64 A1.2.2.1) ∧ w'.cell? ⟨w.heap.size, 3, none⟩ = some (.int .i64 A1.2.2.2) ∧ w'.cell? ⟨w.heap.size + 1, 0, none⟩ = some (.int .i64 A2.1) ∧ w'.cell? ⟨w.heap.size + 1, 1, none⟩ = some (.int .i64 A2.2.1) ∧ w'.cell? ⟨w.heap.size + 1, 2, none⟩ = some (.int .i64 A2.2.2.1) ∧ w'.cell? ⟨w.heap.size + 1, 3, none⟩ = some (.int .i64 A2.2.2.2))
                (first
                  | (exact ⟨(Below.refl _ _).drew, cz1, cz2, cz3, cz4, cz5, cz6, cz7, cz8, cz9, cz10, cz11, cz12, cz13, cz14, cz15, cz16⟩)
                  | (obtain ⟨z0, z1, z2, z3, z4, z5, z6, z7, z8, z9, z10, z11, z12, z13, z14, z15, z16⟩ := ‹Below W9.heap.size W9 _ ∧ _›; exact ⟨z0.drew, z1, z2, z3, z4, z5, z6, z7, z8, z9, z10, z11, z12, z13, z14, z15, z16⟩)
                  | (obtain ⟨z0, z1, z2, z3, z4, z5, z6, z7, z8, z9, z10, z11, z12, z13, z14, z15, z16⟩ := ‹Below W9.heap.size W9 _ ∧ _›
                     exact ⟨z0.trans (hcall.mono z0.size), below_cell2 hcall z1, below_cell2 hcall z2, below_cell2 hcall z3, below_cell2 hcall z4, below_cell2 hcall z5, below_cell2 hcall z6, below_cell2 hcall z7, below_cell2 hcall z8, below_cell2 hcall z9, below_cell2 hcall z10, below_cell2 hcall z11, below_cell2 hcall z12, below_cell2 hcall z13, below_cell2 hcall z14, below_cell2 hcall z15, below_cell2 hcall z16⟩))
                (first | (go_at_call_of 78 (Value.int IntKind.i64 X.1); refine (HA1.out _).mono ?_; rintro e w' ⟨rfl, hcall⟩) | (go_at_call_of 78 (Value.int IntKind.i64 A1.1); refine (HA2.out _).mono ?_; rintro e w' ⟨rfl, hcall⟩))
                all_goals
                  have hbf := (‹Below W9.heap.size W9 _ ∧ _›).1
                  obtain ⟨hy9, ho9, hp9, hx9, q1, q2, hwW⟩ := HK9.out _ hbf
                  obtain ⟨n1, n2, n3, n4⟩ := HSET.out _ hy9 ho9 hp9
                  obtain ⟨u1, u2, u3, u4⟩ := hp9
                  obtain ⟨x1, x2, x3, x4⟩ := hx9
                  obtain ⟨s1, s2, s3, s4⟩ := q1
                  obtain ⟨t1, t2, t3, t4⟩ := q2
                  have f1 := hy9.f1
                  have f2 := hy9.f2
                  clear hy9 ho9
                  go_wp2_with fail
                  go_region_with (fail)
                  all_goals
                    go_wp2_with fail
                    go_roundw
                    case rel => exact ⟨j + 1, by omega, by go_num, by rw [HYj1.out]; rfl, by rw [HYj1.out]; exact n1, n2, n3, Nat.le_trans hwW n4⟩
                    case measure => simp [intOf]; omega
              · have HT : Hid (upd fs (some qq) k x = some qq) := Lib.hid (by simp only [upd]; rw [HAG.out, HLT.out, if_neg hA])
                rw [HT.out] at HYj1
                go_region_held3 (fun w' => Below W9.heap.size W9 w' ∧ w'.cell? ⟨pb, 0, none⟩ = some (.int .i64 P.1) ∧ w'.cell? ⟨pb, 1, none⟩ = some (.int .i64 P.2.1) ∧ w'.cell? ⟨pb, 2, none⟩ = some (.int .i64 P.2.2.1) ∧ w'.cell? ⟨pb, 3, none⟩ = some (.int .i64 P.2.2.2) ∧ w'.cell? ⟨cb, 0, none⟩ = some (.int .i64 X.1) ∧ w'.cell? ⟨cb, 1, none⟩ = some (.int .i64 X.2.1) ∧ w'.cell? ⟨cb, 2, none⟩ = some (.int .i64 X.2.2.1) ∧ w'.cell? ⟨cb, 3, none⟩ = some (.int .i64 X.2.2.2) ∧ w'.cell? ⟨w.heap.size, 0, none⟩ = some (.int .i64 A1.1) ∧ w'.cell? ⟨w.heap.size, 1, none⟩ = some (.int .i64 A1.2.1) ∧ w'.cell? ⟨w.heap.size, 2, none⟩ = some (.int .i64 A1.2.2.1) ∧ w'.cell? ⟨w.heap.size, 3, none⟩ = some (.int .i64 A1.2.2.2) ∧ w'.cell? ⟨w.heap.size + 1, 0, none⟩ = some (.int .i64 A2.1) ∧ w'.cell? ⟨w.heap.size + 1, 1, none⟩ = some (.int .i64 A2.2.1) ∧ w'.cell? ⟨w.heap.size + 1, 2, none⟩ = some (.int .i64 A2.2.2.1) ∧ w'.cell? ⟨w.heap.size + 1, 3, none⟩ = some (.int .i64 A2.2.2.2))
                (first
                  | (exact ⟨(Below.refl _ _).drew, cz1, cz2, cz3, cz4, cz5, cz6, cz7, cz8, cz9, cz10, cz11, cz12, cz13, cz14, cz15, cz16⟩)
                  | (obtain ⟨z0, z1, z2, z3, z4, z5, z6, z7, z8, z9, z10, z11, z12, z13, z14, z15, z16⟩ := ‹Below W9.heap.size W9 _ ∧ _›; exact ⟨z0.drew, z1, z2, z3, z4, z5, z6, z7, z8, z9, z10, z11, z12, z13, z14, z15, z16⟩)
                  | (obtain ⟨z0, z1, z2, z3, z4, z5, z6, z7, z8, z9, z10, z11, z12, z13, z14, z15, z16⟩ := ‹Below W9.heap.size W9 _ ∧ _›
                     exact ⟨z0.trans (hcall.mono z0.size), below_cell2 hcall z1, below_cell2 hcall z2, below_cell2 hcall z3, below_cell2 hcall z4, below_cell2 hcall z5, below_cell2 hcall z6, below_cell2 hcall z7, below_cell2 hcall z8, below_cell2 hcall z9, below_cell2 hcall z10, below_cell2 hcall z11, below_cell2 hcall z12, below_cell2 hcall z13, below_cell2 hcall z14, below_cell2 hcall z15, below_cell2 hcall z16⟩))
                (first | (go_at_call_of 78 (Value.int IntKind.i64 X.1); refine (HA1.out _).mono ?_; rintro e w' ⟨rfl, hcall⟩) | (go_at_call_of 78 (Value.int IntKind.i64 A1.1); refine (HA2.out _).mono ?_; rintro e w' ⟨rfl, hcall⟩))
                all_goals
                  have hbf := (‹Below W9.heap.size W9 _ ∧ _›).1
                  obtain ⟨hy9, ho9, hp9, hx9, q1, q2, hwW⟩ := HK9.out _ hbf
                  have HY9 := Lib.hid hy9
                  clear hy9
                  go_wp2_with fail
                  go_roundw
                  case rel => exact ⟨j + 1, by omega, by go_num, by rw [HYj1.out]; rfl, by rw [HYj1.out]; exact HY9, Lib.hid ho9, Lib.hid hp9, hwW⟩
                  case measure => simp [intOf]; omega
          · have hjn : j = nc := by omega
            have HD := Lib.hid (show yIn fs k cs B0 j = yOut fs (k + 1) by rw [HY.out, hjn])
            have hlc2 : ¬ (j : Int) < (nc : Int) := by omega
            rw [HD.out] at HYj
            clear hjn
            go_wp2_with fail
            go_roundw
            case rel => exact ⟨k + 1, by omega, by go_num, by rw [← HD.out], HYj, by omega⟩
            case measure => simp [intOf]; omega
      · have hkn : k = fs.length := by omega
        have HD := Lib.hid (show yOut fs k = yOut fs fs.length by rw [hkn])
        have hlc : ¬ (k : Int) < (fs.length : Int) := by omega
        have hbf := HS.out.below
        have e1 := HS.out.p1.2.2.2
        have e2 := HS.out.p2.2.2.2
        rw [yp1_cP] at e1
        rw [yp2_cP] at e2
        clear hkn HS
        go_wp2_with fail
        go_quiet (fail)
        go_wp2_with fail
        go_ret3
        exact ⟨by rw [← HD.out]; rfl, below_drewN hbf _⟩
theorem youngest_both (ds : List Kn) : ∃ r1 r2 ok,
    (∀ b c w, ds.length ≤ 1048576 → ds.length ≤ c → b < w.heap.size → Kns w b 0 ds → Calls Try.prog 47 #[.slice (some ⟨b, 0, none⟩) ds.length c] w (RetIIB r1 r2 ok w)) ∧
    (∀ b c w, ds.length ≤ 1048576 → ds.length ≤ c → b < w.heap.size → Kns w b 0 ds → Calls Try.prog 48 #[.slice (some ⟨b, 0, none⟩) ds.length c] w (RetIIB r1 r2 ok w)) :=
  ⟨_, _, _, fun b c w _ hc hb hI => spYou_any ds b c w hc hb hI, fun b c w _ hc hb hI => imYou_any ds b c w hc hb hI⟩
end Go.Proofs.Ythmcimdnbapnhaa
