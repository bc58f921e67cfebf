/- Next and last birthdays, of the program. -/
import Derived.Test.YtbhceokapbnhhaaNx3
import Derived.Test.YtbhceokapbnhhaaIb3
set_option linter.unusedVariables false
set_option linter.unusedSimpArgs false
namespace Go.Proofs.Ytbhceokapbnhhaa
open Go.RowKit

theorem infoDay : (Try.prog.info? 69).map (fun i => (i.zero, i.size, i.bytes)) = some (some (.agg #[.int .i64 0, .int .i64 0]), 2, 16) := by kernel_rfl
def mixD (es : List Dt) (k : Nat) : List Dt := es.take k ++ List.replicate (es.length - k) (0, 0)
theorem mixD_len (es : List Dt) (k : Nat) (hk : k ≤ es.length) : (mixD es k).length = es.length := by simp [mixD]; omega
theorem mixD_all (es : List Dt) : mixD es es.length = es := by simp [mixD]
theorem mixD_set (es : List Dt) (k : Nat) (hk : k < es.length) : (mixD es k).set k (at2 es k) = mixD es (k + 1) := by
  unfold mixD at2
  have e : es.length - k = (es.length - (k + 1)) + 1 := by omega
  have hl : (es.take k).length = k := by simp; omega
  rw [e, List.replicate_succ, List.set_append]
  rw [hl, if_neg (by omega), Nat.sub_self, List.set_cons_zero, List.take_succ_eq_append_getElem (by omega)]
  have e2 : es.getD k (0, 0) = es[k]'(by omega) := by simp [List.getElem?_eq_getElem (show k < es.length by omega)]
  rw [e2]
  simp only [List.append_assoc, List.singleton_append]
theorem mixD_skip (es : List Dt) (k : Nat) (hk : k < es.length) (h : at2 es k = (0, 0)) : mixD es (k + 1) = mixD es k := by
  unfold mixD
  have e : es.length - k = (es.length - (k + 1)) + 1 := by omega
  have e2 : at2 es k = es[k]'(by omega) := by simp [at2, List.getElem?_eq_getElem (show k < es.length by omega)]
  rw [e, List.replicate_succ, List.take_succ_eq_append_getElem (by omega), ← e2, h]
  simp only [List.append_assoc, List.singleton_append]
theorem mixD_zero (es : List Dt) (n : Nat) (h : es.length = n) : (madeCells #[Value.int .i64 0, .int .i64 0] (n * 2)).toList = flatD (mixD es 0) := by
  subst h
  have h1 : mixD es 0 = List.replicate es.length (0, 0) := by simp [mixD]
  rw [h1]
  generalize es.length = n
  have h2 : ∀ n, flatD (List.replicate n (0, 0)) = List.replicate (n * 2) (Value.int .i64 0) := by
    intro n
    induction n with
    | zero => rfl
    | succ n ih => rw [List.replicate_succ, flatD_cons, ih, show (n + 1) * 2 = n * 2 + 1 + 1 by omega, List.replicate_succ, List.replicate_succ]
  rw [h2]
  refine List.eq_replicate_iff.2 ⟨by simp [madeCells], fun x hx => ?_⟩
  simp [madeCells] at hx
  obtain ⟨i, hi, rfl⟩ := hx
  have : i % 2 = 0 ∨ i % 2 = 1 := by omega
  rcases this with h | h <;> simp [h]
theorem mixD_step (es : List Dt) (k : Nat) (u v : Int) (hk : k < es.length) (h : at2 es k = (u, v)) : ((flatD (mixD es k)).set (k * 2) (.int .i64 u)).set (k * 2 + 1) (.int .i64 v) = flatD (mixD es (k + 1)) := by
  rw [flatD_set _ _ _ _ (by rw [mixD_len _ _ (by omega)]; exact hk), ← h, mixD_set es k hk]
theorem mid_of {n : Int} (h1 : -10000 ≤ n) (h2 : n ≤ 10000) : midI n := by unfold midI; omega

theorem nxtB_mid {b o : Dt} (h : (0 ≤ b.1 ∧ b.1 ≤ 3000) ∧ (1 ≤ b.2 ∧ b.2 ≤ 365)) (h2 : -3001 ≤ ageD b o ∧ ageD b o ≤ 3000) : midI (nxtB o b).1 ∧ midI (nxtB o b).2 :=
  ⟨mid_of (show -10000 ≤ b.1 + (ageD b o + 1) by omega) (show b.1 + (ageD b o + 1) ≤ 10000 by omega), mid_of (show -10000 ≤ b.2 by omega) (show b.2 ≤ 10000 by omega)⟩
set_option maxHeartbeats 8000000 in
set_option maxRecDepth 100000 in
theorem imNextBirthday_any (b off n c : Nat) (ds : List Dt) (y d : Int) (w : World) (hl : ds.length = n) (hI : Dts w b off ds) (hbl : b < w.heap.size) :
    Calls Try.prog 30 #[.slice (some ⟨b, off, none⟩) n c, .agg #[.int .i64 y, .int .i64 d]] w (RetDLB (nextP ds (y, d)) (nextL ds (y, d)) (nextB ds (y, d)) w) := by
  obtain ⟨i0, hi, hz0, hz1, hz2⟩ := info_parts infoDay
  have HW0 := Lib.hid (((Below.refl w.heap.size w).alloc (Nat.le_refl _) (.cells #[.int .i64 y, .int .i64 d] 34)).alloc (by simp) (.cells #[.int .i64 0, .int .i64 0] 34))
  have hI2 : ∀ A A', Dts ((w.alloc A).alloc A') b off ds := fun A A' => hI.kept (((Below.refl w.heap.size w).alloc (Nat.le_refl _) A).alloc (by simp) A') hbl
  have hbl2 : ∀ A A', b < ((w.alloc A).alloc A').heap.size := fun A A' => by simp <;> omega
  have HL := Lib.hid hl
  have HB0 := fun (W : World) (h : Dts W b off ds) (h2 : b < W.heap.size) => imAgesOn_any b off n c ds y d W hl h h2
  cases h1 : allBorn ds (y, d) with
  | false =>
    have HE := Lib.hid (next_no h1)
    rw [h1, agesOnR_no h1] at HB0
    have HB := Lib.hid HB0
    clear HB0 h1 hl
    go_enter Try.func30, Try.ntmps30
    go_wp2_with (first | (go_at_call 20; refine (HB.out _ (by first | exact hI2 _ _ | exact hI.kept (by assumption) hbl) (by first | exact hbl2 _ _ | (have := Below.size ‹Below w.heap.size w _›; omega))).mono ?_; rintro e w' ⟨v, rfl, hv, hcall⟩; have hbw : Below w.heap.size w w' := (by first | exact Below.trans (by assumption) (Below.mono hcall (Below.size (by assumption))) | exact Below.trans (Below.drew (by assumption)) (Below.mono hcall (Below.size (Below.drew (by assumption)))) | exact HW0.out.trans (hcall.mono (by simp <;> omega)) | exact HW0.out.drew.trans (hcall.mono (by simp <;> omega))); have q1 : w'.cell? ⟨w.heap.size, 0, none⟩ = some (.int .i64 y) := below_cell2 hcall (by first | assumption | (simp; done) | (simp [go_sem]; done) | simp [*]); have q2 : w'.cell? ⟨w.heap.size, 1, none⟩ = some (.int .i64 d) := below_cell2 hcall (by first | assumption | (simp; done) | (simp [go_sem]; done) | simp [*]); have r0 : w'.cell? ⟨w.heap.size + 1, 0, none⟩ = some (.int .i64 0) := below_cell2 hcall (by first | assumption | (simp; done) | (simp [go_sem]; done) | simp [*]); have r1 : w'.cell? ⟨w.heap.size + 1, 1, none⟩ = some (.int .i64 0) := below_cell2 hcall (by first | assumption | (simp; done) | (simp [go_sem]; done) | simp [*]); have z0 : w'.frozen? ⟨w.heap.size + 1, 0, none⟩ = false := (hcall.frozen (p := ⟨w.heap.size + 1, 0, none⟩) (by first | (simp; done) | exact World.block_lt_of_cell? _ ⟨w.heap.size + 1, 0, none⟩ (by assumption))).trans (by first | (simp; done) | assumption | (simp [go_sem]; done) | (simp [*]; done)); have z1 : w'.frozen? ⟨w.heap.size + 1, 1, none⟩ = false := (hcall.frozen (p := ⟨w.heap.size + 1, 1, none⟩) (by first | (simp; done) | exact World.block_lt_of_cell? _ ⟨w.heap.size + 1, 0, none⟩ (by assumption))).trans (by first | (simp; done) | assumption | (simp [go_sem]; done) | (simp [*]; done)); clear hcall))
    obtain ⟨s0, s1⟩ := two_cells r0 r1
    refine bodyPost_ret (v := .tuple #[.agg #[.int .i64 0, .int .i64 0], .slice none 0 0, .bool false]) (by simp [results, Try.results30, go_sem, s0, s1]) rfl ?_
    exact next_end (n := n) (0, 0) [] false HE.out (own_nil _ _) ((hbw.setCell (by simp <;> omega) _).setCell (by simp <;> omega) _)
  | true =>
    have hg := (allBorn_parts h1).1
    have ho := allBorn_date h1
    have hod := dateB_iff.1 ho
    have h8 := birthsB_len hg
    rw [hl] at h8
    have HE := Lib.hid (next_pick h1)
    have HAG := Lib.hid (fun (k : Nat) (hk : k < n) => ageD_bounds (birthsB_at hg k (by omega)) ho)
    have HAN := Lib.hid (fun (k : Nat) (hk : k < n) => born_age ((allBorn_parts h1).2 k (by omega)))
    have HDB := Lib.hid (fun (k : Nat) (hk : k < n) => dateB_iff.1 (birthsB_at hg k (by omega)))
    rw [h1, agesOnR_yes h1] at HB0
    have HB := Lib.hid HB0
    have HZ := Lib.hid (fun (k : Nat) (hk : k < n) => ageL_at ds (y, d) k (by omega))
    have hzl : (ageL ds (y, d)).length = n := by rw [ageL_len]; exact hl
    generalize hzs : ageL ds (y, d) = zs at HB HZ hzl
    have HEA := Lib.hid (fun (k : Nat) (hk : k < n) => at2_map (nxtB (y, d)) ds k (by omega))
    have HES := Lib.hid (show (ds.map (nxtB (y, d))).length = n by rw [List.length_map]; exact hl)
    have HP := Lib.hid (show nxP ds (y, d) = pickTo lessT (ds.map (nxtB (y, d))) (n - 1) by unfold nxP; rw [hl])
    generalize hes : ds.map (nxtB (y, d)) = es at HEA HES HP HE
    clear HB0 h1 hl hg ho hes hzs
    go_enter Try.func30, Try.ntmps30
    go_wp2_with (first | (go_at_call 20; refine (HB.out _ (by first | exact hI2 _ _ | exact hI.kept (by assumption) hbl) (by first | exact hbl2 _ _ | (have := Below.size ‹Below w.heap.size w _›; omega))).mono ?_; rintro e w3 ⟨v, rfl, hv, hcall⟩; have hbw : Below w.heap.size w w3 := (by first | exact Below.trans (by assumption) (Below.mono hcall (Below.size (by assumption))) | exact Below.trans (Below.drew (by assumption)) (Below.mono hcall (Below.size (Below.drew (by assumption)))) | exact HW0.out.trans (hcall.mono (by simp <;> omega)) | exact HW0.out.drew.trans (hcall.mono (by simp <;> omega))); have q1 : w3.cell? ⟨w.heap.size, 0, none⟩ = some (.int .i64 y) := below_cell2 hcall (by first | assumption | (simp; done) | (simp [go_sem]; done) | simp [*]); have q2 : w3.cell? ⟨w.heap.size, 1, none⟩ = some (.int .i64 d) := below_cell2 hcall (by first | assumption | (simp; done) | (simp [go_sem]; done) | simp [*]); have r0 : w3.cell? ⟨w.heap.size + 1, 0, none⟩ = some (.int .i64 0) := below_cell2 hcall (by first | assumption | (simp; done) | (simp [go_sem]; done) | simp [*]); have r1 : w3.cell? ⟨w.heap.size + 1, 1, none⟩ = some (.int .i64 0) := below_cell2 hcall (by first | assumption | (simp; done) | (simp [go_sem]; done) | simp [*]); have z0 : w3.frozen? ⟨w.heap.size + 1, 0, none⟩ = false := (hcall.frozen (p := ⟨w.heap.size + 1, 0, none⟩) (by first | (simp; done) | exact World.block_lt_of_cell? _ ⟨w.heap.size + 1, 0, none⟩ (by assumption))).trans (by first | (simp; done) | assumption | (simp [go_sem]; done) | (simp [*]; done)); have z1 : w3.frozen? ⟨w.heap.size + 1, 1, none⟩ = false := (hcall.frozen (p := ⟨w.heap.size + 1, 1, none⟩) (by first | (simp; done) | exact World.block_lt_of_cell? _ ⟨w.heap.size + 1, 0, none⟩ (by assumption))).trans (by first | (simp; done) | assumption | (simp [go_sem]; done) | (simp [*]; done)); clear hcall; obtain ⟨pp, cc, rfl, hrd⟩ := own_read hv; clear hv) | (at_make; refine wpList_make_full _ rfl _ _ 67 rfl w3.heap.size 69 i0 _ 2 Try.underlying67 hi hz0 hz1 .i64 .i64 n n n rfl rfl rfl rfl ?c1 ?c2 ?c3 ?_))
    case c1 => rw [hz2]; omega
    case c2 => unfold maxLen; omega
    case c3 => exact Nat.le_refl _
    intro w4 hown hg4
    rw [mixD_zero es n HES.out] at hown
    have hlt3 : w.heap.size + 1 < w3.heap.size := World.block_lt_of_cell? _ _ r0
    have hb4 : Below w3.heap.size w3 w4 := (Below.refl w3.heap.size w3).grown hg4 (Nat.le_refl _) (by simp)
    have r0_4 := below_cell2 hb4 r0
    have r1_4 := below_cell2 hb4 r1
    have z0_4 : w4.frozen? ⟨w.heap.size + 1, 0, none⟩ = false := (hb4.frozen (p := ⟨w.heap.size + 1, 0, none⟩) (World.block_lt_of_cell? _ _ r0)).trans z0
    have z1_4 : w4.frozen? ⟨w.heap.size + 1, 1, none⟩ = false := (hb4.frozen (p := ⟨w.heap.size + 1, 1, none⟩) (World.block_lt_of_cell? _ _ r1)).trans z1
    have hbw4 := hbw.trans (hb4.mono (by omega))
    have hsz4 := hb4.size
    have HRD := Lib.hid (fun (k : Nat) (hk : k < n) => hrd k (by rw [hzl]; exact hk))
    clear hg4 q1 q2 r0 r1 z0 z1 hrd hbw
    go_wp2_with fail
    go_loopw [26] (fun v wr => ∃ k : Nat, k ≤ n ∧ v = .int .i64 k ∧ wr.ownsRow w3.heap.size 69 2 (.slice (some ⟨w3.heap.size, 0, none⟩) n n) n (flatD (mixD es k)) ∧ Below w3.heap.size w3 wr ∧ Below w.heap.size w wr ∧ wr.cell? ⟨w.heap.size + 1, 0, none⟩ = some (.int .i64 0) ∧ wr.cell? ⟨w.heap.size + 1, 1, none⟩ = some (.int .i64 0) ∧ wr.frozen? ⟨w.heap.size + 1, 0, none⟩ = false ∧ wr.frozen? ⟨w.heap.size + 1, 1, none⟩ = false) (fun v _ => n - (intOf v).toNat)
    case atStart => exact ⟨0, Nat.zero_le _, rfl, hown, hb4, hbw4, r0_4, r1_4, z0_4, z1_4⟩
    case round =>
      clear r0_4 r1_4 z0_4 z1_4 hown hbw4 hb4
      obtain ⟨k, hk, rfl, hr, hbr, hb, r0, r1, z0, z1⟩ := hrel
      have hsz := hb.size
      have hRr := hbr.size
      by_cases hlt : k < n
      · obtain ⟨p1, p2⟩ := (hI.kept hb hbl) k (by rw [HL.out]; exact hlt)
        obtain ⟨ga, rfl, hga, hG⟩ := HRD.out k hlt
        have hc : wr.cell? ⟨ga, k, none⟩ = some (.int .i64 (zs.getD k 0)) := by have := (hG.kept hbr hga) k (by omega); rwa [Nat.zero_add] at this
        have haB := HAG.out k hlt
        have haN := HAN.out k hlt
        have hdB := HDB.out k hlt
        have HTV := Lib.hid (show nxtB (y, d) (at2 ds k) = ((at2 ds k).1 + (ageD (at2 ds k) (y, d) + 1), (at2 ds k).2) from rfl)
        have hzk := HZ.out k hlt
        rw [hzk] at hc
        clear hG hzk
        generalize hRe : w3.heap.size = R at *
        clear hRe
        revert HTV
        generalize ageD (at2 ds k) (y, d) = a at hc haB haN ⊢
        generalize (at2 ds k).1 = ye at p1 hdB ⊢
        generalize (at2 ds k).2 = de at p2 hdB ⊢
        intro HTV
        have HAT := Lib.hid (show at2 es k = (ye + (a + 1), de) by rw [HEA.out k hlt]; exact HTV.out)
        have k1 : IntKind.i64.wrap (a + 1) = a + 1 := IntWalk.i64_in _ (by omega)
        have HM := Lib.hid (mixD_step es k (ye + (a + 1)) de (by rw [HES.out]; exact hlt) HAT.out)
        have HK' := Lib.hid (fun W => imBirthdayOf_any ye de (a + 1) W (mid_of (by omega) (by omega)) (mid_of (by omega) (by omega)))
        have hrq := World.ownsRow.alloc hr (.cells #[.int .i64 ye, .int .i64 de] 34)
        have hbq := hb.alloc hsz (.cells #[.int .i64 ye, .int .i64 de] 34)
        have hbR := hbr.alloc hRr (.cells #[.int .i64 ye, .int .i64 de] 34)
        have hszq := hbq.size
        have hRq : R ≤ (wr.alloc (.cells #[.int .i64 ye, .int .i64 de] 34)).heap.size := by simp; omega
        have r0q := cell_above r0 (.cells #[.int .i64 ye, .int .i64 de] 34)
        have r1q := cell_above r1 (.cells #[.int .i64 ye, .int .i64 de] 34)
        have z0q := frozen_above r0 z0 (.cells #[.int .i64 ye, .int .i64 de] 34)
        have z1q := frozen_above r1 z1 (.cells #[.int .i64 ye, .int .i64 de] 34)
        have xcq := cell_above hc (.cells #[.int .i64 ye, .int .i64 de] 34)
        have x0q : (wr.alloc (.cells #[.int .i64 ye, .int .i64 de] 34)).cell? ⟨wr.heap.size, 0, none⟩ = some (.int .i64 ye) := by simp [go_sem]
        have x1q : (wr.alloc (.cells #[.int .i64 ye, .int .i64 de] 34)).cell? ⟨wr.heap.size, 1, none⟩ = some (.int .i64 de) := by simp [go_sem]
        obtain ⟨u0, hu0⟩ : ∃ u, (flatD (mixD es k))[k * 2]? = some u := ⟨_, (flatD_at _ k (by rw [mixD_len _ _ (by rw [HES.out]; omega), HES.out]; exact hlt)).1⟩
        obtain ⟨u1, hu1⟩ : ∃ u, (flatD (mixD es k))[k * 2 + 1]? = some u := ⟨_, (flatD_at _ k (by rw [mixD_len _ _ (by rw [HES.out]; omega), HES.out]; exact hlt)).2⟩
        have HU0 := Lib.hid hu0
        have HU1 := Lib.hid hu1
        clear hu0 hu1 hr hb hbr r0 r1 z0 z1
        go_wp2_with fail
        generalize hwq : wr.alloc (.cells #[.int .i64 ye, .int .i64 de] 34) = wq at hrq hbq hbR hszq hRq r0q r1q z0q z1q xcq x0q x1q ⊢
        generalize wr.heap.size = g at x0q x1q ⊢
        clear hwq
        go_region_with (go_at_call 57; refine (HK'.out _).mono ?_; rintro e w2 ⟨rfl, hcall⟩; have hb2 : Below wq.heap.size wq w2 := (by first | exact hcall | exact ((Below.refl wq.heap.size wq).drew).trans (hcall.mono (by simp))); have hr2 := World.ownsRow.kept hrq (below_grown hb2 none) (.inr (by simp [Value.ownBlock])); have hd0 := (World.ownsRow.cellAt hr2 (k * 2) (by omega)).trans HU0.out; have hd1 := (World.ownsRow.cellAt hr2 (k * 2 + 1) (by omega)).trans HU1.out; have hf0 := World.ownsRow.frozenAt hr2 (k * 2); have hf1 := World.ownsRow.frozenAt hr2 (k * 2 + 1); have HS := Lib.hid (World.ownsRow.stored (World.ownsRow.stored hr2 (k * 2) (.int .i64 (ye + (a + 1)))).1 (k * 2 + 1) (.int .i64 de)); have hbq2 := hbq.trans (hb2.mono hszq); have hbR2 := hbR.trans (hb2.mono hRq); have r0' := below_cell2 hb2 r0q; have r1' := below_cell2 hb2 r1q; have z0' : w2.frozen? ⟨w.heap.size + 1, 0, none⟩ = false := (hb2.frozen (p := ⟨w.heap.size + 1, 0, none⟩) (World.block_lt_of_cell? _ _ r0q)).trans z0q; have z1' : w2.frozen? ⟨w.heap.size + 1, 1, none⟩ = false := (hb2.frozen (p := ⟨w.heap.size + 1, 1, none⟩) (World.block_lt_of_cell? _ _ r1q)).trans z1q; clear hcall hr2)
        all_goals
          go_wp2_with fail
          go_roundw
          case rel => exact ⟨k + 1, by omega, by go_num, HM.out ▸ HS.out.1, (hbR2.setCell (Nat.le_refl _) _).setCell (Nat.le_refl _) _, (hbq2.setCell (show w.heap.size ≤ R by omega) _).setCell (show w.heap.size ≤ R by omega) _, by simp [go_sem, *], by simp [go_sem, *], by simp [go_sem, *], by simp [go_sem, *]⟩
          case measure => simp [intOf]; omega
      · have hkn : k = n := by omega
        subst hkn
        have hfull : mixD es k = es := by have := mixD_all es; rwa [HES.out] at this
        rw [hfull] at hr
        have hlen := HES.out
        obtain ⟨-, -, hRlt, -, hD, -⟩ := OwnD.shape (T := 69) (B := w3.heap.size) (show OwnD 69 w3.heap.size wr (.slice (some ⟨w3.heap.size, 0, none⟩) k k) es by unfold OwnD; rw [HES.out]; exact hr)
        have HPM := Lib.hid (fun (j : Nat) (hj : j < k) => (show midI (at2 es j).1 ∧ midI (at2 es j).2 by rw [HEA.out j hj]; exact nxtB_mid (HDB.out j hj) (HAG.out j hj)))
        have HMIN := Lib.hid (fun (W : World) (h : Below wr.heap.size wr W) => imMinDay_any w3.heap.size 0 k k es W HES.out (by omega) (by omega) (hD.kept h hRlt) (by have := h.size; omega) HPM.out)
        have HTL := Lib.hid (fun (W : World) (h : Below wr.heap.size wr W) => tell_any w3.heap.size 0 k k es (pickTo lessT es (k - 1)).1 (pickTo lessT es (k - 1)).2 W HES.out (by omega) (hD.kept h hRlt) (by have := h.size; omega))
        rw [show ((pickTo lessT es (k - 1)).1, (pickTo lessT es (k - 1)).2) = pickTo lessT es (k - 1) from rfl, ← HP.out] at HTL
        rw [← HP.out] at HMIN
        clear hD hr
        generalize nxP ds (y, d) = p at HMIN HTL HE
        obtain ⟨py, pd⟩ := p
        have hgood := HE.out
        revert hgood
        generalize hPq : dateOf (py, pd) = q at HTL
        obtain ⟨qy, qd⟩ := q
        generalize hLq : tellL es (py, pd) = ls at HTL
        generalize hBq : dateB (py, pd) = bq at HTL
        intro hgood
        simp only at HMIN HTL
        go_wp2_with (first | (go_at_call 59; refine (HMIN.out _ (Below.refl _ _)).mono ?_; rintro e w5 ⟨rfl, hc5⟩) | (go_at_call 58; refine (HTL.out _ hc5).mono ?_; rintro e w6 ⟨v6, rfl, hv6, hc6⟩; have hc56 := hc5.trans (hc6.mono hc5.size); have r0' := below_cell2 hc56 r0; have r1' := below_cell2 hc56 r1; have z0' : w6.frozen? ⟨w.heap.size + 1, 0, none⟩ = false := (hc56.frozen (p := ⟨w.heap.size + 1, 0, none⟩) (World.block_lt_of_cell? _ _ r0)).trans z0; have z1' : w6.frozen? ⟨w.heap.size + 1, 1, none⟩ = false := (hc56.frozen (p := ⟨w.heap.size + 1, 1, none⟩) (World.block_lt_of_cell? _ _ r1)).trans z1; obtain ⟨pp6, cc6, rfl⟩ := own_slice hv6))
        obtain ⟨s0, s1⟩ := two_cells r0' r1'
        have hbw6 := hb.trans (hc56.mono hsz)
        have hlt5 : w.heap.size + 2 ≤ w5.heap.size := by have := hc5.size; omega
        refine bodyPost_ret (v := .tuple #[.agg #[.int .i64 qy, .int .i64 qd], .slice pp6 ls.length cc6, .bool bq]) (by simp [results, Try.results30, go_sem, s0, s1]) rfl ?_
        exact next_end (n := k) (qy, qd) ls bq hgood ((own_under2 (hv6.mono hlt5) (by omega)).mono (by omega)) ((hbw6.setCell (by simp <;> omega) _).setCell (by simp <;> omega) _)

theorem nextL_len (ds : List Dt) (o : Dt) : (nextL ds o).length ≤ 1048576 := by
  cases h : allBorn ds o with
  | false => rw [(next_no h).2.1]; simp
  | true =>
    rw [(next_pick h).2.1]
    unfold tellL
    split
    · have := whoEq_len (ds.map (nxtB o)) (nxP ds o) (ds.map (nxtB o)).length
      have h8 := birthsB_len (allBorn_parts h).1
      rw [List.length_map] at this
      rw [List.length_map]
      omega
    · simp
theorem nextBirthday_both (ds : List Dt) (y1 d1 : Int) : ∃ p rs ok, rs.length ≤ 1048576 ∧
    (∀ b c w, ds.length ≤ 1048576 → b < w.heap.size → Dts w b 0 ds → Calls Try.prog 29 #[.slice (some ⟨b, 0, none⟩) ds.length c, .agg #[.int .i64 y1, .int .i64 d1]] w (RetDLV p rs ok w)) ∧
    (∀ b c w, ds.length ≤ 1048576 → b < w.heap.size → Dts w b 0 ds → Calls Try.prog 30 #[.slice (some ⟨b, 0, none⟩) ds.length c, .agg #[.int .i64 y1, .int .i64 d1]] w (RetDLV p rs ok w)) :=
  ⟨_, _, _, nextL_len ds (y1, d1), fun b c w _ hb h => specNextBirthday_any b 0 ds.length c ds y1 d1 w rfl h hb, fun b c w _ hb h => imNextBirthday_any b 0 ds.length c ds y1 d1 w rfl h hb⟩

end Go.Proofs.Ytbhceokapbnhhaa
