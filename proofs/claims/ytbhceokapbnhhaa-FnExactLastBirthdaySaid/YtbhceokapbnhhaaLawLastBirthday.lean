/- The statement on LastBirthday, walked over the contracts of what it calls. -/
import Derived.Test.YtbhceokapbnhhaaNx5
import Derived.Test.YtbhceokapbnhhaaDateHelp2
import Derived.Test.YtbhceokapbnhhaaDatePair
import Derived.Deep.CutRange
set_option linter.unusedVariables false
set_option linter.unusedSimpArgs false
namespace Go.Proofs.Ytbhceokapbnhhaa
open Go.RowKit

theorem cell_grownAway {w w' : World} {g b o : Nat} {v : Value} (hg : w.grownBy w' (some g)) (hne : g ≠ b) (h : w.cell? ⟨b, o, none⟩ = some v) : w'.cell? ⟨b, o, none⟩ = some v :=
  (World.cell?_of_block (w := w) (a := ⟨b, o, none⟩) (hg.block b (World.block_lt_of_cell? w _ h) (fun e => by simp at e; omega))).trans h
theorem bvA {w w' : World} {A : Obj} (h : Below (w.alloc A).heap.size (w.alloc A) w') : Below w.heap.size w w' := ((Below.refl w.heap.size w).alloc (Nat.le_refl _) A).trans (h.mono (by simp))
theorem bvD {w w' : World} (h : Below w.drew.heap.size w.drew w') : Below w.heap.size w w' := (Below.refl w.heap.size w).drew.trans h
theorem bvDA {w w' : World} {A : Obj} (h : Below (w.drew.alloc A).heap.size (w.drew.alloc A) w') : Below w.heap.size w w' := bvD (bvA h)
theorem bvAD {w w' : World} {A : Obj} (h : Below (w.alloc A).drew.heap.size (w.alloc A).drew w') : Below w.heap.size w w' := bvA (bvD h)
theorem PairAt.keptDrew {w w' : World} {B g : Nat} {a b : Value} (h : PairAt w B g a b) (hb : Below w.drew.heap.size w.drew w') : PairAt w' B g a b :=
  h.kept ⟨hb.os, hb.tape, hb.output, hb.size, hb.block⟩
theorem PairAt.lt {w : World} {B g : Nat} {a b : Value} (h : PairAt w B g a b) : g < w.heap.size := World.block_lt_of_cell? _ ⟨g, 0, none⟩ h.c0
theorem PairAt.newD1 {w w' : World} {B : Nat} {a b : Value} {t : TypeId} (h : Below (w.drew.alloc (.cells #[a, b] t)).heap.size (w.drew.alloc (.cells #[a, b] t)) w') (hB : B ≤ w.heap.size) : PairAt w' B w.heap.size a b := PairAt.new (w := w.drew) h hB
theorem below_call2 {w a b c : World} {B : Nat} (h : Below B w a) (k : Below a.heap.size a b) (l : Below b.heap.size b c) (hB : B ≤ w.heap.size := by exact Nat.le_refl _) : Below B w c :=
  (h.trans (k.mono (Nat.le_trans hB h.size))).trans (l.mono (Nat.le_trans hB (h.trans (k.mono (Nat.le_trans hB h.size))).size))
/-- An answer stays owned behind two stores into a variable that was there before, or is made behind it. -/
theorem own_st_new {w w' : World} {a b : Value} {t : TypeId} {v : Value} {zs : List Int} (h : Own (w.alloc (.cells #[a, b] t)).heap.size w' v zs) : ∀ x y, Own w.heap.size ((w'.setCell ⟨w.heap.size, 0, none⟩ x).setCell ⟨w.heap.size, 1, none⟩ y) v zs :=
  fun x y => (own_under2 h (by simp)).mono (by simp)
theorem own_st_newD {w w' : World} {a b : Value} {t : TypeId} {v : Value} {zs : List Int} (h : Own (w.alloc (.cells #[a, b] t)).drew.heap.size w' v zs) : ∀ x y, Own w.heap.size ((w'.setCell ⟨w.heap.size, 0, none⟩ x).setCell ⟨w.heap.size, 1, none⟩ y) v zs :=
  fun x y => (own_under2 h (by simp)).mono (by simp)
theorem own_st_newD1 {w w' : World} {a b : Value} {t : TypeId} {v : Value} {zs : List Int} (h : Own (w.drew.alloc (.cells #[a, b] t)).heap.size w' v zs) : ∀ x y, Own w.heap.size ((w'.setCell ⟨w.heap.size, 0, none⟩ x).setCell ⟨w.heap.size, 1, none⟩ y) v zs :=
  fun x y => (own_under2 h (by simp)).mono (by simp)
theorem own_st_kept {w w' : World} {B g : Nat} {a b : Value} {v : Value} {zs : List Int} (hp : PairAt w B g a b) (h : Own w.heap.size w' v zs) : ∀ x y, Own w.heap.size ((w'.setCell ⟨g, 0, none⟩ x).setCell ⟨g, 1, none⟩ y) v zs :=
  fun x y => own_under2 h hp.lt
theorem own_st_keptD {w w' : World} {B g : Nat} {a b : Value} {v : Value} {zs : List Int} (hp : PairAt w B g a b) (h : Own w.drew.heap.size w' v zs) : ∀ x y, Own w.heap.size ((w'.setCell ⟨g, 0, none⟩ x).setCell ⟨g, 1, none⟩ y) v zs :=
  fun x y => own_under2 h hp.lt
set_option maxHeartbeats 8000000 in
set_option maxRecDepth 100000 in
theorem law_LastBirthday_of (a : Option Addr) (n c : Nat) (ds : List Dt) (y1 d1 : Int) (p : Dt) (rs : List Int) (ok : Bool) (hrs : rs.length ≤ 1048576) (w : World) (h : ArgD w a n ds) (hm : n ≤ maxLen)
    (hs : ∀ b c w, ds.length ≤ 1048576 → b < w.heap.size → Dts w b 0 ds → Calls Try.prog 32 #[.slice (some ⟨b, 0, none⟩) ds.length c, .agg #[.int .i64 y1, .int .i64 d1]] w (RetDLV p rs ok w))
    (hi : ∀ b c w, ds.length ≤ 1048576 → b < w.heap.size → Dts w b 0 ds → Calls Try.prog 33 #[.slice (some ⟨b, 0, none⟩) ds.length c, .agg #[.int .i64 y1, .int .i64 d1]] w (RetDLV p rs ok w)) :
    Calls Try.prog 8 #[.slice a n c, .agg #[.int .i64 y1, .int .i64 d1]] w (Ret (.bool true) w) := by
  obtain ⟨u1, u2⟩ := p
  obtain ⟨hl, h2⟩ := h
  subst hl
  have h : ArgD w a ds.length ds := ⟨rfl, h2⟩
  have HS := Lib.hid hs
  have HI := Lib.hid hi
  have hbw : Below w.heap.size w (w.alloc (.cells #[.int .i64 y1, .int .i64 d1] 30)) := (Below.refl w.heap.size w).alloc (Nat.le_refl _) (.cells #[.int .i64 y1, .int .i64 d1] 30)
  clear h2 hs hi
  by_cases hn : 1048576 < ds.length
  · go_enter Try.func8, Try.ntmps8
    go_wp2_with (go_at_call 13; refine (szDateS_great _ _ _ _ hn hm).mono ?_; rintro e w' ⟨rfl, rfl⟩)
    go_ret
    exact ⟨rfl, hbw⟩
  have hn' : ds.length ≤ 1048576 := by omega
  have hleft : ¬ (1048576 : Int) - (ds.length : Int) < 0 := by omega
  have hmark : ¬ (1 : Int) + 2 * (ds.length : Int) < 0 := by omega
  clear hm
  go_enter Try.func8, Try.ntmps8
  go_upto_region 5 with (go_at_call 13; refine (szDateS_any _ _ _ _ hn').mono ?_; rintro e w' ⟨rfl, rfl⟩)
  have q1 : (w.alloc (.cells #[.int .i64 y1, .int .i64 d1] 30)).cell? ⟨w.heap.size, 0, none⟩ = some (.int .i64 y1) := by simp [go_sem]
  have q2 : (w.alloc (.cells #[.int .i64 y1, .int .i64 d1] 30)).cell? ⟨w.heap.size, 1, none⟩ = some (.int .i64 d1) := by simp [go_sem]
  generalize (w.alloc (.cells #[.int .i64 y1, .int .i64 d1] 30)) = wq at hbw q1 q2 ⊢
  go_cut [6, 7, 8] from 24 to 32 (fun v0 v1 v2 wx => ∃ g, v0 = .pointer (some ⟨g, 0, none⟩) ∧ v2 = .bool ok ∧ Own w.heap.size wx v1 rs ∧ wx.cell? ⟨g, 0, none⟩ = some (.int .i64 u1) ∧ wx.cell? ⟨g, 1, none⟩ = some (.int .i64 u2) ∧ Below w.heap.size w wx ∧ wx.cell? ⟨w.heap.size, 0, none⟩ = some (.int .i64 y1) ∧ wx.cell? ⟨w.heap.size, 1, none⟩ = some (.int .i64 d1))
  case first =>
    have hwlt : w.heap.size < wq.heap.size := World.block_lt_of_cell? _ ⟨w.heap.size, 0, none⟩ q1
    go_region_held3 (fun w' => Below w.heap.size w w' ∧ w'.cell? ⟨w.heap.size, 0, none⟩ = some (.int .i64 y1) ∧ w'.cell? ⟨w.heap.size, 1, none⟩ = some (.int .i64 d1))
      (first
        | (exact ⟨hbw, q1, q2⟩)
        | (go_split_ands
           refine ⟨?_, ?_, ?_⟩
           · exact (by first | assumption | exact Below.drew (by assumption) | exact Below.trans (by assumption) (Below.mono hcall (Below.size (by assumption))) | exact Below.trans (Below.drew (by assumption)) (Below.mono hcall (Below.size (Below.drew (by assumption)))) | exact Below.alloc (by assumption) (Below.size (by assumption)) _ | exact Below.alloc (Below.drew (by assumption)) (Below.size (Below.drew (by assumption))) _ | exact hp.below (by assumption) (by omega) | exact hp.below (Below.drew (by assumption)) (by omega) | exact below_call2 (by assumption) (by assumption) hcall)
           · exact (by first | assumption | (simp; assumption) | exact below_cell2 hcall (by first | assumption | (simp; assumption)) | exact cell_above (by first | assumption | (simp; assumption)) _ | exact hp.other (by omega) (by first | assumption | (simp; assumption)) | exact below_cell2 hcall (cell_above (by first | assumption | (simp; assumption)) _) | exact below_cell2 hcall (below_cell2 (by assumption) (by first | assumption | (simp; assumption))))
           · exact (by first | assumption | (simp; assumption) | exact below_cell2 hcall (by first | assumption | (simp; assumption)) | exact cell_above (by first | assumption | (simp; assumption)) _ | exact hp.other (by omega) (by first | assumption | (simp; assumption)) | exact below_cell2 hcall (cell_above (by first | assumption | (simp; assumption)) _) | exact below_cell2 hcall (below_cell2 (by assumption) (by first | assumption | (simp; assumption))))))
      (first | (go_at_call 15; refine (toDateS_any _ _ _ ds _ (h.kept (by first | assumption | exact Below.drew (by assumption) | exact Below.alloc (by assumption) (Below.size (by assumption)) _ | exact Below.alloc (Below.drew (by assumption)) (Below.size (Below.drew (by assumption))) _ | exact Below.drew (Below.alloc (by assumption) (Below.size (by assumption)) _))) hn').mono ?_; rintro e w' ⟨gS, hgS, rfl, ho1, hcall⟩; have hbz : Below w.heap.size w w' := (by first | exact Below.trans (by assumption) (Below.mono hcall (Below.size (by assumption))) | exact Below.trans (Below.drew (by assumption)) (Below.mono hcall (Below.size (Below.drew (by assumption)))) | exact Below.trans (Below.alloc (by assumption) (Below.size (by assumption)) _) (Below.mono hcall (Below.size (Below.alloc (by assumption) (Below.size (by assumption)) _))) | exact Below.trans (Below.drew (Below.alloc (by assumption) (Below.size (by assumption)) _)) (Below.mono hcall (Below.size (Below.drew (Below.alloc (by assumption) (Below.size (by assumption)) _)))) | exact Below.trans (Below.alloc (Below.drew (by assumption)) (Below.size (Below.drew (by assumption))) _) (Below.mono hcall (Below.size (Below.alloc (Below.drew (by assumption)) (Below.size (Below.drew (by assumption))) _)))); have n_q1 : w'.cell? ⟨w.heap.size, 0, none⟩ = some (.int .i64 y1) := below_cell2 hcall (by first | assumption | (simp; assumption) | exact cell_above (by first | assumption | (simp; assumption)) _); have n_q2 : w'.cell? ⟨w.heap.size, 1, none⟩ = some (.int .i64 d1) := below_cell2 hcall (by first | assumption | (simp; assumption) | exact cell_above (by first | assumption | (simp; assumption)) _); (first | (have hp2 := PairAt.newD1 (B := w.heap.size + 1) hcall (by exact (World.block_lt_of_cell? _ ⟨w.heap.size, 0, none⟩ (by first | assumption | (simp; assumption)))); have hp := hp2; clear hp2) | (have hp2 := PairAt.new (B := w.heap.size + 1) hcall (by exact (World.block_lt_of_cell? _ ⟨w.heap.size, 0, none⟩ (by first | assumption | (simp; assumption)))); have hp := hp2; clear hp2) | (have hp2 := PairAt.newDrew (B := w.heap.size + 1) hcall (by exact (World.block_lt_of_cell? _ ⟨w.heap.size, 0, none⟩ (by first | assumption | (simp; assumption)))); have hp := hp2; clear hp2) | (have hp2 := PairAt.kept (B := w.heap.size + 1) hp hcall; have hp := hp2; clear hp2) | (have hp2 := PairAt.keptDrew (B := w.heap.size + 1) hp hcall; have hp := hp2; clear hp2) | skip); (first | (have hp0 := hp.c0; have hp1 := hp.c1; have hpf0 := hp.f0; have hpf1 := hp.f1) | skip); have hd0 := ho1.shape.2.2.2.2.1; have hl0 := ho1.shape.2.2.1; clear ho1) | (go_at_call_of 19 (Value.int IntKind.i64 y1); refine (toDate_any y1 d1 _).mono ?_; rintro e w' ⟨rfl, hcall⟩; have hbz : Below w.heap.size w w' := (by first | exact Below.trans (by assumption) (Below.mono hcall (Below.size (by assumption))) | exact Below.trans (Below.drew (by assumption)) (Below.mono hcall (Below.size (Below.drew (by assumption)))) | exact Below.trans (Below.alloc (by assumption) (Below.size (by assumption)) _) (Below.mono hcall (Below.size (Below.alloc (by assumption) (Below.size (by assumption)) _))) | exact Below.trans (Below.drew (Below.alloc (by assumption) (Below.size (by assumption)) _)) (Below.mono hcall (Below.size (Below.drew (Below.alloc (by assumption) (Below.size (by assumption)) _)))) | exact Below.trans (Below.alloc (Below.drew (by assumption)) (Below.size (Below.drew (by assumption))) _) (Below.mono hcall (Below.size (Below.alloc (Below.drew (by assumption)) (Below.size (Below.drew (by assumption))) _)))); have n_q1 : w'.cell? ⟨w.heap.size, 0, none⟩ = some (.int .i64 y1) := below_cell2 hcall (by first | assumption | (simp; assumption) | exact cell_above (by first | assumption | (simp; assumption)) _); have n_q2 : w'.cell? ⟨w.heap.size, 1, none⟩ = some (.int .i64 d1) := below_cell2 hcall (by first | assumption | (simp; assumption) | exact cell_above (by first | assumption | (simp; assumption)) _); (first | (have hp2 := PairAt.newD1 (B := w.heap.size + 1) hcall (by exact (World.block_lt_of_cell? _ ⟨w.heap.size, 0, none⟩ (by first | assumption | (simp; assumption)))); have hp := hp2; clear hp2) | (have hp2 := PairAt.new (B := w.heap.size + 1) hcall (by exact (World.block_lt_of_cell? _ ⟨w.heap.size, 0, none⟩ (by first | assumption | (simp; assumption)))); have hp := hp2; clear hp2) | (have hp2 := PairAt.newDrew (B := w.heap.size + 1) hcall (by exact (World.block_lt_of_cell? _ ⟨w.heap.size, 0, none⟩ (by first | assumption | (simp; assumption)))); have hp := hp2; clear hp2) | (have hp2 := PairAt.kept (B := w.heap.size + 1) hp hcall; have hp := hp2; clear hp2) | (have hp2 := PairAt.keptDrew (B := w.heap.size + 1) hp hcall; have hp := hp2; clear hp2) | skip); (first | (have hp0 := hp.c0; have hp1 := hp.c1; have hpf0 := hp.f0; have hpf1 := hp.f1) | skip); (first | (have hdy := Dts.kept hd0 (by first | exact hcall | exact bvA hcall | exact bvD hcall | exact bvDA hcall | exact bvAD hcall) hl0; have hly := Nat.lt_of_lt_of_le hl0 (Below.size (show Below _ _ w' from (by first | exact hcall | exact bvA hcall | exact bvD hcall | exact bvDA hcall | exact bvAD hcall))); clear hd0 hl0; have hd0 := hdy; have hl0 := hly; clear hdy hly) | skip)) | (go_at_call 32; refine (HS.out _ _ _ hn' (by first | exact hl0 | (simp; omega)) (by first | exact hd0 | exact hd0.kept ((Below.refl _ _).alloc (Nat.le_refl _) _) hl0)).mono ?_; rintro e w' ⟨vs, rfl, hr2, hcall⟩; have hbz : Below w.heap.size w w' := (by first | exact Below.trans (by assumption) (Below.mono hcall (Below.size (by assumption))) | exact Below.trans (Below.drew (by assumption)) (Below.mono hcall (Below.size (Below.drew (by assumption)))) | exact Below.trans (Below.alloc (by assumption) (Below.size (by assumption)) _) (Below.mono hcall (Below.size (Below.alloc (by assumption) (Below.size (by assumption)) _))) | exact Below.trans (Below.drew (Below.alloc (by assumption) (Below.size (by assumption)) _)) (Below.mono hcall (Below.size (Below.drew (Below.alloc (by assumption) (Below.size (by assumption)) _)))) | exact Below.trans (Below.alloc (Below.drew (by assumption)) (Below.size (Below.drew (by assumption))) _) (Below.mono hcall (Below.size (Below.alloc (Below.drew (by assumption)) (Below.size (Below.drew (by assumption))) _)))); have n_q1 : w'.cell? ⟨w.heap.size, 0, none⟩ = some (.int .i64 y1) := below_cell2 hcall (by first | assumption | (simp; assumption) | exact cell_above (by first | assumption | (simp; assumption)) _); have n_q2 : w'.cell? ⟨w.heap.size, 1, none⟩ = some (.int .i64 d1) := below_cell2 hcall (by first | assumption | (simp; assumption) | exact cell_above (by first | assumption | (simp; assumption)) _); (first | (have how := own_st_newD1 hr2; have hp2 := PairAt.newD1 (B := w.heap.size + 1) hcall (by exact (World.block_lt_of_cell? _ ⟨w.heap.size, 0, none⟩ (by first | assumption | (simp; assumption)))); have hp := hp2; clear hp2) | (have how := own_st_new hr2; have hp2 := PairAt.new (B := w.heap.size + 1) hcall (by exact (World.block_lt_of_cell? _ ⟨w.heap.size, 0, none⟩ (by first | assumption | (simp; assumption)))); have hp := hp2; clear hp2) | (have how := own_st_newD hr2; have hp2 := PairAt.newDrew (B := w.heap.size + 1) hcall (by exact (World.block_lt_of_cell? _ ⟨w.heap.size, 0, none⟩ (by first | assumption | (simp; assumption)))); have hp := hp2; clear hp2) | (have how := own_st_kept hp hr2; have hp2 := PairAt.kept (B := w.heap.size + 1) hp hcall; have hp := hp2; clear hp2) | (have how := own_st_keptD hp hr2; have hp2 := PairAt.keptDrew (B := w.heap.size + 1) hp hcall; have hp := hp2; clear hp2) | skip); (first | (have hp0 := hp.c0; have hp1 := hp.c1; have hpf0 := hp.f0; have hpf1 := hp.f1) | skip)))
    all_goals
      obtain ⟨hbz, z1, z2⟩ := ‹Below w.heap.size w _ ∧ _›
      go_wp2_with fail
      go_meet
      first
        | exact ⟨_, rfl, rfl, (by first | exact Own.mono (how _ _) (by first | exact Below.size (B := w.heap.size) (by assumption) | exact Nat.le_refl _ | exact Below.size (B := w.heap.size) (Below.drew (by assumption)) | omega | (simp; omega)) | exact Own.mono (World.ownsRow.alloc hr2 _) (by first | exact Below.size (B := w.heap.size) (by assumption) | omega | (simp; omega))), hp.stored.1, hp.stored.2, hbz, z1, z2⟩
        | exact ⟨_, rfl, rfl, (by first | exact Own.mono (how _ _) (by first | exact Below.size (B := w.heap.size) (by assumption) | exact Nat.le_refl _ | exact Below.size (B := w.heap.size) (Below.drew (by assumption)) | omega | (simp; omega)) | exact Own.mono (World.ownsRow.alloc hr2 _) (by first | exact Below.size (B := w.heap.size) (by assumption) | omega | (simp; omega))), by simp [go_sem], by simp [go_sem], hbz, z1, z2⟩
  case rest =>
  obtain ⟨g1, rfl, rfl, hr2, c1, c2, hb1, q1, q2⟩ := hcut
  clear hbw
  have hbw := hb1
  have hzq : w.heap.size < wc.heap.size := World.block_lt_of_cell? _ ⟨w.heap.size, 0, none⟩ q1
  have hzg : g1 < wc.heap.size := World.block_lt_of_cell? _ ⟨g1, 0, none⟩ c1
  go_wp2_with fail
  refine (toDateS_any _ _ _ ds _ (h.kept hbw) hn').mono ?_
  rintro e w3 ⟨g3, hg3, rfl, ho3, hb3⟩
  have hb3' := hbw.trans (hb3.mono hbw.size)
  replace q1 := below_cell2 hb3 q1
  replace q2 := below_cell2 hb3 q2
  replace c1 := below_cell2 hb3 c1
  replace c2 := below_cell2 hb3 c2
  go_wp2_with fail
  refine (toDate_any y1 d1 _).mono ?_
  rintro e w3a ⟨rfl, hb3a⟩
  have hb3a' := hb3'.trans (hb3a.mono hb3'.size)
  have ho3a := ho3.kept hb3a
  replace q1 := below_cell2 hb3a q1
  replace q2 := below_cell2 hb3a q2
  replace c1 := below_cell2 hb3a c1
  replace c2 := below_cell2 hb3a c2
  go_wp2_with fail
  refine (HI.out _ _ _ hn' ho3a.shape.2.2.1 ho3a.shape.2.2.2.2.1).mono ?_
  rintro e w4 ⟨vi, rfl, hr4, hb4⟩
  have hb4' := hb3a'.trans (hb4.mono hb3a'.size)
  have ho4 := ho3a.kept hb4
  replace q1 := below_cell2 hb4 q1
  replace q2 := below_cell2 hb4 q2
  replace c1 := below_cell2 hb4 c1
  replace c2 := below_cell2 hb4 c2
  have hs4 := ((hr2.kept hb3).kept hb3a).kept hb4
  have hlt3 := ho3a.shape.2.2.1
  have hz1 := hbw.size
  have hz3 := hb3'.size
  have hz4 := hb4.size
  have hz3a := hb3a.size
  have hz3b := hb3.size
  have hal : Below w4.heap.size w4 (w4.alloc (.cells #[.int .i64 u1, .int .i64 u2] 34)) := (Below.refl _ _).alloc (Nat.le_refl _) _
  have hb4b := hb4'.trans (hal.mono hb4'.size)
  have ho4b := ho4.kept hal
  have hr4b := hr4.kept hal
  have hs4b := hs4.kept hal
  have y1' := cell_above q1
  have y2' := cell_above q2
  have y3' := cell_above c1
  have y4' := cell_above c2
  have e1 : (w4.alloc (.cells #[.int .i64 u1, .int .i64 u2] 34)).cell? ⟨w4.heap.size, 0, none⟩ = some (.int .i64 u1) := by simp [go_sem]
  have e2 : (w4.alloc (.cells #[.int .i64 u1, .int .i64 u2] 34)).cell? ⟨w4.heap.size, 1, none⟩ = some (.int .i64 u2) := by simp [go_sem]
  go_wp2_with fail
  refine (eqDate_same u1 u2 _).mono ?_
  rintro e w4c ⟨rfl, hb4c⟩
  have hb4c' := hb4b.trans (hb4c.mono hb4b.size)
  replace q1 := below_cell2 hb4c (y1' _)
  replace q2 := below_cell2 hb4c (y2' _)
  replace c1 := below_cell2 hb4c (y3' _)
  replace c2 := below_cell2 hb4c (y4' _)
  replace e1 := below_cell2 hb4c e1
  replace e2 := below_cell2 hb4c e2
  clear y1' y2' y3' y4'
  have ho4c := ho4b.kept hb4c
  have hr4c := hr4b.kept hb4c
  have hs4c := hs4b.kept hb4c
  have hz4c := hb4c.size
  clear hal ho4b hr4b hs4b hs4
  go_wp2_with fail
  refine (eqIntS_any _ _ _ _ rs _ hrs hr4c hs4c).mono ?_
  rintro e w5 ⟨rfl, hb5⟩
  have hb5' := hb4c'.trans (hb5.mono hb4c'.size)
  replace q1 := below_cell2 hb5 q1
  replace q2 := below_cell2 hb5 q2
  replace c1 := below_cell2 hb5 c1
  replace c2 := below_cell2 hb5 c2
  replace e1 := below_cell2 hb5 e1
  replace e2 := below_cell2 hb5 e2
  go_wp2_with fail
  refine (toDateS_any _ _ _ ds _ (h.kept hb5') hn').mono ?_
  rintro e w6 ⟨g6, hg6, rfl, ho6, hb6⟩
  have hb6' := hb5'.trans (hb6.mono hb5'.size)
  replace q1 := below_cell2 hb6 q1
  replace q2 := below_cell2 hb6 q2
  replace c1 := below_cell2 hb6 c1
  replace c2 := below_cell2 hb6 c2
  replace e1 := below_cell2 hb6 e1
  replace e2 := below_cell2 hb6 e2
  have hx6 := (ho4c.kept hb5).kept hb6
  go_wp2_with fail
  refine (eqDateS_any _ _ _ _ _ _ ds _ hn' hx6 ho6).mono ?_
  rintro e w7 ⟨rfl, hb7⟩
  have hb7' := hb6'.trans (hb7.mono hb6'.size)
  replace q1 := below_cell2 hb7 q1
  replace q2 := below_cell2 hb7 q2
  replace c1 := below_cell2 hb7 c1
  replace c2 := below_cell2 hb7 c2
  replace e1 := below_cell2 hb7 e1
  replace e2 := below_cell2 hb7 e2
  have hx7 := hx6.kept hb7
  go_wp2_with fail
  -- the copy that was handed in is marked
  refine (markDateS_some _ _ _ _ ds _ _ rfl hn' (by omega) (by omega) hx7).mono ?_
  rintro e w8 ⟨rfl, hx8, hg8⟩
  have hb8' := below_grownAbove hb7' hg8 (Nat.le_trans hz1 hg3)
  have hi8 := ((hr4c.kept hb5).kept hb6).kept hb7 |>.grownLt hg8 hlt3
  have hs8 := ((hs4c.kept hb5).kept hb6).kept hb7 |>.grown hg8 (hr2.blockNe hg3)
  have e1g := cell_grownAway hg8 (show g3 ≠ w4.heap.size by omega) e1
  have e2g := cell_grownAway hg8 (show g3 ≠ w4.heap.size by omega) e2
  clear e1 e2
  have e1 := e1g
  have e2 := e2g
  clear e1g e2g
  replace q1 := cell_grown hg8 (by omega) q1
  replace q2 := cell_grown hg8 (by omega) q2
  replace c1 := cell_grown hg8 (by omega) c1
  replace c2 := cell_grown hg8 (by omega) c2
  go_wp2_with fail
  refine (eqDate_same u1 u2 _).mono ?_
  rintro e w8c ⟨rfl, hb8c⟩
  have hb8c' := hb8'.trans (hb8c.mono hb8'.size)
  have hi8c := hi8.kept hb8c
  have hs8c := hs8.kept hb8c
  replace q1 := below_cell2 hb8c q1
  replace q2 := below_cell2 hb8c q2
  replace c1 := below_cell2 hb8c c1
  replace c2 := below_cell2 hb8c c2
  replace e1 := below_cell2 hb8c e1
  replace e2 := below_cell2 hb8c e2
  go_wp2_with fail
  refine (eqIntS_any _ _ _ _ rs _ hrs hi8c hs8c).mono ?_
  rintro e w9 ⟨rfl, hb9⟩
  have hb9' := hb8c'.trans (hb9.mono hb8c'.size)
  replace q1 := below_cell2 hb9 q1
  replace q2 := below_cell2 hb9 q2
  replace c1 := below_cell2 hb9 c1
  replace c2 := below_cell2 hb9 c2
  replace e1 := below_cell2 hb9 e1
  replace e2 := below_cell2 hb9 e2
  have hi8 := hi8c
  have hs8 := hs8c
  go_wp2_with fail
  -- the answer is marked
  refine (markIntS_any _ _ rs _ _ hrs (by omega) (by omega) (hi8.kept hb9)).mono ?_
  rintro e w10 ⟨rfl, hi10, hg10⟩
  have hb10' := below_ownAbove hb9' (hi8.kept hb9) hg10 (Nat.le_trans hb3a'.size (Nat.le_refl _))
  replace q1 := cell_ownAbove (hi8.kept hb9) hg10 (by omega) q1
  replace q2 := cell_ownAbove (hi8.kept hb9) hg10 (by omega) q2
  replace c1 := cell_ownAbove (hi8.kept hb9) hg10 (by omega) c1
  replace c2 := cell_ownAbove (hi8.kept hb9) hg10 (by omega) c2
  clear e1 e2
  go_wp2_with fail
  refine (heldIntS_any _ _ rs _ _ hrs (by omega) (by omega) hi10).mono ?_
  rintro e w11 ⟨rfl, hb11⟩
  have hb11' := hb10'.trans (hb11.mono hb10'.size)
  replace q1 := below_cell2 hb11 q1
  replace q2 := below_cell2 hb11 q2
  replace c1 := below_cell2 hb11 c1
  replace c2 := below_cell2 hb11 c2
  have hs11 := ((hs8.kept hb9).grownV hg10 (hr2.ownNe (Nat.le_trans hb3.size hb3a.size) hr4)).kept hb11
  have hi11 := hi10.kept hb11
  have hz11 := hb11'.size
  have hbx := Below.refl w11.heap.size w11
  have hq11 : w.heap.size < w11.heap.size := World.block_lt_of_cell? _ ⟨w.heap.size, 0, none⟩ q1
  have hg11 : g1 < w11.heap.size := World.block_lt_of_cell? _ ⟨g1, 0, none⟩ c1
  clear hbw
  have hbw := hbx
  go_upto_region 24 with fail
  go_cut [16, 17, 18] from 96 to 104 (fun v0 v1 v2 wx => ∃ g, v0 = .pointer (some ⟨g, 0, none⟩) ∧ v2 = .bool ok ∧ Own w11.heap.size wx v1 rs ∧ wx.cell? ⟨g, 0, none⟩ = some (.int .i64 u1) ∧ wx.cell? ⟨g, 1, none⟩ = some (.int .i64 u2) ∧ Below w11.heap.size w11 wx ∧ wx.cell? ⟨g1, 0, none⟩ = some (.int .i64 u1) ∧ wx.cell? ⟨g1, 1, none⟩ = some (.int .i64 u2))
  case first =>
    go_region_held3 (fun w' => Below w11.heap.size w11 w' ∧ w'.cell? ⟨g1, 0, none⟩ = some (.int .i64 u1) ∧ w'.cell? ⟨g1, 1, none⟩ = some (.int .i64 u2) ∧ w'.cell? ⟨w.heap.size, 0, none⟩ = some (.int .i64 y1) ∧ w'.cell? ⟨w.heap.size, 1, none⟩ = some (.int .i64 d1))
      (first
        | (exact ⟨hbw, c1, c2, q1, q2⟩)
        | (go_split_ands
           refine ⟨?_, ?_, ?_, ?_, ?_⟩
           · exact (by first | assumption | exact Below.drew (by assumption) | exact Below.trans (by assumption) (Below.mono hcall (Below.size (by assumption))) | exact Below.trans (Below.drew (by assumption)) (Below.mono hcall (Below.size (Below.drew (by assumption)))) | exact Below.alloc (by assumption) (Below.size (by assumption)) _ | exact Below.alloc (Below.drew (by assumption)) (Below.size (Below.drew (by assumption))) _ | exact hp.below (by assumption) (by omega) | exact hp.below (Below.drew (by assumption)) (by omega) | exact below_call2 (by assumption) (by assumption) hcall)
           · exact (by first | assumption | (simp; assumption) | exact below_cell2 hcall (by first | assumption | (simp; assumption)) | exact cell_above (by first | assumption | (simp; assumption)) _ | exact hp.other (by omega) (by first | assumption | (simp; assumption)) | exact below_cell2 hcall (cell_above (by first | assumption | (simp; assumption)) _) | exact below_cell2 hcall (below_cell2 (by assumption) (by first | assumption | (simp; assumption))))
           · exact (by first | assumption | (simp; assumption) | exact below_cell2 hcall (by first | assumption | (simp; assumption)) | exact cell_above (by first | assumption | (simp; assumption)) _ | exact hp.other (by omega) (by first | assumption | (simp; assumption)) | exact below_cell2 hcall (cell_above (by first | assumption | (simp; assumption)) _) | exact below_cell2 hcall (below_cell2 (by assumption) (by first | assumption | (simp; assumption))))
           · exact (by first | assumption | (simp; assumption) | exact below_cell2 hcall (by first | assumption | (simp; assumption)) | exact cell_above (by first | assumption | (simp; assumption)) _ | exact hp.other (by omega) (by first | assumption | (simp; assumption)) | exact below_cell2 hcall (cell_above (by first | assumption | (simp; assumption)) _) | exact below_cell2 hcall (below_cell2 (by assumption) (by first | assumption | (simp; assumption))))
           · exact (by first | assumption | (simp; assumption) | exact below_cell2 hcall (by first | assumption | (simp; assumption)) | exact cell_above (by first | assumption | (simp; assumption)) _ | exact hp.other (by omega) (by first | assumption | (simp; assumption)) | exact below_cell2 hcall (cell_above (by first | assumption | (simp; assumption)) _) | exact below_cell2 hcall (below_cell2 (by assumption) (by first | assumption | (simp; assumption))))))
      (first | (go_at_call 15; refine (toDateS_any _ _ _ ds _ (h.kept (by first | exact hb11' | exact hb11'.drew | exact hb11'.trans ((by assumption : Below w11.heap.size w11 _).mono hb11'.size) | exact hb11'.trans ((by assumption : Below w11.heap.size w11 _).drew.mono hb11'.size) | exact hb11'.alloc hb11'.size _ | exact hb11'.drew.alloc hb11'.drew.size _ | exact (hb11'.alloc hb11'.size _).drew | exact Below.alloc (hb11'.trans ((by assumption : Below w11.heap.size w11 _).mono hb11'.size)) (Below.size (hb11'.trans ((by assumption : Below w11.heap.size w11 _).mono hb11'.size))) _)) hn').mono ?_; rintro e w' ⟨gS, hgS, rfl, ho1, hcall⟩; have hbz : Below w11.heap.size w11 w' := (by first | exact Below.trans (by assumption) (Below.mono hcall (Below.size (by assumption))) | exact Below.trans (Below.drew (by assumption)) (Below.mono hcall (Below.size (Below.drew (by assumption)))) | exact Below.trans (Below.alloc (by assumption) (Below.size (by assumption)) _) (Below.mono hcall (Below.size (Below.alloc (by assumption) (Below.size (by assumption)) _))) | exact Below.trans (Below.drew (Below.alloc (by assumption) (Below.size (by assumption)) _)) (Below.mono hcall (Below.size (Below.drew (Below.alloc (by assumption) (Below.size (by assumption)) _)))) | exact Below.trans (Below.alloc (Below.drew (by assumption)) (Below.size (Below.drew (by assumption))) _) (Below.mono hcall (Below.size (Below.alloc (Below.drew (by assumption)) (Below.size (Below.drew (by assumption))) _)))); have n_c1 : w'.cell? ⟨g1, 0, none⟩ = some (.int .i64 u1) := below_cell2 hcall (by first | assumption | (simp; assumption) | exact cell_above (by first | assumption | (simp; assumption)) _); have n_c2 : w'.cell? ⟨g1, 1, none⟩ = some (.int .i64 u2) := below_cell2 hcall (by first | assumption | (simp; assumption) | exact cell_above (by first | assumption | (simp; assumption)) _); have n_q1 : w'.cell? ⟨w.heap.size, 0, none⟩ = some (.int .i64 y1) := below_cell2 hcall (by first | assumption | (simp; assumption) | exact cell_above (by first | assumption | (simp; assumption)) _); have n_q2 : w'.cell? ⟨w.heap.size, 1, none⟩ = some (.int .i64 d1) := below_cell2 hcall (by first | assumption | (simp; assumption) | exact cell_above (by first | assumption | (simp; assumption)) _); (first | (have hp2 := PairAt.newD1 (B := w11.heap.size) hcall (Below.size (by assumption)); have hp := hp2; clear hp2) | (have hp2 := PairAt.new (B := w11.heap.size) hcall (Below.size (by assumption)); have hp := hp2; clear hp2) | (have hp2 := PairAt.newDrew (B := w11.heap.size) hcall (Below.size (by assumption)); have hp := hp2; clear hp2) | (have hp2 := PairAt.kept (B := w11.heap.size) hp hcall; have hp := hp2; clear hp2) | (have hp2 := PairAt.keptDrew (B := w11.heap.size) hp hcall; have hp := hp2; clear hp2) | skip); (first | (have hp0 := hp.c0; have hp1 := hp.c1; have hpf0 := hp.f0; have hpf1 := hp.f1) | skip); have hd0 := ho1.shape.2.2.2.2.1; have hl0 := ho1.shape.2.2.1; clear ho1) | (go_at_call_of 19 (Value.int IntKind.i64 y1); refine (toDate_any y1 d1 _).mono ?_; rintro e w' ⟨rfl, hcall⟩; have hbz : Below w11.heap.size w11 w' := (by first | exact Below.trans (by assumption) (Below.mono hcall (Below.size (by assumption))) | exact Below.trans (Below.drew (by assumption)) (Below.mono hcall (Below.size (Below.drew (by assumption)))) | exact Below.trans (Below.alloc (by assumption) (Below.size (by assumption)) _) (Below.mono hcall (Below.size (Below.alloc (by assumption) (Below.size (by assumption)) _))) | exact Below.trans (Below.drew (Below.alloc (by assumption) (Below.size (by assumption)) _)) (Below.mono hcall (Below.size (Below.drew (Below.alloc (by assumption) (Below.size (by assumption)) _)))) | exact Below.trans (Below.alloc (Below.drew (by assumption)) (Below.size (Below.drew (by assumption))) _) (Below.mono hcall (Below.size (Below.alloc (Below.drew (by assumption)) (Below.size (Below.drew (by assumption))) _)))); have n_c1 : w'.cell? ⟨g1, 0, none⟩ = some (.int .i64 u1) := below_cell2 hcall (by first | assumption | (simp; assumption) | exact cell_above (by first | assumption | (simp; assumption)) _); have n_c2 : w'.cell? ⟨g1, 1, none⟩ = some (.int .i64 u2) := below_cell2 hcall (by first | assumption | (simp; assumption) | exact cell_above (by first | assumption | (simp; assumption)) _); have n_q1 : w'.cell? ⟨w.heap.size, 0, none⟩ = some (.int .i64 y1) := below_cell2 hcall (by first | assumption | (simp; assumption) | exact cell_above (by first | assumption | (simp; assumption)) _); have n_q2 : w'.cell? ⟨w.heap.size, 1, none⟩ = some (.int .i64 d1) := below_cell2 hcall (by first | assumption | (simp; assumption) | exact cell_above (by first | assumption | (simp; assumption)) _); (first | (have hp2 := PairAt.newD1 (B := w11.heap.size) hcall (Below.size (by assumption)); have hp := hp2; clear hp2) | (have hp2 := PairAt.new (B := w11.heap.size) hcall (Below.size (by assumption)); have hp := hp2; clear hp2) | (have hp2 := PairAt.newDrew (B := w11.heap.size) hcall (Below.size (by assumption)); have hp := hp2; clear hp2) | (have hp2 := PairAt.kept (B := w11.heap.size) hp hcall; have hp := hp2; clear hp2) | (have hp2 := PairAt.keptDrew (B := w11.heap.size) hp hcall; have hp := hp2; clear hp2) | skip); (first | (have hp0 := hp.c0; have hp1 := hp.c1; have hpf0 := hp.f0; have hpf1 := hp.f1) | skip); (first | (have hdy := Dts.kept hd0 (by first | exact hcall | exact bvA hcall | exact bvD hcall | exact bvDA hcall | exact bvAD hcall) hl0; have hly := Nat.lt_of_lt_of_le hl0 (Below.size (show Below _ _ w' from (by first | exact hcall | exact bvA hcall | exact bvD hcall | exact bvDA hcall | exact bvAD hcall))); clear hd0 hl0; have hd0 := hdy; have hl0 := hly; clear hdy hly) | skip)) | (go_at_call 33; refine (HI.out _ _ _ hn' (by first | exact hl0 | (simp; omega)) (by first | exact hd0 | exact hd0.kept ((Below.refl _ _).alloc (Nat.le_refl _) _) hl0)).mono ?_; rintro e w' ⟨vs, rfl, hr2, hcall⟩; have hbz : Below w11.heap.size w11 w' := (by first | exact Below.trans (by assumption) (Below.mono hcall (Below.size (by assumption))) | exact Below.trans (Below.drew (by assumption)) (Below.mono hcall (Below.size (Below.drew (by assumption)))) | exact Below.trans (Below.alloc (by assumption) (Below.size (by assumption)) _) (Below.mono hcall (Below.size (Below.alloc (by assumption) (Below.size (by assumption)) _))) | exact Below.trans (Below.drew (Below.alloc (by assumption) (Below.size (by assumption)) _)) (Below.mono hcall (Below.size (Below.drew (Below.alloc (by assumption) (Below.size (by assumption)) _)))) | exact Below.trans (Below.alloc (Below.drew (by assumption)) (Below.size (Below.drew (by assumption))) _) (Below.mono hcall (Below.size (Below.alloc (Below.drew (by assumption)) (Below.size (Below.drew (by assumption))) _)))); have n_c1 : w'.cell? ⟨g1, 0, none⟩ = some (.int .i64 u1) := below_cell2 hcall (by first | assumption | (simp; assumption) | exact cell_above (by first | assumption | (simp; assumption)) _); have n_c2 : w'.cell? ⟨g1, 1, none⟩ = some (.int .i64 u2) := below_cell2 hcall (by first | assumption | (simp; assumption) | exact cell_above (by first | assumption | (simp; assumption)) _); have n_q1 : w'.cell? ⟨w.heap.size, 0, none⟩ = some (.int .i64 y1) := below_cell2 hcall (by first | assumption | (simp; assumption) | exact cell_above (by first | assumption | (simp; assumption)) _); have n_q2 : w'.cell? ⟨w.heap.size, 1, none⟩ = some (.int .i64 d1) := below_cell2 hcall (by first | assumption | (simp; assumption) | exact cell_above (by first | assumption | (simp; assumption)) _); (first | (have how := own_st_newD1 hr2; have hp2 := PairAt.newD1 (B := w11.heap.size) hcall (Below.size (by assumption)); have hp := hp2; clear hp2) | (have how := own_st_new hr2; have hp2 := PairAt.new (B := w11.heap.size) hcall (Below.size (by assumption)); have hp := hp2; clear hp2) | (have how := own_st_newD hr2; have hp2 := PairAt.newDrew (B := w11.heap.size) hcall (Below.size (by assumption)); have hp := hp2; clear hp2) | (have how := own_st_kept hp hr2; have hp2 := PairAt.kept (B := w11.heap.size) hp hcall; have hp := hp2; clear hp2) | (have how := own_st_keptD hp hr2; have hp2 := PairAt.keptDrew (B := w11.heap.size) hp hcall; have hp := hp2; clear hp2) | skip); (first | (have hp0 := hp.c0; have hp1 := hp.c1; have hpf0 := hp.f0; have hpf1 := hp.f1) | skip)))
    all_goals
      obtain ⟨hbz, z1, z2, z3, z4⟩ := ‹Below w11.heap.size w11 _ ∧ _›
      go_wp2_with fail
      go_meet
      first
        | exact ⟨_, rfl, rfl, (by first | exact Own.mono (how _ _) (by first | exact Below.size (B := w11.heap.size) (by assumption) | exact Nat.le_refl _ | exact Below.size (B := w11.heap.size) (Below.drew (by assumption)) | omega | (simp; omega)) | exact Own.mono (World.ownsRow.alloc hr2 _) (by first | exact Below.size (B := w11.heap.size) (by assumption) | omega | (simp; omega))), hp.stored.1, hp.stored.2, hbz, z1, z2⟩
        | exact ⟨_, rfl, rfl, (by first | exact Own.mono (how _ _) (by first | exact Below.size (B := w11.heap.size) (by assumption) | exact Nat.le_refl _ | exact Below.size (B := w11.heap.size) (Below.drew (by assumption)) | omega | (simp; omega)) | exact Own.mono (World.ownsRow.alloc hr2 _) (by first | exact Below.size (B := w11.heap.size) (by assumption) | omega | (simp; omega))), by simp [go_sem], by simp [go_sem], hbz, z1, z2⟩
  case rest =>
  obtain ⟨g13, rfl, rfl, hr13, e1, e2, hb13, c1, c2⟩ := hcut
  have hb13' := hb11'.trans (hb13.mono hb11'.size)
  go_wp2_with fail
  refine (eqDate_same u1 u2 _).mono ?_
  rintro e w13c ⟨rfl, hb13c⟩
  have hb13c' := hb13'.trans (hb13c.mono hb13'.size)
  go_wp2_with fail
  refine (eqIntS_any _ _ _ _ rs _ hrs (hr13.kept hb13c) ((hs11.kept hb13).kept hb13c)).mono ?_
  rintro e w14 ⟨rfl, hb14⟩
  have hb14' := hb13c'.trans (hb14.mono hb13c'.size)
  have hi14 := ((hi11.kept hb13).kept hb13c).kept hb14
  go_wp2_with fail
  refine (heldIntS_any _ _ rs _ _ hrs (by omega) (by omega) hi14).mono ?_
  rintro e w15 ⟨rfl, hb15⟩
  have hb15' := hb14'.trans (hb15.mono hb14'.size)
  go_wp2_with fail
  go_ret
  exact ⟨rfl, hb15'⟩

theorem law_LastBirthday (a : Option Addr) (n c : Nat) (ds : List Dt) (y1 d1 : Int) (w : World) (h : ArgD w a n ds) (hm : n ≤ maxLen) :
    Calls Try.prog 8 #[.slice a n c, .agg #[.int .i64 y1, .int .i64 d1]] w (Ret (.bool true) w) := by
  obtain ⟨p, rs, ok, hr, hs, hi⟩ := lastBirthday_both ds y1 d1
  exact law_LastBirthday_of a n c ds y1 d1 p rs ok hr w h hm hs hi
end Go.Proofs.Ytbhceokapbnhhaa
