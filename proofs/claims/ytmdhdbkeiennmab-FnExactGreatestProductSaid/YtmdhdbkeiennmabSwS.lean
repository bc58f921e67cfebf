/- setsWhen, with the question of loop.example/g01369/impl.SetsApart$1. -/
import Derived.Test.YtmdhdbkeiennmabSrS
import Derived.Test.YtmdhdbkeiennmabRowsAdd
set_option linter.unusedVariables false
set_option linter.unusedSimpArgs false
namespace Go.Proofs.Ytmdhdbkeiennmab
open Go.RowKit

theorem StS.keepS {B U : Nat} {w w' : World} {g cp gs gc gh n : Nat} {set : List Int} {c : Nat} {hv : Value} (h : StS B w g cp gs gc gh n set c hv) (hk : ∀ k, k < U → w'.heap[k]? = w.heap[k]?) (h1 : g < U) (h2 : gs < U) (h3 : gc < U) (h4 : gh < U) : StS B w' g cp gs gc gh n set c hv where
  vs := (World.cell?_of_block (w := w) (hk gs h2)).trans h.vs
  vc := (World.cell?_of_block (w := w) (hk gc h3)).trans h.vc
  vh := (World.cell?_of_block (w := w) (hk gh h4)).trans h.vh
  fc := (World.frozen?_of_block (w := w) (hk gc h3)).trans h.fc
  row := by
    have hr := h.row
    refine ⟨hr.1, ?_⟩
    rcases hr.2 with h5 | ⟨q, cap, cur, hv', hq, hc, r⟩
    · exact .inl h5
    · have hq2 : q = g := by simp only [Value.slice.injEq, Option.some.injEq, Addr.mk.injEq, and_true] at hv'; exact hv'.1.symm
      refine .inr ⟨q, cap, cur, hv', hq, ?_, r⟩
      rw [hk q (by omega)]; exact hc
  cpn := h.cpn
  ds := h.ds
  dc := h.dc
  dh := h.dh
  es := h.es
  eh := h.eh
  bs := h.bs
  bc := h.bc
  bh := h.bh

theorem boxS {W : World} {k : Nat} {v : Value} {t : TypeId} (h : W.heap[k]? = some (.cells #[v] t (0, 0))) : W.cell? ⟨k, 0, none⟩ = some v ∧ W.frozen? ⟨k, 0, none⟩ = false := by
  refine ⟨by simp [World.cell?, h], by simp [World.frozen?, h]⟩
theorem box_newS {W : World} {k : Nat} {A : Obj} (hk : k = W.heap.size) : (W.alloc A).heap[k]? = some A := by
  subst hk; exact heap_alloc_new W A
theorem box_oldS {W : World} {k : Nat} {A : Obj} (h : W.heap[k]? = some A) (H : Obj) : (W.alloc H).heap[k]? = some A := by
  rw [Below.heap_alloc _ _ _ (lt_of_block h)]; exact h
/-- searchFrom returned the search; its state lies behind it. -/
def RetFromS (q0 q1 q2 : Nat) (B g cp n : Nat) (set : List Int) (c : Nat) (w : World) (e : Ending) (w' : World) : Prop :=
  ∃ gs gc gh, e = .returned (.func (.func 75) #[] #[.pointer (some ⟨gs, 0, none⟩), .pointer (some ⟨gc, 0, none⟩), .pointer (some ⟨gh, 0, none⟩)]) ∧
    StS B w' g cp gs gc gh n set c (.func (.func 60) #[] #[.pointer (some ⟨q0, 0, none⟩), .pointer (some ⟨q1, 0, none⟩), .pointer (some ⟨q2, 0, none⟩)]) ∧ Below w.heap.size w w' ∧ gs < w'.heap.size ∧ gc < w'.heap.size ∧ gh < w'.heap.size

set_option maxHeartbeats 1600000 in
theorem searchFromS_any (q0 q1 q2 : Nat) (B g cp n c : Nat) (set : List Int) (w : World) (hO : Own B w (.slice (some ⟨g, 0, none⟩) n cp) set) (hB : B ≤ w.heap.size) :
    Calls Try.prog 63 #[.slice (some ⟨g, 0, none⟩) n cp, .int .i64 c, (.func (.func 60) #[] #[.pointer (some ⟨q0, 0, none⟩), .pointer (some ⟨q1, 0, none⟩), .pointer (some ⟨q2, 0, none⟩)])] w (RetFromS q0 q1 q2 B g cp n set c w) := by
  have HS := Lib.hid hO.shape
  have HO := Lib.hid hO
  clear hO
  go_enter Try.func63, Try.ntmps63
  go_wp2
  go_ret
  refine ⟨w.heap.size, w.heap.size + 1, w.heap.size + 2, ?_, ?_, ?_, ?_, ?_, ?_⟩
  · simp
  · have hg := HS.out.2.2.1
    refine ⟨?_, ?_, ?_, ?_, ?_, HS.out.2.2.2.1, by omega, by omega, by omega, by omega, by omega, hB, by omega, by omega⟩
    · exact (boxS (box_oldS (box_oldS (box_newS rfl) _) _)).1
    · exact (boxS (box_oldS (box_newS (by simp)) _)).1
    · exact (boxS (box_newS (by simp))).1
    · exact (boxS (box_oldS (box_newS (by simp)) _)).2
    · exact World.ownsRow.alloc (World.ownsRow.alloc (World.ownsRow.alloc HO.out _) _) _
  · exact (((Below.refl w.heap.size w).alloc (Nat.le_refl _) _).alloc (by simp) _).alloc (by simp; omega) _
  · first | (simp; omega) | simp
  · first | (simp; omega) | simp
  · first | (simp; omega) | simp

def lenVS : Value → Nat | .slice _ n _ => n | _ => 0
theorem ownSS_lenS {B U : Nat} {w : World} {v : Value} {vs : List Value} {rss : List (List Int)} (h : OwnSS B U w v vs rss) : lenVS v = rss.length := by
  rcases h.cases with ⟨rfl, rfl⟩ | ⟨g, c, rfl, _⟩
  · rfl
  · rfl
/-- What stands in the variables of the loop: the sets so far, the next one, whether there is one. -/
def LoopS (q0 q1 q2 : Nat) (B U : Nat) (p : List Int → Bool) (g cp gs gc gh n : Nat) (all : List (List Int)) (w1 : World) (v6 v7 v8 : Value) (wr : World) : Prop :=
  ∃ (D : List (List Int)) (vs : List Value) (Ud : Nat), OwnSS U Ud wr v6 vs D ∧ U ≤ Ud ∧ Ud ≤ wr.heap.size ∧ Went B U w1 wr ∧
    ((v8 = .bool false ∧ D = all) ∨
     ∃ s R set', v8 = .bool true ∧ all = D ++ s :: R ∧ Own Ud wr v7 s ∧ StS B wr g cp gs gc gh n set' (n - 1) (.func (.func 60) #[] #[.pointer (some ⟨q0, 0, none⟩), .pointer (some ⟨q1, 0, none⟩), .pointer (some ⟨q2, 0, none⟩)]) ∧ OkS n set' (n - 1) ∧ rest p n set' (n - 1) = R ∧ v7 ≠ .slice none 0 0)

theorem OwnSS.monoBS {B B' U : Nat} {w : World} {v : Value} {vs : List Value} {rss : List (List Int)} (h : OwnSS B U w v vs rss) (hB : B' ≤ B) (U' : Nat) (hU : U ≤ U') : OwnSS B' U' w v vs rss := by
  refine ⟨h.len, ?_, fun g hg => Nat.lt_of_lt_of_le (h.obl g hg) hU, fun i hi => (h.row i hi).mono hB, fun i hi g hg => Nat.lt_of_lt_of_le (h.rbl i hi g hg) hU, h.apart⟩
  obtain ⟨h1, h2⟩ := h.outer
  refine ⟨h1, ?_⟩
  rcases h2 with h2 | ⟨g, cap, cur, hv, hg, r⟩
  · exact .inl h2
  · exact .inr ⟨g, cap, cur, hv, Nat.le_trans hB hg, r⟩
/-- Behind a call of the search. -/
theorem loopS_next (q0 q1 q2 : Nat) {B U : Nat} {p : List Int → Bool} {g cp gs gc gh n : Nat} {all D : List (List Int)} {vs : List Value} {Ud : Nat} {w1 wr w2 : World} {v6 : Value} {set : List Int} {c : Nat} (hD : OwnSS U Ud wr v6 vs D) (hU : U ≤ Ud) (hUd : Ud ≤ wr.heap.size) (hw : Went B U w1 wr) (hall : all = D ++ rest p n set c) {e : Ending} (h : RetS B U p g cp gs gc gh n set c (.func (.func 60) #[] #[.pointer (some ⟨q0, 0, none⟩), .pointer (some ⟨q1, 0, none⟩), .pointer (some ⟨q2, 0, none⟩)]) wr e w2) :
    ∃ v7 b, e = .returned (.tuple #[v7, .bool b]) ∧ LoopS q0 q1 q2 B U p g cp gs gc gh n all w1 v6 v7 (.bool b) w2 := by
  rcases h with ⟨hr, rfl, hw2⟩ | ⟨s, R, v, set', hr, rfl, ho, hnn, hst, hok, hrest, hw2⟩
  · refine ⟨_, _, rfl, D, vs, Ud, hD.keep (fun k h1 h2 => hw2.high k h1 (by omega)), hU, Nat.le_trans hUd hw2.size, hw.trans hw2, Or.inl ⟨rfl, ?_⟩⟩
    rw [hall, hr, List.append_nil]
  · refine ⟨_, _, rfl, D, vs, Ud, hD.keep (fun k h1 h2 => hw2.high k h1 (by omega)), hU, Nat.le_trans hUd hw2.size, hw.trans hw2, Or.inr ⟨s, R, set', rfl, ?_, ho.mono hUd, hst, hok, hrest, hnn⟩⟩
    rw [hall, hr]

set_option maxHeartbeats 8000000 in
set_option maxRecDepth 100000 in
theorem setsWhenS_any (q0 q1 q2 : Nat) (n : Nat) (p : List Int → Bool) (w : World) (hn : n ≤ 4) (h1 : 1 ≤ n) (hlen : (tree p n 20 []).length ≤ 160000)
    (HH0 : HoldsS q0 q1 q2 w.heap.size w.heap.size n n p w) :
    Calls Try.prog 59 #[.int .i64 n, (.func (.func 60) #[] #[.pointer (some ⟨q0, 0, none⟩), .pointer (some ⟨q1, 0, none⟩), .pointer (some ⟨q2, 0, none⟩)])] w (RetSets (tree p n 20 []) w) := by
  obtain ⟨i0, hi, hz0, hz1, hz2⟩ := info_parts infoInt
  obtain ⟨j0, hj, jz0, jz1, jz2⟩ := info_parts infoSlice
  have HH := Lib.hid HH0
  clear HH0
  have HF := Lib.hid (rest_first p n)
  generalize tree p n 20 [] = all at HF hlen ⊢
  go_enter Try.func59, Try.ntmps59
  go_wp2_with (first | (at_make; refine wpList_make_full _ rfl _ _ 22 rfl w.heap.size 3 i0 (.int .i64 0) 1 Try.underlying22 hi hz0 hz1 .i64 .i64 n n n rfl rfl rfl rfl ?c1 ?c2 ?c3 ?_))
  case c1 => rw [hz2]; omega
  case c2 => unfold maxLen; omega
  case c3 => exact Nat.le_refl _
  intro w1 hown hg
  have hOwn1 : Own w.heap.size w1 (.slice (some ⟨w.heap.size, 0, none⟩) n n) (List.replicate n (0 : Int)) := by
    unfold Own
    have hrep : (madeCells #[Value.int IntKind.i64 0] n).toList = (List.replicate n (0 : Int)).map (Value.int .i64) := by rw [toList_madeCells_one]; simp
    rw [List.length_replicate, ← hrep]
    simpa using hown
  have hb1 : Below w.heap.size w w1 := (Below.refl _ _).grown hg (Nat.le_refl _) (by simp)
  have HO1 := Lib.hid hOwn1
  have hs1 := hb1.size
  clear hown hg hOwn1
  go_wp2_with (go_at_call 63; refine (searchFromS_any q0 q1 q2 w.heap.size w.heap.size n n 0 (List.replicate n 0) w1 HO1.out hs1).mono ?_; rintro e w2 ⟨gs, gc, gh, rfl, hst, hb2, l1, l2, l3⟩)
  have hb12 := hb1.trans (hb2.mono hs1)
  have hs2 := hb2.size
  have hlg : w.heap.size < w2.heap.size := by
    have := HO1.out.shape.2.2.1
    omega
  have HSr := Lib.hid (fun (W : World) (set : List Int) (c : Nat) (hbw : Below w.heap.size w2 W) (hS : StS w.heap.size W w.heap.size n gs gc gh n set c (.func (.func 60) #[] #[.pointer (some ⟨q0, 0, none⟩), .pointer (some ⟨q1, 0, none⟩), .pointer (some ⟨q2, 0, none⟩)])) (hO : OkS n set c) => searchS_any q0 q1 q2 w.heap.size w2.heap.size w.heap.size n gs gc gh n c p set W hn hS hO hlg l2 hbw.size (Nat.le_refl _) (by omega) (fun W2 hb => HH.out W2 (hb12.trans (hbw.trans hb))))
  have hO0 : OkS n (List.replicate n (0 : Int)) 0 := by
    refine ⟨by simp, by omega, fun i hi => absurd hi (by omega), ?_⟩
    have : (List.replicate n (0 : Int)).getD 0 0 = 0 := by cases n <;> simp
    rw [this]; omega
  have HN := Lib.hid (fun (all D : List (List Int)) (vs : List Value) (Ud : Nat) (wr w3 : World) (v6 : Value) (set : List Int) (c : Nat) (hD : OwnSS w2.heap.size Ud wr v6 vs D) (hU : w2.heap.size ≤ Ud) (hUd : Ud ≤ wr.heap.size) (hw : Went w.heap.size w2.heap.size w2 wr) (hall : all = D ++ rest p n set c) (e : Ending) (h : RetS w.heap.size w2.heap.size p w.heap.size n gs gc gh n set c (.func (.func 60) #[] #[.pointer (some ⟨q0, 0, none⟩), .pointer (some ⟨q1, 0, none⟩), .pointer (some ⟨q2, 0, none⟩)]) wr e w3) => loopS_next q0 q1 q2 (w1 := w2) hD hU hUd hw hall h)
  have HST := Lib.hid hst
  clear hst hb1 hb2 HO1
  have HC0 := Lib.hid ((HSr.out w2 _ 0 (Below.refl _ _) HST.out hO0).mono (fun e w3 hret => HN.out all _ _ _ _ _ _ _ _ (ownSS_nil w2.heap.size w2.heap.size w2) (Nat.le_refl _) (Nat.le_refl _) (Went.refl _ _ _) (by rw [← HF.out]; rfl) _ hret))
  go_wp2_with (go_at_call 75; refine (HC0.out).mono ?_; rintro e w3 ⟨v7, b, rfl, hloop⟩)
  have HLoop := Lib.hid hloop
  clear hloop
  go_wp2
  go_loopw [6, 7, 8] (fun v6 v7 v8 wr => Hid (LoopS q0 q1 q2 w.heap.size w2.heap.size p w.heap.size n gs gc gh n all w2 v6 v7 v8 wr) ∧ ∃ b, v8 = .bool b) (fun v6 _ _ _ => all.length - lenVS v6)
  case atStart => exact ⟨HLoop, _, rfl⟩
  case round =>
    obtain ⟨HL, b2, rfl⟩ := hrel
    cases b2 with
    | false =>
      go_wp2
      go_ret
      obtain ⟨D, vs, Ud, hD, hU, hUd, hw, hor⟩ := HL.out
      rcases hor with ⟨_, rfl⟩ | ⟨s, R, set', hb, _⟩
      · exact ⟨u6, vs, rfl, hD.monoBS (Nat.le_of_lt hlg) _ hUd, hb12.trans hw.low⟩
      · simp at hb
    | true =>
      obtain ⟨D, vs, Ud, hD, hU, hUd, hw, hor⟩ := HL.out
      rcases hor with ⟨hb, _⟩ | ⟨s, R, set', _, hall, hown7, hst, hok, hrest, hnn⟩
      · simp at hb
      rcases hown7.cases with ⟨rfl, _⟩ | ⟨g7, c7, rfl, _⟩
      · exact absurd rfl hnn
      have hlD : D.length + 1 ≤ all.length := by rw [hall]; simp
      have HA := Lib.hid (show all = (D ++ [s]) ++ rest p n set' (n - 1) by rw [hrest, hall]; simp)
      have hLv := Lib.hid (ownSS_lenS hD)
      have HD := Lib.hid hD
      have HW := Lib.hid hw
      have H7 := Lib.hid hown7
      have HST2 := Lib.hid hst
      have HVL := Lib.hid hD.len
      have hout := hD.outer
      have hone := oneU hown7
      have hsW := hw.size
      clear hD hw hall hrest hst hown7 hnn
      go_wp2_with (first | (at_builtin; refine wpList_append_own _ rfl _ _ 35 rfl w2.heap.size 22 j0 (.slice none 0 0) 1 24 Try.underlying35 hj jz0 jz1 jz2 rfl (by decide) _ _ _ rfl (World.ownsRow.alloc hout _) ⟨wr.heap.size, 0, none⟩ 1 1 [.slice (some ⟨g7, 0, none⟩) s.length c7] rfl rfl (newCellAt _ _ _ _ rfl) hone ?c4 ?c5 ?c6 ?_))
      case c4 => have := HVL.out; unfold maxLen; omega
      case c5 => have := HVL.out; omega
      case c6 => have := HVL.out; simp; omega
      intro v' w4 hown' hgrow _
      have hb3 : Below w2.heap.size wr w4 := ((Below.refl w2.heap.size wr).alloc hsW _).grown hgrow (by simp; omega) (fun k hk => (World.ownsRow.lt hout k hk).1)
      have hb3s := hb3.size
      have hD3 := (HD.out).pushRow hU hUd H7.out hown' hgrow
      have HL3 := Lib.hid (ownSS_lenS hD3)
      have hS3 := (HST2.out).keepS (w' := w4) (fun k hk => hb3.block k hk) hlg l1 l2 l3
      have hW3 : Went w.heap.size w2.heap.size w2 w4 := ⟨(HW.out).low.trans (hb3.mono (Nat.le_of_lt hlg)), fun k h1 h2 => (hb3.block k (by omega)).trans ((HW.out).high k h1 h2)⟩
      have HC := Lib.hid ((HSr.out w4 _ _ hW3.low hS3 hok).mono (fun e w5 hret => HN.out all _ _ _ _ _ _ _ _ hD3 (by omega) (Nat.le_refl _) hW3 (HA.out) _ hret))
      clear hown' hgrow hD3 hS3 hW3 hb3 hout hone HA HD HST2 H7 HW HL
      go_wp2_with (go_at_call 75; refine (HC.out).mono ?_; rintro e w5 ⟨v7', b', rfl, hloop'⟩)
      have HLoop' := Lib.hid hloop'
      clear hloop'
      go_wp2
      go_roundw
      case rel => exact ⟨HLoop', _, rfl⟩
      case measure =>
        have e1 := hLv.out
        have e2 := HL3.out
        simp only [List.length_append, List.length_singleton] at e2
        simp [e1, e2]
        omega
end Go.Proofs.Ytmdhdbkeiennmab
