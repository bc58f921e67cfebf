/- The model's copies of numbers; lists of sets that grow behind a pointer. -/
import Derived.Test.YtkkjbkagkmngkaaRowsAdd
import Derived.Laws.AppendOwnNone
set_option linter.unusedVariables false
set_option linter.unusedSimpArgs false
namespace Go.Proofs.Ytkkjbkagkmngkaa
open Go.RowKit

theorem ints_cells {w : World} {b off : Nat} {zs : List Int} (h : Ints w b off zs) : ∀ j u, (zs.map (Value.int .i64))[j]? = some u → w.cell? ((⟨b, off, none⟩ : Addr).add j) = some u := by
  intro j u hj
  rw [WideShapes.add_plain]
  have hlt : j < zs.length := by
    have := (List.getElem?_eq_some_iff.1 hj).1
    simpa using this
  rw [h j hlt, ← hj]
  simp [List.getElem?_eq_getElem hlt]
set_option maxHeartbeats 400000 in
theorem own_any (b off c : Nat) (zs : List Int) (w : World) (hn : zs.length ≤ 1048576) (hbl : b < w.heap.size) (hI : Ints w b off zs) :
    Calls Try.prog 60 #[.slice (some ⟨b, off, none⟩) zs.length c] w (RetOwn zs w) := by
  obtain ⟨i0, hi, hz0, hz1, hz2⟩ := info_parts infoInt
  have hI' := Lib.hid (hI.kept ((Below.refl w.heap.size w).alloc (Nat.le_refl _) (.cells #[] 3)) hbl)
  have hO := Lib.hid (World.ownsRow_lit (base := w.heap.size) (size := 1) (e := 3) w #[] 0 (Nat.le_refl _) (by unfold maxLen; omega) rfl)
  have HU := Lib.hid (ints_oneCell .i64 zs)
  have HLn : (zs.map (Value.int .i64)).length = zs.length * 1 := by simp
  generalize hxs : zs.map (Value.int .i64) = xs at HU HLn
  have HX := Lib.hid hxs
  have HC := Lib.hid (ints_cells hI'.out)
  rw [hxs] at HC
  clear hxs
  go_enter Try.func60, Try.ntmps60
  go_wp2_with (first | (at_builtin; refine wpList_append_own _ rfl _ _ 41 rfl w.heap.size 3 i0 _ 1 8 Try.underlying41 hi hz0 hz1 hz2 rfl (by decide) _ 0 [] rfl hO.out ⟨b, off, none⟩ zs.length c xs rfl HLn HC.out HU.out ?c3 ?c4 ?c5 ?_))
  case c3 => unfold maxLen; omega
  case c4 => omega
  intro v' w1 hown hgr _
  have hb : Below w.heap.size w w1 := (((Below.refl w.heap.size w).alloc (Nat.le_refl _) _).grown hgr (by simp) (by intro k hk; simp [Value.ownBlock] at hk; omega))
  have ho : Own w.heap.size w1 v' zs := by unfold Own; rw [HX.out]; exact hown
  clear hown hgr
  go_wp2_with fail
  go_ret
  exact ⟨_, rfl, ho, hb⟩
set_option maxHeartbeats 400000 in
theorem own_none (w : World) : Calls Try.prog 60 #[.slice none 0 0] w (RetOwn [] w) := by
  obtain ⟨i0, hi, hz0, hz1, hz2⟩ := info_parts infoInt
  have hO := Lib.hid (World.ownsRow_lit (base := w.heap.size) (size := 1) (e := 3) w #[] 0 (Nat.le_refl _) (by unfold maxLen; omega) rfl)
  go_enter Try.func60, Try.ntmps60
  go_wp2_with (first | (at_builtin; refine wpList_append_own_none rfl _ _ 41 rfl w.heap.size 3 i0 1 Try.underlying41 hi _ 0 [] rfl hO.out rfl ?_))
  go_wp2_with fail
  go_ret
  exact ⟨_, rfl, hO.out, (Below.refl w.heap.size w).alloc (Nat.le_refl _) _⟩
/-- A copy of numbers that a call owns. -/
theorem ownOf_any (B : Nat) (v : Value) (zs : List Int) (w : World) (hn : zs.length ≤ 1048576) (h : Own B w v zs) : Calls Try.prog 60 #[v] w (RetOwn zs w) := by
  rcases h.cases with ⟨rfl, rfl⟩ | ⟨g, c, rfl, h1, h2, h3, h4, hI, hF⟩
  · exact own_none w
  · exact own_any g 0 c zs w hn h2 hI

/-- No block of lists lies at k. -/
def NotSS (w : World) (k : Nat) : Prop := ∀ cs fr, w.heap[k]? ≠ some (.cells cs 41 fr)
/-- What the gathering leaves: all below B but for block go; of the rest all that is no list of lists. -/
structure ButO (B go : Nat) (w w' : World) : Prop where
  os : w'.os = w.os
  tape : w'.tape = w.tape
  output : w'.output = w.output
  size : w.heap.size ≤ w'.heap.size
  block : ∀ k, k < w.heap.size → k ≠ go → (k < B ∨ NotSS w k) → w'.heap[k]? = w.heap[k]?
theorem ButO.refl (B go : Nat) (w : World) : ButO B go w w := ⟨rfl, rfl, rfl, Nat.le_refl _, fun _ _ _ _ => rfl⟩
theorem ButO.trans {B go : Nat} {a b c : World} (h : ButO B go a b) (k : ButO B go b c) : ButO B go a c :=
  ⟨k.os.trans h.os, k.tape.trans h.tape, k.output.trans h.output, Nat.le_trans h.size k.size, fun i h1 h2 h3 => by
    have e := h.block i h1 h2 h3
    rw [← e]
    refine k.block i (Nat.lt_of_lt_of_le h1 h.size) h2 ?_
    rcases h3 with h3 | h3
    · exact .inl h3
    · refine .inr fun cs fr => ?_
      rw [e]; exact h3 cs fr⟩
theorem ButO.below {B go : Nat} {a b c : World} (h : ButO B go a b) (k : Below b.heap.size b c) : ButO B go a c :=
  h.trans ⟨k.os, k.tape, k.output, k.size, fun i h1 _ _ => k.block i h1⟩
theorem ButO.set {B go : Nat} {a b : World} (h : ButO B go a b) (i : Nat) (v : Value) : ButO B go a (b.setCell ⟨go, i, none⟩ v) :=
  h.trans ⟨rfl, rfl, rfl, by simp [World.setCell], fun k _ h2 _ => Below.heap_setCell b ⟨go, i, none⟩ v k (by simpa using h2)⟩
theorem ButO.drew {B go : Nat} {a b : World} (h : ButO B go a b) : ButO B go a b.drew := ⟨h.os, h.tape, h.output, h.size, h.block⟩
/-- A list of lists grows in its own block. -/
theorem ButO.grown {B go : Nat} {a b : World} {A : Obj} {v : Value} {n : Nat} {vs : List Value} (ho : a.ownsRow B 41 1 v n vs) (hg : (a.alloc A).grownBy b v.ownBlock) : ButO B go a b := by
  have hs := hg.size
  refine ⟨hg.os, hg.tape, hg.output, by simp at hs; omega, fun k h1 h2 h3 => ?_⟩
  have e := hg.block k (by simp; omega) (fun e => by
    have hlt := World.ownsRow.lt ho k e.symm
    rcases h3 with h3 | h3
    · omega
    · rcases ho.2 with ⟨h4, _⟩ | ⟨q, c, cur, h4, _, hc, _⟩
      · rw [h4] at e; simp [Value.ownBlock] at e
      · rw [h4] at e
        simp only [Value.ownBlock, Option.some.injEq] at e
        subst e
        exact h3 _ _ hc)
  rw [e, Below.heap_alloc _ _ _ h1]
theorem Own.notSS {B : Nat} {w : World} {v : Value} {zs : List Int} (h : Own B w v zs) (g : Nat) (hg : v.ownBlock = some g) : NotSS w g := by
  intro cs fr e
  rcases h.2 with ⟨h1, _⟩ | ⟨q, c, cur, h1, _, hc, _⟩
  · rw [h1] at hg; simp [Value.ownBlock] at hg
  · rw [h1] at hg
    simp only [Value.ownBlock, Option.some.injEq] at hg
    subst hg
    rw [hc] at e
    simp at e
theorem Own.keepB {B : Nat} {w w' : World} {v : Value} {zs : List Int} (h : Own B w v zs) (hk : ∀ g, v.ownBlock = some g → w'.heap[g]? = w.heap[g]?) : Own B w' v zs := by
  refine ⟨h.1, ?_⟩
  rcases h.2 with h2 | ⟨g, cap, cur, rfl, hg, hc, r⟩
  · exact .inl h2
  · exact .inr ⟨g, cap, cur, rfl, hg, by rw [hk g rfl]; exact hc, r⟩
theorem Own.butO {B B' go : Nat} {w w' : World} {v : Value} {zs : List Int} (h : Own B' w v zs) (hb : ButO B go w w') (hne : ∀ g, v.ownBlock = some g → g ≠ go) : Own B' w' v zs :=
  h.keepB fun g hg => hb.block g (World.ownsRow.lt h g hg).2 (hne g hg) (.inr (h.notSS g hg))
/-- A call put more sets behind those of the list that block go holds. -/
def RetMore (B go : Nat) (D : List (List Int)) (w : World) (e : Ending) (w' : World) : Prop :=
  e = .returned (.tuple #[]) ∧ ∃ v' vs', w'.cell? ⟨go, 0, none⟩ = some v' ∧ w'.frozen? ⟨go, 0, none⟩ = false ∧ OwnSS B w'.heap.size w' v' vs' D ∧ ButO B go w w'
theorem OwnSS.upTo {B U : Nat} {w : World} {v : Value} {vs : List Value} {rss : List (List Int)} (h : OwnSS B U w v vs rss) (U' : Nat) (hU : U ≤ U') : OwnSS B U' w v vs rss :=
  ⟨h.len, h.outer, fun g hg => Nat.lt_of_lt_of_le (h.obl g hg) hU, h.row, fun i hi g hg => Nat.lt_of_lt_of_le (h.rbl i hi g hg) hU, h.apart⟩
theorem cellIn_set (w : World) (g : Nat) (x v : Value) (h : w.cell? ⟨g, 0, none⟩ = some x) : (w.setCell ⟨g, 0, none⟩ v).cell? ⟨g, 0, none⟩ = some v := World.cell?_setCell_same _ _ _ h
end Go.Proofs.Ytkkjbkagkmngkaa
