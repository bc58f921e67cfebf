/- OrderOfAges: the program's text. -/
import Derived.Test.YtjabghojenhhiaaOlder
set_option linter.unusedVariables false
set_option linter.unusedSimpArgs false
namespace Go.Proofs.Ytjabghojenhhiaa
open Go.RowKit

def ordNs (zs : List Int) : List Int := (ordP zs).map (·.1)
def ordAs (zs : List Int) : List Int := (ordP zs).map (·.2)
theorem ordNs_length (zs : List Int) : (ordNs zs).length = zs.length := by unfold ordNs; rw [List.length_map, ordP_length]
theorem ordAs_length (zs : List Int) : (ordAs zs).length = zs.length := by unfold ordAs; rw [List.length_map, ordP_length]
theorem ordNs_getD (zs : List Int) (j : Nat) (h : j < zs.length) : (ordNs zs).getD j 0 = ((ordP zs).getD j (0, 0)).1 := by
  have := ordP_length zs
  unfold ordNs
  simp [List.getD_eq_getElem?_getD, List.getElem?_map, List.getElem?_eq_getElem (show j < (ordP zs).length by omega)]
theorem own_row {B b n : Nat} {w : World} {zs : List Int} (hl : zs.length = n) (hr : w.ownsRow B 3 1 (.slice (some ⟨b, 0, none⟩) n n) n (fill zs n n)) : Own B w (.slice (some ⟨b, 0, none⟩) n n) zs := by
  subst hl
  rw [fill_all _ _ rfl] at hr
  exact hr

theorem heap_set_other (w : World) (g k j : Nat) (v : Value) (h : k ≠ g) : (w.setCell ⟨k, j, none⟩ v).heap[g]? = w.heap[g]? := by
  rw [Go.Sort.setCell_eq]
  unfold Go.Sort.mapBlock
  show ((w.heap).modify k _)[g]? = _
  rw [Array.getElem?_modify, if_neg h]
theorem Prs.heap {w w' : World} {g : Nat} {ns : Nat → Int} {zs : List Int} (h : Prs w g ns zs) (hh : w'.heap[g]? = w.heap[g]?) : Prs w' g ns zs :=
  fun j hj => ⟨(World.cell?_of_block (w := w) (a := ⟨g, j * 2, none⟩) hh).trans (h j hj).1, (World.cell?_of_block (w := w) (a := ⟨g, j * 2 + 1, none⟩) hh).trans (h j hj).2⟩
def RetOlderN (zs : List Int) (n : Nat) (w : World) (e : Ending) (w' : World) : Prop :=
  ∃ g c, e = .returned (.slice (some ⟨g, 0, none⟩) n c) ∧ w.heap.size ≤ g ∧ g < w'.heap.size ∧ Prs w' g (fun j => ((ordP zs).getD j (0, 0)).1) (ordAs zs) ∧ Below w.heap.size w w'
theorem older_n (g c n : Nat) (who age : Int) (zs : List Int) (w : World) (hl : zs.length = n) (h0 : 0 < n) (h8 : n ≤ 8) (hgs : g < w.heap.size) (hP : Ppl w g zs) :
    Calls Try.prog 37 #[.agg #[.int .i64 who, .int .i64 age, .slice (some ⟨g, 0, none⟩) n c]] w (RetOlderN zs n w) := by
  subst hl; exact older_any g c who age zs w h0 h8 hgs hP

set_option maxHeartbeats 1000000 in
theorem order_yes (b off c n : Nat) (zs : List Int) (w : World) (hl : zs.length = n) (hn : n ≤ 1048576) (hI : Ints w b off zs) (hg : goodB zs 120 = true) :
    Calls Try.prog 14 #[.slice (some ⟨b, off, none⟩) n c] w (RetOwnB (ordNs zs) true w) := by
  obtain ⟨i0, hi, hz0, hz1, hz2⟩ := info_parts infoInt
  have h8 := goodB_len hg
  have HL := Lib.hid hl
  rw [hl] at h8
  go_enter Try.func14, Try.ntmps14
  go_wp2_with fail
  refine (householdOf_zero _ _ _ _ zs _ hl hn hI hg).mono ?_
  rintro e w1 ⟨g, hg1, rfl, hP, hgs, hb⟩
  generalize zs.getD 0 0 = a
  rw [HL.out]
  clear hl
  have hsz1 := hb.size
  go_wp2_with (first | (at_make; refine wpList_make_full _ rfl _ _ 22 rfl (w1.heap.size + 1) 3 i0 (.int .i64 0) 1 Try.underlying22 hi hz0 hz1 .i64 .i64 n n n rfl rfl rfl rfl ?c1 ?c2 ?c3 ?_))
  case c1 => rw [hz2]; omega
  case c2 => unfold maxLen; omega
  case c3 => simp
  intro w2 hown hg2
  have hh : w2.heap[w1.heap.size]? = some (.cells #[.int .i64 0, .int .i64 a, .slice (some ⟨g, 0, none⟩) n n] 42 (0, 0)) := (hg2.block _ (by simp) (by simp)).trans (heap_new w1 _)
  have hbk : Below w1.heap.size w1 w2 := ((Below.refl w1.heap.size w1).alloc (Nat.le_refl _) _).grown hg2 (by simp) (by simp)
  have hbz := hb.trans (hbk.mono hsz1)
  have hP2 := Lib.hid (hP.kept hbk hgs)
  have hgs2 : g < w2.heap.size := Nat.lt_of_lt_of_le hgs hbk.size
  obtain ⟨t0, t1, t2, _, _, _, _, hlt0⟩ := slot3 hh
  clear hP hg2 hbk
  have HO := Lib.hid hown
  clear hown hh
  go_wp2_with fail
  refine (older_n _ _ n _ _ zs _ HL.out (by omega) h8.2 hgs2 hP2.out).mono ?_
  rintro e w3 ⟨g3, c3, rfl, hg3, hgs3, hP3, hb3⟩
  have hr3 := World.ownsRow.kept HO.out (below_grown hb3 none) (Or.inr (by simp [Value.ownBlock]))
  have hbz3 := hbz.trans (hb3.mono hbz.size)
  have hgw : w2.heap.size ≤ w3.heap.size := hb3.size
  have hR : w1.heap.size + 1 < w2.heap.size := (World.ownsRow.lt HO.out (w1.heap.size + 1) rfl).2
  have HP3 := Lib.hid hP3
  clear hP3 hb3 t0 t1 t2
  clear hbz
  generalize hRe : w1.heap.size + 1 = R at *
  go_wp2
  go_loopw [22] (fun v wr => ∃ k : Nat, k ≤ n ∧ v = .int .i64 k ∧ wr.ownsRow R 3 1 (.slice (some ⟨R, 0, none⟩) n n) n (fill (ordNs zs) k n) ∧ Below w.heap.size w wr ∧ Hid (wr.heap[g3]? = w3.heap[g3]?) ∧ w3.heap.size ≤ wr.heap.size) (fun v _ => n - (intOf v).toNat)
  case atStart => exact ⟨0, Nat.zero_le _, rfl, by rw [← fill_zero]; simpa using hr3, hbz3, Lib.hid rfl, Nat.le_refl _⟩
  case round =>
    obtain ⟨k, hk, rfl, hr, hb, hh, hge⟩ := hrel
    have HLL := Lib.hid ((ordNs_length zs).trans HL.out)
    by_cases hlt : k < n
    · obtain ⟨hc1, hc2⟩ := (HP3.out.heap hh.out) k (by rw [ordAs_length, HL.out]; exact hlt)
      dsimp only at hc1
      have hR2 : R < wr.heap.size := by omega
      obtain ⟨u, hu⟩ := fill_some (ordNs zs) k n HLL.out hlt
      have hc3 := Lib.hid ((World.ownsRow.cellAt hr k (by omega)).trans hu)
      have hf3 := Lib.hid (World.ownsRow.frozenAt hr k)
      have hd3 : ∀ A, (wr.alloc A).cell? ⟨R, k, none⟩ = some u := fun A => (World.cell?_of_block (w := wr) (a := ⟨R, k, none⟩) (Below.heap_alloc _ _ _ hR2)).trans hc3.out
      have he3 : ∀ A, (wr.alloc A).frozen? ⟨R, k, none⟩ = false := fun A => (World.frozen?_of_block (w := wr) (a := ⟨R, k, none⟩) (Below.heap_alloc _ _ _ hR2)).trans hf3.out
      have HS := World.ownsRow.stored hr k (.int .i64 ((ordP zs).getD k (0, 0)).1)
      have HF := fill_stepAt (ordNs zs) k n ((ordP zs).getD k (0, 0)).1 HLL.out hlt (ordNs_getD zs k (by rw [HL.out]; exact hlt))
      have HS' := Lib.hid HS
      have HF' := Lib.hid HF
      clear hu HS HF
      generalize ((ordP zs).getD k (0, 0)).1 = z at hc1 HS' HF'
      generalize (ordAs zs).getD k 0 = q at hc2
      have HX := Lib.hid (fun v A => show ((wr.setCell ⟨R, k, none⟩ v).alloc A).heap[g3]? = w3.heap[g3]? from (Below.heap_alloc _ _ _ (by simp [World.setCell]; omega)).trans ((heap_set_other _ _ _ _ _ (by omega)).trans hh.out))
      have hwR : w.heap.size ≤ R := by omega
      go_wp2
      go_roundw
      case rel => exact ⟨k + 1, by omega, by go_num, by rw [← HF'.out]; exact World.ownsRow.alloc HS'.out.1 _, (hb.setCell hwR _).alloc (by simpa [World.setCell] using hb.size) _, Lib.hid (HX.out _ _), by simp [World.setCell]; omega⟩
      case measure => simp [intOf]; omega
    · have hkn : k = n := by omega
      clear hlt
      have hwR : w.heap.size ≤ R := by omega
      go_wp2
      go_ret2
      exact ⟨_, rfl, (own_row (by rw [ordNs_length, HL.out]) (by rw [hkn] at hr; exact hr)).mono hwR, hb⟩
end Go.Proofs.Ytjabghojenhhiaa
