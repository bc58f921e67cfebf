/- Shared numbers: both texts. -/
import Derived.Test.YtadfojjglceheaaRi3
import Derived.Test.YtadfojjglceheaaGd
set_option linter.unusedVariables false
set_option linter.unusedSimpArgs false
namespace Go.Proofs.Ytadfojjglceheaa
open Go.RowKit

def agT (ps : List Dt) (k : Nat) : List Int := (ps.take k).map (·.2)
set_option maxHeartbeats 1000000 in
theorem agesOf_some (g c n : Nat) (ps : List Dt) (w : World) (hl : ps.length = n) (hn : n ≤ 1048576) (hgs : g < w.heap.size) (hD : Dts w g 0 ps) :
    Calls Try.prog 47 #[.slice (some ⟨g, 0, none⟩) n c] w (RetRow (ps.map (·.2)) w) := by
  obtain ⟨i0, hi, hz0, hz1, hz2⟩ := info_parts infoInt
  have hll : (ps.map (·.2)).length = n := by rw [List.length_map]; exact hl
  have hat : ∀ k, k < n → (at2 ps k).2 = (ps.map (·.2)).getD k 0 := by
    intro k hk
    have hk2 : k < ps.length := by omega
    simp [at2, List.getD_eq_getElem?_getD, List.getElem?_map, List.getElem?_eq_getElem hk2]
  have HD := Lib.hid hD
  have HAT := Lib.hid hat
  have HL := Lib.hid hl
  generalize ps.map (·.2) = zs at hll HAT ⊢
  have HLL := Lib.hid hll
  clear hD hl hat hll
  go_enter Try.func47, Try.ntmps47
  go_wp2_with (first | (at_make; refine wpList_make_full _ rfl _ _ 22 rfl w.heap.size 3 i0 (.int .i64 0) 1 Try.underlying22 hi hz0 hz1 .i64 .i64 n n n rfl rfl rfl rfl ?c1 ?c2 ?c3 ?_))
  case c1 => rw [hz2]; omega
  case c2 => unfold maxLen; omega
  case c3 => exact Nat.le_refl _
  intro w1 hown hg
  go_wp2
  go_loopw [11] (fun v wr => ∃ k : Nat, k ≤ n ∧ v = .int .i64 k ∧ wr.ownsRow w.heap.size 3 1 (.slice (some ⟨w.heap.size, 0, none⟩) n n) n (fill zs k n) ∧ Below w.heap.size w wr ∧ w.heap.size < wr.heap.size) (fun v _ => n - (intOf v).toNat)
  case atStart => exact ⟨0, Nat.zero_le _, rfl, by rw [← fill_zero]; simpa using hown, (Below.refl _ _).grown hg (Nat.le_refl _) (by simp), (World.ownsRow.lt hown w.heap.size rfl).2⟩
  case round =>
    obtain ⟨k, hk, rfl, hr, hb, hlt0⟩ := hrel
    have hll := HLL.out
    by_cases hlt : k < n
    · obtain ⟨hc1, hc2⟩ := (HD.out.kept hb hgs) k (by rw [HL.out]; exact hlt)
      rw [Nat.zero_add] at hc1 hc2
      rw [HAT.out k hlt] at hc2
      obtain ⟨u, hu⟩ := fill_some zs k n hll hlt
      have hc3 := Lib.hid ((World.ownsRow.cellAt hr k (by omega)).trans hu)
      have hf3 := Lib.hid (World.ownsRow.frozenAt hr k)
      have hd3 : ∀ A, (wr.alloc A).cell? ⟨w.heap.size, k, none⟩ = some u := fun A => (World.cell?_of_block (w := wr) (a := ⟨w.heap.size, k, none⟩) (Below.heap_alloc _ _ _ hlt0)).trans hc3.out
      have he3 : ∀ A, (wr.alloc A).frozen? ⟨w.heap.size, k, none⟩ = false := fun A => (World.frozen?_of_block (w := wr) (a := ⟨w.heap.size, k, none⟩) (Below.heap_alloc _ _ _ hlt0)).trans hf3.out
      have HS := World.ownsRow.stored hr k (.int .i64 (zs.getD k 0))
      have HF := fill_stepAt zs k n (zs.getD k 0) hll hlt rfl
      have HS' := Lib.hid HS
      have HF' := Lib.hid HF
      clear hu hll HS HF
      generalize zs.getD k 0 = z at hc2 HS' HF'
      generalize (at2 ps k).1 = q at hc1
      go_wp2
      go_roundw
      case rel => exact ⟨k + 1, by omega, by go_num, by rw [← HF'.out]; exact World.ownsRow.alloc HS'.out.1 _, (hb.setCell (Nat.le_refl _) _).alloc (by simpa [World.setCell] using hb.size) _, by simp [World.setCell]; omega⟩
      case measure => simp [intOf]; omega
    · have hkn : k = n := by omega
      clear hlt
      go_wp2
      go_ret
      exact retRow_of HLL.out (by rw [hkn] at hr; exact hr) hb
theorem agesOf_nil (w : World) : Calls Try.prog 47 #[.slice none 0 0] w (RetRow [] w) := by
  obtain ⟨i0, hi, hz0, hz1, hz2⟩ := info_parts infoInt
  go_enter Try.func47, Try.ntmps47
  go_wp2_with (first | (at_make; refine wpList_make_full _ rfl _ _ 22 rfl w.heap.size 3 i0 (.int .i64 0) 1 Try.underlying22 hi hz0 hz1 .i64 .i64 0 0 0 rfl rfl rfl rfl ?c1 ?c2 ?c3 ?_))
  case c1 => rw [hz2]; omega
  case c2 => unfold maxLen; omega
  case c3 => exact Nat.le_refl _
  intro w1 hown hg
  go_wp2
  go_rounds 1
  go_ret
  exact ⟨w.heap.size, Nat.le_refl _, rfl, by unfold Own; rw [fill_zero []] at hown; exact hown, (Below.refl _ _).grown hg (Nat.le_refl _) (by simp)⟩
theorem agesOf_any (B : Nat) (v : Value) (ps : List Dt) (w : World) (hp : ps.length ≤ 10) (ho : OwnD 55 B w v ps) :
    Calls Try.prog 47 #[v] w (RetRow (ps.map (·.2)) w) := by
  rcases ho.cases with ⟨rfl, rfl⟩ | ⟨g, c, rfl, _, hlt, _, _, hD, _⟩
  · exact agesOf_nil w
  · exact agesOf_some g c _ ps w rfl (by omega) hlt hD

theorem below_cell2 {w w' : World} {a b : Nat} {x : Value} (h : Below w.heap.size w w') (h1 : w.cell? ⟨a, b, none⟩ = some x) : w'.cell? ⟨a, b, none⟩ = some x :=
  (h.cell (p := ⟨a, b, none⟩) (World.block_lt_of_cell? w _ h1)).trans h1

/-- Everybody counts, and somebody is older than nought. -/
def shOk (zs : List Int) (y : Int) : Bool := pgB zs y && (ctB zs y zs.length && decide (1 ≤ (olA zs y).length))
def shV (zs : List Int) (y : Int) : Int := if shOk zs y = true then ((shT zs y zs.length : Nat) : Int) else 0

set_option maxHeartbeats 2000000 in
theorem sharedI_fail (b off n c : Nat) (y yy : Int) (ps : List Dt) (ok : Bool) (zs : List Int) (w : World) (hok : PsOk ps)
    (hp : Calls Try.prog 40 #[.slice (some ⟨b, off, none⟩) n c, .int .i64 y] w (RetPgB yy ps ok w)) (hn : n ≤ 1048576)
    (hf : ok = false ∨ ps.length < n ∨ (ps.length = n ∧ (rdL ps 1 ps.length).length = 0)) :
    Calls Try.prog 23 #[.slice (some ⟨b, off, none⟩) n c, .int .i64 y] w (RetIB 0 false w) := by
  have HP := Lib.hid hp
  have HR := Lib.hid fun B v w ho => round_any B v yy 1 ps w (by omega) hok ho
  have hok2 := (psOk_rd hok 1 _ (Nat.le_refl _)).1
  have hpl := hok.1
  have hf' : ok = false ∨ (ok = true ∧ ps.length < n) ∨ (ok = true ∧ ¬ ps.length < n ∧ (rdL ps 1 ps.length).length = 0) := by
    rcases hf with h | h | h
    · exact .inl h
    · cases ok with
      | false => exact .inl rfl
      | true => exact .inr (.inl ⟨rfl, h⟩)
    · cases ok with
      | false => exact .inl rfl
      | true => exact .inr (.inr ⟨rfl, by omega, h.2⟩)
  obtain ⟨m, hm⟩ : ∃ m, ps.length = m := ⟨_, rfl⟩
  generalize rdL ps 1 ps.length = rs at HR hok2 hf'
  rw [hm] at hf' hpl
  have HM := Lib.hid fun B v w ho => agesOf_any B v rs w hok2 ho
  have hml : (rs.map (·.2)).length = rs.length := List.length_map ..
  generalize rs.map (·.2) = ns at HM hml
  have HML := Lib.hid hml
  clear hp hf hok hml
  go_enter Try.func23, Try.ntmps23
  go_wp2_with fail
  refine HP.out.mono ?_
  rintro e' w1 ⟨v, rfl, ho, hb⟩
  have hcs : (v = .slice none 0 0 ∧ m = 0) ∨ ∃ q cq, v = .slice (some ⟨q, 0, none⟩) m cq := by
    rcases ho.cases with ⟨h1, h2⟩ | ⟨q, cq, h1, _⟩
    · exact .inl ⟨h1, by rw [← hm, h2]; rfl⟩
    · exact .inr ⟨q, cq, by rw [← hm]; exact h1⟩
  clear hm
  rcases hcs with ⟨rfl, rfl⟩ | ⟨q, cq, rfl⟩
  all_goals
    have HB := Lib.hid hb
    have HO := Lib.hid fun A => ho.alloc A
    clear ho hb
    go_wp2_with fail
    refine (HR.out _ _ _ (HO.out _)).mono ?_
    rintro e2 w2 ⟨v2, rfl, ho2, hb2⟩
    have HB2 := Lib.hid ((HB.out.alloc HB.out.size _).trans (hb2.mono (by simp; have := HB.out.size; omega)))
    have c1 : w2.cell? ⟨w1.heap.size, 1, none⟩ = some _ := below_cell2 hb2 (by simp; rfl)
    have hcs2 : v2 = .slice none 0 0 ∨ ∃ q n2 cq, v2 = .slice (some ⟨q, 0, none⟩) n2 cq := by
      rcases ho2.cases with ⟨h1, h2⟩ | ⟨q, cq, h1, _⟩
      · exact .inl h1
      · exact .inr ⟨q, _, cq, h1⟩
    rcases hcs2 with rfl | ⟨q2, n2, cq2, rfl⟩
    all_goals
      have HO2 := Lib.hid ho2
      clear ho2 hb2
      go_wp2_with fail
      refine (HM.out _ _ _ HO2.out).mono ?_
      rintro e3 w3 ⟨g3, hg3, rfl, ho3, hb3⟩
      have HB3 := Lib.hid (HB2.out.trans (hb3.mono HB2.out.size))
      have c2 := below_cell2 hb3 c1
      rw [HML.out]
      clear ho3 hb3 hg3 c1
      rcases hf' with hf1 | ⟨hf1, hf2⟩ | ⟨hf1, hf2, hf3⟩
      · subst hf1
        go_wp2
        go_ret2
        exact ⟨rfl, HB3.out⟩
      · subst hf1
        have hf4 : (0 : Int) < (n : Int) := by omega
        have hf5 : 0 < n := by omega
        try (have hf6 : ((m : Nat) : Int) < (n : Int) := by omega)
        go_wp2
        go_ret2
        exact ⟨rfl, HB3.out⟩
      · subst hf1
        try (have hf4 : ¬ ((0 : Int) < (n : Int)) := by omega)
        try (have hf5 : ¬ (0 < n) := by omega)
        try (have hf6 : ¬ (((m : Nat) : Int) < (n : Int)) := by omega)
        rw [hf3]
        go_wp2
        go_ret2
        exact ⟨rfl, HB3.out⟩
end Go.Proofs.Ytadfojjglceheaa
