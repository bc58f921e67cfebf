/- All pairs, the model's; what is told of one. -/
import Derived.Test.YtlfbhpeehidjhaaPrs
import Derived.Test.YtlfbhpeehidjhaaSub
import Derived.Test.YtlfbhpeehidjhaaLimH
set_option linter.unusedVariables false
set_option linter.unusedSimpArgs false
namespace Go.Proofs.Ytlfbhpeehidjhaa
open Go.RowKit

set_option maxHeartbeats 1600000 in
theorem taPairs_any (n : Nat) (hn : n ≤ 40) (w : World) : Calls Try.prog 18 #[.int .i64 n] w (RetSub w.heap.size (rowsD (prs n)) w) := by
  obtain ⟨i0, hi, hz0, hz1, hz2⟩ := info_parts infoSlice
  go_enter Try.func18, Try.ntmps18
  go_wp2
  go_loopw [3, 4] (fun v i wr => ∃ (a : Nat) (vs : List Value), a ≤ n ∧ i = .int .i64 ((a : Int) + 1) ∧ OwnSS w.heap.size wr.heap.size wr v vs (rowsD (prsTo n a)) ∧ Below w.heap.size w wr) (fun _ i _ => n + 1 - (intOf i).toNat)
  case atStart => exact ⟨0, [], Nat.zero_le _, by go_num, ownSS_nil _ _ _, Below.refl _ _⟩
  case round =>
    obtain ⟨a, vs, ha, rfl, ho, hb⟩ := hrel
    by_cases hlt : a < n
    · have h1 : (a : Int) + 1 ≤ (n : Int) := by omega
      have hT := Lib.hid (prsTo_succ n a)
      have ho0 : OwnSS w.heap.size wr.heap.size wr u3 vs (rowsD (prsTo n a ++ rowP (a + 1) 0)) := by rw [rowP_zero, List.append_nil]; exact ho
      clear ho
      go_wp2
      obtain ⟨wo, rfl⟩ : ∃ wo : World, wo = wr := ⟨_, rfl⟩
      go_loopw [3, 5] (fun v i wr => ∃ (k : Nat) (vs : List Value), k ≤ n - a ∧ i = .int .i64 ((a : Int) + 1 + k) ∧ OwnSS w.heap.size wr.heap.size wr v vs (rowsD (prsTo n a ++ rowP (a + 1) k)) ∧ Below w.heap.size w wr) (fun _ i _ => n + 1 - (intOf i).toNat)
      case atStart => exact ⟨0, vs, Nat.zero_le _, by go_num, ho0, hb⟩
      case round =>
        obtain ⟨k, vs2, hk, rfl, ho, hb⟩ := hrel
        have hsz := hb.size
        have hlen := prAcc_len n a k hn (by omega) (by omega)
        have hvl := ho.len
        rw [rowsD_len] at hvl
        rw [← hvl] at hlen
        clear hvl
        have HO := Lib.hid ho
        clear ho
        by_cases hklt : k < n - a
        · have h2 : (a : Int) + 1 + k ≤ (n : Int) := by omega
          have hS := Lib.hid (rows_step n a k)
          go_wp2_with (first | (at_builtin; refine wpList_append_own _ rfl _ _ 23 rfl w.heap.size 32 i0 _ 1 24 Try.underlying23 hi hz0 hz1 hz2 rfl (by decide) _ _ _ rfl (World.ownsRow.alloc (World.ownsRow.alloc HO.out.outer _) _) ⟨wr.heap.size + 1, 0, none⟩ 1 1 [.slice (some ⟨wr.heap.size, 0, none⟩) 2 2] rfl rfl (newCellAt _ _ _ _ (by simp)) (oneSlice _ _ _) ?c3 ?c4 ?c5 ?_))
          case c3 => unfold maxLen; omega
          case c4 => omega
          case c5 => simp; omega
          intro v' w1 hown hgr _
          have hp := OwnSS.push (wr := wr) HO.out hsz hown hgr
          have hb1 := ((hb.alloc hsz _).alloc (by simp; omega) _).grown hgr (by simp; omega) (fun k hk => (World.ownsRow.lt HO.out.outer k hk).1)
          rw [← hS.out] at hp
          have HP := Lib.hid hp
          clear hp hown hgr
          go_wp2
          go_roundw
          case rel => exact ⟨k + 1, _, by omega, by go_num, HP.out, hb1⟩
          case measure => simp [intOf]; omega
        · have h2 : ¬ (a : Int) + 1 + k ≤ (n : Int) := by omega
          have hkn : k = n - a := by omega
          go_wp2
          go_roundw
          case rel => exact ⟨a + 1, vs2, by omega, by go_num, by rw [hT.out, ← hkn]; exact HO.out, hb⟩
          case measure => simp [intOf]; omega
    · have h1 : ¬ (a : Int) + 1 ≤ (n : Int) := by omega
      have hT := Lib.hid (show prsTo n a = prs n by rw [show a = n by omega]; rfl)
      have HO := Lib.hid ho
      clear ho
      go_wp2
      go_ret
      exact ⟨_, vs, rfl, by rw [← hT.out]; exact HO.out, hb⟩

set_option maxHeartbeats 400000 in
theorem taToldS_any (g c : Nat) (x y : Int) (w : World) (hx : 1 ≤ x ∧ x ≤ 40) (hy : 1 ≤ y ∧ y ≤ 40) (h0 : w.cell? ⟨g, 0, none⟩ = some (.int .i64 x)) (h1 : w.cell? ⟨g, 1, none⟩ = some (.int .i64 y)) :
    Calls Try.prog 19 #[.string { data := #[115] }, .slice (some ⟨g, 0, none⟩) 2 c] w (Ret (.int .i64 (toldP true (x, y))) w) := by
  have hw : IntKind.i64.wrap (x + y) = x + y := IntWalk.i64_in _ (by omega)
  go_enter Try.func19, Try.ntmps19
  go_wp2
  go_quiet (fail)
  go_wp2
  go_ret
  exact ⟨rfl, below_drewN (Below.refl _ _) _⟩
set_option maxHeartbeats 400000 in
theorem taToldP_any (g c : Nat) (x y : Int) (w : World) (hx : 1 ≤ x ∧ x ≤ 40) (hy : 1 ≤ y ∧ y ≤ 40) (h0 : w.cell? ⟨g, 0, none⟩ = some (.int .i64 x)) (h1 : w.cell? ⟨g, 1, none⟩ = some (.int .i64 y)) :
    Calls Try.prog 19 #[.string { data := #[112] }, .slice (some ⟨g, 0, none⟩) 2 c] w (Ret (.int .i64 (toldP false (x, y))) w) := by
  have hb := told_bd false (p := (x, y)) ⟨hx, hy⟩
  have e : toldP false (x, y) = x * y := rfl
  rw [e] at hb ⊢
  have hw : IntKind.i64.wrap (x * y) = x * y := IntWalk.i64_in _ (by omega)
  go_enter Try.func19, Try.ntmps19
  go_wp2
  go_quiet (fail)
  go_wp2
  go_ret
  exact ⟨rfl, below_drewN (Below.refl _ _) _⟩
end Go.Proofs.Ytlfbhpeehidjhaa
