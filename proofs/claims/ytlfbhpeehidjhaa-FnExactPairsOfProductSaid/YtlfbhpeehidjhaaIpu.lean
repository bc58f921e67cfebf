/- All pairs, the program's; what is told of one; pairs as rows. -/
import Derived.Test.YtlfbhpeehidjhaaPrs
import Derived.Test.YtlfbhpeehidjhaaRowsAdd
import Derived.Test.YtlfbhpeehidjhaaLimH
import Derived.BigQuiet
set_option linter.unusedVariables false
set_option linter.unusedSimpArgs false
namespace Go.Proofs.Ytlfbhpeehidjhaa
open Go.RowKit

theorem infoPair : (Try.prog.info? 43).map (fun i => (i.zero, i.size, i.bytes)) = some (some (.agg #[.int .i64 0, .int .i64 0]), 2, 16) := by kernel_rfl
/-- A call returned a new slice of pairs. -/
def RetPrs (ds : List Dt) (w : World) (e : Ending) (w' : World) : Prop := ∃ v, e = .returned v ∧ OwnD 43 w.heap.size w' v ds ∧ Below w.heap.size w w'
theorem prs_push {B : Nat} {w1 : World} {v' : Value} {ds : List Dt} {y d : Int} (h : w1.ownsRow B 43 2 v' (ds.length + 1) (flatD ds ++ [.int .i64 y, .int .i64 d])) : OwnD 43 B w1 v' (ds ++ [(y, d)]) := by
  unfold OwnD
  rw [List.length_append, flatD_snoc]
  exact h
theorem below_pushP {w wr w1 : World} {v : Value} {ds : List Dt} {o : Obj} (hb : Below w.heap.size w wr) (h : OwnD 43 w.heap.size wr v ds) (hg : (wr.alloc o).grownBy w1 v.ownBlock) : Below w.heap.size w w1 := by
  refine (hb.alloc hb.size o).grown hg (by have := hb.size; simp; omega) ?_
  intro k hk
  rcases h.block with h | ⟨g, h, h2, h3⟩
  · rw [h] at hk; cases hk
  · rw [h] at hk; cases hk; exact h2
theorem newPairAt (w : World) (g : Nat) (y d : Int) (t : TypeId) (hg : g = w.heap.size) : ∀ j u, [Value.int .i64 y, Value.int .i64 d][j]? = some u → (w.alloc (.cells #[.int .i64 y, .int .i64 d] t)).cell? ((⟨g, 0, none⟩ : Addr).add j) = some u := by
  subst hg
  intro j u h
  match j, h with
  | 0, h => simp at h; subst h; simp [go_sem, Addr.add]
  | 1, h => simp at h; subst h; simp [go_sem, Addr.add]
  | j + 2, h => simp at h
theorem twoInts (y d : Int) : ∀ u ∈ [Value.int .i64 y, Value.int .i64 d], u.oneCell' = true := by
  intro u hu; simp at hu; rcases hu with rfl | rfl <;> rfl

set_option maxHeartbeats 1600000 in
theorem pairsUpTo_any (n : Nat) (hn : n ≤ 40) (w : World) : Calls Try.prog 30 #[.int .i64 n] w (RetPrs (prs n) w) := by
  obtain ⟨i0, hi, hz0, hz1, hz2⟩ := info_parts infoPair
  go_enter Try.func30, Try.ntmps30
  go_wp2
  go_loopw [3, 4] (fun v i wr => ∃ (a : Nat), a ≤ n ∧ i = .int .i64 ((a : Int) + 1) ∧ OwnD 43 w.heap.size wr v (prsTo n a) ∧ Below w.heap.size w wr) (fun _ i _ => n + 1 - (intOf i).toNat)
  case atStart => exact ⟨0, Nat.zero_le _, by go_num, ownD_nil _ _ _, Below.refl _ _⟩
  case round =>
    obtain ⟨a, ha, rfl, ho, hb⟩ := hrel
    by_cases hlt : a < n
    · have h1 : (a : Int) + 1 ≤ (n : Int) := by omega
      have hT := Lib.hid (prsTo_succ n a)
      have ho0 : OwnD 43 w.heap.size wr u3 (prsTo n a ++ rowP (a + 1) 0) := by rw [rowP_zero, List.append_nil]; exact ho
      clear ho
      go_wp2
      obtain ⟨wo, rfl⟩ : ∃ wo : World, wo = wr := ⟨_, rfl⟩
      go_loopw [3, 5] (fun v i wr => ∃ (k : Nat), k ≤ n - a ∧ i = .int .i64 ((a : Int) + 1 + k) ∧ OwnD 43 w.heap.size wr v (prsTo n a ++ rowP (a + 1) k) ∧ Below w.heap.size w wr) (fun _ i _ => n + 1 - (intOf i).toNat)
      case atStart => exact ⟨0, Nat.zero_le _, by go_num, ho0, hb⟩
      case round =>
        obtain ⟨k, hk, rfl, ho, hb⟩ := hrel
        have hsz := hb.size
        have hlen := prAcc_len n a k hn (by omega) (by omega)
        have hS := Lib.hid (prs_step n a k)
        have hX := Lib.hid (show prsTo n a ++ rowP (a + 1) k = prsTo n a ++ rowP (a + 1) k from rfl)
        generalize hxs : prsTo n a ++ rowP (a + 1) k = xs at ho hlen hS
        have HXs := Lib.hid hxs
        clear hxs hX
        have HO := Lib.hid ho
        clear ho
        by_cases hklt : k < n - a
        · have h2 : (a : Int) + 1 + k ≤ (n : Int) := by omega
          go_wp2_with (first | (at_builtin; refine wpList_append_own _ rfl _ _ 39 rfl w.heap.size 43 i0 (.agg #[.int .i64 0, .int .i64 0]) 2 16 Try.underlying39 hi hz0 hz1 hz2 rfl (by decide) u3 xs.length (flatD xs) rfl (World.ownsRow.alloc HO.out _) ⟨wr.heap.size, 0, none⟩ 1 1 [.int .i64 ((a : Int) + 1), .int .i64 ((a : Int) + 1 + k)] rfl rfl (newPairAt _ _ _ _ _ rfl) (twoInts _ _) ?c3 ?c4 ?c5 ?_))
          case c3 => unfold maxLen; omega
          case c4 => omega
          case c5 => simp; omega
          intro v' w1 hown hgr _
          have hp := Lib.hid (show OwnD 43 w.heap.size w1 v' (prsTo n a ++ rowP (a + 1) (k + 1)) by rw [hS.out]; exact prs_push hown)
          have hb1 := below_pushP hb HO.out hgr
          clear hown hgr
          go_wp2
          go_roundw
          case rel => exact ⟨k + 1, by omega, by go_num, hp.out, hb1⟩
          case measure => simp [intOf]; omega
        · have h2 : ¬ (a : Int) + 1 + k ≤ (n : Int) := by omega
          have hkn : k = n - a := by omega
          go_wp2
          go_roundw
          case rel => exact ⟨a + 1, by omega, by go_num, by rw [hT.out, ← hkn, HXs.out]; exact HO.out, hb⟩
          case measure => simp [intOf]; omega
    · have h1 : ¬ (a : Int) + 1 ≤ (n : Int) := by omega
      have hT := Lib.hid (show prsTo n a = prs n by rw [show a = n by omega]; rfl)
      have HO := Lib.hid ho
      clear ho
      go_wp2
      go_ret
      exact ⟨_, rfl, by rw [← hT.out]; exact HO.out, hb⟩
set_option maxHeartbeats 400000 in
theorem toldS_any (x y : Int) (w : World) (h : (1 ≤ x ∧ x ≤ 40) ∧ (1 ≤ y ∧ y ≤ 40)) :
    Calls Try.prog 32 #[.agg #[.int .i64 x, .int .i64 y], .int .u8 115] w (Ret (.int .i64 (toldP true (x, y))) w) := by
  have e : toldP true (x, y) = x + y := rfl
  rw [e]
  have hw : IntKind.i64.wrap (x + y) = x + y := IntWalk.i64_in _ (by omega)
  have HW := Lib.hid ((Below.refl w.heap.size w).alloc (Nat.le_refl _) (.cells #[.int .i64 x, .int .i64 y] 43))
  clear e
  go_enter Try.func32, Try.ntmps32
  go_wp2
  go_ret
  exact ⟨rfl, HW.out⟩
set_option maxHeartbeats 400000 in
theorem toldP_any (x y : Int) (w : World) (h : (1 ≤ x ∧ x ≤ 40) ∧ (1 ≤ y ∧ y ≤ 40)) :
    Calls Try.prog 32 #[.agg #[.int .i64 x, .int .i64 y], .int .u8 112] w (Ret (.int .i64 (toldP false (x, y))) w) := by
  have hb := told_bd false (p := (x, y)) h
  have e : toldP false (x, y) = x * y := rfl
  rw [e] at hb ⊢
  have hw : IntKind.i64.wrap (x * y) = x * y := IntWalk.i64_in _ (by omega)
  have HW := Lib.hid ((Below.refl w.heap.size w).alloc (Nat.le_refl _) (.cells #[.int .i64 x, .int .i64 y] 43))
  clear e
  go_enter Try.func32, Try.ntmps32
  go_wp2
  go_ret
  exact ⟨rfl, HW.out⟩
/-- Who is told the sum: the sign 's'; who is told the product: 'p'. -/
def whoV (s : Bool) : Value := .int .u8 (if s then 115 else 112)
theorem told_any (s : Bool) (x y : Int) (w : World) (h : (1 ≤ x ∧ x ≤ 40) ∧ (1 ≤ y ∧ y ≤ 40)) :
    Calls Try.prog 32 #[.agg #[.int .i64 x, .int .i64 y], whoV s] w (Ret (.int .i64 (toldP s (x, y))) w) := by
  cases s with
  | true => exact toldS_any x y w h
  | false => exact toldP_any x y w h
theorem isTalkLimit_any (n : Int) (w : World) : Calls Try.prog 27 #[.int .i64 n] w (RetSame (.bool (inB n 2 40)) w) := by
  go_enter Try.func27, Try.ntmps27
  go_wp2_with (first | (go_at_call 34; refine (isWithin_any _ _ _ _).mono ?_; rintro e w' ⟨rfl, rfl⟩))
  go_ret
  exact ⟨rfl, rfl⟩
end Go.Proofs.Ytlfbhpeehidjhaa
