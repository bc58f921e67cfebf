/- How the model cuts a text. -/
import Derived.Test.YtadfojjglceheaaDoorBRead
set_option linter.unusedVariables false
set_option linter.unusedSimpArgs false
namespace Go.Proofs.YtadfojjglceheaaDoor
open Go.RowKit

theorem infoStr0 : (Tryd.prog.info? 9).map (fun i => (i.zero, i.size, i.bytes)) = some (some (.string ByteArray.empty), 1, 16) := by kernel_rfl
/-- The value v is a slice of the texts ss in a block of number B or greater. -/
def OwnT (B : Nat) (w : World) (v : Value) (ss : List ByteArray) : Prop := w.ownsRow B 9 1 v ss.length (ss.map Value.string)
def RetOwnT (ss : List ByteArray) (w : World) (e : Ending) (w' : World) : Prop := ∃ v, e = .returned v ∧ OwnT w.heap.size w' v ss ∧ Below w.heap.size w w'
theorem ownT_push {B : Nat} {w1 : World} {v' : Value} {ss : List ByteArray} {x : ByteArray} (h : w1.ownsRow B 9 1 v' (ss.length + 1) (ss.map Value.string ++ [Value.string x])) : OwnT B w1 v' (ss ++ [x]) := by
  unfold OwnT
  rw [List.length_append, List.map_append]
  exact h
theorem oneStr (x : ByteArray) : ∀ u ∈ [Value.string x], u.oneCell' = true := by
  intro u hu; simp at hu; subst hu; rfl
theorem below_pushT {w wr w1 : World} {v : Value} {ss : List ByteArray} {o : Obj} (hb : Below w.heap.size w wr) (h : OwnT w.heap.size wr v ss) (hg : (wr.alloc o).grownBy w1 v.ownBlock) : Below w.heap.size w w1 := by
  have h1 := World.ownsRow.alloc h o
  refine (hb.alloc hb.size o).grown hg (by have := hb.size; simp; omega) ?_
  intro k hk
  rcases h.2 with ⟨h2, _⟩ | ⟨g, cap, cur, h2, h3, _⟩
  · rw [h2] at hk; simp [Value.ownBlock] at hk
  · rw [h2] at hk; simp [Value.ownBlock] at hk; omega
theorem run_slice_by (s : ByteArray) (l h : Nat) (hl : l ≤ h) (hh : h ≤ s.size) (w : World) : (Instr.slice 9 (.string s) (some (.int .i64 (l : Int))) (some (.int .i64 (h : Int))) none).run Tryd.prog w = .ok (.string (s.extract l h)) w := by
  have := run_slice_string (P := Tryd.prog) w 9 s .i64 .i64 (l : Int) (h : Int) Tryd.underlying9 (by omega) (by omega) (by omega)
  simpa using this
theorem run_slice_from (s : ByteArray) (l : Nat) (hl : l ≤ s.size) (w : World) : (Instr.slice 9 (.string s) (some (.int .i64 (l : Int))) none none).run Tryd.prog w = .ok (.string (s.extract l s.size)) w := by
  have := run_slice_string_l (P := Tryd.prog) w 9 s Tryd.underlying9 .i64 (l : Int) (by omega) (by omega)
  simpa using this

set_option maxHeartbeats 2000000 in
set_option maxRecDepth 100000 in
theorem l1Split_any (x0 : UInt8) (s : ByteArray) (w : World) (hs : s.size ≤ 1048576) : Calls Tryd.prog 18 #[.string s, .int .u8 (x0.toNat : Int)] w (RetOwnT (cuts x0 s) w) := by
  obtain ⟨i0, hi, hz0, hz1, hz2⟩ := info_parts infoStr0
  go_enter Tryd.func18, Tryd.ntmps18
  go_wp2_with fail
  go_loopw [5, 6, 7] (fun o f v wr => ∃ k : Nat, k ≤ s.size ∧ v = .int .i64 (k : Int) ∧ f = .int .i64 (cutF x0 s k : Int) ∧ OwnT w.heap.size wr o (cutO x0 s k) ∧ Below w.heap.size w wr) (fun _ _ v _ => ((s.size : Int) + 1 - intOf v).toNat)
  case atStart => exact ⟨0, by omega, rfl, rfl, World.ownsRow_nil _ _ _ _, Below.refl _ _⟩
  case round =>
    obtain ⟨k, hk, rfl, rfl, ho, hb⟩ := hrel
    have hle := cutF_le x0 s k
    have hln := cutO_len x0 s k
    have hsz := hb.size
    by_cases hlt : k < s.size
    · have hx := run_index_by s k hlt
      have hsl := run_slice_by s (cutF x0 s k) k hle hk
      by_cases h45 : byAt s k = x0
      · obtain ⟨e1, e2⟩ := cut_yes h45
        have E1 := Lib.hid e1
        have E2 := Lib.hid e2
        have hi1 : ((byAt s k).toNat : Int) = (x0.toNat : Int) := by rw [h45]
        clear h45 e1 e2
        rw [hi1] at hx
        clear hi1
        generalize cutF x0 s k = f at hle hsl E2
        generalize s.extract f k = x at hsl E2
        go_wp2_with (first | (at_builtin; refine wpList_append_own _ rfl _ _ 33 rfl w.heap.size 9 i0 (.string ByteArray.empty) 1 16 Tryd.underlying33 hi hz0 hz1 hz2 rfl (by decide) _ _ _ rfl (World.ownsRow.alloc ho _) ⟨wr.heap.size, 0, none⟩ 1 1 [.string x] rfl rfl (newCell _ _ _) (oneStr _) ?c3 ?c4 ?c5 ?_))
        case c3 => unfold maxLen; omega
        case c4 => omega
        case c5 => simp; omega
        intro v' w1 hown' hgrow _
        have ho' := ownT_push hown'
        have hb' := below_pushT hb ho hgrow
        go_wp2_with fail
        go_roundw
        case rel => exact ⟨k + 1, by omega, by go_num, by rw [E1.out]; go_num, by rw [E2.out]; exact ho', hb'⟩
        case measure => simp [intOf]; omega
      · obtain ⟨e1, e2⟩ := cut_no h45
        have E1 := Lib.hid e1
        have E2 := Lib.hid e2
        have hi1 : ¬ ((byAt s k).toNat : Int) = (x0.toNat : Int) := fun e => h45 (UInt8.toNat.inj (by omega))
        clear h45 e1 e2
        generalize ((byAt s k).toNat : Int) = z at hx hi1
        go_wp2_with fail
        go_roundw
        case rel => exact ⟨k + 1, by omega, by go_num, by rw [E1.out], by rw [E2.out]; exact ho, hb⟩
        case measure => simp [intOf]; omega
    · obtain rfl : k = s.size := by omega
      have hsl := run_slice_from s (cutF x0 s s.size) hle
      have EC := Lib.hid (show cuts x0 s = cutO x0 s s.size ++ [s.extract (cutF x0 s s.size) s.size] from rfl)
      generalize cutF x0 s s.size = f at hle hsl EC
      generalize s.extract f s.size = x at hsl EC
      go_wp2_with (first | (at_builtin; refine wpList_append_own _ rfl _ _ 33 rfl w.heap.size 9 i0 (.string ByteArray.empty) 1 16 Tryd.underlying33 hi hz0 hz1 hz2 rfl (by decide) _ _ _ rfl (World.ownsRow.alloc ho _) ⟨wr.heap.size, 0, none⟩ 1 1 [.string x] rfl rfl (newCell _ _ _) (oneStr _) ?c3 ?c4 ?c5 ?_))
      case c3 => unfold maxLen; omega
      case c4 => omega
      case c5 => simp; omega
      intro v' w1 hown' hgrow _
      have ho' := ownT_push hown'
      have hb' := below_pushT hb ho hgrow
      go_wp2_with fail
      go_ret
      exact ⟨_, rfl, by rw [EC.out]; exact ho', hb'⟩
end Go.Proofs.YtadfojjglceheaaDoor
