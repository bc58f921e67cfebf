/- Whether there is a puzzle: the model; IsPuzzle, both texts. -/
import Derived.Test.YtkkjbkagkmngkaaPz2
set_option linter.unusedVariables false
set_option linter.unusedSimpArgs false
namespace Go.Proofs.Ytkkjbkagkmngkaa
open Go.RowKit

set_option maxHeartbeats 4000000 in
theorem pzGood_any (p : Int) (b off n c : Nat) (ds : List Kn) (w : World) (hl : ds.length = n) (hn : n ≤ 1048576) (hbl : b < w.heap.size) (hI : Kns w b off ds) :
    Calls Try.prog 52 #[.agg #[.int .i64 p, .slice (some ⟨b, off, none⟩) n c]] w (Ret (.bool (pzB p ds)) w) := by
  have HB := Lib.hid (show pzB p ds = (inB p 2 3 && (decide (n ≤ 6) && cluesTo p ds n)) by unfold pzB; rw [hl])
  have HW := Lib.hid ((Below.refl w.heap.size w).alloc (Nat.le_refl _) (.cells #[.int .i64 p, .slice (some ⟨b, off, none⟩) n c] 29))
  have HL := Lib.hid hl
  have HI := Lib.hid hI
  clear hl hI
  rw [HB.out]
  clear HB
  cases h1 : inB p 2 3 with
  | false =>
    go_enter Try.func52, Try.ntmps52
    go_wp2_with (go_at_call 75; refine (pzPeople_any _ _).mono ?_; rintro e w' ⟨rfl, rfl⟩)
    go_ret
    exact ⟨rfl, HW.out⟩
  | true =>
    have hp := inB_iff.1 h1
    by_cases h6 : n ≤ 6
    · have h6' : ¬ ((n : Int) > 6) := by omega
      have h6x : ¬ (6 < (n : Int)) := by omega
      rw [decide_eq_true h6]
      simp only [Bool.true_and]
      go_enter Try.func52, Try.ntmps52
      go_wp2_with (first | (go_at_call 75; refine (pzPeople_any _ _).mono ?_; rintro e w' ⟨rfl, rfl⟩))
      go_loopw [18] (fun v wr => ∃ k : Nat, k ≤ n ∧ v = .int .i64 k ∧ Hid (cluesTo p ds k = true) ∧ Below w.heap.size w wr ∧ wr.cell? ⟨w.heap.size, 0, none⟩ = some (.int .i64 p)) (fun v _ => n - (intOf v).toNat)
      case atStart => exact ⟨0, Nat.zero_le _, rfl, Lib.hid rfl, HW.out, by simp [go_sem]⟩
      case round =>
        obtain ⟨k, hk, rfl, HA, hb, hc⟩ := hrel
        have hsz := hb.size
        have hlt0 : w.heap.size < wr.heap.size := World.block_lt_of_cell? _ ⟨w.heap.size, 0, none⟩ hc
        by_cases hlt : k < n
        · obtain ⟨p1, p2, p3⟩ := (HI.out.kept hb hbl) k (by rw [HL.out]; exact hlt)
          have HS := Lib.hid (cluesTo_succ p ds k)
          rw [HA.out, Bool.true_and] at HS
          have HN := Lib.hid (fun h => cluesTo_not (p := p) (ds := ds) (n := n) k hlt h)
          have HR := Lib.hid (fun w => pzClue_any p (at3 ds k) w (by omega))
          cases hz1 : icB p (at3 ds k) with
          | true =>
            rw [hz1] at HS HR
            clear hz1 HN
            generalize (at3 ds k).1 = y at p1 HR
            generalize (at3 ds k).2.1 = d at p2 HR
            generalize (at3 ds k).2.2 = o at p3 HR
            go_wp2_with (go_at_call 69; refine (HR.out _).mono ?_; rintro e w' ⟨rfl, hcall⟩)
            go_roundw
            case rel => exact ⟨k + 1, by omega, by go_num, Lib.hid HS.out, (hb.alloc hsz _).trans (hcall.mono (by simp; omega)), below_cell2 hcall (cell_above hc _)⟩
            case measure => simp [intOf]; omega
          | false =>
            rw [hz1] at HR
            have HZ := Lib.hid (HN.out hz1)
            clear hz1 HN HS
            generalize (at3 ds k).1 = y at p1 HR
            generalize (at3 ds k).2.1 = d at p2 HR
            generalize (at3 ds k).2.2 = o at p3 HR
            go_wp2_with (go_at_call 69; refine (HR.out _).mono ?_; rintro e w' ⟨rfl, hcall⟩)
            go_ret
            exact ⟨by rw [HZ.out]; rfl, (hb.alloc hsz _).trans (hcall.mono (by simp; omega))⟩
        · have hkn : k = n := by omega
          subst hkn
          go_wp2_with fail
          go_ret
          exact ⟨by rw [HA.out]; rfl, hb⟩
    · have h6' : ((n : Int) > 6) := by omega
      have h6x : (6 < (n : Int)) := by omega
      rw [decide_eq_false h6]
      go_enter Try.func52, Try.ntmps52
      go_wp2_with (first | (go_at_call 75; refine (pzPeople_any _ _).mono ?_; rintro e w' ⟨rfl, rfl⟩))
      go_ret
      exact ⟨rfl, HW.out⟩
theorem specIsPuzzle_any (p : Int) (b off n c : Nat) (ds : List Kn) (w : World) (hl : ds.length = n) (hn : n ≤ 1048576) (hbl : b < w.heap.size) (hI : Kns w b off ds) :
    Calls Try.prog 16 #[.agg #[.int .i64 p, .slice (some ⟨b, off, none⟩) n c]] w (Ret (.bool (pzB p ds)) w) := by
  have HF := Lib.hid (fun (W : World) (hb : Below w.heap.size w W) => pzGood_any p b off n c ds W hl hn (Nat.lt_of_lt_of_le hbl hb.size) (hI.kept hb hbl))
  have HW := Lib.hid ((Below.refl w.heap.size w).alloc (Nat.le_refl _) (.cells #[.int .i64 p, .slice (some ⟨b, off, none⟩) n c] 29))
  clear hl hI
  go_enter Try.func16, Try.ntmps16
  go_wp2_with (go_at_call 52; refine (HF.out _ HW.out).mono ?_; rintro e w' ⟨rfl, hcall⟩)
  go_ret
  exact ⟨rfl, HW.out.trans (hcall.mono (by simp))⟩
theorem isPuzzle_both (p : Int) (ds : List Kn) : ∃ r,
    (∀ b c w, ds.length ≤ 1048576 → ds.length ≤ c → b < w.heap.size → Kns w b 0 ds → Calls Try.prog 16 #[.agg #[.int .i64 p, .slice (some ⟨b, 0, none⟩) ds.length c]] w (Ret (.bool r) w)) ∧
    (∀ b c w, ds.length ≤ 1048576 → ds.length ≤ c → b < w.heap.size → Kns w b 0 ds → Calls Try.prog 18 #[.agg #[.int .i64 p, .slice (some ⟨b, 0, none⟩) ds.length c]] w (Ret (.bool r) w)) :=
  ⟨pzB p ds, fun b c w hn _ hb hI => specIsPuzzle_any p b 0 _ c ds w rfl hn hb hI, fun b c w hn _ hb hI => isPuzzle_any p b 0 _ c ds w rfl hn hb hI⟩
end Go.Proofs.Ytkkjbkagkmngkaa
