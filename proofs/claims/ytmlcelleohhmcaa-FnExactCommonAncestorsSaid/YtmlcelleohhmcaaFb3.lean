/- Whether a list is a family: both texts. -/
import Derived.Test.YtmlcelleohhmcaaFb2
set_option linter.unusedVariables false
set_option linter.unusedSimpArgs false
namespace Go.Proofs.Ytmlcelleohhmcaa
open Go.RowKit

set_option maxHeartbeats 2000000 in
theorem imFam_any (b n c : Nat) (fs : List Kn) (w : World) (hl : fs.length = n) (hnc : n ≤ c) (hbl : b < w.heap.size) (hI : Kns w b 0 fs) :
    Calls Try.prog 76 #[.slice (some ⟨b, 0, none⟩) n c] w (Ret (.bool (famB fs)) w) := by
  have HL := Lib.hid hl
  cases hL : inB n 1 14 with
  | false =>
    rw [show famB fs = false by unfold famB; rw [hl, hL]; rfl]
    clear hl
    go_enter Try.func76, Try.ntmps76
    go_wp2_with (go_at_call 57; refine (isWithin_any _ _ _ _).mono ?_; rintro e w' ⟨rfl, rfl⟩)
    go_ret
    exact ⟨rfl, Below.refl _ _⟩
  | true =>
    have h8 := inB_iff.1 hL
    have hB : Hid (famB fs = fitsTo fs n) := Lib.hid (by unfold famB; rw [hl, hL]; rfl)
    clear hl
    go_enter Try.func76, Try.ntmps76
    go_wp2_with (go_at_call 57; refine (isWithin_any _ _ _ _).mono ?_; rintro e w' ⟨rfl, rfl⟩)
    go_loopw [11] (fun v wr => ∃ k : Nat, k ≤ n ∧ v = .int .i64 k ∧ Hid (fitsTo fs k = true) ∧ Below w.heap.size w wr) (fun v _ => n - (intOf v).toNat)
    case atStart => exact ⟨0, Nat.zero_le _, rfl, Lib.hid rfl, Below.refl _ _⟩
    case round =>
      obtain ⟨k, hk, rfl, HA, hb⟩ := hrel
      have hsz := hb.size
      by_cases hlt : k < n
      · obtain ⟨p1, p2, p3⟩ := (hI.kept hb hbl) k (by rw [HL.out]; exact hlt)
        rw [Nat.zero_add] at p1 p2 p3
        have HK0 := fun (w' : World) (h' : Below w.heap.size w w') => behind_any b k (c - 0) fs (at3 fs k).1 (at3 fs k).2.1 (at3 fs k).2.2 w' (by omega) (Nat.lt_of_lt_of_le hbl h'.size) (fun j hj => by have := ((hI.kept h' hbl) j (by rw [HL.out]; omega)).1; rwa [Nat.zero_add] at this) (bd_of HA.out)
        rw [← triple_eta fs k] at HK0
        have HS := Lib.hid (fitsTo_succ fs k)
        rw [HA.out, Bool.true_and] at HS
        have HN := Lib.hid (fun h => fitsTo_not (fs := fs) (n := n) k hlt h)
        cases hz : fitB fs k (at3 fs k) with
        | true =>
          rw [hz] at HK0
          rw [hz] at HS
          have HK := Lib.hid HK0
          clear HK0 hz HN
          generalize (at3 fs k).1 = y at p1 HK
          generalize (at3 fs k).2.1 = d at p2 HK
          generalize (at3 fs k).2.2 = o at p3 HK
          have hi0 : (0 : Int) ≤ (k : Int) := by omega
          have hi1 : (k : Int) ≤ (c : Int) := by omega
          have hi2 : ¬ (c : Int) = 0 := by omega
          have hi3 : ¬ c = 0 := by omega
          go_wp2_with fail
          go_region_held3 (fun w' => Below w.heap.size w w' ∧ w'.cell? ⟨wr.heap.size, 0, none⟩ = some (.int .i64 y) ∧ w'.cell? ⟨wr.heap.size, 1, none⟩ = some (.int .i64 d) ∧ w'.cell? ⟨wr.heap.size, 2, none⟩ = some (.int .i64 o))
            (first
              | (exact ⟨(hb.alloc hsz _).drew, by simp [go_sem], by simp [go_sem], by simp [go_sem]⟩)
              | (exact ⟨Below.drew (by assumption), by simpa using (by assumption : World.cell? _ ⟨wr.heap.size, 0, none⟩ = _), by simpa using (by assumption : World.cell? _ ⟨wr.heap.size, 1, none⟩ = _), by simpa using (by assumption : World.cell? _ ⟨wr.heap.size, 2, none⟩ = _)⟩)
              | (go_split_ands
                 refine ⟨?_, ?_, ?_, ?_⟩
                 · exact Below.trans (by assumption) (Below.mono hcall (Below.size (by assumption)))
                 · exact below_cell2 hcall (by assumption)
                 · exact below_cell2 hcall (by assumption)
                 · exact below_cell2 hcall (by assumption)))
            (first | (go_at_call 86; refine (HK.out _ (by first | assumption | (go_split_ands; assumption))).mono ?_; rintro e w' ⟨rfl, hcall⟩))
          obtain ⟨hbf, _⟩ := ‹Below w.heap.size w _ ∧ _›
          go_wp2_with fail
          go_roundw
          case rel => exact ⟨k + 1, by omega, by go_num, Lib.hid HS.out, hbf⟩
          case measure => simp [intOf]; omega
        | false =>
          rw [hz] at HK0
          have HZ := Lib.hid (HN.out hz)
          have HK := Lib.hid HK0
          clear HK0 hz HN HS
          generalize (at3 fs k).1 = y at p1 HK
          generalize (at3 fs k).2.1 = d at p2 HK
          generalize (at3 fs k).2.2 = o at p3 HK
          have hi0 : (0 : Int) ≤ (k : Int) := by omega
          have hi1 : (k : Int) ≤ (c : Int) := by omega
          have hi2 : ¬ (c : Int) = 0 := by omega
          have hi3 : ¬ c = 0 := by omega
          go_wp2_with fail
          go_region_held3 (fun w' => Below w.heap.size w w' ∧ w'.cell? ⟨wr.heap.size, 0, none⟩ = some (.int .i64 y) ∧ w'.cell? ⟨wr.heap.size, 1, none⟩ = some (.int .i64 d) ∧ w'.cell? ⟨wr.heap.size, 2, none⟩ = some (.int .i64 o))
            (first
              | (exact ⟨(hb.alloc hsz _).drew, by simp [go_sem], by simp [go_sem], by simp [go_sem]⟩)
              | (exact ⟨Below.drew (by assumption), by simpa using (by assumption : World.cell? _ ⟨wr.heap.size, 0, none⟩ = _), by simpa using (by assumption : World.cell? _ ⟨wr.heap.size, 1, none⟩ = _), by simpa using (by assumption : World.cell? _ ⟨wr.heap.size, 2, none⟩ = _)⟩)
              | (go_split_ands
                 refine ⟨?_, ?_, ?_, ?_⟩
                 · exact Below.trans (by assumption) (Below.mono hcall (Below.size (by assumption)))
                 · exact below_cell2 hcall (by assumption)
                 · exact below_cell2 hcall (by assumption)
                 · exact below_cell2 hcall (by assumption)))
            (first | (go_at_call 86; refine (HK.out _ (by first | assumption | (go_split_ands; assumption))).mono ?_; rintro e w' ⟨rfl, hcall⟩))
          obtain ⟨hbf, _⟩ := ‹Below w.heap.size w _ ∧ _›
          go_wp2_with fail
          go_ret
          exact ⟨by rw [hB.out, HZ.out]; rfl, hbf⟩
      · have hkn : k = n := by omega
        subst hkn
        go_wp2_with fail
        go_ret
        exact ⟨by rw [hB.out, HA.out]; rfl, hb⟩

end Go.Proofs.Ytmlcelleohhmcaa
