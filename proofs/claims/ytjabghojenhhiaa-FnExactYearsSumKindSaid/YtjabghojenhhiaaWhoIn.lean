/- Who of a household is of a kind, and how many: the program's methods. -/
import Derived.Test.YtjabghojenhhiaaIs
import Derived.Test.YtjabghojenhhiaaYTo
set_option linter.unusedVariables false
set_option linter.unusedSimpArgs false
namespace Go.Proofs.Ytjabghojenhhiaa
open Go.RowKit

theorem newCell_at (W : World) (g : Nat) (x : Value) (t : TypeId) (hg : g = W.heap.size) : ∀ j u, [x][j]? = some u → (W.alloc (.cells #[x] t)).cell? ((⟨g, 0, none⟩ : Addr).add j) = some u := by
  subst hg; exact newCell W x t
def whoT (p : Nat → Bool) (zs : List Int) (i : Int) : Bool := p (zs.getD i.toNat 0).toNat
def whoL (p : Nat → Bool) (zs : List Int) : List Int := yTo (whoT p zs) 0 zs.length
theorem whoL_len (p : Nat → Bool) (zs : List Int) : (whoL p zs).length ≤ zs.length := yTo_len _ _ _
set_option maxHeartbeats 4000000 in
set_option maxRecDepth 100000 in
theorem whoIn_any (p : Nat → Bool) (num age : Int) (g c n : Nat) (zs : List Int) (w : World) (hl : zs.length = n) (h8 : n ≤ 8) (hgs : g < w.heap.size) (hP : Ppl w g zs) (hz : ∀ j, j < zs.length → 0 ≤ zs.getD j 0 ∧ zs.getD j 0 ≤ 120) :
    Calls Try.prog 54 #[.agg (pc p), .agg #[.int .i64 num, .int .i64 age, .slice (some ⟨g, 0, none⟩) n c]] w (RetOwn (whoL p zs) w) := by
  obtain ⟨i0, hi, hz0, hz1, hz2⟩ := info_parts infoInt
  have HL := Lib.hid hl
  have HP := Lib.hid hP
  have HZ := Lib.hid hz
  have hB0 := Lib.hid (fun A => (blk_new w 50 (pc p)).alloc A)
  have hW0 := Lib.hid (fun A => ((Below.refl w.heap.size w).alloc (Nat.le_refl _) (.cells (pc p) 50)).alloc (by simp) A)
  have hD : Hid (whoL p zs = yTo (whoT p zs) 0 n) := Lib.hid (by unfold whoL; rw [hl])
  clear hl hP hz
  go_enter Try.func54, Try.ntmps54
  go_wp2_with fail
  go_loopw [5, 11] (fun v i wr => ∃ k : Nat, k ≤ n ∧ i = .int .i64 (k : Int) ∧ Own (w.heap.size + 1) wr v (yTo (whoT p zs) 0 k) ∧ Below w.heap.size w wr ∧ Hid (Blk wr w.heap.size 50 (pc p))) (fun _ i _ => n - (intOf i).toNat)
  case atStart => exact ⟨0, Nat.zero_le _, rfl, own_nil _ _, hW0.out _, Lib.hid (hB0.out _)⟩
  case round =>
    obtain ⟨k, hk, rfl, ho, hb, hB⟩ := hrel
    have hsz := hb.size
    have hlt0 := hB.out.lt
    have hs := yTo_len (whoT p zs) 0 k
    by_cases hlt : k < n
    · have hc1 := (HP.out.kept hb hgs).num k (by rw [HL.out]; exact hlt)
      have hc2 := (HP.out.kept hb hgs).age k (by rw [HL.out]; exact hlt)
      have hzb := HZ.out k (by rw [HL.out]; exact hlt)
      generalize hz : zs.getD k 0 = z at hc2 hzb
      cases ht : whoT p zs (0 + (k : Int)) with
      | true =>
        have HT := Lib.hid (yTo_yes ht)
        obtain ⟨m, hm⟩ : ∃ m : Nat, z = (m : Int) := ⟨z.toNat, by omega⟩
        subst hm
        have hm1 : m < 961 := by omega
        have hq : p m = true := by have := ht; unfold whoT at this; rw [Int.zero_add] at this; simp only [Int.toNat_natCast, hz] at this; exact this
        have hcM : ∀ A, (wr.alloc A).cell? ⟨w.heap.size, m, none⟩ = some (.bool true) := fun A => by
          have := ((hB.out.alloc A).cell m).trans (pc_get p m hm1)
          rw [hq] at this
          exact this
        have i0' : (0 : Int) ≤ (m : Int) := by omega
        have i1' : (m : Int) < 961 := by omega
        have HO := Lib.hid (World.ownsRow.alloc (World.ownsRow.alloc ho (.cells #[.int .i64 k, .int .i64 m] 39)) (.cells #[.int .i64 k] 3))
        have hblk : ∀ q, u5.ownBlock = some q → w.heap.size + 1 ≤ q := fun q hq => (World.ownsRow.lt ho q hq).1
        clear ht hz hq ho
        go_wp2_with (first | (at_builtin; refine wpList_append_own _ rfl _ _ 22 rfl (w.heap.size + 1) 3 i0 (.int .i64 0) 1 8 Try.underlying22 hi hz0 hz1 hz2 rfl (by decide) _ _ _ rfl HO.out ⟨wr.heap.size + 1, 0, none⟩ 1 1 [.int .i64 k] rfl rfl (newCell_at _ _ _ _ (by simp)) (oneInt _) ?c3 ?c4 ?c5 ?_))
        case c3 => unfold maxLen; omega
        case c4 => omega
        case c5 => simp; omega
        intro v' w1 hown' hgrow _
        have hb1 := ((hb.alloc hsz (.cells #[.int .i64 k, .int .i64 m] 39)).alloc (by simp; omega) (.cells #[.int .i64 k] 3)).grown hgrow (by simp; omega) (fun q hq => by have := hblk q hq; omega)
        have hB1 := Lib.hid (((hB.out.alloc (.cells #[.int .i64 k, .int .i64 m] 39)).alloc (.cells #[.int .i64 k] 3)).grown hgrow (fun e => by have := hblk _ e.symm; omega))
        have ho1 := own_push hown'
        rw [show (k : Int) = 0 + (k : Int) by omega, ← HT.out] at ho1
        clear hown' hgrow hcM
        go_wp2
        go_roundw
        case rel => exact ⟨k + 1, by omega, by go_num, ho1, hb1, hB1⟩
        case measure => simp [intOf]; omega
      | false =>
        have HT := Lib.hid (yTo_no ht)
        obtain ⟨m, hm⟩ : ∃ m : Nat, z = (m : Int) := ⟨z.toNat, by omega⟩
        subst hm
        have hm1 : m < 961 := by omega
        have hq : p m = false := by have := ht; unfold whoT at this; rw [Int.zero_add] at this; simp only [Int.toNat_natCast, hz] at this; exact this
        have hcM : ∀ A, (wr.alloc A).cell? ⟨w.heap.size, m, none⟩ = some (.bool false) := fun A => by
          have := ((hB.out.alloc A).cell m).trans (pc_get p m hm1)
          rw [hq] at this
          exact this
        have i0' : (0 : Int) ≤ (m : Int) := by omega
        have i1' : (m : Int) < 961 := by omega
        have HO := Lib.hid (World.ownsRow.alloc ho (.cells #[.int .i64 k, .int .i64 m] 39))
        have HB2 := Lib.hid (hB.out.alloc (.cells #[.int .i64 k, .int .i64 m] 39))
        have HW2 := Lib.hid (hb.alloc hsz (.cells #[.int .i64 k, .int .i64 m] 39))
        clear ht hz hq ho
        go_wp2
        go_roundw
        case rel => exact ⟨k + 1, by omega, by go_num, by rw [HT.out]; exact HO.out, HW2.out, HB2⟩
        case measure => simp [intOf]; omega
    · have hkn : k = n := by omega
      have HE := Lib.hid (show whoL p zs = yTo (whoT p zs) 0 k by rw [hkn]; exact hD.out)
      clear hkn
      go_wp2
      go_ret
      exact ⟨_, rfl, by rw [HE.out]; exact ho.mono (by omega), hb⟩

/-- How many are of a kind. -/
def cnt (p : Nat → Bool) (zs : List Int) : Int := ((whoL p zs).length : Nat)
theorem cnt_bd (p : Nat → Bool) (zs : List Int) : 0 ≤ cnt p zs ∧ cnt p zs ≤ zs.length := by
  have := whoL_len p zs
  unfold cnt
  omega
set_option maxHeartbeats 4000000 in
set_option maxRecDepth 100000 in
theorem countIn_any (p : Nat → Bool) (num age : Int) (g c n : Nat) (zs : List Int) (w : World) (hl : zs.length = n) (h8 : n ≤ 8) (hgs : g < w.heap.size) (hP : Ppl w g zs) (hz : ∀ j, j < zs.length → 0 ≤ zs.getD j 0 ∧ zs.getD j 0 ≤ 120) :
    Calls Try.prog 46 #[.agg (pc p), .agg #[.int .i64 num, .int .i64 age, .slice (some ⟨g, 0, none⟩) n c]] w (Ret (.int .i64 (cnt p zs)) w) := by
  have HP := Lib.hid hP
  have hB0 := Lib.hid ((blk_new w 50 (pc p)).alloc (.cells #[.int .i64 num, .int .i64 age, .slice (some ⟨g, 0, none⟩) n c] 42))
  have hW0 := Lib.hid (((Below.refl w.heap.size w).alloc (Nat.le_refl _) (.cells (pc p) 50)).alloc (by simp) (.cells #[.int .i64 num, .int .i64 age, .slice (some ⟨g, 0, none⟩) n c] 42))
  clear hP
  go_enter Try.func46, Try.ntmps46
  go_wp2_with (refine wpList_load_row rfl _ _ rfl _ 50 _ rfl hB0.out 961 _ Try.underlying50 (sizeMarksOf _) ?_)
  refine (whoIn_any p num age g c n zs _ hl h8 (by simp; omega) (HP.out.kept hW0.out hgs) hz).mono ?_
  rintro e w1 ⟨v, rfl, ho, hb⟩
  have hb1 := hW0.out.trans (hb.mono hW0.out.size)
  rcases ho.cases with ⟨rfl, hnil⟩ | ⟨g1, c1, rfl, _⟩
  · have HE := Lib.hid (show cnt p zs = 0 by unfold cnt; rw [hnil]; rfl)
    clear hnil ho hl
    go_wp2_with fail
    go_ret
    exact ⟨retI HE.out.symm, hb1⟩
  · have HE := Lib.hid (show cnt p zs = (((whoL p zs).length : Nat) : Int) from rfl)
    clear hl ho
    generalize (whoL p zs).length = q at *
    go_wp2_with fail
    go_ret
    exact ⟨retI HE.out.symm, hb1⟩
end Go.Proofs.Ytjabghojenhhiaa
