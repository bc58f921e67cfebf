/- Clues joined, and one left out: both texts. -/
import Derived.Test.YtkkjbkagkmngkaaCluHelp
import Derived.Lib.SliceRun
import Derived.Lib.AppendZeros
import Derived.WideShapes
import Derived.Laws.AppendOwnNone
import Derived.Deep.RegionWith
set_option linter.unusedVariables false
set_option linter.unusedSimpArgs false
namespace Go.Proofs.Ytkkjbkagkmngkaa
open Go.RowKit

theorem kns_cells {w : World} {b off : Nat} {ds : List Kn} (h : Kns w b off ds) : ∀ j u, (flatK ds)[j]? = some u → w.cell? ((⟨b, off, none⟩ : Addr).add j) = some u := by
  intro j u hj
  rw [WideShapes.add_plain]
  have hlt : j < ds.length * 3 := by
    have := (List.getElem?_eq_some_iff.1 hj).1
    rwa [flatK_length] at this
  obtain ⟨k, hk⟩ : ∃ k, j = k * 3 ∨ j = k * 3 + 1 ∨ j = k * 3 + 2 := ⟨j / 3, by omega⟩
  have hkl : k < ds.length := by omega
  have h1 := h k hkl
  have h2 := flatK_at ds k hkl
  rcases hk with rfl | rfl | rfl
  · rw [h2.1] at hj; simp only [Option.some.injEq] at hj; rw [← hj]; exact h1.1
  · rw [h2.2.1] at hj; simp only [Option.some.injEq] at hj; rw [← hj, ← Nat.add_assoc]; exact h1.2.1
  · rw [h2.2.2] at hj; simp only [Option.some.injEq] at hj; rw [← hj, ← Nat.add_assoc]; exact h1.2.2
theorem kns_oneCell (ds : List Kn) : ∀ u ∈ flatK ds, u.oneCell' = true := by
  intro u hu
  unfold flatK at hu
  rw [List.mem_flatMap] at hu
  obtain ⟨p, _, hp⟩ := hu
  simp at hp
  rcases hp with rfl | rfl | rfl <;> rfl
theorem Kns.drop {w : World} {b off : Nat} {ds : List Kn} (h : Kns w b off ds) (k : Nat) : Kns w b (off + k * 3) (ds.drop k) := by
  intro j hj
  have hj' : k + j < ds.length := by simp at hj; omega
  have := h (k + j) hj'
  have e : at3 (ds.drop k) j = at3 ds (k + j) := by simp [at3, List.getElem?_drop]
  rw [e, show off + k * 3 + j * 3 = off + (k + j) * 3 by omega]
  exact this

set_option maxHeartbeats 1000000 in
theorem growK_nil (n : Nat) (w : World) (hn : n ≤ 1048576) :
    Calls Try.prog 86 #[.slice none 0 0, .int .i64 n] w (RetOwnK [] w) := by
  obtain ⟨i0, hi, hz0, hz1, hz2⟩ := info_parts infoClue
  by_cases h1 : 1 ≤ n
  · have happ := Lib.run_append_nil_zeros (P := Try.prog) w 27 3 27 54 i0 _ .i64 .i64 Try.underlying27 Try.underlying3 hi hz0 n (by omega) (by omega) (by omega) (by rw [hz2]; omega)
    generalize hcap : grownCap w n 0 54 = cap2 at happ
    have hcapge : n ≤ cap2 := by rw [← hcap]; exact grownCap_ge w _ 0 54
    have hcaple : cap2 ≤ maxLen := by rw [← hcap]; exact grownCap_le_maxLen w _ 0 54 (by unfold maxLen; omega)
    generalize hZ : (Builtin.zeroCells (Value.agg #[.int .i64 0, .int .i64 0, .int .i64 0]).cells n ++ Builtin.zeroCells (Value.agg #[.int .i64 0, .int .i64 0, .int .i64 0]).cells (cap2 - n)) = Z at happ
    have hZs : Z.size = cap2 * 3 := by rw [← hZ]; simp [size_zeroCells, Value.cells]; omega
    clear hcap hZ
    have hO : OwnK w.heap.size (w.drew.alloc (.cells Z 54)) (.slice (some ⟨w.heap.size, 0, none⟩) 0 cap2) [] :=
      ⟨rfl, .inr ⟨w.heap.size, cap2, Z, rfl, Nat.le_refl _, heap_alloc_new w.drew _, by simp, hcaple, by omega, by simp [flatK]⟩⟩
    have HO := Lib.hid hO
    have HB := Lib.hid (show Below w.heap.size w (w.drew.alloc (.cells Z 54)) from (Below.drew (Below.refl _ _)).alloc (Nat.le_refl _) _)
    have hp : (0 : Int) < (n : Int) := by omega
    have hp0 : ¬ ((n : Int) < 0) := by omega
    clear hO
    go_enter Try.func86, Try.ntmps86
    go_wp2_with (at_builtin; refine Lib.wpList_append_run _ rfl _ _ _ _ rfl _ _ rfl rfl _ _ happ ?_)
    go_ret
    exact ⟨_, rfl, HO.out, HB.out⟩
  · have h0 : n = 0 := by omega
    subst h0
    rw [show (((0 : Nat)) : Int) = 0 from rfl]
    go_enter Try.func86, Try.ntmps86
    go_wp2_with fail
    go_ret
    exact ⟨_, rfl, ownK_nil _ _, Below.refl _ _⟩
/-- A slice that may be appended: its cells are known. -/
def OpK (w : World) (ad : Addr) (xs : List Kn) : Prop := ∀ j u, (flatK xs)[j]? = some u → w.cell? (ad.add j) = some u
theorem opK_of {w : World} {ad : Addr} {n : Nat} {xs : List Kn} (h : ArgK w (some ad) n xs) : OpK w ad xs := by
  obtain ⟨h1, h2⟩ := h
  rcases h2 with h0 | ⟨b, off, e, _, hk⟩
  · have : xs = [] := List.eq_nil_of_length_eq_zero (by omega)
    subst this
    intro j u hj
    simp [flatK] at hj
  · simp only [Option.some.injEq] at e
    subst e
    exact kns_cells hk

set_option maxHeartbeats 2000000 in
theorem concatS_any (q n1 c1 n2 c2 : Nat) (ad1 : Addr) (ad2 : Addr) (xs ys : List Kn) (w : World) (hn1 : n1 ≤ 10) (hn2 : n2 ≤ 10)
    (hq0 : w.cell? ⟨q, 0, none⟩ = some (.slice (some ad1) n1 c1)) (hq1 : w.cell? ⟨q, 1, none⟩ = some (.slice (some ad2) n2 c2)) (hX : ArgK w (some ad1) n1 xs) (hY : ArgK w (some ad2) n2 ys) :
    Calls Try.prog 74 #[.slice (some ⟨q, 0, none⟩) 2 2] w (RetOwnK (xs ++ ys) w) := by
  obtain ⟨i0, hi, hz0, hz1, hz2⟩ := info_parts infoClue
  have hqs := World.block_lt_of_cell? w ⟨q, 0, none⟩ hq0
  have HQ0 := Lib.hid hq0
  have HQ1 := Lib.hid hq1
  have HY := Lib.hid hY
  have HLY := Lib.hid hY.1
  have HX := Lib.hid hX
  have HLX := Lib.hid hX.1
  clear hX
  clear hY
  go_enter Try.func74, Try.ntmps74
  go_wp2_with fail
  go_loop [3, 11] (fun s i => (i = .int .i64 0 ∧ s = .int .i64 0) ∨ (i = .int .i64 1 ∧ s = .int .i64 n1) ∨ (i = .int .i64 2 ∧ s = .int .i64 ((n1 : Int) + n2))) (fun _ i => 2 - (intOf i).toNat)
  case atStart => exact .inl ⟨rfl, rfl⟩
  case round =>
    rcases hrel with ⟨rfl, rfl⟩ | ⟨rfl, rfl⟩ | ⟨rfl, rfl⟩
    · go_wp2_with fail
      go_round
      case rel => exact .inr (.inl ⟨by go_num, by first | rfl | go_num⟩)
      case measure => simp [intOf]
    · have hp : ¬ ((n1 : Int) + (n2 : Int) < 0) := by omega
      go_wp2_with fail
      go_round
      case rel => exact .inr (.inr ⟨by go_num, by first | rfl | go_num⟩)
      case measure => simp [intOf]
    · clear hq0 hq1
      go_wp2_with fail
      rw [show ((n1 : Int) + (n2 : Int)) = ((n1 + n2 : Nat) : Int) by omega]
      refine (growK_nil (n1 + n2) _ (by omega)).mono ?_
      rintro e w1 ⟨v, rfl, ho, hb⟩
      have hcs : ∃ g c, v = .slice (some ⟨g, 0, none⟩) 0 c ∨ v = .slice none 0 0 := by
        rcases ho.cases with ⟨h, _⟩ | ⟨g, c, h, _⟩
        · exact ⟨0, 0, .inr h⟩
        · exact ⟨g, c, .inl h⟩
      have HO := Lib.hid ho
      have HB := Lib.hid hb
      obtain ⟨g, c, hv⟩ := hcs
      rcases hv with rfl | rfl
      all_goals
        clear ho hb
        go_wp2_with fail
        go_loopw [6, 27] (fun v i wr => Below w.heap.size w wr ∧ ((i = .int .i64 0 ∧ OwnK w.heap.size wr v []) ∨ (i = .int .i64 1 ∧ OwnK w.heap.size wr v xs) ∨ (i = .int .i64 2 ∧ OwnK w.heap.size wr v (xs ++ ys)))) (fun _ i _ => 2 - (intOf i).toNat)
        case atStart => exact ⟨HB.out, .inl ⟨rfl, HO.out⟩⟩
        case round =>
          obtain ⟨hbr, hcase⟩ := hrel
          have hsz := hbr.size
          rcases hcase with ⟨rfl, hor⟩ | ⟨rfl, hor⟩ | ⟨rfl, hor⟩
          · have hr0 := (hbr.cell (p := ⟨q, 0, none⟩) hqs).trans HQ0.out
            have HC := Lib.hid (opK_of (HX.out.kept hbr))
            have HU := Lib.hid (kns_oneCell xs)
            have HOR := Lib.hid hor
            have HLn : Hid ((flatK xs).length = n1 * 3) := Lib.hid (by rw [flatK_length, HLX.out])
            clear hor
            go_wp2_with (first | (at_builtin; refine wpList_append_own _ rfl _ _ 27 rfl w.heap.size 54 i0 _ 3 24 Try.underlying27 hi hz0 hz1 hz2 rfl (by decide) _ 0 [] rfl HOR.out ad1 n1 c1 _ rfl HLn.out HC.out HU.out ?c3 ?c4 ?c5 ?_))
            case c3 => unfold maxLen; omega
            case c4 => omega
            case c5 => first | omega | (simp; omega) | exact Nat.le_refl _
            intro v' w2 hown hgr _
            have hown1 : OwnK w.heap.size w2 v' xs := by
              unfold OwnK
              rw [← HLX.out] at hown
              simpa using hown
            have hblk : ∀ k, u6.ownBlock = some k → w.heap.size ≤ k := fun k hk => (World.ownsRow.lt HOR.out k hk).1
            have hbz := hbr.grown hgr (by omega) hblk
            clear hown hgr
            go_wp2_with fail
            go_roundw
            case rel => exact ⟨hbz, .inr (.inl ⟨by go_num, hown1⟩)⟩
            case measure => simp [intOf]
          · have hr1 := (hbr.cell (p := ⟨q, 1, none⟩) hqs).trans HQ1.out
            have HC := Lib.hid (opK_of (HY.out.kept hbr))
            have HU := Lib.hid (kns_oneCell ys)
            have HOR := Lib.hid hor
            have HLn : Hid ((flatK ys).length = n2 * 3) := Lib.hid (by rw [flatK_length, HLY.out])
            clear hor
            have hxl := HLX.out
            go_wp2_with (first | (at_builtin; refine wpList_append_own _ rfl _ _ 27 rfl w.heap.size 54 i0 _ 3 24 Try.underlying27 hi hz0 hz1 hz2 rfl (by decide) _ _ _ rfl HOR.out ad2 n2 c2 _ rfl HLn.out HC.out HU.out ?c3 ?c4 ?c5 ?_))
            case c3 => unfold maxLen; omega
            case c4 => omega
            case c5 => first | omega | (simp; omega) | exact Nat.le_refl _
            intro v' w2 hown hgr _
            have hown1 : OwnK w.heap.size w2 v' (xs ++ ys) := by
              unfold OwnK
              rw [List.length_append, flatK_append, HLX.out, HLY.out]
              exact hown
            have hblk : ∀ k, u6.ownBlock = some k → w.heap.size ≤ k := fun k hk => (World.ownsRow.lt HOR.out k hk).1
            have hbz := hbr.grown hgr (by omega) hblk
            clear hown hgr
            go_wp2_with fail
            go_roundw
            case rel => exact ⟨hbz, .inr (.inr ⟨by go_num, hown1⟩)⟩
            case measure => simp [intOf]
          · have HOR := Lib.hid hor
            have hlv : ∃ a n c, u6 = .slice a n c := by
              rcases hor.2 with ⟨h1, _⟩ | ⟨g, cap, cur, h1, _⟩
              · exact ⟨_, _, _, h1⟩
              · exact ⟨_, _, _, h1⟩
            obtain ⟨la, ln, lc, rfl⟩ := hlv
            clear hor
            go_wp2_with fail
            go_ret
            exact ⟨_, rfl, HOR.out, hbr⟩

set_option maxHeartbeats 2000000 in
theorem concatN_any (q  n2 c2 : Nat) (ad2 : Addr) ( ys : List Kn) (w : World) (hn2 : n2 ≤ 10)
    (hq0 : w.cell? ⟨q, 0, none⟩ = some (.slice none 0 0)) (hq1 : w.cell? ⟨q, 1, none⟩ = some (.slice (some ad2) n2 c2)) (hY : ArgK w (some ad2) n2 ys) :
    Calls Try.prog 74 #[.slice (some ⟨q, 0, none⟩) 2 2] w (RetOwnK (ys) w) := by
  obtain ⟨i0, hi, hz0, hz1, hz2⟩ := info_parts infoClue
  have hqs := World.block_lt_of_cell? w ⟨q, 0, none⟩ hq0
  have HQ0 := Lib.hid hq0
  have HQ1 := Lib.hid hq1
  have HY := Lib.hid hY
  have HLY := Lib.hid hY.1
  clear hY
  go_enter Try.func74, Try.ntmps74
  go_wp2_with fail
  go_loop [3, 11] (fun s i => (i = .int .i64 0 ∧ s = .int .i64 0) ∨ (i = .int .i64 1 ∧ s = .int .i64 0) ∨ (i = .int .i64 2 ∧ s = .int .i64 (n2 : Int))) (fun _ i => 2 - (intOf i).toNat)
  case atStart => exact .inl ⟨rfl, rfl⟩
  case round =>
    rcases hrel with ⟨rfl, rfl⟩ | ⟨rfl, rfl⟩ | ⟨rfl, rfl⟩
    · go_wp2_with fail
      go_round
      case rel => exact .inr (.inl ⟨by go_num, by first | rfl | go_num⟩)
      case measure => simp [intOf]
    · have hp : ¬ ((0 : Int) + (n2 : Int) < 0) := by omega
      go_wp2_with fail
      go_round
      case rel => exact .inr (.inr ⟨by go_num, by first | rfl | go_num⟩)
      case measure => simp [intOf]
    · clear hq0 hq1
      go_wp2_with fail
      refine (growK_nil n2 _ (by omega)).mono ?_
      rintro e w1 ⟨v, rfl, ho, hb⟩
      have hcs : ∃ g c, v = .slice (some ⟨g, 0, none⟩) 0 c ∨ v = .slice none 0 0 := by
        rcases ho.cases with ⟨h, _⟩ | ⟨g, c, h, _⟩
        · exact ⟨0, 0, .inr h⟩
        · exact ⟨g, c, .inl h⟩
      have HO := Lib.hid ho
      have HB := Lib.hid hb
      obtain ⟨g, c, hv⟩ := hcs
      rcases hv with rfl | rfl
      all_goals
        clear ho hb
        go_wp2_with fail
        go_loopw [6, 27] (fun v i wr => Below w.heap.size w wr ∧ ((i = .int .i64 0 ∧ OwnK w.heap.size wr v []) ∨ (i = .int .i64 1 ∧ OwnK w.heap.size wr v []) ∨ (i = .int .i64 2 ∧ OwnK w.heap.size wr v (ys)))) (fun _ i _ => 2 - (intOf i).toNat)
        case atStart => exact ⟨HB.out, .inl ⟨rfl, HO.out⟩⟩
        case round =>
          obtain ⟨hbr, hcase⟩ := hrel
          have hsz := hbr.size
          rcases hcase with ⟨rfl, hor⟩ | ⟨rfl, hor⟩ | ⟨rfl, hor⟩
          · have hr0 := (hbr.cell (p := ⟨q, 0, none⟩) hqs).trans HQ0.out
            have HOR := Lib.hid hor
            clear hor
            go_wp2_with (first | (at_builtin; refine wpList_append_own_none rfl _ _ 27 rfl w.heap.size 54 i0 3 Try.underlying27 hi _ 0 [] rfl HOR.out rfl ?_))
            go_wp2_with fail
            go_roundw
            case rel => exact ⟨hbr, .inr (.inl ⟨by go_num, HOR.out⟩)⟩
            case measure => simp [intOf]
          · have hr1 := (hbr.cell (p := ⟨q, 1, none⟩) hqs).trans HQ1.out
            have HC := Lib.hid (opK_of (HY.out.kept hbr))
            have HU := Lib.hid (kns_oneCell ys)
            have HOR := Lib.hid hor
            have HLn : Hid ((flatK ys).length = n2 * 3) := Lib.hid (by rw [flatK_length, HLY.out])
            clear hor
            go_wp2_with (first | (at_builtin; refine wpList_append_own _ rfl _ _ 27 rfl w.heap.size 54 i0 _ 3 24 Try.underlying27 hi hz0 hz1 hz2 rfl (by decide) _ 0 [] rfl HOR.out ad2 n2 c2 _ rfl HLn.out HC.out HU.out ?c3 ?c4 ?c5 ?_))
            case c3 => unfold maxLen; omega
            case c4 => omega
            case c5 => first | omega | (simp; omega) | exact Nat.le_refl _
            intro v' w2 hown hgr _
            have hown1 : OwnK w.heap.size w2 v' (ys) := by
              unfold OwnK
              rw [HLY.out]
              simpa [flatK] using hown
            have hblk : ∀ k, u6.ownBlock = some k → w.heap.size ≤ k := fun k hk => (World.ownsRow.lt HOR.out k hk).1
            have hbz := hbr.grown hgr (by omega) hblk
            clear hown hgr
            go_wp2_with fail
            go_roundw
            case rel => exact ⟨hbz, .inr (.inr ⟨by go_num, hown1⟩)⟩
            case measure => simp [intOf]
          · have HOR := Lib.hid hor
            have hlv : ∃ a n c, u6 = .slice a n c := by
              rcases hor.2 with ⟨h1, _⟩ | ⟨g, cap, cur, h1, _⟩
              · exact ⟨_, _, _, h1⟩
              · exact ⟨_, _, _, h1⟩
            obtain ⟨la, ln, lc, rfl⟩ := hlv
            clear hor
            go_wp2_with fail
            go_ret
            exact ⟨_, rfl, HOR.out, hbr⟩

end Go.Proofs.Ytkkjbkagkmngkaa
