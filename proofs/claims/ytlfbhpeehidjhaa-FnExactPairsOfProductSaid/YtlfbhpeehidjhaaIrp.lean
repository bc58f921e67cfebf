/- Pairs as rows; pairs with a told number: the program's. -/
import Derived.Test.YtlfbhpeehidjhaaPwT
import Derived.Test.YtlfbhpeehidjhaaSub
set_option linter.unusedVariables false
set_option linter.unusedSimpArgs false
namespace Go.Proofs.Ytlfbhpeehidjhaa
open Go.RowKit

theorem ownSS_alloc {B : Nat} {w : World} {v : Value} {vs : List Value} {rss : List (List Int)} (h : OwnSS B w.heap.size w v vs rss) (A : Obj) : OwnSS B (w.alloc A).heap.size (w.alloc A) v vs rss := by
  have h1 := h.kept (Nat.le_refl _) ((Below.refl w.heap.size w).alloc (Nat.le_refl _) A)
  have hs : w.heap.size ≤ (w.alloc A).heap.size := by simp
  exact ⟨h1.len, h1.outer, fun g hg => Nat.lt_of_lt_of_le (h1.obl g hg) hs, h1.row, fun i hi g hg => Nat.lt_of_lt_of_le (h1.rbl i hi g hg) hs, h1.apart⟩
theorem OwnSS.pushAt (G : Nat) {B : Nat} {wr w1 : World} {v v' : Value} {vs : List Value} {rss : List (List Int)} {x y : Int} (hG : G = wr.heap.size) (h : OwnSS B wr.heap.size wr v vs rss) (hB : B ≤ wr.heap.size)
    (hown : w1.ownsRow B 32 1 v' (vs.length + 1) (vs ++ [.slice (some ⟨G, 0, none⟩) 2 2]))
    (hg : ((wr.alloc (.cells #[.int .i64 x, .int .i64 y] 3)).alloc (.cells #[.slice (some ⟨G, 0, none⟩) 2 2] 32)).grownBy w1 v.ownBlock) :
    OwnSS B w1.heap.size w1 v' (vs ++ [.slice (some ⟨G, 0, none⟩) 2 2]) (rss ++ [[x, y]]) := by
  subst hG
  exact h.push hB hown hg
theorem rowsD_step (ds : List Dt) (k : Nat) (hk : k < ds.length) : rowsD (ds.take (k + 1)) = rowsD (ds.take k) ++ [[(at2 ds k).1, (at2 ds k).2]] := by
  have e : at2 ds k = ds[k] := by simp [at2, List.getElem?_eq_getElem hk]
  unfold rowsD
  rw [List.take_succ_eq_append_getElem hk, e, List.map_append]
  rfl
set_option maxHeartbeats 4000000 in
set_option maxRecDepth 100000 in
theorem rowsOf_some (go n c : Nat) (ds : List Dt) (w : World) (hl : ds.length = n) (hn : n ≤ 1640) (hI : Dts w go 0 ds) (hgo : go < w.heap.size) :
    Calls Try.prog 28 #[.slice (some ⟨go, 0, none⟩) n c] w (RetSub w.heap.size (rowsD ds) w) := by
  obtain ⟨i0, hi, hz0, hz1, hz2⟩ := info_parts infoSlice
  have HL := Lib.hid hl
  have HI := Lib.hid hI
  have HT := Lib.hid (fun k (hk : k < ds.length) => rowsD_step ds k hk)
  clear hl hI
  go_enter Try.func28, Try.ntmps28
  go_wp2
  go_loopw [3, 8] (fun u v wr => ∃ (k : Nat) (vs : List Value), k ≤ n ∧ v = .int .i64 k ∧ Hid (OwnSS w.heap.size wr.heap.size wr u vs (rowsD (ds.take k))) ∧ Hid (vs.length ≤ 1640) ∧ Below w.heap.size w wr) (fun _ v _ => n - (intOf v).toNat)
  case atStart => exact ⟨0, [], Nat.zero_le _, rfl, Lib.hid (ownSS_nil _ _ _), Lib.hid (by simp), Below.refl _ _⟩
  case round =>
    obtain ⟨k, vs, hk, rfl, Ho, Hvl, hb⟩ := hrel
    have hsz := hb.size
    by_cases hlt : k < n
    · obtain ⟨p1, p2⟩ := (HI.out.kept hb hgo) k (by rw [HL.out]; exact hlt)
      rw [Nat.zero_add] at p1 p2
      have HT2 := Lib.hid (HT.out k (by rw [HL.out]; exact hlt))
      have hlc : (k : Int) < (n : Int) := by omega
      have hk0 : (0 : Int) ≤ (k : Int) := by omega
      have Hlk : Hid (vs.length ≤ k) := Lib.hid (by rw [Ho.out.len, rowsD_len]; simp; omega)
      generalize at2 ds k = p at p1 p2 HT2
      obtain ⟨x, y⟩ := p
      simp only at p1 p2
      have HO := Lib.hid (ownSS_alloc Ho.out (.cells #[.int .i64 x, .int .i64 y] 43))
      have hbA := hb.alloc hsz (.cells #[.int .i64 x, .int .i64 y] 43)
      have hvl := Hvl.out
      clear Ho Hvl
      go_wp2_with (first | (at_builtin; refine wpList_append_own _ rfl _ _ 23 rfl w.heap.size 32 i0 _ 1 24 Try.underlying23 hi hz0 hz1 hz2 rfl (by decide) _ _ _ rfl (World.ownsRow.alloc (World.ownsRow.alloc HO.out.outer _) _) ⟨wr.heap.size + 2, 0, none⟩ 1 1 [.slice (some ⟨wr.heap.size + 1, 0, none⟩) 2 2] rfl rfl (newCellAt _ _ _ _ (by simp)) (oneSlice _ _ _) ?c3 ?c4 ?c5 ?_))
      case c3 => unfold maxLen; omega
      case c4 => omega
      case c5 => first | omega | (simp; omega)
      intro v' w1 hown hgr _
      have hp := OwnSS.pushAt (wr.heap.size + 1) (wr := wr.alloc (.cells #[.int .i64 x, .int .i64 y] 43)) (by simp) HO.out (by simp; omega) hown hgr
      have hb1 := ((hbA.alloc (by simp; omega) _).alloc (by simp; omega) _).grown hgr (by simp; omega) (fun k hk => (World.ownsRow.lt HO.out.outer k hk).1)
      rw [← HT2.out] at hp
      have HP := Lib.hid hp
      have HVl : Hid ((vs ++ [Value.slice (some ⟨wr.heap.size + 1, 0, none⟩) 2 2]).length ≤ 1640) := Lib.hid (by have := Hlk.out; simp; omega)
      clear hp hown hgr
      go_wp2
      go_roundw
      case rel => exact ⟨k + 1, _, by omega, by go_num, HP, HVl, hb1⟩
      case measure => simp [intOf]; omega
    · have hlc : ¬ (k : Int) < (n : Int) := by omega
      have hE := Lib.hid (show rowsD (ds.take k) = rowsD ds by rw [List.take_of_length_le (by rw [HL.out]; omega)])
      go_wp2
      go_ret
      exact ⟨_, _, rfl, by rw [← hE.out]; exact Ho.out, hb⟩
theorem rowsOf_any (B : Nat) (v : Value) (ds : List Dt) (w : World) (hO : OwnD 43 B w v ds) (hn : ds.length ≤ 1640) :
    Calls Try.prog 28 #[v] w (RetSub w.heap.size (rowsD ds) w) := by
  rcases hO.cases with ⟨rfl, rfl⟩ | ⟨g, c, rfl, _, hg, _, _, hI, _⟩
  · go_enter Try.func28, Try.ntmps28
    go_wp2
    go_loop [3, 8] (fun u v => u = .slice none 0 0 ∧ v = .int .i64 0) (fun _ _ => 0)
    case atStart => exact ⟨rfl, rfl⟩
    case round =>
      obtain ⟨rfl, rfl⟩ := hrel
      go_wp2
      go_ret
      exact ⟨_, [], rfl, ownSS_nil _ _ _, Below.refl _ _⟩
  · exact rowsOf_some g ds.length c ds w rfl hn hI hg

/-- The question 'is this what is told': at the two cells of who and of the number. -/
def ToldAt (q0 q1 : Nat) (s : Bool) (x : Int) (w : World) : Prop := w.cell? ⟨q0, 0, none⟩ = some (whoV s) ∧ w.cell? ⟨q1, 0, none⟩ = some (.int .i64 x)
theorem ToldAt.kept {q0 q1 : Nat} {s : Bool} {x : Int} {w w' : World} (h : ToldAt q0 q1 s x w) (hb : Below w.heap.size w w') : ToldAt q0 q1 s x w' := ⟨below_cells2 hb h.1, below_cells2 hb h.2⟩
theorem cellAbove {w : World} {a : Addr} {v : Value} (h : w.cell? a = some v) (A : Obj) : (w.alloc A).cell? a = some v :=
  (((Below.refl w.heap.size w).alloc (Nat.le_refl _) A).cell (World.block_lt_of_cell? w _ h)).trans h
theorem lt_of_int {w : World} {g : Nat} {x : Int} (h : w.cell? ⟨g, 0, none⟩ = some (.int .i64 x)) : g ≤ w.heap.size := Nat.le_of_lt (World.block_lt_of_cell? w _ h)
set_option maxHeartbeats 4000000 in
theorem asksT (q0 q1 : Nat) (s : Bool) (num x y : Int) (w : World) (hT : ToldAt q0 q1 s num w) (h : (1 ≤ x ∧ x ≤ 40) ∧ (1 ≤ y ∧ y ≤ 40)) :
    Calls Try.prog 31 #[.agg #[.int .i64 x, .int .i64 y], .pointer (some ⟨q0, 0, none⟩), .pointer (some ⟨q1, 0, none⟩)] w (Ret (.bool (isT s num (x, y))) w) := by
  have HB := Lib.hid ((Below.refl w.heap.size w).alloc (Nat.le_refl _) (.cells #[.int .i64 x, .int .i64 y] 43))
  have h1 := cellAbove hT.1 (.cells #[.int .i64 x, .int .i64 y] 43)
  have h2 := cellAbove hT.2 (.cells #[.int .i64 x, .int .i64 y] 43)
  have HC := Lib.hid (fun W => told_any s x y W h)
  have HE : Hid (isT s num (x, y) = (toldP s (x, y) == num)) := Lib.hid rfl
  generalize toldP s (x, y) = t at HC HE
  have hwx : ∃ u, whoV s = .int .u8 u := ⟨_, rfl⟩
  generalize whoV s = wv at h1 HC hwx
  obtain ⟨u, rfl⟩ := hwx
  clear h hT
  go_enter Try.func31, Try.ntmps31
  go_wp2
  have z1 : (w.alloc (.cells #[.int .i64 x, .int .i64 y] 43)).cell? ⟨w.heap.size, 0, none⟩ = some (.int .i64 x) := by simp [go_sem]
  have z2 : (w.alloc (.cells #[.int .i64 x, .int .i64 y] 43)).cell? ⟨w.heap.size, 1, none⟩ = some (.int .i64 y) := by simp [go_sem]
  have hb0 := HB.out
  clear HB
  generalize hW : w.alloc (.cells #[.int .i64 x, .int .i64 y] 43) = W at h1 h2 z1 z2 hb0 ⊢
  generalize hg : w.heap.size = g at z1 z2 hb0 ⊢
  have hb1 : Below g w W.drew := hb0.drew
  go_region_held3 (fun w' => Below g w w' ∧ w'.cell? ⟨g, 0, none⟩ = some (.int .i64 x) ∧ w'.cell? ⟨g, 1, none⟩ = some (.int .i64 y) ∧ w'.cell? ⟨q0, 0, none⟩ = some (.int .u8 u) ∧ w'.cell? ⟨q1, 0, none⟩ = some (.int .i64 num))
    (first
      | go_keep
      | (go_split_ands
         refine ⟨?_, ?_, ?_, ?_, ?_⟩
         · exact Below.trans (by assumption) (Below.mono hcall (lt_of_int (by assumption)))
         · exact below_cells2 hcall (by assumption)
         · exact below_cells2 hcall (by assumption)
         · exact below_cells2 hcall (by assumption)
         · exact below_cells2 hcall (by assumption)))
    (first | (go_at_call 32; refine (HC.out _).mono ?_; rintro e w' ⟨rfl, hcall⟩))
  obtain ⟨hbf, _⟩ := ‹Below g w _ ∧ _›
  subst hg
  go_wp2
  go_ret
  exact ⟨by rw [HE.out]; rfl, hbf⟩
end Go.Proofs.Ytlfbhpeehidjhaa
