/- pairsWhen, with the question of loop.example/g01369/impl.pairsWithTold$1. -/
import Derived.Test.YtlfbhpeehidjhaaIpu
import Derived.Test.YtlfbhpeehidjhaaRowsHelp
set_option linter.unusedVariables false
set_option linter.unusedSimpArgs false
namespace Go.Proofs.Ytlfbhpeehidjhaa
open Go.RowKit

def AsksT (q0 q1 : Nat) (q : Dt → Bool) (w : World) : Prop :=
  ∀ (W : World), Below w.heap.size w W → ∀ (x y : Int), ((1 ≤ x ∧ x ≤ 40) ∧ (1 ≤ y ∧ y ≤ 40)) →
    Calls Try.prog 31 #[.agg #[.int .i64 x, .int .i64 y], .pointer (some ⟨q0, 0, none⟩), .pointer (some ⟨q1, 0, none⟩)] W (Ret (.bool (q (x, y))) W)
set_option maxHeartbeats 4000000 in
set_option maxRecDepth 100000 in
theorem whenT_some (q0 q1 : Nat) (q : Dt → Bool) (B go n c : Nat) (ds : List Dt) (w : World) (hl : ds.length = n) (hI : Dts w go 0 ds) (hgo : go < w.heap.size) (hF : PrB ds) (hQ : AsksT q0 q1 q w) :
    Calls Try.prog 29 #[.slice (some ⟨go, 0, none⟩) n c, (.func (.func 31) #[] #[.pointer (some ⟨q0, 0, none⟩), .pointer (some ⟨q1, 0, none⟩)])] w (RetPrs (ds.filter q) w) := by
  obtain ⟨i0, hi, hz0, hz1, hz2⟩ := info_parts infoPair
  have hn : n ≤ 1640 := by have := hF.1; omega
  have HF := Lib.hid (fun k hk => prB_at hF k hk)
  have HL := Lib.hid hl
  have HQ := Lib.hid hQ
  have HI := Lib.hid hI
  have HT := Lib.hid (fun k (hk : k < ds.length) => take_filter q ds k hk)
  have HTl := Lib.hid (fun k => take_filter_len q ds k)
  clear hF hl hQ hI
  go_enter Try.func29, Try.ntmps29
  go_wp2
  go_loopw [5, 10] (fun u v wr => ∃ k : Nat, k ≤ n ∧ v = .int .i64 k ∧ Hid (OwnD 43 w.heap.size wr u (pick q ds k)) ∧ Below w.heap.size w wr) (fun _ v _ => n - (intOf v).toNat)
  case atStart => exact ⟨0, Nat.zero_le _, rfl, Lib.hid (ownD_nil _ _ _), Below.refl _ _⟩
  case round =>
    obtain ⟨k, hk, rfl, Ho, hb⟩ := hrel
    have hsz := hb.size
    by_cases hlt : k < n
    · obtain ⟨p1, p2⟩ := (HI.out.kept hb hgo) k (by rw [HL.out]; exact hlt)
      rw [Nat.zero_add] at p1 p2
      have hbd := HF.out k (by rw [HL.out]; exact hlt)
      have HT2 := Lib.hid (HT.out k (by rw [HL.out]; exact hlt))
      have htl := HTl.out k
      have hlc : (k : Int) < (n : Int) := by omega
      have hk0 : (0 : Int) ≤ (k : Int) := by omega
      generalize at2 ds k = p at p1 p2 hbd HT2
      obtain ⟨x, y⟩ := p
      simp only at p1 p2 hbd
      have HC := Lib.hid (HQ.out (wr.alloc (.cells #[.int .i64 x, .int .i64 y] 43)) (hb.alloc hsz _) x y hbd)
      have HK := Lib.hid (fun (w2 : World) (hb2 : Below (wr.alloc (.cells #[.int .i64 x, .int .i64 y] 43)).heap.size (wr.alloc (.cells #[.int .i64 x, .int .i64 y] 43)) w2) =>
        (show Below w.heap.size w w2 ∧ OwnD 43 w.heap.size w2 u5 (pick q ds k) ∧ w.heap.size ≤ w2.heap.size ∧ w2.cell? ⟨wr.heap.size, 0, none⟩ = some (.int .i64 x) ∧ w2.cell? ⟨wr.heap.size, 1, none⟩ = some (.int .i64 y) from
          ⟨(hb.alloc hsz _).trans (hb2.mono (by simp; omega)), OwnD.kept (World.ownsRow.alloc Ho.out _) hb2, by have := hb2.size; simp at this; omega, (hb2.cell (p := ⟨wr.heap.size, 0, none⟩) (by simp)).trans (by simp [go_sem]), (hb2.cell (p := ⟨wr.heap.size, 1, none⟩) (by simp)).trans (by simp [go_sem])⟩))
      clear Ho hb hbd
      generalize hxs : pick q ds k = xs at HK HT2 htl
      clear hxs
      cases hq : q (x, y) with
      | true =>
        rw [hq] at HC
        have HT3 : Hid (pick q ds (k + 1) = xs ++ [(x, y)]) := Lib.hid (by rw [HT2.out, if_pos hq])
        clear hq HT2
        go_wp2_with (first | (go_at_call 31; refine HC.out.mono ?_; rintro e w2 ⟨rfl, hb2⟩; obtain ⟨hbw, how, hsw, c1, c2⟩ := HK.out w2 hb2; clear hb2) | (at_builtin; refine wpList_append_own _ rfl _ _ 39 rfl w.heap.size 43 i0 (.agg #[.int .i64 0, .int .i64 0]) 2 16 Try.underlying39 hi hz0 hz1 hz2 rfl (by decide) u5 xs.length (flatD xs) rfl (World.ownsRow.alloc how _) ⟨w2.heap.size, 0, none⟩ 1 1 [.int .i64 x, .int .i64 y] rfl rfl (newPairAt _ _ _ _ _ rfl) (twoInts _ _) ?c4 ?c5 ?c6 ?_))
        case c4 => unfold maxLen; omega
        case c5 => omega
        case c6 => simp; omega
        intro v' w3 hown' hgrow _
        have hb3 := below_pushP hbw how hgrow
        have Ho3 : Hid (OwnD 43 w.heap.size w3 v' (pick q ds (k + 1))) := Lib.hid (by rw [HT3.out]; exact prs_push hown')
        clear hown' hgrow how hbw c1 c2
        go_wp2
        go_roundw
        case rel => exact ⟨k + 1, by omega, by go_num, Ho3, hb3⟩
        case measure => simp [intOf]; omega
      | false =>
        rw [hq] at HC
        have HT3 : Hid (pick q ds (k + 1) = xs) := Lib.hid (by rw [HT2.out, if_neg (by rw [hq]; simp)])
        clear hq HT2
        go_wp2_with (first | (go_at_call 31; refine HC.out.mono ?_; rintro e w2 ⟨rfl, hb2⟩; obtain ⟨hbw, how, hsw, c1, c2⟩ := HK.out w2 hb2; clear hb2))
        have Ho3 : Hid (OwnD 43 w.heap.size w2 u5 (pick q ds (k + 1))) := Lib.hid (by rw [HT3.out]; exact how)
        clear how
        go_roundw
        case rel => exact ⟨k + 1, by omega, by go_num, Ho3, hbw⟩
        case measure => simp [intOf]; omega
    · have hlc : ¬ (k : Int) < (n : Int) := by omega
      have hE := Lib.hid (show pick q ds k = ds.filter q by unfold pick; rw [List.take_of_length_le (by rw [HL.out]; omega)])
      go_wp2
      go_ret
      exact ⟨_, rfl, by rw [← hE.out]; exact Ho.out, hb⟩
set_option maxHeartbeats 1600000 in
theorem whenT_any (q0 q1 : Nat) (q : Dt → Bool) (B : Nat) (v : Value) (ds : List Dt) (w : World) (hO : OwnD 43 B w v ds) (hF : PrB ds) (hQ : AsksT q0 q1 q w) :
    Calls Try.prog 29 #[v, (.func (.func 31) #[] #[.pointer (some ⟨q0, 0, none⟩), .pointer (some ⟨q1, 0, none⟩)])] w (RetPrs (ds.filter q) w) := by
  rcases hO.cases with ⟨rfl, rfl⟩ | ⟨g, c, rfl, _, hg, _, _, hI, _⟩
  · rw [List.filter_nil]
    clear hQ
    go_enter Try.func29, Try.ntmps29
    go_wp2
    go_loop [5, 10] (fun u v => u = .slice none 0 0 ∧ v = .int .i64 0) (fun _ _ => 0)
    case atStart => exact ⟨rfl, rfl⟩
    case round =>
      obtain ⟨rfl, rfl⟩ := hrel
      go_wp2
      go_ret
      exact ⟨_, rfl, ownD_nil _ _ _, Below.refl _ _⟩
  · exact whenT_some q0 q1 q B g ds.length c ds w rfl hI hg hF hQ
end Go.Proofs.Ytlfbhpeehidjhaa
