/- when, with the question of (loop.example/g01369/impl.kindred).commonAncestors$1. -/
import Derived.Test.YtmlcelleohhmcaaSlc
set_option linter.unusedVariables false
set_option linter.unusedSimpArgs false
namespace Go.Proofs.Ytmlcelleohhmcaa
open Go.RowKit

def AsksCom (fs : List Kn) (q0 : Nat) (q : Nat → Bool) (w : World) : Prop :=
  ∀ (W : World), Below w.heap.size w W → ∀ (n : Nat), n < fs.length →
    Calls Try.prog 59 #[.agg #[.int .i64 (at3 fs n).1, .int .i64 (at3 fs n).2.1, .int .i64 (at3 fs n).2.2, .int .i64 n], .pointer (some ⟨q0, 0, none⟩)] W (Ret (.bool (q n)) W)
set_option maxHeartbeats 4000000 in
set_option maxRecDepth 100000 in
theorem whenCom_some (fs : List Kn) (q0 : Nat) (q : Nat → Bool) (go n c : Nat) (ns : List Nat) (w : World) (hl : ns.length = n) (hI : Rls fs w go 0 ns) (hgo : go < w.heap.size) (hF : NsB fs ns) (hQ : AsksCom fs q0 q w) :
    Calls Try.prog 58 #[.slice (some ⟨go, 0, none⟩) n c, (.func (.func 59) #[] #[.pointer (some ⟨q0, 0, none⟩)])] w (RetR fs (ns.filter q) w) := by
  obtain ⟨i0, hi, hz0, hz1, hz2⟩ := info_parts infoRel
  have hn : n ≤ 14 := by have := hF.1; omega
  have HF := Lib.hid (fun k hk => nsB_at hF k hk)
  have HL := Lib.hid hl
  have HQ := Lib.hid hQ
  have HI := Lib.hid hI
  have HT := Lib.hid (fun k (hk : k < ns.length) => pickN_succ q ns k hk)
  have HTl := Lib.hid (fun k => pickN_len q ns k)
  clear hF hl hQ hI
  go_enter Try.func58, Try.ntmps58
  go_wp2
  go_loopw [5, 10] (fun u v wr => ∃ k : Nat, k ≤ n ∧ v = .int .i64 k ∧ Hid (OwnR fs w.heap.size wr u (pickN q ns k)) ∧ Below w.heap.size w wr) (fun _ v _ => n - (intOf v).toNat)
  case atStart => exact ⟨0, Nat.zero_le _, rfl, Lib.hid (ownR_nil _ _), Below.refl _ _⟩
  case round =>
    obtain ⟨k, hk, rfl, Ho, hb⟩ := hrel
    have hsz := hb.size
    by_cases hlt : k < n
    · obtain ⟨p1, p2, p3, p4⟩ := (HI.out.kept hb hgo) k (by rw [HL.out]; exact hlt)
      rw [Nat.zero_add] at p1 p2 p3 p4
      have hbd := HF.out k (by rw [HL.out]; exact hlt)
      have HT2 := Lib.hid (HT.out k (by rw [HL.out]; exact hlt))
      have htl := HTl.out k
      have hlc : (k : Int) < (n : Int) := by omega
      have hk0 : (0 : Int) ≤ (k : Int) := by omega
      generalize ns.getD k 0 = x at p1 p2 p3 p4 hbd HT2
      have HC := Lib.hid (HQ.out (wr.alloc (.cells #[.int .i64 (at3 fs x).1, .int .i64 (at3 fs x).2.1, .int .i64 (at3 fs x).2.2, .int .i64 x] 70)) (hb.alloc hsz _) x hbd)
      have HPU := Lib.hid (fun (w3 : World) (v' : Value) (xs : List Nat) (h : w3.ownsRow w.heap.size 70 4 v' (xs.length + 1) (flatR fs xs ++ [.int .i64 (at3 fs x).1, .int .i64 (at3 fs x).2.1, .int .i64 (at3 fs x).2.2, .int .i64 x])) => ownR_push h)
      have HK := Lib.hid (fun (w2 : World) (hb2 : Below (wr.alloc (.cells #[.int .i64 (at3 fs x).1, .int .i64 (at3 fs x).2.1, .int .i64 (at3 fs x).2.2, .int .i64 x] 70)).heap.size (wr.alloc (.cells #[.int .i64 (at3 fs x).1, .int .i64 (at3 fs x).2.1, .int .i64 (at3 fs x).2.2, .int .i64 x] 70)) w2) =>
        (show Below w.heap.size w w2 ∧ OwnR fs w.heap.size w2 u5 (pickN q ns k) ∧ w.heap.size ≤ w2.heap.size ∧ w2.cell? ⟨wr.heap.size, 0, none⟩ = some (.int .i64 (at3 fs x).1) ∧ w2.cell? ⟨wr.heap.size, 1, none⟩ = some (.int .i64 (at3 fs x).2.1) ∧ w2.cell? ⟨wr.heap.size, 2, none⟩ = some (.int .i64 (at3 fs x).2.2) ∧ w2.cell? ⟨wr.heap.size, 3, none⟩ = some (.int .i64 x) from
          ⟨(hb.alloc hsz _).trans (hb2.mono (by simp; omega)), OwnR.kept (World.ownsRow.alloc Ho.out _) hb2, by have := hb2.size; simp at this; omega, (hb2.cell (p := ⟨wr.heap.size, 0, none⟩) (by simp)).trans (by simp [go_sem]), (hb2.cell (p := ⟨wr.heap.size, 1, none⟩) (by simp)).trans (by simp [go_sem]), (hb2.cell (p := ⟨wr.heap.size, 2, none⟩) (by simp)).trans (by simp [go_sem]), (hb2.cell (p := ⟨wr.heap.size, 3, none⟩) (by simp)).trans (by simp [go_sem])⟩))
      clear Ho hb hbd
      generalize hxs : pickN q ns k = xs at HK HT2 htl
      clear hxs
      generalize (at3 fs x).1 = y at p1 HC HPU HK
      generalize (at3 fs x).2.1 = d at p2 HC HPU HK
      generalize (at3 fs x).2.2 = o at p3 HC HPU HK
      cases hq : q x with
      | true =>
        rw [hq] at HC
        have HT3 : Hid (pickN q ns (k + 1) = xs ++ [x]) := Lib.hid (by rw [HT2.out, if_pos hq])
        clear hq HT2
        go_wp2_with (first | (go_at_call 59; refine HC.out.mono ?_; rintro e w2 ⟨rfl, hb2⟩; obtain ⟨hbw, how, hsw, c1, c2, c3, c4⟩ := HK.out w2 hb2; clear hb2) | (at_builtin; refine wpList_append_own _ rfl _ _ 52 rfl w.heap.size 70 i0 (.agg #[.int .i64 0, .int .i64 0, .int .i64 0, .int .i64 0]) 4 32 Try.underlying52 hi hz0 hz1 hz2 rfl (by decide) u5 xs.length (flatR fs xs) rfl (World.ownsRow.alloc how _) ⟨w2.heap.size, 0, none⟩ 1 1 [.int .i64 y, .int .i64 d, .int .i64 o, .int .i64 x] rfl rfl (newFourAt _ _ _ _ _ _ _ rfl) (four_ints _ _ _ _) ?c4 ?c5 ?c6 ?_))
        case c4 => unfold maxLen; omega
        case c5 => omega
        case c6 => simp; omega
        intro v' w3 hown' hgrow _
        have hb3 := below_pushR hbw how hgrow
        have Ho3 : Hid (OwnR fs w.heap.size w3 v' (pickN q ns (k + 1))) := Lib.hid (by rw [HT3.out]; exact HPU.out w3 v' xs hown')
        clear hown' hgrow how hbw c1 c2 c3 c4
        go_wp2
        go_roundw
        case rel => exact ⟨k + 1, by omega, by go_num, Ho3, hb3⟩
        case measure => simp [intOf]; omega
      | false =>
        rw [hq] at HC
        have HT3 : Hid (pickN q ns (k + 1) = xs) := Lib.hid (by rw [HT2.out, if_neg (by rw [hq]; simp)])
        clear hq HT2
        go_wp2_with (first | (go_at_call 59; refine HC.out.mono ?_; rintro e w2 ⟨rfl, hb2⟩; obtain ⟨hbw, how, hsw, c1, c2, c3, c4⟩ := HK.out w2 hb2; clear hb2))
        have Ho3 : Hid (OwnR fs w.heap.size w2 u5 (pickN q ns (k + 1))) := Lib.hid (by rw [HT3.out]; exact how)
        clear how
        go_roundw
        case rel => exact ⟨k + 1, by omega, by go_num, Ho3, hbw⟩
        case measure => simp [intOf]; omega
    · have hlc : ¬ (k : Int) < (n : Int) := by omega
      have hE := Lib.hid (pickN_all q ns k (by rw [HL.out]; omega))
      go_wp2
      go_ret
      exact ⟨_, rfl, by rw [← hE.out]; exact Ho.out, hb⟩
set_option maxHeartbeats 1600000 in
theorem whenCom_any (fs : List Kn) (q0 : Nat) (q : Nat → Bool) (B : Nat) (v : Value) (ns : List Nat) (w : World) (hO : OwnR fs B w v ns) (hF : NsB fs ns) (hQ : AsksCom fs q0 q w) :
    Calls Try.prog 58 #[v, (.func (.func 59) #[] #[.pointer (some ⟨q0, 0, none⟩)])] w (RetR fs (ns.filter q) w) := by
  rcases hO.cases with ⟨rfl, rfl⟩ | ⟨g, c, rfl, _, hg, _, _, hI, _⟩
  · rw [List.filter_nil]
    clear hQ
    go_enter Try.func58, Try.ntmps58
    go_wp2
    go_loop [5, 10] (fun u v => u = .slice none 0 0 ∧ v = .int .i64 0) (fun _ _ => 0)
    case atStart => exact ⟨rfl, rfl⟩
    case round =>
      obtain ⟨rfl, rfl⟩ := hrel
      go_wp2
      go_ret
      exact ⟨_, rfl, ownR_nil _ _, Below.refl _ _⟩
  · exact whenCom_some fs q0 q g ns.length c ns w rfl hI hg hF hQ
end Go.Proofs.Ytmlcelleohhmcaa
