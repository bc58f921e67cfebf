/- The numbers of relatives: the program's text. -/
import Derived.Test.YtmlcelleohhmcaaTt0
set_option linter.unusedVariables false
set_option linter.unusedSimpArgs false
namespace Go.Proofs.Ytmlcelleohhmcaa
open Go.RowKit

theorem newCellAtI (W : World) (g : Nat) (x : Value) (t : TypeId) (hg : g = W.heap.size) : ∀ j u, [x][j]? = some u → (W.alloc (.cells #[x] t)).cell? ((⟨g, 0, none⟩ : Addr).add j) = some u := by
  subst hg; exact newCell W x t
theorem parN_len (fs : List Kn) (i : Nat) : (parN fs i).length ≤ (allN fs).length := List.length_filter_le _ _
theorem chiN_len (fs : List Kn) (i : Nat) : (chiN fs i).length ≤ (allN fs).length := List.length_filter_le _ _
def castT (ns : List Nat) (k : Nat) : List Int := (ns.take k).map fun (n : Nat) => (n : Int)
theorem castT_succ {ns : List Nat} {k : Nat} (hk : k < ns.length) : castT ns (k + 1) = castT ns k ++ [((ns.getD k 0 : Nat) : Int)] := by
  unfold castT
  rw [List.take_succ_eq_append_getElem hk, List.map_append]
  simp [List.getElem?_eq_getElem hk]
theorem castT_len (ns : List Nat) (k : Nat) : (castT ns k).length ≤ k := by unfold castT; simp; omega
set_option maxHeartbeats 2000000 in
theorem numbers_some (fs : List Kn) (go n c : Nat) (ns : List Nat) (w : World) (hl : ns.length = n) (hI : Rls fs w go 0 ns) (hgo : go < w.heap.size) (hn : n ≤ 14) :
    Calls Try.prog 40 #[.slice (some ⟨go, 0, none⟩) n c] w (RetOwn (castT ns ns.length) w) := by
  obtain ⟨i0, hi, hz0, hz1, hz2⟩ := info_parts infoInt
  have HL := Lib.hid hl
  have HI := Lib.hid hI
  have HT := Lib.hid (fun k (hk : k < ns.length) => castT_succ hk)
  have HTl := Lib.hid (fun k => castT_len ns k)
  clear hl hI
  go_enter Try.func40, Try.ntmps40
  go_wp2
  go_loopw [3, 8] (fun u v wr => ∃ k : Nat, k ≤ n ∧ v = .int .i64 k ∧ Hid (Own w.heap.size wr u (castT ns k)) ∧ Below w.heap.size w wr) (fun _ v _ => n - (intOf v).toNat)
  case atStart => exact ⟨0, Nat.zero_le _, rfl, Lib.hid (own_nil _ _), Below.refl _ _⟩
  case round =>
    obtain ⟨k, hk, rfl, Ho, hb⟩ := hrel
    have hsz := hb.size
    by_cases hlt : k < n
    · obtain ⟨p1, p2, p3, p4⟩ := (HI.out.kept hb hgo) k (by rw [HL.out]; exact hlt)
      rw [Nat.zero_add] at p1 p2 p3 p4
      have HT2 := Lib.hid (HT.out k (by rw [HL.out]; exact hlt))
      have htl := HTl.out k
      have hlc : (k : Int) < (n : Int) := by omega
      have hk0 : (0 : Int) ≤ (k : Int) := by omega
      generalize ns.getD k 0 = x at p1 p2 p3 p4 HT2
      generalize (at3 fs x).1 = y at p1
      generalize (at3 fs x).2.1 = d at p2
      generalize (at3 fs x).2.2 = o at p3
      have how := Lib.hid (World.ownsRow.alloc Ho.out (.cells #[.int .i64 y, .int .i64 d, .int .i64 o, .int .i64 x] 70))
      have hbw := hb.alloc hsz (.cells #[.int .i64 y, .int .i64 d, .int .i64 o, .int .i64 x] 70)
      clear Ho
      generalize hxs : castT ns k = xs at how HT2 htl
      clear hxs
      go_wp2_with (first | (at_builtin; refine wpList_append_own _ rfl _ _ 24 rfl w.heap.size 3 i0 (.int .i64 0) 1 8 Try.underlying24 hi hz0 hz1 hz2 rfl (by decide) u3 xs.length (xs.map (Value.int .i64)) rfl (World.ownsRow.alloc how.out _) ⟨wr.heap.size + 1, 0, none⟩ 1 1 [.int .i64 x] rfl rfl (newCellAtI _ _ _ _ (by simp)) (oneInt _) ?c4 ?c5 ?c6 ?_))
      case c4 => unfold maxLen; omega
      case c5 => omega
      case c6 => simp; omega
      intro v' w3 hown' hgrow _
      have hb3 := below_push hbw how.out hgrow
      have Ho3 : Hid (Own w.heap.size w3 v' (castT ns (k + 1))) := Lib.hid (by rw [HT2.out]; exact own_push hown')
      clear hown' hgrow how hbw
      go_wp2
      go_roundw
      case rel => exact ⟨k + 1, by omega, by go_num, Ho3, hb3⟩
      case measure => simp [intOf]; omega
    · have hlc : ¬ (k : Int) < (n : Int) := by omega
      have hE := Lib.hid (show castT ns k = castT ns ns.length by rw [show k = ns.length by rw [HL.out]; omega])
      go_wp2
      go_ret
      exact ⟨_, rfl, by rw [← hE.out]; exact Ho.out, hb⟩
theorem numbers_any (fs : List Kn) (B : Nat) (v : Value) (ns : List Nat) (w : World) (hO : OwnR fs B w v ns) (hn : ns.length ≤ 14) :
    Calls Try.prog 40 #[v] w (RetOwn (ns.map fun (n : Nat) => (n : Int)) w) := by
  have e : (ns.map fun (n : Nat) => (n : Int)) = castT ns ns.length := by unfold castT; rw [List.take_length]
  rw [e]
  rcases hO.cases with ⟨rfl, rfl⟩ | ⟨g, c, rfl, _, hg, _, _, hI, _⟩
  · go_enter Try.func40, Try.ntmps40
    go_wp2
    go_loop [3, 8] (fun u v => u = .slice none 0 0 ∧ v = .int .i64 0) (fun _ _ => 0)
    case atStart => exact ⟨rfl, rfl⟩
    case round =>
      obtain ⟨rfl, rfl⟩ := hrel
      go_wp2
      go_ret
      exact ⟨_, rfl, own_nil _ _, Below.refl _ _⟩
  · exact numbers_some fs g ns.length c ns w rfl hI hg hn
end Go.Proofs.Ytmlcelleohhmcaa
