/- The solutions of clues: the program. -/
import Derived.Test.YtkkjbkagkmngkaaAmH
import Derived.Test.YtkkjbkagkmngkaaPz9
import Derived.Test.YtkkjbkagkmngkaaPz10
set_option linter.unusedVariables false
set_option linter.unusedSimpArgs false
namespace Go.Proofs.Ytkkjbkagkmngkaa
open Go.RowKit

theorem famH_hid {n : Nat} (h : n = 2 ∨ n = 3) : FamH n (hidL n) := by
  refine ⟨Nat.le_trans (hidL_len (by omega)) (by omega), fun i hi => ?_⟩
  have := hidL_getD n i hi
  exact ⟨hidL_hdn h this, (hidL_mem n _ this).1⟩
theorem asks_sol (qc n : Nat) (ac : Option Addr) (nc cc : Nat) (cs : List Kn) (w : World) (hK : ArgK w ac nc cs) (hn6 : nc ≤ 1048576) (hcs : ∀ j, j < nc → icB n (at3 cs j) = true) (hq : w.cell? ⟨qc, 0, none⟩ = some (.slice ac nc cc)) : AsksH qc n (fitB cs) w :=
  fun W hb g c r hd hl hg hI => sol1_any qc g c n ac nc cc cs r W (by rw [hl]) (hK.kept hb) hn6 hcs hd hg hI (below_cell2 hb hq)
set_option maxHeartbeats 1600000 in
theorem solutions_any (n : Nat) (a : Option Addr) (nc c : Nat) (cs : List Kn) (w : World) (h : n = 2 ∨ n = 3) (hn6 : nc ≤ 1048576) (hcs : ∀ j, j < nc → icB n (at3 cs j) = true) (hK : ArgK w a nc cs) :
    Calls Try.prog 58 #[.int .i64 n, .slice a nc c] w (RetSets (solL n cs) w) := by
  have hmf : ∀ (fn : Fn) (first cap : Array Value) (w : World), (Instr.makeFunc fn first cap).run Try.prog w = .ok (.func fn first cap) w := fun _ _ _ _ => rfl
  have HW := Lib.hid ((Below.refl w.heap.size w).alloc (Nat.le_refl _) (.cells #[.slice a nc c] 27))
  have HH := Lib.hid (fun (W : World) => hidden_any n W (by omega))
  have HAm := Lib.hid (fun (W : World) (v : Value) (vs : List Value) (hb : Below w.heap.size w W) (hq : W.cell? ⟨w.heap.size, 0, none⟩ = some (.slice a nc c)) (hO : OwnSS w.heap.size W.heap.size W v vs (hidL n)) =>
    amongH_any w.heap.size n (by omega) (fitB cs) w.heap.size W.heap.size v vs (hidL n) W hO hb.size (Nat.le_refl _) (famH_hid h) (asks_sol w.heap.size n a nc c cs W (hK.kept hb) hn6 hcs hq))
  clear hK hcs
  go_enter Try.func58, Try.ntmps58
  go_wp2_with fail
  refine (HH.out _).mono ?_
  rintro e w1 ⟨v, vs, rfl, hO, hb1⟩
  have hb1' := HW.out.trans (hb1.mono HW.out.size)
  have hq1 : w1.cell? ⟨w.heap.size, 0, none⟩ = some (.slice a nc c) := below_cell2 hb1 (by simp [go_sem])
  have HO := Lib.hid (hO.monoB' (B' := w.heap.size) (by simp))
  have HC := Lib.hid (HAm.out w1 v vs hb1' hq1 HO.out)
  clear hO
  go_wp2_with fail
  refine HC.out.mono ?_
  rintro e w2 ⟨v2, vs2, rfl, hO2, hb2⟩
  have hb2' := hb1'.trans (hb2.mono hb1'.size)
  go_wp2_with fail
  go_ret
  exact ⟨v2, vs2, rfl, hO2, hb2'⟩
end Go.Proofs.Ytkkjbkagkmngkaa
