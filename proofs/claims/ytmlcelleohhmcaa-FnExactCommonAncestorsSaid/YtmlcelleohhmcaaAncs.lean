/- Ancestors, descendants: the program's text. -/
import Derived.Test.YtmlcelleohhmcaaRfUp
import Derived.Test.YtmlcelleohhmcaaRfDn
set_option linter.unusedVariables false
set_option linter.unusedSimpArgs false
namespace Go.Proofs.Ytmlcelleohhmcaa
open Go.RowKit

noncomputable def ancN (fs : List Kn) (a : Nat) : List Nat := rchN (stUp fs) fs a
noncomputable def desN (fs : List Kn) (a : Nat) : List Nat := rchN (stDn fs) fs a
set_option maxHeartbeats 1000000 in
theorem ancestors_any (fs : List Kn) (g cc a : Nat) (w : World) (hK : Kdr fs w g cc) (ha : a < fs.length) :
    Calls Try.prog 33 #[.slice (some ⟨g, 0, none⟩) fs.length cc, .agg #[.int .i64 (at3 fs a).1, .int .i64 (at3 fs a).2.1, .int .i64 (at3 fs a).2.2, .int .i64 a]] w (RetR fs (ancN fs a) w) := by
  have HL := Lib.hid ((Below.refl w.heap.size w).alloc (Nat.le_refl _) (.cells #[.int .i64 (at3 fs a).1, .int .i64 (at3 fs a).2.1, .int .i64 (at3 fs a).2.2, .int .i64 a] 70))
  have HC := Lib.hid (reachedUp_any (stUp fs) fs g cc a (w.alloc (.cells #[.int .i64 (at3 fs a).1, .int .i64 (at3 fs a).2.1, .int .i64 (at3 fs a).2.2, .int .i64 a] 70)) (hK.above _) ha (stepUp_any fs))
  clear hK
  change Hid (Calls _ _ _ _ (RetR fs (ancN fs a) _)) at HC
  generalize ancN fs a = zs at HC ⊢
  generalize (at3 fs a).1 = y at HC HL ⊢
  generalize (at3 fs a).2.1 = d at HC HL ⊢
  generalize (at3 fs a).2.2 = o at HC HL ⊢
  go_enter Try.func33, Try.ntmps33
  go_wp2_with (go_at_call 54; refine HC.out.mono ?_; rintro e w2 h2; obtain ⟨v2, rfl, ho2, hb2⟩ := h2.lift HL.out)
  go_ret
  exact ⟨_, rfl, ho2, hb2⟩
set_option maxHeartbeats 1000000 in
theorem descendants_any (fs : List Kn) (g cc a : Nat) (w : World) (hK : Kdr fs w g cc) (ha : a < fs.length) :
    Calls Try.prog 35 #[.slice (some ⟨g, 0, none⟩) fs.length cc, .agg #[.int .i64 (at3 fs a).1, .int .i64 (at3 fs a).2.1, .int .i64 (at3 fs a).2.2, .int .i64 a]] w (RetR fs (desN fs a) w) := by
  have HL := Lib.hid ((Below.refl w.heap.size w).alloc (Nat.le_refl _) (.cells #[.int .i64 (at3 fs a).1, .int .i64 (at3 fs a).2.1, .int .i64 (at3 fs a).2.2, .int .i64 a] 70))
  have HC := Lib.hid (reachedDn_any (stDn fs) fs g cc a (w.alloc (.cells #[.int .i64 (at3 fs a).1, .int .i64 (at3 fs a).2.1, .int .i64 (at3 fs a).2.2, .int .i64 a] 70)) (hK.above _) ha (stepDn_any fs))
  clear hK
  change Hid (Calls _ _ _ _ (RetR fs (desN fs a) _)) at HC
  generalize desN fs a = zs at HC ⊢
  generalize (at3 fs a).1 = y at HC HL ⊢
  generalize (at3 fs a).2.1 = d at HC HL ⊢
  generalize (at3 fs a).2.2 = o at HC HL ⊢
  go_enter Try.func35, Try.ntmps35
  go_wp2_with (go_at_call 54; refine HC.out.mono ?_; rintro e w2 h2; obtain ⟨v2, rfl, ho2, hb2⟩ := h2.lift HL.out)
  go_ret
  exact ⟨_, rfl, ho2, hb2⟩
theorem ancN_len (fs : List Kn) (a : Nat) : (ancN fs a).length ≤ (allN fs).length := List.length_filter_le _ _
theorem desN_len (fs : List Kn) (a : Nat) : (desN fs a).length ≤ (allN fs).length := List.length_filter_le _ _
end Go.Proofs.Ytmlcelleohhmcaa
