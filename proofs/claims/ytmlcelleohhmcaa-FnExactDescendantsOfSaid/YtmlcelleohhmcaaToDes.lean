/- tellOfOne[loop.example/g01369/impl.kindred], told by (loop.example/g01369/impl.kindred).descendants. -/
import Derived.Test.YtmlcelleohhmcaaTtKin1
set_option linter.unusedVariables false
set_option linter.unusedSimpArgs false
namespace Go.Proofs.Ytmlcelleohhmcaa
open Go.RowKit

def Asks1Des (fs : List Kn) (Ψ : Nat → World → Value → Prop) (w : World) : Prop :=
  ∀ (W : World), Below w.heap.size w W → ∀ (g c a : Nat), Kdr fs W g c → a < fs.length →
    Calls Try.prog 35 #[.slice (some ⟨g, 0, none⟩) fs.length c, .agg #[.int .i64 (at3 fs a).1, .int .i64 (at3 fs a).2.1, .int .i64 (at3 fs a).2.2, .int .i64 a]] W (RetV (Ψ a) W)
set_option maxHeartbeats 1000000 in
theorem oneDes_any (fs : List Kn) (Ψ : Nat → World → Value → Prop) (g c a b q : Nat) (w0 w : World) (hb0 : Below w0.heap.size w0 w) (hK : Kdr fs w g c) (ha : a < fs.length) (hq : w.cell? ⟨q, 0, none⟩ = some ((.func (.func 35) #[] #[]))) (hQ : Asks1Des fs Ψ w0) :
    Calls Try.prog 74 #[.slice (some ⟨g, 0, none⟩) fs.length c, .agg #[.int .i64 (at3 fs a).1, .int .i64 (at3 fs a).2.1, .int .i64 (at3 fs a).2.2, .int .i64 a], .agg #[.int .i64 (at3 fs b).1, .int .i64 (at3 fs b).2.1, .int .i64 (at3 fs b).2.2, .int .i64 b], .pointer (some ⟨q, 0, none⟩)] w (RetV (Ψ a) w) := by
  have HW := Lib.hid (((Below.refl w.heap.size w).alloc (Nat.le_refl _) (.cells #[.int .i64 (at3 fs a).1, .int .i64 (at3 fs a).2.1, .int .i64 (at3 fs a).2.2, .int .i64 a] 70)).alloc (by simp) (.cells #[.int .i64 (at3 fs b).1, .int .i64 (at3 fs b).2.1, .int .i64 (at3 fs b).2.2, .int .i64 b] 70))
  have HC := Lib.hid (hQ ((w.alloc (.cells #[.int .i64 (at3 fs a).1, .int .i64 (at3 fs a).2.1, .int .i64 (at3 fs a).2.2, .int .i64 a] 70)).alloc (.cells #[.int .i64 (at3 fs b).1, .int .i64 (at3 fs b).2.1, .int .i64 (at3 fs b).2.2, .int .i64 b] 70)) (hb0.trans (HW.out.mono hb0.size)) g c a ((hK.above _).above _) ha)
  have hq2 := cell_above (cell_above hq (.cells #[.int .i64 (at3 fs a).1, .int .i64 (at3 fs a).2.1, .int .i64 (at3 fs a).2.2, .int .i64 a] 70)) (.cells #[.int .i64 (at3 fs b).1, .int .i64 (at3 fs b).2.1, .int .i64 (at3 fs b).2.2, .int .i64 b] 70)
  clear hK hQ hq
  generalize hΨ : Ψ a = ψ at HC ⊢
  clear hΨ
  generalize (at3 fs a).1 = y1 at *
  generalize (at3 fs a).2.1 = d1 at *
  generalize (at3 fs a).2.2 = o1 at *
  generalize (at3 fs b).1 = y2 at *
  generalize (at3 fs b).2.1 = d2 at *
  generalize (at3 fs b).2.2 = o2 at *
  go_enter Try.func74, Try.ntmps74
  go_wp2_with (go_at_call 35; refine HC.out.mono ?_; rintro e w2 ⟨v, rfl, hv, hb2⟩)
  go_ret
  exact ⟨v, rfl, hv, HW.out.trans (hb2.mono HW.out.size)⟩
theorem tellOneDes_no (fs : List Kn) (b0 c : Nat) (x : Int) (w : World) (hc : fs.length ≤ c) (hbl : b0 < w.heap.size) (hI : Kns w b0 0 fs) (hno : twoB fs x x = false) :
    Calls Try.prog 53 #[.slice (some ⟨b0, 0, none⟩) fs.length c, .int .i64 x, (.func (.func 35) #[] #[])] w (Ret (.tuple #[.slice none 0 0, .bool false]) w) := by
  have HW := Lib.hid ((Below.refl w.heap.size w).alloc (Nat.le_refl _) (.cells #[(.func (.func 35) #[] #[])] 49))
  have HT := Lib.hid (tellKin1_no fs w.heap.size b0 c x x (w.alloc (.cells #[(.func (.func 35) #[] #[])] 49)) hc (Nat.lt_of_lt_of_le hbl HW.out.size) (hI.kept HW.out hbl) hno)
  clear hI hno
  go_enter Try.func53, Try.ntmps53
  go_wp2_with (go_at_call 38; refine HT.out.mono ?_; rintro e w2 ⟨rfl, hb2⟩)
  go_ret2
  exact ⟨rfl, HW.out.trans (hb2.mono HW.out.size)⟩
theorem tellOneDes_yes (fs : List Kn) (Ψ : Nat → World → Value → Prop) (b0 c a : Nat) (w : World) (hc : fs.length ≤ c) (hbl : b0 < w.heap.size) (hI : Kns w b0 0 fs) (hf : famB fs = true) (ha : a < fs.length) (hQ : Asks1Des fs Ψ w) :
    Calls Try.prog 53 #[.slice (some ⟨b0, 0, none⟩) fs.length c, .int .i64 a, (.func (.func 35) #[] #[])] w (RetVB (Ψ a) w) := by
  have HW := Lib.hid ((Below.refl w.heap.size w).alloc (Nat.le_refl _) (.cells #[(.func (.func 35) #[] #[])] 49))
  have hq0 : (w.alloc (.cells #[(.func (.func 35) #[] #[])] 49)).cell? ⟨w.heap.size, 0, none⟩ = some ((.func (.func 35) #[] #[])) := by simp [go_sem]
  have HT := Lib.hid (tellKin1_yes fs w.heap.size (fun a _ => Ψ a) b0 c a a (w.alloc (.cells #[(.func (.func 35) #[] #[])] 49)) hc (Nat.lt_of_lt_of_le hbl HW.out.size) (hI.kept HW.out hbl) hf ha ha (fun W hW g cc a b hK ha _ => oneDes_any fs Ψ g cc a b w.heap.size w W (HW.out.trans (hW.mono HW.out.size)) hK ha (below_cell2 hW hq0) hQ))
  clear hI hf hQ hq0
  generalize hΨ : Ψ a = ψ at HT ⊢
  clear hΨ
  go_enter Try.func53, Try.ntmps53
  go_wp2_with (go_at_call 38; refine HT.out.mono ?_; rintro e w2 ⟨v, rfl, hv, hb2⟩)
  go_ret2
  exact ⟨v, rfl, hv, HW.out.trans (hb2.mono HW.out.size)⟩
end Go.Proofs.Ytmlcelleohhmcaa
