/- Aunts and cousins: the program's text. -/
import Derived.Test.YtmlcelleohhmcaaCfAunt
import Derived.Test.YtmlcelleohhmcaaCfCous
set_option linter.unusedVariables false
set_option linter.unusedSimpArgs false
namespace Go.Proofs.Ytmlcelleohhmcaa
open Go.RowKit

def auntB (fs : List Kn) (a b : Nat) : Bool := (parN fs b).any fun n => sibB fs a n
def cousB (fs : List Kn) (a b : Nat) : Bool := !(((a : Int) == (b : Int)) || sibB fs a b) && (parN fs a).any fun n => auntB fs n b
set_option maxHeartbeats 1000000 in
theorem auntQ_any (fs : List Kn) (g cc x n q0 q1 : Nat) (w : World) (hK : Kdr fs w g cc) (hk : w.cell? ⟨q0, 0, none⟩ = some (.slice (some ⟨g, 0, none⟩) fs.length cc)) (hx : RelAt fs w q1 x) :
    Calls Try.prog 82 #[.agg #[.int .i64 (at3 fs n).1, .int .i64 (at3 fs n).2.1, .int .i64 (at3 fs n).2.2, .int .i64 n], .pointer (some ⟨q0, 0, none⟩), .pointer (some ⟨q1, 0, none⟩)] w (Ret (.bool (sibB fs x n)) w) := by
  have HC := Lib.hid (sib_any fs g cc x n (w.alloc (.cells #[.int .i64 (at3 fs n).1, .int .i64 (at3 fs n).2.1, .int .i64 (at3 fs n).2.2, .int .i64 n] 70)) (hK.above _))
  obtain ⟨h1, h2, h3, h4⟩ := hx.above (.cells #[.int .i64 (at3 fs n).1, .int .i64 (at3 fs n).2.1, .int .i64 (at3 fs n).2.2, .int .i64 n] 70)
  have hk2 := cell_above hk (.cells #[.int .i64 (at3 fs n).1, .int .i64 (at3 fs n).2.1, .int .i64 (at3 fs n).2.2, .int .i64 n] 70)
  clear hk hx hK
  have hL := Lib.hid ((Below.refl w.heap.size w).alloc (Nat.le_refl _) (.cells #[.int .i64 (at3 fs n).1, .int .i64 (at3 fs n).2.1, .int .i64 (at3 fs n).2.2, .int .i64 n] 70))
  generalize sibB fs x n = r at HC ⊢
  generalize (at3 fs n).1 = y at h1 h2 h3 h4 hk2 HC hL ⊢
  generalize (at3 fs n).2.1 = d at h1 h2 h3 h4 hk2 HC hL ⊢
  generalize (at3 fs n).2.2 = o at h1 h2 h3 h4 hk2 HC hL ⊢
  generalize (at3 fs x).1 = y2 at h1 h2 h3 h4 hk2 HC hL ⊢
  generalize (at3 fs x).2.1 = d2 at h1 h2 h3 h4 hk2 HC hL ⊢
  generalize (at3 fs x).2.2 = o2 at h1 h2 h3 h4 hk2 HC hL ⊢
  go_enter Try.func82, Try.ntmps82
  go_wp2_with (go_at_call 65; refine HC.out.mono ?_; rintro e w2 ⟨rfl, hb2⟩)
  go_ret
  exact ⟨rfl, hL.out.trans (hb2.mono (by simp))⟩
set_option maxHeartbeats 2000000 in
theorem aunt_any (fs : List Kn) (g cc a b : Nat) (w : World) (hK : Kdr fs w g cc) :
    Calls Try.prog 67 #[.slice (some ⟨g, 0, none⟩) fs.length cc, .agg #[.int .i64 (at3 fs a).1, .int .i64 (at3 fs a).2.1, .int .i64 (at3 fs a).2.2, .int .i64 a], .agg #[.int .i64 (at3 fs b).1, .int .i64 (at3 fs b).2.1, .int .i64 (at3 fs b).2.2, .int .i64 b]] w (Ret (.bool (auntB fs a b)) w) := by
  have HW := Lib.hid ((((Below.refl w.heap.size w).alloc (Nat.le_refl _) (.cells #[.slice (some ⟨g, 0, none⟩) fs.length cc] 52)).alloc (by simp) (.cells #[.int .i64 (at3 fs a).1, .int .i64 (at3 fs a).2.1, .int .i64 (at3 fs a).2.2, .int .i64 a] 70)).alloc (by simp; omega) (.cells #[.int .i64 (at3 fs b).1, .int .i64 (at3 fs b).2.1, .int .i64 (at3 fs b).2.2, .int .i64 b] 70))
  have hK3 := ((hK.above (.cells #[.slice (some ⟨g, 0, none⟩) fs.length cc] 52)).above (.cells #[.int .i64 (at3 fs a).1, .int .i64 (at3 fs a).2.1, .int .i64 (at3 fs a).2.2, .int .i64 a] 70)).above (.cells #[.int .i64 (at3 fs b).1, .int .i64 (at3 fs b).2.1, .int .i64 (at3 fs b).2.2, .int .i64 b] 70)
  have HP := Lib.hid (parents_any fs g cc b _ hK3)
  have hk0 : (((w.alloc (.cells #[.slice (some ⟨g, 0, none⟩) fs.length cc] 52)).alloc (.cells #[.int .i64 (at3 fs a).1, .int .i64 (at3 fs a).2.1, .int .i64 (at3 fs a).2.2, .int .i64 a] 70)).alloc (.cells #[.int .i64 (at3 fs b).1, .int .i64 (at3 fs b).2.1, .int .i64 (at3 fs b).2.2, .int .i64 b] 70)).cell? ⟨w.heap.size, 0, none⟩ = some (.slice (some ⟨g, 0, none⟩) fs.length cc) := by simp [go_sem]
  have ha0 : RelAt fs (((w.alloc (.cells #[.slice (some ⟨g, 0, none⟩) fs.length cc] 52)).alloc (.cells #[.int .i64 (at3 fs a).1, .int .i64 (at3 fs a).2.1, .int .i64 (at3 fs a).2.2, .int .i64 a] 70)).alloc (.cells #[.int .i64 (at3 fs b).1, .int .i64 (at3 fs b).2.1, .int .i64 (at3 fs b).2.2, .int .i64 b] 70)) (w.heap.size + 1) a := (relAt_new fs (w.alloc (.cells #[.slice (some ⟨g, 0, none⟩) fs.length cc] 52)) a _ (by simp)).above _
  have hn := nsB_filter (nsB_all hK.2) (fun x => isPar fs x b)
  have HC := Lib.hid (fun (w2 : World) (v : Value) (ho : OwnR fs 0 w2 v (parN fs b)) (hb0 : Below (((w.alloc (.cells #[.slice (some ⟨g, 0, none⟩) fs.length cc] 52)).alloc (.cells #[.int .i64 (at3 fs a).1, .int .i64 (at3 fs a).2.1, .int .i64 (at3 fs a).2.2, .int .i64 a] 70)).alloc (.cells #[.int .i64 (at3 fs b).1, .int .i64 (at3 fs b).2.1, .int .i64 (at3 fs b).2.2, .int .i64 b] 70)).heap.size (((w.alloc (.cells #[.slice (some ⟨g, 0, none⟩) fs.length cc] 52)).alloc (.cells #[.int .i64 (at3 fs a).1, .int .i64 (at3 fs a).2.1, .int .i64 (at3 fs a).2.2, .int .i64 a] 70)).alloc (.cells #[.int .i64 (at3 fs b).1, .int .i64 (at3 fs b).2.1, .int .i64 (at3 fs b).2.2, .int .i64 b] 70)) w2) =>
    containsAunt_any fs w.heap.size (w.heap.size + 1) (fun n => sibB fs a n) 0 v (parN fs b) w2 ho hn (fun W hb n _ => auntQ_any fs g cc a n _ _ W ((hK3.kept hb0).kept hb) (below_cell2 hb (below_cell2 hb0 hk0)) ((ha0.kept hb0).kept hb)))
  clear hK hK3 hk0 ha0 hn
  change Hid (∀ w2 v _ _, Calls _ _ _ _ (Ret (.bool (auntB fs a b)) _)) at HC
  generalize auntB fs a b = r at HC ⊢
  generalize parN fs b = ps at HC HP
  generalize (at3 fs a).1 = y at HC HP HW ⊢
  generalize (at3 fs a).2.1 = d at HC HP HW ⊢
  generalize (at3 fs a).2.2 = o at HC HP HW ⊢
  generalize (at3 fs b).1 = y2 at HC HP HW ⊢
  generalize (at3 fs b).2.1 = d2 at HC HP HW ⊢
  generalize (at3 fs b).2.2 = o2 at HC HP HW ⊢
  go_enter Try.func67, Try.ntmps67
  go_wp2_with (first | (go_at_call 81; refine HP.out.mono ?_; rintro e w2 ⟨v2, rfl, ho2, hb2⟩; have hb2' := HW.out.trans (hb2.mono (by simp; omega))) | (go_at_call 80; refine (HC.out _ _ (ho2.mono (Nat.zero_le _)) hb2).mono ?_; rintro e w3 ⟨rfl, hb3⟩))
  go_ret
  exact ⟨rfl, hb2'.trans (hb3.mono hb2'.size)⟩
set_option maxHeartbeats 1000000 in
theorem cousQ_any (fs : List Kn) (g cc x n q0 q1 : Nat) (w : World) (hK : Kdr fs w g cc) (hk : w.cell? ⟨q0, 0, none⟩ = some (.slice (some ⟨g, 0, none⟩) fs.length cc)) (hx : RelAt fs w q1 x) :
    Calls Try.prog 83 #[.agg #[.int .i64 (at3 fs n).1, .int .i64 (at3 fs n).2.1, .int .i64 (at3 fs n).2.2, .int .i64 n], .pointer (some ⟨q0, 0, none⟩), .pointer (some ⟨q1, 0, none⟩)] w (Ret (.bool (auntB fs n x)) w) := by
  have HC := Lib.hid (aunt_any fs g cc n x (w.alloc (.cells #[.int .i64 (at3 fs n).1, .int .i64 (at3 fs n).2.1, .int .i64 (at3 fs n).2.2, .int .i64 n] 70)) (hK.above _))
  obtain ⟨h1, h2, h3, h4⟩ := hx.above (.cells #[.int .i64 (at3 fs n).1, .int .i64 (at3 fs n).2.1, .int .i64 (at3 fs n).2.2, .int .i64 n] 70)
  have hk2 := cell_above hk (.cells #[.int .i64 (at3 fs n).1, .int .i64 (at3 fs n).2.1, .int .i64 (at3 fs n).2.2, .int .i64 n] 70)
  clear hk hx hK
  have hL := Lib.hid ((Below.refl w.heap.size w).alloc (Nat.le_refl _) (.cells #[.int .i64 (at3 fs n).1, .int .i64 (at3 fs n).2.1, .int .i64 (at3 fs n).2.2, .int .i64 n] 70))
  generalize auntB fs n x = r at HC ⊢
  generalize (at3 fs n).1 = y at h1 h2 h3 h4 hk2 HC hL ⊢
  generalize (at3 fs n).2.1 = d at h1 h2 h3 h4 hk2 HC hL ⊢
  generalize (at3 fs n).2.2 = o at h1 h2 h3 h4 hk2 HC hL ⊢
  generalize (at3 fs x).1 = y2 at h1 h2 h3 h4 hk2 HC hL ⊢
  generalize (at3 fs x).2.1 = d2 at h1 h2 h3 h4 hk2 HC hL ⊢
  generalize (at3 fs x).2.2 = o2 at h1 h2 h3 h4 hk2 HC hL ⊢
  go_enter Try.func83, Try.ntmps83
  go_wp2_with (go_at_call 67; refine HC.out.mono ?_; rintro e w2 ⟨rfl, hb2⟩)
  go_ret
  exact ⟨rfl, hL.out.trans (hb2.mono (by simp))⟩
set_option maxHeartbeats 4000000 in
theorem cous_any (fs : List Kn) (g cc a b : Nat) (w : World) (hK : Kdr fs w g cc) :
    Calls Try.prog 68 #[.slice (some ⟨g, 0, none⟩) fs.length cc, .agg #[.int .i64 (at3 fs a).1, .int .i64 (at3 fs a).2.1, .int .i64 (at3 fs a).2.2, .int .i64 a], .agg #[.int .i64 (at3 fs b).1, .int .i64 (at3 fs b).2.1, .int .i64 (at3 fs b).2.2, .int .i64 b]] w (Ret (.bool (cousB fs a b)) w) := by
  have HW := Lib.hid ((((Below.refl w.heap.size w).alloc (Nat.le_refl _) (.cells #[.slice (some ⟨g, 0, none⟩) fs.length cc] 52)).alloc (by simp) (.cells #[.int .i64 (at3 fs a).1, .int .i64 (at3 fs a).2.1, .int .i64 (at3 fs a).2.2, .int .i64 a] 70)).alloc (by simp; omega) (.cells #[.int .i64 (at3 fs b).1, .int .i64 (at3 fs b).2.1, .int .i64 (at3 fs b).2.2, .int .i64 b] 70))
  by_cases hab : a = b
  · subst hab
    rw [show cousB fs a a = false by simp [cousB]]
    clear hK
    generalize (at3 fs a).1 = y at HW ⊢
    generalize (at3 fs a).2.1 = d at HW ⊢
    generalize (at3 fs a).2.2 = o at HW ⊢
    go_enter Try.func68, Try.ntmps68
    go_wp2_with fail
    go_ret
    exact ⟨rfl, HW.out⟩
  · have hne : ((a : Int) == (b : Int)) = false := beq_eq_false_iff_ne.2 (by omega)
    have hK3 := ((hK.above (.cells #[.slice (some ⟨g, 0, none⟩) fs.length cc] 52)).above (.cells #[.int .i64 (at3 fs a).1, .int .i64 (at3 fs a).2.1, .int .i64 (at3 fs a).2.2, .int .i64 a] 70)).above (.cells #[.int .i64 (at3 fs b).1, .int .i64 (at3 fs b).2.1, .int .i64 (at3 fs b).2.2, .int .i64 b] 70)
    have HS := Lib.hid (sib_any fs g cc a b _ hK3)
    have hk0 : (((w.alloc (.cells #[.slice (some ⟨g, 0, none⟩) fs.length cc] 52)).alloc (.cells #[.int .i64 (at3 fs a).1, .int .i64 (at3 fs a).2.1, .int .i64 (at3 fs a).2.2, .int .i64 a] 70)).alloc (.cells #[.int .i64 (at3 fs b).1, .int .i64 (at3 fs b).2.1, .int .i64 (at3 fs b).2.2, .int .i64 b] 70)).cell? ⟨w.heap.size, 0, none⟩ = some (.slice (some ⟨g, 0, none⟩) fs.length cc) := by simp [go_sem]
    have ha0 : RelAt fs (((w.alloc (.cells #[.slice (some ⟨g, 0, none⟩) fs.length cc] 52)).alloc (.cells #[.int .i64 (at3 fs a).1, .int .i64 (at3 fs a).2.1, .int .i64 (at3 fs a).2.2, .int .i64 a] 70)).alloc (.cells #[.int .i64 (at3 fs b).1, .int .i64 (at3 fs b).2.1, .int .i64 (at3 fs b).2.2, .int .i64 b] 70)) (w.heap.size + 1) a := (relAt_new fs (w.alloc (.cells #[.slice (some ⟨g, 0, none⟩) fs.length cc] 52)) a _ (by simp)).above _
    have hb0 : RelAt fs (((w.alloc (.cells #[.slice (some ⟨g, 0, none⟩) fs.length cc] 52)).alloc (.cells #[.int .i64 (at3 fs a).1, .int .i64 (at3 fs a).2.1, .int .i64 (at3 fs a).2.2, .int .i64 a] 70)).alloc (.cells #[.int .i64 (at3 fs b).1, .int .i64 (at3 fs b).2.1, .int .i64 (at3 fs b).2.2, .int .i64 b] 70)) (w.heap.size + 2) b := relAt_new fs ((w.alloc (.cells #[.slice (some ⟨g, 0, none⟩) fs.length cc] 52)).alloc (.cells #[.int .i64 (at3 fs a).1, .int .i64 (at3 fs a).2.1, .int .i64 (at3 fs a).2.2, .int .i64 a] 70)) b _ (by simp)
    have hn := nsB_filter (nsB_all hK.2) (fun x => isPar fs x a)
    have HP := Lib.hid (fun (w1 : World) (h1 : Below (((w.alloc (.cells #[.slice (some ⟨g, 0, none⟩) fs.length cc] 52)).alloc (.cells #[.int .i64 (at3 fs a).1, .int .i64 (at3 fs a).2.1, .int .i64 (at3 fs a).2.2, .int .i64 a] 70)).alloc (.cells #[.int .i64 (at3 fs b).1, .int .i64 (at3 fs b).2.1, .int .i64 (at3 fs b).2.2, .int .i64 b] 70)).heap.size (((w.alloc (.cells #[.slice (some ⟨g, 0, none⟩) fs.length cc] 52)).alloc (.cells #[.int .i64 (at3 fs a).1, .int .i64 (at3 fs a).2.1, .int .i64 (at3 fs a).2.2, .int .i64 a] 70)).alloc (.cells #[.int .i64 (at3 fs b).1, .int .i64 (at3 fs b).2.1, .int .i64 (at3 fs b).2.2, .int .i64 b] 70)) w1) => parents_any fs g cc a w1 (hK3.kept h1))
    have HC := Lib.hid (fun (w2 : World) (v : Value) (ho : OwnR fs 0 w2 v (parN fs a)) (h2 : Below (((w.alloc (.cells #[.slice (some ⟨g, 0, none⟩) fs.length cc] 52)).alloc (.cells #[.int .i64 (at3 fs a).1, .int .i64 (at3 fs a).2.1, .int .i64 (at3 fs a).2.2, .int .i64 a] 70)).alloc (.cells #[.int .i64 (at3 fs b).1, .int .i64 (at3 fs b).2.1, .int .i64 (at3 fs b).2.2, .int .i64 b] 70)).heap.size (((w.alloc (.cells #[.slice (some ⟨g, 0, none⟩) fs.length cc] 52)).alloc (.cells #[.int .i64 (at3 fs a).1, .int .i64 (at3 fs a).2.1, .int .i64 (at3 fs a).2.2, .int .i64 a] 70)).alloc (.cells #[.int .i64 (at3 fs b).1, .int .i64 (at3 fs b).2.1, .int .i64 (at3 fs b).2.2, .int .i64 b] 70)) w2) =>
      containsCous_any fs w.heap.size (w.heap.size + 2) (fun n => auntB fs n b) 0 v (parN fs a) w2 ho hn (fun W hb n _ => cousQ_any fs g cc b n _ _ W ((hK3.kept h2).kept hb) (below_cell2 hb (below_cell2 h2 hk0)) ((hb0.kept h2).kept hb)))
    have HX := Lib.hid (fun (w1 : World) (h1 : Below (((w.alloc (.cells #[.slice (some ⟨g, 0, none⟩) fs.length cc] 52)).alloc (.cells #[.int .i64 (at3 fs a).1, .int .i64 (at3 fs a).2.1, .int .i64 (at3 fs a).2.2, .int .i64 a] 70)).alloc (.cells #[.int .i64 (at3 fs b).1, .int .i64 (at3 fs b).2.1, .int .i64 (at3 fs b).2.2, .int .i64 b] 70)).heap.size (((w.alloc (.cells #[.slice (some ⟨g, 0, none⟩) fs.length cc] 52)).alloc (.cells #[.int .i64 (at3 fs a).1, .int .i64 (at3 fs a).2.1, .int .i64 (at3 fs a).2.2, .int .i64 a] 70)).alloc (.cells #[.int .i64 (at3 fs b).1, .int .i64 (at3 fs b).2.1, .int .i64 (at3 fs b).2.2, .int .i64 b] 70)) w1) => (show w1.cell? ⟨w.heap.size, 0, none⟩ = some (.slice (some ⟨g, 0, none⟩) fs.length cc) ∧ w1.cell? ⟨w.heap.size + 1, 0, none⟩ = some (.int .i64 (at3 fs a).1) ∧ w1.cell? ⟨w.heap.size + 1, 1, none⟩ = some (.int .i64 (at3 fs a).2.1) ∧ w1.cell? ⟨w.heap.size + 1, 2, none⟩ = some (.int .i64 (at3 fs a).2.2) ∧ w1.cell? ⟨w.heap.size + 1, 3, none⟩ = some (.int .i64 a) ∧ w1.cell? ⟨w.heap.size + 2, 0, none⟩ = some (.int .i64 (at3 fs b).1) ∧ w1.cell? ⟨w.heap.size + 2, 1, none⟩ = some (.int .i64 (at3 fs b).2.1) ∧ w1.cell? ⟨w.heap.size + 2, 2, none⟩ = some (.int .i64 (at3 fs b).2.2) ∧ w1.cell? ⟨w.heap.size + 2, 3, none⟩ = some (.int .i64 b) from
      ⟨below_cell2 h1 hk0, (ha0.kept h1).1, (ha0.kept h1).2.1, (ha0.kept h1).2.2.1, (ha0.kept h1).2.2.2, (hb0.kept h1).1, (hb0.kept h1).2.1, (hb0.kept h1).2.2.1, (hb0.kept h1).2.2.2⟩))
    clear hK hK3 hk0 ha0 hb0 hn
    change Hid (∀ w2 v _ _, Calls _ _ _ _ (Ret (.bool ((parN fs a).any fun n => auntB fs n b)) _)) at HC
    cases hs : sibB fs a b with
    | true =>
      rw [show cousB fs a b = false by unfold cousB; rw [hne, hs]; rfl]
      rw [hs] at HS
      clear hs HC HP
      generalize (at3 fs a).1 = y at HW HS HX ⊢
      generalize (at3 fs a).2.1 = d at HW HS HX ⊢
      generalize (at3 fs a).2.2 = o at HW HS HX ⊢
      generalize (at3 fs b).1 = y2 at HW HS HX ⊢
      generalize (at3 fs b).2.1 = d2 at HW HS HX ⊢
      generalize (at3 fs b).2.2 = o2 at HW HS HX ⊢
      go_enter Try.func68, Try.ntmps68
      go_wp2_with (first | (go_at_call 65; refine HS.out.mono ?_; rintro e w1 ⟨rfl, hb1⟩; obtain ⟨ck, ca1, ca2, ca3, ca4, cb1, cb2, cb3, cb4⟩ := HX.out w1 hb1; have hb1' := HW.out.trans (hb1.mono (by simp; omega))) | (go_at_call 81; refine (HP.out w1 hb1).mono ?_; rintro e w2 ⟨v2, rfl, ho2, hb2⟩; have hb2' := hb1'.trans (hb2.mono hb1'.size)) | (go_at_call 80; refine (HC.out _ _ (ho2.mono (Nat.zero_le _)) (hb1.trans (hb2.mono hb1.size))).mono ?_; rintro e w3 ⟨rfl, hb3⟩))
      go_ret
      exact ⟨rfl, hb1'⟩
    | false =>
      rw [show cousB fs a b = ((parN fs a).any fun n => auntB fs n b) by unfold cousB; rw [hne, hs]; rfl]
      rw [hs] at HS
      clear hs
      generalize ((parN fs a).any fun n => auntB fs n b) = r at HC ⊢
      generalize parN fs a = ps at HC HP
      generalize (at3 fs a).1 = y at HC HP HW HS HX ⊢
      generalize (at3 fs a).2.1 = d at HC HP HW HS HX ⊢
      generalize (at3 fs a).2.2 = o at HC HP HW HS HX ⊢
      generalize (at3 fs b).1 = y2 at HC HP HW HS HX ⊢
      generalize (at3 fs b).2.1 = d2 at HC HP HW HS HX ⊢
      generalize (at3 fs b).2.2 = o2 at HC HP HW HS HX ⊢
      go_enter Try.func68, Try.ntmps68
      go_wp2_with (first | (go_at_call 65; refine HS.out.mono ?_; rintro e w1 ⟨rfl, hb1⟩; obtain ⟨ck, ca1, ca2, ca3, ca4, cb1, cb2, cb3, cb4⟩ := HX.out w1 hb1; have hb1' := HW.out.trans (hb1.mono (by simp; omega))) | (go_at_call 81; refine (HP.out w1 hb1).mono ?_; rintro e w2 ⟨v2, rfl, ho2, hb2⟩; have hb2' := hb1'.trans (hb2.mono hb1'.size)) | (go_at_call 80; refine (HC.out _ _ (ho2.mono (Nat.zero_le _)) (hb1.trans (hb2.mono hb1.size))).mono ?_; rintro e w3 ⟨rfl, hb3⟩))
      go_ret
      exact ⟨rfl, hb2'.trans (hb3.mono hb2'.size)⟩
end Go.Proofs.Ytmlcelleohhmcaa
