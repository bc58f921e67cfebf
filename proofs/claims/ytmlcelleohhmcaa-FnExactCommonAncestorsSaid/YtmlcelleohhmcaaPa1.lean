/- Parents, children, siblings: the program's text. -/
import Derived.Test.YtmlcelleohhmcaaWhPar
import Derived.Test.YtmlcelleohhmcaaWhChi
import Derived.Test.YtmlcelleohhmcaaWhPic
set_option linter.unusedVariables false
set_option linter.unusedSimpArgs false
namespace Go.Proofs.Ytmlcelleohhmcaa
open Go.RowKit

theorem RetR.lift {fs : List Kn} {ns : List Nat} {w w1 w' : World} {e : Ending} (h : RetR fs ns w1 e w') (hb : Below w.heap.size w w1) : RetR fs ns w e w' := by
  obtain ⟨v, rfl, ho, hb2⟩ := h
  exact ⟨v, rfl, ho.mono hb.size, hb.trans (hb2.mono hb.size)⟩
theorem OwnR.form {fs : List Kn} {B : Nat} {w : World} {v : Value} {ns : List Nat} (h : OwnR fs B w v ns) : ∃ a c, v = .slice a ns.length c := by
  rcases h.cases with ⟨rfl, rfl⟩ | ⟨g, c, rfl, _⟩
  · exact ⟨none, 0, rfl⟩
  · exact ⟨_, c, rfl⟩
/-- All relatives of a family lie in block g. -/
def Kdr (fs : List Kn) (w : World) (g c : Nat) : Prop := OwnR fs 0 w (.slice (some ⟨g, 0, none⟩) fs.length c) (allN fs) ∧ fs.length ≤ 14
theorem Kdr.kept {fs : List Kn} {w w' : World} {g c : Nat} (h : Kdr fs w g c) (hb : Below w.heap.size w w') : Kdr fs w' g c := ⟨h.1.kept hb, h.2⟩
theorem Kdr.above {fs : List Kn} {w : World} {g c : Nat} (h : Kdr fs w g c) (A : Obj) : Kdr fs (w.alloc A) g c := ⟨World.ownsRow.alloc h.1 A, h.2⟩
def parN (fs : List Kn) (c : Nat) : List Nat := (allN fs).filter fun x => isPar fs x c
def chiN (fs : List Kn) (a : Nat) : List Nat := (allN fs).filter fun x => isPar fs a x
def picN (fs : List Kn) (a b : Nat) : List Nat := (parN fs a).filter fun x => isPar fs x b
def sibB (fs : List Kn) (a b : Nat) : Bool := !((a : Int) == (b : Int)) && decide (0 < (picN fs a b).length)
def halfB (fs : List Kn) (a b : Nat) : Bool := !((a : Int) == (b : Int)) && ((picN fs a b).length : Int) == 1
set_option maxHeartbeats 1000000 in
theorem parents_any (fs : List Kn) (g cc c : Nat) (w : World) (hK : Kdr fs w g cc) :
    Calls Try.prog 81 #[.slice (some ⟨g, 0, none⟩) fs.length cc, .agg #[.int .i64 (at3 fs c).1, .int .i64 (at3 fs c).2.1, .int .i64 (at3 fs c).2.2, .int .i64 c]] w (RetR fs (parN fs c) w) := by
  have HC := Lib.hid (whenPar_any fs w.heap.size (fun x => isPar fs x c) 0 _ (allN fs) (w.alloc (.cells #[.int .i64 (at3 fs c).1, .int .i64 (at3 fs c).2.1, .int .i64 (at3 fs c).2.2, .int .i64 c] 70)) (hK.above _).1 (nsB_all hK.2) (fun W hb n hn => parQ_any fs n c w.heap.size W ((relAt_new fs w c _ rfl).kept hb)))
  have HL := Lib.hid ((Below.refl w.heap.size w).alloc (Nat.le_refl _) (.cells #[.int .i64 (at3 fs c).1, .int .i64 (at3 fs c).2.1, .int .i64 (at3 fs c).2.2, .int .i64 c] 70))
  clear hK
  change Hid (Calls _ _ _ _ (RetR fs (parN fs c) _)) at HC
  generalize parN fs c = zs at HC ⊢
  generalize (at3 fs c).1 = y at HC HL ⊢
  generalize (at3 fs c).2.1 = d at HC HL ⊢
  generalize (at3 fs c).2.2 = o at HC HL ⊢
  go_enter Try.func81, Try.ntmps81
  go_wp2_with (go_at_call 58; refine HC.out.mono ?_; rintro e w2 h2; obtain ⟨v2, rfl, ho2, hb2⟩ := h2.lift HL.out)
  go_ret
  exact ⟨_, rfl, ho2, hb2⟩
set_option maxHeartbeats 1000000 in
theorem pic_any (fs : List Kn) (g cc a b : Nat) (w : World) (hK : Kdr fs w g cc) :
    Calls Try.prog 79 #[.slice (some ⟨g, 0, none⟩) fs.length cc, .agg #[.int .i64 (at3 fs a).1, .int .i64 (at3 fs a).2.1, .int .i64 (at3 fs a).2.2, .int .i64 a], .agg #[.int .i64 (at3 fs b).1, .int .i64 (at3 fs b).2.1, .int .i64 (at3 fs b).2.2, .int .i64 b]] w (RetR fs (picN fs a b) w) := by
  have HP := Lib.hid (parents_any fs g cc a ((w.alloc (.cells #[.int .i64 (at3 fs a).1, .int .i64 (at3 fs a).2.1, .int .i64 (at3 fs a).2.2, .int .i64 a] 70)).alloc (.cells #[.int .i64 (at3 fs b).1, .int .i64 (at3 fs b).2.1, .int .i64 (at3 fs b).2.2, .int .i64 b] 70)) ((hK.above _).above _))
  have hn := nsB_filter (nsB_all hK.2) (fun x => isPar fs x a)
  have HC := Lib.hid (fun (w2 : World) (v : Value) (ho : OwnR fs 0 w2 v (parN fs a)) (hb0 : Below ((w.alloc (.cells #[.int .i64 (at3 fs a).1, .int .i64 (at3 fs a).2.1, .int .i64 (at3 fs a).2.2, .int .i64 a] 70)).alloc (.cells #[.int .i64 (at3 fs b).1, .int .i64 (at3 fs b).2.1, .int .i64 (at3 fs b).2.2, .int .i64 b] 70)).heap.size ((w.alloc (.cells #[.int .i64 (at3 fs a).1, .int .i64 (at3 fs a).2.1, .int .i64 (at3 fs a).2.2, .int .i64 a] 70)).alloc (.cells #[.int .i64 (at3 fs b).1, .int .i64 (at3 fs b).2.1, .int .i64 (at3 fs b).2.2, .int .i64 b] 70)) w2) => whenPic_any fs (w.heap.size + 1) (fun x => isPar fs x b) 0 v (parN fs a) w2 ho hn (fun W hb n _ => picQ_any fs n b (w.heap.size + 1) W (((relAt_new fs (w.alloc (.cells #[.int .i64 (at3 fs a).1, .int .i64 (at3 fs a).2.1, .int .i64 (at3 fs a).2.2, .int .i64 a] 70)) b _ (by simp)).kept hb0).kept hb)))
  have HL := Lib.hid (((Below.refl w.heap.size w).alloc (Nat.le_refl _) (.cells #[.int .i64 (at3 fs a).1, .int .i64 (at3 fs a).2.1, .int .i64 (at3 fs a).2.2, .int .i64 a] 70)).alloc (by simp) (.cells #[.int .i64 (at3 fs b).1, .int .i64 (at3 fs b).2.1, .int .i64 (at3 fs b).2.2, .int .i64 b] 70))
  clear hK hn
  change Hid (∀ w2 v _ _, Calls _ _ _ _ (RetR fs (picN fs a b) _)) at HC
  generalize picN fs a b = zs at HC ⊢
  generalize parN fs a = ps at HC HP
  generalize (at3 fs a).1 = y at HC HL HP ⊢
  generalize (at3 fs a).2.1 = d at HC HL HP ⊢
  generalize (at3 fs a).2.2 = o at HC HL HP ⊢
  generalize (at3 fs b).1 = y2 at HC HL HP ⊢
  generalize (at3 fs b).2.1 = d2 at HC HL HP ⊢
  generalize (at3 fs b).2.2 = o2 at HC HL HP ⊢
  go_enter Try.func79, Try.ntmps79
  go_wp2_with (first | (go_at_call 81; refine HP.out.mono ?_; rintro e w2 ⟨v2, rfl, ho2, hb2⟩; have hb2' := HL.out.trans (hb2.mono (by simp; omega))) | (go_at_call 58; refine (HC.out _ _ (ho2.mono (Nat.zero_le _)) hb2).mono ?_; rintro e w3 h3; obtain ⟨v3, rfl, ho3, hb3⟩ := h3.lift hb2'))
  go_ret
  exact ⟨_, rfl, ho3, hb3⟩
set_option maxHeartbeats 1000000 in
theorem sib_any (fs : List Kn) (g cc a b : Nat) (w : World) (hK : Kdr fs w g cc) :
    Calls Try.prog 65 #[.slice (some ⟨g, 0, none⟩) fs.length cc, .agg #[.int .i64 (at3 fs a).1, .int .i64 (at3 fs a).2.1, .int .i64 (at3 fs a).2.2, .int .i64 a], .agg #[.int .i64 (at3 fs b).1, .int .i64 (at3 fs b).2.1, .int .i64 (at3 fs b).2.2, .int .i64 b]] w (Ret (.bool (sibB fs a b)) w) := by
  have HL := Lib.hid (((Below.refl w.heap.size w).alloc (Nat.le_refl _) (.cells #[.int .i64 (at3 fs a).1, .int .i64 (at3 fs a).2.1, .int .i64 (at3 fs a).2.2, .int .i64 a] 70)).alloc (by simp) (.cells #[.int .i64 (at3 fs b).1, .int .i64 (at3 fs b).2.1, .int .i64 (at3 fs b).2.2, .int .i64 b] 70))
  by_cases hab : a = b
  · subst hab
    rw [show sibB fs a a = false by simp [sibB]]
    clear hK
    generalize (at3 fs a).1 = y at HL ⊢
    generalize (at3 fs a).2.1 = d at HL ⊢
    generalize (at3 fs a).2.2 = o at HL ⊢
    go_enter Try.func65, Try.ntmps65
    go_wp2_with fail
    go_ret
    exact ⟨rfl, HL.out⟩
  · have hne : ((a : Int) == (b : Int)) = false := beq_eq_false_iff_ne.2 (by omega)
    have HP := Lib.hid (pic_any fs g cc a b ((w.alloc (.cells #[.int .i64 (at3 fs a).1, .int .i64 (at3 fs a).2.1, .int .i64 (at3 fs a).2.2, .int .i64 a] 70)).alloc (.cells #[.int .i64 (at3 fs b).1, .int .i64 (at3 fs b).2.1, .int .i64 (at3 fs b).2.2, .int .i64 b] 70)) ((hK.above _).above _))
    have HE : Hid (sibB fs a b = decide (0 < (picN fs a b).length)) := Lib.hid (by unfold sibB; rw [hne]; rfl)
    clear hK
    generalize sibB fs a b = r at HE ⊢
    generalize picN fs a b = zs at HP HE
    generalize (at3 fs a).1 = y at HL HP ⊢
    generalize (at3 fs a).2.1 = d at HL HP ⊢
    generalize (at3 fs a).2.2 = o at HL HP ⊢
    generalize (at3 fs b).1 = y2 at HL HP ⊢
    generalize (at3 fs b).2.1 = d2 at HL HP ⊢
    generalize (at3 fs b).2.2 = o2 at HL HP ⊢
    go_enter Try.func65, Try.ntmps65
    go_wp2_with (first | (go_at_call 79; refine HP.out.mono ?_; rintro e w2 ⟨v2, rfl, ho2, hb2⟩; have hb2' := HL.out.trans (hb2.mono (by simp; omega)); obtain ⟨ad, ca, rfl⟩ := ho2.form))
    go_ret
    exact ⟨by rw [HE.out]; rfl, hb2'⟩
end Go.Proofs.Ytmlcelleohhmcaa
