/- tellOfTwo[loop.example/g01369/impl.kindred], told by (loop.example/g01369/impl.kindred).commonAncestors. -/
import Derived.Test.YtmlcelleohhmcaaTt0
set_option linter.unusedVariables false
set_option linter.unusedSimpArgs false
namespace Go.Proofs.Ytmlcelleohhmcaa
open Go.RowKit

def AsksTCom (fs : List Kn) (Ψ : Nat → Nat → World → Value → Prop) (w : World) : Prop :=
  ∀ (W : World), Below w.heap.size w W → ∀ (g c a b : Nat), Kdr fs W g c → a < fs.length → b < fs.length →
    Calls Try.prog 39 #[.slice (some ⟨g, 0, none⟩) fs.length c, .agg #[.int .i64 (at3 fs a).1, .int .i64 (at3 fs a).2.1, .int .i64 (at3 fs a).2.2, .int .i64 a], .agg #[.int .i64 (at3 fs b).1, .int .i64 (at3 fs b).2.1, .int .i64 (at3 fs b).2.2, .int .i64 b]] W (RetV (Ψ a b) W)
set_option maxHeartbeats 2000000 in
theorem tellCom_no (fs : List Kn) (b0 c : Nat) (x y : Int) (w : World) (hc : fs.length ≤ c) (hbl : b0 < w.heap.size) (hI : Kns w b0 0 fs) (hno : twoB fs x y = false) :
    Calls Try.prog 38 #[.slice (some ⟨b0, 0, none⟩) fs.length c, .int .i64 x, .int .i64 y, (.func (.func 39) #[] #[])] w (Ret (.tuple #[.slice none 0 0, .bool false]) w) := by
  cases hf : famB fs with
  | false =>
    have HK := Lib.hid (kindred_no b0 fs.length c fs w rfl hc hbl hI hf)
    clear hI hno
    go_enter Try.func38, Try.ntmps38
    go_wp2_with (first | (go_at_call 56; refine HK.out.mono ?_; rintro e w1 ⟨rfl, hb1⟩) | (go_at_call 57; refine (isWithin_any _ _ _ _).mono ?_; rintro e w' ⟨rfl, rfl⟩))
    go_ret2
    exact ⟨rfl, hb1⟩
  | true =>
    have HK := Lib.hid (kindred_yes b0 fs.length c fs w rfl hc hbl hI hf)
    have hn := famB_len hf
    have hwn : IntKind.i64.wrap ((fs.length : Int) - 1) = (fs.length : Int) - 1 := IntWalk.i64_in _ (by omega)
    cases hx : inB x 0 ((fs.length : Int) - 1) with
    | false =>
      clear hI hno
      go_enter Try.func38, Try.ntmps38
      go_wp2_with (first | (go_at_call 56; refine HK.out.mono ?_; rintro e w1 ⟨g, hg, rfl, ho1, hb1⟩) | (go_at_call 57; refine (isWithin_any _ _ _ _).mono ?_; rintro e w' ⟨rfl, rfl⟩))
      go_ret2
      exact ⟨rfl, hb1⟩
    | true =>
      have hy : inB y 0 ((fs.length : Int) - 1) = false := by
        unfold twoB at hno; rw [hf, hx] at hno; simpa using hno
      clear hI hno
      go_enter Try.func38, Try.ntmps38
      go_wp2_with (first | (go_at_call 56; refine HK.out.mono ?_; rintro e w1 ⟨g, hg, rfl, ho1, hb1⟩) | (go_at_call 57; refine (isWithin_any _ _ _ _).mono ?_; rintro e w' ⟨rfl, rfl⟩))
      go_ret2
      exact ⟨rfl, hb1⟩
set_option maxHeartbeats 4000000 in
theorem tellCom_yes (fs : List Kn) (Ψ : Nat → Nat → World → Value → Prop) (b0 c a b : Nat) (w : World) (hc : fs.length ≤ c) (hbl : b0 < w.heap.size) (hI : Kns w b0 0 fs) (hf : famB fs = true) (ha : a < fs.length) (hb : b < fs.length) (hQ : AsksTCom fs Ψ w) :
    Calls Try.prog 38 #[.slice (some ⟨b0, 0, none⟩) fs.length c, .int .i64 a, .int .i64 b, (.func (.func 39) #[] #[])] w (RetVB (Ψ a b) w) := by
  have HK := Lib.hid (kindred_yes b0 fs.length c fs w rfl hc hbl hI hf)
  have hn := famB_len hf
  have hwn : IntKind.i64.wrap ((fs.length : Int) - 1) = (fs.length : Int) - 1 := IntWalk.i64_in _ (by omega)
  have hx : inB (a : Int) 0 ((fs.length : Int) - 1) = true := inB_true (by omega) (by omega)
  have hy : inB (b : Int) 0 ((fs.length : Int) - 1) = true := inB_true (by omega) (by omega)
  have HQ := Lib.hid (fun W h1 g c h2 => hQ W h1 g c a b h2 ha hb)
  have ha0 : (0 : Int) ≤ (a : Int) := by omega
  have ha1 : (a : Int) < (fs.length : Int) := by omega
  have hb0 : (0 : Int) ≤ (b : Int) := by omega
  have hb1' : (b : Int) < (fs.length : Int) := by omega
  have HX := Lib.hid (fun (w1 : World) (g : Nat) (h1 : Below w.heap.size w w1) (ho : OwnR fs w.heap.size w1 (.slice (some ⟨g, 0, none⟩) fs.length fs.length) (allN fs)) =>
    (show Kdr fs w1 g fs.length ∧ (w1.cell? ⟨g, a * 4, none⟩ = some (.int .i64 (at3 fs a).1) ∧ w1.cell? ⟨g, a * 4 + 1, none⟩ = some (.int .i64 (at3 fs a).2.1) ∧ w1.cell? ⟨g, a * 4 + 2, none⟩ = some (.int .i64 (at3 fs a).2.2) ∧ w1.cell? ⟨g, a * 4 + 3, none⟩ = some (.int .i64 a)) ∧ (w1.cell? ⟨g, b * 4, none⟩ = some (.int .i64 (at3 fs b).1) ∧ w1.cell? ⟨g, b * 4 + 1, none⟩ = some (.int .i64 (at3 fs b).2.1) ∧ w1.cell? ⟨g, b * 4 + 2, none⟩ = some (.int .i64 (at3 fs b).2.2) ∧ w1.cell? ⟨g, b * 4 + 3, none⟩ = some (.int .i64 b)) from by
      have hR := ho.shape.2.2.2.2.1
      have r1 := hR a (by rw [allN_len]; exact ha)
      have r2 := hR b (by rw [allN_len]; exact hb)
      rw [allN_at fs a ha, Nat.zero_add] at r1
      rw [allN_at fs b hb, Nat.zero_add] at r2
      exact ⟨⟨ho.mono (Nat.zero_le _), hn.2⟩, r1, r2⟩))
  clear hI hQ hf ha hb
  generalize hΨ : Ψ a b = ψ at HQ ⊢
  clear hΨ
  generalize (at3 fs a).1 = y1 at HQ HX
  generalize (at3 fs a).2.1 = d1 at HQ HX
  generalize (at3 fs a).2.2 = o1 at HQ HX
  generalize (at3 fs b).1 = y2 at HQ HX
  generalize (at3 fs b).2.1 = d2 at HQ HX
  generalize (at3 fs b).2.2 = o2 at HQ HX
  go_enter Try.func38, Try.ntmps38
  go_wp2_with (first | (go_at_call 56; refine HK.out.mono ?_; rintro e w1 ⟨g, hg, rfl, ho1, hb1⟩; obtain ⟨hK, ⟨p1, p2, p3, p4⟩, ⟨r1, r2, r3, r4⟩⟩ := HX.out w1 g hb1 ho1; clear ho1) | (go_at_call 57; refine (isWithin_any _ _ _ _).mono ?_; rintro e w' ⟨rfl, rfl⟩))
  go_region_held3 (fun w' => Below w1.heap.size w1 w' ∧ w'.cell? ⟨g, a * 4, none⟩ = some (.int .i64 y1) ∧ w'.cell? ⟨g, a * 4 + 1, none⟩ = some (.int .i64 d1) ∧ w'.cell? ⟨g, a * 4 + 2, none⟩ = some (.int .i64 o1) ∧ w'.cell? ⟨g, a * 4 + 3, none⟩ = some (.int .i64 a) ∧ w'.cell? ⟨g, b * 4, none⟩ = some (.int .i64 y2) ∧ w'.cell? ⟨g, b * 4 + 1, none⟩ = some (.int .i64 d2) ∧ w'.cell? ⟨g, b * 4 + 2, none⟩ = some (.int .i64 o2) ∧ w'.cell? ⟨g, b * 4 + 3, none⟩ = some (.int .i64 b))
    (first
      | (exact ⟨(Below.refl _ _).drew, p1, p2, p3, p4, r1, r2, r3, r4⟩)
      | (obtain ⟨z0, z1, z2, z3, z4, z5, z6, z7, z8⟩ := ‹Below w1.heap.size w1 _ ∧ _›; exact ⟨z0.drew, z1, z2, z3, z4, z5, z6, z7, z8⟩)
      | (obtain ⟨z0, z1, z2, z3, z4, z5, z6, z7, z8⟩ := ‹Below w1.heap.size w1 _ ∧ _›
         exact ⟨z0.trans (hcall.mono z0.size), below_cell2 hcall z1, below_cell2 hcall z2, below_cell2 hcall z3, below_cell2 hcall z4, below_cell2 hcall z5, below_cell2 hcall z6, below_cell2 hcall z7, below_cell2 hcall z8⟩))
    (first | (go_at_call 39; refine (HQ.out _ (hb1.trans ((‹Below w1.heap.size w1 _ ∧ _›).1.mono hb1.size)) _ _ (hK.kept (‹Below w1.heap.size w1 _ ∧ _›).1)).mono ?_; rintro e w' ⟨v, rfl, hv, hcall⟩))
  have hbf := (‹Below w1.heap.size w1 _ ∧ _›).1
  go_wp2_with fail
  go_ret2
  exact ⟨v, rfl, hv, hb1.trans (hbf.mono hb1.size)⟩
end Go.Proofs.Ytmlcelleohhmcaa
