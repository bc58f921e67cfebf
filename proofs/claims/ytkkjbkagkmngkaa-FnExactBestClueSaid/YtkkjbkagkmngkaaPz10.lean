/- The questions of the solutions: closures over clues. -/
import Derived.Test.YtkkjbkagkmngkaaPz7
import Derived.Test.YtkkjbkagkmngkaaPz6
set_option linter.unusedVariables false
set_option linter.unusedSimpArgs false
namespace Go.Proofs.Ytkkjbkagkmngkaa
open Go.RowKit

theorem fit1_any (qa g c : Nat) (p : Int) (k : Kn) (r : List Int) (w : World) (hp : p = (r.length : Int)) (hc : icB p k = true) (hd : Hdn r) (hgl : g < w.heap.size) (hI : Ints w g 0 r) (hq : w.cell? ⟨qa, 0, none⟩ = some (.slice (some ⟨g, 0, none⟩) r.length c)) :
    Calls Try.prog 84 #[.agg #[.int .i64 k.1, .int .i64 k.2.1, .int .i64 k.2.2], .pointer (some ⟨qa, 0, none⟩)] w (Ret (.bool (fitI k r)) w) := by
  have HW := Lib.hid ((Below.refl w.heap.size w).alloc (Nat.le_refl _) (.cells #[.int .i64 k.1, .int .i64 k.2.1, .int .i64 k.2.2] 54))
  have HC := Lib.hid (fits_any g c r.length p k r (w.alloc (.cells #[.int .i64 k.1, .int .i64 k.2.1, .int .i64 k.2.2] 54)) hp rfl hc hd (Nat.lt_of_lt_of_le hgl HW.out.size) (hI.kept HW.out hgl))
  have hq' : (w.alloc (.cells #[.int .i64 k.1, .int .i64 k.2.1, .int .i64 k.2.2] 54)).cell? ⟨qa, 0, none⟩ = some (.slice (some ⟨g, 0, none⟩) r.length c) := cell_above hq _
  clear hI hp hc
  generalize k.1 = y at HW HC hq' ⊢
  generalize k.2.1 = d at HW HC hq' ⊢
  generalize k.2.2 = o at HW HC hq' ⊢
  generalize fitI k r = q at HC ⊢
  generalize r.length = L at HC hq hq'
  go_enter Try.func84, Try.ntmps84
  go_wp2_with (go_at_call 85; refine HC.out.mono ?_; rintro e w' ⟨rfl, hcall⟩)
  go_ret
  exact ⟨rfl, HW.out.trans (hcall.mono HW.out.size)⟩

/-- 1 where ages fit, 0 else. -/
def bf (k : Kn) (r : List Int) : Int := if fitI k r = true then 1 else 0
theorem bf_yes {k : Kn} {r : List Int} (h : fitI k r = true) : bf k r = 1 := by unfold bf; rw [if_pos h]
theorem bf_no {k : Kn} {r : List Int} (h : fitI k r = false) : bf k r = 0 := by unfold bf; rw [if_neg (by rw [h]; simp)]
theorem bf_bd (k : Kn) (r : List Int) : 0 ≤ bf k r ∧ bf k r ≤ 1 := by unfold bf; split <;> omega
def cntF (cs : List Kn) (r : List Int) : Nat → Int
  | 0 => 0
  | k + 1 => cntF cs r k + bf (at3 cs k) r
theorem cntF_bd (cs : List Kn) (r : List Int) : ∀ k, 0 ≤ cntF cs r k ∧ cntF cs r k ≤ k
  | 0 => by simp [cntF]
  | k + 1 => by
    have := cntF_bd cs r k
    have := bf_bd (at3 cs k) r
    rw [cntF]; omega
theorem cntF_all (cs : List Kn) (r : List Int) : ∀ k : Nat, (cntF cs r k == (k : Int)) = fitTo cs k r
  | 0 => rfl
  | k + 1 => by
    have ih := cntF_all cs r k
    have hb := cntF_bd cs r k
    rw [fitTo_succ, ← ih, cntF]
    cases h : fitI (at3 cs k) r with
    | true =>
      rw [bf_yes h, Bool.and_true]
      rw [Bool.eq_iff_iff, beq_iff_eq, beq_iff_eq]
      omega
    | false =>
      rw [bf_no h, Bool.and_false, beq_eq_false_iff_ne]
      omega

theorem cnt1_any (qf qa g c : Nat) (p : Int) (k : Kn) (r : List Int) (w : World) (hp : p = (r.length : Int)) (hc : icB p k = true) (hd : Hdn r) (hgl : g < w.heap.size) (hI : Ints w g 0 r) (hq : w.cell? ⟨qa, 0, none⟩ = some (.slice (some ⟨g, 0, none⟩) r.length c))
    (hf : w.cell? ⟨qf, 0, none⟩ = some (.func (.func 84) #[] #[.pointer (some ⟨qa, 0, none⟩)])) :
    Calls Try.prog 89 #[.agg #[.int .i64 k.1, .int .i64 k.2.1, .int .i64 k.2.2], .pointer (some ⟨qf, 0, none⟩)] w (Ret (.int .i64 (bf k r)) w) := by
  have HW := Lib.hid ((Below.refl w.heap.size w).alloc (Nat.le_refl _) (.cells #[.int .i64 k.1, .int .i64 k.2.1, .int .i64 k.2.2] 54))
  have HC := Lib.hid (fit1_any qa g c p k r (w.alloc (.cells #[.int .i64 k.1, .int .i64 k.2.1, .int .i64 k.2.2] 54)) hp hc hd (Nat.lt_of_lt_of_le hgl HW.out.size) (hI.kept HW.out hgl) (cell_above hq _))
  have hf' : (w.alloc (.cells #[.int .i64 k.1, .int .i64 k.2.1, .int .i64 k.2.2] 54)).cell? ⟨qf, 0, none⟩ = some (.func (.func 84) #[] #[.pointer (some ⟨qa, 0, none⟩)]) := cell_above hf _
  cases h : fitI k r with
  | true =>
    rw [h] at HC
    rw [bf_yes h]
    clear h hI hp hc hq
    generalize k.1 = y at HW HC hf' ⊢
    generalize k.2.1 = d at HW HC hf' ⊢
    generalize k.2.2 = o at HW HC hf' ⊢
    go_enter Try.func89, Try.ntmps89
    go_wp2_with (go_at_call 84; refine HC.out.mono ?_; rintro e w' ⟨rfl, hcall⟩)
    go_ret
    exact ⟨rfl, HW.out.trans (hcall.mono HW.out.size)⟩
  | false =>
    rw [h] at HC
    rw [bf_no h]
    clear h hI hp hc hq
    generalize k.1 = y at HW HC hf' ⊢
    generalize k.2.1 = d at HW HC hf' ⊢
    generalize k.2.2 = o at HW HC hf' ⊢
    go_enter Try.func89, Try.ntmps89
    go_wp2_with (go_at_call 84; refine HC.out.mono ?_; rintro e w' ⟨rfl, hcall⟩)
    go_ret
    exact ⟨rfl, HW.out.trans (hcall.mono HW.out.size)⟩

set_option maxHeartbeats 1600000 in
theorem sumOverF_any (qf qa g c : Nat) (p : Int) (ac : Option Addr) (nc cc : Nat) (cs : List Kn) (r : List Int) (w : World) (hp : p = (r.length : Int)) (hK : ArgK w ac nc cs) (hn6 : nc ≤ 1048576) (hcs : ∀ j, j < nc → icB p (at3 cs j) = true) (hd : Hdn r) (hgl : g < w.heap.size) (hI : Ints w g 0 r) (hq : w.cell? ⟨qa, 0, none⟩ = some (.slice (some ⟨g, 0, none⟩) r.length c))
    (hf : w.cell? ⟨qf, 0, none⟩ = some (.func (.func 84) #[] #[.pointer (some ⟨qa, 0, none⟩)])) :
    Calls Try.prog 88 #[.slice ac nc cc, .func (.func 89) #[] #[.pointer (some ⟨qf, 0, none⟩)]] w (Ret (.int .i64 (cntF cs r nc)) w) := by
  have HK := Lib.hid hK
  have HOne := Lib.hid (fun (W : World) (hb : Below w.heap.size w W) (k : Kn) (hk : icB p k = true) => cnt1_any qf qa g c p k r W hp hk hd (Nat.lt_of_lt_of_le hgl hb.size) (hI.kept hb hgl) (below_cell2 hb hq) (below_cell2 hb hf))
  have HCs := Lib.hid hcs
  have HBd := Lib.hid (fun k => cntF_bd cs r k)
  have HS := Lib.hid (fun k => (show cntF cs r (k + 1) = cntF cs r k + bf (at3 cs k) r from rfl))
  clear hK hcs hI hq hf hp
  go_enter Try.func88, Try.ntmps88
  go_wp2_with fail
  go_loopw [5, 10] (fun s v wr => ∃ k : Nat, k ≤ nc ∧ v = .int .i64 k ∧ s = .int .i64 (cntF cs r k) ∧ Below w.heap.size w wr) (fun _ v _ => nc - (intOf v).toNat)
  case atStart => exact ⟨0, Nat.zero_le _, rfl, rfl, Below.refl _ _⟩
  case round =>
    obtain ⟨k, hkn, rfl, rfl, hb⟩ := hrel
    have hsz := hb.size
    have hs := HBd.out k
    by_cases hlt : k < nc
    · rcases (HK.out.kept hb).2 with h0 | ⟨b, off, hac, hbl, hk3⟩
      · omega
      subst hac
      obtain ⟨p1, p2, p3⟩ := hk3 k (by have := HK.out.1; omega)
      have HR := Lib.hid (fun (W : World) (hbW : Below w.heap.size w W) => HOne.out W hbW (at3 cs k) (HCs.out k hlt))
      have HBA := Lib.hid (hb.alloc hsz (.cells #[.int .i64 (at3 cs k).1, .int .i64 (at3 cs k).2.1, .int .i64 (at3 cs k).2.2] 54))
      have HSk := Lib.hid (HS.out k)
      have hbd := bf_bd (at3 cs k) r
      clear hk3
      generalize bf (at3 cs k) r = z at HR HSk hbd
      generalize (at3 cs k).1 = y at p1 HR HBA
      generalize (at3 cs k).2.1 = d at p2 HR HBA
      generalize (at3 cs k).2.2 = o at p3 HR HBA
      generalize cntF cs r k = s at hs HSk ⊢
      go_wp2_with (go_at_call 89; refine (HR.out _ HBA.out).mono ?_; rintro e w' ⟨rfl, hcall⟩)
      go_roundw
      case rel => exact ⟨k + 1, by omega, by go_num, by rw [HSk.out], HBA.out.trans (hcall.mono HBA.out.size)⟩
      case measure => simp [intOf]; omega
    · have hkn2 : k = nc := by omega
      subst hkn2
      go_wp2_with fail
      go_ret
      exact ⟨rfl, hb⟩
theorem countF_any (qa g c : Nat) (p : Int) (ac : Option Addr) (nc cc : Nat) (cs : List Kn) (r : List Int) (w : World) (hp : p = (r.length : Int)) (hK : ArgK w ac nc cs) (hn6 : nc ≤ 1048576) (hcs : ∀ j, j < nc → icB p (at3 cs j) = true) (hd : Hdn r) (hgl : g < w.heap.size) (hI : Ints w g 0 r) (hq : w.cell? ⟨qa, 0, none⟩ = some (.slice (some ⟨g, 0, none⟩) r.length c)) :
    Calls Try.prog 83 #[.slice ac nc cc, .func (.func 84) #[] #[.pointer (some ⟨qa, 0, none⟩)]] w (Ret (.int .i64 (cntF cs r nc)) w) := by
  have HW := Lib.hid ((Below.refl w.heap.size w).alloc (Nat.le_refl _) (.cells #[.func (.func 84) #[] #[.pointer (some ⟨qa, 0, none⟩)]] 81))
  have HC := Lib.hid (sumOverF_any w.heap.size qa g c p ac nc cc cs r (w.alloc (.cells #[.func (.func 84) #[] #[.pointer (some ⟨qa, 0, none⟩)]] 81)) hp (hK.kept HW.out) hn6 hcs hd (Nat.lt_of_lt_of_le hgl HW.out.size) (hI.kept HW.out hgl) (cell_above hq _) (by simp [go_sem]))
  clear hK hcs hI hq hp
  go_enter Try.func83, Try.ntmps83
  go_wp2_with (go_at_call 88; refine HC.out.mono ?_; rintro e w' ⟨rfl, hcall⟩)
  go_ret
  exact ⟨rfl, HW.out.trans (hcall.mono HW.out.size)⟩

set_option maxHeartbeats 4000000 in
theorem sol1_any (qc g c : Nat) (p : Int) (ac : Option Addr) (nc cc : Nat) (cs : List Kn) (r : List Int) (w : World) (hp : p = (r.length : Int)) (hK : ArgK w ac nc cs) (hn6 : nc ≤ 1048576) (hcs : ∀ j, j < nc → icB p (at3 cs j) = true) (hd : Hdn r) (hgl : g < w.heap.size) (hI : Ints w g 0 r) (hq : w.cell? ⟨qc, 0, none⟩ = some (.slice ac nc cc)) :
    Calls Try.prog 82 #[.slice (some ⟨g, 0, none⟩) r.length c, .pointer (some ⟨qc, 0, none⟩)] w (Ret (.bool (fitB cs r)) w) := by
  have HW := Lib.hid ((Below.refl w.heap.size w).alloc (Nat.le_refl _) (.cells #[.slice (some ⟨g, 0, none⟩) r.length c] 41))
  have HC := Lib.hid (fun (W : World) (hb : Below w.heap.size w W) (hqa : W.cell? ⟨w.heap.size, 0, none⟩ = some (.slice (some ⟨g, 0, none⟩) r.length c)) => countF_any w.heap.size g c p ac nc cc cs r W hp (hK.kept hb) hn6 hcs hd (Nat.lt_of_lt_of_le hgl hb.size) (hI.kept hb hgl) hqa)
  have hmf : ∀ (fn : Fn) (first cap : Array Value) (w : World), (Instr.makeFunc fn first cap).run Try.prog w = .ok (.func fn first cap) w := fun _ _ _ _ => rfl
  have HE := Lib.hid (show (cntF cs r nc == (nc : Int)) = fitB cs r by rw [cntF_all]; unfold fitB; rw [hK.1])
  have HQ := Lib.hid hq
  rw [← HE.out]
  clear hK hcs hI hp HE
  generalize cntF cs r nc = z at HC ⊢
  generalize r.length = L at HC HW ⊢
  go_enter Try.func82, Try.ntmps82
  go_wp2_with fail
  go_region_held3 (fun w' => Below w.heap.size w w' ∧ w'.cell? ⟨qc, 0, none⟩ = some (.slice ac nc cc) ∧ w'.cell? ⟨w.heap.size, 0, none⟩ = some (.slice (some ⟨g, 0, none⟩) L c))
    (first
      | (exact ⟨HW.out.drew, by simpa using cell_above HQ.out _, by simp [go_sem]⟩)
      | (exact ⟨Below.drew (by assumption), by simpa using (by assumption : World.cell? _ ⟨qc, 0, none⟩ = _), by simpa using (by assumption : World.cell? _ ⟨w.heap.size, 0, none⟩ = _)⟩)
      | (go_split_ands
         refine ⟨?_, ?_, ?_⟩
         · exact Below.trans (by assumption) (Below.mono hcall (Below.size (by assumption)))
         · exact below_cell2 hcall (by assumption)
         · exact below_cell2 hcall (by assumption)))
    (first | (go_at_call 83; refine (HC.out _ (by first | assumption | (go_split_ands; assumption)) (by first | assumption | (go_split_ands; assumption))).mono ?_; rintro e w' ⟨rfl, hcall⟩))
  obtain ⟨hbf, _⟩ := ‹Below w.heap.size w _ ∧ _›
  go_wp2_with fail
  go_ret
  exact ⟨rfl, hbf⟩
end Go.Proofs.Ytkkjbkagkmngkaa
