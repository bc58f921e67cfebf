/- slices.ContainsFunc, with the question of (loop.example/g01369/impl.kindred).isAunt$1. -/
import Derived.Test.YtmlcelleohhmcaaPa1
set_option linter.unusedVariables false
set_option linter.unusedSimpArgs false
namespace Go.Proofs.Ytmlcelleohhmcaa
open Go.RowKit

def AsksCAunt (fs : List Kn) (q0 q1 : Nat) (q : Nat → Bool) (w : World) : Prop :=
  ∀ (W : World), Below w.heap.size w W → ∀ (n : Nat), n < fs.length →
    Calls Try.prog 82 #[.agg #[.int .i64 (at3 fs n).1, .int .i64 (at3 fs n).2.1, .int .i64 (at3 fs n).2.2, .int .i64 n], .pointer (some ⟨q0, 0, none⟩), .pointer (some ⟨q1, 0, none⟩)] W (Ret (.bool (q n)) W)
/-- A call returned a place, or something below 0. -/
def RetIxAunt (b : Bool) (w : World) (e : Ending) (w' : World) : Prop := ∃ i : Int, e = .returned (.int .i64 i) ∧ decide (0 ≤ i) = b ∧ Below w.heap.size w w'
set_option maxHeartbeats 4000000 in
set_option maxRecDepth 100000 in
theorem indexAunt_some (fs : List Kn) (q0 q1 : Nat) (q : Nat → Bool) (go n c : Nat) (ns : List Nat) (w : World) (hl : ns.length = n) (hI : Rls fs w go 0 ns) (hgo : go < w.heap.size) (hF : NsB fs ns) (hQ : AsksCAunt fs q0 q1 q w) :
    Calls Try.prog 88 #[.slice (some ⟨go, 0, none⟩) n c, (.func (.func 82) #[] #[.pointer (some ⟨q0, 0, none⟩), .pointer (some ⟨q1, 0, none⟩)])] w (RetIxAunt (ns.any q) w) := by
  have hn : n ≤ 14 := by have := hF.1; omega
  have HF := Lib.hid (fun k hk => nsB_at hF k hk)
  have HL := Lib.hid hl
  have HQ := Lib.hid hQ
  have HI := Lib.hid hI
  clear hF hl hQ hI
  go_enter Try.func88, Try.ntmps88
  go_wp2
  go_loopw [8] (fun v wr => ∃ k : Nat, k ≤ n ∧ v = .int .i64 k ∧ Hid (∀ j, j < k → q (ns.getD j 0) = false) ∧ Below w.heap.size w wr) (fun v _ => n - (intOf v).toNat)
  case atStart => exact ⟨0, Nat.zero_le _, rfl, Lib.hid (fun j hj => absurd hj (by omega)), Below.refl _ _⟩
  case round =>
    obtain ⟨k, hk, rfl, HA, hb⟩ := hrel
    have hsz := hb.size
    by_cases hlt : k < n
    · obtain ⟨p1, p2, p3, p4⟩ := (HI.out.kept hb hgo) k (by rw [HL.out]; exact hlt)
      rw [Nat.zero_add] at p1 p2 p3 p4
      have hbd := HF.out k (by rw [HL.out]; exact hlt)
      have hlc : (k : Int) < (n : Int) := by omega
      have hk0 : (0 : Int) ≤ (k : Int) := by omega
      have HY := Lib.hid (fun (h : q (ns.getD k 0) = true) => (show ns.any q = true from List.any_eq_true.2 ⟨ns.getD k 0, by
        have e : ns.getD k 0 = ns[k]'(by rw [HL.out]; exact hlt) := by simp [List.getElem?_eq_getElem (show k < ns.length by rw [HL.out]; exact hlt)]
        rw [e]; exact List.getElem_mem _, h⟩))
      have HN := Lib.hid (fun (h : q (ns.getD k 0) = false) => ((fun j (hj : j < k + 1) => by rcases Nat.lt_succ_iff_lt_or_eq.1 hj with h' | rfl; exact HA.out j h'; exact h) : ∀ j, j < k + 1 → q (ns.getD j 0) = false))
      generalize ns.getD k 0 = x at p1 p2 p3 p4 hbd HY HN
      have HC := Lib.hid (HQ.out wr hb x hbd)
      clear hbd
      generalize (at3 fs x).1 = y at p1 HC
      generalize (at3 fs x).2.1 = d at p2 HC
      generalize (at3 fs x).2.2 = o at p3 HC
      cases hq : q x with
      | true =>
        rw [hq] at HC
        have HE := Lib.hid (HY.out hq)
        clear hq
        go_wp2_with (first | (go_at_call 82; refine HC.out.mono ?_; rintro e w2 ⟨rfl, hb2⟩; have hbw := hb.trans (hb2.mono hsz)))
        go_ret
        exact ⟨_, rfl, by rw [HE.out]; exact decide_eq_true (by omega), hbw⟩
      | false =>
        rw [hq] at HC
        have HE := Lib.hid (HN.out hq)
        clear hq
        go_wp2_with (first | (go_at_call 82; refine HC.out.mono ?_; rintro e w2 ⟨rfl, hb2⟩; have hbw := hb.trans (hb2.mono hsz)))
        go_roundw
        case rel => exact ⟨k + 1, by omega, by go_num, HE, hbw⟩
        case measure => simp [intOf]; omega
    · have hlc : ¬ (k : Int) < (n : Int) := by omega
      have HE : Hid (ns.any q = false) := Lib.hid (by
        rw [List.any_eq_false]
        intro z hz
        obtain ⟨j, hj, rfl⟩ := List.getElem_of_mem hz
        have := HA.out j (by rw [HL.out] at hj; omega)
        simpa [List.getElem?_eq_getElem hj] using this)
      go_wp2
      go_ret
      exact ⟨_, rfl, by rw [HE.out]; rfl, hb⟩
theorem indexAunt_any (fs : List Kn) (q0 q1 : Nat) (q : Nat → Bool) (B : Nat) (v : Value) (ns : List Nat) (w : World) (hO : OwnR fs B w v ns) (hF : NsB fs ns) (hQ : AsksCAunt fs q0 q1 q w) :
    Calls Try.prog 88 #[v, (.func (.func 82) #[] #[.pointer (some ⟨q0, 0, none⟩), .pointer (some ⟨q1, 0, none⟩)])] w (RetIxAunt (ns.any q) w) := by
  rcases hO.cases with ⟨rfl, rfl⟩ | ⟨g, c, rfl, _, hg, _, _, hI, _⟩
  · clear hQ
    go_enter Try.func88, Try.ntmps88
    go_wp2
    go_rounds 1
    go_ret
    exact ⟨_, rfl, rfl, Below.refl _ _⟩
  · exact indexAunt_some fs q0 q1 q g ns.length c ns w rfl hI hg hF hQ
theorem containsAunt_any (fs : List Kn) (q0 q1 : Nat) (q : Nat → Bool) (B : Nat) (v : Value) (ns : List Nat) (w : World) (hO : OwnR fs B w v ns) (hF : NsB fs ns) (hQ : AsksCAunt fs q0 q1 q w) :
    Calls Try.prog 80 #[v, (.func (.func 82) #[] #[.pointer (some ⟨q0, 0, none⟩), .pointer (some ⟨q1, 0, none⟩)])] w (Ret (.bool (ns.any q)) w) := by
  have HC := Lib.hid (indexAunt_any fs q0 q1 q B v ns w hO hF hQ)
  clear hO hQ
  generalize ns.any q = r at HC ⊢
  go_enter Try.func80, Try.ntmps80
  go_wp2_with (first | (go_at_call 88; refine HC.out.mono ?_; rintro e w2 ⟨i, rfl, hi, hb2⟩; have HI := Lib.hid hi; clear hi))
  go_ret
  exact ⟨by rw [← HI.out]; rfl, hb2⟩
end Go.Proofs.Ytmlcelleohhmcaa
