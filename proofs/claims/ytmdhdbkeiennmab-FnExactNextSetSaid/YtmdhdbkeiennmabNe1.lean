/- NextSet: both texts. -/
import Derived.Test.YtmdhdbkeiennmabSwN
import Derived.Test.YtmdhdbkeiennmabLa1
import Derived.Test.YtmdhdbkeiennmabOwnI
set_option linter.unusedVariables false
set_option linter.unusedSimpArgs false
namespace Go.Proofs.Ytmdhdbkeiennmab
open Go.RowKit

def yes : List Int → Bool := fun _ => true
/-- How many of the first j numbers are left when those of 20 are dropped from behind. -/
def lowT (zs : List Int) : Nat → Nat
  | 0 => 0
  | j + 1 => if zs.getD j 0 = 20 then lowT zs j else j + 1
theorem lowT_le (zs : List Int) : ∀ j, lowT zs j ≤ j
  | 0 => Nat.le_refl _
  | j + 1 => by
    unfold lowT
    split
    · have := lowT_le zs j; omega
    · exact Nat.le_refl _
def nextL (zs : List Int) (n : Nat) (k : Nat) : List Int := zs.take k ++ List.replicate (n - k) (zs.getD k 0 + 1)
theorem tree_head : ∀ (m k : Nat) (pre : List Int), ∃ R, tree yes (m + 1) (k + 1) pre = (pre ++ List.replicate (m + 1) (20 - (k : Int))) :: R
  | 0, k, pre => by
    rw [tree_succ, show yes (pre ++ [20 - (k : Int)]) = true from rfl, if_pos rfl, tree_zero]
    exact ⟨_, by simp; rfl⟩
  | m + 1, k, pre => by
    obtain ⟨R, hR⟩ := tree_head m k (pre ++ [20 - (k : Int)])
    rw [tree_succ, show yes (pre ++ [20 - (k : Int)]) = true from rfl, if_pos rfl, hR]
    refine ⟨R ++ tree yes (m + 1 + 1) k pre, ?_⟩
    rw [List.replicate_succ (n := m + 1)]
    simp
theorem rest_head {n : Nat} {zs : List Int} (hl : zs.length = n) (hz : ∀ j, j < zs.length → 1 ≤ zs.getD j 0 ∧ zs.getD j 0 ≤ 20) : ∀ c, c < n →
    (lowT zs (c + 1) = 0 ∧ rest yes n zs c = []) ∨ (∃ k R, lowT zs (c + 1) = k + 1 ∧ rest yes n zs c = nextL zs n k :: R)
  | c, hc => by
    have hO : OkS n zs c := ⟨hl, hc, fun i hi => hz i (by omega), by have := hz c (by omega); omega⟩
    by_cases h20 : zs.getD c 0 = 20
    · have e : lowT zs (c + 1) = lowT zs c := by
        have : lowT zs (c + 1) = if zs.getD c 0 = 20 then lowT zs c else c + 1 := rfl
        rw [this, if_pos h20]
      rw [rest_dry hO h20, e]
      cases c with
      | zero => exact .inl ⟨rfl, rfl⟩
      | succ c => exact rest_head hl hz c (by omega)
    · have e : lowT zs (c + 1) = c + 1 := by
        have : lowT zs (c + 1) = if zs.getD c 0 = 20 then lowT zs c else c + 1 := rfl
        rw [this, if_neg h20]
      have hb := hz c (by omega)
      refine .inr ?_
      obtain ⟨m, hm⟩ : ∃ m, n - c = m + 1 := ⟨n - c - 1, by omega⟩
      obtain ⟨k, hk⟩ : ∃ k, (20 - zs.getD c 0).toNat = k + 1 := ⟨(20 - zs.getD c 0).toNat - 1, by omega⟩
      obtain ⟨R, hR⟩ := tree_head m k (zs.take c)
      refine ⟨c, R ++ lowS yes n zs c, e, ?_⟩
      rw [rest_eq]
      unfold topS nextL
      rw [hm, hk, hR, show (20 : Int) - (k : Int) = zs.getD c 0 + 1 by omega]
      rfl
/-- What NextSet answers. -/
def nextR (zs : List Int) : List Int := match lowT zs zs.length with | 0 => [] | k + 1 => nextL zs zs.length k
def nextOk (zs : List Int) : Bool := match lowT zs zs.length with | 0 => false | _ + 1 => true

theorem nextTest_any (b m c : Nat) (w : World) : Calls Try.prog 65 #[.slice (some ⟨b, 0, none⟩) m c] w (Ret (.bool true) w) := by
  go_enter Try.func65, Try.ntmps65
  go_wp2
  go_ret
  exact ⟨rfl, Below.refl _ _⟩
set_option maxHeartbeats 4000000 in
theorem imNext_any (b c : Nat) (zs : List Int) (w : World) (hn : zs.length ≤ 1048576) (hbl : b < w.heap.size) (hI : Ints w b 0 zs) :
    Calls Try.prog 37 #[.slice (some ⟨b, 0, none⟩) zs.length c] w (RetOwnB (if setB zs then nextR zs else []) (setB zs && nextOk zs) w) := by
  have HG := Lib.hid (isSet_any b 0 zs.length c zs w rfl hn hI)
  cases h : setB zs with
  | false =>
    rw [h] at HG
    rw [if_neg (by simp), Bool.false_and]
    clear h hI
    go_enter Try.func37, Try.ntmps37
    go_wp2_with (first | (go_at_call 15; refine HG.out.mono ?_; rintro e w' ⟨rfl, hb⟩))
    go_ret2
    exact ⟨_, rfl, own_nil _ _, hb⟩
  | true =>
    rw [h] at HG
    rw [if_pos rfl, Bool.true_and]
    obtain ⟨h4, hag, _⟩ := setB_parts h
    have HC := Lib.hid (fun (W : World) (hb : Below w.heap.size w W) => clone_lit b zs.length c zs W rfl (by omega) (by omega) (hI.kept hb hbl))
    obtain ⟨n, hnl⟩ : ∃ n, zs.length = n + 1 := ⟨zs.length - 1, by omega⟩
    have HF := Lib.hid (fun (B g cp : Nat) (W : World) (ho : Own B W (.slice (some ⟨g, 0, none⟩) (n + 1) cp) zs) (hB : B ≤ W.heap.size) => searchFromN_any B g cp (n + 1) n zs W ho hB)
    have hOk : OkS (n + 1) zs n := ⟨hnl, by omega, fun i hi => hag i (by omega), by have := hag n (by omega); omega⟩
    have HRes := Lib.hid (fun (B U g cp gs gc gh : Nat) (W : World) (e : Ending) (W' : World) (hw : w.heap.size ≤ W.heap.size) (hr : RetS B U yes g cp gs gc gh (n + 1) zs n (.func (.func 65) #[] #[]) W e W') => (show ∃ v r, e = .returned (.tuple #[v, .bool r]) ∧ nextOk zs = r ∧ Own w.heap.size W' v (nextR zs) ∧ Below B W W' from by
      rcases hr with ⟨h0, rfl, hw2⟩ | ⟨s, R, v, set', h0, rfl, ho, _, _, _, _, hw2⟩
      · rcases rest_head hnl hag n (by omega) with ⟨h1, _⟩ | ⟨k, R, _, h2⟩
        · refine ⟨_, _, rfl, ?_, ?_, hw2.low⟩
          · unfold nextOk; rw [hnl, h1]
          · unfold nextR; rw [hnl, h1]; exact own_nil _ _
        · rw [h2] at h0; simp at h0
      · rcases rest_head hnl hag n (by omega) with ⟨_, h2⟩ | ⟨k, R2, h1, h2⟩
        · rw [h2] at h0; simp at h0
        · rw [h2] at h0
          simp only [List.cons.injEq] at h0
          obtain ⟨rfl, _⟩ := h0
          refine ⟨_, _, rfl, ?_, ?_, hw2.low⟩
          · unfold nextOk; rw [hnl, h1]
          · unfold nextR; rw [hnl, h1]; exact ho.mono hw))
    have HSr := Lib.hid (fun (B U g cp gs gc gh : Nat) (W : World) (hS : StS B W g cp gs gc gh (n + 1) zs n (.func (.func 65) #[] #[])) (hgU : g < U) (hcU : gc < U) (hU : U ≤ W.heap.size) (hBg : B ≤ g) => searchN_any B U g cp gs gc gh (n + 1) n yes zs W (by omega) hS hOk hgU hcU hU hBg (fun W2 _ m l _ _ _ _ _ => nextTest_any g m cp W2))
    rw [hnl] at HC HG ⊢
    have hn4 : n ≤ 3 := by omega
    have ew : IntKind.i64.wrap (n : Int) = (n : Int) := IntWalk.i64_in _ (by omega)
    have HN := Lib.hid hnl
    clear h hI hag hOk hnl h4 hn
    go_enter Try.func37, Try.ntmps37
    go_wp2_with (first | (go_at_call 15; refine HG.out.mono ?_; rintro e w1 ⟨rfl, hb⟩) | (go_at_call 64; refine (HC.out _ hb).mono ?_; rintro e w2 ⟨g, cg, rfl, ho, hgB, hb2⟩) | (go_at_call 63; refine (HF.out _ _ _ _ ho hb2.size).mono ?_; rintro e w3 ⟨gs, gc, gh, rfl, hst, hb3, l1, l2, l3⟩) | (go_at_call 75; refine ((HSr.out w1.heap.size w3.heap.size g cg gs gc gh w3 hst (Nat.lt_of_lt_of_le ho.shape.2.2.1 hb3.size) l2 (Nat.le_refl _) hgB).mono (fun e W' hr => HRes.out _ _ _ _ _ _ _ w3 e W' (Nat.le_trans hb.size (Nat.le_trans hb2.size hb3.size)) hr)).mono ?_; rintro e w4 ⟨v, r, rfl, hr, hov, hb4⟩; have HrH := Lib.hid hr; clear hr))
    go_ret2
    refine ⟨v, by rw [HrH.out]; rfl, hov, ?_⟩
    refine (hb.trans (hb2.mono hb.size)).trans ((hb3.mono (Nat.le_trans hb.size hb2.size)).trans (hb4.mono hb.size))
end Go.Proofs.Ytmdhdbkeiennmab
