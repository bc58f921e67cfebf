/- Whether all of a household are of a kind: the program's method. -/
import Derived.Test.YtjabghojenhhiaaCount
import Derived.Deep.RegionHeld3
set_option linter.unusedVariables false
set_option linter.unusedSimpArgs false
namespace Go.Proofs.Ytjabghojenhhiaa
open Go.RowKit

theorem below_cellsK {w w' : World} {a : Addr} {v : Value} (hb : Below w.heap.size w w') (h : w.cell? a = some v) : w'.cell? a = some v := (hb.cell (World.block_lt_of_cell? w _ h)).trans h
theorem range_blk {w : World} {g : Nat} {t : TypeId} {cs : List Value} (h : Blk w g t cs.toArray) : w.rangeAt g 0 cs := by
  intro j v hj
  rw [Nat.zero_add, h.cell]
  simpa using hj
theorem range_kept {B : Nat} {w w' : World} {g : Nat} {cs : List Value} (h : w.rangeAt g 0 cs) (hb : Below B w w') (hg : g < B) : w'.rangeAt g 0 cs :=
  fun j v hj => (hb.cell (p := ⟨g, 0 + j, none⟩) hg).trans (h j v hj)
set_option maxHeartbeats 4000000 in
set_option maxRecDepth 100000 in
theorem areAllIn_any (p : Nat → Bool) (num age : Int) (g c n : Nat) (zs : List Int) (w : World) (hl : zs.length = n) (h8 : n ≤ 8) (hgs : g < w.heap.size) (hP : Ppl w g zs) (hz : ∀ j, j < zs.length → 0 ≤ zs.getD j 0 ∧ zs.getD j 0 ≤ 120) :
    Calls Try.prog 44 #[.agg (pc p), .agg #[.int .i64 num, .int .i64 age, .slice (some ⟨g, 0, none⟩) n c]] w (Ret (.bool (cnt p zs == (n : Int))) w) := by
  obtain ⟨cs, hcs⟩ : ∃ cs : List Value, cs.toArray = pc p := ⟨(pc p).toList, by simp⟩
  have hu := Try.underlying50
  have hlen : cs.length = 961 := by rw [← List.size_toArray, hcs, pc_size]
  have hi : (Try.prog.info? 50).map (·.size) = some cs.length := by rw [hlen]; exact sizeMarks
  have HC := Lib.hid (fun (W : World) (h1 : g < W.heap.size) (h2 : Ppl W g zs) => show Calls Try.prog 46 #[.agg cs.toArray, .agg #[.int .i64 num, .int .i64 age, .slice (some ⟨g, 0, none⟩) n c]] W (Ret (.int .i64 (cnt p zs)) W) from by rw [hcs]; exact countIn_any p num age g c n zs W hl h8 h1 h2 hz)
  have HP := Lib.hid hP
  rw [← hcs]
  have HB0 := Lib.hid (range_blk ((blk_new w 50 cs.toArray).alloc (.cells #[.int .i64 num, .int .i64 age, .slice (some ⟨g, 0, none⟩) n c] 42)))
  have HW0 := Lib.hid (((Below.refl w.heap.size w).alloc (Nat.le_refl _) (.cells cs.toArray 50)).alloc (by simp) (.cells #[.int .i64 num, .int .i64 age, .slice (some ⟨g, 0, none⟩) n c] 42))
  generalize cnt p zs = q at HC ⊢
  clear hcs hlen hP hz hl
  go_enter Try.func44, Try.ntmps44
  go_wp2_with fail
  go_region_held3 (fun w' => Below w.heap.size w w' ∧ w.heap.size + 1 < w'.heap.size ∧ w'.rangeAt w.heap.size 0 cs ∧ w'.cell? ⟨w.heap.size + 1, 0, none⟩ = some (.int .i64 num) ∧ w'.cell? ⟨w.heap.size + 1, 1, none⟩ = some (.int .i64 age) ∧ w'.cell? ⟨w.heap.size + 1, 2, none⟩ = some (.slice (some ⟨g, 0, none⟩) n c))
    (first
      | exact ⟨HW0.out.drew, by simp, HB0.out, by simp, by simp, by simp⟩
      | (go_split_ands
         refine ⟨?_, ?_, ?_, ?_, ?_, ?_⟩
         · exact Below.trans (by assumption) (Below.mono hcall (Below.size (by assumption)))
         · have := Below.size hcall; omega
         · exact range_kept (by assumption) hcall (by omega)
         · exact below_cellsK hcall (by assumption)
         · exact below_cellsK hcall (by assumption)
         · exact below_cellsK hcall (by assumption)))
    (first | (go_at_call 46; refine (HC.out _ ?_ ?_).mono ?_; (go_split_ands; omega); (go_split_ands; exact HP.out.kept (by assumption) hgs); rintro e w' ⟨rfl, hcall⟩))
  obtain ⟨hb, _⟩ := ‹Below w.heap.size w _ ∧ _›
  go_wp2
  go_ret
  exact ⟨rfl, hb⟩
end Go.Proofs.Ytjabghojenhhiaa
