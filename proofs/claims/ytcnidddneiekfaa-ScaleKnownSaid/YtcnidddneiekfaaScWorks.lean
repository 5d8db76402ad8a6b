/-
  The statements' example of layer 6.
-/
import Derived.Test.YtcnidddneiekfaaScRaw2
namespace Go.Proofs.Ytcnidddneiekfaa
open Go.RowKit
set_option linter.unusedVariables false

theorem Value_lit {wd sg sw : Bool} {mu di ad n v e0 : Int} (w : World) (h1 : valN (⟨wd, sg, sw, mu, di, ad⟩ : Sc) n = v) (h2 : valE (⟨wd, sg, sw, mu, di, ad⟩ : Sc) n = e0) : Calls Try.prog 22 #[.agg #[.bool wd, .bool sg, .bool sw, .int .i64 mu, .int .i64 di, .int .i64 ad], .int .i64 n] w fun e w' => e = .returned (.tuple #[.int .i64 v, .int .i64 e0]) ∧ Below w.heap.size w w' := by
  rw [← h1, ← h2]; exact Value_any wd sg sw mu di ad n w
/-- A row of words that a call has laid out as a new block. -/
theorem row_words (w : World) (t : TypeId) (xs : List Int) (h : ∀ x ∈ xs, (Lit.int .u16 x).wf = true) : Row .u16 (w.alloc (.cells (blk .u16 xs) t)) (w.alloc (.cells (blk .u16 xs) t)).heap.size (some ⟨w.heap.size, 0, none⟩) xs :=
  (Row.new .u16 w t xs xs h (List.prefix_refl _)).more (by simp)
theorem Raw_lit {wd sg sw : Bool} {mu di ad : Int} (xs : List Int) (m c : Nat) {v e0 : Int} (w : World) (hx : ∀ x ∈ xs, (Lit.int .u16 x).wf = true) (hl : xs.length = m) (hb : m ≤ 1000000) (h1 : rawN (⟨wd, sg, sw, mu, di, ad⟩ : Sc) xs = v) (h2 : rawE (⟨wd, sg, sw, mu, di, ad⟩ : Sc) xs = e0) : Calls Try.prog 13 #[.agg #[.bool wd, .bool sg, .bool sw, .int .i64 mu, .int .i64 di, .int .i64 ad], .slice (some ⟨w.heap.size, 0, none⟩) m c] (w.alloc (.cells (blk .u16 xs) 41)) fun e w' => e = .returned (.tuple #[.int .i64 v, .int .i64 e0]) ∧ Below w.heap.size w w' := by
  rw [← h1, ← h2]
  refine (Raw_any wd sg sw mu di ad _ m c xs _ (row_words w _ xs hx) hl hb).mono ?_
  rintro e w1 ⟨rfl, b1⟩
  exact ⟨rfl, (bel_alloc w _).trans (b1.mono (by simp))⟩
set_option maxHeartbeats 1000000 in
theorem works_yes (w : World) : Calls Try.prog 11 #[] w fun e w' => e = .returned (.bool true) ∧ Below w.heap.size w w' := by
  have bx0 := Bx.new w (.cells #[.bool false, .bool false, .bool false, .int .i64 1, .int .i64 2, .int .i64 10] 23)
  go_enter Try.func11, Try.ntmps11
  go_wp2_with fail
  refine (Value_lit (v := 12) (e0 := 0) _ (by decide +kernel) (by decide +kernel)).mono ?_
  rintro e w1 ⟨rfl, b1⟩
  have bx1 := bx0.below b1
  obtain ⟨d0, d1, d2, d3, d4, d5⟩ := bx1.six
  clear bx0 b1
  go_wp2_with fail
  refine (Value_lit (v := 8) (e0 := 0) _ (by decide +kernel) (by decide +kernel)).mono ?_
  rintro e w2 ⟨rfl, b2⟩
  have bel2 := (bx1.below b2).2
  clear bx1 b2 d0 d1 d2 d3 d4 d5
  go_wp2_with fail
  refine (Raw_lit [1, 2] 2 2 (v := 65538) (e0 := 0) w2 (by decide) rfl (by omega) (by decide +kernel) (by decide +kernel)).mono ?_
  rintro e w3 ⟨rfl, b3⟩
  have bel3 := bel2.trans (b3.mono bel2.size)
  go_wp2
  go_ret
  exact ⟨rfl, bel3⟩
end Go.Proofs.Ytcnidddneiekfaa
