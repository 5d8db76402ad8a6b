/-
  The walk of BandKnown.
-/
import Derived.Test.YtggijpfmcidpaaaBdKnown
namespace Go.Proofs.Ytggijpfmcidpaaa
open Go.RowKit
set_option linter.unusedVariables false

theorem Check_lit (d q r : Int) (w : World) (h : chkB d q = r) : Calls Try.prog 11 #[.agg #[.int .i64 d, .int .i64 q]] w fun e w' => e = .returned (.int .i64 r) ∧ Below w.heap.size w w' := by
  rw [← h]; exact Check_any d q w
def inB (a : Int) : Bool := decide (-9223372036854775808 ≤ a) && decide (a < 9223372036854775808)
theorem inB_in {a : Int} (h : inB a = true) : (-9223372036854775808 ≤ a ∧ a < 9223372036854775808) := by
  simp only [inB, Bool.and_eq_true, decide_eq_true_eq] at h; exact h
theorem Step_lit_t (d q hv ht x y : Int) (w : World) (h : [d, q, hv, ht, x, y].all inB = true) (hm : toldB d q ⟨true, hv, ht⟩ (x, y) = true) : Calls Try.prog 9 #[.agg #[.int .i64 d, .int .i64 q], .agg #[.bool true, .int .i64 hv, .int .i64 ht], .agg #[.int .i64 x, .int .i64 y]] w fun e w' => e = .returned (.tuple #[.agg #[.bool true, .int .i64 x, .int .i64 y], .bool true]) ∧ Below w.heap.size w w' := by
  have h' := List.all_eq_true.1 h
  have := Step_any d q hv ht x y true (inB_in (h' d (by simp))) (inB_in (h' q (by simp))) (inB_in (h' hv (by simp))) (inB_in (h' ht (by simp))) (inB_in (h' x (by simp))) (inB_in (h' y (by simp))) w
  unfold stepV at this
  rw [hm, stepH_t hm] at this
  exact this
theorem Step_lit_f (d q hv ht x y : Int) (w : World) (h : [d, q, hv, ht, x, y].all inB = true) (hm : toldB d q ⟨true, hv, ht⟩ (x, y) = false) : Calls Try.prog 9 #[.agg #[.int .i64 d, .int .i64 q], .agg #[.bool true, .int .i64 hv, .int .i64 ht], .agg #[.int .i64 x, .int .i64 y]] w fun e w' => e = .returned (.tuple #[.agg #[.bool true, .int .i64 hv, .int .i64 ht], .bool false]) ∧ Below w.heap.size w w' := by
  have h' := List.all_eq_true.1 h
  have := Step_any d q hv ht x y true (inB_in (h' d (by simp))) (inB_in (h' q (by simp))) (inB_in (h' hv (by simp))) (inB_in (h' ht (by simp))) (inB_in (h' x (by simp))) (inB_in (h' y (by simp))) w
  unfold stepV at this
  rw [hm, stepH_f hm] at this
  exact this

set_option maxHeartbeats 2000000 in
set_option maxRecDepth 100000 in
theorem walk_BandKnown (w : World) : Calls Try.prog 8 #[] w fun e w' => e = .returned (.bool true) ∧ Below w.heap.size w w' := by
  go_enter Try.func8, Try.ntmps8
  go_wp2_with fail
  refine (Check_lit 5 0 0 _ (by decide +kernel)).mono ?_
  rintro e w1 ⟨rfl, bel1⟩
  go_wp2_with fail
  refine (Check_lit (-1) 0 26 _ (by decide +kernel)).mono ?_
  rintro e w2 ⟨rfl, b2⟩
  have bel2 := bel1.trans (b2.mono bel1.size)
  clear b2 bel1
  go_wp2_with fail
  refine (Check_lit 0 (-1) 26 _ (by decide +kernel)).mono ?_
  rintro e w3 ⟨rfl, b2⟩
  have bel3 := bel2.trans (b2.mono bel2.size)
  clear b2 bel2
  go_wp2_with fail
  refine (Check_lit 1099511627777 0 26 _ (by decide +kernel)).mono ?_
  rintro e w4 ⟨rfl, b2⟩
  have bel4 := bel3.trans (b2.mono bel3.size)
  clear b2 bel3
  go_wp2_with fail
  refine (Check_lit 1099511627776 1099511627776 0 _ (by decide +kernel)).mono ?_
  rintro e w5 ⟨rfl, b2⟩
  have bel5 := bel4.trans (b2.mono bel4.size)
  clear b2 bel4
  go_wp2_with fail
  refine (Check_lit 0 1099511627777 26 _ (by decide +kernel)).mono ?_
  rintro e w6 ⟨rfl, b2⟩
  have bel6 := bel5.trans (b2.mono bel5.size)
  clear b2 bel5
  go_wp2_with fail
  refine (Run_lit 5 3 [(1, 0), (1, 2), (1, 3), (1, 5), (1, 6)] [(1, 0), (1, 3), (1, 6)] _ 5 5 (by omega) (by omega) _ _ rfl (row_lit w6 [(1, 0), (1, 2), (1, 3), (1, 5), (1, 6)] (pts_ok (by decide +kernel))) rfl (by omega) (by decide +kernel)).mono ?_
  rintro e w7 ⟨v7, rfl, own7, b7⟩
  have bel7 := bel6.trans (((bel_alloc w6 _).trans (b7.mono (by simp))).mono bel6.size)
  obtain ⟨A7, c7, rfl, row7, _, _⟩ := own7.row (pts_ok (by decide +kernel))
  clear own7 b7 bel6
  go_wp2_with fail
  refine (Step_lit_t 0 0 (-9223372036854775808) 0 9223372036854775807 0 _ (by decide +kernel) (by decide +kernel)).mono ?_
  rintro e w8 ⟨rfl, b8⟩
  have bel8 := bel7.trans (b8.mono bel7.size)
  have bx8 := (Bx.new w8 (.cells #[.bool true, .int .i64 9223372036854775807, .int .i64 0] 25))
  have row8 := ((row7.below b8).more b8.size).alloc (Nat.le_refl _) (.cells #[.bool true, .int .i64 9223372036854775807, .int .i64 0] 25)
  have bel8' := bel8.alloc bel8.size (.cells #[.bool true, .int .i64 9223372036854775807, .int .i64 0] 25)
  clear b8 bel7 bel8 row7
  go_wp2_with fail
  refine (Step_lit_f 0 5 1 9 1 3 _ (by decide +kernel) (by decide +kernel)).mono ?_
  rintro e w9 ⟨rfl, b9⟩
  have bel9 := bel8'.trans (b9.mono bel8'.size)
  have bx8b := bx8.below b9
  have bx8c := bx8b.alloc (.cells #[.bool true, .int .i64 1, .int .i64 9] 25)
  have bx9 := (Bx.new w9 (.cells #[.bool true, .int .i64 1, .int .i64 9] 25))
  have row9 := (((row8.more (by simp)).below b9).more b9.size).alloc (Nat.le_refl _) (.cells #[.bool true, .int .i64 1, .int .i64 9] 25)
  have bel9' := bel9.alloc bel9.size (.cells #[.bool true, .int .i64 1, .int .i64 9] 25)
  clear b9 bel8' bel9 row8 bx8 bx8b
  go_wp2_with fail
  refine (Step_lit_t 9223372036854775807 9223372036854775807 0 (-9223372036854775808) 0 9223372036854775807 _ (by decide +kernel) (by decide +kernel)).mono ?_
  rintro e w10 ⟨rfl, b10⟩
  have bel10 := bel9'.trans (b10.mono bel9'.size)
  have bx8d := (bx8c.below b10).alloc (.cells #[.bool true, .int .i64 0, .int .i64 9223372036854775807] 25)
  have bx9b := (bx9.below b10).alloc (.cells #[.bool true, .int .i64 0, .int .i64 9223372036854775807] 25)
  have bx10 := (Bx.new w10 (.cells #[.bool true, .int .i64 0, .int .i64 9223372036854775807] 25))
  have row10 := ((((row9.more (by simp)).below b10).more b10.size).alloc (Nat.le_refl _) (.cells #[.bool true, .int .i64 0, .int .i64 9223372036854775807] 25)).more (Nat.le_of_lt bx10.lt)
  have bel10' := bel10.alloc bel10.size (.cells #[.bool true, .int .i64 0, .int .i64 9223372036854775807] 25)
  obtain ⟨p1, p2, p3⟩ := cells3 bx8d.1
  obtain ⟨q1, q2, q3⟩ := cells3 bx9b.1
  obtain ⟨r1, r2, r3⟩ := cells3 bx10.1
  clear b10 bel9' bel10 row9 bx8c bx9
  clear bx8d bx9b bx10
  go_wp2_with fail
  have rl := row_lit (w10.alloc (.cells #[.bool true, .int .i64 0, .int .i64 9223372036854775807] 25)) [(1, 0), (1, 3), (1, 6)] (pts_ok (by decide +kernel))
  rw [show (w10.alloc (.cells #[.bool true, .int .i64 0, .int .i64 9223372036854775807] 25)).heap.size = w10.heap.size + 1 by simp] at rl
  refine (same_yes_pt A7 (some ⟨w10.heap.size + 1, 0, none⟩) 3 c7 3 [(1, 0), (1, 3), (1, 6)] _ _ _ (row10.alloc (Nat.le_refl _) _) rl rfl (by omega)).mono ?_
  rintro e w11 ⟨rfl, m, rfl⟩
  have bel11 := bel10'.alloc bel10'.size (.cells (blk .i64 (flP [(1, 0), (1, 3), (1, 6)])) 27)
  clear p1 p2 p3 q1 q2 q3 r1 r2 r3 row10 bel10'
  go_wp2_with fail
  refine (known_yes _).mono ?_
  rintro e w12 ⟨rfl, b12⟩
  go_wp2
  go_ret
  exact ⟨rfl, (below_drewN bel11 m).trans (b12.mono (below_drewN bel11 m).size)⟩
end Go.Proofs.Ytggijpfmcidpaaa
