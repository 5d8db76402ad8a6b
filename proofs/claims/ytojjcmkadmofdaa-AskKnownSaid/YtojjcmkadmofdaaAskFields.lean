/-
  Contracts of Check of package ask and of what it calls.
-/
import Derived.Test.YtojjcmkadmofdaaAskMath
import Derived.IntWalk
namespace Go.Proofs.Ytojjcmkadmofdaa
open Go.RowKit
set_option linter.unusedVariables false

theorem maxMany_any (c : Int) (w : World) : Calls Try.prog 37 #[.int .i64 c] w fun e w' => e = .returned (.int .i64 (mm c)) ∧ w' = w := by
  rcases codes c with rfl | rfl | rfl | rfl | rfl | rfl | rfl | rfl | rfl | ⟨h1, h2, h3, h4, h5, h6, h7, h8, h9⟩
  iterate 9
    · go_enter Try.func37, Try.ntmps37
      go_wp2
      go_ret
      exact ⟨rfl, rfl⟩
  have e : mm c = 0 := by simp [mm, *]
  rw [e]
  have b1 := beq_false_of_ne h1
  have b2 := beq_false_of_ne h2
  have b3 := beq_false_of_ne h3
  have b4 := beq_false_of_ne h4
  have b5 := beq_false_of_ne h5
  have b6 := beq_false_of_ne h6
  have b7 := beq_false_of_ne h7
  have b8 := beq_false_of_ne h8
  have b9 := beq_false_of_ne h9
  go_enter Try.func37, Try.ntmps37
  go_wp2
  go_ret
  exact ⟨rfl, rfl⟩
theorem isCode_any (c : Int) (w : World) : Calls Try.prog 34 #[.int .i64 c] w fun e w' => e = .returned (.bool (decide (0 < mm c))) ∧ w' = w := by
  go_enter Try.func34, Try.ntmps34
  go_wp2_with fail
  refine (maxMany_any c w).mono ?_
  rintro e w' ⟨rfl, rfl⟩
  go_wp2
  go_ret
  exact ⟨rfl, rfl⟩

set_option maxHeartbeats 2000000 in
theorem hasStray_any (c a n : Int) (Ao As Ap : Option Addr) (lo co ls cs lp cp : Nat) (w : World) (h : 0 < mm c) :
    Calls Try.prog 35 #[.agg #[.int .i64 c, .int .i64 a, .int .i64 n, .slice Ao lo co, .slice As ls cs, .slice Ap lp cp]] w fun e w' => e = .returned (.bool (stray c a n lo ls lp)) ∧ Below w.heap.size w w' := by
  rcases mm_pos h with rfl | rfl | rfl | rfl | rfl | rfl | rfl | rfl | rfl
  iterate 9
    · go_enter Try.func35, Try.ntmps35
      go_wp2
      all_goals (go_ret; refine ⟨?_, bel_alloc _ _⟩; (simp [stray, *] <;> omega))

set_option maxHeartbeats 2000000 in
theorem howMany_any (c a n : Int) (Ao As Ap : Option Addr) (lo co ls cs lp cp : Nat) (w : World) (h : 0 < mm c) :
    Calls Try.prog 36 #[.agg #[.int .i64 c, .int .i64 a, .int .i64 n, .slice Ao lo co, .slice As ls cs, .slice Ap lp cp]] w fun e w' => e = .returned (.int .i64 (many c n lo ls lp)) ∧ Below w.heap.size w w' := by
  rcases mm_pos h with rfl | rfl | rfl | rfl | rfl | rfl | rfl | rfl | rfl
  iterate 9
    · go_enter Try.func36, Try.ntmps36
      go_wp2
      go_ret
      exact ⟨rfl, bel_alloc _ _⟩

end Go.Proofs.Ytojjcmkadmofdaa
