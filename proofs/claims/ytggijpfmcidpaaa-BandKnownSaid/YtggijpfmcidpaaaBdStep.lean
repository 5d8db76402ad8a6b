/-
  Contracts of Step and Check of package band, of what they call, and of the document's answers to them.
-/
import Derived.Test.YtggijpfmcidpaaaBdMath
import Derived.Test.YtggijpfmcidpaaaBox
import Derived.IntWalk
import Derived.BigQuiet
import Derived.Deep.RegionHeld3
namespace Go.Proofs.Ytggijpfmcidpaaa
open Go.RowKit
set_option linter.unusedVariables false

theorem sub_uint (a b : Int) (ha : (-9223372036854775808 ≤ a ∧ a < 9223372036854775808)) (hb : (-9223372036854775808 ≤ b ∧ b < 9223372036854775808)) (h : b ≤ a) : IntKind.u64.wrap (IntKind.u64.wrap a - IntKind.u64.wrap b) = a - b := by
  simp only [IntKind.wrap_u64]; omega
theorem distI_hi {a b : Int} (h : b ≤ a) : distI a b = a - b := by unfold distI; omega
theorem distI_lo {a b : Int} (h : a ≤ b) : distI a b = b - a := by unfold distI; omega
theorem distI_lt {a b : Int} (ha : (-9223372036854775808 ≤ a ∧ a < 9223372036854775808)) (hb : (-9223372036854775808 ≤ b ∧ b < 9223372036854775808)) : distI a b < 18446744073709551616 := by unfold distI; omega

theorem distance_any (a b : Int) (ha : (-9223372036854775808 ≤ a ∧ a < 9223372036854775808)) (hb : (-9223372036854775808 ≤ b ∧ b < 9223372036854775808)) (w : World) : Calls Try.prog 30 #[.int .i64 a, .int .i64 b] w fun e w' => e = .returned (.int .u64 (distI a b)) ∧ w' = w := by
  rcases Int.le_total b a with h | h
  · have e1 : max a b = a := by omega
    have e2 : min a b = b := by omega
    have e3 := sub_uint a b ha hb h
    rw [distI_hi h]
    go_enter Try.func30, Try.ntmps30
    go_wp2
    all_goals (go_ret; refine ⟨congrArg (fun z => Ending.returned (Value.int .u64 z)) ?_, rfl⟩; (try simp only [IntKind.wrap_u64]) <;> omega)
  · have e1 : max a b = b := by omega
    have e2 : min a b = a := by omega
    have e3 := sub_uint b a hb ha h
    rw [distI_lo h]
    go_enter Try.func30, Try.ntmps30
    go_wp2
    all_goals (go_ret; refine ⟨congrArg (fun z => Ending.returned (Value.int .u64 z)) ?_, rfl⟩; (try simp only [IntKind.wrap_u64]) <;> omega)

theorem farB_pos {d : Int} (a b : Int) (h : 0 ≤ d) : farB d a b = decide (d < distI a b) := by unfold farB; rw [show max d 0 = d by omega]
theorem farB_neg {d : Int} (a b : Int) (h : d < 0) : farB d a b = decide (0 < distI a b) := by unfold farB; rw [show max d 0 = 0 by omega]
theorem bel_three (w : World) (a b c : Obj) (n : Nat) : Below w.heap.size w ((((w.alloc a).alloc b).alloc c).drewN n) :=
  below_drewN (((bel_alloc w a).alloc (by simp) b).alloc (by simp; omega) c) n
theorem moved_any (d q hv ht x y : Int) (hs : Bool) (hd : (-9223372036854775808 ≤ d ∧ d < 9223372036854775808)) (hh : (-9223372036854775808 ≤ hv ∧ hv < 9223372036854775808)) (hx : (-9223372036854775808 ≤ x ∧ x < 9223372036854775808)) (w : World) : Calls Try.prog 27 #[.agg #[.int .i64 d, .int .i64 q], .agg #[.bool hs, .int .i64 hv, .int .i64 ht], .agg #[.int .i64 x, .int .i64 y]] w fun e w' => e = .returned (.bool (farB d x hv)) ∧ Below w.heap.size w w' := by
  rcases Int.lt_or_le d 0 with h | h
  · have hf := Lib.hid (farB_neg x hv h)
    go_enter Try.func27, Try.ntmps27
    go_wp2
    go_quiet ((go_at_call 30; refine Calls.quiet_of_same (distance_any x hv hx hh _)))
    go_wp2
    go_ret
    exact ⟨by rw [hf.out]; rfl, bel_three _ _ _ _ _⟩
  · have hf := Lib.hid (farB_pos x hv h)
    go_enter Try.func27, Try.ntmps27
    go_wp2
    go_quiet ((go_at_call 30; refine Calls.quiet_of_same (distance_any x hv hx hh _)))
    go_wp2
    go_ret
    exact ⟨by rw [hf.out]; rfl, bel_three _ _ _ _ _⟩
theorem overdue_any (d q hv ht x y : Int) (hs : Bool) (hq : (-9223372036854775808 ≤ q ∧ q < 9223372036854775808)) (hh : (-9223372036854775808 ≤ ht ∧ ht < 9223372036854775808)) (hy : (-9223372036854775808 ≤ y ∧ y < 9223372036854775808)) (w : World) : Calls Try.prog 28 #[.agg #[.int .i64 d, .int .i64 q], .agg #[.bool hs, .int .i64 hv, .int .i64 ht], .agg #[.int .i64 x, .int .i64 y]] w fun e w' => e = .returned (.bool (dueB q ht y)) ∧ Below w.heap.size w w' := by
  by_cases h1 : 0 < q
  · by_cases h2 : ht ≤ y
    · have hf : Hid (dueB q ht y = decide (q ≤ distI y ht)) := Lib.hid (by unfold dueB; simp [h1, h2])
      have hw : IntKind.u64.wrap q = q := by rw [IntKind.wrap_u64]; omega
      go_enter Try.func28, Try.ntmps28
      go_wp2
      go_quiet ((go_at_call 30; refine Calls.quiet_of_same (distance_any y ht hy hh _)))
      go_wp2
      go_ret
      exact ⟨by rw [hf.out]; rfl, bel_three _ _ _ _ _⟩
    · have hf : Hid (dueB q ht y = false) := Lib.hid (by unfold dueB; simp [h2])
      have t2 : decide (ht ≤ y) = false := decide_eq_false h2
      clear h2
      go_enter Try.func28, Try.ntmps28
      go_wp2
      go_quiet (fail)
      go_wp2
      go_ret
      exact ⟨by rw [hf.out]; rfl, bel_three _ _ _ _ _⟩
  · have hf : Hid (dueB q ht y = false) := Lib.hid (by unfold dueB; simp [h1])
    have t1 : decide (0 < q) = false := decide_eq_false h1
    clear h1
    go_enter Try.func28, Try.ntmps28
    go_wp2
    go_quiet (fail)
    go_wp2
    go_ret
    exact ⟨by rw [hf.out]; rfl, bel_three _ _ _ _ _⟩
end Go.Proofs.Ytggijpfmcidpaaa
