/-
  Contracts of Step and Check of package band, of what they call, and of the document's answers to them.
-/
import Derived.Test.YtmakegbkgiajdaaBdMath
import Derived.Test.YtmakegbkgiajdaaBox
import Derived.IntWalk
import Derived.BigQuiet
import Derived.Deep.RegionHeld3
namespace Go.Proofs.Ytmakegbkgiajdaa
open Go.RowKit
set_option linter.unusedVariables false

theorem sub_uint (a b : Int) (ha : (-9223372036854775808 ≤ a ∧ a < 9223372036854775808)) (hb : (-9223372036854775808 ≤ b ∧ b < 9223372036854775808)) (h : b ≤ a) : IntKind.u64.wrap (IntKind.u64.wrap a - IntKind.u64.wrap b) = a - b := by
  simp only [IntKind.wrap_u64]; omega
theorem distI_hi {a b : Int} (h : b ≤ a) : distI a b = a - b := by unfold distI; omega
theorem distI_lo {a b : Int} (h : a ≤ b) : distI a b = b - a := by unfold distI; omega
theorem distI_lt {a b : Int} (ha : (-9223372036854775808 ≤ a ∧ a < 9223372036854775808)) (hb : (-9223372036854775808 ≤ b ∧ b < 9223372036854775808)) : distI a b < 18446744073709551616 := by unfold distI; omega

theorem farB_pos {d : Int} (a b : Int) (h : 0 ≤ d) : farB7 d a b = decide (d < distI a b) := by unfold farB7; rw [show max d 0 = d by omega]
theorem farB_neg {d : Int} (a b : Int) (h : d < 0) : farB7 d a b = decide (0 < distI a b) := by unfold farB7; rw [show max d 0 = 0 by omega]
theorem bel_three (w : World) (a b c : Obj) (n : Nat) : Below w.heap.size w ((((w.alloc a).alloc b).alloc c).drewN n) :=
  below_drewN (((bel_alloc w a).alloc (by simp) b).alloc (by simp; omega) c) n
end Go.Proofs.Ytmakegbkgiajdaa
