/-
  Contracts of Check of package band, and of the document's answers of layer 7: Check, Distance, Told, Step.
-/
import Derived.Test.YtmakegbkgiajdaaBdStepAny
namespace Go.Proofs.Ytmakegbkgiajdaa
open Go.RowKit
set_option linter.unusedVariables false

theorem chkB_ok {d q : Int} (h1 : ¬ d < 0) (h2 : ¬ d > 1099511627776) (h3 : ¬ q < 0) (h4 : ¬ q > 1099511627776) : chkB d q = 0 := by unfold chkB; rw [if_pos (by omega)]
theorem chkB_no {d q : Int} (h : d < 0 ∨ d > 1099511627776 ∨ q < 0 ∨ q > 1099511627776) : chkB d q = 26 := by unfold chkB; rw [if_neg (by omega)]
theorem chk_split (d q : Int) : (d < 0) ∨ (¬ d < 0 ∧ d > 1099511627776) ∨ (¬ d < 0 ∧ ¬ d > 1099511627776 ∧ q < 0) ∨ (¬ d < 0 ∧ ¬ d > 1099511627776 ∧ ¬ q < 0 ∧ q > 1099511627776) ∨ (¬ d < 0 ∧ ¬ d > 1099511627776 ∧ ¬ q < 0 ∧ ¬ q > 1099511627776) := by omega
theorem Check7_any (d q : Int) (w : World) : Calls Try.prog 34 #[.agg #[.int .i64 d, .int .i64 q]] w fun e w' => e = .returned (.int .i64 (chkB d q)) ∧ Below w.heap.size w w' := by
  rcases chk_split d q with h | ⟨h1, h⟩ | ⟨h1, h2, h⟩ | ⟨h1, h2, h3, h⟩ | ⟨h1, h2, h3, h4⟩
  case' inr.inr.inr.inr => have HC := Lib.hid (chkB_ok h1 h2 h3 h4)
  case' inr.inr.inr.inl => have HC := Lib.hid (chkB_no (d := d) (q := q) (.inr (.inr (.inr h))))
  case' inr.inr.inl => have HC := Lib.hid (chkB_no (d := d) (q := q) (.inr (.inr (.inl h))))
  case' inr.inl => have HC := Lib.hid (chkB_no (d := d) (q := q) (.inr (.inl h)))
  case' inl => have HC := Lib.hid (chkB_no (d := d) (q := q) (.inl h))
  all_goals
    rw [HC.out]
    go_enter Try.func34, Try.ntmps34
    go_wp2
    go_ret
    exact ⟨rfl, bel_alloc _ _⟩
theorem refCheck7_any (d q : Int) (w : World) : Calls Try.prog 30 #[.agg #[.int .i64 d, .int .i64 q]] w fun e w' => e = .returned (.int .i64 (chkB d q)) ∧ Below w.heap.size w w' := by
  rcases chk_split d q with h | ⟨h1, h⟩ | ⟨h1, h2, h⟩ | ⟨h1, h2, h3, h⟩ | ⟨h1, h2, h3, h4⟩
  case' inr.inr.inr.inr => have HC := Lib.hid (chkB_ok h1 h2 h3 h4)
  case' inr.inr.inr.inl => have HC := Lib.hid (chkB_no (d := d) (q := q) (.inr (.inr (.inr h))))
  case' inr.inr.inl => have HC := Lib.hid (chkB_no (d := d) (q := q) (.inr (.inr (.inl h))))
  case' inr.inl => have HC := Lib.hid (chkB_no (d := d) (q := q) (.inr (.inl h)))
  case' inl => have HC := Lib.hid (chkB_no (d := d) (q := q) (.inl h))
  all_goals
    rw [HC.out]
    go_enter Try.func30, Try.ntmps30
    go_wp2
    go_ret
    exact ⟨rfl, bel_alloc _ _⟩

/-- The document's Told, behind its first test. -/
theorem told_hs {d q hv ht x y : Int} : toldB d q ⟨true, hv, ht⟩ (x, y) = (farB7 d x hv || dueB q ht y) := rfl
theorem farB_le {d : Int} (a b : Int) (h : d ≤ 0) : farB7 d a b = decide (0 < distI a b) := by unfold farB7; rw [show max d 0 = 0 by omega]
/-- Three boxes. -/
def Three (w0 : World) (a b c : Obj) (w : World) : Prop := w.heap[w0.heap.size]? = some a ∧ w.heap[w0.heap.size + 1]? = some b ∧ w.heap[w0.heap.size + 1 + 1]? = some c ∧ Below w0.heap.size w0 w
theorem Three.new (w : World) (a b c : Obj) : Three w a b c (((w.alloc a).alloc b).alloc c) := by
  have s1 : (w.alloc a).heap.size = w.heap.size + 1 := by simp
  have s2 : ((w.alloc a).alloc b).heap.size = w.heap.size + 1 + 1 := by simp
  refine ⟨?_, ?_, ?_, ((bel_alloc w a).alloc (by simp) b).alloc (by simp; omega) c⟩
  · exact (heap_alloc_old _ _ (by omega)).trans ((heap_alloc_old _ _ (by omega)).trans (heap_alloc_new _ _))
  · rw [← s1]; exact (heap_alloc_old _ _ (by omega)).trans (heap_alloc_new _ _)
  · rw [← s2]; exact heap_alloc_new _ _

end Go.Proofs.Ytmakegbkgiajdaa
