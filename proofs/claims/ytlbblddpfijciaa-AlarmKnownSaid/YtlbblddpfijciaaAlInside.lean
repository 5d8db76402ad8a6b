/-
  Contract of inside of the statements of layer 8.
-/
import Derived.Test.YtlbblddpfijciaaAlWorks
import Derived.Test.YtlbblddpfijciaaBoxes2
namespace Go.Proofs.Ytlbblddpfijciaa
open Go.RowKit
set_option linter.unusedVariables false

theorem inside_any (ul uh la : Bool) (lo hi hy : Int) (v : Int) (w : World) : Calls Try.prog 17 #[.agg #[.bool ul, .bool uh, .bool la, .int .i64 lo, .int .i64 hi, .int .i64 hy], .int .i64 v] w fun e w' => e = .returned (.bool (!lowB ⟨ul, uh, la, lo, hi, hy⟩ v && !highB ⟨ul, uh, la, lo, hi, hy⟩ v)) ∧ Below w.heap.size w w' := by
  have bel := bel_alloc w (.cells #[.bool ul, .bool uh, .bool la, .int .i64 lo, .int .i64 hi, .int .i64 hy] 23)
  by_cases h1 : ul = true ∧ ¬ v > lo
  · obtain ⟨rfl, h2⟩ := h1
    have HB : Hid ((!lowB ⟨true, uh, la, lo, hi, hy⟩ v && !highB ⟨true, uh, la, lo, hi, hy⟩ v) = false) := Lib.hid (by unfold lowB; simp; omega)
    rw [HB.out]
    have h3 : decide (v > lo) = false := decide_eq_false h2
    go_enter Try.func17, Try.ntmps17
    go_wp2
    go_ret
    exact ⟨rfl, bel⟩
  have hlow : lowB ⟨ul, uh, la, lo, hi, hy⟩ v = false := by
    unfold lowB
    cases ul
    · rfl
    · simp at h1 ⊢; omega
  cases uh
  · have HB : Hid ((!lowB ⟨ul, false, la, lo, hi, hy⟩ v && !highB ⟨ul, false, la, lo, hi, hy⟩ v) = true) := Lib.hid (by rw [hlow]; rfl)
    rw [HB.out]
    clear hlow
    cases ul
    · clear h1
      go_enter Try.func17, Try.ntmps17
      go_wp2
      go_ret
      exact ⟨rfl, bel⟩
    · have h2 : v > lo := by simp at h1; omega
      clear h1
      go_enter Try.func17, Try.ntmps17
      go_wp2
      go_ret
      exact ⟨rfl, bel⟩
  · have HB : Hid ((!lowB ⟨ul, true, la, lo, hi, hy⟩ v && !highB ⟨ul, true, la, lo, hi, hy⟩ v) = decide (v < hi)) := Lib.hid (by rw [hlow]; unfold highB; simp; by_cases h : v < hi <;> simp [h] <;> omega)
    rw [HB.out]
    clear hlow
    cases ul
    · clear h1
      go_enter Try.func17, Try.ntmps17
      go_wp2
      go_ret
      exact ⟨rfl, bel⟩
    · have h2 : v > lo := by simp at h1; omega
      clear h1
      go_enter Try.func17, Try.ntmps17
      go_wp2
      go_ret
      exact ⟨rfl, bel⟩
end Go.Proofs.Ytlbblddpfijciaa
