/-
  Contracts of Step and Check of package band.
-/
import Derived.Test.YtmakegbkgiajdaaBdAfter
namespace Go.Proofs.Ytmakegbkgiajdaa
open Go.RowKit
set_option linter.unusedVariables false

theorem told_ne {d q : Int} {hs : Bool} {hv ht x y : Int} (h : toldB d q ⟨hs, hv, ht⟩ (x, y) = true) : hs = false ∨ x ≠ hv ∨ y ≠ ht := by
  unfold toldB at h
  simp only [Bool.or_eq_true, Bool.not_eq_true'] at h
  rcases h with h | h | h
  · exact .inl h
  · refine .inr (.inl fun e => ?_)
    subst e
    unfold farB7 at h
    rw [distI_self] at h
    simp at h; omega
  · refine .inr (.inr fun e => ?_)
    subst e
    unfold dueB at h
    rw [distI_self] at h
    simp at h; omega
theorem told_false {d q : Int} {hs : Bool} {hv ht x y : Int} (h : toldB d q ⟨hs, hv, ht⟩ (x, y) = false) : hs = true := by
  unfold toldB at h
  cases hs
  · simp at h
  · rfl

/-- What Step gives: what is held, and whether the point is told. -/
def stepV (d q : Int) (h : Hd) (p : Pt) : Value := .tuple #[heldV (stepH d q h p), .bool (toldB d q h p)]
end Go.Proofs.Ytmakegbkgiajdaa
