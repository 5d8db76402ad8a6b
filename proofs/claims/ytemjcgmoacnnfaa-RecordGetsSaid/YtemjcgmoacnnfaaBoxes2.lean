/-
  More of boxes: what a store into another box leaves, a cell that lies below.
-/
import Derived.Test.YtemjcgmoacnnfaaBoxes
namespace Go.Proofs.Ytemjcgmoacnnfaa
open Go.RowKit
set_option linter.unusedVariables false

theorem put2_other {w : World} {g g' : Nat} (a b : Value) (h : g' ≠ g) : (put2 w g a b).heap[g']? = w.heap[g']? := by
  unfold put2
  rw [Below.heap_setCell _ _ _ _ (by simpa using h), Below.heap_setCell _ _ _ _ (by simpa using h)]
theorem put2_size (w : World) (g : Nat) (a b : Value) : (put2 w g a b).heap.size = w.heap.size := by simp [put2, World.setCell]
/-- A cell in a block that was there. -/
theorem cellB {w w' : World} {b o : Nat} {v : Value} (hb : Below w.heap.size w w') (hlt : b < w.heap.size) (h : w.cell? ⟨b, o, none⟩ = some v) : w'.cell? ⟨b, o, none⟩ = some v := (hb.cell (p := ⟨b, o, none⟩) hlt).trans h
end Go.Proofs.Ytemjcgmoacnnfaa
