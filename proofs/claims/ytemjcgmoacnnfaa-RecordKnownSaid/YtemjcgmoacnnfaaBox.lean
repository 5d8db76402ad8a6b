/-
  A box that a call has made, known whole, and what was there as it was.
-/
import Derived.Test.YtemjcgmoacnnfaaMore
import Derived.Test.YtemjcgmoacnnfaaHeld
namespace Go.Proofs.Ytemjcgmoacnnfaa
open Go.RowKit
set_option linter.unusedVariables false

theorem below_drew {B : Nat} {a w : World} (h : Below B a w) : Below B a w.drew := ⟨h.os, h.tape, h.output, h.size, h.block⟩
/-- The cells of a block that is known whole, and what a store makes of it. -/
theorem box_set {w : World} {g : Nat} {cs : Array Value} {t : TypeId} (h : w.heap[g]? = some (.cells cs t (0, 0))) (i : Nat) (v : Value) : (w.setCell ⟨g, i, none⟩ v).heap[g]? = some (.cells (cs.setIfInBounds i v) t (0, 0)) := by
  simp [World.setCell, Array.getElem?_modify, h]
theorem below_setCell {B : Nat} {a w : World} {g : Nat} (h : Below B a w) (hg : B ≤ g) (i : Nat) (v : Value) : Below B a (w.setCell ⟨g, i, none⟩ v) :=
  ⟨h.os, h.tape, h.output, by simpa [World.setCell] using h.size, fun k hk => (Below.heap_setCell w ⟨g, i, none⟩ v k (by simp; omega)).trans (h.block k hk)⟩


theorem heap_alloc_two (w : World) (o o' : Obj) : ((w.alloc o).alloc o').heap[w.heap.size + 1]? = some o' := by
  have h := heap_alloc_new (w.alloc o) o'
  rw [show (w.alloc o).heap.size = w.heap.size + 1 by simp] at h
  exact h

/-- Block g is known whole, and what lies below it is as it was. -/
def Bx (w0 : World) (g : Nat) (o : Obj) (w : World) : Prop := w.heap[g]? = some o ∧ Below g w0 w
theorem Bx.new (w : World) (o : Obj) : Bx w w.heap.size o (w.alloc o) := ⟨heap_alloc_new w o, bel_alloc w o⟩
theorem Bx.lt {w0 w : World} {g : Nat} {o : Obj} (h : Bx w0 g o w) : g < w.heap.size := block_lt h.1
theorem Bx.below {w0 w w' : World} {g : Nat} {o : Obj} (h : Bx w0 g o w) (hb : Below w.heap.size w w') : Bx w0 g o w' :=
  ⟨(hb.block g h.lt).trans h.1, h.2.trans (hb.mono (Nat.le_of_lt h.lt))⟩
theorem Bx.below2 {w0 w w' : World} {g B : Nat} {o : Obj} (h : Bx w0 g o w) (hb : Below B w w') (hB : g < B) : Bx w0 g o w' :=
  ⟨(hb.block g hB).trans h.1, h.2.trans (hb.mono (Nat.le_of_lt hB))⟩
theorem Bx.drewN {w0 w : World} {g : Nat} {o : Obj} (h : Bx w0 g o w) (n : Nat) : Bx w0 g o (w.drewN n) := h.below (bel_drewN w n)
theorem Bx.drew {w0 w : World} {g : Nat} {o : Obj} (h : Bx w0 g o w) : Bx w0 g o w.drew := h.below ⟨rfl, rfl, rfl, Nat.le_refl _, fun _ _ => rfl⟩
theorem Bx.alloc {w0 w : World} {g : Nat} {o : Obj} (h : Bx w0 g o w) (o' : Obj) : Bx w0 g o (w.alloc o') := h.below (bel_alloc w o')
theorem Bx.grown {w0 w w' : World} {g : Nat} {o : Obj} {row : Option Nat} (h : Bx w0 g o w) (hg : w.grownBy w' row) (hr : ∀ k, row = some k → g < k) : Bx w0 g o w' :=
  ⟨(hg.block g h.lt (fun e => by have := hr g e.symm; omega)).trans h.1, h.2.grown hg (Nat.le_of_lt h.lt) (fun k e => by have := hr k e; omega)⟩
theorem Bx.six {w0 w : World} {g : Nat} {t : TypeId} {v0 v1 v2 v3 v4 v5 : Value} (h : Bx w0 g (.cells #[v0, v1, v2, v3, v4, v5] t (0, 0)) w) :
    w.cell? ⟨g, 0, none⟩ = some v0 ∧ w.cell? ⟨g, 1, none⟩ = some v1 ∧ w.cell? ⟨g, 2, none⟩ = some v2 ∧ w.cell? ⟨g, 3, none⟩ = some v3 ∧ w.cell? ⟨g, 4, none⟩ = some v4 ∧ w.cell? ⟨g, 5, none⟩ = some v5 :=
  ⟨cell_of_row _ _ 0 _ _ _ h.1, cell_of_row _ _ 1 _ _ _ h.1, cell_of_row _ _ 2 _ _ _ h.1, cell_of_row _ _ 3 _ _ _ h.1, cell_of_row _ _ 4 _ _ _ h.1, cell_of_row _ _ 5 _ _ _ h.1⟩
end Go.Proofs.Ytemjcgmoacnnfaa
