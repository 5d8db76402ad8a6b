/-
  Contracts of after, Step and Check of package band.
-/
import Derived.Test.YtmakegbkgiajdaaBdStep
namespace Go.Proofs.Ytmakegbkgiajdaa
open Go.RowKit
set_option linter.unusedVariables false

/-- Four boxes that a call has made, one behind the other, known whole, and what was there as it was. -/
def Four (w0 : World) (a b c d : Obj) (w : World) : Prop :=
  w.heap[w0.heap.size]? = some a ∧ w.heap[w0.heap.size + 1]? = some b ∧ w.heap[w0.heap.size + 1 + 1]? = some c ∧ w.heap[w0.heap.size + 1 + 1 + 1]? = some d ∧ w0.heap.size + 4 ≤ w.heap.size ∧ Below w0.heap.size w0 w
theorem Four.new (w : World) (a b c d : Obj) : Four w a b c d ((((w.alloc a).alloc b).alloc c).alloc d) := by
  have s1 : (w.alloc a).heap.size = w.heap.size + 1 := by simp
  have s2 : ((w.alloc a).alloc b).heap.size = w.heap.size + 1 + 1 := by simp
  have s3 : (((w.alloc a).alloc b).alloc c).heap.size = w.heap.size + 1 + 1 + 1 := by simp
  refine ⟨?_, ?_, ?_, ?_, by simp, (((bel_alloc w a).alloc (by simp) b).alloc (by simp; omega) c).alloc (by simp; omega) d⟩
  · exact (heap_alloc_old _ _ (by omega)).trans ((heap_alloc_old _ _ (by omega)).trans ((heap_alloc_old _ _ (by omega)).trans (heap_alloc_new _ _)))
  · rw [← s1]; exact (heap_alloc_old _ _ (by omega)).trans ((heap_alloc_old _ _ (by omega)).trans (heap_alloc_new _ _))
  · rw [← s2]; exact (heap_alloc_old _ _ (by omega)).trans (heap_alloc_new _ _)
  · rw [← s3]; exact heap_alloc_new _ _
theorem Four.below {w0 w w' : World} {a b c d : Obj} (h : Four w0 a b c d w) (hb : Below w.heap.size w w') : Four w0 a b c d w' := by
  obtain ⟨h1, h2, h3, h4, h5, h6⟩ := h
  exact ⟨(hb.block _ (by omega)).trans h1, (hb.block _ (by omega)).trans h2, (hb.block _ (by omega)).trans h3, (hb.block _ (by omega)).trans h4, by have := hb.size; omega, h6.trans (hb.mono (by omega))⟩
theorem Four.bel {w0 w : World} {a b c d : Obj} (h : Four w0 a b c d w) : Below w0.heap.size w0 w := h.2.2.2.2.2
/-- A store into the fourth box. -/
theorem Four.set {w0 w : World} {a b c : Obj} {cs : Array Value} {t : TypeId} (h : Four w0 a b c (.cells cs t (0, 0)) w) (i : Nat) (v : Value) : Four w0 a b c (.cells (cs.setIfInBounds i v) t (0, 0)) (w.setCell ⟨w0.heap.size + 1 + 1 + 1, i, none⟩ v) := by
  obtain ⟨h1, h2, h3, h4, h5, h6⟩ := h
  refine ⟨(Below.heap_setCell w _ v _ (by simp only [ne_eq]; omega)).trans h1, (Below.heap_setCell w _ v _ (by simp only [ne_eq]; omega)).trans h2, (Below.heap_setCell w _ v _ (by simp only [ne_eq]; omega)).trans h3, box_set h4 i v, by simpa [World.setCell] using h5, below_setCell h6 (by omega) i v⟩
theorem cells2 {w : World} {g : Nat} {a b : Value} {t : TypeId} (h : w.heap[g]? = some (.cells #[a, b] t (0, 0))) : w.cell? ⟨g, 0, none⟩ = some a ∧ w.cell? ⟨g, 1, none⟩ = some b := ⟨cell_of_row _ _ 0 _ _ _ h, cell_of_row _ _ 1 _ _ _ h⟩
theorem cells3b {w : World} {g : Nat} {a b c : Value} {t : TypeId} (h : w.heap[g]? = some (.cells #[a, b, c] t (0, 0))) : w.cell? ⟨g, 0, none⟩ = some a ∧ w.cell? ⟨g, 1, none⟩ = some b ∧ w.cell? ⟨g, 2, none⟩ = some c := ⟨cell_of_row _ _ 0 _ _ _ h, cell_of_row _ _ 1 _ _ _ h, cell_of_row _ _ 2 _ _ _ h⟩
theorem froz3 {w : World} {g : Nat} {a : Array Value} {t : TypeId} (h : w.heap[g]? = some (.cells a t (0, 0))) : w.frozen? ⟨g, 0, none⟩ = false ∧ w.frozen? ⟨g, 1, none⟩ = false ∧ w.frozen? ⟨g, 2, none⟩ = false := ⟨block_frozen _ _ 0 _ _ h, block_frozen _ _ 1 _ _ h, block_frozen _ _ 2 _ _ h⟩

/-- Three stores into one box. -/
def putH (w : World) (g : Nat) (a b c : Value) : World := ((w.setCell ⟨g, 0, none⟩ a).setCell ⟨g, 1, none⟩ b).setCell ⟨g, 2, none⟩ c
theorem Four.put {w0 w : World} {a b c : Obj} {v0 v1 v2 : Value} {t : TypeId} (h : Four w0 a b c (.cells #[v0, v1, v2] t (0, 0)) w) (x y z : Value) : Four w0 a b c (.cells #[x, y, z] t (0, 0)) (putH w (w0.heap.size + 1 + 1 + 1) x y z) := ((h.set 0 x).set 1 y).set 2 z

def heldV (h : Hd) : Value := .agg #[.bool h.has, .int .i64 h.v, .int .i64 h.t]
theorem bel_four (w : World) (a b c d : Obj) : Below w.heap.size w ((((w.alloc a).alloc b).alloc c).alloc d) := (Four.new w a b c d).bel

end Go.Proofs.Ytmakegbkgiajdaa
