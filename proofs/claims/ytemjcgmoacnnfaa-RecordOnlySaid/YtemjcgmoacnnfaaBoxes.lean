/-
  Boxes that a call has made, one behind the other, known whole; the cells of a box, and what stores make of it.
-/
import Derived.Test.YtemjcgmoacnnfaaBox
namespace Go.Proofs.Ytemjcgmoacnnfaa
open Go.RowKit
set_option linter.unusedVariables false

theorem of2 {w : World} {g : Nat} {a b : Value} {t : TypeId} (h : w.heap[g]? = some (.cells #[a, b] t (0, 0))) : w.cell? ⟨g, 0, none⟩ = some a ∧ w.cell? ⟨g, 1, none⟩ = some b := ⟨cell_of_row _ _ 0 _ _ _ h, cell_of_row _ _ 1 _ _ _ h⟩
theorem of6 {w : World} {g : Nat} {a b c d e f : Value} {t : TypeId} (h : w.heap[g]? = some (.cells #[a, b, c, d, e, f] t (0, 0))) : w.cell? ⟨g, 0, none⟩ = some a ∧ w.cell? ⟨g, 1, none⟩ = some b ∧ w.cell? ⟨g, 2, none⟩ = some c ∧ w.cell? ⟨g, 3, none⟩ = some d ∧ w.cell? ⟨g, 4, none⟩ = some e ∧ w.cell? ⟨g, 5, none⟩ = some f :=
  ⟨cell_of_row _ _ 0 _ _ _ h, cell_of_row _ _ 1 _ _ _ h, cell_of_row _ _ 2 _ _ _ h, cell_of_row _ _ 3 _ _ _ h, cell_of_row _ _ 4 _ _ _ h, cell_of_row _ _ 5 _ _ _ h⟩
theorem thaw2 {w : World} {g : Nat} {a : Array Value} {t : TypeId} (h : w.heap[g]? = some (.cells a t (0, 0))) : w.frozen? ⟨g, 0, none⟩ = false ∧ w.frozen? ⟨g, 1, none⟩ = false := ⟨block_frozen _ _ 0 _ _ h, block_frozen _ _ 1 _ _ h⟩

/-- Three boxes. -/
def Box3 (w0 : World) (a b c : Obj) (w : World) : Prop :=
  w.heap[w0.heap.size]? = some a ∧ w.heap[w0.heap.size + 1]? = some b ∧ w.heap[w0.heap.size + 1 + 1]? = some c ∧ w0.heap.size + 3 ≤ w.heap.size ∧ Below w0.heap.size w0 w
theorem Box3.new (w : World) (a b c : Obj) : Box3 w a b c (((w.alloc a).alloc b).alloc c) := by
  have s1 : (w.alloc a).heap.size = w.heap.size + 1 := by simp
  have s2 : ((w.alloc a).alloc b).heap.size = w.heap.size + 1 + 1 := by simp
  refine ⟨?_, ?_, ?_, by simp, ((bel_alloc w a).alloc (by simp) b).alloc (by simp; omega) c⟩
  · exact (heap_alloc_old _ _ (by omega)).trans ((heap_alloc_old _ _ (by omega)).trans (heap_alloc_new _ _))
  · rw [← s1]; exact (heap_alloc_old _ _ (by omega)).trans (heap_alloc_new _ _)
  · rw [← s2]; exact heap_alloc_new _ _
theorem Box3.below {w0 w w' : World} {a b c : Obj} (h : Box3 w0 a b c w) (hb : Below w.heap.size w w') : Box3 w0 a b c w' := by
  obtain ⟨h1, h2, h3, h5, h6⟩ := h
  exact ⟨(hb.block _ (by omega)).trans h1, (hb.block _ (by omega)).trans h2, (hb.block _ (by omega)).trans h3, by have := hb.size; omega, h6.trans (hb.mono (by omega))⟩
theorem Box3.bel {w0 w : World} {a b c : Obj} (h : Box3 w0 a b c w) : Below w0.heap.size w0 w := h.2.2.2.2
theorem Box3.drewN {w0 w : World} {a b c : Obj} (h : Box3 w0 a b c w) (n : Nat) : Box3 w0 a b c (w.drewN n) := h.below (bel_drewN w n)
theorem Box3.alloc {w0 w : World} {a b c : Obj} (h : Box3 w0 a b c w) (o : Obj) : Box3 w0 a b c (w.alloc o) := h.below (bel_alloc w o)
/-- A store into the third box. -/
theorem Box3.set {w0 w : World} {a b : Obj} {cs : Array Value} {t : TypeId} (h : Box3 w0 a b (.cells cs t (0, 0)) w) (i : Nat) (v : Value) : Box3 w0 a b (.cells (cs.setIfInBounds i v) t (0, 0)) (w.setCell ⟨w0.heap.size + 1 + 1, i, none⟩ v) := by
  obtain ⟨h1, h2, h3, h5, h6⟩ := h
  refine ⟨(Below.heap_setCell w _ v _ (by simp only [ne_eq]; omega)).trans h1, (Below.heap_setCell w _ v _ (by simp only [ne_eq]; omega)).trans h2, box_set h3 i v, by simpa [World.setCell] using h5, below_setCell h6 (by omega) i v⟩
/-- Two stores into one box. -/
def put2 (w : World) (g : Nat) (a b : Value) : World := (w.setCell ⟨g, 0, none⟩ a).setCell ⟨g, 1, none⟩ b
theorem Box3.put {w0 w : World} {a b : Obj} {v0 v1 : Value} {t : TypeId} (h : Box3 w0 a b (.cells #[v0, v1] t (0, 0)) w) (x y : Value) : Box3 w0 a b (.cells #[x, y] t (0, 0)) (put2 w (w0.heap.size + 1 + 1) x y) := (h.set 0 x).set 1 y
/-- What lies below a world's end stays through an alloc, and through a store at or above it. -/
theorem balB {a w : World} (h : Below a.heap.size a w) (o : Obj) : Below a.heap.size a (w.alloc o) := h.alloc h.size o
theorem bsetB {a w : World} {g : Nat} (i : Nat) (v : Value) (h : Below a.heap.size a w) (hg : a.heap.size ≤ g) : Below a.heap.size a (w.setCell ⟨g, i, none⟩ v) := below_setCell h hg i v
theorem put2_heap {w : World} {g : Nat} {v0 v1 : Value} {t : TypeId} (h : w.heap[g]? = some (.cells #[v0, v1] t (0, 0))) (a b : Value) : (put2 w g a b).heap[g]? = some (.cells #[a, b] t (0, 0)) := box_set (box_set h 0 a) 1 b
theorem put2_below {B : Nat} {a w : World} {g : Nat} (h : Below B a w) (hg : B ≤ g) (x y : Value) : Below B a (put2 w g x y) := below_setCell (below_setCell h hg 0 x) hg 1 y
/-- A block that is known whole stays through what lies behind it; two boxes. -/
theorem keepB {w w' : World} {g : Nat} {o : Obj} (hb : Below w.heap.size w w') (h : w.heap[g]? = some o) : w'.heap[g]? = some o := (hb.block g (block_lt h)).trans h
theorem two_fst (w : World) (a b : Obj) : ((w.alloc a).alloc b).heap[w.heap.size]? = some a := (heap_alloc_old _ _ (by simp)).trans (heap_alloc_new w a)
end Go.Proofs.Ytemjcgmoacnnfaa
