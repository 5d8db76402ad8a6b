/-
  Contracts of SpoilBytes and ApartBytes: rows in blocks of their own are written over one by one.
-/
import Derived.Test.YtemjcgmoacnnfaaOwn
namespace Go.Proofs.Ytemjcgmoacnnfaa
open Go.RowKit
set_option linter.unusedVariables false

theorem block_setCell (w : World) (g i : Nat) (k : IntKind) (t : TypeId) (l : List Int) (v : Int) (h : w.heap[g]? = some (.cells (blk k l) t (0, 0))) :
    (w.setCell ⟨g, i, none⟩ (.int k v)).heap[g]? = some (.cells (blk k (l.set i v)) t (0, 0)) := by
  simp [World.setCell, Array.getElem?_modify, h, blk_set]
theorem block_frozen (w : World) (g i : Nat) (cs : Array Value) (t : TypeId) (h : w.heap[g]? = some (.cells cs t (0, 0))) : w.frozen? ⟨g, i, none⟩ = false := by simp [World.frozen?, h]
theorem grown_setCell {a w : World} {g : Nat} (h : a.grownBy w (some g)) (i : Nat) (u : Value) : a.grownBy (w.setCell ⟨g, i, none⟩ u) (some g) :=
  ⟨h.os, h.tape, h.output, by simpa [World.setCell] using h.size, fun k hk hne => (Below.heap_setCell w ⟨g, i, none⟩ u k (fun e => hne (by rw [e]))).trans (h.block k hk hne)⟩
theorem block_lt {w : World} {g : Nat} {o : Obj} (h : w.heap[g]? = some o) : g < w.heap.size := by
  rcases Nat.lt_or_ge g w.heap.size with hlt | hge
  · exact hlt
  · rw [Array.getElem?_eq_none hge] at h; cases h

end Go.Proofs.Ytemjcgmoacnnfaa
