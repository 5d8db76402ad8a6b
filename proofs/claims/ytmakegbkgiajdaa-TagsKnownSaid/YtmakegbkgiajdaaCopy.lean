/-
  Contract of CopyBytes.
-/
import Derived.Test.YtmakegbkgiajdaaOwn
import Derived.Test.YtmakegbkgiajdaaKit
namespace Go.Proofs.Ytmakegbkgiajdaa
open Go.RowKit

/-- A call returns a new slice, its own, that holds xs; nothing that was there has turned. -/
def Makes (k : IntKind) (t : TypeId) (w : World) (xs : List Int) (e : Ending) (w' : World) : Prop := ∃ v, e = .returned v ∧ Own k t w' w.heap.size v xs ∧ Below w.heap.size w w'

/-- A call returns a slice that fills a new block, the first new one, with xs; nothing that was there has turned. -/
def Lays (k : IntKind) (t : TypeId) (w : World) (xs : List Int) (m : Nat) (e : Ending) (w' : World) : Prop :=
  e = .returned (.slice (some ⟨w.heap.size, 0, none⟩) m m) ∧ w'.heap[w.heap.size]? = some (.cells (blk k xs) t (0, 0)) ∧ Below w.heap.size w w'

end Go.Proofs.Ytmakegbkgiajdaa
