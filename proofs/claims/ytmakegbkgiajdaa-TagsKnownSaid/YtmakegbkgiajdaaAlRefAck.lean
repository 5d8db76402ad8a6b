/-
  Contract of the document's Ack of layer 8.
-/
import Derived.Test.YtmakegbkgiajdaaAlRefStep
namespace Go.Proofs.Ytmakegbkgiajdaa
open Go.RowKit
set_option linter.unusedVariables false

theorem bel_two (w : World) (a b : Obj) : Below w.heap.size w ((w.alloc a).alloc b) := (bel_alloc w a).alloc (by simp) b
end Go.Proofs.Ytmakegbkgiajdaa
