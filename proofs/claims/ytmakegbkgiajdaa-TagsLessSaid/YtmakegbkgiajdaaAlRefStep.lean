/-
  Contracts of the document's Step and Ack of layer 8.
-/
import Derived.Test.YtmakegbkgiajdaaAlRef
namespace Go.Proofs.Ytmakegbkgiajdaa
open Go.RowKit
set_option linter.unusedVariables false

/-- An alarm as a value; what Step and Ack give. -/
def almV (a : Alm) : Value := .agg #[.int .i64 a.st, .bool a.wt]
def stepR (r : Alm × Int) : Value := .tuple #[almV r.1, .int .i64 r.2]
def ackR (r : Alm × Bool) : Value := .tuple #[almV r.1, .bool r.2]
theorem chkL_ok {l : Lim} (h : okL l = true) : chkL l = 0 := by unfold chkL; rw [h]; rfl
theorem chkL_bad {l : Lim} (h : okL l = false) : chkL l = 27 := by unfold chkL; rw [h]; rfl
theorem isSt_no {st : Int} (h0 : ¬ st = 0) (h1 : ¬ st = 1) (h2 : ¬ st = 2) : isSt st = false := by unfold isSt; simp [h0, h1, h2]

end Go.Proofs.Ytmakegbkgiajdaa
