/-
  From the reading of an argument to the words of the walks: a record that came in.
-/
import Derived.Test.YtemjcgmoacnnfaaFrame
import Derived.Test.YtemjcgmoacnnfaaFrameS
import Derived.Test.YtemjcgmoacnnfaaRcMath
import Derived.Deep.Slices
import Derived.Deep.Fields
import Derived.ChangeSame
namespace Go.Proofs.Ytemjcgmoacnnfaa
open Go.ChangeShapes Go.WideShapes Go.ChangeAt Go.RowKit Go.Deep
set_option linter.unusedVariables false
set_option maxRecDepth 100000

section
variable {H : Type} {enc : TypeId × Value → H} {W : World}

set_option maxHeartbeats 1000000 in
/-- The cells of a record that can be read are a record's. -/
theorem rec_cells {base : Nat} {spare : Nat → Bool} {held : Bool} {fuel : Nat} {cs : List Value} {x : DataW H × List MemPlace} (h : DataW.trod enc Try.prog W base spare held fuel 23 cs = some x) (hl : cs.length = 5) :
    ∃ r : Rc, cs = [.int .i64 r.k, .int .i64 r.t, .string r.g, .int .i64 r.v, .int .i64 r.i] ∧ Rc.Ok r := by
  match cs, hl with
  | [c0, c1, c2, c3, c4], _ =>
  obtain ⟨ys, n, _, _, _, hyl, hf⟩ := DataW.trod_struct Try.underlying23 h
  have s1 : Try.prog.cellsOf 9 = 1 := by kernel_rfl
  have s2 : Try.prog.cellsOf 3 = 1 := by kernel_rfl
  match ys, hyl with
  | [y0, y1, y2, y3, y4], _ =>
  have t0 : DataW.trod enc Try.prog W base spare held n 3 [c0] = some y0 := by simpa [s1, s2] using hf 0 _ rfl
  have t1 : DataW.trod enc Try.prog W base spare held n 3 [c1] = some y1 := by simpa [s1, s2] using hf 1 _ rfl
  have t2 : DataW.trod enc Try.prog W base spare held n 9 [c2] = some y2 := by simpa [s1, s2] using hf 2 _ rfl
  have t3 : DataW.trod enc Try.prog W base spare held n 3 [c3] = some y3 := by simpa [s1, s2] using hf 3 _ rfl
  have t4 : DataW.trod enc Try.prog W base spare held n 3 [c4] = some y4 := by simpa [s1, s2] using hf 4 _ rfl
  clear hf
  obtain ⟨v0, e0, _, w0⟩ := DataW.trod_int Try.underlying3 t0
  injection e0 with e0
  subst e0
  obtain ⟨v1, e1, _, w1⟩ := DataW.trod_int Try.underlying3 t1
  injection e1 with e1
  subst e1
  obtain ⟨v2, e2, _, w2⟩ := DataW.trod_string Try.underlying9 t2
  injection e2 with e2
  subst e2
  obtain ⟨v3, e3, _, w3⟩ := DataW.trod_int Try.underlying3 t3
  injection e3 with e3
  subst e3
  obtain ⟨v4, e4, _, w4⟩ := DataW.trod_int Try.underlying3 t4
  injection e4 with e4
  subst e4
  exact ⟨⟨v0, v1, v2, v3, v4⟩, rfl, w2, wf_i64 w0, wf_i64 w1, wf_i64 w3, wf_i64 w4⟩
/-- A record, by value. -/
theorem rec_in {r : Reach} {b0 : Nat} {v : Value} {d : DataW H} {p : List MemPlace}
    (hv : Value.okWide Try.prog W r b0 23 v) (h : DataW.Trod enc Try.prog W 0 (fun _ => true) true 23 v d p) : ∃ r : Rc, v = rcV r ∧ Rc.Ok r := by
  obtain ⟨cells, rfl, hsz⟩ := okWide_struct Try.underlying23 hv
  have s0 : Try.prog.cellsOf 23 = 5 := by kernel_rfl
  obtain ⟨l⟩ := cells
  obtain ⟨fuel, hf⟩ := h
  obtain ⟨t, e, ok⟩ := rec_cells hf (hsz.trans s0)
  exact ⟨t, by rw [show l = _ from e]; rfl, ok⟩
end
end Go.Proofs.Ytemjcgmoacnnfaa
