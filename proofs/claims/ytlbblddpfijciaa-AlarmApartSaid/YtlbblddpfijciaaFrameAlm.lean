/-
  From the reading of an argument to the words of the walks: limits and alarms that came in by value.
-/
import Derived.Test.YtlbblddpfijciaaFrameS
import Derived.Test.YtlbblddpfijciaaFrameL
import Derived.Test.YtlbblddpfijciaaAlMath
namespace Go.Proofs.Ytlbblddpfijciaa
open Go.ChangeShapes Go.WideShapes Go.ChangeAt Go.RowKit Go.Deep
set_option linter.unusedVariables false

section
variable {H : Type} {enc : TypeId × Value → H} {P : Program} {W : World}
/-- Limits, by value. -/
theorem lim_in {r : Reach} {b0 : Nat} {t : TypeId} {f0 f1 f2 f3 f4 f5 : Field} {v : Value} {d : DataW H} {p : List MemPlace}
    (hs : P.underlying t = some (.struct #[f0, f1, f2, f3, f4, f5])) (hone : oneCellFields P #[f0, f1, f2, f3, f4, f5] = true) (hC : P.cellsOf t = 6)
    (k0 : P.underlying f0.type = some .bool) (k1 : P.underlying f1.type = some .bool) (k2 : P.underlying f2.type = some .bool)
    (k3 : P.underlying f3.type = some (.int .i64)) (k4 : P.underlying f4.type = some (.int .i64)) (k5 : P.underlying f5.type = some (.int .i64))
    (hv : Value.okWide P W r b0 t v) (h : DataW.Trod enc P W 0 (fun _ => true) true t v d p) :
    ∃ (ul uh la : Bool) (lo hi hy : Int), v = .agg #[.bool ul, .bool uh, .bool la, .int .i64 lo, .int .i64 hi, .int .i64 hy] ∧ Lim.Ok ⟨ul, uh, la, lo, hi, hy⟩ := by
  obtain ⟨cells, rfl, hsz⟩ := okWide_struct hs hv
  obtain ⟨l⟩ := cells
  match l, hsz.trans hC with
  | [c0, c1, c2, c3, c4, c5], _ =>
    obtain ⟨fuel, hf⟩ := h
    obtain ⟨xs, n, _, hx, _, hlen, hg⟩ := DataW.trod_struct hs hf
    obtain ⟨o0, q0⟩ := hone_of hone 0 f0 rfl
    obtain ⟨o1, q1⟩ := hone_of hone 1 f1 rfl
    obtain ⟨o2, q2⟩ := hone_of hone 2 f2 rfl
    obtain ⟨o3, q3⟩ := hone_of hone 3 f3 rfl
    obtain ⟨o4, q4⟩ := hone_of hone 4 f4 rfl
    obtain ⟨o5, q5⟩ := hone_of hone 5 f5 rfl
    match xs, hlen with
    | [y0, y1, y2, y3, y4, y5], _ =>
      have t0 : DataW.trod enc P W 0 (fun _ => true) true n f0.type [c0] = some y0 := by simpa [Value.cells, o0, q0] using hg 0 f0 rfl
      have t1 : DataW.trod enc P W 0 (fun _ => true) true n f1.type [c1] = some y1 := by simpa [Value.cells, o1, q1] using hg 1 f1 rfl
      have t2 : DataW.trod enc P W 0 (fun _ => true) true n f2.type [c2] = some y2 := by simpa [Value.cells, o2, q2] using hg 2 f2 rfl
      have t3 : DataW.trod enc P W 0 (fun _ => true) true n f3.type [c3] = some y3 := by simpa [Value.cells, o3, q3] using hg 3 f3 rfl
      have t4 : DataW.trod enc P W 0 (fun _ => true) true n f4.type [c4] = some y4 := by simpa [Value.cells, o4, q4] using hg 4 f4 rfl
      have t5 : DataW.trod enc P W 0 (fun _ => true) true n f5.type [c5] = some y5 := by simpa [Value.cells, o5, q5] using hg 5 f5 rfl
      obtain ⟨a, e0, _⟩ := DataW.trod_bool k0 t0
      obtain ⟨b, e1, _⟩ := DataW.trod_bool k1 t1
      obtain ⟨c, e2, _⟩ := DataW.trod_bool k2 t2
      obtain ⟨m, e3, _, w3⟩ := DataW.trod_int k3 t3
      obtain ⟨o, e4, _, w4⟩ := DataW.trod_int k4 t4
      obtain ⟨q, e5, _, w5⟩ := DataW.trod_int k5 t5
      injection e0 with e0
      injection e1 with e1
      injection e2 with e2
      injection e3 with e3
      injection e4 with e4
      injection e5 with e5
      subst e0 e1 e2 e3 e4 e5
      exact ⟨a, b, c, m, o, q, rfl, wf_i64 w3, wf_i64 w4, wf_i64 w5⟩
/-- An alarm, by value. -/
theorem alm_in {r : Reach} {b0 : Nat} {t : TypeId} {f0 f1 : Field} {v : Value} {d : DataW H} {p : List MemPlace}
    (hs : P.underlying t = some (.struct #[f0, f1])) (hone : oneCellFields P #[f0, f1] = true) (hC : P.cellsOf t = 2)
    (k0 : P.underlying f0.type = some (.int .i64)) (k1 : P.underlying f1.type = some .bool)
    (hv : Value.okWide P W r b0 t v) (h : DataW.Trod enc P W 0 (fun _ => true) true t v d p) :
    ∃ (st : Int) (wt : Bool), v = .agg #[.int .i64 st, .bool wt] ∧ Alm.Ok ⟨st, wt⟩ := by
  obtain ⟨cells, rfl, hsz⟩ := okWide_struct hs hv
  obtain ⟨l⟩ := cells
  match l, hsz.trans hC with
  | [c0, c1], _ =>
    obtain ⟨fuel, hf⟩ := h
    obtain ⟨xs, n, _, hx, _, hlen, hg⟩ := DataW.trod_struct hs hf
    obtain ⟨o0, q0⟩ := hone_of hone 0 f0 rfl
    obtain ⟨o1, q1⟩ := hone_of hone 1 f1 rfl
    match xs, hlen with
    | [y0, y1], _ =>
      have t0 : DataW.trod enc P W 0 (fun _ => true) true n f0.type [c0] = some y0 := by simpa [Value.cells, o0, q0] using hg 0 f0 rfl
      have t1 : DataW.trod enc P W 0 (fun _ => true) true n f1.type [c1] = some y1 := by simpa [Value.cells, o1, q1] using hg 1 f1 rfl
      obtain ⟨m, e0, _, w3⟩ := DataW.trod_int k0 t0
      obtain ⟨b, e1, _⟩ := DataW.trod_bool k1 t1
      injection e0 with e0
      injection e1 with e1
      subst e0 e1
      exact ⟨m, b, rfl, wf_i64 w3⟩
end
end Go.Proofs.Ytlbblddpfijciaa
