/-
  From the reading of an argument to the words of the walks: a frame on a stream, and which bits of a frame on a line are turned.
-/
import Derived.Test.YtmbjcmagadekpaaFrameS
namespace Go.Proofs.Ytmbjcmagadekpaa
open Go.ChangeShapes Go.WideShapes Go.ChangeAt Go.RowKit Go.Deep
set_option linter.unusedVariables false

section
variable {H : Type} {enc : TypeId × Value → H} {P : Program} {W : World}
/-- A frame on a stream that came in by value. -/
theorem tcp_in {r : Reach} {b0 : Nat} {t : TypeId} {f0 f1 f2 : Field} {el : TypeId} {v : Value} {d : DataW H} {p : List MemPlace}
    (hs : P.underlying t = some (.struct #[f0, f1, f2])) (hone : oneCellFields P #[f0, f1, f2] = true) (hC : P.cellsOf t = 3)
    (k0 : P.underlying f0.type = some (.int .u16)) (k1 : P.underlying f1.type = some (.int .u8))
    (k2 : P.underlying f2.type = some (.slice el)) (l2 : P.underlying el = some (.int .u8)) (m2 : P.cellsOf el = 1)
    (hv : Value.okWide P W r b0 t v) (h : DataW.Trod enc P W 0 (fun _ => true) true t v d p) (lt : ∀ x ∈ p, x.block < W.heap.size) :
    ∃ (id u : Int) (l : List Int) (A : Option Addr) (n c : Nat) (d0 d1 d2 : DataW H), v = .agg #[.int .u16 id, .int .u8 u, .slice A n c] ∧ d = .agg [d0, d1, d2] ∧ Row .u8 W W.heap.size A l ∧ l.length = n ∧ n ≤ c ∧ (c = 0 ∨ ∃ x y, d2 = .slice x y ∧ c ≤ x.length + y.length) ∧ (Lit.int .u16 id).wf = true ∧ (Lit.int .u8 u).wf = true := by
  obtain ⟨cells, rfl, hsz⟩ := okWide_struct hs hv
  obtain ⟨l⟩ := cells
  match l, hsz.trans hC with
  | [c0, c1, c2], _ =>
    obtain ⟨fuel, hf⟩ := h
    obtain ⟨xs, n, _, hx, _, hlen, hg⟩ := DataW.trod_struct hs hf
    obtain ⟨o0, q0⟩ := hone_of hone 0 f0 rfl
    obtain ⟨o1, q1⟩ := hone_of hone 1 f1 rfl
    obtain ⟨o2, q2⟩ := hone_of hone 2 f2 rfl
    match xs, hlen with
    | [y0, y1, y2], _ =>
      simp only [Prod.mk.injEq] at hx
      have t0 : DataW.trod enc P W 0 (fun _ => true) true n f0.type [c0] = some y0 := by simpa [Value.cells, o0, q0] using hg 0 f0 rfl
      have t1 : DataW.trod enc P W 0 (fun _ => true) true n f1.type [c1] = some y1 := by simpa [Value.cells, o1, q1] using hg 1 f1 rfl
      have t2 : DataW.trod enc P W 0 (fun _ => true) true n f2.type [c2] = some y2 := by simpa [Value.cells, o2, q2] using hg 2 f2 rfl
      have hp : p = y0.2 ++ (y1.2 ++ y2.2) := by simpa using hx.2
      have hd : d = .agg [y0.1, y1.1, y2.1] := by simpa using hx.1
      obtain ⟨a, e0, _, w0⟩ := DataW.trod_int k0 t0
      injection e0 with e0
      subst e0
      obtain ⟨u, e1, _, w1⟩ := DataW.trod_int k1 t1
      injection e1 with e1
      subst e1
      obtain ⟨A, m, c, rfl⟩ := slice_form k2 t2
      obtain ⟨l, r2, hl2, hle, hcap⟩ := row_in k2 l2 m2 (d := y2.1) (p := y2.2) ⟨n, t2⟩ (fun x hx => lt x (by rw [hp]; simp [hx]))
      exact ⟨a, u, l, A, m, c, y0.1, y1.1, y2.1, rfl, hd, r2, hl2, hle, hcap, w0, w1⟩
/-- A unit, a PDU and a mask that came in by value. -/
theorem turn_in {r : Reach} {b0 : Nat} {t : TypeId} {f0 f1 f2 f3 : Field} {el : TypeId} {v : Value} {d : DataW H} {p : List MemPlace}
    (hs : P.underlying t = some (.struct #[f0, f1, f2, f3])) (hone : oneCellFields P #[f0, f1, f2, f3] = true) (hC : P.cellsOf t = 4)
    (k0 : P.underlying f0.type = some (.int .u8)) (k1 : P.underlying f1.type = some (.slice el)) (l1 : P.underlying el = some (.int .u8)) (m1 : P.cellsOf el = 1)
    (k2 : P.underlying f2.type = some (.int .i64)) (k3 : P.underlying f3.type = some (.int .u16))
    (hv : Value.okWide P W r b0 t v) (h : DataW.Trod enc P W 0 (fun _ => true) true t v d p) (lt : ∀ x ∈ p, x.block < W.heap.size) :
    ∃ (u : Int) (l : List Int) (A : Option Addr) (n c : Nat) (at_ mask : Int) (d0 d1 d2 d3 : DataW H), v = .agg #[.int .u8 u, .slice A n c, .int .i64 at_, .int .u16 mask] ∧ d = .agg [d0, d1, d2, d3] ∧ Row .u8 W W.heap.size A l ∧ l.length = n ∧ n ≤ c ∧ (c = 0 ∨ ∃ x y, d1 = .slice x y ∧ c ≤ x.length + y.length) ∧ (Lit.int .u8 u).wf = true ∧ (Lit.int .i64 at_).wf = true ∧ (Lit.int .u16 mask).wf = true := by
  obtain ⟨cells, rfl, hsz⟩ := okWide_struct hs hv
  obtain ⟨l⟩ := cells
  match l, hsz.trans hC with
  | [c0, c1, c2, c3], _ =>
    obtain ⟨fuel, hf⟩ := h
    obtain ⟨xs, n, _, hx, _, hlen, hg⟩ := DataW.trod_struct hs hf
    obtain ⟨o0, q0⟩ := hone_of hone 0 f0 rfl
    obtain ⟨o1, q1⟩ := hone_of hone 1 f1 rfl
    obtain ⟨o2, q2⟩ := hone_of hone 2 f2 rfl
    obtain ⟨o3, q3⟩ := hone_of hone 3 f3 rfl
    match xs, hlen with
    | [y0, y1, y2, y3], _ =>
      simp only [Prod.mk.injEq] at hx
      have t0 : DataW.trod enc P W 0 (fun _ => true) true n f0.type [c0] = some y0 := by simpa [Value.cells, o0, q0] using hg 0 f0 rfl
      have t1 : DataW.trod enc P W 0 (fun _ => true) true n f1.type [c1] = some y1 := by simpa [Value.cells, o1, q1] using hg 1 f1 rfl
      have t2 : DataW.trod enc P W 0 (fun _ => true) true n f2.type [c2] = some y2 := by simpa [Value.cells, o2, q2] using hg 2 f2 rfl
      have t3 : DataW.trod enc P W 0 (fun _ => true) true n f3.type [c3] = some y3 := by simpa [Value.cells, o3, q3] using hg 3 f3 rfl
      have hp : p = y0.2 ++ (y1.2 ++ (y2.2 ++ y3.2)) := by simpa using hx.2
      have hd : d = .agg [y0.1, y1.1, y2.1, y3.1] := by simpa using hx.1
      obtain ⟨u, e0, _, w0⟩ := DataW.trod_int k0 t0
      injection e0 with e0
      subst e0
      obtain ⟨A, m, c, rfl⟩ := slice_form k1 t1
      obtain ⟨l, r1, hl1, hle, hcap⟩ := row_in k1 l1 m1 (d := y1.1) (p := y1.2) ⟨n, t1⟩ (fun x hx => lt x (by rw [hp]; simp [hx]))
      obtain ⟨a, e2, _, w2⟩ := DataW.trod_int k2 t2
      injection e2 with e2
      subst e2
      obtain ⟨b, e3, _, w3⟩ := DataW.trod_int k3 t3
      injection e3 with e3
      subst e3
      exact ⟨u, l, A, m, c, a, b, y0.1, y1.1, y2.1, y3.1, rfl, hd, r1, hl1, hle, hcap, w0, w2, w3⟩
end
end Go.Proofs.Ytmbjcmagadekpaa
