/-
  From the reading of an argument to the words of the walks: a request that came in.
-/
import Derived.Test.YtojjcmkadmofdaaFrame
import Derived.Test.YtojjcmkadmofdaaFrameL
import Derived.Test.YtojjcmkadmofdaaAskKit
import Derived.Deep.Slices
import Derived.Deep.Fields
import Derived.ChangeSame
namespace Go.Proofs.Ytojjcmkadmofdaa
open Go.ChangeShapes Go.WideShapes Go.ChangeAt Go.RowKit Go.Deep
set_option linter.unusedVariables false

section
variable {H : Type} {enc : TypeId × Value → H} {P : Program} {W : World}
theorem slice_form {t e : TypeId} {fuel : Nat} {v : Value} {x : DataW H × List MemPlace} (ht : P.underlying t = some (.slice e)) (h : DataW.trod enc P W 0 (fun _ => true) true fuel t [v] = some x) : ∃ a l c, v = .slice a l c := by
  rcases open_slice ht h with ⟨h0, _⟩ | ⟨a, len, cap, m, n, D, Pl, hcs, _⟩
  · injection h0 with h0; exact ⟨_, _, _, h0⟩
  · injection hcs with hcs; exact ⟨_, _, _, hcs⟩
/-- A slice of structs of three integers. -/
theorem parts_in {t e : TypeId} {f0 f1 f2 : Field} {a : Option Addr} {len cap fuel : Nat} {y : DataW H × List MemPlace} (ht : P.underlying t = some (.slice e)) (he : P.underlying e = some (.struct #[f0, f1, f2])) (hone : oneCellFields P #[f0, f1, f2] = true) (hC : P.cellsOf e = 3)
    (h0 : P.underlying f0.type = some (.int .i64)) (h1 : P.underlying f1.type = some (.int .i64)) (h2 : P.underlying f2.type = some (.int .i64))
    (h : DataW.trod enc P W 0 (fun _ => true) true fuel t [.slice a len cap] = some y) (lt : ∀ x ∈ y.2, x.block < W.heap.size) :
    ∃ fl, Row .i64 W W.heap.size a fl ∧ fl.length = 3 * len := by
  rcases open_slice ht h with ⟨hcs, _⟩ | ⟨x, l, c, m, n, D, Pl, hcs, _, hl, hm, hmm, hx, hi⟩
  · injection hcs with hcs
    injection hcs with e1 e2 e3
    subst e1 e2
    exact ⟨[], Row.nil _ _ _ _, rfl⟩
  · injection hcs with hcs
    injection hcs with e1 e2 e3
    subst e1 e2 e3
    have hm2 : m = cap := by simpa using hmm
    rcases Nat.eq_zero_or_pos len with hz | hpos
    · subst hz; exact ⟨[], Row.nil _ _ _ _, rfl⟩
    have cellj : ∀ i, i < m → ∀ j, j < 3 → ∃ z, W.cell? (x.add (i * 3 + j)) = some (.int .i64 z) ∧ (Lit.int .i64 z).wf = true := by
      intro i him j hj
      obtain ⟨cs', hc, ht'⟩ := hi i him
      rw [hC] at hc
      obtain ⟨ys, n', hn', hy, hlen, hyl, hf⟩ := DataW.trod_struct he ht'
      rw [hC] at hlen
      obtain ⟨_, hcl, hat⟩ := World.cells?_some hc
      have step : ∀ (q : Nat) (f : Field), (#[f0, f1, f2] : Array Field)[q]? = some f → P.underlying f.type = some (.int .i64) → q < 3 → ∃ z, W.cell? (x.add (i * 3 + q)) = some (.int .i64 z) ∧ (Lit.int .i64 z).wf = true := by
        intro q f hq hu hq3
        obtain ⟨ho, hk⟩ := hone_of hone q f hq
        have h1 := hf q f hq
        rw [ho, hk] at h1
        have hone' : (cs'.drop q).take 1 = [cs'[q]'(by omega)] := by
          rw [List.drop_eq_getElem_cons (by omega)]; rfl
        have hys : ys[q]? = some (ys[q]'(by rw [hyl]; exact hq3)) := List.getElem?_eq_getElem _
        rw [hone', hys] at h1
        obtain ⟨z, hz, _, hw⟩ := DataW.trod_int hu h1
        injection hz with hz
        refine ⟨z, ?_, hw⟩
        rw [← Go.Deep.add_add, hat q hq3, List.getElem?_eq_getElem (by omega), hz]
      rcases (show j = 0 ∨ j = 1 ∨ j = 2 by omega) with rfl | rfl | rfl
      · exact step 0 f0 rfl h0 (by omega)
      · exact step 1 f1 rfl h1 (by omega)
      · exact step 2 f2 rfl h2 (by omega)
    have hall : ∀ i, ∃ z, i < 3 * len → W.cell? (x.add i) = some (.int .i64 z) ∧ (Lit.int .i64 z).wf = true := by
      intro i
      by_cases h3 : i < 3 * len
      · obtain ⟨z, hz⟩ := cellj (i / 3) (by omega) (i % 3) (by omega)
        rw [show i / 3 * 3 + i % 3 = i by omega] at hz
        exact ⟨z, fun _ => hz⟩
      · exact ⟨0, fun h => absurd h h3⟩
    obtain ⟨Z, hZ⟩ := Classical.axiomOfChoice hall
    obtain ⟨b, off, spot⟩ := x
    have c0 := (hZ 0 (by omega)).1
    have hspot : spot = none := by simpa [Addr.add] using World.cell?_spot c0
    subst hspot
    have hb : b < W.heap.size := by
      have := lt (.cell b off) (by
        rw [hx]
        refine List.mem_append.2 (.inl (MemPlace.mem_row.2 ⟨0, ?_, by simp⟩))
        rw [hC]; omega)
      exact this
    refine ⟨(List.range (3 * len)).map Z, ⟨fun v hv => ?_, fun _ => ⟨b, off, rfl, hb, fun i hi' => ?_⟩⟩, by simp⟩
    · obtain ⟨i, hi', rfl⟩ := List.mem_map.1 hv
      exact (hZ i (List.mem_range.1 hi')).2
    · have hi2 : i < 3 * len := by simpa using hi'
      rw [← Go.WideShapes.add_plain, (hZ i hi2).1, nth_eq _ _ hi']
      simp

/-- A request that came in by value. -/
theorem ask_in {r : Reach} {b0 : Nat} {t : TypeId} {f0 f1 f2 f3 f4 f5 g0 g1 g2 : Field} {el ew ep : TypeId} {v : Value} {d : DataW H} {p : List MemPlace}
    (hs : P.underlying t = some (.struct #[f0, f1, f2, f3, f4, f5])) (hone : oneCellFields P #[f0, f1, f2, f3, f4, f5] = true) (hC : P.cellsOf t = 6)
    (k0 : P.underlying f0.type = some (.int .i64)) (k1 : P.underlying f1.type = some (.int .i64)) (k2 : P.underlying f2.type = some (.int .i64))
    (k3 : P.underlying f3.type = some (.slice el)) (l3 : P.underlying el = some .bool) (m3 : P.cellsOf el = 1)
    (k4 : P.underlying f4.type = some (.slice ew)) (l4 : P.underlying ew = some (.int .u16)) (m4 : P.cellsOf ew = 1)
    (k5 : P.underlying f5.type = some (.slice ep)) (l5 : P.underlying ep = some (.struct #[g0, g1, g2])) (o5 : oneCellFields P #[g0, g1, g2] = true) (m5 : P.cellsOf ep = 3)
    (n0 : P.underlying g0.type = some (.int .i64)) (n1 : P.underlying g1.type = some (.int .i64)) (n2 : P.underlying g2.type = some (.int .i64))
    (hv : Value.okWide P W r b0 t v) (h : DataW.Trod enc P W 0 (fun _ => true) true t v d p) (lt : ∀ x ∈ p, x.block < W.heap.size) :
    ∃ (q : Req) (Ao As Ap : Option Addr) (lo ls lp co cs cp : Nat), v = .agg #[.int .i64 q.c, .int .i64 q.a, .int .i64 q.n, .slice Ao lo co, .slice As ls cs, .slice Ap lp cp] ∧ Asked W W.heap.size q Ao As Ap lo ls lp ∧
      ((Lit.int .i64 q.c).wf = true ∧ (Lit.int .i64 q.a).wf = true ∧ (Lit.int .i64 q.n).wf = true) := by
  obtain ⟨cells, rfl, hsz⟩ := okWide_struct hs hv
  obtain ⟨l⟩ := cells
  match l, hsz.trans hC with
  | [c0, c1, c2, c3, c4, c5], _ =>
    obtain ⟨fuel, hf⟩ := h
    obtain ⟨xs, n, _, hx, _, hlen, hg⟩ := DataW.trod_struct hs hf
    obtain ⟨o0, q0⟩ := hone_of hone 0 f0 rfl
    obtain ⟨o1, q1⟩ := hone_of hone 1 f1 rfl
    obtain ⟨o2, q2⟩ := hone_of hone 2 f2 rfl
    obtain ⟨o3, q3⟩ := hone_of hone 3 f3 rfl
    obtain ⟨o4, q4⟩ := hone_of hone 4 f4 rfl
    obtain ⟨o5', q5⟩ := hone_of hone 5 f5 rfl
    match xs, hlen with
    | [y0, y1, y2, y3, y4, y5], _ =>
      simp only [Prod.mk.injEq] at hx
      have t0 : DataW.trod enc P W 0 (fun _ => true) true n f0.type [c0] = some y0 := by simpa [Value.cells, o0, q0] using hg 0 f0 rfl
      have t1 : DataW.trod enc P W 0 (fun _ => true) true n f1.type [c1] = some y1 := by simpa [Value.cells, o1, q1] using hg 1 f1 rfl
      have t2 : DataW.trod enc P W 0 (fun _ => true) true n f2.type [c2] = some y2 := by simpa [Value.cells, o2, q2] using hg 2 f2 rfl
      have t3 : DataW.trod enc P W 0 (fun _ => true) true n f3.type [c3] = some y3 := by simpa [Value.cells, o3, q3] using hg 3 f3 rfl
      have t4 : DataW.trod enc P W 0 (fun _ => true) true n f4.type [c4] = some y4 := by simpa [Value.cells, o4, q4] using hg 4 f4 rfl
      have t5 : DataW.trod enc P W 0 (fun _ => true) true n f5.type [c5] = some y5 := by simpa [Value.cells, o5', q5] using hg 5 f5 rfl
      have hp : p = y0.2 ++ (y1.2 ++ (y2.2 ++ (y3.2 ++ (y4.2 ++ y5.2)))) := by simpa using hx.2
      obtain ⟨a, e0, _, w0⟩ := DataW.trod_int k0 t0
      obtain ⟨b, e1, _, w1⟩ := DataW.trod_int k1 t1
      obtain ⟨c, e2, _, w2⟩ := DataW.trod_int k2 t2
      injection e0 with e0
      injection e1 with e1
      injection e2 with e2
      subst e0 e1 e2
      obtain ⟨Ao, lo, co, rfl⟩ := slice_form k3 t3
      obtain ⟨As, ls, cs, rfl⟩ := slice_form k4 t4
      obtain ⟨Ap, lp, cp, rfl⟩ := slice_form k5 t5
      obtain ⟨on, r3, hl3, _⟩ := L.row_in k3 l3 m3 (d := y3.1) (p := y3.2) ⟨n, t3⟩ (fun x hx => lt x (by rw [hp]; simp [hx]))
      obtain ⟨set, r4, hl4, _⟩ := row_in k4 l4 m4 (d := y4.1) (p := y4.2) ⟨n, t4⟩ (fun x hx => lt x (by rw [hp]; simp [hx]))
      obtain ⟨fl, r5, hl5⟩ := parts_in k5 l5 o5 m5 n0 n1 n2 t5 (fun x hx => lt x (by rw [hp]; simp [hx]))
      exact ⟨⟨a, b, c, on, set, fl⟩, Ao, As, Ap, lo, ls, lp, co, cs, cp, rfl, ⟨r3, r4, r5, hl3, hl4, hl5⟩, w0, w1, w2⟩
end
end Go.Proofs.Ytojjcmkadmofdaa
