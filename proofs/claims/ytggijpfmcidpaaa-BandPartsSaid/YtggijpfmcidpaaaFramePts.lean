/-
  From the reading of an argument to the words of the walks: bands, what is held, points, and lists of points that came in.
-/
import Derived.Test.YtggijpfmcidpaaaFrame
import Derived.Test.YtggijpfmcidpaaaBdMath
import Derived.Test.YtggijpfmcidpaaaFrameS
import Derived.Deep.Slices
import Derived.Deep.Fields
import Derived.ChangeSame
namespace Go.Proofs.Ytggijpfmcidpaaa
open Go.ChangeShapes Go.WideShapes Go.ChangeAt Go.RowKit Go.Deep
set_option linter.unusedVariables false

section
variable {H : Type} {enc : TypeId × Value → H} {P : Program} {W : World}
/-- A slice of structs of two integers. -/
theorem pts_in {t e : TypeId} {f0 f1 : Field} {a : Option Addr} {len cap : Nat} {d : DataW H} {p : List MemPlace} (ht : P.underlying t = some (.slice e)) (he : P.underlying e = some (.struct #[f0, f1])) (hone : oneCellFields P #[f0, f1] = true) (hC : P.cellsOf e = 2)
    (h0 : P.underlying f0.type = some (.int .i64)) (h1 : P.underlying f1.type = some (.int .i64))
    (h : DataW.Trod enc P W 0 (fun _ => true) true t (.slice a len cap) d p) (lt : ∀ x ∈ p, x.block < W.heap.size) :
    ∃ l : List Pt, Row .i64 W W.heap.size a (flP l) ∧ l.length = len ∧ len ≤ cap ∧ (cap = 0 ∨ ∃ el sp, d = .slice el sp ∧ cap ≤ el.length + sp.length) := by
  obtain ⟨fuel, hf⟩ := h
  rcases open_slice ht hf with ⟨hcs, _⟩ | ⟨x, l, c, m, n, D, Pl, hcs, _, hl, hm, hmm, hx, hi⟩
  · injection hcs with hcs
    injection hcs with e1 e2 e3
    subst e1 e2 e3
    exact ⟨[], Row.nil _ _ _ _, rfl, Nat.le_refl _, .inl rfl⟩
  · injection hcs with hcs
    injection hcs with e1 e2 e3
    subst e1 e2 e3
    have hm2 : m = cap := by simpa using hmm
    have hcap : cap = 0 ∨ ∃ el sp, d = .slice el sp ∧ cap ≤ el.length + sp.length := by
      right
      simp only [Prod.mk.injEq] at hx
      exact ⟨_, _, hx.1, by simp; omega⟩
    rcases Nat.eq_zero_or_pos len with hz | hpos
    · subst hz; exact ⟨[], Row.nil _ _ _ _, rfl, by omega, hcap⟩
    have cellj : ∀ i, i < m → ∀ j, j < 2 → ∃ z, W.cell? (x.add (i * 2 + j)) = some (.int .i64 z) ∧ (Lit.int .i64 z).wf = true := by
      intro i him j hj
      obtain ⟨cs', hc, ht'⟩ := hi i him
      rw [hC] at hc
      obtain ⟨ys, n', hn', hy, hlen, hyl, hf⟩ := DataW.trod_struct he ht'
      rw [hC] at hlen
      obtain ⟨_, hcl, hat⟩ := World.cells?_some hc
      have step : ∀ (q : Nat) (f : Field), (#[f0, f1] : Array Field)[q]? = some f → P.underlying f.type = some (.int .i64) → q < 2 → ∃ z, W.cell? (x.add (i * 2 + q)) = some (.int .i64 z) ∧ (Lit.int .i64 z).wf = true := by
        intro q f hq hu hq3
        obtain ⟨ho, hk⟩ := hone_of hone q f hq
        have h1 := hf q f hq
        rw [ho, hk] at h1
        have hone' : (cs'.drop q).take 1 = [cs'[q]'(by omega)] := by
          rw [List.drop_eq_getElem_cons (by omega)]; rfl
        have hys : ys[q]? = some (ys[q]'(by rw [hyl]; exact hq3)) := List.getElem?_eq_getElem _
        rw [hone', hys] at h1
        obtain ⟨z, hz, _, hw⟩ := DataW.trod_int hu h1
        injection hz with hz
        refine ⟨z, ?_, hw⟩
        rw [← Go.Deep.add_add, hat q hq3, List.getElem?_eq_getElem (by omega), hz]
      rcases (show j = 0 ∨ j = 1 by omega) with rfl | rfl
      · exact step 0 f0 rfl h0 (by omega)
      · exact step 1 f1 rfl h1 (by omega)
    have hall : ∀ i, ∃ z, i < 2 * len → W.cell? (x.add i) = some (.int .i64 z) ∧ (Lit.int .i64 z).wf = true := by
      intro i
      by_cases h3 : i < 2 * len
      · obtain ⟨z, hz⟩ := cellj (i / 2) (by omega) (i % 2) (by omega)
        rw [show i / 2 * 2 + i % 2 = i by omega] at hz
        exact ⟨z, fun _ => hz⟩
      · exact ⟨0, fun h => absurd h h3⟩
    obtain ⟨Z, hZ⟩ := Classical.axiomOfChoice hall
    obtain ⟨b, off, spot⟩ := x
    have c0 := (hZ 0 (by omega)).1
    have hspot : spot = none := by simpa [Addr.add] using World.cell?_spot c0
    subst hspot
    simp only [Prod.mk.injEq] at hx
    have hb : b < W.heap.size := by
      have := lt (.cell b off) (by
        rw [hx.2]
        refine List.mem_append.2 (.inl (MemPlace.mem_row.2 ⟨0, ?_, by simp⟩))
        rw [hC]; omega)
      exact this
    obtain ⟨l, hfl, hll⟩ := flP_of len ((List.range (2 * len)).map Z) (by simp)
    refine ⟨l, ?_, hll, by omega, hcap⟩
    rw [hfl]
    refine ⟨fun v hv => ?_, fun _ => ⟨b, off, rfl, hb, fun i hi' => ?_⟩⟩
    · obtain ⟨i, hi', rfl⟩ := List.mem_map.1 hv
      exact (hZ i (List.mem_range.1 hi')).2
    · have hi2 : i < 2 * len := by simpa using hi'
      rw [← Go.WideShapes.add_plain, (hZ i hi2).1, nth_eq _ _ hi']
      simp
theorem reach_pts {ts : List TypeId} {ds : List (DataW H)} (hsz : (DataW.weightsEach P ts ds).all (· ≤ reachBytes) = true) (j : Nat) {t e : TypeId} {d : DataW H} {cap : Nat} (ht : ts[j]? = some t) (hd : ds[j]? = some d)
    (hu : P.underlying t = some (.slice e)) (hb : P.bytesOf e = 16) (h : cap = 0 ∨ ∃ el sp, d = .slice el sp ∧ cap ≤ el.length + sp.length) : cap * 16 ≤ 140737488351232 := by
  rcases h with rfl | ⟨el, sp, rfl, hle⟩
  · omega
  · have := sized_slice hsz ht hd hu
    rw [hb] at this
    simp only [reachBytes] at this
    omega
/-- A struct of two integers that came in by value. -/
theorem two_in {r : Reach} {b0 : Nat} {t : TypeId} {f0 f1 : Field} {v : Value} {d : DataW H} {p : List MemPlace}
    (hs : P.underlying t = some (.struct #[f0, f1])) (hone : oneCellFields P #[f0, f1] = true) (hC : P.cellsOf t = 2)
    (k0 : P.underlying f0.type = some (.int .i64)) (k1 : P.underlying f1.type = some (.int .i64))
    (hv : Value.okWide P W r b0 t v) (h : DataW.Trod enc P W 0 (fun _ => true) true t v d p) :
    ∃ x y : Int, v = .agg #[.int .i64 x, .int .i64 y] ∧ Pt.Ok (x, y) := by
  obtain ⟨cells, rfl, hsz⟩ := okWide_struct hs hv
  obtain ⟨l⟩ := cells
  match l, hsz.trans hC with
  | [c0, c1], _ =>
    obtain ⟨fuel, hf⟩ := h
    obtain ⟨xs, n, _, hx, _, hlen, hg⟩ := DataW.trod_struct hs hf
    obtain ⟨o0, q0⟩ := hone_of hone 0 f0 rfl
    obtain ⟨o1, q1⟩ := hone_of hone 1 f1 rfl
    match xs, hlen with
    | [y0, y1], _ =>
      have t0 : DataW.trod enc P W 0 (fun _ => true) true n f0.type [c0] = some y0 := by simpa [Value.cells, o0, q0] using hg 0 f0 rfl
      have t1 : DataW.trod enc P W 0 (fun _ => true) true n f1.type [c1] = some y1 := by simpa [Value.cells, o1, q1] using hg 1 f1 rfl
      obtain ⟨m, e3, _, w3⟩ := DataW.trod_int k0 t0
      obtain ⟨o, e4, _, w4⟩ := DataW.trod_int k1 t1
      injection e3 with e3
      injection e4 with e4
      subst e3 e4
      exact ⟨m, o, rfl, wf_i64 w3, wf_i64 w4⟩
/-- What is held, by value. -/
theorem held_in {r : Reach} {b0 : Nat} {t : TypeId} {f0 f1 f2 : Field} {v : Value} {d : DataW H} {p : List MemPlace}
    (hs : P.underlying t = some (.struct #[f0, f1, f2])) (hone : oneCellFields P #[f0, f1, f2] = true) (hC : P.cellsOf t = 3)
    (k0 : P.underlying f0.type = some .bool) (k1 : P.underlying f1.type = some (.int .i64)) (k2 : P.underlying f2.type = some (.int .i64))
    (hv : Value.okWide P W r b0 t v) (h : DataW.Trod enc P W 0 (fun _ => true) true t v d p) :
    ∃ (b : Bool) (x y : Int), v = .agg #[.bool b, .int .i64 x, .int .i64 y] ∧ Pt.Ok (x, y) := by
  obtain ⟨cells, rfl, hsz⟩ := okWide_struct hs hv
  obtain ⟨l⟩ := cells
  match l, hsz.trans hC with
  | [c0, c1, c2], _ =>
    obtain ⟨fuel, hf⟩ := h
    obtain ⟨xs, n, _, hx, _, hlen, hg⟩ := DataW.trod_struct hs hf
    obtain ⟨o0, q0⟩ := hone_of hone 0 f0 rfl
    obtain ⟨o1, q1⟩ := hone_of hone 1 f1 rfl
    obtain ⟨o2, q2⟩ := hone_of hone 2 f2 rfl
    match xs, hlen with
    | [y0, y1, y2], _ =>
      have t0 : DataW.trod enc P W 0 (fun _ => true) true n f0.type [c0] = some y0 := by simpa [Value.cells, o0, q0] using hg 0 f0 rfl
      have t1 : DataW.trod enc P W 0 (fun _ => true) true n f1.type [c1] = some y1 := by simpa [Value.cells, o1, q1] using hg 1 f1 rfl
      have t2 : DataW.trod enc P W 0 (fun _ => true) true n f2.type [c2] = some y2 := by simpa [Value.cells, o2, q2] using hg 2 f2 rfl
      obtain ⟨a, e0, _⟩ := DataW.trod_bool k0 t0
      obtain ⟨m, e3, _, w3⟩ := DataW.trod_int k1 t1
      obtain ⟨o, e4, _, w4⟩ := DataW.trod_int k2 t2
      injection e0 with e0
      injection e3 with e3
      injection e4 with e4
      subst e0 e3 e4
      exact ⟨a, m, o, rfl, wf_i64 w3, wf_i64 w4⟩
end
end Go.Proofs.Ytggijpfmcidpaaa
