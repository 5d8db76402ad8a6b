/-
  From the reading of an argument to the words of the walks: tags, and lists of tags that came in.
-/
import Derived.Test.YtmakegbkgiajdaaFrame
import Derived.Test.YtmakegbkgiajdaaFrameS
import Derived.Test.YtmakegbkgiajdaaTgMath
import Derived.Deep.Slices
import Derived.Deep.Fields
import Derived.ChangeSame
namespace Go.Proofs.Ytmakegbkgiajdaa
open Go.ChangeShapes Go.WideShapes Go.ChangeAt Go.RowKit Go.Deep
set_option linter.unusedVariables false

section
variable {H : Type} {enc : TypeId × Value → H} {W : World}

set_option maxHeartbeats 1000000 in
/-- The cells of a tag that can be read are a tag's. -/
theorem tag_cells {base : Nat} {spare : Nat → Bool} {held : Bool} {fuel : Nat} {cs : List Value} {x : DataW H × List MemPlace} (h : DataW.trod enc Try.prog W base spare held fuel 29 cs = some x) (hl : cs.length = 19) :
    ∃ t : Tg, cs = tgC t ∧ Tg.Ok t := by
  match cs, hl with
  | [c0, c1, c2, c3, c4, c5, c6, c7, c8, c9, c10, c11, c12, c13, c14, c15, c16, c17, c18], _ =>
  obtain ⟨ys, n, _, _, _, hyl, hf⟩ := DataW.trod_struct Try.underlying29 h
  have s1 : Try.prog.cellsOf 9 = 1 := by kernel_rfl
  have s2 : Try.prog.cellsOf 3 = 1 := by kernel_rfl
  have s3 : Try.prog.cellsOf 23 = 6 := by kernel_rfl
  have s4 : Try.prog.cellsOf 25 = 2 := by kernel_rfl
  have s5 : Try.prog.cellsOf 27 = 6 := by kernel_rfl
  have s6 : Try.prog.cellsOf 4 = 1 := by kernel_rfl
  match ys, hyl with
  | [y0, y1, y2, y3, y4, y5, y6, y7], _ =>
  have t0 : DataW.trod enc Try.prog W base spare held n 9 [c0] = some y0 := by simpa [s1, s2, s3, s4, s5] using hf 0 _ rfl
  have t1 : DataW.trod enc Try.prog W base spare held n 3 [c1] = some y1 := by simpa [s1, s2, s3, s4, s5] using hf 1 _ rfl
  have t2 : DataW.trod enc Try.prog W base spare held n 3 [c2] = some y2 := by simpa [s1, s2, s3, s4, s5] using hf 2 _ rfl
  have t3 : DataW.trod enc Try.prog W base spare held n 3 [c3] = some y3 := by simpa [s1, s2, s3, s4, s5] using hf 3 _ rfl
  have t4 : DataW.trod enc Try.prog W base spare held n 3 [c4] = some y4 := by simpa [s1, s2, s3, s4, s5] using hf 4 _ rfl
  have t5 : DataW.trod enc Try.prog W base spare held n 23 [c5, c6, c7, c8, c9, c10] = some y5 := by simpa [s1, s2, s3, s4, s5] using hf 5 _ rfl
  have t6 : DataW.trod enc Try.prog W base spare held n 25 [c11, c12] = some y6 := by simpa [s1, s2, s3, s4, s5] using hf 6 _ rfl
  have t7 : DataW.trod enc Try.prog W base spare held n 27 [c13, c14, c15, c16, c17, c18] = some y7 := by simpa [s1, s2, s3, s4, s5] using hf 7 _ rfl
  clear hf
  obtain ⟨zs5, n5, _, _, _, hz5, hg5⟩ := DataW.trod_struct Try.underlying23 t5
  match zs5, hz5 with
  | [z5_0, z5_1, z5_2, z5_3, z5_4, z5_5], _ =>
  have u5_0 : DataW.trod enc Try.prog W base spare held n5 4 [c5] = some z5_0 := by simpa [s2, s6] using hg5 0 _ rfl
  have u5_1 : DataW.trod enc Try.prog W base spare held n5 4 [c6] = some z5_1 := by simpa [s2, s6] using hg5 1 _ rfl
  have u5_2 : DataW.trod enc Try.prog W base spare held n5 4 [c7] = some z5_2 := by simpa [s2, s6] using hg5 2 _ rfl
  have u5_3 : DataW.trod enc Try.prog W base spare held n5 3 [c8] = some z5_3 := by simpa [s2, s6] using hg5 3 _ rfl
  have u5_4 : DataW.trod enc Try.prog W base spare held n5 3 [c9] = some z5_4 := by simpa [s2, s6] using hg5 4 _ rfl
  have u5_5 : DataW.trod enc Try.prog W base spare held n5 3 [c10] = some z5_5 := by simpa [s2, s6] using hg5 5 _ rfl
  obtain ⟨zs6, n6, _, _, _, hz6, hg6⟩ := DataW.trod_struct Try.underlying25 t6
  match zs6, hz6 with
  | [z6_0, z6_1], _ =>
  have u6_0 : DataW.trod enc Try.prog W base spare held n6 3 [c11] = some z6_0 := by simpa [s2, s6] using hg6 0 _ rfl
  have u6_1 : DataW.trod enc Try.prog W base spare held n6 3 [c12] = some z6_1 := by simpa [s2, s6] using hg6 1 _ rfl
  obtain ⟨zs7, n7, _, _, _, hz7, hg7⟩ := DataW.trod_struct Try.underlying27 t7
  match zs7, hz7 with
  | [z7_0, z7_1, z7_2, z7_3, z7_4, z7_5], _ =>
  have u7_0 : DataW.trod enc Try.prog W base spare held n7 4 [c13] = some z7_0 := by simpa [s2, s6] using hg7 0 _ rfl
  have u7_1 : DataW.trod enc Try.prog W base spare held n7 4 [c14] = some z7_1 := by simpa [s2, s6] using hg7 1 _ rfl
  have u7_2 : DataW.trod enc Try.prog W base spare held n7 4 [c15] = some z7_2 := by simpa [s2, s6] using hg7 2 _ rfl
  have u7_3 : DataW.trod enc Try.prog W base spare held n7 3 [c16] = some z7_3 := by simpa [s2, s6] using hg7 3 _ rfl
  have u7_4 : DataW.trod enc Try.prog W base spare held n7 3 [c17] = some z7_4 := by simpa [s2, s6] using hg7 4 _ rfl
  have u7_5 : DataW.trod enc Try.prog W base spare held n7 3 [c18] = some z7_5 := by simpa [s2, s6] using hg7 5 _ rfl
  obtain ⟨v0, e0, _, w0⟩ := DataW.trod_string Try.underlying9 t0
  injection e0 with e0
  subst e0
  obtain ⟨v1, e1, _, w1⟩ := DataW.trod_int Try.underlying3 t1
  injection e1 with e1
  subst e1
  obtain ⟨v2, e2, _, w2⟩ := DataW.trod_int Try.underlying3 t2
  injection e2 with e2
  subst e2
  obtain ⟨v3, e3, _, w3⟩ := DataW.trod_int Try.underlying3 t3
  injection e3 with e3
  subst e3
  obtain ⟨v4, e4, _, w4⟩ := DataW.trod_int Try.underlying3 t4
  injection e4 with e4
  subst e4
  obtain ⟨v5, e5, _⟩ := DataW.trod_bool Try.underlying4 u5_0
  injection e5 with e5
  subst e5
  obtain ⟨v6, e6, _⟩ := DataW.trod_bool Try.underlying4 u5_1
  injection e6 with e6
  subst e6
  obtain ⟨v7, e7, _⟩ := DataW.trod_bool Try.underlying4 u5_2
  injection e7 with e7
  subst e7
  obtain ⟨v8, e8, _, w8⟩ := DataW.trod_int Try.underlying3 u5_3
  injection e8 with e8
  subst e8
  obtain ⟨v9, e9, _, w9⟩ := DataW.trod_int Try.underlying3 u5_4
  injection e9 with e9
  subst e9
  obtain ⟨v10, e10, _, w10⟩ := DataW.trod_int Try.underlying3 u5_5
  injection e10 with e10
  subst e10
  obtain ⟨v11, e11, _, w11⟩ := DataW.trod_int Try.underlying3 u6_0
  injection e11 with e11
  subst e11
  obtain ⟨v12, e12, _, w12⟩ := DataW.trod_int Try.underlying3 u6_1
  injection e12 with e12
  subst e12
  obtain ⟨v13, e13, _⟩ := DataW.trod_bool Try.underlying4 u7_0
  injection e13 with e13
  subst e13
  obtain ⟨v14, e14, _⟩ := DataW.trod_bool Try.underlying4 u7_1
  injection e14 with e14
  subst e14
  obtain ⟨v15, e15, _⟩ := DataW.trod_bool Try.underlying4 u7_2
  injection e15 with e15
  subst e15
  obtain ⟨v16, e16, _, w16⟩ := DataW.trod_int Try.underlying3 u7_3
  injection e16 with e16
  subst e16
  obtain ⟨v17, e17, _, w17⟩ := DataW.trod_int Try.underlying3 u7_4
  injection e17 with e17
  subst e17
  obtain ⟨v18, e18, _, w18⟩ := DataW.trod_int Try.underlying3 u7_5
  injection e18 with e18
  subst e18
  exact ⟨⟨v0, v1, v2, v3, v4, v5, v6, v7, v8, v9, v10, v11, v12, v13, v14, v15, v16, v17, v18⟩, rfl, w0, ⟨wf_i64 w1, wf_i64 w2, wf_i64 w3, wf_i64 w4⟩, ⟨wf_i64 w8, wf_i64 w9, wf_i64 w10⟩, ⟨wf_i64 w11, wf_i64 w12⟩, wf_i64 w16, wf_i64 w17, wf_i64 w18⟩
/-- A tag, by value. -/
theorem tag_in {r : Reach} {b0 : Nat} {v : Value} {d : DataW H} {p : List MemPlace}
    (hv : Value.okWide Try.prog W r b0 29 v) (h : DataW.Trod enc Try.prog W 0 (fun _ => true) true 29 v d p) : ∃ t : Tg, v = tgV t ∧ Tg.Ok t := by
  obtain ⟨cells, rfl, hsz⟩ := okWide_struct Try.underlying29 hv
  have s0 : Try.prog.cellsOf 29 = 19 := by kernel_rfl
  obtain ⟨l⟩ := cells
  obtain ⟨fuel, hf⟩ := h
  obtain ⟨t, e, ok⟩ := tag_cells hf (hsz.trans s0)
  exact ⟨t, by rw [show l = tgC t from e]; rfl, ok⟩
/-- A list of tags. -/
theorem tags_in {a : Option Addr} {len cap : Nat} {d : DataW H} {p : List MemPlace}
    (h : DataW.Trod enc Try.prog W 0 (fun _ => true) true 35 (.slice a len cap) d p) (lt : ∀ x ∈ p, x.block < W.heap.size) :
    ∃ l : List Tg, VRow W W.heap.size a (flatV tgC l) ∧ l.length = len ∧ (∀ t ∈ l, Tg.Ok t) ∧ len ≤ cap ∧ (cap = 0 ∨ ∃ el sp, d = .slice el sp ∧ cap ≤ el.length + sp.length) := by
  have s0 : Try.prog.cellsOf 29 = 19 := by kernel_rfl
  obtain ⟨fuel, hf⟩ := h
  rcases open_slice Try.underlying35 hf with ⟨hcs, _⟩ | ⟨x, l, c, m, n, D, Pl, hcs, _, hl, hm, hmm, hx, hi⟩
  · injection hcs with hcs
    injection hcs with e1 e2 e3
    subst e1 e2 e3
    exact ⟨[], VRow.nil _ _ _, rfl, fun _ h => absurd h (by simp), Nat.le_refl _, .inl rfl⟩
  · injection hcs with hcs
    injection hcs with e1 e2 e3
    subst e1 e2 e3
    have hm2 : m = cap := by simpa using hmm
    have hcap : cap = 0 ∨ ∃ el sp, d = .slice el sp ∧ cap ≤ el.length + sp.length := by
      right
      simp only [Prod.mk.injEq] at hx
      exact ⟨_, _, hx.1, by simp; omega⟩
    rcases Nat.eq_zero_or_pos len with hz | hpos
    · subst hz; exact ⟨[], VRow.nil _ _ _, rfl, fun _ h => absurd h (by simp), by omega, hcap⟩
    have tagi : ∀ i, ∃ t : Tg, i < m → (∀ j v, (tgC t)[j]? = some v → W.cell? (x.add (i * 19 + j)) = some v) ∧ Tg.Ok t := by
      intro i
      by_cases him : i < m
      · obtain ⟨cs', hc, ht'⟩ := hi i him
        rw [s0] at hc
        obtain ⟨_, hcl, hat⟩ := World.cells?_some hc
        obtain ⟨t, e, ok⟩ := tag_cells ht' hcl
        refine ⟨t, fun _ => ⟨fun j v hv => ?_, ok⟩⟩
        have hj : j < 19 := by have := (List.getElem?_eq_some_iff.1 hv).1; rwa [tgC_len] at this
        rw [← Go.Deep.add_add, hat j hj, e, hv]
      · exact ⟨⟨⟨#[]⟩, 0, 0, 0, 0, false, false, false, 0, 0, 0, 0, 0, false, false, false, 0, 0, 0⟩, fun h => absurd h him⟩
    obtain ⟨T, hT⟩ := Classical.axiomOfChoice tagi
    obtain ⟨b, off, spot⟩ := x
    have c0 := (hT 0 (by omega)).1 0 _ rfl
    have hspot : spot = none := by simpa [Addr.add] using World.cell?_spot c0
    subst hspot
    simp only [Prod.mk.injEq] at hx
    have hb : b < W.heap.size := by
      have := lt (.cell b off) (by
        rw [hx.2]
        refine List.mem_append.2 (.inl (MemPlace.mem_row.2 ⟨0, ?_, by simp⟩))
        rw [s0]; omega)
      exact this
    refine ⟨(List.range len).map T, fun _ => ⟨b, off, rfl, hb, fun i v hv => ?_⟩, by simp, fun t ht => ?_, by omega, hcap⟩
    · have hil : i < ((List.range len).map T).length * 19 := by
        have := (List.getElem?_eq_some_iff.1 hv).1
        rwa [flatV_len tgC_len] at this
      have hlen : ((List.range len).map T).length = len := by simp
      have hi2 : i / 19 < ((List.range len).map T).length := by omega
      have hg := flatV_get tgC_len ((List.range len).map T) (i / 19) hi2 (i % 19) (Nat.mod_lt _ (by omega))
      rw [show i / 19 * 19 + i % 19 = i by omega, hv] at hg
      have hg2 : (tgC (T (i / 19)))[i % 19]? = some v := by rw [hg]; simp
      have := (hT (i / 19) (by omega)).1 (i % 19) v hg2
      rw [show i / 19 * 19 + i % 19 = i by omega] at this
      rw [← Go.WideShapes.add_plain]
      exact this
    · obtain ⟨i, hi', rfl⟩ := List.mem_map.1 ht
      exact (hT i (by have := List.mem_range.1 hi'; omega)).2
theorem reach_tags {ts : List TypeId} {ds : List (DataW H)} (hsz : (DataW.weightsEach Try.prog ts ds).all (· ≤ reachBytes) = true) (j : Nat) {d : DataW H} {cap : Nat} (ht : ts[j]? = some 35) (hd : ds[j]? = some d)
    (h : cap = 0 ∨ ∃ el sp, d = .slice el sp ∧ cap ≤ el.length + sp.length) : cap * 128 ≤ 140737488351232 := by
  rcases h with rfl | ⟨el, sp, rfl, hle⟩
  · omega
  · have := sized_slice hsz ht hd Try.underlying35
    rw [show Try.prog.bytesOf 29 = 128 by kernel_rfl] at this
    simp only [reachBytes] at this
    omega
end
end Go.Proofs.Ytmakegbkgiajdaa
