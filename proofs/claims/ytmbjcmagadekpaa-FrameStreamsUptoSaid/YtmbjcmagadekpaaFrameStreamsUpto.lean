/-
  The statement FrameStreams of outstationlaw05 holds in its narrowed form: for every input that can be read and whose bulk is at most 1048576, the call returns true, and each argument reads as it did.
-/
import Derived.Test.YtmbjcmagadekpaaRows
import Derived.Test.YtmbjcmagadekpaaFrameTcp
import Derived.Test.YtmbjcmagadekpaaFrameStreamsWalk
import Derived.JoinedCond
import Derived.Deep.CondSized
namespace Go.Proofs.Ytmbjcmagadekpaa.frameStreamsUpto
open Go.ChangeShapes Go.WideShapes Go.ChangeAt Go.RowKit
open Go.ChangeMaps (open_string shut_string)
set_option linter.unusedVariables false

theorem own : ownKnob Try.prog.godebug = none := by kernel_rfl
theorem laidOut : laidOutB Try.prog = true := by kernel_rfl

/-- What is read takes at least a place. -/
theorem bulk_one {H : Type} (d : DataW H) : 1 ≤ Rows.uptoBulk d := by
  cases d
  all_goals first
    | (simp [Rows.uptoBulk]; done)
    | (rename_i l; cases l <;> simp [Rows.uptoBulk])
theorem bulk_len {H : Type} (l : List (DataW H)) : l.length ≤ Rows.uptoBulkAll l := by
  induction l with
  | nil => exact Nat.zero_le _
  | cons d l ih =>
    have h := bulk_one d
    rw [List.length_cons, Rows.uptoBulkAll]
    omega
/-- So a slice that came in has no more places than the bound. -/
theorem few {H : Type} {d0 d1 : DataW H} {c : Nat} (hk : Rows.uptoSmall H ([d0, d1] ++ []) = true) (h : c = 0 ∨ ∃ el sp, d1 = .slice el sp ∧ c ≤ el.length + sp.length) : c ≤ 1048576 := by
  rcases h with rfl | ⟨el, sp, rfl, hc⟩
  · omega
  · have h : Rows.uptoBulkAll ([d0, .slice el sp] ++ []) ≤ 1048576 := of_decide_eq_true hk
    simp only [List.append_nil, Rows.uptoBulkAll, Rows.uptoBulk] at h
    have h1 := bulk_len el
    have h2 := bulk_len sp
    omega

set_option maxRecDepth 100000 in
theorem lifted (os : Os) (started : os.Started) (H : Type) (enc : TypeId × Value → H) :
    (F : Stop.Interp) → ReturnsInHanded {} Try.checked os 8 .any ((Rows.OpenSpec.upto Rows.frameStreamsSpec).pre6 enc Try.prog Try.f8 Rows.frameStreamsUptoRow.domain false) (((Rows.OpenSpec.upto Rows.frameStreamsSpec).at F).post enc Try.prog Try.f8 false true false false) := by
  intro F
  refine returnsInHanded_of_cond_sized (C := Try.checked) (s := Rows.OpenSpec.upto Rows.frameStreamsSpec) (k := Rows.uptoSmall) rfl own started (by kernel_rfl) Try.func8
    (OpenSpec.witness (enc := enc) (C := Try.checked) (s := Rows.OpenSpec.upto Rows.frameStreamsSpec) (k := Rows.uptoSmall) rfl false ⟨#[], #[.agg #[.int .u16 0, .int .u8 0, .slice none 0 0], .slice none 0 0], []⟩ 8 (by kernel_rfl) (by kernel_rfl) (by kernel_rfl)
      (x := ([.agg [.lit (.int .u16 0), .lit (.int .u8 0), .nil], .nil], [], [])) (by kernel_rfl) rfl (by kernel_rfl)) ?_
  intro W base args ds gs before hval0 hW hcnd hk hsz0 _
  have hsz : (DataW.weightsEach Try.prog (Try.f8.params.toList ++ Rows.frameStreamsSpec.plain.varTypes Try.prog) (ds ++ gs)).all (· ≤ reachBytes) = true := hsz0
  clear hsz0
  have hval : ∀ (j : Nat) t v, Try.f8.params[j]? = some t → args[j]? = some v → Value.okWide Try.prog W .any base t v := hval0
  have hW' := hW
  obtain ⟨p, q, hA0, hV, rfl, hfz, hnd⟩ := hW
  have hA : DataW.TrodAll enc Try.prog W 0 (fun _ => true) true Try.f8.params.toList args.toList ds p := hA0
  rw [Try.params8] at hA hval hsz
  obtain ⟨v0, vs0, d0, ds0, p0, q0, hargs, rfl, rfl, h0, r0⟩ := trodAll_cons hA
  obtain ⟨v1, vs1, d1, ds1, p1, q1, rfl, rfl, rfl, h1, r1⟩ := trodAll_cons r0
  obtain ⟨rfl, rfl, rfl⟩ := trodAll_nil r1
  obtain rfl : args = #[v0, v1] := by cases args; simp_all
  obtain ⟨rfl, rfl⟩ := trodVars_none hV
  have k0 := h0
  have lt0 : ∀ x ∈ p0, x.block < W.heap.size := by obtain ⟨m, hm⟩ := k0; exact DataW.trod_lt m _ _ _ hm
  obtain ⟨id0, u0, x0, a0, l0, c0, e0, f0, g0, rfl, rfl, w0, n0, s0, r0d, wi0, wu0⟩ := tcp_in Try.underlying57 (by kernel_rfl) (by kernel_rfl) Try.underlying55 Try.underlying5 Try.underlying34 Try.underlying5 (by kernel_rfl) (hval 0 57 v0 rfl rfl) h0 lt0
  have m0 := reach_in (reach_fields hsz 0 rfl rfl Try.underlying57) 2 rfl rfl Try.underlying34 (of_decide_eq_true (by kernel_rfl)) r0d
  obtain ⟨a1, l1, c1, rfl⟩ := okWide_slice Try.underlying34 (hval 1 34 v1 rfl rfl)
  have k1 := h1
  have lt1 : ∀ x ∈ p1, x.block < W.heap.size := by obtain ⟨m, hm⟩ := k1; exact DataW.trod_lt m _ _ _ hm
  obtain ⟨x1, w1, n1, s1, r1d⟩ := row_in Try.underlying34 Try.underlying5 (by kernel_rfl) h1 lt1
  have m1 := reach_in hsz 1 rfl rfl Try.underlying34 (of_decide_eq_true (by kernel_rfl)) r1d
  have hfew := few hk r1d
  clear hA0 hval0
  refine (walk_FrameStreams id0 u0 x0 a0 l0 c0 a1 l1 c1 x1 W w0 n0 s0 m0 wi0 wu0 w1 n1 s1 m1 (by omega)).mono fun e W' ⟨he, bel⟩ => ?_
  subst he
  exact ⟨_, rfl, _, _, _, [], _, [], hW', trodAll_mk1 (shut_bool Try.underlying4 _), (trodAll_cons_mk (Below.trod laidOut (by kernel_rfl) (of_decide_eq_true (by kernel_rfl)) k0 bel lt0) (trodAll_cons_mk (Below.trod laidOut (by kernel_rfl) (of_decide_eq_true (by kernel_rfl)) k1 bel lt1) trodAll_mk0)), rfl, bel.frame _, fun h => by cases h⟩

theorem over : Rows.frameStreamsUptoRow.holds Try.pinned (Rows.OpenSpec.upto Rows.frameStreamsSpec) :=
  OpenClaim.holds_of_cond 8 Try.f8 rfl rfl rfl rfl rfl rfl rfl ⟨rfl, rfl, rfl, rfl, rfl⟩ rfl rfl rfl rfl rfl (by kernel_rfl) Try.func8 (by kernel_rfl)
    (of_decide_eq_true (by kernel_rfl)) (by unfold Func.isWrapper; first | (rw [if_pos (by decide +kernel)]; kernel_rfl) | (rw [if_neg (by decide +kernel)]; exact ⟨rfl, rfl⟩))
    (fun os started H enc _ F => lifted os started H enc F)

theorem proved : Rows.FrameStreamsUptoSaid := over
#print axioms proved
end Go.Proofs.Ytmbjcmagadekpaa.frameStreamsUpto
