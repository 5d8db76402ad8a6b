/-
  The statement AskReads of outstationlaw03 holds: for every input that can be read, the call returns true, and each argument reads as it did. No condition of its own.
-/
import Derived.Test.YtfdikjfbmfibjaaJAskReadsE
import Derived.Test.YtfdikjfbmfibjaaJAskReadsD
import Derived.Test.YtfdikjfbmfibjaaRows
import Derived.Test.YtfdikjfbmfibjaaJAskReadsA
namespace Go.Proofs.Ytfdikjfbmfibjaa
open Go.RowKit
set_option linter.unusedVariables false

theorem getQ_len (ys : List Int) : (getQ ys).on.length ≤ 1968 ∧ (getQ ys).set.length ≤ 123 ∧ (getQ ys).fl.length / 3 ≤ 35 := by
  rw [getQ]
  by_cases h : getE ys = 0
  · rw [if_pos h]
    have := right_lengths (getE_zero h).2.2.2.2
    omega
  · rw [if_neg h]
    exact ⟨Nat.zero_le _, Nat.zero_le _, Nat.zero_le _⟩

abbrev askO (q : Req) (A1 A2 A3 : Option Addr) (m1 m2 m3 c1 c2 c3 : Nat) : Obj := .cells #[.int .i64 q.c, .int .i64 q.a, .int .i64 q.n, .slice A1 m1 c1, .slice A2 m2 c2, .slice A3 m3 c3] 26

set_option maxHeartbeats 1000000 in
set_option maxRecDepth 100000 in
theorem walk_AskReads (a0 : Option Addr) (l0 c0 : Nat) (x0 : List Int) (w : World) (w0 : Row .u8 w w.heap.size a0 x0) (n0 : x0.length = l0) (s0 : l0 ≤ c0) (m0 : c0 ≤ 140737488351232) :
    Calls Try.prog 9 #[.slice a0 l0 c0] w fun e w' => e = .returned (.bool true) ∧ Below w.heap.size w w' := by
  have HW := Lib.hid w0
  have HN := Lib.hid n0
  have hin := Lib.hid (heap_alloc_new w (.cells (blk .u8 (x0 ++ marks5)) 5))
  have bel0 := bel_alloc w (.cells (blk .u8 (x0 ++ marks5)) 5)
  have hz0 : (w.alloc (.cells (blk .u8 (x0 ++ marks5)) 5)).heap.size = w.heap.size + 1 := by simp
  have hwf := Lib.hid w0.1
  have HLN := Lib.hid (getQ_len x0)
  have HQW := Lib.hid (getQ_wf x0 w0.1)
  clear w0 n0
  go_enter Try.func9, Try.ntmps9
  go_wp2_with fail
  refine (lent_u8 a0 l0 c0 x0 _ HW.out HN.out (by omega)).mono ?_
  rintro e w1' ⟨rfl, rfl⟩
  generalize w.alloc (.cells (blk .u8 (x0 ++ marks5)) 5) = w1 at *
  have hrow := Row.of_block hin.out x0 hwf.out (List.prefix_append _ _)
  go_wp2_with fail
  refine (Get_any (some ⟨w.heap.size, 0, none⟩) l0 (l0 + 5) x0 _ (hrow.more (by omega)) HN.out (by omega) (by omega)).mono ?_
  rintro e w2 ⟨A1, A2, m1, m2, g1, g2, vp, rfl, li1, li2, own1, hl, hg, b2⟩
  obtain ⟨A3, n3, c3, rfl⟩ := own1.form
  have asked2 := Told.asked li1 li2 own1 hl HQW.out
  obtain ⟨q, hq⟩ : ∃ q, Hid (getQ x0 = q) := ⟨_, Lib.hid rfl⟩
  obtain ⟨E, hE⟩ : ∃ E, Hid (getE x0 = E) := ⟨_, Lib.hid rfl⟩
  rw [hq.out] at HLN asked2 li1 li2 own1 hl ⊢
  rw [hE.out]
  have hin2 := Lib.hid ((b2.block w.heap.size (by omega)).trans hin.out)
  have bel2 := bel0.trans (b2.mono (by omega))
  have hs2 := b2.size
  clear hrow hin b2 bel0
  -- the box of what was read
  have bx := Bx.new w2 (.cells #[.int .i64 q.c, .int .i64 q.a, .int .i64 q.n, .slice A1 m1 m1, .slice A2 m2 m2, .slice A3 n3 c3] 26)
  have b3 := bel_alloc w2 (.cells #[.int .i64 q.c, .int .i64 q.a, .int .i64 q.n, .slice A1 m1 m1, .slice A2 m2 m2, .slice A3 n3 c3] 26)
  have HG := Lib.hid (refGet_any a0 l0 c0 x0 (w2.alloc (.cells #[.int .i64 q.c, .int .i64 q.a, .int .i64 q.n, .slice A1 m1 m1, .slice A2 m2 m2, .slice A3 n3 c3] 26)) ((HW.out.below (bel2.trans (b3.mono bel2.size))).more (bel2.trans (b3.mono bel2.size)).size) HN.out s0 (by omega))
  rw [hq.out, hE.out] at HG
  have K1 := Lib.hid (li1.below b3)
  have K2 := Lib.hid (li2.below b3)
  have K3 := Lib.hid (own1.below b3 (Nat.le_refl _))
  have KA := Lib.hid (asked2.up b3)
  have KL := Lib.hid hl
  have KG := Lib.hid hg
  clear li1 li2 own1 asked2 hl hg
  go_wp2_with fail
  refine HG.out.mono ?_
  rintro e w3 ⟨B1, B2, B3, k1, k2, k3, d1, d2, d3, rfl, askd3, b4⟩
  have bx3 := bx.below b4
  have J1 := Lib.hid (K1.out.below b4)
  have J2 := Lib.hid (K2.out.below b4)
  have J3 := Lib.hid (K3.out.below b4 (Nat.le_refl _))
  have JA := Lib.hid (KA.out.up b4)
  have JB := Lib.hid askd3
  clear b4 b3 bx K1 K2 K3 KA askd3 HG
  -- the box of the document's
  have bx4 := Bx.new w3 (.cells #[.int .i64 q.c, .int .i64 q.a, .int .i64 q.n, .slice B1 k1 d1, .slice B2 k2 d2, .slice B3 k3 d3] 26)
  have b5 := bel_alloc w3 (.cells #[.int .i64 q.c, .int .i64 q.a, .int .i64 q.n, .slice B1 k1 d1, .slice B2 k2 d2, .slice B3 k3 d3] 26)
  have bx5 := bx3.below b5
  have I1 := Lib.hid (J1.out.below b5)
  have I2 := Lib.hid (J2.out.below b5)
  have I3 := Lib.hid (J3.out.below b5 (Nat.le_refl _))
  have IA := Lib.hid (JA.out.up b5)
  have IB := Lib.hid (JB.out.up b5)
  have tE : (E != E) = false := by simp
  obtain rfl : k1 = m1 := JB.out.lo.symm.trans JA.out.lo
  obtain rfl : k2 = m2 := JB.out.ls.symm.trans JA.out.ls
  obtain rfl : k3 = n3 := by have h1 := JB.out.lp; have h2 := JA.out.lp; omega
  clear J1 J2 J3 JA JB bx3 b5
  obtain ⟨f0, f1, f2, f3, f4, f5⟩ := bx5.six
  obtain ⟨e0, e1, e2, e3, e4, e5⟩ := bx4.six
  have hsz := bx5.lt
  go_wp2_with fail
  clear f0 f1 f2 f3 f4 f5 e0 e1 e2 e3 e4 e5
  refine (SameAsk_yes q A1 A2 A3 B1 B2 B3 k1 k2 k3 k1 k2 c3 d1 d2 d3 _ IA.out IB.out (by have := HLN.out; have := IA.out.lo; omega) (by have := HLN.out; have := IA.out.ls; omega) (by have := HLN.out; have := IA.out.lp; omega)).mono ?_
  rintro e w5 ⟨rfl, b6⟩
  have bx6 := bx5.below b6
  have P1 := Lib.hid (I1.out.below b6)
  have P2 := Lib.hid (I2.out.below b6)
  have P3 := Lib.hid (I3.out.below b6 (Nat.le_refl _))
  have PL := Lib.hid (show q.on.length = k1 ∧ q.set.length = k2 from ⟨IA.out.lo, IA.out.ls⟩)
  clear I1 I2 I3 IA IB b6 bx5 bx4
  obtain ⟨f0, f1, f2, f3, f4, f5⟩ := bx6.six
  have hsz6 := bx6.lt
  go_wp2_with fail
  clear f0 f1 f2 f3 f4 f5
  refine (SpoilAsk_any q.c q.a q.n A1 A2 k1 k2 g1 g2 (w.heap.size + 1) q.on q.set q.fl _ _ P1.out P2.out (P3.out.mono (by omega)) PL.out.1 PL.out.2 (by have := HLN.out; have := PL.out; omega) (by have := HLN.out; have := PL.out; omega) (by have := KG.out; omega) (by have := KG.out; omega) (by omega)).mono ?_
  rintro e w7 ⟨rfl, b7⟩
  have bel7 : Below w.heap.size w w7 := (bel2.trans (bx6.2.mono bel2.size)).trans (b7.mono (by omega))
  have hin7 := (b7.block w.heap.size (by omega)).trans ((bx6.2.block w.heap.size (by omega)).trans hin2.out)
  have HK := Lib.hid (kept_u8 a0 l0 c0 w.heap.size x0 w7 w.heap.size (HW.out.below bel7) HN.out (by omega) hin7)
  clear bx6 b7 P1 P2 P3 hin7
  go_wp2_with fail
  refine HK.out.mono ?_
  rintro e w8 ⟨rfl, m, rfl⟩
  go_wp2
  go_ret
  exact ⟨rfl, below_drewN bel7 m⟩
end Go.Proofs.Ytfdikjfbmfibjaa
namespace Go.Proofs.Ytfdikjfbmfibjaa.askReads
open Go.ChangeShapes Go.WideShapes Go.ChangeAt Go.RowKit
open Go.ChangeMaps (open_string shut_string)
set_option linter.unusedVariables false

theorem own : ownKnob Try.prog.godebug = none := by kernel_rfl
theorem laidOut : laidOutB Try.prog = true := by kernel_rfl

set_option maxRecDepth 100000 in
theorem lifted (os : Os) (started : os.Started) (H : Type) (enc : TypeId × Value → H) :
    ReturnsInHanded {} Try.checked os 9 .any (Rows.askReadsSpec.pre6 enc Try.prog Try.f9 Rows.askReadsRow.domain false) (Rows.askReadsSpec.post enc Try.prog Try.f9 false true false false) := by
  refine returnsInHanded_of_change_sized (C := Try.checked) own started (by kernel_rfl) Try.func9
    (ChangeSpec.witness6 (enc := enc) (C := Try.checked) false ⟨#[], #[.slice none 0 0], []⟩ 8 (by kernel_rfl) (by kernel_rfl) (by kernel_rfl) (by kernel_rfl)) ?_
  intro W base args ds gs before hval0 hW hcnd hsz0 _
  have hsz : (DataW.weightsEach Try.prog (Try.f9.params.toList ++ Rows.askReadsSpec.plain.varTypes Try.prog) (ds ++ gs)).all (· ≤ reachBytes) = true := hsz0
  clear hsz0
  have hval : ∀ (j : Nat) t v, Try.f9.params[j]? = some t → args[j]? = some v → Value.okWide Try.prog W .any base t v := hval0
  have hW' := hW
  obtain ⟨p, q, hA0, hV, rfl, hfz, hnd⟩ := hW
  have hA : DataW.TrodAll enc Try.prog W 0 (fun _ => true) true Try.f9.params.toList args.toList ds p := hA0
  rw [Try.params9] at hA hval hsz
  obtain ⟨v0, vs0, d0, ds0, p0, q0, hargs, rfl, rfl, h0, r0⟩ := trodAll_cons hA
  obtain ⟨rfl, rfl, rfl⟩ := trodAll_nil r0
  obtain rfl : args = #[v0] := by cases args; simp_all
  obtain ⟨rfl, rfl⟩ := trodVars_none hV
  obtain ⟨a0, l0, c0, rfl⟩ := okWide_slice Try.underlying36 (hval 0 36 v0 rfl rfl)
  have k0 := h0
  have lt0 : ∀ x ∈ p0, x.block < W.heap.size := by obtain ⟨m, hm⟩ := k0; exact DataW.trod_lt m _ _ _ hm
  obtain ⟨x0, w0, n0, s0, r0d⟩ := row_in Try.underlying36 Try.underlying5 (by kernel_rfl) h0 lt0
  have m0 := reach_in hsz 0 rfl rfl Try.underlying36 (of_decide_eq_true (by kernel_rfl)) r0d
  clear hA0 hval0
  refine (walk_AskReads a0 l0 c0 x0 W w0 n0 s0 m0).mono fun e W' ⟨he, bel⟩ => ?_
  subst he
  exact ⟨_, rfl, _, _, _, [], _, [], hW', trodAll_mk1 (shut_bool Try.underlying4 _), (trodAll_cons_mk (Below.trod laidOut (by kernel_rfl) (of_decide_eq_true (by kernel_rfl)) k0 bel lt0) trodAll_mk0), rfl, bel.frame _, fun h => by cases h⟩

theorem over : Rows.askReadsRow.holds Try.pinned (OpenSpec.ofChange Rows.askReadsSpec) :=
  OpenClaim.holds_of_wide 9 Try.f9 rfl rfl rfl rfl rfl rfl rfl ⟨rfl, rfl, rfl, rfl, rfl⟩ rfl rfl rfl rfl rfl (by kernel_rfl) Try.func9 (by kernel_rfl)
    (of_decide_eq_true (by kernel_rfl)) (by unfold Func.isWrapper; first | (rw [if_pos (by decide +kernel)]; kernel_rfl) | (rw [if_neg (by decide +kernel)]; exact ⟨rfl, rfl⟩))
    (fun os started H enc _ => lifted os started H enc)

theorem proved : Rows.AskReadsSaid := over
#print axioms proved
end Go.Proofs.Ytfdikjfbmfibjaa.askReads
