/-
  The walk of AskMoved.
-/
import Derived.Test.YtojjcmkadmofdaaAskKnown0
namespace Go.Proofs.Ytojjcmkadmofdaa
open Go.RowKit
set_option linter.unusedVariables false

def Req.moved (q : Req) (a : Int) : Req := ⟨q.c, a, q.n, q.on, q.set, q.fl⟩
/-- Of a right request of registers the count is the greatest of three. -/
theorem moved_many {q : Req} (hk : chkQ q = 0) (h20 : q.c ≠ 20) : many q.c q.n q.on.length q.set.length (q.fl.length / 3) = max (max q.n q.on.length) q.set.length := by
  obtain ⟨h1, h2, h3, h4, h5, h6⟩ := chk_zero hk
  obtain ⟨c, a, n, on, set, fl⟩ := q
  simp only at *
  rcases mm_pos h1 with rfl | rfl | rfl | rfl | rfl | rfl | rfl | rfl | rfl
  all_goals first | exact absurd rfl h20 | (simp [stray] at h2; simp [many, mm] at h4 ⊢; obtain ⟨⟨h7, h8⟩, h9⟩ := h2; simp [h7, h8] <;> omega)
theorem moved_chk {q : Req} (hk : chkQ q = 0) (h20 : q.c ≠ 20) (to : Int) :
    chkQ (q.moved to) = if to < 0 ∨ 65536 - many q.c q.n q.on.length q.set.length (q.fl.length / 3) < to then 21 else 0 := by
  obtain ⟨h1, h2, h3, h4, h5, h6⟩ := chk_zero hk
  have h6 := h6 h20
  have hst : stray q.c to q.n q.on.length q.set.length (q.fl.length / 3) = false := by
    unfold stray at h2 ⊢
    rw [if_neg h20] at h2 ⊢
    exact h2
  show chk q.c to q.n q.on.length q.set.length (q.fl.length / 3) q.fl = _
  unfold chk
  rw [if_neg (by omega), if_neg (by rw [hst]; simp)]
  by_cases ha : to < 0 ∨ 65536 ≤ to
  · rw [if_pos ha, if_pos (by omega)]
  · rw [if_neg ha, if_neg (by omega), if_neg h20]
    split
    · rw [if_pos (by omega)]
    · rw [if_neg (by omega)]

theorem Own.view {k : IntKind} {e : TypeId} {w : World} {base : Nat} {v : Value} {xs : List Int} (h : Own k e w base v xs) (hw : ∀ x ∈ xs, (Lit.int k x).wf = true) : ∃ A n c, v = .slice A n c ∧ Row k w w.heap.size A xs ∧ xs.length = n := by
  obtain ⟨A, c, e, hr, _⟩ := h.row hw
  exact ⟨A, _, c, e, hr, rfl⟩
theorem L.Own.view {k : Unit} {e : TypeId} {w : World} {base : Nat} {v : Value} {xs : List Bool} (h : L.Own k e w base v xs) : ∃ A n c, v = .slice A n c ∧ L.Row k w w.heap.size A xs ∧ xs.length = n := by
  obtain ⟨A, c, e, hr, _⟩ := h.row (fun _ _ => rfl)
  exact ⟨A, _, c, e, hr, rfl⟩

set_option maxHeartbeats 1000000 in
set_option maxRecDepth 100000 in
theorem walk_AskMoved (q : Req) (Ao As Ap : Option Addr) (lo ls lp co cs cp : Nat) (to : Int) (w : World) (h : Asked w w.heap.size q Ao As Ap lo ls lp) (hi : (Lit.int .i64 q.c).wf = true ∧ (Lit.int .i64 q.a).wf = true ∧ (Lit.int .i64 q.n).wf = true) (wto : (Lit.int .i64 to).wf = true) :
    Calls Try.prog 8 #[.agg #[.int .i64 q.c, .int .i64 q.a, .int .i64 q.n, .slice Ao lo co, .slice As ls cs, .slice Ap lp cp], .int .i64 to] w fun e w' => e = .returned (.bool true) ∧ Below w.heap.size w w' := by
  have bx := Bx.new w (.cells #[.int .i64 q.c, .int .i64 q.a, .int .i64 q.n, .slice Ao lo co, .slice As ls cs, .slice Ap lp cp] 26)
  have H0 := Lib.hid h
  have H := Lib.hid (h.upAlloc (.cells #[.int .i64 q.c, .int .i64 q.a, .int .i64 q.n, .slice Ao lo co, .slice As ls cs, .slice Ap lp cp] 26))
  have hto := wf_i64 wto
  clear h wto hi
  by_cases hlong : 70000 < lo ∨ 70000 < ls ∨ 70000 < lp
  · have hlong' := Lib.hid hlong
    clear hlong
    go_enter Try.func8, Try.ntmps8
    go_wp2_with fail
    refine (LongAsk_yes q.c q.a q.n Ao As Ap lo co ls cs lp cp _ hlong'.out).mono ?_
    rintro e w1 ⟨rfl, b1⟩
    have bel1 := (bx.below b1).2
    go_wp2_with fail
    refine (known_yes _).mono ?_
    rintro e w2 ⟨rfl, b2⟩
    go_wp2
    go_ret
    exact ⟨rfl, bel1.trans (b2.mono bel1.size)⟩
  have hlo : lo ≤ 70000 := by omega
  have hls : ls ≤ 70000 := by omega
  have hlp : lp ≤ 70000 := by omega
  clear hlong
  by_cases h20 : q.c = 20
  · have t20 : (q.c == 20) = true := beq_iff_eq.2 h20
    clear h20
    go_enter Try.func8, Try.ntmps8
    go_wp2_with fail
    refine (LongAsk_no q.c q.a q.n Ao As Ap lo co ls cs lp cp _ hlo hls hlp).mono ?_
    rintro e w1 ⟨rfl, b1⟩
    have bx1 := bx.below b1
    obtain ⟨d0, d1, d2, d3, d4, d5⟩ := bx1.six
    have bel1 := bx1.2
    clear b1
    go_wp2_with fail
    refine (known_yes _).mono ?_
    rintro e w2 ⟨rfl, b2⟩
    go_wp2
    go_ret
    exact ⟨rfl, bel1.trans (b2.mono bel1.size)⟩
  have t20 : (q.c == 20) = false := beq_false_of_ne h20
  obtain ⟨E, hE⟩ : ∃ E, Hid (chkQ q = E) := ⟨_, Lib.hid rfl⟩
  by_cases hE0 : E = 0
  rotate_left
  · have t1 : (E != 0) = true := by simpa using hE0
    have t2 : (E == 0) = false := beq_false_of_ne hE0
    clear hE0 h20
    go_enter Try.func8, Try.ntmps8
    go_wp2_with fail
    refine (LongAsk_no q.c q.a q.n Ao As Ap lo co ls cs lp cp _ hlo hls hlp).mono ?_
    rintro e w1 ⟨rfl, b1⟩
    have bx1 := bx.below b1
    have H1 := Lib.hid (H.out.up b1)
    obtain ⟨d0, d1, d2, d3, d4, d5⟩ := bx1.six
    clear b1
    go_wp2_with fail
    have hc := Check_Q q Ao As Ap lo ls lp co cs cp w1 H1.out
    rw [hE.out] at hc
    refine hc.mono ?_
    rintro e w2 ⟨rfl, b2⟩
    have bel2 := (bx1.below b2).2
    clear hc b2
    go_wp2_with fail
    refine (known_yes _).mono ?_
    rintro e w3 ⟨rfl, b3⟩
    go_wp2
    go_ret
    exact ⟨rfl, bel2.trans (b3.mono bel2.size)⟩
  subst hE0
  have hmm := moved_many hE.out h20
  have hmb := (chk_zero hE.out).2.2.2.1
  have hmr := mm_range q.c
  obtain ⟨M, hM⟩ : ∃ M, Hid (many q.c q.n q.on.length q.set.length (q.fl.length / 3) = M) := ⟨_, Lib.hid rfl⟩
  have hMC := Lib.hid (moved_chk hE.out h20 to)
  rw [hM.out] at hmm hmb hMC
  rw [H0.out.lo, H0.out.ls] at hmm
  have hmax : ∀ (ts : Array TypeId) (t : TypeId) (W : World), (Builtin.max_ ts t #[.int .i64 q.n, .int .i64 (lo : Int), .int .i64 (ls : Int)]).run Try.prog W = .ok (.int .i64 M) W := by
    intro ts t W
    rw [run_max_int3]
    congr 2
    split <;> split <;> omega
  have hM1 : 1 ≤ M := hmb.1
  have hM2 : M ≤ 2000 := by omega
  have e1 : IntKind.i64.wrap (65536 - M) = 65536 - M := IntWalk.i64_in _ (by omega)
  clear hmm hmb hmr h20
  go_enter Try.func8, Try.ntmps8
  go_wp2_with fail
  refine (LongAsk_no q.c q.a q.n Ao As Ap lo co ls cs lp cp _ hlo hls hlp).mono ?_
  rintro e w1 ⟨rfl, b1⟩
  have bx1 := bx.below b1
  have H1 := Lib.hid (H.out.up b1)
  obtain ⟨d0, d1, d2, d3, d4, d5⟩ := bx1.six
  clear b1 bx H
  go_wp2_with fail
  clear d0 d1 d2 d3 d4 d5
  have hc := Check_Q q Ao As Ap lo ls lp co cs cp w1 H1.out
  rw [hE.out] at hc
  refine hc.mono ?_
  rintro e w2 ⟨rfl, b2⟩
  have bx2 := bx1.below b2
  have H2 := Lib.hid (H1.out.up b2)
  obtain ⟨d0, d1, d2, d3, d4, d5⟩ := bx2.six
  have hz2 := bx2.lt
  clear hc b2 bx1 H1
  go_wp2_with fail
  clear d0 d1 d2 d3 d4 d5 hmax
  refine (CopyAsk_any q Ao As Ap lo ls lp co cs cp w2 H2.out hlo hls hlp).mono ?_
  rintro e w3 ⟨vo, vs, vp, rfl, ownO, ownS, ownP, b3⟩
  obtain ⟨A1, m1, k1, rfl, r1, g1⟩ := ownO.view
  obtain ⟨A2, m2, k2, rfl, r2, g2⟩ := ownS.view H0.out.set.1
  obtain ⟨A3, m3, k3, rfl⟩ := ownP.form
  obtain ⟨r3, g3⟩ := ownP.row_at H0.out.fl.1
  have HA : Hid (Asked w3 w3.heap.size (q.moved to) A1 A2 A3 m1 m2 m3) := Lib.hid ⟨r1, r2, r3, g1, g2, g3⟩
  have bel3 := (bx2.below b3).2
  clear ownO ownS ownP r1 r2 r3 g1 g2 g3 b3 bx2 H2 hz2
  have hc := Check_Q (q.moved to) A1 A2 A3 m1 m2 m3 k1 k2 k3 _ (HA.out.upAlloc (.cells #[.int .i64 q.c, .int .i64 to, .int .i64 q.n, .slice A1 m1 k1, .slice A2 m2 k2, .slice A3 m3 k3] 26))
  rw [hMC.out] at hc
  by_cases hout : to < 0 ∨ 65536 - M < to
  · rw [if_pos hout] at hc
    have HC := Lib.hid hc
    clear hc
    go_wp2_with fail
    refine HC.out.mono ?_
    rintro e w4 ⟨rfl, b4⟩
    have bel4 : Below w.heap.size w w4 := (bel3.alloc bel3.size _).trans (b4.mono (by have := bel3.size; simp; omega))
    clear b4 HC
    by_cases h0 : to < 0
    · clear hout
      go_wp2_with fail
      refine (known_yes _).mono ?_
      rintro e w5 ⟨rfl, b5⟩
      go_wp2
      go_ret
      exact ⟨rfl, bel4.trans (b5.mono bel4.size)⟩
    · have h1 : 65536 - M < to := hout.resolve_left h0
      clear hout
      go_wp2_with fail
      refine (known_yes _).mono ?_
      rintro e w5 ⟨rfl, b5⟩
      go_wp2
      go_ret
      exact ⟨rfl, bel4.trans (b5.mono bel4.size)⟩
  · rw [if_neg hout] at hc
    have HC := Lib.hid hc
    have h0 : ¬ to < 0 := by omega
    have h1 : ¬ 65536 - M < to := by omega
    clear hc hout
    go_wp2_with fail
    refine HC.out.mono ?_
    rintro e w4 ⟨rfl, b4⟩
    have bel4 : Below w.heap.size w w4 := (bel3.alloc bel3.size _).trans (b4.mono (by have := bel3.size; simp; omega))
    clear b4 HC
    go_wp2_with fail
    refine (known_yes _).mono ?_
    rintro e w5 ⟨rfl, b5⟩
    go_wp2
    go_ret
    exact ⟨rfl, bel4.trans (b5.mono bel4.size)⟩
end Go.Proofs.Ytojjcmkadmofdaa
