/-
  The walk of AskOnly.
-/
import Derived.Test.YtojjcmkadmofdaaAskKnown0
namespace Go.Proofs.Ytojjcmkadmofdaa
open Go.RowKit
set_option linter.unusedVariables false

set_option maxHeartbeats 1000000 in
set_option maxRecDepth 100000 in
theorem walk_AskOnly (a0 : Option Addr) (l0 c0 : Nat) (x0 : List Int) (w : World) (w0 : Row .u8 w w.heap.size a0 x0) (n0 : x0.length = l0) (s0 : l0 ≤ c0) (m0 : c0 ≤ 140737488351232) :
    Calls Try.prog 6 #[.slice a0 l0 c0] w fun e w' => e = .returned (.bool true) ∧ Below w.heap.size w w' := by
  have hg := Get_view a0 l0 c0 x0 w w0 n0 s0 (by omega)
  obtain ⟨q, hq⟩ : ∃ q, Hid (getQ x0 = q) := ⟨_, Lib.hid rfl⟩
  obtain ⟨E, hE⟩ : ∃ E, Hid (getE x0 = E) := ⟨_, Lib.hid rfl⟩
  rw [hq.out, hE.out] at hg
  have HG := Lib.hid hg
  have HW := Lib.hid w0
  have HN := Lib.hid n0
  clear hg w0 n0
  by_cases hE0 : E = 0
  · subst hE0
    have hqr : getQ x0 = rdQ x0 := by rw [getQ, if_pos hE.out]
    have hk : Hid (chkQ q = 0) := Lib.hid (by rw [← hq.out, hqr]; exact (getE_zero hE.out).2.2.2.2)
    have hp : Hid (putL q = x0) := Lib.hid (by rw [putL, if_pos hk.out, ← hq.out, hqr]; exact pdu_only x0 HW.out.1 hE.out)
    go_enter Try.func6, Try.ntmps6
    go_wp2_with fail
    refine HG.out.mono ?_
    rintro e w1 ⟨A1, A2, A3, m1, m2, n3, c3, rfl, ask1, b1⟩
    have HA := Lib.hid ask1
    clear ask1
    have HP := Lib.hid (Put_any q A1 A2 A3 m1 m2 n3 m1 m2 c3 _ (HA.out.upAlloc (.cells #[.int .i64 q.c, .int .i64 q.a, .int .i64 q.n, .slice A1 m1 m1, .slice A2 m2 m2, .slice A3 n3 c3] 26)))
    rw [hp.out, hk.out] at HP
    have bx := Bx.new w1 (.cells #[.int .i64 q.c, .int .i64 q.a, .int .i64 q.n, .slice A1 m1 m1, .slice A2 m2 m2, .slice A3 n3 c3] 26)
    have hs1 := b1.size
    go_wp2_with fail
    refine HP.out.mono ?_
    rintro e w2 ⟨v2, rfl, own2, b2⟩
    obtain ⟨A5, c5, rfl, row5, _, _⟩ := own2.row HW.out.1
    rw [HN.out]
    have bx2 := bx.below b2
    have ask2 := Lib.hid ((HA.out.upAlloc (.cells #[.int .i64 q.c, .int .i64 q.a, .int .i64 q.n, .slice A1 m1 m1, .slice A2 m2 m2, .slice A3 n3 c3] 26)).up b2)
    have R5 := Lib.hid row5
    clear own2 row5 b2 bx HP HA
    obtain ⟨d0, d1, d2, d3, d4, d5⟩ := bx2.six
    have hz2 := bx2.lt
    go_wp2_with fail
    clear d0 d1 d2 d3 d4 d5
    have hc := Check_Q q A1 A2 A3 m1 m2 n3 m1 m2 c3 w2 ask2.out
    rw [hk.out] at hc
    refine hc.mono ?_
    rintro e w3 ⟨rfl, b3⟩
    have bel3 : Below w.heap.size w w3 := (b1.trans (bx2.2.mono hs1)).trans (b3.mono (by omega))
    have R6 := Lib.hid (R5.out.below b3)
    have hz3 := b3.size
    clear hc b1 b3 bx2 R5
    go_wp2_with fail
    refine (same_yes_u8 _ _ _ _ _ x0 _ _ _ (HW.out.below bel3) R6.out HN.out (by omega)).mono ?_
    rintro e w4 ⟨rfl, q4, rfl⟩
    go_wp2_with fail
    refine (known_yes _).mono ?_
    rintro e w5 ⟨rfl, b5⟩
    go_wp2
    go_ret
    exact ⟨rfl, (below_drewN bel3 q4).trans (b5.mono (by have := bel3.size; exact this))⟩
  · have hqr : Hid (q = Req.zero) := Lib.hid (by rw [← hq.out, getQ, if_neg (by rw [hE.out]; exact hE0)])
    obtain rfl := hqr.out
    have t1 : (E != 0) = true := by simpa using hE0
    have t2 : (E == 0) = false := beq_false_of_ne hE0
    clear hE0
    go_enter Try.func6, Try.ntmps6
    go_wp2_with fail
    refine HG.out.mono ?_
    rintro e w1 ⟨A1, A2, A3, m1, m2, n3, c3, rfl, ask1, b1⟩
    obtain rfl : m1 = 0 := ask1.lo.symm
    obtain rfl : m2 = 0 := ask1.ls.symm
    obtain rfl : n3 = 0 := by have h := ask1.lp; have h2 : Req.zero.fl.length = 0 := rfl; omega
    have HA := Lib.hid ask1
    clear ask1
    go_wp2_with fail
    refine (SameAsk_yes Req.zero A1 A2 A3 none none none 0 0 0 0 0 c3 0 0 0 _ (by exact HA.out.upAlloc _) (by exact Asked.zero _ _) (by omega) (by omega) (by omega)).mono ?_
    rintro e w2 ⟨rfl, b2⟩
    have bel2 : Below w.heap.size w w2 := (b1.alloc b1.size _).trans (b2.mono (by have := b1.size; simp; omega))
    clear b1 b2
    go_wp2_with fail
    refine (known_yes _).mono ?_
    rintro e w3 ⟨rfl, b3⟩
    go_wp2
    go_ret
    exact ⟨rfl, bel2.trans (b3.mono bel2.size)⟩
end Go.Proofs.Ytojjcmkadmofdaa
