/-
  The walk of AskBack.
-/
import Derived.Test.YtojjcmkadmofdaaAskKnown0
namespace Go.Proofs.Ytojjcmkadmofdaa
open Go.RowKit
set_option linter.unusedVariables false

set_option maxHeartbeats 1000000 in
set_option maxRecDepth 100000 in
theorem walk_AskBack (q : Req) (Ao As Ap : Option Addr) (lo ls lp co cs cp : Nat) (w : World) (h : Asked w w.heap.size q Ao As Ap lo ls lp) (hi : (Lit.int .i64 q.c).wf = true ∧ (Lit.int .i64 q.a).wf = true ∧ (Lit.int .i64 q.n).wf = true) :
    Calls Try.prog 5 #[.agg #[.int .i64 q.c, .int .i64 q.a, .int .i64 q.n, .slice Ao lo co, .slice As ls cs, .slice Ap lp cp]] w fun e w' => e = .returned (.bool true) ∧ Below w.heap.size w w' := by
  have bx := Bx.new w (.cells #[.int .i64 q.c, .int .i64 q.a, .int .i64 q.n, .slice Ao lo co, .slice As ls cs, .slice Ap lp cp] 26)
  have H := Lib.hid (h.upAlloc (.cells #[.int .i64 q.c, .int .i64 q.a, .int .i64 q.n, .slice Ao lo co, .slice As ls cs, .slice Ap lp cp] 26))
  clear h
  by_cases hlong : 70000 < lo ∨ 70000 < ls ∨ 70000 < lp
  · have hlong' := Lib.hid hlong
    clear hlong
    go_enter Try.func5, Try.ntmps5
    go_wp2_with fail
    refine (LongAsk_yes q.c q.a q.n Ao As Ap lo co ls cs lp cp _ hlong'.out).mono ?_
    rintro e w1 ⟨rfl, b1⟩
    have bel1 := (bx.below b1).2
    go_wp2_with fail
    refine (known_yes _).mono ?_
    rintro e w2 ⟨rfl, b2⟩
    go_wp2
    go_ret
    exact ⟨rfl, bel1.trans (b2.mono bel1.size)⟩
  have hlo : lo ≤ 70000 := by omega
  have hls : ls ≤ 70000 := by omega
  have hlp : lp ≤ 70000 := by omega
  clear hlong
  go_enter Try.func5, Try.ntmps5
  go_wp2_with fail
  refine (LongAsk_no q.c q.a q.n Ao As Ap lo co ls cs lp cp _ hlo hls hlp).mono ?_
  rintro e w1 ⟨rfl, b1⟩
  have bx1 := bx.below b1
  have H1 := Lib.hid (H.out.up b1)
  clear bx b1 H
  obtain ⟨d0, d1, d2, d3, d4, d5⟩ := bx1.six
  have hz1 := bx1.lt
  go_wp2_with fail
  clear d0 d1 d2 d3 d4 d5
  have hc := Check_Q q Ao As Ap lo ls lp co cs cp w1 H1.out
  refine hc.mono ?_
  rintro e w2 ⟨rfl, b2⟩
  have bx2 := bx1.below b2
  have H2 := Lib.hid (H1.out.up b2)
  clear bx1 b2 H1 hc hz1
  obtain ⟨E, hE⟩ : ∃ E, Hid (chkQ q = E) := ⟨_, Lib.hid rfl⟩
  rw [hE.out]
  obtain ⟨d0, d1, d2, d3, d4, d5⟩ := bx2.six
  have hz2 := bx2.lt
  go_wp2_with fail
  clear d0 d1 d2 d3 d4 d5
  have hp := Put_any q Ao As Ap lo ls lp co cs cp w2 H2.out
  rw [hE.out] at hp
  refine hp.mono ?_
  rintro e w3 ⟨v3, rfl, own3, b3⟩
  have bx3 := bx2.below b3
  have H3 := Lib.hid (H2.out.up b3)
  obtain ⟨A3, c3, rfl, row3, hc3, _⟩ := own3.row (putL_wf q)
  have R3 := Lib.hid row3
  have hc3' := Lib.hid hc3
  clear bx2 b3 H2 hp own3 row3 hz2 hc3
  by_cases hE0 : E = 0
  · subst hE0
    have hset : ∀ x ∈ q.set, (Lit.int .u16 x).wf = true := H3.out.set.1
    have hback := Lib.hid (pdu_back q hset (by rw [H3.out.lp]; omega) hE.out)
    have hpl : Hid (putL q = pduQ q) := Lib.hid (by rw [putL, if_pos hE.out])
    have hl5 : 5 ≤ (putL q).length ∧ (putL q).length ≤ 253 := by rw [hpl.out]; exact hback.out.2.2
    obtain ⟨m, hm⟩ : ∃ m, Hid ((putL q).length = m) := ⟨_, Lib.hid rfl⟩
    rw [hm.out] at hl5 hc3' ⊢
    go_wp2_with fail
    have hg := Get_view A3 m c3 (putL q) w3 R3.out hm.out hc3'.out (by omega)
    have hgE : getE (putL q) = 0 := by rw [hpl.out]; exact hback.out.1
    have hgQ : getQ (putL q) = q := by rw [getQ, if_pos hgE, hpl.out]; exact hback.out.2.1
    rw [hgE, hgQ] at hg
    refine hg.mono ?_
    rintro e w4 ⟨A4, A5, A6, m4, m5, n6, c6, rfl, ask4, b4⟩
    obtain rfl : m4 = lo := ask4.lo.symm.trans H3.out.lo
    obtain rfl : m5 = ls := ask4.ls.symm.trans H3.out.ls
    obtain rfl : n6 = lp := by have h1 := ask4.lp; have h2 := H3.out.lp; omega
    have bx4 := bx3.below b4
    have H4 := Lib.hid (H3.out.up b4)
    have HA := Lib.hid ask4
    clear hg hgE hgQ bx3 b4 H3 ask4
    obtain ⟨d0, d1, d2, d3, d4, d5⟩ := bx4.six
    have hz4 := bx4.lt
    have g5 : (5 : Int) ≤ (m : Int) := by omega
    have g253 : (m : Int) ≤ 253 := by omega
    go_wp2_with fail
    clear d0 d1 d2 d3 d4 d5
    refine (SameAsk_yes q Ao As Ap A4 A5 A6 m4 m5 n6 co cs cp m4 m5 c6 _ (by exact H4.out.upAlloc _) (by exact HA.out.upAlloc _) (by omega) (by omega) (by omega)).mono ?_
    rintro e w5 ⟨rfl, b5⟩
    have bel5 : Below w.heap.size w w5 := (bx4.alloc _).2.trans (b5.mono (by have := (bx4.alloc (.cells #[] 0)).lt; simp; omega))
    clear b5 bx4
    go_wp2_with fail
    refine (known_yes _).mono ?_
    rintro e w6 ⟨rfl, b6⟩
    go_wp2
    go_ret
    exact ⟨rfl, bel5.trans (b6.mono bel5.size)⟩
  · have hpl : Hid ((putL q).length = 0) := Lib.hid (by rw [putL, if_neg (by rw [hE.out]; exact hE0)]; rfl)
    have t1 : (E != 0) = true := by simpa using hE0
    have t2 : (E == 0) = false := beq_false_of_ne hE0
    have t3 : (E == E) = true := by simp
    rw [hpl.out]
    clear hE0
    have bel3 := bx3.2
    go_wp2_with fail
    refine (known_yes _).mono ?_
    rintro e w4 ⟨rfl, b4⟩
    go_wp2
    go_ret
    exact ⟨rfl, bel3.trans (b4.mono bel3.size)⟩
end Go.Proofs.Ytojjcmkadmofdaa
