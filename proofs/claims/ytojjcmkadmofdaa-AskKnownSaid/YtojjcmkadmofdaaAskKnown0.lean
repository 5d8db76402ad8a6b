/-
  What the statements of layer 3 lean on: Put of any request, and the statements' example.
-/
import Derived.Test.YtojjcmkadmofdaaAskOnlyMath
namespace Go.Proofs.Ytojjcmkadmofdaa
open Go.RowKit
set_option linter.unusedVariables false

/-- What Put tells: the PDU. -/
def putL (q : Req) : List Int := if chkQ q = 0 then pduQ q else []
theorem chkQ_of {w : World} {B : Nat} {q : Req} {Ao As Ap : Option Addr} {lo ls lp : Nat} (h : Asked w B q Ao As Ap lo ls lp) : chk q.c q.a q.n lo ls lp q.fl = chkQ q := by
  rw [chkQ, h.lo, h.ls, h.lp, Nat.mul_div_cancel_left lp (by omega)]
theorem pduQ_of {w : World} {B : Nat} {q : Req} {Ao As Ap : Option Addr} {lo ls lp : Nat} (h : Asked w B q Ao As Ap lo ls lp) : pduOf q lo ls lp = pduQ q := by
  rw [pduQ, h.lo, h.ls, h.lp, Nat.mul_div_cancel_left lp (by omega)]
theorem right_lengths {q : Req} (hk : chkQ q = 0) : (q.on.length ≤ 1968 ∧ q.set.length ≤ 123) ∧ q.fl.length / 3 ≤ 35 := right_many hk
theorem putL_len (q : Req) (hset : ∀ x ∈ q.set, (Lit.int .u16 x).wf = true) (h3 : q.fl.length % 3 = 0) : (putL q).length ≤ 253 := by
  unfold putL
  split
  · rename_i hk; exact (pdu_back q hset h3 hk).2.2.2
  · simp
theorem putL_wf (q : Req) : ∀ x ∈ putL q, (Lit.int .u8 x).wf = true := by
  unfold putL
  split
  · rename_i hk
    have h2 := right_lengths hk
    have hc := mm_pos (chk_zero hk).1
    intro x hx
    rw [pduQ, pduOf] at hx
    rcases List.mem_cons.1 hx with rfl | hx
    · have := wf_byte q.c.toNat (by omega)
      rwa [show ((q.c.toNat : Nat) : Int) = q.c by omega] at this
    · exact tl_wf (by unfold need; omega) x hx
  · intro x hx; cases hx
/-- Put, of any request. -/
theorem Put_any (q : Req) (Ao As Ap : Option Addr) (lo ls lp co cs cp : Nat) (w : World) (h : Asked w w.heap.size q Ao As Ap lo ls lp) :
    Calls Try.prog 14 #[.agg #[.int .i64 q.c, .int .i64 q.a, .int .i64 q.n, .slice Ao lo co, .slice As ls cs, .slice Ap lp cp]] w (GivesOwn w (putL q) (chkQ q)) := by
  by_cases hk : chkQ q = 0
  · rw [hk, putL, if_pos hk, ← pduQ_of h]
    exact (Put_ok q Ao As Ap lo ls lp co cs cp w h (by rw [chkQ_of h, hk])).mono fun e w' ⟨v, he, ho, hb⟩ => ⟨v, he, ho, hb⟩
  · have h2 := Put_no q Ao As Ap lo ls lp co cs cp w h (by rw [chkQ_of h]; exact hk)
    rw [chkQ_of h] at h2
    rw [putL, if_neg hk]
    exact h2.mono fun e w' ⟨he, hb⟩ => ⟨_, he, Own.nil _ _ _ _, hb⟩
/-- Check, of any request. -/
theorem Check_Q (q : Req) (Ao As Ap : Option Addr) (lo ls lp co cs cp : Nat) (w : World) (h : Asked w w.heap.size q Ao As Ap lo ls lp) :
    Calls Try.prog 13 #[.agg #[.int .i64 q.c, .int .i64 q.a, .int .i64 q.n, .slice Ao lo co, .slice As ls cs, .slice Ap lp cp]] w fun e w' => e = .returned (.int .i64 (chkQ q)) ∧ Below w.heap.size w w' := by
  have h2 := Check_any q Ao As Ap lo ls lp co cs cp w h
  rwa [chkQ_of h] at h2

def ex3 : Req := ⟨3, 107, 3, [], [], []⟩
def ex3L : List Int := [3, 0, 107, 0, 3]
theorem ex3_put : putL ex3 = ex3L := by decide
theorem ex3_chk : chkQ ex3 = 0 := by decide
theorem ex3_getE : getE ex3L = 0 := by decide
theorem ex3_getQ : getQ ex3L = ex3 := by
  unfold getQ
  rw [if_pos ex3_getE]
  rfl
theorem ex3_wf : ∀ x ∈ ex3L, (Lit.int .u8 x).wf = true := by decide
theorem Asked.of_nil (w : World) (B : Nat) (c a n : Int) : Asked w B ⟨c, a, n, [], [], []⟩ none none none 0 0 0 := ⟨L.Row.nil _ _ _ _, Row.nil _ _ _ _, Row.nil _ _ _ _, rfl, rfl, rfl⟩
/-- A request of the call's own, told with a number, reads as its lists. -/
theorem Told.view {w w' : World} {q : Req} {err : Int} {e : Ending} (h : Told w q err e w') (hw : (∀ x ∈ q.set, (Lit.int .u16 x).wf = true) ∧ ∀ x ∈ q.fl, (Lit.int .i64 x).wf = true) :
    ∃ (A1 A2 A3 : Option Addr) (m1 m2 n3 c3 : Nat), e = .returned (.tuple #[.agg #[.int .i64 q.c, .int .i64 q.a, .int .i64 q.n, .slice A1 m1 m1, .slice A2 m2 m2, .slice A3 n3 c3], .int .i64 err]) ∧ Asked w' w'.heap.size q A1 A2 A3 m1 m2 n3 ∧ Below w.heap.size w w' := by
  obtain ⟨A1, A2, m1, m2, g1, g2, vp, he, h1, h2, h3, hl, hg, hb⟩ := h
  obtain ⟨A3, n3, c3, rfl⟩ := h3.form
  exact ⟨A1, A2, A3, m1, m2, n3, c3, he, Told.asked h1 h2 h3 hl hw, hb⟩
/-- Get of what is refused, or of what is right, holds what it may. -/
theorem getQ_wf (ys : List Int) (hw : ∀ x ∈ ys, (Lit.int .u8 x).wf = true) : (∀ x ∈ (getQ ys).set, (Lit.int .u16 x).wf = true) ∧ ∀ x ∈ (getQ ys).fl, (Lit.int .i64 x).wf = true := by
  unfold getQ
  split
  · rename_i h
    obtain ⟨h0, hm, hs, hr, hk⟩ := getE_zero h
    exact rdQ_wf ys hw (szOf_five ys hw hs)
  · exact ⟨by simp [Req.zero], by simp [Req.zero]⟩
theorem Get_view (A : Option Addr) (n c : Nat) (ys : List Int) (w : World) (hr : Row .u8 w w.heap.size A ys) (hn : ys.length = n) (hc : n ≤ c) (hb : n ≤ 140737488355328) :
    Calls Try.prog 22 #[.slice A n c] w fun e w' => ∃ (A1 A2 A3 : Option Addr) (m1 m2 n3 c3 : Nat), e = .returned (.tuple #[.agg #[.int .i64 (getQ ys).c, .int .i64 (getQ ys).a, .int .i64 (getQ ys).n, .slice A1 m1 m1, .slice A2 m2 m2, .slice A3 n3 c3], .int .i64 (getE ys)]) ∧ Asked w' w'.heap.size (getQ ys) A1 A2 A3 m1 m2 n3 ∧ Below w.heap.size w w' :=
  (Get_any A n c ys w hr hn hc hb).mono fun e w' h => h.view (getQ_wf ys hr.1)

set_option maxHeartbeats 1000000 in
set_option maxRecDepth 100000 in
theorem known_yes (w : World) : Calls Try.prog 11 #[] w fun e w' => e = .returned (.bool true) ∧ Below w.heap.size w w' := by
  have HP := Lib.hid (Put_any ex3 none none none 0 0 0 0 0 0 w (Asked.of_nil _ _ _ _ _))
  rw [ex3_put, ex3_chk] at HP
  go_enter Try.func11, Try.ntmps11
  go_wp2_with fail
  refine HP.out.mono ?_
  rintro e w1 ⟨v1, rfl, own1, b1⟩
  obtain ⟨A1, c1, rfl, row1, _, _⟩ := own1.row ex3_wf
  have HR := Lib.hid row1
  rw [show ex3L.length = 5 from rfl]
  clear own1 HP row1
  go_wp2_with fail
  have hg := Get_view (some ⟨w1.heap.size, 0, none⟩) 5 5 ex3L (w1.alloc (.cells (blk .u8 ex3L) 5)) ((Row.lit_at .u8 w1 _ ex3L ex3_wf rfl).more (by simp)) rfl (by omega) (by omega)
  rw [ex3_getE, ex3_getQ] at hg
  refine hg.mono ?_
  rintro e w2 ⟨A2, A3, A4, m2, m3, n4, c4, rfl, ask2, b2⟩
  have bel2 : Below w.heap.size w w2 := (b1.alloc b1.size _).trans (b2.mono (by have := b1.size; simp; omega))
  have HR2 := Lib.hid ((HR.out.alloc (Nat.le_refl _) _).below (b2.mono (by simp)))
  obtain rfl : m2 = 0 := ask2.lo.symm
  obtain rfl : m3 = 0 := ask2.ls.symm
  obtain rfl : n4 = 0 := by have h := ask2.lp; have h2 : ex3.fl.length = 0 := rfl; omega
  have HA := Lib.hid ask2
  have hz2 : w1.heap.size ≤ w2.heap.size := by have := b2.size; simp at this; omega
  clear hg b1 b2 HR ask2
  go_wp2_with fail
  refine (same_yes_u8 _ _ 5 _ _ ex3L _ w2.heap.size _ (by exact ((HR2.out.more hz2).alloc (Nat.le_refl _) _).alloc (by simp) _) (by exact Row.lit_at .u8 _ 5 ex3L ex3_wf (by simp)) rfl (by omega)).mono ?_
  rintro e w3 ⟨rfl, q3, rfl⟩
  go_wp2_with fail
  refine (SameAsk_yes ex3 A2 A3 A4 none none none 0 0 0 0 0 c4 0 0 0 _ (by exact ((HA.out.upAlloc _).upAlloc _).drewN q3) (by exact Asked.of_nil _ _ _ _ _) (by omega) (by omega) (by omega)).mono ?_
  rintro e w4 ⟨rfl, b4⟩
  go_wp2
  go_ret
  exact ⟨rfl, (below_drewN ((bel2.alloc bel2.size _).alloc (by have := bel2.size; simp; omega) _) q3).trans (b4.mono (by have := bel2.size; show w.heap.size ≤ ((w2.alloc _).alloc _).heap.size; simp; omega))⟩
end Go.Proofs.Ytojjcmkadmofdaa
