/-
  Texts of the proof of ReplyPuts, joined.
-/
import Derived.Test.YtobhllcnljggiaaJReplyPutsD
import Derived.Test.YtobhllcnljggiaaJReplyPutsB
import Derived.Test.YtobhllcnljggiaaJReplyPutsE
import Derived.Test.YtobhllcnljggiaaProg
import Derived.Test.YtobhllcnljggiaaJReplyPutsA
import Derived.Laws.CopyOwn
namespace Go.Proofs.Ytobhllcnljggiaa
open Go.RowKit
set_option linter.unusedVariables false

def clB (c : Int) : Bool := decide (c = 1 ∨ c = 2)
def clW (c : Int) : Bool := decide (c = 3 ∨ c = 4)
def clF (c : Int) : Bool := decide (c = 20)
theorem refKindBits_any (c a n : Int) (Ao As Ap : Option Addr) (lo co ls cs lp cp : Nat) (w : World) :
    Calls Try.prog 34 #[.agg #[.int .i64 c, .int .i64 a, .int .i64 n, .slice Ao lo co, .slice As ls cs, .slice Ap lp cp]] w fun e w' => e = .returned (.bool (clB c)) ∧ Below w.heap.size w w' := by
  have h : clB c = (c == 1 || c == 2) := by by_cases h1 : c = 1 <;> by_cases h2 : c = 2 <;> simp [clB, h1, h2]
  rw [h]
  clear h
  go_enter Try.func34, Try.ntmps34
  go_wp2
  all_goals (go_ret; refine ⟨?_, bel_alloc _ _⟩; first | rfl | simp [*])
theorem refWords_kind (c a n : Int) (Ao As Ap : Option Addr) (lo co ls cs lp cp : Nat) (w : World) :
    Calls Try.prog 36 #[.agg #[.int .i64 c, .int .i64 a, .int .i64 n, .slice Ao lo co, .slice As ls cs, .slice Ap lp cp]] w fun e w' => e = .returned (.bool (clW c)) ∧ Below w.heap.size w w' := by
  have h : clW c = (c == 3 || c == 4) := by by_cases h1 : c = 3 <;> by_cases h2 : c = 4 <;> simp [clW, h1, h2]
  rw [h]
  clear h
  go_enter Try.func36, Try.ntmps36
  go_wp2
  all_goals (go_ret; refine ⟨?_, bel_alloc _ _⟩; first | rfl | simp [*])
theorem refFiles_kind (c a n : Int) (Ao As Ap : Option Addr) (lo co ls cs lp cp : Nat) (w : World) :
    Calls Try.prog 38 #[.agg #[.int .i64 c, .int .i64 a, .int .i64 n, .slice Ao lo co, .slice As ls cs, .slice Ap lp cp]] w fun e w' => e = .returned (.bool (clF c)) ∧ Below w.heap.size w w' := by
  have h : clF c = (c == 20) := by by_cases h1 : c = 20 <;> simp [clF, h1]
  rw [h]
  clear h
  go_enter Try.func38, Try.ntmps38
  go_wp2
  all_goals (go_ret; refine ⟨?_, bel_alloc _ _⟩; first | rfl | simp [*])

set_option maxHeartbeats 4000000 in
set_option maxRecDepth 100000 in
theorem refRp_bad (q : Req) (r : Rep) (Ao As Ap Bo Bs Bf : Option Addr) (lo ls lp co cs cp mo ms mf eo es ef : Nat) (w : World) (h : Asked w w.heap.size q Ao As Ap lo ls lp) (hr : Repd w w.heap.size r Bo Bs Bf mo ms mf) (hb : lp ≤ 100000) (hk : chkQ q ≠ 0) :
    Calls Try.prog 33 #[.agg #[.int .i64 q.c, .int .i64 q.a, .int .i64 q.n, .slice Ao lo co, .slice As ls cs, .slice Ap lp cp], .agg #[.int .i64 r.x, .slice Bo mo eo, .slice Bs ms es, .slice Bf mf ef]] w fun e w' => e = .returned (.int .i64 (chkR q r)) ∧ Below w.heap.size w w' := by
  have tb := TB.new2 w #[.int .i64 q.c, .int .i64 q.a, .int .i64 q.n, .slice Ao lo co, .slice As ls cs, .slice Ap lp cp] #[.int .i64 r.x, .slice Bo mo eo, .slice Bs ms es, .slice Bf mf ef] 26 29
  have hsz : w.heap.size ≤ ((w.alloc (.cells #[.int .i64 q.c, .int .i64 q.a, .int .i64 q.n, .slice Ao lo co, .slice As ls cs, .slice Ap lp cp] 26)).alloc (.cells #[.int .i64 r.x, .slice Bo mo eo, .slice Bs ms es, .slice Bf mf ef] 29)).heap.size := tb.bel.size
  have H0 := Lib.hid h
  have HR0 := Lib.hid hr
  have H := Lib.hid ((h.below tb.bel).more hsz)
  obtain ⟨E, hE⟩ : ∃ E, Hid (chkR q r = E) := ⟨_, Lib.hid rfl⟩
  rw [hE.out]
  have HMO := Lib.hid hr.mo
  have HMS := Lib.hid hr.ms
  have HMF := Lib.hid hr.mf
  obtain ⟨k, hk2⟩ : ∃ k, Hid (chkQ q = k) := ⟨_, Lib.hid rfl⟩
  have HC := Lib.hid (refCheck_any q Ao As Ap lo ls lp co cs cp _ H.out)
  rw [chkQ_of H.out, hk2.out] at HC
  have HE : Hid (E = k) := Lib.hid (by rw [← hE.out]; unfold chkR; rw [if_pos hk]; exact hk2.out)
  rw [hk2.out] at hk
  have u1 : (k != 0) = true := by simpa using hk
  have u2 : (k == 0) = false := beq_false_of_ne hk
  clear h hr hk
  go_enter Try.func33, Try.ntmps33
  go_wp2_with fail
  refine HC.out.mono ?_
  rintro e w1 ⟨rfl, b1⟩
  have tb := tb.below b1
  clear b1
  obtain ⟨d0, d1, d2, d3, d4⟩ := tb.c4; obtain ⟨r0, r1, r2, r3, r4, r5, r6⟩ := tb.r6
  go_wp2
  go_ret
  exact ⟨by rw [HE.out]; rfl, tb.bel⟩

set_option maxHeartbeats 4000000 in
set_option maxRecDepth 100000 in
theorem refRp_exc (q : Req) (r : Rep) (Ao As Ap Bo Bs Bf : Option Addr) (lo ls lp co cs cp mo ms mf eo es ef : Nat) (w : World) (h : Asked w w.heap.size q Ao As Ap lo ls lp) (hr : Repd w w.heap.size r Bo Bs Bf mo ms mf) (hb : lp ≤ 100000) (hk : chkQ q = 0) (hx : r.x ≠ 0) :
    Calls Try.prog 33 #[.agg #[.int .i64 q.c, .int .i64 q.a, .int .i64 q.n, .slice Ao lo co, .slice As ls cs, .slice Ap lp cp], .agg #[.int .i64 r.x, .slice Bo mo eo, .slice Bs ms es, .slice Bf mf ef]] w fun e w' => e = .returned (.int .i64 (chkR q r)) ∧ Below w.heap.size w w' := by
  have tb := TB.new2 w #[.int .i64 q.c, .int .i64 q.a, .int .i64 q.n, .slice Ao lo co, .slice As ls cs, .slice Ap lp cp] #[.int .i64 r.x, .slice Bo mo eo, .slice Bs ms es, .slice Bf mf ef] 26 29
  have hsz : w.heap.size ≤ ((w.alloc (.cells #[.int .i64 q.c, .int .i64 q.a, .int .i64 q.n, .slice Ao lo co, .slice As ls cs, .slice Ap lp cp] 26)).alloc (.cells #[.int .i64 r.x, .slice Bo mo eo, .slice Bs ms es, .slice Bf mf ef] 29)).heap.size := tb.bel.size
  have H0 := Lib.hid h
  have HR0 := Lib.hid hr
  have H := Lib.hid ((h.below tb.bel).more hsz)
  obtain ⟨E, hE⟩ : ∃ E, Hid (chkR q r = E) := ⟨_, Lib.hid rfl⟩
  rw [hE.out]
  have HMO := Lib.hid hr.mo
  have HMS := Lib.hid hr.ms
  have HMF := Lib.hid hr.mf
  have HC := Lib.hid (refCheck_any q Ao As Ap lo ls lp co cs cp _ H.out)
  rw [chkQ_of H.out, hk] at HC
  have HE : Hid ((if 1 ≤ r.x ∧ r.x ≤ 127 then (if anyB mo ms mf = true then 23 else 0) else 3) = E) := Lib.hid (by
    rw [← hE.out]; unfold chkR; rw [if_neg (show ¬ chkQ q ≠ 0 by rw [hk]; simp), if_pos hx, HMO.out, HMS.out, HMF.out])
  have u1 : (r.x != 0) = true := by simpa using hx
  have u2 : (r.x == 0) = false := beq_false_of_ne hx
  clear h hr hk hx
  by_cases h1 : r.x < 1
  · have h1' : Hid (E = 3) := Lib.hid (by rw [← HE.out, if_neg (by omega)])
    go_enter Try.func33, Try.ntmps33
    go_wp2_with fail
    refine HC.out.mono ?_
    rintro e w1 ⟨rfl, b1⟩
    have tb := tb.below b1
    clear b1
    obtain ⟨d0, d1, d2, d3, d4⟩ := tb.c4; obtain ⟨r0, r1, r2, r3, r4, r5, r6⟩ := tb.r6
    go_wp2
    go_ret
    exact ⟨by rw [h1'.out]; rfl, tb.bel⟩
  by_cases h2 : 127 < r.x
  · have h1' : Hid (E = 3) := Lib.hid (by rw [← HE.out, if_neg (by omega)])
    go_enter Try.func33, Try.ntmps33
    go_wp2_with fail
    refine HC.out.mono ?_
    rintro e w1 ⟨rfl, b1⟩
    have tb := tb.below b1
    clear b1
    obtain ⟨d0, d1, d2, d3, d4⟩ := tb.c4; obtain ⟨r0, r1, r2, r3, r4, r5, r6⟩ := tb.r6
    go_wp2
    go_ret
    exact ⟨by rw [h1'.out]; rfl, tb.bel⟩
  have HE2 : Hid ((if anyB mo ms mf = true then 23 else 0) = E) := Lib.hid (by rw [← HE.out, if_pos (show 1 ≤ r.x ∧ r.x ≤ 127 from ⟨by omega, by omega⟩)])
  clear HE hE
  by_cases g1 : 0 < mo
  · have g1' : (0 : Int) < (mo : Int) := by omega
    have hl : Hid (E = 23) := Lib.hid (by rw [← HE2.out]; simp [anyB]; omega)
    clear HE2
    go_enter Try.func33, Try.ntmps33
    go_wp2_with fail
    refine HC.out.mono ?_
    rintro e w1 ⟨rfl, b1⟩
    have tb := tb.below b1
    clear b1
    obtain ⟨d0, d1, d2, d3, d4⟩ := tb.c4; obtain ⟨r0, r1, r2, r3, r4, r5, r6⟩ := tb.r6
    go_wp2
    go_ret
    exact ⟨by rw [hl.out]; rfl, tb.bel⟩
  have g1' : ¬ (0 : Int) < (mo : Int) := by omega
  by_cases g2 : 0 < ms
  · have g2' : (0 : Int) < (ms : Int) := by omega
    have hl : Hid (E = 23) := Lib.hid (by rw [← HE2.out]; simp [anyB]; omega)
    clear HE2
    go_enter Try.func33, Try.ntmps33
    go_wp2_with fail
    refine HC.out.mono ?_
    rintro e w1 ⟨rfl, b1⟩
    have tb := tb.below b1
    clear b1
    obtain ⟨d0, d1, d2, d3, d4⟩ := tb.c4; obtain ⟨r0, r1, r2, r3, r4, r5, r6⟩ := tb.r6
    go_wp2
    go_ret
    exact ⟨by rw [hl.out]; rfl, tb.bel⟩
  have g2' : ¬ (0 : Int) < (ms : Int) := by omega
  by_cases g3 : 0 < mf
  · have g3' : (0 : Int) < (mf : Int) := by omega
    have hl : Hid (E = 23) := Lib.hid (by rw [← HE2.out]; simp [anyB]; omega)
    clear HE2
    go_enter Try.func33, Try.ntmps33
    go_wp2_with fail
    refine HC.out.mono ?_
    rintro e w1 ⟨rfl, b1⟩
    have tb := tb.below b1
    clear b1
    obtain ⟨d0, d1, d2, d3, d4⟩ := tb.c4; obtain ⟨r0, r1, r2, r3, r4, r5, r6⟩ := tb.r6
    go_wp2
    go_ret
    exact ⟨by rw [hl.out]; rfl, tb.bel⟩
  · have g3' : ¬ (0 : Int) < (mf : Int) := by omega
    have hl : Hid (E = 0) := Lib.hid (by rw [← HE2.out]; simp [anyB]; omega)
    clear HE2
    go_enter Try.func33, Try.ntmps33
    go_wp2_with fail
    refine HC.out.mono ?_
    rintro e w1 ⟨rfl, b1⟩
    have tb := tb.below b1
    clear b1
    obtain ⟨d0, d1, d2, d3, d4⟩ := tb.c4; obtain ⟨r0, r1, r2, r3, r4, r5, r6⟩ := tb.r6
    go_wp2
    go_ret
    exact ⟨by rw [hl.out]; rfl, tb.bel⟩
end Go.Proofs.Ytobhllcnljggiaa
namespace Go.Proofs.Ytobhllcnljggiaa
open Go.RowKit
set_option linter.unusedVariables false

set_option maxHeartbeats 4000000 in
set_option maxRecDepth 100000 in
theorem refRp_bits (q : Req) (r : Rep) (Ao As Ap Bo Bs Bf : Option Addr) (lo ls lp co cs cp mo ms mf eo es ef : Nat) (w : World) (h : Asked w w.heap.size q Ao As Ap lo ls lp) (hr : Repd w w.heap.size r Bo Bs Bf mo ms mf) (hb : lp ≤ 100000) (hk : chkQ q = 0) (hx : r.x = 0) (hc : q.c = 1 ∨ q.c = 2) :
    Calls Try.prog 33 #[.agg #[.int .i64 q.c, .int .i64 q.a, .int .i64 q.n, .slice Ao lo co, .slice As ls cs, .slice Ap lp cp], .agg #[.int .i64 r.x, .slice Bo mo eo, .slice Bs ms es, .slice Bf mf ef]] w fun e w' => e = .returned (.int .i64 (chkR q r)) ∧ Below w.heap.size w w' := by
  have tb := TB.new2 w #[.int .i64 q.c, .int .i64 q.a, .int .i64 q.n, .slice Ao lo co, .slice As ls cs, .slice Ap lp cp] #[.int .i64 r.x, .slice Bo mo eo, .slice Bs ms es, .slice Bf mf ef] 26 29
  have hsz : w.heap.size ≤ ((w.alloc (.cells #[.int .i64 q.c, .int .i64 q.a, .int .i64 q.n, .slice Ao lo co, .slice As ls cs, .slice Ap lp cp] 26)).alloc (.cells #[.int .i64 r.x, .slice Bo mo eo, .slice Bs ms es, .slice Bf mf ef] 29)).heap.size := tb.bel.size
  have H0 := Lib.hid h
  have HR0 := Lib.hid hr
  have H := Lib.hid ((h.below tb.bel).more hsz)
  obtain ⟨E, hE⟩ : ∃ E, Hid (chkR q r = E) := ⟨_, Lib.hid rfl⟩
  rw [hE.out]
  have HMO := Lib.hid hr.mo
  have HMS := Lib.hid hr.ms
  have HMF := Lib.hid hr.mf
  have HC := Lib.hid (refCheck_any q Ao As Ap lo ls lp co cs cp _ H.out)
  rw [chkQ_of H.out, hk] at HC
  have HB : Hid (clB q.c = true) := Lib.hid (decide_eq_true hc)
  have HW : Hid (clW q.c = false) := Lib.hid (decide_eq_false (by omega))
  have HF : Hid (clF q.c = false) := Lib.hid (decide_eq_false (by omega))
  have HS : Hid (strayB q.c mo ms mf = anyB 0 ms mf) := Lib.hid (by unfold strayB; rw [if_pos hc, if_neg (show ¬ (q.c = 3 ∨ q.c = 4) by omega), if_neg (show ¬ (q.c = 20) by omega)])
  have HM2 : Hid (manyB q r = decide ((mo : Int) = q.n)) := Lib.hid (by unfold manyB; rw [if_pos hc, HMO.out])
  have HE : Hid (E = if strayB q.c mo ms mf = true then 23 else if manyB q r = false then 22 else 0) := Lib.hid (by
    rw [← hE.out]; unfold chkR; rw [if_neg (show ¬ chkQ q ≠ 0 by rw [hk]; simp), if_neg (show ¬ r.x ≠ 0 by simp [hx]), HMO.out, HMS.out, HMF.out])
  have u1 : (r.x != 0) = false := by simp [hx]
  have u2 : (r.x == 0) = true := by simp [hx]
  clear h hr hk hx hE H hc
  by_cases g1 : 0 < mo
  · have g1' : (0 : Int) < (mo : Int) := by omega
    by_cases g2 : 0 < ms
    · have g2' : (0 : Int) < (ms : Int) := by omega
      by_cases g3 : 0 < mf
      · have g3' : (0 : Int) < (mf : Int) := by omega
        have hl : Hid (E = 23) := Lib.hid (by rw [HE.out, HS.out, if_pos (by simp [anyB]; omega)])
        clear HE HS
        go_enter Try.func33, Try.ntmps33
        go_wp2_with fail
        refine HC.out.mono ?_
        rintro e w1 ⟨rfl, b1⟩
        have tb := tb.below b1
        clear b1
        obtain ⟨d0, d1, d2, d3, d4⟩ := tb.c4; obtain ⟨r0, r1, r2, r3, r4, r5, r6⟩ := tb.r6
        go_wp2_with (first | (go_at_call 34; refine (refKindBits_any q.c q.a q.n Ao As Ap lo co ls cs lp cp _).mono ?_; rintro e w9 ⟨rfl, b9⟩; rw [HB.out]; have tb := tb.below b9; obtain ⟨d0, d1, d2, d3, d4⟩ := tb.c4; obtain ⟨r0, r1, r2, r3, r4, r5, r6⟩ := tb.r6) | (go_at_call 36; refine (refWords_kind q.c q.a q.n Ao As Ap lo co ls cs lp cp _).mono ?_; rintro e w9 ⟨rfl, b9⟩; rw [HW.out]; have tb := tb.below b9; obtain ⟨d0, d1, d2, d3, d4⟩ := tb.c4; obtain ⟨r0, r1, r2, r3, r4, r5, r6⟩ := tb.r6) | (go_at_call 38; refine (refFiles_kind q.c q.a q.n Ao As Ap lo co ls cs lp cp _).mono ?_; rintro e w9 ⟨rfl, b9⟩; rw [HF.out]; have tb := tb.below b9; obtain ⟨d0, d1, d2, d3, d4⟩ := tb.c4; obtain ⟨r0, r1, r2, r3, r4, r5, r6⟩ := tb.r6))
        go_ret
        exact ⟨by rw [hl.out]; rfl, tb.bel⟩
      · have g3' : ¬ (0 : Int) < (mf : Int) := by omega
        have hl : Hid (E = 23) := Lib.hid (by rw [HE.out, HS.out, if_pos (by simp [anyB]; omega)])
        clear HE HS
        go_enter Try.func33, Try.ntmps33
        go_wp2_with fail
        refine HC.out.mono ?_
        rintro e w1 ⟨rfl, b1⟩
        have tb := tb.below b1
        clear b1
        obtain ⟨d0, d1, d2, d3, d4⟩ := tb.c4; obtain ⟨r0, r1, r2, r3, r4, r5, r6⟩ := tb.r6
        go_wp2_with (first | (go_at_call 34; refine (refKindBits_any q.c q.a q.n Ao As Ap lo co ls cs lp cp _).mono ?_; rintro e w9 ⟨rfl, b9⟩; rw [HB.out]; have tb := tb.below b9; obtain ⟨d0, d1, d2, d3, d4⟩ := tb.c4; obtain ⟨r0, r1, r2, r3, r4, r5, r6⟩ := tb.r6) | (go_at_call 36; refine (refWords_kind q.c q.a q.n Ao As Ap lo co ls cs lp cp _).mono ?_; rintro e w9 ⟨rfl, b9⟩; rw [HW.out]; have tb := tb.below b9; obtain ⟨d0, d1, d2, d3, d4⟩ := tb.c4; obtain ⟨r0, r1, r2, r3, r4, r5, r6⟩ := tb.r6) | (go_at_call 38; refine (refFiles_kind q.c q.a q.n Ao As Ap lo co ls cs lp cp _).mono ?_; rintro e w9 ⟨rfl, b9⟩; rw [HF.out]; have tb := tb.below b9; obtain ⟨d0, d1, d2, d3, d4⟩ := tb.c4; obtain ⟨r0, r1, r2, r3, r4, r5, r6⟩ := tb.r6))
        go_ret
        exact ⟨by rw [hl.out]; rfl, tb.bel⟩
    · have g2' : ¬ (0 : Int) < (ms : Int) := by omega
      by_cases g3 : 0 < mf
      · have g3' : (0 : Int) < (mf : Int) := by omega
        have hl : Hid (E = 23) := Lib.hid (by rw [HE.out, HS.out, if_pos (by simp [anyB]; omega)])
        clear HE HS
        go_enter Try.func33, Try.ntmps33
        go_wp2_with fail
        refine HC.out.mono ?_
        rintro e w1 ⟨rfl, b1⟩
        have tb := tb.below b1
        clear b1
        obtain ⟨d0, d1, d2, d3, d4⟩ := tb.c4; obtain ⟨r0, r1, r2, r3, r4, r5, r6⟩ := tb.r6
        go_wp2_with (first | (go_at_call 34; refine (refKindBits_any q.c q.a q.n Ao As Ap lo co ls cs lp cp _).mono ?_; rintro e w9 ⟨rfl, b9⟩; rw [HB.out]; have tb := tb.below b9; obtain ⟨d0, d1, d2, d3, d4⟩ := tb.c4; obtain ⟨r0, r1, r2, r3, r4, r5, r6⟩ := tb.r6) | (go_at_call 36; refine (refWords_kind q.c q.a q.n Ao As Ap lo co ls cs lp cp _).mono ?_; rintro e w9 ⟨rfl, b9⟩; rw [HW.out]; have tb := tb.below b9; obtain ⟨d0, d1, d2, d3, d4⟩ := tb.c4; obtain ⟨r0, r1, r2, r3, r4, r5, r6⟩ := tb.r6) | (go_at_call 38; refine (refFiles_kind q.c q.a q.n Ao As Ap lo co ls cs lp cp _).mono ?_; rintro e w9 ⟨rfl, b9⟩; rw [HF.out]; have tb := tb.below b9; obtain ⟨d0, d1, d2, d3, d4⟩ := tb.c4; obtain ⟨r0, r1, r2, r3, r4, r5, r6⟩ := tb.r6))
        go_ret
        exact ⟨by rw [hl.out]; rfl, tb.bel⟩
      · have g3' : ¬ (0 : Int) < (mf : Int) := by omega
        have HEM : Hid (E = if manyB q r = false then 22 else 0) := Lib.hid (by rw [HE.out, HS.out, if_neg (by simp [anyB]; try omega)])
        by_cases he : (mo : Int) = q.n
        · have u3 : ((mo : Int) != q.n) = false := by simp [he]
          have u4 : ((mo : Int) == q.n) = true := by simp [he]
          have HN : Hid (manyB q r = true) := Lib.hid (by rw [HM2.out]; exact decide_eq_true he)
          clear he HE HS
          go_enter Try.func33, Try.ntmps33
          go_wp2_with fail
          refine HC.out.mono ?_
          rintro e w1 ⟨rfl, b1⟩
          have tb := tb.below b1
          clear b1
          obtain ⟨d0, d1, d2, d3, d4⟩ := tb.c4; obtain ⟨r0, r1, r2, r3, r4, r5, r6⟩ := tb.r6
          go_wp2_with (first | (go_at_call 34; refine (refKindBits_any q.c q.a q.n Ao As Ap lo co ls cs lp cp _).mono ?_; rintro e w9 ⟨rfl, b9⟩; rw [HB.out]; have tb := tb.below b9; obtain ⟨d0, d1, d2, d3, d4⟩ := tb.c4; obtain ⟨r0, r1, r2, r3, r4, r5, r6⟩ := tb.r6) | (go_at_call 36; refine (refWords_kind q.c q.a q.n Ao As Ap lo co ls cs lp cp _).mono ?_; rintro e w9 ⟨rfl, b9⟩; rw [HW.out]; have tb := tb.below b9; obtain ⟨d0, d1, d2, d3, d4⟩ := tb.c4; obtain ⟨r0, r1, r2, r3, r4, r5, r6⟩ := tb.r6) | (go_at_call 38; refine (refFiles_kind q.c q.a q.n Ao As Ap lo co ls cs lp cp _).mono ?_; rintro e w9 ⟨rfl, b9⟩; rw [HF.out]; have tb := tb.below b9; obtain ⟨d0, d1, d2, d3, d4⟩ := tb.c4; obtain ⟨r0, r1, r2, r3, r4, r5, r6⟩ := tb.r6))
          go_loopw [6] (fun i wr => ∃ k : Nat, k ≤ mf ∧ i = .int .i64 k ∧ TB w w.heap.size (.cells #[.int .i64 q.c, .int .i64 q.a, .int .i64 q.n, .slice Ao lo co, .slice As ls cs, .slice Ap lp cp] 26 (0, 0)) (.cells #[.int .i64 r.x, .slice Bo mo eo, .slice Bs ms es, .slice Bf mf ef] 29 (0, 0)) wr ∧ Hid (∀ j, j < k → ((nthF r.fs j).length : Int) = nth q.fl (3 * j + 2))) (fun i _ => mf - (intOf i).toNat)
          case atStart => exact ⟨0, by omega, rfl, tb, Lib.hid (fun j h => by omega)⟩
          case round =>
            clear d0 d1 d2 d3 d4 r0 r1 r2 r3 r4 r5 r6 tb
            obtain ⟨k, hk, rfl, tb, hs⟩ := hrel
            by_cases hlt : k < mf
            · exact absurd hlt (by omega)
            · obtain rfl : k = mf := by omega
              have hl : Hid (E = 0) := Lib.hid (by rw [HEM.out, HN.out]; rfl)
              obtain ⟨d0, d1, d2, d3, d4⟩ := tb.c4; obtain ⟨r0, r1, r2, r3, r4, r5, r6⟩ := tb.r6
              go_wp2
              go_ret
              exact ⟨by rw [hl.out]; rfl, tb.bel⟩
        · have u3 : ((mo : Int) != q.n) = true := by simpa using he
          have u4 : ((mo : Int) == q.n) = false := beq_false_of_ne he
          have HN : Hid (manyB q r = false) := Lib.hid (by rw [HM2.out]; exact decide_eq_false he)
          clear he
          have hl : Hid (E = 22) := Lib.hid (by rw [HEM.out, HN.out]; rfl)
          clear HE HS
          go_enter Try.func33, Try.ntmps33
          go_wp2_with fail
          refine HC.out.mono ?_
          rintro e w1 ⟨rfl, b1⟩
          have tb := tb.below b1
          clear b1
          obtain ⟨d0, d1, d2, d3, d4⟩ := tb.c4; obtain ⟨r0, r1, r2, r3, r4, r5, r6⟩ := tb.r6
          go_wp2_with (first | (go_at_call 34; refine (refKindBits_any q.c q.a q.n Ao As Ap lo co ls cs lp cp _).mono ?_; rintro e w9 ⟨rfl, b9⟩; rw [HB.out]; have tb := tb.below b9; obtain ⟨d0, d1, d2, d3, d4⟩ := tb.c4; obtain ⟨r0, r1, r2, r3, r4, r5, r6⟩ := tb.r6) | (go_at_call 36; refine (refWords_kind q.c q.a q.n Ao As Ap lo co ls cs lp cp _).mono ?_; rintro e w9 ⟨rfl, b9⟩; rw [HW.out]; have tb := tb.below b9; obtain ⟨d0, d1, d2, d3, d4⟩ := tb.c4; obtain ⟨r0, r1, r2, r3, r4, r5, r6⟩ := tb.r6) | (go_at_call 38; refine (refFiles_kind q.c q.a q.n Ao As Ap lo co ls cs lp cp _).mono ?_; rintro e w9 ⟨rfl, b9⟩; rw [HF.out]; have tb := tb.below b9; obtain ⟨d0, d1, d2, d3, d4⟩ := tb.c4; obtain ⟨r0, r1, r2, r3, r4, r5, r6⟩ := tb.r6))
          go_ret
          exact ⟨by rw [hl.out]; rfl, tb.bel⟩
  · have g1' : ¬ (0 : Int) < (mo : Int) := by omega
    by_cases g2 : 0 < ms
    · have g2' : (0 : Int) < (ms : Int) := by omega
      by_cases g3 : 0 < mf
      · have g3' : (0 : Int) < (mf : Int) := by omega
        have hl : Hid (E = 23) := Lib.hid (by rw [HE.out, HS.out, if_pos (by simp [anyB]; omega)])
        clear HE HS
        go_enter Try.func33, Try.ntmps33
        go_wp2_with fail
        refine HC.out.mono ?_
        rintro e w1 ⟨rfl, b1⟩
        have tb := tb.below b1
        clear b1
        obtain ⟨d0, d1, d2, d3, d4⟩ := tb.c4; obtain ⟨r0, r1, r2, r3, r4, r5, r6⟩ := tb.r6
        go_wp2_with (first | (go_at_call 34; refine (refKindBits_any q.c q.a q.n Ao As Ap lo co ls cs lp cp _).mono ?_; rintro e w9 ⟨rfl, b9⟩; rw [HB.out]; have tb := tb.below b9; obtain ⟨d0, d1, d2, d3, d4⟩ := tb.c4; obtain ⟨r0, r1, r2, r3, r4, r5, r6⟩ := tb.r6) | (go_at_call 36; refine (refWords_kind q.c q.a q.n Ao As Ap lo co ls cs lp cp _).mono ?_; rintro e w9 ⟨rfl, b9⟩; rw [HW.out]; have tb := tb.below b9; obtain ⟨d0, d1, d2, d3, d4⟩ := tb.c4; obtain ⟨r0, r1, r2, r3, r4, r5, r6⟩ := tb.r6) | (go_at_call 38; refine (refFiles_kind q.c q.a q.n Ao As Ap lo co ls cs lp cp _).mono ?_; rintro e w9 ⟨rfl, b9⟩; rw [HF.out]; have tb := tb.below b9; obtain ⟨d0, d1, d2, d3, d4⟩ := tb.c4; obtain ⟨r0, r1, r2, r3, r4, r5, r6⟩ := tb.r6))
        go_ret
        exact ⟨by rw [hl.out]; rfl, tb.bel⟩
      · have g3' : ¬ (0 : Int) < (mf : Int) := by omega
        have hl : Hid (E = 23) := Lib.hid (by rw [HE.out, HS.out, if_pos (by simp [anyB]; omega)])
        clear HE HS
        go_enter Try.func33, Try.ntmps33
        go_wp2_with fail
        refine HC.out.mono ?_
        rintro e w1 ⟨rfl, b1⟩
        have tb := tb.below b1
        clear b1
        obtain ⟨d0, d1, d2, d3, d4⟩ := tb.c4; obtain ⟨r0, r1, r2, r3, r4, r5, r6⟩ := tb.r6
        go_wp2_with (first | (go_at_call 34; refine (refKindBits_any q.c q.a q.n Ao As Ap lo co ls cs lp cp _).mono ?_; rintro e w9 ⟨rfl, b9⟩; rw [HB.out]; have tb := tb.below b9; obtain ⟨d0, d1, d2, d3, d4⟩ := tb.c4; obtain ⟨r0, r1, r2, r3, r4, r5, r6⟩ := tb.r6) | (go_at_call 36; refine (refWords_kind q.c q.a q.n Ao As Ap lo co ls cs lp cp _).mono ?_; rintro e w9 ⟨rfl, b9⟩; rw [HW.out]; have tb := tb.below b9; obtain ⟨d0, d1, d2, d3, d4⟩ := tb.c4; obtain ⟨r0, r1, r2, r3, r4, r5, r6⟩ := tb.r6) | (go_at_call 38; refine (refFiles_kind q.c q.a q.n Ao As Ap lo co ls cs lp cp _).mono ?_; rintro e w9 ⟨rfl, b9⟩; rw [HF.out]; have tb := tb.below b9; obtain ⟨d0, d1, d2, d3, d4⟩ := tb.c4; obtain ⟨r0, r1, r2, r3, r4, r5, r6⟩ := tb.r6))
        go_ret
        exact ⟨by rw [hl.out]; rfl, tb.bel⟩
    · have g2' : ¬ (0 : Int) < (ms : Int) := by omega
      by_cases g3 : 0 < mf
      · have g3' : (0 : Int) < (mf : Int) := by omega
        have hl : Hid (E = 23) := Lib.hid (by rw [HE.out, HS.out, if_pos (by simp [anyB]; omega)])
        clear HE HS
        go_enter Try.func33, Try.ntmps33
        go_wp2_with fail
        refine HC.out.mono ?_
        rintro e w1 ⟨rfl, b1⟩
        have tb := tb.below b1
        clear b1
        obtain ⟨d0, d1, d2, d3, d4⟩ := tb.c4; obtain ⟨r0, r1, r2, r3, r4, r5, r6⟩ := tb.r6
        go_wp2_with (first | (go_at_call 34; refine (refKindBits_any q.c q.a q.n Ao As Ap lo co ls cs lp cp _).mono ?_; rintro e w9 ⟨rfl, b9⟩; rw [HB.out]; have tb := tb.below b9; obtain ⟨d0, d1, d2, d3, d4⟩ := tb.c4; obtain ⟨r0, r1, r2, r3, r4, r5, r6⟩ := tb.r6) | (go_at_call 36; refine (refWords_kind q.c q.a q.n Ao As Ap lo co ls cs lp cp _).mono ?_; rintro e w9 ⟨rfl, b9⟩; rw [HW.out]; have tb := tb.below b9; obtain ⟨d0, d1, d2, d3, d4⟩ := tb.c4; obtain ⟨r0, r1, r2, r3, r4, r5, r6⟩ := tb.r6) | (go_at_call 38; refine (refFiles_kind q.c q.a q.n Ao As Ap lo co ls cs lp cp _).mono ?_; rintro e w9 ⟨rfl, b9⟩; rw [HF.out]; have tb := tb.below b9; obtain ⟨d0, d1, d2, d3, d4⟩ := tb.c4; obtain ⟨r0, r1, r2, r3, r4, r5, r6⟩ := tb.r6))
        go_ret
        exact ⟨by rw [hl.out]; rfl, tb.bel⟩
      · have g3' : ¬ (0 : Int) < (mf : Int) := by omega
        have HEM : Hid (E = if manyB q r = false then 22 else 0) := Lib.hid (by rw [HE.out, HS.out, if_neg (by simp [anyB]; try omega)])
        by_cases he : (mo : Int) = q.n
        · have u3 : ((mo : Int) != q.n) = false := by simp [he]
          have u4 : ((mo : Int) == q.n) = true := by simp [he]
          have HN : Hid (manyB q r = true) := Lib.hid (by rw [HM2.out]; exact decide_eq_true he)
          clear he HE HS
          go_enter Try.func33, Try.ntmps33
          go_wp2_with fail
          refine HC.out.mono ?_
          rintro e w1 ⟨rfl, b1⟩
          have tb := tb.below b1
          clear b1
          obtain ⟨d0, d1, d2, d3, d4⟩ := tb.c4; obtain ⟨r0, r1, r2, r3, r4, r5, r6⟩ := tb.r6
          go_wp2_with (first | (go_at_call 34; refine (refKindBits_any q.c q.a q.n Ao As Ap lo co ls cs lp cp _).mono ?_; rintro e w9 ⟨rfl, b9⟩; rw [HB.out]; have tb := tb.below b9; obtain ⟨d0, d1, d2, d3, d4⟩ := tb.c4; obtain ⟨r0, r1, r2, r3, r4, r5, r6⟩ := tb.r6) | (go_at_call 36; refine (refWords_kind q.c q.a q.n Ao As Ap lo co ls cs lp cp _).mono ?_; rintro e w9 ⟨rfl, b9⟩; rw [HW.out]; have tb := tb.below b9; obtain ⟨d0, d1, d2, d3, d4⟩ := tb.c4; obtain ⟨r0, r1, r2, r3, r4, r5, r6⟩ := tb.r6) | (go_at_call 38; refine (refFiles_kind q.c q.a q.n Ao As Ap lo co ls cs lp cp _).mono ?_; rintro e w9 ⟨rfl, b9⟩; rw [HF.out]; have tb := tb.below b9; obtain ⟨d0, d1, d2, d3, d4⟩ := tb.c4; obtain ⟨r0, r1, r2, r3, r4, r5, r6⟩ := tb.r6))
          go_loopw [6] (fun i wr => ∃ k : Nat, k ≤ mf ∧ i = .int .i64 k ∧ TB w w.heap.size (.cells #[.int .i64 q.c, .int .i64 q.a, .int .i64 q.n, .slice Ao lo co, .slice As ls cs, .slice Ap lp cp] 26 (0, 0)) (.cells #[.int .i64 r.x, .slice Bo mo eo, .slice Bs ms es, .slice Bf mf ef] 29 (0, 0)) wr ∧ Hid (∀ j, j < k → ((nthF r.fs j).length : Int) = nth q.fl (3 * j + 2))) (fun i _ => mf - (intOf i).toNat)
          case atStart => exact ⟨0, by omega, rfl, tb, Lib.hid (fun j h => by omega)⟩
          case round =>
            clear d0 d1 d2 d3 d4 r0 r1 r2 r3 r4 r5 r6 tb
            obtain ⟨k, hk, rfl, tb, hs⟩ := hrel
            by_cases hlt : k < mf
            · exact absurd hlt (by omega)
            · obtain rfl : k = mf := by omega
              have hl : Hid (E = 0) := Lib.hid (by rw [HEM.out, HN.out]; rfl)
              obtain ⟨d0, d1, d2, d3, d4⟩ := tb.c4; obtain ⟨r0, r1, r2, r3, r4, r5, r6⟩ := tb.r6
              go_wp2
              go_ret
              exact ⟨by rw [hl.out]; rfl, tb.bel⟩
        · have u3 : ((mo : Int) != q.n) = true := by simpa using he
          have u4 : ((mo : Int) == q.n) = false := beq_false_of_ne he
          have HN : Hid (manyB q r = false) := Lib.hid (by rw [HM2.out]; exact decide_eq_false he)
          clear he
          have hl : Hid (E = 22) := Lib.hid (by rw [HEM.out, HN.out]; rfl)
          clear HE HS
          go_enter Try.func33, Try.ntmps33
          go_wp2_with fail
          refine HC.out.mono ?_
          rintro e w1 ⟨rfl, b1⟩
          have tb := tb.below b1
          clear b1
          obtain ⟨d0, d1, d2, d3, d4⟩ := tb.c4; obtain ⟨r0, r1, r2, r3, r4, r5, r6⟩ := tb.r6
          go_wp2_with (first | (go_at_call 34; refine (refKindBits_any q.c q.a q.n Ao As Ap lo co ls cs lp cp _).mono ?_; rintro e w9 ⟨rfl, b9⟩; rw [HB.out]; have tb := tb.below b9; obtain ⟨d0, d1, d2, d3, d4⟩ := tb.c4; obtain ⟨r0, r1, r2, r3, r4, r5, r6⟩ := tb.r6) | (go_at_call 36; refine (refWords_kind q.c q.a q.n Ao As Ap lo co ls cs lp cp _).mono ?_; rintro e w9 ⟨rfl, b9⟩; rw [HW.out]; have tb := tb.below b9; obtain ⟨d0, d1, d2, d3, d4⟩ := tb.c4; obtain ⟨r0, r1, r2, r3, r4, r5, r6⟩ := tb.r6) | (go_at_call 38; refine (refFiles_kind q.c q.a q.n Ao As Ap lo co ls cs lp cp _).mono ?_; rintro e w9 ⟨rfl, b9⟩; rw [HF.out]; have tb := tb.below b9; obtain ⟨d0, d1, d2, d3, d4⟩ := tb.c4; obtain ⟨r0, r1, r2, r3, r4, r5, r6⟩ := tb.r6))
          go_ret
          exact ⟨by rw [hl.out]; rfl, tb.bel⟩
end Go.Proofs.Ytobhllcnljggiaa
namespace Go.Proofs.Ytobhllcnljggiaa
open Go.RowKit
set_option linter.unusedVariables false

set_option maxHeartbeats 4000000 in
set_option maxRecDepth 100000 in
theorem refRp_words (q : Req) (r : Rep) (Ao As Ap Bo Bs Bf : Option Addr) (lo ls lp co cs cp mo ms mf eo es ef : Nat) (w : World) (h : Asked w w.heap.size q Ao As Ap lo ls lp) (hr : Repd w w.heap.size r Bo Bs Bf mo ms mf) (hb : lp ≤ 100000) (hk : chkQ q = 0) (hx : r.x = 0) (hc : q.c = 3 ∨ q.c = 4) :
    Calls Try.prog 33 #[.agg #[.int .i64 q.c, .int .i64 q.a, .int .i64 q.n, .slice Ao lo co, .slice As ls cs, .slice Ap lp cp], .agg #[.int .i64 r.x, .slice Bo mo eo, .slice Bs ms es, .slice Bf mf ef]] w fun e w' => e = .returned (.int .i64 (chkR q r)) ∧ Below w.heap.size w w' := by
  have tb := TB.new2 w #[.int .i64 q.c, .int .i64 q.a, .int .i64 q.n, .slice Ao lo co, .slice As ls cs, .slice Ap lp cp] #[.int .i64 r.x, .slice Bo mo eo, .slice Bs ms es, .slice Bf mf ef] 26 29
  have hsz : w.heap.size ≤ ((w.alloc (.cells #[.int .i64 q.c, .int .i64 q.a, .int .i64 q.n, .slice Ao lo co, .slice As ls cs, .slice Ap lp cp] 26)).alloc (.cells #[.int .i64 r.x, .slice Bo mo eo, .slice Bs ms es, .slice Bf mf ef] 29)).heap.size := tb.bel.size
  have H0 := Lib.hid h
  have HR0 := Lib.hid hr
  have H := Lib.hid ((h.below tb.bel).more hsz)
  obtain ⟨E, hE⟩ : ∃ E, Hid (chkR q r = E) := ⟨_, Lib.hid rfl⟩
  rw [hE.out]
  have HMO := Lib.hid hr.mo
  have HMS := Lib.hid hr.ms
  have HMF := Lib.hid hr.mf
  have HC := Lib.hid (refCheck_any q Ao As Ap lo ls lp co cs cp _ H.out)
  rw [chkQ_of H.out, hk] at HC
  have HB : Hid (clB q.c = false) := Lib.hid (decide_eq_false (by omega))
  have HW : Hid (clW q.c = true) := Lib.hid (decide_eq_true hc)
  have HF : Hid (clF q.c = false) := Lib.hid (decide_eq_false (by omega))
  have HS : Hid (strayB q.c mo ms mf = anyB mo 0 mf) := Lib.hid (by unfold strayB; rw [if_neg (show ¬ (q.c = 1 ∨ q.c = 2) by omega), if_pos hc, if_neg (show ¬ (q.c = 20) by omega)])
  have HM2 : Hid (manyB q r = decide ((ms : Int) = q.n)) := Lib.hid (by unfold manyB; rw [if_neg (show ¬ (q.c = 1 ∨ q.c = 2) by omega), if_pos hc, HMS.out])
  have HE : Hid (E = if strayB q.c mo ms mf = true then 23 else if manyB q r = false then 22 else 0) := Lib.hid (by
    rw [← hE.out]; unfold chkR; rw [if_neg (show ¬ chkQ q ≠ 0 by rw [hk]; simp), if_neg (show ¬ r.x ≠ 0 by simp [hx]), HMO.out, HMS.out, HMF.out])
  have u1 : (r.x != 0) = false := by simp [hx]
  have u2 : (r.x == 0) = true := by simp [hx]
  clear h hr hk hx hE H hc
  by_cases g1 : 0 < mo
  · have g1' : (0 : Int) < (mo : Int) := by omega
    by_cases g2 : 0 < ms
    · have g2' : (0 : Int) < (ms : Int) := by omega
      by_cases g3 : 0 < mf
      · have g3' : (0 : Int) < (mf : Int) := by omega
        have hl : Hid (E = 23) := Lib.hid (by rw [HE.out, HS.out, if_pos (by simp [anyB]; omega)])
        clear HE HS
        go_enter Try.func33, Try.ntmps33
        go_wp2_with fail
        refine HC.out.mono ?_
        rintro e w1 ⟨rfl, b1⟩
        have tb := tb.below b1
        clear b1
        obtain ⟨d0, d1, d2, d3, d4⟩ := tb.c4; obtain ⟨r0, r1, r2, r3, r4, r5, r6⟩ := tb.r6
        go_wp2_with (first | (go_at_call 34; refine (refKindBits_any q.c q.a q.n Ao As Ap lo co ls cs lp cp _).mono ?_; rintro e w9 ⟨rfl, b9⟩; rw [HB.out]; have tb := tb.below b9; obtain ⟨d0, d1, d2, d3, d4⟩ := tb.c4; obtain ⟨r0, r1, r2, r3, r4, r5, r6⟩ := tb.r6) | (go_at_call 36; refine (refWords_kind q.c q.a q.n Ao As Ap lo co ls cs lp cp _).mono ?_; rintro e w9 ⟨rfl, b9⟩; rw [HW.out]; have tb := tb.below b9; obtain ⟨d0, d1, d2, d3, d4⟩ := tb.c4; obtain ⟨r0, r1, r2, r3, r4, r5, r6⟩ := tb.r6) | (go_at_call 38; refine (refFiles_kind q.c q.a q.n Ao As Ap lo co ls cs lp cp _).mono ?_; rintro e w9 ⟨rfl, b9⟩; rw [HF.out]; have tb := tb.below b9; obtain ⟨d0, d1, d2, d3, d4⟩ := tb.c4; obtain ⟨r0, r1, r2, r3, r4, r5, r6⟩ := tb.r6))
        go_ret
        exact ⟨by rw [hl.out]; rfl, tb.bel⟩
      · have g3' : ¬ (0 : Int) < (mf : Int) := by omega
        have hl : Hid (E = 23) := Lib.hid (by rw [HE.out, HS.out, if_pos (by simp [anyB]; omega)])
        clear HE HS
        go_enter Try.func33, Try.ntmps33
        go_wp2_with fail
        refine HC.out.mono ?_
        rintro e w1 ⟨rfl, b1⟩
        have tb := tb.below b1
        clear b1
        obtain ⟨d0, d1, d2, d3, d4⟩ := tb.c4; obtain ⟨r0, r1, r2, r3, r4, r5, r6⟩ := tb.r6
        go_wp2_with (first | (go_at_call 34; refine (refKindBits_any q.c q.a q.n Ao As Ap lo co ls cs lp cp _).mono ?_; rintro e w9 ⟨rfl, b9⟩; rw [HB.out]; have tb := tb.below b9; obtain ⟨d0, d1, d2, d3, d4⟩ := tb.c4; obtain ⟨r0, r1, r2, r3, r4, r5, r6⟩ := tb.r6) | (go_at_call 36; refine (refWords_kind q.c q.a q.n Ao As Ap lo co ls cs lp cp _).mono ?_; rintro e w9 ⟨rfl, b9⟩; rw [HW.out]; have tb := tb.below b9; obtain ⟨d0, d1, d2, d3, d4⟩ := tb.c4; obtain ⟨r0, r1, r2, r3, r4, r5, r6⟩ := tb.r6) | (go_at_call 38; refine (refFiles_kind q.c q.a q.n Ao As Ap lo co ls cs lp cp _).mono ?_; rintro e w9 ⟨rfl, b9⟩; rw [HF.out]; have tb := tb.below b9; obtain ⟨d0, d1, d2, d3, d4⟩ := tb.c4; obtain ⟨r0, r1, r2, r3, r4, r5, r6⟩ := tb.r6))
        go_ret
        exact ⟨by rw [hl.out]; rfl, tb.bel⟩
    · have g2' : ¬ (0 : Int) < (ms : Int) := by omega
      by_cases g3 : 0 < mf
      · have g3' : (0 : Int) < (mf : Int) := by omega
        have hl : Hid (E = 23) := Lib.hid (by rw [HE.out, HS.out, if_pos (by simp [anyB]; omega)])
        clear HE HS
        go_enter Try.func33, Try.ntmps33
        go_wp2_with fail
        refine HC.out.mono ?_
        rintro e w1 ⟨rfl, b1⟩
        have tb := tb.below b1
        clear b1
        obtain ⟨d0, d1, d2, d3, d4⟩ := tb.c4; obtain ⟨r0, r1, r2, r3, r4, r5, r6⟩ := tb.r6
        go_wp2_with (first | (go_at_call 34; refine (refKindBits_any q.c q.a q.n Ao As Ap lo co ls cs lp cp _).mono ?_; rintro e w9 ⟨rfl, b9⟩; rw [HB.out]; have tb := tb.below b9; obtain ⟨d0, d1, d2, d3, d4⟩ := tb.c4; obtain ⟨r0, r1, r2, r3, r4, r5, r6⟩ := tb.r6) | (go_at_call 36; refine (refWords_kind q.c q.a q.n Ao As Ap lo co ls cs lp cp _).mono ?_; rintro e w9 ⟨rfl, b9⟩; rw [HW.out]; have tb := tb.below b9; obtain ⟨d0, d1, d2, d3, d4⟩ := tb.c4; obtain ⟨r0, r1, r2, r3, r4, r5, r6⟩ := tb.r6) | (go_at_call 38; refine (refFiles_kind q.c q.a q.n Ao As Ap lo co ls cs lp cp _).mono ?_; rintro e w9 ⟨rfl, b9⟩; rw [HF.out]; have tb := tb.below b9; obtain ⟨d0, d1, d2, d3, d4⟩ := tb.c4; obtain ⟨r0, r1, r2, r3, r4, r5, r6⟩ := tb.r6))
        go_ret
        exact ⟨by rw [hl.out]; rfl, tb.bel⟩
      · have g3' : ¬ (0 : Int) < (mf : Int) := by omega
        have hl : Hid (E = 23) := Lib.hid (by rw [HE.out, HS.out, if_pos (by simp [anyB]; omega)])
        clear HE HS
        go_enter Try.func33, Try.ntmps33
        go_wp2_with fail
        refine HC.out.mono ?_
        rintro e w1 ⟨rfl, b1⟩
        have tb := tb.below b1
        clear b1
        obtain ⟨d0, d1, d2, d3, d4⟩ := tb.c4; obtain ⟨r0, r1, r2, r3, r4, r5, r6⟩ := tb.r6
        go_wp2_with (first | (go_at_call 34; refine (refKindBits_any q.c q.a q.n Ao As Ap lo co ls cs lp cp _).mono ?_; rintro e w9 ⟨rfl, b9⟩; rw [HB.out]; have tb := tb.below b9; obtain ⟨d0, d1, d2, d3, d4⟩ := tb.c4; obtain ⟨r0, r1, r2, r3, r4, r5, r6⟩ := tb.r6) | (go_at_call 36; refine (refWords_kind q.c q.a q.n Ao As Ap lo co ls cs lp cp _).mono ?_; rintro e w9 ⟨rfl, b9⟩; rw [HW.out]; have tb := tb.below b9; obtain ⟨d0, d1, d2, d3, d4⟩ := tb.c4; obtain ⟨r0, r1, r2, r3, r4, r5, r6⟩ := tb.r6) | (go_at_call 38; refine (refFiles_kind q.c q.a q.n Ao As Ap lo co ls cs lp cp _).mono ?_; rintro e w9 ⟨rfl, b9⟩; rw [HF.out]; have tb := tb.below b9; obtain ⟨d0, d1, d2, d3, d4⟩ := tb.c4; obtain ⟨r0, r1, r2, r3, r4, r5, r6⟩ := tb.r6))
        go_ret
        exact ⟨by rw [hl.out]; rfl, tb.bel⟩
  · have g1' : ¬ (0 : Int) < (mo : Int) := by omega
    by_cases g2 : 0 < ms
    · have g2' : (0 : Int) < (ms : Int) := by omega
      by_cases g3 : 0 < mf
      · have g3' : (0 : Int) < (mf : Int) := by omega
        have hl : Hid (E = 23) := Lib.hid (by rw [HE.out, HS.out, if_pos (by simp [anyB]; omega)])
        clear HE HS
        go_enter Try.func33, Try.ntmps33
        go_wp2_with fail
        refine HC.out.mono ?_
        rintro e w1 ⟨rfl, b1⟩
        have tb := tb.below b1
        clear b1
        obtain ⟨d0, d1, d2, d3, d4⟩ := tb.c4; obtain ⟨r0, r1, r2, r3, r4, r5, r6⟩ := tb.r6
        go_wp2_with (first | (go_at_call 34; refine (refKindBits_any q.c q.a q.n Ao As Ap lo co ls cs lp cp _).mono ?_; rintro e w9 ⟨rfl, b9⟩; rw [HB.out]; have tb := tb.below b9; obtain ⟨d0, d1, d2, d3, d4⟩ := tb.c4; obtain ⟨r0, r1, r2, r3, r4, r5, r6⟩ := tb.r6) | (go_at_call 36; refine (refWords_kind q.c q.a q.n Ao As Ap lo co ls cs lp cp _).mono ?_; rintro e w9 ⟨rfl, b9⟩; rw [HW.out]; have tb := tb.below b9; obtain ⟨d0, d1, d2, d3, d4⟩ := tb.c4; obtain ⟨r0, r1, r2, r3, r4, r5, r6⟩ := tb.r6) | (go_at_call 38; refine (refFiles_kind q.c q.a q.n Ao As Ap lo co ls cs lp cp _).mono ?_; rintro e w9 ⟨rfl, b9⟩; rw [HF.out]; have tb := tb.below b9; obtain ⟨d0, d1, d2, d3, d4⟩ := tb.c4; obtain ⟨r0, r1, r2, r3, r4, r5, r6⟩ := tb.r6))
        go_ret
        exact ⟨by rw [hl.out]; rfl, tb.bel⟩
      · have g3' : ¬ (0 : Int) < (mf : Int) := by omega
        have HEM : Hid (E = if manyB q r = false then 22 else 0) := Lib.hid (by rw [HE.out, HS.out, if_neg (by simp [anyB]; try omega)])
        by_cases he : (ms : Int) = q.n
        · have u3 : ((ms : Int) != q.n) = false := by simp [he]
          have u4 : ((ms : Int) == q.n) = true := by simp [he]
          have HN : Hid (manyB q r = true) := Lib.hid (by rw [HM2.out]; exact decide_eq_true he)
          clear he HE HS
          go_enter Try.func33, Try.ntmps33
          go_wp2_with fail
          refine HC.out.mono ?_
          rintro e w1 ⟨rfl, b1⟩
          have tb := tb.below b1
          clear b1
          obtain ⟨d0, d1, d2, d3, d4⟩ := tb.c4; obtain ⟨r0, r1, r2, r3, r4, r5, r6⟩ := tb.r6
          go_wp2_with (first | (go_at_call 34; refine (refKindBits_any q.c q.a q.n Ao As Ap lo co ls cs lp cp _).mono ?_; rintro e w9 ⟨rfl, b9⟩; rw [HB.out]; have tb := tb.below b9; obtain ⟨d0, d1, d2, d3, d4⟩ := tb.c4; obtain ⟨r0, r1, r2, r3, r4, r5, r6⟩ := tb.r6) | (go_at_call 36; refine (refWords_kind q.c q.a q.n Ao As Ap lo co ls cs lp cp _).mono ?_; rintro e w9 ⟨rfl, b9⟩; rw [HW.out]; have tb := tb.below b9; obtain ⟨d0, d1, d2, d3, d4⟩ := tb.c4; obtain ⟨r0, r1, r2, r3, r4, r5, r6⟩ := tb.r6) | (go_at_call 38; refine (refFiles_kind q.c q.a q.n Ao As Ap lo co ls cs lp cp _).mono ?_; rintro e w9 ⟨rfl, b9⟩; rw [HF.out]; have tb := tb.below b9; obtain ⟨d0, d1, d2, d3, d4⟩ := tb.c4; obtain ⟨r0, r1, r2, r3, r4, r5, r6⟩ := tb.r6))
          go_loopw [6] (fun i wr => ∃ k : Nat, k ≤ mf ∧ i = .int .i64 k ∧ TB w w.heap.size (.cells #[.int .i64 q.c, .int .i64 q.a, .int .i64 q.n, .slice Ao lo co, .slice As ls cs, .slice Ap lp cp] 26 (0, 0)) (.cells #[.int .i64 r.x, .slice Bo mo eo, .slice Bs ms es, .slice Bf mf ef] 29 (0, 0)) wr ∧ Hid (∀ j, j < k → ((nthF r.fs j).length : Int) = nth q.fl (3 * j + 2))) (fun i _ => mf - (intOf i).toNat)
          case atStart => exact ⟨0, by omega, rfl, tb, Lib.hid (fun j h => by omega)⟩
          case round =>
            clear d0 d1 d2 d3 d4 r0 r1 r2 r3 r4 r5 r6 tb
            obtain ⟨k, hk, rfl, tb, hs⟩ := hrel
            by_cases hlt : k < mf
            · exact absurd hlt (by omega)
            · obtain rfl : k = mf := by omega
              have hl : Hid (E = 0) := Lib.hid (by rw [HEM.out, HN.out]; rfl)
              obtain ⟨d0, d1, d2, d3, d4⟩ := tb.c4; obtain ⟨r0, r1, r2, r3, r4, r5, r6⟩ := tb.r6
              go_wp2
              go_ret
              exact ⟨by rw [hl.out]; rfl, tb.bel⟩
        · have u3 : ((ms : Int) != q.n) = true := by simpa using he
          have u4 : ((ms : Int) == q.n) = false := beq_false_of_ne he
          have HN : Hid (manyB q r = false) := Lib.hid (by rw [HM2.out]; exact decide_eq_false he)
          clear he
          have hl : Hid (E = 22) := Lib.hid (by rw [HEM.out, HN.out]; rfl)
          clear HE HS
          go_enter Try.func33, Try.ntmps33
          go_wp2_with fail
          refine HC.out.mono ?_
          rintro e w1 ⟨rfl, b1⟩
          have tb := tb.below b1
          clear b1
          obtain ⟨d0, d1, d2, d3, d4⟩ := tb.c4; obtain ⟨r0, r1, r2, r3, r4, r5, r6⟩ := tb.r6
          go_wp2_with (first | (go_at_call 34; refine (refKindBits_any q.c q.a q.n Ao As Ap lo co ls cs lp cp _).mono ?_; rintro e w9 ⟨rfl, b9⟩; rw [HB.out]; have tb := tb.below b9; obtain ⟨d0, d1, d2, d3, d4⟩ := tb.c4; obtain ⟨r0, r1, r2, r3, r4, r5, r6⟩ := tb.r6) | (go_at_call 36; refine (refWords_kind q.c q.a q.n Ao As Ap lo co ls cs lp cp _).mono ?_; rintro e w9 ⟨rfl, b9⟩; rw [HW.out]; have tb := tb.below b9; obtain ⟨d0, d1, d2, d3, d4⟩ := tb.c4; obtain ⟨r0, r1, r2, r3, r4, r5, r6⟩ := tb.r6) | (go_at_call 38; refine (refFiles_kind q.c q.a q.n Ao As Ap lo co ls cs lp cp _).mono ?_; rintro e w9 ⟨rfl, b9⟩; rw [HF.out]; have tb := tb.below b9; obtain ⟨d0, d1, d2, d3, d4⟩ := tb.c4; obtain ⟨r0, r1, r2, r3, r4, r5, r6⟩ := tb.r6))
          go_ret
          exact ⟨by rw [hl.out]; rfl, tb.bel⟩
    · have g2' : ¬ (0 : Int) < (ms : Int) := by omega
      by_cases g3 : 0 < mf
      · have g3' : (0 : Int) < (mf : Int) := by omega
        have hl : Hid (E = 23) := Lib.hid (by rw [HE.out, HS.out, if_pos (by simp [anyB]; omega)])
        clear HE HS
        go_enter Try.func33, Try.ntmps33
        go_wp2_with fail
        refine HC.out.mono ?_
        rintro e w1 ⟨rfl, b1⟩
        have tb := tb.below b1
        clear b1
        obtain ⟨d0, d1, d2, d3, d4⟩ := tb.c4; obtain ⟨r0, r1, r2, r3, r4, r5, r6⟩ := tb.r6
        go_wp2_with (first | (go_at_call 34; refine (refKindBits_any q.c q.a q.n Ao As Ap lo co ls cs lp cp _).mono ?_; rintro e w9 ⟨rfl, b9⟩; rw [HB.out]; have tb := tb.below b9; obtain ⟨d0, d1, d2, d3, d4⟩ := tb.c4; obtain ⟨r0, r1, r2, r3, r4, r5, r6⟩ := tb.r6) | (go_at_call 36; refine (refWords_kind q.c q.a q.n Ao As Ap lo co ls cs lp cp _).mono ?_; rintro e w9 ⟨rfl, b9⟩; rw [HW.out]; have tb := tb.below b9; obtain ⟨d0, d1, d2, d3, d4⟩ := tb.c4; obtain ⟨r0, r1, r2, r3, r4, r5, r6⟩ := tb.r6) | (go_at_call 38; refine (refFiles_kind q.c q.a q.n Ao As Ap lo co ls cs lp cp _).mono ?_; rintro e w9 ⟨rfl, b9⟩; rw [HF.out]; have tb := tb.below b9; obtain ⟨d0, d1, d2, d3, d4⟩ := tb.c4; obtain ⟨r0, r1, r2, r3, r4, r5, r6⟩ := tb.r6))
        go_ret
        exact ⟨by rw [hl.out]; rfl, tb.bel⟩
      · have g3' : ¬ (0 : Int) < (mf : Int) := by omega
        have HEM : Hid (E = if manyB q r = false then 22 else 0) := Lib.hid (by rw [HE.out, HS.out, if_neg (by simp [anyB]; try omega)])
        by_cases he : (ms : Int) = q.n
        · have u3 : ((ms : Int) != q.n) = false := by simp [he]
          have u4 : ((ms : Int) == q.n) = true := by simp [he]
          have HN : Hid (manyB q r = true) := Lib.hid (by rw [HM2.out]; exact decide_eq_true he)
          clear he HE HS
          go_enter Try.func33, Try.ntmps33
          go_wp2_with fail
          refine HC.out.mono ?_
          rintro e w1 ⟨rfl, b1⟩
          have tb := tb.below b1
          clear b1
          obtain ⟨d0, d1, d2, d3, d4⟩ := tb.c4; obtain ⟨r0, r1, r2, r3, r4, r5, r6⟩ := tb.r6
          go_wp2_with (first | (go_at_call 34; refine (refKindBits_any q.c q.a q.n Ao As Ap lo co ls cs lp cp _).mono ?_; rintro e w9 ⟨rfl, b9⟩; rw [HB.out]; have tb := tb.below b9; obtain ⟨d0, d1, d2, d3, d4⟩ := tb.c4; obtain ⟨r0, r1, r2, r3, r4, r5, r6⟩ := tb.r6) | (go_at_call 36; refine (refWords_kind q.c q.a q.n Ao As Ap lo co ls cs lp cp _).mono ?_; rintro e w9 ⟨rfl, b9⟩; rw [HW.out]; have tb := tb.below b9; obtain ⟨d0, d1, d2, d3, d4⟩ := tb.c4; obtain ⟨r0, r1, r2, r3, r4, r5, r6⟩ := tb.r6) | (go_at_call 38; refine (refFiles_kind q.c q.a q.n Ao As Ap lo co ls cs lp cp _).mono ?_; rintro e w9 ⟨rfl, b9⟩; rw [HF.out]; have tb := tb.below b9; obtain ⟨d0, d1, d2, d3, d4⟩ := tb.c4; obtain ⟨r0, r1, r2, r3, r4, r5, r6⟩ := tb.r6))
          go_loopw [6] (fun i wr => ∃ k : Nat, k ≤ mf ∧ i = .int .i64 k ∧ TB w w.heap.size (.cells #[.int .i64 q.c, .int .i64 q.a, .int .i64 q.n, .slice Ao lo co, .slice As ls cs, .slice Ap lp cp] 26 (0, 0)) (.cells #[.int .i64 r.x, .slice Bo mo eo, .slice Bs ms es, .slice Bf mf ef] 29 (0, 0)) wr ∧ Hid (∀ j, j < k → ((nthF r.fs j).length : Int) = nth q.fl (3 * j + 2))) (fun i _ => mf - (intOf i).toNat)
          case atStart => exact ⟨0, by omega, rfl, tb, Lib.hid (fun j h => by omega)⟩
          case round =>
            clear d0 d1 d2 d3 d4 r0 r1 r2 r3 r4 r5 r6 tb
            obtain ⟨k, hk, rfl, tb, hs⟩ := hrel
            by_cases hlt : k < mf
            · exact absurd hlt (by omega)
            · obtain rfl : k = mf := by omega
              have hl : Hid (E = 0) := Lib.hid (by rw [HEM.out, HN.out]; rfl)
              obtain ⟨d0, d1, d2, d3, d4⟩ := tb.c4; obtain ⟨r0, r1, r2, r3, r4, r5, r6⟩ := tb.r6
              go_wp2
              go_ret
              exact ⟨by rw [hl.out]; rfl, tb.bel⟩
        · have u3 : ((ms : Int) != q.n) = true := by simpa using he
          have u4 : ((ms : Int) == q.n) = false := beq_false_of_ne he
          have HN : Hid (manyB q r = false) := Lib.hid (by rw [HM2.out]; exact decide_eq_false he)
          clear he
          have hl : Hid (E = 22) := Lib.hid (by rw [HEM.out, HN.out]; rfl)
          clear HE HS
          go_enter Try.func33, Try.ntmps33
          go_wp2_with fail
          refine HC.out.mono ?_
          rintro e w1 ⟨rfl, b1⟩
          have tb := tb.below b1
          clear b1
          obtain ⟨d0, d1, d2, d3, d4⟩ := tb.c4; obtain ⟨r0, r1, r2, r3, r4, r5, r6⟩ := tb.r6
          go_wp2_with (first | (go_at_call 34; refine (refKindBits_any q.c q.a q.n Ao As Ap lo co ls cs lp cp _).mono ?_; rintro e w9 ⟨rfl, b9⟩; rw [HB.out]; have tb := tb.below b9; obtain ⟨d0, d1, d2, d3, d4⟩ := tb.c4; obtain ⟨r0, r1, r2, r3, r4, r5, r6⟩ := tb.r6) | (go_at_call 36; refine (refWords_kind q.c q.a q.n Ao As Ap lo co ls cs lp cp _).mono ?_; rintro e w9 ⟨rfl, b9⟩; rw [HW.out]; have tb := tb.below b9; obtain ⟨d0, d1, d2, d3, d4⟩ := tb.c4; obtain ⟨r0, r1, r2, r3, r4, r5, r6⟩ := tb.r6) | (go_at_call 38; refine (refFiles_kind q.c q.a q.n Ao As Ap lo co ls cs lp cp _).mono ?_; rintro e w9 ⟨rfl, b9⟩; rw [HF.out]; have tb := tb.below b9; obtain ⟨d0, d1, d2, d3, d4⟩ := tb.c4; obtain ⟨r0, r1, r2, r3, r4, r5, r6⟩ := tb.r6))
          go_ret
          exact ⟨by rw [hl.out]; rfl, tb.bel⟩
end Go.Proofs.Ytobhllcnljggiaa
namespace Go.Proofs.Ytobhllcnljggiaa
open Go.RowKit
set_option linter.unusedVariables false

set_option maxHeartbeats 4000000 in
set_option maxRecDepth 100000 in
theorem refRp_files (q : Req) (r : Rep) (Ao As Ap Bo Bs Bf : Option Addr) (lo ls lp co cs cp mo ms mf eo es ef : Nat) (w : World) (h : Asked w w.heap.size q Ao As Ap lo ls lp) (hr : Repd w w.heap.size r Bo Bs Bf mo ms mf) (hb : lp ≤ 100000) (hk : chkQ q = 0) (hx : r.x = 0) (hc : q.c = 20) :
    Calls Try.prog 33 #[.agg #[.int .i64 q.c, .int .i64 q.a, .int .i64 q.n, .slice Ao lo co, .slice As ls cs, .slice Ap lp cp], .agg #[.int .i64 r.x, .slice Bo mo eo, .slice Bs ms es, .slice Bf mf ef]] w fun e w' => e = .returned (.int .i64 (chkR q r)) ∧ Below w.heap.size w w' := by
  have tb := TB.new2 w #[.int .i64 q.c, .int .i64 q.a, .int .i64 q.n, .slice Ao lo co, .slice As ls cs, .slice Ap lp cp] #[.int .i64 r.x, .slice Bo mo eo, .slice Bs ms es, .slice Bf mf ef] 26 29
  have hsz : w.heap.size ≤ ((w.alloc (.cells #[.int .i64 q.c, .int .i64 q.a, .int .i64 q.n, .slice Ao lo co, .slice As ls cs, .slice Ap lp cp] 26)).alloc (.cells #[.int .i64 r.x, .slice Bo mo eo, .slice Bs ms es, .slice Bf mf ef] 29)).heap.size := tb.bel.size
  have H0 := Lib.hid h
  have HR0 := Lib.hid hr
  have H := Lib.hid ((h.below tb.bel).more hsz)
  obtain ⟨E, hE⟩ : ∃ E, Hid (chkR q r = E) := ⟨_, Lib.hid rfl⟩
  rw [hE.out]
  have HMO := Lib.hid hr.mo
  have HMS := Lib.hid hr.ms
  have HMF := Lib.hid hr.mf
  have HC := Lib.hid (refCheck_any q Ao As Ap lo ls lp co cs cp _ H.out)
  rw [chkQ_of H.out, hk] at HC
  have HB : Hid (clB q.c = false) := Lib.hid (decide_eq_false (by omega))
  have HW : Hid (clW q.c = false) := Lib.hid (decide_eq_false (by omega))
  have HF : Hid (clF q.c = true) := Lib.hid (decide_eq_true hc)
  have HS : Hid (strayB q.c mo ms mf = anyB mo ms 0) := Lib.hid (by unfold strayB; rw [if_neg (show ¬ (q.c = 1 ∨ q.c = 2) by omega), if_neg (show ¬ (q.c = 3 ∨ q.c = 4) by omega), if_pos hc])
  have HM2 : Hid (manyB q r = fitsB q.fl r.fs) := Lib.hid (by unfold manyB; rw [if_neg (show ¬ (q.c = 1 ∨ q.c = 2) by omega), if_neg (show ¬ (q.c = 3 ∨ q.c = 4) by omega), if_pos hc])
  have HE : Hid (E = if strayB q.c mo ms mf = true then 23 else if manyB q r = false then 22 else 0) := Lib.hid (by
    rw [← hE.out]; unfold chkR; rw [if_neg (show ¬ chkQ q ≠ 0 by rw [hk]; simp), if_neg (show ¬ r.x ≠ 0 by simp [hx]), HMO.out, HMS.out, HMF.out])
  have u1 : (r.x != 0) = false := by simp [hx]
  have u2 : (r.x == 0) = true := by simp [hx]
  clear h hr hk hx hE H hc
  by_cases g1 : 0 < mo
  · have g1' : (0 : Int) < (mo : Int) := by omega
    by_cases g2 : 0 < ms
    · have g2' : (0 : Int) < (ms : Int) := by omega
      by_cases g3 : 0 < mf
      · have g3' : (0 : Int) < (mf : Int) := by omega
        have hl : Hid (E = 23) := Lib.hid (by rw [HE.out, HS.out, if_pos (by simp [anyB]; omega)])
        clear HE HS
        go_enter Try.func33, Try.ntmps33
        go_wp2_with fail
        refine HC.out.mono ?_
        rintro e w1 ⟨rfl, b1⟩
        have tb := tb.below b1
        clear b1
        obtain ⟨d0, d1, d2, d3, d4⟩ := tb.c4; obtain ⟨r0, r1, r2, r3, r4, r5, r6⟩ := tb.r6
        go_wp2_with (first | (go_at_call 34; refine (refKindBits_any q.c q.a q.n Ao As Ap lo co ls cs lp cp _).mono ?_; rintro e w9 ⟨rfl, b9⟩; rw [HB.out]; have tb := tb.below b9; obtain ⟨d0, d1, d2, d3, d4⟩ := tb.c4; obtain ⟨r0, r1, r2, r3, r4, r5, r6⟩ := tb.r6) | (go_at_call 36; refine (refWords_kind q.c q.a q.n Ao As Ap lo co ls cs lp cp _).mono ?_; rintro e w9 ⟨rfl, b9⟩; rw [HW.out]; have tb := tb.below b9; obtain ⟨d0, d1, d2, d3, d4⟩ := tb.c4; obtain ⟨r0, r1, r2, r3, r4, r5, r6⟩ := tb.r6) | (go_at_call 38; refine (refFiles_kind q.c q.a q.n Ao As Ap lo co ls cs lp cp _).mono ?_; rintro e w9 ⟨rfl, b9⟩; rw [HF.out]; have tb := tb.below b9; obtain ⟨d0, d1, d2, d3, d4⟩ := tb.c4; obtain ⟨r0, r1, r2, r3, r4, r5, r6⟩ := tb.r6))
        go_ret
        exact ⟨by rw [hl.out]; rfl, tb.bel⟩
      · have g3' : ¬ (0 : Int) < (mf : Int) := by omega
        have hl : Hid (E = 23) := Lib.hid (by rw [HE.out, HS.out, if_pos (by simp [anyB]; omega)])
        clear HE HS
        go_enter Try.func33, Try.ntmps33
        go_wp2_with fail
        refine HC.out.mono ?_
        rintro e w1 ⟨rfl, b1⟩
        have tb := tb.below b1
        clear b1
        obtain ⟨d0, d1, d2, d3, d4⟩ := tb.c4; obtain ⟨r0, r1, r2, r3, r4, r5, r6⟩ := tb.r6
        go_wp2_with (first | (go_at_call 34; refine (refKindBits_any q.c q.a q.n Ao As Ap lo co ls cs lp cp _).mono ?_; rintro e w9 ⟨rfl, b9⟩; rw [HB.out]; have tb := tb.below b9; obtain ⟨d0, d1, d2, d3, d4⟩ := tb.c4; obtain ⟨r0, r1, r2, r3, r4, r5, r6⟩ := tb.r6) | (go_at_call 36; refine (refWords_kind q.c q.a q.n Ao As Ap lo co ls cs lp cp _).mono ?_; rintro e w9 ⟨rfl, b9⟩; rw [HW.out]; have tb := tb.below b9; obtain ⟨d0, d1, d2, d3, d4⟩ := tb.c4; obtain ⟨r0, r1, r2, r3, r4, r5, r6⟩ := tb.r6) | (go_at_call 38; refine (refFiles_kind q.c q.a q.n Ao As Ap lo co ls cs lp cp _).mono ?_; rintro e w9 ⟨rfl, b9⟩; rw [HF.out]; have tb := tb.below b9; obtain ⟨d0, d1, d2, d3, d4⟩ := tb.c4; obtain ⟨r0, r1, r2, r3, r4, r5, r6⟩ := tb.r6))
        go_ret
        exact ⟨by rw [hl.out]; rfl, tb.bel⟩
    · have g2' : ¬ (0 : Int) < (ms : Int) := by omega
      by_cases g3 : 0 < mf
      · have g3' : (0 : Int) < (mf : Int) := by omega
        have hl : Hid (E = 23) := Lib.hid (by rw [HE.out, HS.out, if_pos (by simp [anyB]; omega)])
        clear HE HS
        go_enter Try.func33, Try.ntmps33
        go_wp2_with fail
        refine HC.out.mono ?_
        rintro e w1 ⟨rfl, b1⟩
        have tb := tb.below b1
        clear b1
        obtain ⟨d0, d1, d2, d3, d4⟩ := tb.c4; obtain ⟨r0, r1, r2, r3, r4, r5, r6⟩ := tb.r6
        go_wp2_with (first | (go_at_call 34; refine (refKindBits_any q.c q.a q.n Ao As Ap lo co ls cs lp cp _).mono ?_; rintro e w9 ⟨rfl, b9⟩; rw [HB.out]; have tb := tb.below b9; obtain ⟨d0, d1, d2, d3, d4⟩ := tb.c4; obtain ⟨r0, r1, r2, r3, r4, r5, r6⟩ := tb.r6) | (go_at_call 36; refine (refWords_kind q.c q.a q.n Ao As Ap lo co ls cs lp cp _).mono ?_; rintro e w9 ⟨rfl, b9⟩; rw [HW.out]; have tb := tb.below b9; obtain ⟨d0, d1, d2, d3, d4⟩ := tb.c4; obtain ⟨r0, r1, r2, r3, r4, r5, r6⟩ := tb.r6) | (go_at_call 38; refine (refFiles_kind q.c q.a q.n Ao As Ap lo co ls cs lp cp _).mono ?_; rintro e w9 ⟨rfl, b9⟩; rw [HF.out]; have tb := tb.below b9; obtain ⟨d0, d1, d2, d3, d4⟩ := tb.c4; obtain ⟨r0, r1, r2, r3, r4, r5, r6⟩ := tb.r6))
        go_ret
        exact ⟨by rw [hl.out]; rfl, tb.bel⟩
      · have g3' : ¬ (0 : Int) < (mf : Int) := by omega
        have hl : Hid (E = 23) := Lib.hid (by rw [HE.out, HS.out, if_pos (by simp [anyB]; omega)])
        clear HE HS
        go_enter Try.func33, Try.ntmps33
        go_wp2_with fail
        refine HC.out.mono ?_
        rintro e w1 ⟨rfl, b1⟩
        have tb := tb.below b1
        clear b1
        obtain ⟨d0, d1, d2, d3, d4⟩ := tb.c4; obtain ⟨r0, r1, r2, r3, r4, r5, r6⟩ := tb.r6
        go_wp2_with (first | (go_at_call 34; refine (refKindBits_any q.c q.a q.n Ao As Ap lo co ls cs lp cp _).mono ?_; rintro e w9 ⟨rfl, b9⟩; rw [HB.out]; have tb := tb.below b9; obtain ⟨d0, d1, d2, d3, d4⟩ := tb.c4; obtain ⟨r0, r1, r2, r3, r4, r5, r6⟩ := tb.r6) | (go_at_call 36; refine (refWords_kind q.c q.a q.n Ao As Ap lo co ls cs lp cp _).mono ?_; rintro e w9 ⟨rfl, b9⟩; rw [HW.out]; have tb := tb.below b9; obtain ⟨d0, d1, d2, d3, d4⟩ := tb.c4; obtain ⟨r0, r1, r2, r3, r4, r5, r6⟩ := tb.r6) | (go_at_call 38; refine (refFiles_kind q.c q.a q.n Ao As Ap lo co ls cs lp cp _).mono ?_; rintro e w9 ⟨rfl, b9⟩; rw [HF.out]; have tb := tb.below b9; obtain ⟨d0, d1, d2, d3, d4⟩ := tb.c4; obtain ⟨r0, r1, r2, r3, r4, r5, r6⟩ := tb.r6))
        go_ret
        exact ⟨by rw [hl.out]; rfl, tb.bel⟩
  · have g1' : ¬ (0 : Int) < (mo : Int) := by omega
    by_cases g2 : 0 < ms
    · have g2' : (0 : Int) < (ms : Int) := by omega
      by_cases g3 : 0 < mf
      · have g3' : (0 : Int) < (mf : Int) := by omega
        have hl : Hid (E = 23) := Lib.hid (by rw [HE.out, HS.out, if_pos (by simp [anyB]; omega)])
        clear HE HS
        go_enter Try.func33, Try.ntmps33
        go_wp2_with fail
        refine HC.out.mono ?_
        rintro e w1 ⟨rfl, b1⟩
        have tb := tb.below b1
        clear b1
        obtain ⟨d0, d1, d2, d3, d4⟩ := tb.c4; obtain ⟨r0, r1, r2, r3, r4, r5, r6⟩ := tb.r6
        go_wp2_with (first | (go_at_call 34; refine (refKindBits_any q.c q.a q.n Ao As Ap lo co ls cs lp cp _).mono ?_; rintro e w9 ⟨rfl, b9⟩; rw [HB.out]; have tb := tb.below b9; obtain ⟨d0, d1, d2, d3, d4⟩ := tb.c4; obtain ⟨r0, r1, r2, r3, r4, r5, r6⟩ := tb.r6) | (go_at_call 36; refine (refWords_kind q.c q.a q.n Ao As Ap lo co ls cs lp cp _).mono ?_; rintro e w9 ⟨rfl, b9⟩; rw [HW.out]; have tb := tb.below b9; obtain ⟨d0, d1, d2, d3, d4⟩ := tb.c4; obtain ⟨r0, r1, r2, r3, r4, r5, r6⟩ := tb.r6) | (go_at_call 38; refine (refFiles_kind q.c q.a q.n Ao As Ap lo co ls cs lp cp _).mono ?_; rintro e w9 ⟨rfl, b9⟩; rw [HF.out]; have tb := tb.below b9; obtain ⟨d0, d1, d2, d3, d4⟩ := tb.c4; obtain ⟨r0, r1, r2, r3, r4, r5, r6⟩ := tb.r6))
        go_ret
        exact ⟨by rw [hl.out]; rfl, tb.bel⟩
      · have g3' : ¬ (0 : Int) < (mf : Int) := by omega
        have hl : Hid (E = 23) := Lib.hid (by rw [HE.out, HS.out, if_pos (by simp [anyB]; omega)])
        clear HE HS
        go_enter Try.func33, Try.ntmps33
        go_wp2_with fail
        refine HC.out.mono ?_
        rintro e w1 ⟨rfl, b1⟩
        have tb := tb.below b1
        clear b1
        obtain ⟨d0, d1, d2, d3, d4⟩ := tb.c4; obtain ⟨r0, r1, r2, r3, r4, r5, r6⟩ := tb.r6
        go_wp2_with (first | (go_at_call 34; refine (refKindBits_any q.c q.a q.n Ao As Ap lo co ls cs lp cp _).mono ?_; rintro e w9 ⟨rfl, b9⟩; rw [HB.out]; have tb := tb.below b9; obtain ⟨d0, d1, d2, d3, d4⟩ := tb.c4; obtain ⟨r0, r1, r2, r3, r4, r5, r6⟩ := tb.r6) | (go_at_call 36; refine (refWords_kind q.c q.a q.n Ao As Ap lo co ls cs lp cp _).mono ?_; rintro e w9 ⟨rfl, b9⟩; rw [HW.out]; have tb := tb.below b9; obtain ⟨d0, d1, d2, d3, d4⟩ := tb.c4; obtain ⟨r0, r1, r2, r3, r4, r5, r6⟩ := tb.r6) | (go_at_call 38; refine (refFiles_kind q.c q.a q.n Ao As Ap lo co ls cs lp cp _).mono ?_; rintro e w9 ⟨rfl, b9⟩; rw [HF.out]; have tb := tb.below b9; obtain ⟨d0, d1, d2, d3, d4⟩ := tb.c4; obtain ⟨r0, r1, r2, r3, r4, r5, r6⟩ := tb.r6))
        go_ret
        exact ⟨by rw [hl.out]; rfl, tb.bel⟩
    · have g2' : ¬ (0 : Int) < (ms : Int) := by omega
      by_cases g3 : 0 < mf
      · have g3' : (0 : Int) < (mf : Int) := by omega
        have HEM : Hid (E = if manyB q r = false then 22 else 0) := Lib.hid (by rw [HE.out, HS.out, if_neg (by simp [anyB]; try omega)])
        by_cases he : mf = lp
        · have u3 : ((mf : Int) != (lp : Int)) = false := by simp [he]
          have u4 : ((mf : Int) == (lp : Int)) = true := by simp [he]
          have HLE := Lib.hid he
          clear HE HS he
          go_enter Try.func33, Try.ntmps33
          go_wp2_with fail
          refine HC.out.mono ?_
          rintro e w1 ⟨rfl, b1⟩
          have tb := tb.below b1
          clear b1
          obtain ⟨d0, d1, d2, d3, d4⟩ := tb.c4; obtain ⟨r0, r1, r2, r3, r4, r5, r6⟩ := tb.r6
          go_wp2_with (first | (go_at_call 34; refine (refKindBits_any q.c q.a q.n Ao As Ap lo co ls cs lp cp _).mono ?_; rintro e w9 ⟨rfl, b9⟩; rw [HB.out]; have tb := tb.below b9; obtain ⟨d0, d1, d2, d3, d4⟩ := tb.c4; obtain ⟨r0, r1, r2, r3, r4, r5, r6⟩ := tb.r6) | (go_at_call 36; refine (refWords_kind q.c q.a q.n Ao As Ap lo co ls cs lp cp _).mono ?_; rintro e w9 ⟨rfl, b9⟩; rw [HW.out]; have tb := tb.below b9; obtain ⟨d0, d1, d2, d3, d4⟩ := tb.c4; obtain ⟨r0, r1, r2, r3, r4, r5, r6⟩ := tb.r6) | (go_at_call 38; refine (refFiles_kind q.c q.a q.n Ao As Ap lo co ls cs lp cp _).mono ?_; rintro e w9 ⟨rfl, b9⟩; rw [HF.out]; have tb := tb.below b9; obtain ⟨d0, d1, d2, d3, d4⟩ := tb.c4; obtain ⟨r0, r1, r2, r3, r4, r5, r6⟩ := tb.r6))
          go_loopw [6] (fun i wr => ∃ k : Nat, k ≤ mf ∧ i = .int .i64 k ∧ TB w w.heap.size (.cells #[.int .i64 q.c, .int .i64 q.a, .int .i64 q.n, .slice Ao lo co, .slice As ls cs, .slice Ap lp cp] 26 (0, 0)) (.cells #[.int .i64 r.x, .slice Bo mo eo, .slice Bs ms es, .slice Bf mf ef] 29 (0, 0)) wr ∧ Hid (∀ j, j < k → ((nthF r.fs j).length : Int) = nth q.fl (3 * j + 2))) (fun i _ => mf - (intOf i).toNat)
          case atStart => exact ⟨0, by omega, rfl, tb, Lib.hid (fun j h => by omega)⟩
          case round =>
            clear d0 d1 d2 d3 d4 r0 r1 r2 r3 r4 r5 r6 tb
            obtain ⟨k, hk, rfl, tb, hs⟩ := hrel
            by_cases hlt : k < mf
            · obtain ⟨d0, d1, d2, d3, d4⟩ := tb.c4; obtain ⟨r0, r1, r2, r3, r4, r5, r6⟩ := tb.r6
              go_wp2_with fail
              have hltp : (k : Int) < (lp : Int) := by have := HLE.out; omega
              obtain ⟨b, o, hAp, hb1, hc1, hc2, hc3⟩ := H0.out.fl.three (k := k) (by have := H0.out.lp; have := HLE.out; omega)
              obtain ⟨bf, of, hBf, hb2, hcf⟩ := HR0.out.fs (by have := HMF.out; omega)
              obtain ⟨Ai, ci, hci, _, _⟩ := hcf k (by have := HMF.out; omega)
              have hcf2 := (tb.bel.cell (p := ⟨bf, of + k, none⟩) hb2).trans hci
              have hcp2 := (tb.bel.cell (p := ⟨b, o + k * 3 + 2, none⟩) hb1).trans hc3
              subst hAp hBf
              obtain ⟨p, hpp⟩ : ∃ p, Hid (nth q.fl (3 * k + 2) = p) := ⟨_, Lib.hid rfl⟩
              obtain ⟨z, hzz⟩ : ∃ z, Hid ((nthF r.fs k).length = z) := ⟨_, Lib.hid rfl⟩
              rw [hpp.out] at hcp2
              rw [hzz.out] at hcf2
              clear hci hcf hc1 hc2 hc3
              by_cases he : (z : Int) = p
              · have u3 : ((z : Int) != p) = false := by simp [he]
                have u4 : ((z : Int) == p) = true := by simp [he]
                have HEQ := Lib.hid he
                clear he
                go_quiet (fail)
                have tbq := tb.below (bel_drewN wr nq)
                clear tb d0 d1 d2 d3 d4 r0 r1 r2 r3 r4 r5 r6 hcf2 hcp2
                go_wp2
                go_roundw
                case rel => exact ⟨k + 1, by omega, by go_num, tbq, Lib.hid (fun j hj => by
                  rcases Nat.lt_succ_iff_lt_or_eq.1 hj with h | h
                  · exact hs.out j h
                  · subst h; rw [hzz.out, hpp.out]; exact HEQ.out)⟩
                case measure => simp [intOf]; omega
              · have u3 : ((z : Int) != p) = true := by simpa using he
                have u4 : ((z : Int) == p) = false := beq_false_of_ne he
                have hl : Hid (E = 22) := Lib.hid (by rw [HEM.out, HM2.out, fitsB_no (i := k) (by rw [HMF.out]; exact hlt) (by rw [hzz.out, hpp.out]; exact he)]; rfl)
                clear he
                go_quiet (fail)
                have tbq := tb.below (bel_drewN wr nq)
                go_wp2
                go_ret
                exact ⟨by rw [hl.out]; rfl, tbq.bel⟩
            · obtain rfl : k = mf := by omega
              have hl : Hid (E = 0) := Lib.hid (by rw [HEM.out, HM2.out, fitsB_yes (by rw [H0.out.lp, HMF.out, HLE.out]) (fun i hi => hs.out i (by rw [← HMF.out]; exact hi))]; rfl)
              obtain ⟨d0, d1, d2, d3, d4⟩ := tb.c4; obtain ⟨r0, r1, r2, r3, r4, r5, r6⟩ := tb.r6
              go_wp2
              go_ret
              exact ⟨by rw [hl.out]; rfl, tb.bel⟩
        · have u3 : ((mf : Int) != (lp : Int)) = true := by simp; omega
          have u4 : ((mf : Int) == (lp : Int)) = false := beq_false_of_ne (by omega)
          have HN : Hid (manyB q r = false) := Lib.hid (by rw [HM2.out]; exact fitsB_len (by rw [H0.out.lp, HMF.out]; omega))
          clear he
          have hl : Hid (E = 22) := Lib.hid (by rw [HEM.out, HN.out]; rfl)
          clear HE HS
          go_enter Try.func33, Try.ntmps33
          go_wp2_with fail
          refine HC.out.mono ?_
          rintro e w1 ⟨rfl, b1⟩
          have tb := tb.below b1
          clear b1
          obtain ⟨d0, d1, d2, d3, d4⟩ := tb.c4; obtain ⟨r0, r1, r2, r3, r4, r5, r6⟩ := tb.r6
          go_wp2_with (first | (go_at_call 34; refine (refKindBits_any q.c q.a q.n Ao As Ap lo co ls cs lp cp _).mono ?_; rintro e w9 ⟨rfl, b9⟩; rw [HB.out]; have tb := tb.below b9; obtain ⟨d0, d1, d2, d3, d4⟩ := tb.c4; obtain ⟨r0, r1, r2, r3, r4, r5, r6⟩ := tb.r6) | (go_at_call 36; refine (refWords_kind q.c q.a q.n Ao As Ap lo co ls cs lp cp _).mono ?_; rintro e w9 ⟨rfl, b9⟩; rw [HW.out]; have tb := tb.below b9; obtain ⟨d0, d1, d2, d3, d4⟩ := tb.c4; obtain ⟨r0, r1, r2, r3, r4, r5, r6⟩ := tb.r6) | (go_at_call 38; refine (refFiles_kind q.c q.a q.n Ao As Ap lo co ls cs lp cp _).mono ?_; rintro e w9 ⟨rfl, b9⟩; rw [HF.out]; have tb := tb.below b9; obtain ⟨d0, d1, d2, d3, d4⟩ := tb.c4; obtain ⟨r0, r1, r2, r3, r4, r5, r6⟩ := tb.r6))
          go_ret
          exact ⟨by rw [hl.out]; rfl, tb.bel⟩
      · have g3' : ¬ (0 : Int) < (mf : Int) := by omega
        have HEM : Hid (E = if manyB q r = false then 22 else 0) := Lib.hid (by rw [HE.out, HS.out, if_neg (by simp [anyB]; try omega)])
        by_cases he : mf = lp
        · have u3 : ((mf : Int) != (lp : Int)) = false := by simp [he]
          have u4 : ((mf : Int) == (lp : Int)) = true := by simp [he]
          have HLE := Lib.hid he
          clear HE HS he
          go_enter Try.func33, Try.ntmps33
          go_wp2_with fail
          refine HC.out.mono ?_
          rintro e w1 ⟨rfl, b1⟩
          have tb := tb.below b1
          clear b1
          obtain ⟨d0, d1, d2, d3, d4⟩ := tb.c4; obtain ⟨r0, r1, r2, r3, r4, r5, r6⟩ := tb.r6
          go_wp2_with (first | (go_at_call 34; refine (refKindBits_any q.c q.a q.n Ao As Ap lo co ls cs lp cp _).mono ?_; rintro e w9 ⟨rfl, b9⟩; rw [HB.out]; have tb := tb.below b9; obtain ⟨d0, d1, d2, d3, d4⟩ := tb.c4; obtain ⟨r0, r1, r2, r3, r4, r5, r6⟩ := tb.r6) | (go_at_call 36; refine (refWords_kind q.c q.a q.n Ao As Ap lo co ls cs lp cp _).mono ?_; rintro e w9 ⟨rfl, b9⟩; rw [HW.out]; have tb := tb.below b9; obtain ⟨d0, d1, d2, d3, d4⟩ := tb.c4; obtain ⟨r0, r1, r2, r3, r4, r5, r6⟩ := tb.r6) | (go_at_call 38; refine (refFiles_kind q.c q.a q.n Ao As Ap lo co ls cs lp cp _).mono ?_; rintro e w9 ⟨rfl, b9⟩; rw [HF.out]; have tb := tb.below b9; obtain ⟨d0, d1, d2, d3, d4⟩ := tb.c4; obtain ⟨r0, r1, r2, r3, r4, r5, r6⟩ := tb.r6))
          go_loopw [6] (fun i wr => ∃ k : Nat, k ≤ mf ∧ i = .int .i64 k ∧ TB w w.heap.size (.cells #[.int .i64 q.c, .int .i64 q.a, .int .i64 q.n, .slice Ao lo co, .slice As ls cs, .slice Ap lp cp] 26 (0, 0)) (.cells #[.int .i64 r.x, .slice Bo mo eo, .slice Bs ms es, .slice Bf mf ef] 29 (0, 0)) wr ∧ Hid (∀ j, j < k → ((nthF r.fs j).length : Int) = nth q.fl (3 * j + 2))) (fun i _ => mf - (intOf i).toNat)
          case atStart => exact ⟨0, by omega, rfl, tb, Lib.hid (fun j h => by omega)⟩
          case round =>
            clear d0 d1 d2 d3 d4 r0 r1 r2 r3 r4 r5 r6 tb
            obtain ⟨k, hk, rfl, tb, hs⟩ := hrel
            by_cases hlt : k < mf
            · exact absurd hlt (by omega)
            · obtain rfl : k = mf := by omega
              have hl : Hid (E = 0) := Lib.hid (by rw [HEM.out, HM2.out, fitsB_yes (by rw [H0.out.lp, HMF.out, HLE.out]) (fun i hi => hs.out i (by rw [← HMF.out]; exact hi))]; rfl)
              obtain ⟨d0, d1, d2, d3, d4⟩ := tb.c4; obtain ⟨r0, r1, r2, r3, r4, r5, r6⟩ := tb.r6
              go_wp2
              go_ret
              exact ⟨by rw [hl.out]; rfl, tb.bel⟩
        · have u3 : ((mf : Int) != (lp : Int)) = true := by simp; omega
          have u4 : ((mf : Int) == (lp : Int)) = false := beq_false_of_ne (by omega)
          have HN : Hid (manyB q r = false) := Lib.hid (by rw [HM2.out]; exact fitsB_len (by rw [H0.out.lp, HMF.out]; omega))
          clear he
          have hl : Hid (E = 22) := Lib.hid (by rw [HEM.out, HN.out]; rfl)
          clear HE HS
          go_enter Try.func33, Try.ntmps33
          go_wp2_with fail
          refine HC.out.mono ?_
          rintro e w1 ⟨rfl, b1⟩
          have tb := tb.below b1
          clear b1
          obtain ⟨d0, d1, d2, d3, d4⟩ := tb.c4; obtain ⟨r0, r1, r2, r3, r4, r5, r6⟩ := tb.r6
          go_wp2_with (first | (go_at_call 34; refine (refKindBits_any q.c q.a q.n Ao As Ap lo co ls cs lp cp _).mono ?_; rintro e w9 ⟨rfl, b9⟩; rw [HB.out]; have tb := tb.below b9; obtain ⟨d0, d1, d2, d3, d4⟩ := tb.c4; obtain ⟨r0, r1, r2, r3, r4, r5, r6⟩ := tb.r6) | (go_at_call 36; refine (refWords_kind q.c q.a q.n Ao As Ap lo co ls cs lp cp _).mono ?_; rintro e w9 ⟨rfl, b9⟩; rw [HW.out]; have tb := tb.below b9; obtain ⟨d0, d1, d2, d3, d4⟩ := tb.c4; obtain ⟨r0, r1, r2, r3, r4, r5, r6⟩ := tb.r6) | (go_at_call 38; refine (refFiles_kind q.c q.a q.n Ao As Ap lo co ls cs lp cp _).mono ?_; rintro e w9 ⟨rfl, b9⟩; rw [HF.out]; have tb := tb.below b9; obtain ⟨d0, d1, d2, d3, d4⟩ := tb.c4; obtain ⟨r0, r1, r2, r3, r4, r5, r6⟩ := tb.r6))
          go_ret
          exact ⟨by rw [hl.out]; rfl, tb.bel⟩
end Go.Proofs.Ytobhllcnljggiaa
namespace Go.Proofs.Ytobhllcnljggiaa
open Go.RowKit
set_option linter.unusedVariables false

set_option maxHeartbeats 4000000 in
set_option maxRecDepth 100000 in
theorem refRp_else (q : Req) (r : Rep) (Ao As Ap Bo Bs Bf : Option Addr) (lo ls lp co cs cp mo ms mf eo es ef : Nat) (w : World) (h : Asked w w.heap.size q Ao As Ap lo ls lp) (hr : Repd w w.heap.size r Bo Bs Bf mo ms mf) (hb : lp ≤ 100000) (hk : chkQ q = 0) (hx : r.x = 0) (hc : ¬ (q.c = 1 ∨ q.c = 2) ∧ ¬ (q.c = 3 ∨ q.c = 4) ∧ ¬ (q.c = 20)) :
    Calls Try.prog 33 #[.agg #[.int .i64 q.c, .int .i64 q.a, .int .i64 q.n, .slice Ao lo co, .slice As ls cs, .slice Ap lp cp], .agg #[.int .i64 r.x, .slice Bo mo eo, .slice Bs ms es, .slice Bf mf ef]] w fun e w' => e = .returned (.int .i64 (chkR q r)) ∧ Below w.heap.size w w' := by
  have tb := TB.new2 w #[.int .i64 q.c, .int .i64 q.a, .int .i64 q.n, .slice Ao lo co, .slice As ls cs, .slice Ap lp cp] #[.int .i64 r.x, .slice Bo mo eo, .slice Bs ms es, .slice Bf mf ef] 26 29
  have hsz : w.heap.size ≤ ((w.alloc (.cells #[.int .i64 q.c, .int .i64 q.a, .int .i64 q.n, .slice Ao lo co, .slice As ls cs, .slice Ap lp cp] 26)).alloc (.cells #[.int .i64 r.x, .slice Bo mo eo, .slice Bs ms es, .slice Bf mf ef] 29)).heap.size := tb.bel.size
  have H0 := Lib.hid h
  have HR0 := Lib.hid hr
  have H := Lib.hid ((h.below tb.bel).more hsz)
  obtain ⟨E, hE⟩ : ∃ E, Hid (chkR q r = E) := ⟨_, Lib.hid rfl⟩
  rw [hE.out]
  have HMO := Lib.hid hr.mo
  have HMS := Lib.hid hr.ms
  have HMF := Lib.hid hr.mf
  have HC := Lib.hid (refCheck_any q Ao As Ap lo ls lp co cs cp _ H.out)
  rw [chkQ_of H.out, hk] at HC
  have HB : Hid (clB q.c = false) := Lib.hid (decide_eq_false (by omega))
  have HW : Hid (clW q.c = false) := Lib.hid (decide_eq_false (by omega))
  have HF : Hid (clF q.c = false) := Lib.hid (decide_eq_false (by omega))
  have HS : Hid (strayB q.c mo ms mf = anyB mo ms mf) := Lib.hid (by unfold strayB; rw [if_neg (show ¬ (q.c = 1 ∨ q.c = 2) by omega), if_neg (show ¬ (q.c = 3 ∨ q.c = 4) by omega), if_neg (show ¬ (q.c = 20) by omega)])
  have HM2 : Hid (manyB q r = true) := Lib.hid (by unfold manyB; rw [if_neg (show ¬ (q.c = 1 ∨ q.c = 2) by omega), if_neg (show ¬ (q.c = 3 ∨ q.c = 4) by omega), if_neg (show ¬ (q.c = 20) by omega)])
  have HE : Hid (E = if strayB q.c mo ms mf = true then 23 else if manyB q r = false then 22 else 0) := Lib.hid (by
    rw [← hE.out]; unfold chkR; rw [if_neg (show ¬ chkQ q ≠ 0 by rw [hk]; simp), if_neg (show ¬ r.x ≠ 0 by simp [hx]), HMO.out, HMS.out, HMF.out])
  have u1 : (r.x != 0) = false := by simp [hx]
  have u2 : (r.x == 0) = true := by simp [hx]
  clear h hr hk hx hE H hc
  by_cases g1 : 0 < mo
  · have g1' : (0 : Int) < (mo : Int) := by omega
    by_cases g2 : 0 < ms
    · have g2' : (0 : Int) < (ms : Int) := by omega
      by_cases g3 : 0 < mf
      · have g3' : (0 : Int) < (mf : Int) := by omega
        have hl : Hid (E = 23) := Lib.hid (by rw [HE.out, HS.out, if_pos (by simp [anyB]; omega)])
        clear HE HS
        go_enter Try.func33, Try.ntmps33
        go_wp2_with fail
        refine HC.out.mono ?_
        rintro e w1 ⟨rfl, b1⟩
        have tb := tb.below b1
        clear b1
        obtain ⟨d0, d1, d2, d3, d4⟩ := tb.c4; obtain ⟨r0, r1, r2, r3, r4, r5, r6⟩ := tb.r6
        go_wp2_with (first | (go_at_call 34; refine (refKindBits_any q.c q.a q.n Ao As Ap lo co ls cs lp cp _).mono ?_; rintro e w9 ⟨rfl, b9⟩; rw [HB.out]; have tb := tb.below b9; obtain ⟨d0, d1, d2, d3, d4⟩ := tb.c4; obtain ⟨r0, r1, r2, r3, r4, r5, r6⟩ := tb.r6) | (go_at_call 36; refine (refWords_kind q.c q.a q.n Ao As Ap lo co ls cs lp cp _).mono ?_; rintro e w9 ⟨rfl, b9⟩; rw [HW.out]; have tb := tb.below b9; obtain ⟨d0, d1, d2, d3, d4⟩ := tb.c4; obtain ⟨r0, r1, r2, r3, r4, r5, r6⟩ := tb.r6) | (go_at_call 38; refine (refFiles_kind q.c q.a q.n Ao As Ap lo co ls cs lp cp _).mono ?_; rintro e w9 ⟨rfl, b9⟩; rw [HF.out]; have tb := tb.below b9; obtain ⟨d0, d1, d2, d3, d4⟩ := tb.c4; obtain ⟨r0, r1, r2, r3, r4, r5, r6⟩ := tb.r6))
        go_ret
        exact ⟨by rw [hl.out]; rfl, tb.bel⟩
      · have g3' : ¬ (0 : Int) < (mf : Int) := by omega
        have hl : Hid (E = 23) := Lib.hid (by rw [HE.out, HS.out, if_pos (by simp [anyB]; omega)])
        clear HE HS
        go_enter Try.func33, Try.ntmps33
        go_wp2_with fail
        refine HC.out.mono ?_
        rintro e w1 ⟨rfl, b1⟩
        have tb := tb.below b1
        clear b1
        obtain ⟨d0, d1, d2, d3, d4⟩ := tb.c4; obtain ⟨r0, r1, r2, r3, r4, r5, r6⟩ := tb.r6
        go_wp2_with (first | (go_at_call 34; refine (refKindBits_any q.c q.a q.n Ao As Ap lo co ls cs lp cp _).mono ?_; rintro e w9 ⟨rfl, b9⟩; rw [HB.out]; have tb := tb.below b9; obtain ⟨d0, d1, d2, d3, d4⟩ := tb.c4; obtain ⟨r0, r1, r2, r3, r4, r5, r6⟩ := tb.r6) | (go_at_call 36; refine (refWords_kind q.c q.a q.n Ao As Ap lo co ls cs lp cp _).mono ?_; rintro e w9 ⟨rfl, b9⟩; rw [HW.out]; have tb := tb.below b9; obtain ⟨d0, d1, d2, d3, d4⟩ := tb.c4; obtain ⟨r0, r1, r2, r3, r4, r5, r6⟩ := tb.r6) | (go_at_call 38; refine (refFiles_kind q.c q.a q.n Ao As Ap lo co ls cs lp cp _).mono ?_; rintro e w9 ⟨rfl, b9⟩; rw [HF.out]; have tb := tb.below b9; obtain ⟨d0, d1, d2, d3, d4⟩ := tb.c4; obtain ⟨r0, r1, r2, r3, r4, r5, r6⟩ := tb.r6))
        go_ret
        exact ⟨by rw [hl.out]; rfl, tb.bel⟩
    · have g2' : ¬ (0 : Int) < (ms : Int) := by omega
      by_cases g3 : 0 < mf
      · have g3' : (0 : Int) < (mf : Int) := by omega
        have hl : Hid (E = 23) := Lib.hid (by rw [HE.out, HS.out, if_pos (by simp [anyB]; omega)])
        clear HE HS
        go_enter Try.func33, Try.ntmps33
        go_wp2_with fail
        refine HC.out.mono ?_
        rintro e w1 ⟨rfl, b1⟩
        have tb := tb.below b1
        clear b1
        obtain ⟨d0, d1, d2, d3, d4⟩ := tb.c4; obtain ⟨r0, r1, r2, r3, r4, r5, r6⟩ := tb.r6
        go_wp2_with (first | (go_at_call 34; refine (refKindBits_any q.c q.a q.n Ao As Ap lo co ls cs lp cp _).mono ?_; rintro e w9 ⟨rfl, b9⟩; rw [HB.out]; have tb := tb.below b9; obtain ⟨d0, d1, d2, d3, d4⟩ := tb.c4; obtain ⟨r0, r1, r2, r3, r4, r5, r6⟩ := tb.r6) | (go_at_call 36; refine (refWords_kind q.c q.a q.n Ao As Ap lo co ls cs lp cp _).mono ?_; rintro e w9 ⟨rfl, b9⟩; rw [HW.out]; have tb := tb.below b9; obtain ⟨d0, d1, d2, d3, d4⟩ := tb.c4; obtain ⟨r0, r1, r2, r3, r4, r5, r6⟩ := tb.r6) | (go_at_call 38; refine (refFiles_kind q.c q.a q.n Ao As Ap lo co ls cs lp cp _).mono ?_; rintro e w9 ⟨rfl, b9⟩; rw [HF.out]; have tb := tb.below b9; obtain ⟨d0, d1, d2, d3, d4⟩ := tb.c4; obtain ⟨r0, r1, r2, r3, r4, r5, r6⟩ := tb.r6))
        go_ret
        exact ⟨by rw [hl.out]; rfl, tb.bel⟩
      · have g3' : ¬ (0 : Int) < (mf : Int) := by omega
        have hl : Hid (E = 23) := Lib.hid (by rw [HE.out, HS.out, if_pos (by simp [anyB]; omega)])
        clear HE HS
        go_enter Try.func33, Try.ntmps33
        go_wp2_with fail
        refine HC.out.mono ?_
        rintro e w1 ⟨rfl, b1⟩
        have tb := tb.below b1
        clear b1
        obtain ⟨d0, d1, d2, d3, d4⟩ := tb.c4; obtain ⟨r0, r1, r2, r3, r4, r5, r6⟩ := tb.r6
        go_wp2_with (first | (go_at_call 34; refine (refKindBits_any q.c q.a q.n Ao As Ap lo co ls cs lp cp _).mono ?_; rintro e w9 ⟨rfl, b9⟩; rw [HB.out]; have tb := tb.below b9; obtain ⟨d0, d1, d2, d3, d4⟩ := tb.c4; obtain ⟨r0, r1, r2, r3, r4, r5, r6⟩ := tb.r6) | (go_at_call 36; refine (refWords_kind q.c q.a q.n Ao As Ap lo co ls cs lp cp _).mono ?_; rintro e w9 ⟨rfl, b9⟩; rw [HW.out]; have tb := tb.below b9; obtain ⟨d0, d1, d2, d3, d4⟩ := tb.c4; obtain ⟨r0, r1, r2, r3, r4, r5, r6⟩ := tb.r6) | (go_at_call 38; refine (refFiles_kind q.c q.a q.n Ao As Ap lo co ls cs lp cp _).mono ?_; rintro e w9 ⟨rfl, b9⟩; rw [HF.out]; have tb := tb.below b9; obtain ⟨d0, d1, d2, d3, d4⟩ := tb.c4; obtain ⟨r0, r1, r2, r3, r4, r5, r6⟩ := tb.r6))
        go_ret
        exact ⟨by rw [hl.out]; rfl, tb.bel⟩
  · have g1' : ¬ (0 : Int) < (mo : Int) := by omega
    by_cases g2 : 0 < ms
    · have g2' : (0 : Int) < (ms : Int) := by omega
      by_cases g3 : 0 < mf
      · have g3' : (0 : Int) < (mf : Int) := by omega
        have hl : Hid (E = 23) := Lib.hid (by rw [HE.out, HS.out, if_pos (by simp [anyB]; omega)])
        clear HE HS
        go_enter Try.func33, Try.ntmps33
        go_wp2_with fail
        refine HC.out.mono ?_
        rintro e w1 ⟨rfl, b1⟩
        have tb := tb.below b1
        clear b1
        obtain ⟨d0, d1, d2, d3, d4⟩ := tb.c4; obtain ⟨r0, r1, r2, r3, r4, r5, r6⟩ := tb.r6
        go_wp2_with (first | (go_at_call 34; refine (refKindBits_any q.c q.a q.n Ao As Ap lo co ls cs lp cp _).mono ?_; rintro e w9 ⟨rfl, b9⟩; rw [HB.out]; have tb := tb.below b9; obtain ⟨d0, d1, d2, d3, d4⟩ := tb.c4; obtain ⟨r0, r1, r2, r3, r4, r5, r6⟩ := tb.r6) | (go_at_call 36; refine (refWords_kind q.c q.a q.n Ao As Ap lo co ls cs lp cp _).mono ?_; rintro e w9 ⟨rfl, b9⟩; rw [HW.out]; have tb := tb.below b9; obtain ⟨d0, d1, d2, d3, d4⟩ := tb.c4; obtain ⟨r0, r1, r2, r3, r4, r5, r6⟩ := tb.r6) | (go_at_call 38; refine (refFiles_kind q.c q.a q.n Ao As Ap lo co ls cs lp cp _).mono ?_; rintro e w9 ⟨rfl, b9⟩; rw [HF.out]; have tb := tb.below b9; obtain ⟨d0, d1, d2, d3, d4⟩ := tb.c4; obtain ⟨r0, r1, r2, r3, r4, r5, r6⟩ := tb.r6))
        go_ret
        exact ⟨by rw [hl.out]; rfl, tb.bel⟩
      · have g3' : ¬ (0 : Int) < (mf : Int) := by omega
        have hl : Hid (E = 23) := Lib.hid (by rw [HE.out, HS.out, if_pos (by simp [anyB]; omega)])
        clear HE HS
        go_enter Try.func33, Try.ntmps33
        go_wp2_with fail
        refine HC.out.mono ?_
        rintro e w1 ⟨rfl, b1⟩
        have tb := tb.below b1
        clear b1
        obtain ⟨d0, d1, d2, d3, d4⟩ := tb.c4; obtain ⟨r0, r1, r2, r3, r4, r5, r6⟩ := tb.r6
        go_wp2_with (first | (go_at_call 34; refine (refKindBits_any q.c q.a q.n Ao As Ap lo co ls cs lp cp _).mono ?_; rintro e w9 ⟨rfl, b9⟩; rw [HB.out]; have tb := tb.below b9; obtain ⟨d0, d1, d2, d3, d4⟩ := tb.c4; obtain ⟨r0, r1, r2, r3, r4, r5, r6⟩ := tb.r6) | (go_at_call 36; refine (refWords_kind q.c q.a q.n Ao As Ap lo co ls cs lp cp _).mono ?_; rintro e w9 ⟨rfl, b9⟩; rw [HW.out]; have tb := tb.below b9; obtain ⟨d0, d1, d2, d3, d4⟩ := tb.c4; obtain ⟨r0, r1, r2, r3, r4, r5, r6⟩ := tb.r6) | (go_at_call 38; refine (refFiles_kind q.c q.a q.n Ao As Ap lo co ls cs lp cp _).mono ?_; rintro e w9 ⟨rfl, b9⟩; rw [HF.out]; have tb := tb.below b9; obtain ⟨d0, d1, d2, d3, d4⟩ := tb.c4; obtain ⟨r0, r1, r2, r3, r4, r5, r6⟩ := tb.r6))
        go_ret
        exact ⟨by rw [hl.out]; rfl, tb.bel⟩
    · have g2' : ¬ (0 : Int) < (ms : Int) := by omega
      by_cases g3 : 0 < mf
      · have g3' : (0 : Int) < (mf : Int) := by omega
        have hl : Hid (E = 23) := Lib.hid (by rw [HE.out, HS.out, if_pos (by simp [anyB]; omega)])
        clear HE HS
        go_enter Try.func33, Try.ntmps33
        go_wp2_with fail
        refine HC.out.mono ?_
        rintro e w1 ⟨rfl, b1⟩
        have tb := tb.below b1
        clear b1
        obtain ⟨d0, d1, d2, d3, d4⟩ := tb.c4; obtain ⟨r0, r1, r2, r3, r4, r5, r6⟩ := tb.r6
        go_wp2_with (first | (go_at_call 34; refine (refKindBits_any q.c q.a q.n Ao As Ap lo co ls cs lp cp _).mono ?_; rintro e w9 ⟨rfl, b9⟩; rw [HB.out]; have tb := tb.below b9; obtain ⟨d0, d1, d2, d3, d4⟩ := tb.c4; obtain ⟨r0, r1, r2, r3, r4, r5, r6⟩ := tb.r6) | (go_at_call 36; refine (refWords_kind q.c q.a q.n Ao As Ap lo co ls cs lp cp _).mono ?_; rintro e w9 ⟨rfl, b9⟩; rw [HW.out]; have tb := tb.below b9; obtain ⟨d0, d1, d2, d3, d4⟩ := tb.c4; obtain ⟨r0, r1, r2, r3, r4, r5, r6⟩ := tb.r6) | (go_at_call 38; refine (refFiles_kind q.c q.a q.n Ao As Ap lo co ls cs lp cp _).mono ?_; rintro e w9 ⟨rfl, b9⟩; rw [HF.out]; have tb := tb.below b9; obtain ⟨d0, d1, d2, d3, d4⟩ := tb.c4; obtain ⟨r0, r1, r2, r3, r4, r5, r6⟩ := tb.r6))
        go_ret
        exact ⟨by rw [hl.out]; rfl, tb.bel⟩
      · have g3' : ¬ (0 : Int) < (mf : Int) := by omega
        have HEM : Hid (E = if manyB q r = false then 22 else 0) := Lib.hid (by rw [HE.out, HS.out, if_neg (by simp [anyB]; try omega)])
        clear HE HS
        go_enter Try.func33, Try.ntmps33
        go_wp2_with fail
        refine HC.out.mono ?_
        rintro e w1 ⟨rfl, b1⟩
        have tb := tb.below b1
        clear b1
        obtain ⟨d0, d1, d2, d3, d4⟩ := tb.c4; obtain ⟨r0, r1, r2, r3, r4, r5, r6⟩ := tb.r6
        go_wp2_with (first | (go_at_call 34; refine (refKindBits_any q.c q.a q.n Ao As Ap lo co ls cs lp cp _).mono ?_; rintro e w9 ⟨rfl, b9⟩; rw [HB.out]; have tb := tb.below b9; obtain ⟨d0, d1, d2, d3, d4⟩ := tb.c4; obtain ⟨r0, r1, r2, r3, r4, r5, r6⟩ := tb.r6) | (go_at_call 36; refine (refWords_kind q.c q.a q.n Ao As Ap lo co ls cs lp cp _).mono ?_; rintro e w9 ⟨rfl, b9⟩; rw [HW.out]; have tb := tb.below b9; obtain ⟨d0, d1, d2, d3, d4⟩ := tb.c4; obtain ⟨r0, r1, r2, r3, r4, r5, r6⟩ := tb.r6) | (go_at_call 38; refine (refFiles_kind q.c q.a q.n Ao As Ap lo co ls cs lp cp _).mono ?_; rintro e w9 ⟨rfl, b9⟩; rw [HF.out]; have tb := tb.below b9; obtain ⟨d0, d1, d2, d3, d4⟩ := tb.c4; obtain ⟨r0, r1, r2, r3, r4, r5, r6⟩ := tb.r6))
        go_loopw [6] (fun i wr => ∃ k : Nat, k ≤ mf ∧ i = .int .i64 k ∧ TB w w.heap.size (.cells #[.int .i64 q.c, .int .i64 q.a, .int .i64 q.n, .slice Ao lo co, .slice As ls cs, .slice Ap lp cp] 26 (0, 0)) (.cells #[.int .i64 r.x, .slice Bo mo eo, .slice Bs ms es, .slice Bf mf ef] 29 (0, 0)) wr ∧ Hid (∀ j, j < k → ((nthF r.fs j).length : Int) = nth q.fl (3 * j + 2))) (fun i _ => mf - (intOf i).toNat)
        case atStart => exact ⟨0, by omega, rfl, tb, Lib.hid (fun j h => by omega)⟩
        case round =>
          clear d0 d1 d2 d3 d4 r0 r1 r2 r3 r4 r5 r6 tb
          obtain ⟨k, hk, rfl, tb, hs⟩ := hrel
          by_cases hlt : k < mf
          · exact absurd hlt (by omega)
          · obtain rfl : k = mf := by omega
            have hl : Hid (E = 0) := Lib.hid (by rw [HEM.out, HM2.out]; rfl)
            obtain ⟨d0, d1, d2, d3, d4⟩ := tb.c4; obtain ⟨r0, r1, r2, r3, r4, r5, r6⟩ := tb.r6
            go_wp2
            go_ret
            exact ⟨by rw [hl.out]; rfl, tb.bel⟩
end Go.Proofs.Ytobhllcnljggiaa
namespace Go.Proofs.Ytobhllcnljggiaa
open Go.RowKit
set_option linter.unusedVariables false

/-- The document's Check, of any answer to any request. -/
theorem refRp_any (q : Req) (r : Rep) (Ao As Ap Bo Bs Bf : Option Addr) (lo ls lp co cs cp mo ms mf eo es ef : Nat) (w : World) (h : Asked w w.heap.size q Ao As Ap lo ls lp) (hr : Repd w w.heap.size r Bo Bs Bf mo ms mf) (hb : lp ≤ 100000) :
    Calls Try.prog 33 #[.agg #[.int .i64 q.c, .int .i64 q.a, .int .i64 q.n, .slice Ao lo co, .slice As ls cs, .slice Ap lp cp], .agg #[.int .i64 r.x, .slice Bo mo eo, .slice Bs ms es, .slice Bf mf ef]] w fun e w' => e = .returned (.int .i64 (chkR q r)) ∧ Below w.heap.size w w' := by
  by_cases hk : chkQ q = 0
  · by_cases hx : r.x = 0
    · by_cases h1 : q.c = 1 ∨ q.c = 2
      · exact refRp_bits q r Ao As Ap Bo Bs Bf lo ls lp co cs cp mo ms mf eo es ef w h hr hb hk hx h1
      · by_cases h2 : q.c = 3 ∨ q.c = 4
        · exact refRp_words q r Ao As Ap Bo Bs Bf lo ls lp co cs cp mo ms mf eo es ef w h hr hb hk hx h2
        · by_cases h3 : q.c = 20
          · exact refRp_files q r Ao As Ap Bo Bs Bf lo ls lp co cs cp mo ms mf eo es ef w h hr hb hk hx h3
          · exact refRp_else q r Ao As Ap Bo Bs Bf lo ls lp co cs cp mo ms mf eo es ef w h hr hb hk hx ⟨h1, h2, h3⟩
    · exact refRp_exc q r Ao As Ap Bo Bs Bf lo ls lp co cs cp mo ms mf eo es ef w h hr hb hk hx
  · exact refRp_bad q r Ao As Ap Bo Bs Bf lo ls lp co cs cp mo ms mf eo es ef w h hr hb hk
end Go.Proofs.Ytobhllcnljggiaa
namespace Go.Proofs.Ytobhllcnljggiaa
open Go.RowKit
set_option linter.unusedVariables false

set_option maxHeartbeats 2000000 in
theorem refPutR_bad (q : Req) (r : Rep) (Ao As Ap Bo Bs Bf : Option Addr) (lo ls lp co cs cp mo ms mf eo es ef : Nat) (w : World) (h : Asked w w.heap.size q Ao As Ap lo ls lp) (hr : Repd w w.heap.size r Bo Bs Bf mo ms mf) (hb : lp ≤ 100000) (hE0 : chkR q r ≠ 0) :
    Calls Try.prog 12 #[.agg #[.int .i64 q.c, .int .i64 q.a, .int .i64 q.n, .slice Ao lo co, .slice As ls cs, .slice Ap lp cp], .agg #[.int .i64 r.x, .slice Bo mo eo, .slice Bs ms es, .slice Bf mf ef]] w (GivesOwn w (putR q r) (chkR q r)) := by
  have t0 := TB.new2 w #[.int .i64 q.c, .int .i64 q.a, .int .i64 q.n, .slice Ao lo co, .slice As ls cs, .slice Ap lp cp] #[.int .i64 r.x, .slice Bo mo eo, .slice Bs ms es, .slice Bf mf ef] 26 29
  have hsz : w.heap.size ≤ ((w.alloc (.cells #[.int .i64 q.c, .int .i64 q.a, .int .i64 q.n, .slice Ao lo co, .slice As ls cs, .slice Ap lp cp] 26)).alloc (.cells #[.int .i64 r.x, .slice Bo mo eo, .slice Bs ms es, .slice Bf mf ef] 29)).heap.size := t0.bel.size
  have H := Lib.hid ((h.below t0.bel).more hsz)
  have HR := Lib.hid ((hr.below t0.bel).more hsz)
  have HC := Lib.hid (refRp_any q r Ao As Ap Bo Bs Bf lo ls lp co cs cp mo ms mf eo es ef _ H.out HR.out hb)
  clear h hr
  obtain ⟨E, hE⟩ : ∃ E, Hid (chkR q r = E) := ⟨_, Lib.hid rfl⟩
  rw [hE.out] at HC hE0 ⊢
  have HL : Hid (putR q r = []) := Lib.hid (by unfold putR; rw [if_pos (show chkR q r ≠ 0 by rw [hE.out]; exact hE0)])
  rw [HL.out]
  have u1 : (E != 0) = true := by simpa using hE0
  have u2 : (E == 0) = false := beq_false_of_ne hE0
  clear hE0
  go_enter Try.func12, Try.ntmps12
  go_wp2_with fail
  refine HC.out.mono ?_
  rintro e w1 ⟨rfl, b1⟩
  have t1 := t0.below b1
  go_wp2
  go_ret2
  exact ⟨_, rfl, Own.nil _ _ _ _, t1.bel⟩

set_option maxHeartbeats 2000000 in
theorem refPutR_exc (q : Req) (r : Rep) (Ao As Ap Bo Bs Bf : Option Addr) (lo ls lp co cs cp mo ms mf eo es ef : Nat) (w : World) (h : Asked w w.heap.size q Ao As Ap lo ls lp) (hr : Repd w w.heap.size r Bo Bs Bf mo ms mf) (hb : lp ≤ 100000) (hk : chkR q r = 0) (hx : r.x ≠ 0) :
    Calls Try.prog 12 #[.agg #[.int .i64 q.c, .int .i64 q.a, .int .i64 q.n, .slice Ao lo co, .slice As ls cs, .slice Ap lp cp], .agg #[.int .i64 r.x, .slice Bo mo eo, .slice Bs ms es, .slice Bf mf ef]] w (GivesOwn w (putR q r) 0) := by
  have t0 := TB.new2 w #[.int .i64 q.c, .int .i64 q.a, .int .i64 q.n, .slice Ao lo co, .slice As ls cs, .slice Ap lp cp] #[.int .i64 r.x, .slice Bo mo eo, .slice Bs ms es, .slice Bf mf ef] 26 29
  have hsz : w.heap.size ≤ ((w.alloc (.cells #[.int .i64 q.c, .int .i64 q.a, .int .i64 q.n, .slice Ao lo co, .slice As ls cs, .slice Ap lp cp] 26)).alloc (.cells #[.int .i64 r.x, .slice Bo mo eo, .slice Bs ms es, .slice Bf mf ef] 29)).heap.size := t0.bel.size
  have H := Lib.hid ((h.below t0.bel).more hsz)
  have HR := Lib.hid ((hr.below t0.bel).more hsz)
  have HC := Lib.hid (refRp_any q r Ao As Ap Bo Bs Bf lo ls lp co cs cp mo ms mf eo es ef _ H.out HR.out hb)
  clear h hr
  have hE := Lib.hid hk
  rw [hk] at HC
  clear hk
  have HL : Hid (putR q r = [q.c + 128, r.x]) := Lib.hid (by unfold putR; rw [if_neg (show ¬ chkR q r ≠ 0 by rw [hE.out]; simp), if_pos hx])
  rw [HL.out]
  have hq : chkQ q = 0 := by
    have h2 := hE.out
    unfold chkR at h2
    by_cases hk : chkQ q ≠ 0
    · rw [if_pos hk] at h2; exact h2
    · simpa using hk
  have hxr : 1 ≤ r.x ∧ r.x ≤ 127 := by
    have h2 := hE.out
    unfold chkR at h2
    rw [if_neg (show ¬ chkQ q ≠ 0 by rw [hq]; simp), if_pos hx] at h2
    split at h2
    · assumption
    · cases h2
  have hcr := mm_le _ (chk_code hq)
  have u1 : (r.x != 0) = true := by simpa using hx
  have u2 : (r.x == 0) = false := beq_false_of_ne hx
  have e1 : IntKind.i64.wrap (q.c + 128) = q.c + 128 := IntWalk.i64_in _ (by omega)
  have e2 : IntKind.u8.wrap (q.c + 128) = q.c + 128 := by rw [IntKind.wrap_u8]; omega
  have e3 : IntKind.u8.wrap r.x = r.x := by rw [IntKind.wrap_u8]; omega
  clear hq hx
  go_enter Try.func12, Try.ntmps12
  go_wp2_with fail
  refine HC.out.mono ?_
  rintro e w1 ⟨rfl, b1⟩
  have t1 := t0.below b1
  have hlt := t1.lt
  clear b1 t0 HC hsz
  obtain ⟨d0, d1, d2, d3, d4⟩ := t1.c4
  obtain ⟨r0, r1, r2, r3, r4, r5, r6⟩ := t1.r6
  go_wp2
  go_ret2
  exact ⟨_, rfl, Own.laid (heap_alloc_new w1 (.cells (blk .u8 [q.c + 128, r.x]) 5)) (by omega) rfl (by simp [maxLen]), t1.bel.alloc (by omega) _⟩
end Go.Proofs.Ytobhllcnljggiaa
namespace Go.Proofs.Ytobhllcnljggiaa
open Go.RowKit
set_option linter.unusedVariables false
/-- A list with each byte written over, up to a place. -/
def spoil8 (k : Nat) (l : List Int) : List Int := (l.take k).map (bits .xor .u8 · 90) ++ l.drop k
theorem spoil8_length (k : Nat) (l : List Int) : (spoil8 k l).length = l.length := by simp [spoil8]; omega
theorem xor90_wf (x : Int) (h : (Lit.int .u8 x).wf = true) : (Lit.int .u8 (bits .xor .u8 x 90)).wf = true := by
  have hx := wf_u8 h
  obtain ⟨n, rfl⟩ := Int.eq_ofNat_of_zero_le hx.1
  have hn : n < 256 := by omega
  have := u8_xor_nat n 90 hn (by omega)
  show (Lit.int .u8 (bits .xor .u8 (n : Int) ((90 : Nat) : Int))).wf = true
  rw [this]
  have hlt : n ^^^ 90 < 256 := Nat.xor_lt_two_pow (n := 8) hn (by omega)
  simp [Lit.wf, IntKind.min, IntKind.max, IntKind.signed, IntKind.bits]; omega
theorem spoil8_wf (k : Nat) (l : List Int) (h : ∀ x ∈ l, (Lit.int .u8 x).wf = true) : ∀ x ∈ spoil8 k l, (Lit.int .u8 x).wf = true := by
  intro x hx
  rcases List.mem_append.1 hx with hx | hx
  · obtain ⟨y, hy, rfl⟩ := List.mem_map.1 hx
    exact xor90_wf y (h y (List.mem_of_mem_take hy))
  · exact h x (List.mem_of_mem_drop hx)
theorem spoil8_at (k : Nat) (l : List Int) (hk : k < l.length) : nth (spoil8 k l) k = nth l k := by
  have hl : ((l.take k).map (bits .xor .u8 · 90)).length = k := by simp; omega
  have := nth_right ((l.take k).map (bits .xor .u8 · 90)) (l.drop k) 0
  rw [hl, Nat.add_zero] at this
  rw [spoil8, this, nth, nth, List.getD_eq_getElem?_getD, List.getD_eq_getElem?_getD, List.getElem?_drop, Nat.add_zero]
theorem spoil8_set (k : Nat) (l : List Int) (hk : k < l.length) : (spoil8 k l).set k (bits .xor .u8 (nth l k) 90) = spoil8 (k + 1) l := by
  have hl : ((l.take k).map (bits .xor .u8 · 90)).length = k := by simp; omega
  have hd := List.drop_eq_getElem_cons hk
  rw [spoil8, List.set_append_right _ _ (by omega), hl, Nat.sub_self, spoil8, take_step l k hk]
  simp
  rw [hd]
  rfl
theorem spoil8_zero (l : List Int) : spoil8 0 l = l := by simp [spoil8]

set_option maxHeartbeats 400000 in
theorem spoil_u8 (g n c : Nat) (l r : List Int) (w : World) (hg : w.heap[g]? = some (.cells (blk .u8 (l ++ r)) 5 (0, 0))) (hl : l.length = c) (hn : n ≤ c) (hc : c ≤ 140737488355328) :
    Calls Try.prog 47 #[.slice (some ⟨g, 0, none⟩) n c] w fun e w' => e = .returned (.tuple #[]) ∧ w'.heap[g]? = some (.cells (blk .u8 (spoil8 c l ++ r)) 5 (0, 0)) ∧ w.grownBy w' (some g) ∧ w'.heap.size = w.heap.size := by
  have hl' := Lib.hid hl
  clear hl
  go_enter Try.func47, Try.ntmps47
  go_wp2
  go_loopw [3] (fun i wr => ∃ k : Nat, k ≤ c ∧ i = .int .i64 k ∧ Hid (wr.heap[g]? = some (.cells (blk .u8 (spoil8 k l ++ r)) 5 (0, 0))) ∧ w.grownBy wr (some g) ∧ Hid (wr.heap.size = w.heap.size)) (fun i _ => c - (intOf i).toNat)
  case atStart => exact ⟨0, by omega, rfl, Lib.hid (by rw [spoil8_zero]; exact hg), World.grownBy.refl _ _, Lib.hid rfl⟩
  case round =>
    obtain ⟨k, hk, rfl, hb, hgr, hsz⟩ := hrel
    by_cases hlt : k < c
    · have hc1 : wr.cell? ⟨g, k, none⟩ = some (.int .u8 (nth l k)) := by
        rw [cell_of_row wr g k _ _ _ hb.out, blk_get _ _ _ (by rw [List.length_append, spoil8_length, hl'.out]; omega), nth_left _ _ _ (by rw [spoil8_length, hl'.out]; exact hlt), spoil8_at k l (by have := hl'.out; omega)]
      have hfz := block_frozen wr g k _ _ hb.out
      have hnew := Lib.hid (block_setCell wr g k .u8 5 _ (bits .xor .u8 (nth l k) 90) hb.out)
      rw [List.set_append_left _ _ (by rw [spoil8_length, hl'.out]; exact hlt), spoil8_set k l (by have := hl'.out; omega)] at hnew
      have hgr2 := grown_setCell hgr k (.int .u8 (bits .xor .u8 (nth l k) 90))
      have hsz2 : Hid ((wr.setCell ⟨g, k, none⟩ (.int .u8 (bits .xor .u8 (nth l k) 90))).heap.size = w.heap.size) := by
        show _ = _
        rw [← hsz.out]; simp [World.setCell]
      go_wp2
      go_roundw
      case rel => exact ⟨k + 1, by omega, by go_num, hnew, hgr2, hsz2⟩
      case measure => simp [intOf]; omega
    · obtain rfl : k = c := by omega
      go_wp2
      go_end0
      exact ⟨rfl, hb.out, hgr, hsz.out⟩
theorem spoil_nil (w : World) :
    Calls Try.prog 47 #[.slice none 0 0] w fun e w' => e = .returned (.tuple #[]) ∧ w = w' := by
  go_enter Try.func47, Try.ntmps47
  go_wp2
  go_loop [3] (fun i => i = .int .i64 0) (fun _ => 0)
  case atStart => rfl
  case round =>
    subst hrel
    go_wp2
    go_end0
    exact ⟨rfl, rfl⟩

end Go.Proofs.Ytobhllcnljggiaa
namespace Go.Proofs.Ytobhllcnljggiaa
open Go.RowKit
set_option linter.unusedVariables false
/-- Rows that lie in blocks of their own, each known whole (or nil), their slices in the array of block gl. -/
structure Parts (w : World) (B gl m : Nat) (A : Nat → Option Addr) (n c : Nat → Nat) (l r : Nat → List Int) : Prop where
  at_ : ∀ k, k < m → w.cell? ⟨gl, k, none⟩ = some (.slice (A k) (n k) (c k))
  size : ∀ k, k < m → n k ≤ c k ∧ c k ≤ 140737488355328 ∧ (l k).length = c k
  wf : ∀ k, k < m → ∀ x ∈ l k, (Lit.int .u8 x).wf = true
  lies : ∀ k, k < m → (A k = none ∧ n k = 0 ∧ c k = 0) ∨ ∃ g, A k = some ⟨g, 0, none⟩ ∧ B ≤ g ∧ g ≠ gl ∧ w.heap[g]? = some (.cells (blk .u8 (l k ++ r k)) 5 (0, 0))
  apart : ∀ i k, i < m → k < m → i ≠ k → ∀ g, A i = some ⟨g, 0, none⟩ → A k ≠ some ⟨g, 0, none⟩
  gl_lt : gl < w.heap.size

theorem Parts.row {w : World} {B gl m : Nat} {A : Nat → Option Addr} {n c : Nat → Nat} {l r : Nat → List Int} (h : Parts w B gl m A n c l r) {k : Nat} (hk : k < m) :
    Row .u8 w w.heap.size (A k) ((l k).take (n k)) ∧ ((l k).take (n k)).length = n k := by
  have hs := h.size k hk
  refine ⟨?_, by simp; omega⟩
  rcases h.lies k hk with ⟨ha, hn, hc⟩ | ⟨g, ha, _, _, hg⟩
  · rw [hn, List.take_zero]; exact Row.nil _ _ _ _
  · rw [ha]
    exact (Row.of_block hg _ (fun x hx => h.wf k hk x (List.mem_of_mem_take hx)) ((List.take_prefix _ _).trans (List.prefix_append _ _))).more (block_lt hg)
/-- A step that leaves all old blocks leaves the parts. -/
theorem Parts.below {w w' : World} {B gl m : Nat} {A : Nat → Option Addr} {n c : Nat → Nat} {l r : Nat → List Int} (h : Parts w B gl m A n c l r) (hb : Below w.heap.size w w') : Parts w' B gl m A n c l r where
  at_ := fun k hk => (hb.cell (p := ⟨gl, k, none⟩) h.gl_lt).trans (h.at_ k hk)
  size := h.size
  wf := h.wf
  lies := fun k hk => by
    rcases h.lies k hk with h0 | ⟨g, ha, hB, hne, hg⟩
    · exact .inl h0
    · exact .inr ⟨g, ha, hB, hne, (hb.block g (block_lt hg)).trans hg⟩
  apart := h.apart
  gl_lt := Nat.lt_of_lt_of_le h.gl_lt hb.size
/-- One part is written over. -/
theorem Parts.spoil {w w' : World} {B gl m : Nat} {A : Nat → Option Addr} {n c : Nat → Nat} {l r : Nat → List Int} (h : Parts w B gl m A n c l r) {i g : Nat} (hi : i < m) (ha : A i = some ⟨g, 0, none⟩)
    (hg : w'.heap[g]? = some (.cells (blk .u8 (spoil8 (c i) (l i) ++ r i)) 5 (0, 0))) (hgr : w.grownBy w' (some g)) : Parts w' B gl m A n c (fun k => if k = i then spoil8 (c i) (l i) else l k) r where
  at_ := fun k hk => by
    rcases h.lies i hi with ⟨h0, _⟩ | ⟨g', ha', _, hne, _⟩
    · rw [ha] at h0; cases h0
    · rw [ha] at ha'
      injection ha' with ha'
      injection ha' with ha'
      subst ha'
      exact (World.cell?_of_block (hgr.block gl h.gl_lt (fun e => hne (by injection e with e; exact e.symm)))).trans (h.at_ k hk)
  size := fun k hk => by
    have := h.size k hk
    refine ⟨this.1, this.2.1, ?_⟩
    split
    · rename_i e; subst e; rw [spoil8_length]; exact this.2.2
    · exact this.2.2
  wf := fun k hk => by
    show ∀ x ∈ (if k = i then spoil8 (c i) (l i) else l k), _
    split
    · exact spoil8_wf _ _ (h.wf i hi)
    · exact h.wf k hk
  lies := fun k hk => by
    by_cases e : k = i
    · subst e
      rcases h.lies k hi with ⟨h0, _⟩ | ⟨g', ha', hB, hne, _⟩
      · rw [ha] at h0; cases h0
      · rw [ha] at ha'
        injection ha' with ha'
        injection ha' with ha'
        subst ha'
        exact .inr ⟨g, ha, hB, hne, by rw [if_pos rfl]; exact hg⟩
    · rcases h.lies k hk with h0 | ⟨g', ha', hB, hne, hg'⟩
      · exact .inl h0
      · refine .inr ⟨g', ha', hB, hne, ?_⟩
        rw [if_neg e, hgr.block g' (block_lt hg') (fun e' => ?_)]
        · exact hg'
        · injection e' with e'
          subst e'
          exact h.apart k i hk hi e _ ha' ha
  apart := h.apart
  gl_lt := Nat.lt_of_lt_of_le h.gl_lt hgr.size

set_option maxHeartbeats 1000000 in
theorem apart_u8 (gl m B : Nat) (A : Nat → Option Addr) (n c : Nat → Nat) (l0 r : Nat → List Int) (w : World) (hP : Parts w B gl m A n c l0 r) (hB : B ≤ w.heap.size) (hm : m ≤ 1000) :
    Calls Try.prog 16 #[.slice (some ⟨gl, 0, none⟩) m m] w fun e w' => e = .returned (.bool true) ∧ Below B w w' := by
  go_enter Try.func16, Try.ntmps16
  go_wp2
  go_loopw [3, 4, 5] (fun i _ _ wr => ∃ (j : Nat) (l : Nat → List Int), j ≤ m ∧ i = .int .i64 j ∧ Parts wr B gl m A n c l r ∧ Below B w wr) (fun i _ _ _ => m - (intOf i).toNat)
  case atStart => exact ⟨0, l0, by omega, rfl, hP, Below.refl _ _⟩
  case round =>
    obtain ⟨i, l1, hi, rfl, hP1, hb1⟩ := hrel
    by_cases hlt : i < m
    · go_wp2
      obtain ⟨wo, hwo⟩ : ∃ wo : World, wo = wr := ⟨_, rfl⟩
      subst hwo
      go_loopw [4, 5] (fun k _ wr => ∃ (j : Nat) (l : Nat → List Int), j ≤ m ∧ k = .int .i64 j ∧ Parts wr B gl m A n c l r ∧ Below B w wr) (fun k _ _ => m - (intOf k).toNat)
      case atStart => exact ⟨0, l1, by omega, rfl, hP1, hb1⟩
      case round =>
        obtain ⟨k, l, hk, rfl, hP2, hb2⟩ := hrel
        by_cases hlk : k < m
        · by_cases hik : i = k
          · subst hik
            go_wp2
            go_roundw
            case rel => exact ⟨i + 1, l, by omega, by go_num, hP2, hb2⟩
            case measure => simp [intOf]; omega
          · have ht : ((i : Int) == (k : Int)) = false := by simp; omega
            have hck := hP2.at_ k hlk
            have hci := hP2.at_ i hlt
            obtain ⟨hrow, hrl⟩ := hP2.row hlk
            have hrl' := Lib.hid hrl
            clear hrl
            have hsk := hP2.size k hlk
            go_wp2_with fail
            refine (copy_u8 _ _ _ _ _ hrow hrl'.out (by omega)).mono ?_
            rintro e w1 ⟨v1, rfl, own1, bel1⟩
            have hP3 := hP2.below bel1
            have hb3 : Below B w w1 := hb2.trans (bel1.mono (Nat.le_trans hB hb2.size))
            have hck1 := hP3.at_ k hlk
            have hci1 := hP3.at_ i hlt
            have hwf := hrow.1
            rcases hP3.lies i hlt with ⟨hA, hN, hC⟩ | ⟨g, hA, hBg, hgl, hg⟩
            · rw [hA, hN, hC] at hci1
              clear hA hN hC hck hci hrow
              obtain ⟨A1, c1, rfl, row1, _, _⟩ := own1.row hwf
              rw [hrl'.out]
              obtain ⟨hrow3, hrl3⟩ := hP3.row hlk
              have hrl3' := Lib.hid hrl3
              clear hrl3
              go_wp2_with fail
              refine (spoil_nil _).mono ?_
              rintro e w' ⟨rfl, rfl⟩
              go_wp2_with fail
              refine (same_yes_u8 _ _ _ _ _ _ _ _ _ row1 hrow3 hrl3'.out (by omega)).mono ?_
              rintro e w' ⟨rfl, mq, rfl⟩
              have hP4 := hP3.below (w' := w1.drewN mq) ⟨rfl, rfl, rfl, Nat.le_refl _, fun _ _ => rfl⟩
              have hb4 : Below B w (w1.drewN mq) := hb3.trans ⟨rfl, rfl, rfl, Nat.le_refl _, fun _ _ => rfl⟩
              go_wp2
              go_roundw
              case rel => exact ⟨k + 1, l, by omega, by go_num, hP4, hb4⟩
              case measure => simp [intOf]; omega
            · have hsi := hP3.size i hlt
              have hglt : g < wr.heap.size := by
                rcases hP2.lies i hlt with ⟨h0, _⟩ | ⟨g', hA', _, _, hg'⟩
                · rw [hA] at h0; cases h0
                · rw [hA] at hA'
                  injection hA' with hA'
                  injection hA' with hA'
                  rw [hA']
                  exact block_lt hg'
              rw [hA] at hci1
              clear hck hci hrow
              have hsi3 := Lib.hid hsi.2.2
              go_wp2_with fail
              refine (spoil_u8 g _ _ (l i) (r i) _ hg hsi3.out hsi.1 hsi.2.1).mono ?_
              rintro e w2 ⟨rfl, hg2, hgr2, hsz2⟩
              have hP4 := hP3.spoil hlt hA hg2 hgr2
              have hb4 : Below B w w2 := hb3.grown hgr2 (Nat.le_trans hB hb3.size) (fun q e => by injection e; omega)
              have own2 := own1.kept hgr2 (by
                cases hv : v1.ownBlock with
                | none => exact .inl rfl
                | some q =>
                  refine .inr fun e => ?_
                  have h1 := (own1.block q hv).1
                  injection e with e
                  omega)
              have hck2 := hP4.at_ k hlk
              obtain ⟨hrow4, hrl4⟩ := hP4.row hlk
              simp only [if_neg (show ¬ k = i by omega)] at hrow4 hrl4
              have hrl4' := Lib.hid hrl4
              obtain ⟨A1, c1, rfl, row1, _, _⟩ := own2.row hwf
              rw [hrl'.out]
              clear hsz2 hrl4 hck1 hci1 hgr2 hg2 hg hA
              go_wp2_with fail
              refine (same_yes_u8 _ _ _ _ _ _ _ _ _ row1 hrow4 hrl4'.out (by omega)).mono ?_
              rintro e w' ⟨rfl, mq, rfl⟩
              have hP5 := hP4.below (w' := w2.drewN mq) ⟨rfl, rfl, rfl, Nat.le_refl _, fun _ _ => rfl⟩
              have hb5 : Below B w (w2.drewN mq) := hb4.trans ⟨rfl, rfl, rfl, Nat.le_refl _, fun _ _ => rfl⟩
              go_wp2
              go_roundw
              case rel => exact ⟨k + 1, _, by omega, by go_num, hP5, hb5⟩
              case measure => simp [intOf]; omega
        · go_wp2
          go_roundw
          case rel => exact ⟨i + 1, l, by omega, by go_num, hP2, hb2⟩
          case measure => simp [intOf]; omega
    · go_wp2
      go_ret
      exact ⟨rfl, hb1⟩

/-- A slice that is handed to ApartBytes: nil, or the beginning of a block that is known whole. -/
structure Ent where
  a : Option Nat
  n : Nat
  c : Nat
  l : List Int
  r : List Int
def Ent.none_ : Ent := ⟨none, 0, 0, [], []⟩
def Ent.adr (e : Ent) : Option Addr := e.a.map fun g => ⟨g, 0, none⟩
def Ent.val (e : Ent) : Value := .slice e.adr e.n e.c
structure Ent.Ok (w : World) (B : Nat) (e : Ent) : Prop where
  size : e.n ≤ e.c ∧ e.c ≤ 140737488355328 ∧ e.l.length = e.c
  wf : ∀ x ∈ e.l, (Lit.int .u8 x).wf = true
  lies : (e.a = none ∧ e.n = 0 ∧ e.c = 0) ∨ ∃ g, e.a = some g ∧ B ≤ g ∧ w.heap[g]? = some (.cells (blk .u8 (e.l ++ e.r)) 5 (0, 0))
def Ent.Far (e e' : Ent) : Prop := ∀ g, e.a = some g → e'.a ≠ some g
theorem Ent.adr_some {e : Ent} {g : Nat} (h : e.adr = some ⟨g, 0, none⟩) : e.a = some g := by
  unfold Ent.adr at h
  cases ha : e.a with
  | none => rw [ha] at h; cases h
  | some q => rw [ha] at h; simp at h; rw [h]

theorem parts_of_list (w : World) (B : Nat) (L : List Ent) (t : TypeId) (hok : ∀ e ∈ L, e.Ok w B) (hfar : L.Pairwise Ent.Far) :
    Parts (w.alloc (.cells (L.map Ent.val).toArray t)) B w.heap.size L.length (fun k => (L.getD k Ent.none_).adr) (fun k => (L.getD k Ent.none_).n) (fun k => (L.getD k Ent.none_).c) (fun k => (L.getD k Ent.none_).l) (fun k => (L.getD k Ent.none_).r) where
  at_ := fun k hk => by
    rw [World.cell?_alloc_at _ _ _ _ rfl]
    simp [List.getElem?_eq_getElem hk, List.getD_eq_getElem?_getD, Ent.val]
  size := fun k hk => by
    simp only [List.getD_eq_getElem?_getD, List.getElem?_eq_getElem hk, Option.getD_some]
    exact (hok _ (List.getElem_mem hk)).size
  wf := fun k hk => by
    simp only [List.getD_eq_getElem?_getD, List.getElem?_eq_getElem hk, Option.getD_some]
    exact (hok _ (List.getElem_mem hk)).wf
  lies := fun k hk => by
    simp only [List.getD_eq_getElem?_getD, List.getElem?_eq_getElem hk, Option.getD_some]
    rcases (hok _ (List.getElem_mem hk)).lies with ⟨h1, h2⟩ | ⟨g, h1, h2, h3⟩
    · exact .inl ⟨by rw [Ent.adr, h1]; rfl, h2⟩
    · have := block_lt h3
      exact .inr ⟨g, by rw [Ent.adr, h1]; rfl, h2, by omega, (Below.heap_alloc w _ g this).trans h3⟩
  apart := fun i k hi hk hne g h1 h2 => by
    simp only [List.getD_eq_getElem?_getD, List.getElem?_eq_getElem hi, List.getElem?_eq_getElem hk, Option.getD_some] at h1 h2
    have h1 := Ent.adr_some h1
    have h2 := Ent.adr_some h2
    rcases Nat.lt_or_gt_of_ne hne with h | h
    · exact List.pairwise_iff_getElem.1 hfar i k hi hk h g h1 h2
    · exact List.pairwise_iff_getElem.1 hfar k i hk hi h g h2 h1
  gl_lt := by simp

theorem apart_list_u8 (w : World) (B : Nat) (L : List Ent) (t : TypeId) (hok : ∀ e ∈ L, e.Ok w B) (hfar : L.Pairwise Ent.Far) (hB : B ≤ w.heap.size) (hm : L.length ≤ 1000) :
    Calls Try.prog 16 #[.slice (some ⟨w.heap.size, 0, none⟩) L.length L.length] (w.alloc (.cells (L.map Ent.val).toArray t)) fun e w' => e = .returned (.bool true) ∧ Below B w w' :=
  (apart_u8 _ _ B _ _ _ _ _ _ (parts_of_list w B L t hok hfar) (by simp; omega) hm).mono fun _ _ ⟨he, hb⟩ => ⟨he, ((Below.refl B w).alloc hB _).trans hb⟩
end Go.Proofs.Ytobhllcnljggiaa
namespace Go.Proofs.Ytobhllcnljggiaa
open Go.RowKit
set_option linter.unusedVariables false
theorem pow_256 (n : Nat) : (2 : Nat) ^ (8 * n) = 256 ^ n := by rw [Nat.pow_mul]
theorem div_zero_iff (v n : Nat) : v / 256 ^ n = 0 ↔ v < 256 ^ n := by
  rw [Nat.div_eq_zero_iff]
  have : (256 : Nat) ^ n ≠ 0 := Nat.ne_of_gt (Nat.pow_pos (by omega))
  omega
end Go.Proofs.Ytobhllcnljggiaa
namespace Go.Proofs.Ytobhllcnljggiaa
open Go.RowKit
set_option linter.unusedVariables false

end Go.Proofs.Ytobhllcnljggiaa
namespace Go.Proofs.Ytobhllcnljggiaa
open Go.RowKit
set_option linter.unusedVariables false
theorem be_take_step (n v k : Nat) (h : k < n) : (be n v).take (k + 1) = (be n v).take k ++ [((v / 256 ^ (n - 1 - k) % 256 : Nat) : Int)] := by
  rw [take_step _ _ (by rw [be_length]; exact h), be_nth n v k h]
end Go.Proofs.Ytobhllcnljggiaa
namespace Go.Proofs.Ytobhllcnljggiaa.W
open Go.RowKit
set_option linter.unusedVariables false
/-- Rows that lie in blocks of their own, each known whole (or nil), their slices in the array of block gl. -/
structure Parts (w : World) (B gl m : Nat) (A : Nat → Option Addr) (n c : Nat → Nat) (l r : Nat → List Int) : Prop where
  at_ : ∀ k, k < m → w.cell? ⟨gl, k, none⟩ = some (.slice (A k) (n k) (c k))
  size : ∀ k, k < m → n k ≤ c k ∧ c k ≤ 70368744177664 ∧ (l k).length = c k
  wf : ∀ k, k < m → ∀ x ∈ l k, (Lit.int .u16 x).wf = true
  lies : ∀ k, k < m → (A k = none ∧ n k = 0 ∧ c k = 0) ∨ ∃ g, A k = some ⟨g, 0, none⟩ ∧ B ≤ g ∧ g ≠ gl ∧ w.heap[g]? = some (.cells (blk .u16 (l k ++ r k)) 75 (0, 0))
  apart : ∀ i k, i < m → k < m → i ≠ k → ∀ g, A i = some ⟨g, 0, none⟩ → A k ≠ some ⟨g, 0, none⟩
  gl_lt : gl < w.heap.size

theorem Parts.row {w : World} {B gl m : Nat} {A : Nat → Option Addr} {n c : Nat → Nat} {l r : Nat → List Int} (h : Parts w B gl m A n c l r) {k : Nat} (hk : k < m) :
    Row .u16 w w.heap.size (A k) ((l k).take (n k)) ∧ ((l k).take (n k)).length = n k := by
  have hs := h.size k hk
  refine ⟨?_, by simp; omega⟩
  rcases h.lies k hk with ⟨ha, hn, hc⟩ | ⟨g, ha, _, _, hg⟩
  · rw [hn, List.take_zero]; exact Row.nil _ _ _ _
  · rw [ha]
    exact (Row.of_block hg _ (fun x hx => h.wf k hk x (List.mem_of_mem_take hx)) ((List.take_prefix _ _).trans (List.prefix_append _ _))).more (block_lt hg)
/-- A step that leaves all old blocks leaves the parts. -/
theorem Parts.below {w w' : World} {B gl m : Nat} {A : Nat → Option Addr} {n c : Nat → Nat} {l r : Nat → List Int} (h : Parts w B gl m A n c l r) (hb : Below w.heap.size w w') : Parts w' B gl m A n c l r where
  at_ := fun k hk => (hb.cell (p := ⟨gl, k, none⟩) h.gl_lt).trans (h.at_ k hk)
  size := h.size
  wf := h.wf
  lies := fun k hk => by
    rcases h.lies k hk with h0 | ⟨g, ha, hB, hne, hg⟩
    · exact .inl h0
    · exact .inr ⟨g, ha, hB, hne, (hb.block g (block_lt hg)).trans hg⟩
  apart := h.apart
  gl_lt := Nat.lt_of_lt_of_le h.gl_lt hb.size
/-- One part is written over. -/
theorem Parts.spoil {w w' : World} {B gl m : Nat} {A : Nat → Option Addr} {n c : Nat → Nat} {l r : Nat → List Int} (h : Parts w B gl m A n c l r) {i g : Nat} (hi : i < m) (ha : A i = some ⟨g, 0, none⟩)
    (hg : w'.heap[g]? = some (.cells (blk .u16 (spoil16 (c i) (l i) ++ r i)) 75 (0, 0))) (hgr : w.grownBy w' (some g)) : Parts w' B gl m A n c (fun k => if k = i then spoil16 (c i) (l i) else l k) r where
  at_ := fun k hk => by
    rcases h.lies i hi with ⟨h0, _⟩ | ⟨g', ha', _, hne, _⟩
    · rw [ha] at h0; cases h0
    · rw [ha] at ha'
      injection ha' with ha'
      injection ha' with ha'
      subst ha'
      exact (World.cell?_of_block (hgr.block gl h.gl_lt (fun e => hne (by injection e with e; exact e.symm)))).trans (h.at_ k hk)
  size := fun k hk => by
    have := h.size k hk
    refine ⟨this.1, this.2.1, ?_⟩
    split
    · rename_i e; subst e; rw [spoil16_length]; exact this.2.2
    · exact this.2.2
  wf := fun k hk => by
    show ∀ x ∈ (if k = i then spoil16 (c i) (l i) else l k), _
    split
    · exact spoil16_wf _ _ (h.wf i hi)
    · exact h.wf k hk
  lies := fun k hk => by
    by_cases e : k = i
    · subst e
      rcases h.lies k hi with ⟨h0, _⟩ | ⟨g', ha', hB, hne, _⟩
      · rw [ha] at h0; cases h0
      · rw [ha] at ha'
        injection ha' with ha'
        injection ha' with ha'
        subst ha'
        exact .inr ⟨g, ha, hB, hne, by rw [if_pos rfl]; exact hg⟩
    · rcases h.lies k hk with h0 | ⟨g', ha', hB, hne, hg'⟩
      · exact .inl h0
      · refine .inr ⟨g', ha', hB, hne, ?_⟩
        rw [if_neg e, hgr.block g' (block_lt hg') (fun e' => ?_)]
        · exact hg'
        · injection e' with e'
          subst e'
          exact h.apart k i hk hi e _ ha' ha
  apart := h.apart
  gl_lt := Nat.lt_of_lt_of_le h.gl_lt hgr.size

/-- A slice that is handed to ApartWords: nil, or the beginning of a block that is known whole. -/
structure Ent where
  a : Option Nat
  n : Nat
  c : Nat
  l : List Int
  r : List Int
def Ent.none_ : Ent := ⟨none, 0, 0, [], []⟩
def Ent.adr (e : Ent) : Option Addr := e.a.map fun g => ⟨g, 0, none⟩
def Ent.val (e : Ent) : Value := .slice e.adr e.n e.c
structure Ent.Ok (w : World) (B : Nat) (e : Ent) : Prop where
  size : e.n ≤ e.c ∧ e.c ≤ 70368744177664 ∧ e.l.length = e.c
  wf : ∀ x ∈ e.l, (Lit.int .u16 x).wf = true
  lies : (e.a = none ∧ e.n = 0 ∧ e.c = 0) ∨ ∃ g, e.a = some g ∧ B ≤ g ∧ w.heap[g]? = some (.cells (blk .u16 (e.l ++ e.r)) 75 (0, 0))
def Ent.Far (e e' : Ent) : Prop := ∀ g, e.a = some g → e'.a ≠ some g
theorem Ent.adr_some {e : Ent} {g : Nat} (h : e.adr = some ⟨g, 0, none⟩) : e.a = some g := by
  unfold Ent.adr at h
  cases ha : e.a with
  | none => rw [ha] at h; cases h
  | some q => rw [ha] at h; simp at h; rw [h]

theorem parts_of_list (w : World) (B : Nat) (L : List Ent) (t : TypeId) (hok : ∀ e ∈ L, e.Ok w B) (hfar : L.Pairwise Ent.Far) :
    Parts (w.alloc (.cells (L.map Ent.val).toArray t)) B w.heap.size L.length (fun k => (L.getD k Ent.none_).adr) (fun k => (L.getD k Ent.none_).n) (fun k => (L.getD k Ent.none_).c) (fun k => (L.getD k Ent.none_).l) (fun k => (L.getD k Ent.none_).r) where
  at_ := fun k hk => by
    rw [World.cell?_alloc_at _ _ _ _ rfl]
    simp [List.getElem?_eq_getElem hk, List.getD_eq_getElem?_getD, Ent.val]
  size := fun k hk => by
    simp only [List.getD_eq_getElem?_getD, List.getElem?_eq_getElem hk, Option.getD_some]
    exact (hok _ (List.getElem_mem hk)).size
  wf := fun k hk => by
    simp only [List.getD_eq_getElem?_getD, List.getElem?_eq_getElem hk, Option.getD_some]
    exact (hok _ (List.getElem_mem hk)).wf
  lies := fun k hk => by
    simp only [List.getD_eq_getElem?_getD, List.getElem?_eq_getElem hk, Option.getD_some]
    rcases (hok _ (List.getElem_mem hk)).lies with ⟨h1, h2⟩ | ⟨g, h1, h2, h3⟩
    · exact .inl ⟨by rw [Ent.adr, h1]; rfl, h2⟩
    · have := block_lt h3
      exact .inr ⟨g, by rw [Ent.adr, h1]; rfl, h2, by omega, (Below.heap_alloc w _ g this).trans h3⟩
  apart := fun i k hi hk hne g h1 h2 => by
    simp only [List.getD_eq_getElem?_getD, List.getElem?_eq_getElem hi, List.getElem?_eq_getElem hk, Option.getD_some] at h1 h2
    have h1 := Ent.adr_some h1
    have h2 := Ent.adr_some h2
    rcases Nat.lt_or_gt_of_ne hne with h | h
    · exact List.pairwise_iff_getElem.1 hfar i k hi hk h g h1 h2
    · exact List.pairwise_iff_getElem.1 hfar k i hk hi h g h2 h1
  gl_lt := by simp

end Go.Proofs.Ytobhllcnljggiaa.W
namespace Go.Proofs.Ytobhllcnljggiaa.W
open Go.RowKit
set_option linter.unusedVariables false
/-- A slice that is nil or the beginning of a block, as an entry. -/
theorem Li.ent {w : World} {A : Option Addr} {m g B : Nat} {l r : List Int} (h : Li w A m g l r) (hm : l.length = m) (hw : ∀ x ∈ l, (Lit.int .u16 x).wf = true) (hB : B ≤ g) (hmm : m ≤ 70368744173568) :
    ∃ E : Ent, E.val = .slice A m m ∧ E.Ok w B ∧ (E.a = none ∨ E.a = some g) ∧ (A = none → E.a = none) := by
  rcases h with ⟨h1, h2⟩ | ⟨h1, h2⟩
  · subst h1 h2
    exact ⟨⟨none, 0, 0, l, r⟩, rfl, ⟨⟨Nat.le_refl _, by show 0 ≤ _; omega, hm⟩, hw, .inl ⟨rfl, rfl, rfl⟩⟩, .inl rfl, fun _ => rfl⟩
  · subst h1
    exact ⟨⟨some g, m, m, l, r⟩, rfl, ⟨⟨Nat.le_refl _, by show m ≤ _; omega, hm⟩, hw, .inr ⟨g, rfl, hB, h2⟩⟩, .inr rfl, fun h => by cases h⟩

end Go.Proofs.Ytobhllcnljggiaa.W
