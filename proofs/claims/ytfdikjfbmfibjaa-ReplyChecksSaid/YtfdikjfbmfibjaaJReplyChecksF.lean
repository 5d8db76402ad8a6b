/-
  Texts of the proof of ReplyChecks, joined.
-/
import Derived.Test.YtfdikjfbmfibjaaJReplyChecksE
import Derived.Test.YtfdikjfbmfibjaaJReplyChecksB
namespace Go.Proofs.Ytfdikjfbmfibjaa
open Go.RowKit
set_option linter.unusedVariables false

def clB (c : Int) : Bool := decide (c = 1 ∨ c = 2)
def clW (c : Int) : Bool := decide (c = 3 ∨ c = 4)
def clF (c : Int) : Bool := decide (c = 20)
theorem refBits_any (c a n : Int) (Ao As Ap : Option Addr) (lo co ls cs lp cp : Nat) (w : World) :
    Calls Try.prog 39 #[.agg #[.int .i64 c, .int .i64 a, .int .i64 n, .slice Ao lo co, .slice As ls cs, .slice Ap lp cp]] w fun e w' => e = .returned (.bool (clB c)) ∧ Below w.heap.size w w' := by
  have h : clB c = (c == 1 || c == 2) := by by_cases h1 : c = 1 <;> by_cases h2 : c = 2 <;> simp [clB, h1, h2]
  rw [h]
  clear h
  go_enter Try.func39, Try.ntmps39
  go_wp2
  all_goals (go_ret; refine ⟨?_, bel_alloc _ _⟩; first | rfl | simp [*])
theorem refWords_kind (c a n : Int) (Ao As Ap : Option Addr) (lo co ls cs lp cp : Nat) (w : World) :
    Calls Try.prog 40 #[.agg #[.int .i64 c, .int .i64 a, .int .i64 n, .slice Ao lo co, .slice As ls cs, .slice Ap lp cp]] w fun e w' => e = .returned (.bool (clW c)) ∧ Below w.heap.size w w' := by
  have h : clW c = (c == 3 || c == 4) := by by_cases h1 : c = 3 <;> by_cases h2 : c = 4 <;> simp [clW, h1, h2]
  rw [h]
  clear h
  go_enter Try.func40, Try.ntmps40
  go_wp2
  all_goals (go_ret; refine ⟨?_, bel_alloc _ _⟩; first | rfl | simp [*])
theorem refFiles_kind (c a n : Int) (Ao As Ap : Option Addr) (lo co ls cs lp cp : Nat) (w : World) :
    Calls Try.prog 41 #[.agg #[.int .i64 c, .int .i64 a, .int .i64 n, .slice Ao lo co, .slice As ls cs, .slice Ap lp cp]] w fun e w' => e = .returned (.bool (clF c)) ∧ Below w.heap.size w w' := by
  have h : clF c = (c == 20) := by by_cases h1 : c = 20 <;> simp [clF, h1]
  rw [h]
  clear h
  go_enter Try.func41, Try.ntmps41
  go_wp2
  all_goals (go_ret; refine ⟨?_, bel_alloc _ _⟩; first | rfl | simp [*])

set_option maxHeartbeats 4000000 in
set_option maxRecDepth 100000 in
theorem refRp_bad (q : Req) (r : Rep) (Ao As Ap Bo Bs Bf : Option Addr) (lo ls lp co cs cp mo ms mf eo es ef : Nat) (w : World) (h : Asked w w.heap.size q Ao As Ap lo ls lp) (hr : Repd w w.heap.size r Bo Bs Bf mo ms mf) (hb : lp ≤ 100000) (hk : chkQ q ≠ 0) :
    Calls Try.prog 12 #[.agg #[.int .i64 q.c, .int .i64 q.a, .int .i64 q.n, .slice Ao lo co, .slice As ls cs, .slice Ap lp cp], .agg #[.int .i64 r.x, .slice Bo mo eo, .slice Bs ms es, .slice Bf mf ef]] w fun e w' => e = .returned (.int .i64 (chkR q r)) ∧ Below w.heap.size w w' := by
  have tb := TB.new2 w #[.int .i64 q.c, .int .i64 q.a, .int .i64 q.n, .slice Ao lo co, .slice As ls cs, .slice Ap lp cp] #[.int .i64 r.x, .slice Bo mo eo, .slice Bs ms es, .slice Bf mf ef] 26 29
  have hsz : w.heap.size ≤ ((w.alloc (.cells #[.int .i64 q.c, .int .i64 q.a, .int .i64 q.n, .slice Ao lo co, .slice As ls cs, .slice Ap lp cp] 26)).alloc (.cells #[.int .i64 r.x, .slice Bo mo eo, .slice Bs ms es, .slice Bf mf ef] 29)).heap.size := tb.bel.size
  have H0 := Lib.hid h
  have HR0 := Lib.hid hr
  have H := Lib.hid ((h.below tb.bel).more hsz)
  obtain ⟨E, hE⟩ : ∃ E, Hid (chkR q r = E) := ⟨_, Lib.hid rfl⟩
  rw [hE.out]
  have HMO := Lib.hid hr.mo
  have HMS := Lib.hid hr.ms
  have HMF := Lib.hid hr.mf
  obtain ⟨k, hk2⟩ : ∃ k, Hid (chkQ q = k) := ⟨_, Lib.hid rfl⟩
  have HC := Lib.hid (refCheck_any q Ao As Ap lo ls lp co cs cp _ H.out)
  rw [chkQ_of H.out, hk2.out] at HC
  have HE : Hid (E = k) := Lib.hid (by rw [← hE.out]; unfold chkR; rw [if_pos hk]; exact hk2.out)
  rw [hk2.out] at hk
  have u1 : (k != 0) = true := by simpa using hk
  have u2 : (k == 0) = false := beq_false_of_ne hk
  clear h hr hk
  go_enter Try.func12, Try.ntmps12
  go_wp2_with fail
  refine HC.out.mono ?_
  rintro e w1 ⟨rfl, b1⟩
  have tb := tb.below b1
  clear b1
  obtain ⟨d0, d1, d2, d3, d4⟩ := tb.c4; obtain ⟨r0, r1, r2, r3, r4, r5, r6⟩ := tb.r6
  go_wp2
  go_ret
  exact ⟨by rw [HE.out]; rfl, tb.bel⟩

set_option maxHeartbeats 4000000 in
set_option maxRecDepth 100000 in
theorem refRp_exc (q : Req) (r : Rep) (Ao As Ap Bo Bs Bf : Option Addr) (lo ls lp co cs cp mo ms mf eo es ef : Nat) (w : World) (h : Asked w w.heap.size q Ao As Ap lo ls lp) (hr : Repd w w.heap.size r Bo Bs Bf mo ms mf) (hb : lp ≤ 100000) (hk : chkQ q = 0) (hx : r.x ≠ 0) :
    Calls Try.prog 12 #[.agg #[.int .i64 q.c, .int .i64 q.a, .int .i64 q.n, .slice Ao lo co, .slice As ls cs, .slice Ap lp cp], .agg #[.int .i64 r.x, .slice Bo mo eo, .slice Bs ms es, .slice Bf mf ef]] w fun e w' => e = .returned (.int .i64 (chkR q r)) ∧ Below w.heap.size w w' := by
  have tb := TB.new2 w #[.int .i64 q.c, .int .i64 q.a, .int .i64 q.n, .slice Ao lo co, .slice As ls cs, .slice Ap lp cp] #[.int .i64 r.x, .slice Bo mo eo, .slice Bs ms es, .slice Bf mf ef] 26 29
  have hsz : w.heap.size ≤ ((w.alloc (.cells #[.int .i64 q.c, .int .i64 q.a, .int .i64 q.n, .slice Ao lo co, .slice As ls cs, .slice Ap lp cp] 26)).alloc (.cells #[.int .i64 r.x, .slice Bo mo eo, .slice Bs ms es, .slice Bf mf ef] 29)).heap.size := tb.bel.size
  have H0 := Lib.hid h
  have HR0 := Lib.hid hr
  have H := Lib.hid ((h.below tb.bel).more hsz)
  obtain ⟨E, hE⟩ : ∃ E, Hid (chkR q r = E) := ⟨_, Lib.hid rfl⟩
  rw [hE.out]
  have HMO := Lib.hid hr.mo
  have HMS := Lib.hid hr.ms
  have HMF := Lib.hid hr.mf
  have HC := Lib.hid (refCheck_any q Ao As Ap lo ls lp co cs cp _ H.out)
  rw [chkQ_of H.out, hk] at HC
  have HE : Hid ((if 1 ≤ r.x ∧ r.x ≤ 127 then (if anyB mo ms mf = true then 23 else 0) else 3) = E) := Lib.hid (by
    rw [← hE.out]; unfold chkR; rw [if_neg (show ¬ chkQ q ≠ 0 by rw [hk]; simp), if_pos hx, HMO.out, HMS.out, HMF.out])
  have u1 : (r.x != 0) = true := by simpa using hx
  have u2 : (r.x == 0) = false := beq_false_of_ne hx
  clear h hr hk hx
  by_cases h1 : r.x < 1
  · have h1' : Hid (E = 3) := Lib.hid (by rw [← HE.out, if_neg (by omega)])
    go_enter Try.func12, Try.ntmps12
    go_wp2_with fail
    refine HC.out.mono ?_
    rintro e w1 ⟨rfl, b1⟩
    have tb := tb.below b1
    clear b1
    obtain ⟨d0, d1, d2, d3, d4⟩ := tb.c4; obtain ⟨r0, r1, r2, r3, r4, r5, r6⟩ := tb.r6
    go_wp2
    go_ret
    exact ⟨by rw [h1'.out]; rfl, tb.bel⟩
  by_cases h2 : 127 < r.x
  · have h1' : Hid (E = 3) := Lib.hid (by rw [← HE.out, if_neg (by omega)])
    go_enter Try.func12, Try.ntmps12
    go_wp2_with fail
    refine HC.out.mono ?_
    rintro e w1 ⟨rfl, b1⟩
    have tb := tb.below b1
    clear b1
    obtain ⟨d0, d1, d2, d3, d4⟩ := tb.c4; obtain ⟨r0, r1, r2, r3, r4, r5, r6⟩ := tb.r6
    go_wp2
    go_ret
    exact ⟨by rw [h1'.out]; rfl, tb.bel⟩
  have HE2 : Hid ((if anyB mo ms mf = true then 23 else 0) = E) := Lib.hid (by rw [← HE.out, if_pos (show 1 ≤ r.x ∧ r.x ≤ 127 from ⟨by omega, by omega⟩)])
  clear HE hE
  by_cases g1 : 0 < mo
  · have g1' : (0 : Int) < (mo : Int) := by omega
    have hl : Hid (E = 23) := Lib.hid (by rw [← HE2.out]; simp [anyB]; omega)
    clear HE2
    go_enter Try.func12, Try.ntmps12
    go_wp2_with fail
    refine HC.out.mono ?_
    rintro e w1 ⟨rfl, b1⟩
    have tb := tb.below b1
    clear b1
    obtain ⟨d0, d1, d2, d3, d4⟩ := tb.c4; obtain ⟨r0, r1, r2, r3, r4, r5, r6⟩ := tb.r6
    go_wp2
    go_ret
    exact ⟨by rw [hl.out]; rfl, tb.bel⟩
  have g1' : ¬ (0 : Int) < (mo : Int) := by omega
  by_cases g2 : 0 < ms
  · have g2' : (0 : Int) < (ms : Int) := by omega
    have hl : Hid (E = 23) := Lib.hid (by rw [← HE2.out]; simp [anyB]; omega)
    clear HE2
    go_enter Try.func12, Try.ntmps12
    go_wp2_with fail
    refine HC.out.mono ?_
    rintro e w1 ⟨rfl, b1⟩
    have tb := tb.below b1
    clear b1
    obtain ⟨d0, d1, d2, d3, d4⟩ := tb.c4; obtain ⟨r0, r1, r2, r3, r4, r5, r6⟩ := tb.r6
    go_wp2
    go_ret
    exact ⟨by rw [hl.out]; rfl, tb.bel⟩
  have g2' : ¬ (0 : Int) < (ms : Int) := by omega
  by_cases g3 : 0 < mf
  · have g3' : (0 : Int) < (mf : Int) := by omega
    have hl : Hid (E = 23) := Lib.hid (by rw [← HE2.out]; simp [anyB]; omega)
    clear HE2
    go_enter Try.func12, Try.ntmps12
    go_wp2_with fail
    refine HC.out.mono ?_
    rintro e w1 ⟨rfl, b1⟩
    have tb := tb.below b1
    clear b1
    obtain ⟨d0, d1, d2, d3, d4⟩ := tb.c4; obtain ⟨r0, r1, r2, r3, r4, r5, r6⟩ := tb.r6
    go_wp2
    go_ret
    exact ⟨by rw [hl.out]; rfl, tb.bel⟩
  · have g3' : ¬ (0 : Int) < (mf : Int) := by omega
    have hl : Hid (E = 0) := Lib.hid (by rw [← HE2.out]; simp [anyB]; omega)
    clear HE2
    go_enter Try.func12, Try.ntmps12
    go_wp2_with fail
    refine HC.out.mono ?_
    rintro e w1 ⟨rfl, b1⟩
    have tb := tb.below b1
    clear b1
    obtain ⟨d0, d1, d2, d3, d4⟩ := tb.c4; obtain ⟨r0, r1, r2, r3, r4, r5, r6⟩ := tb.r6
    go_wp2
    go_ret
    exact ⟨by rw [hl.out]; rfl, tb.bel⟩
end Go.Proofs.Ytfdikjfbmfibjaa
namespace Go.Proofs.Ytfdikjfbmfibjaa
open Go.RowKit
set_option linter.unusedVariables false

set_option maxHeartbeats 4000000 in
set_option maxRecDepth 100000 in
theorem refRp_bits (q : Req) (r : Rep) (Ao As Ap Bo Bs Bf : Option Addr) (lo ls lp co cs cp mo ms mf eo es ef : Nat) (w : World) (h : Asked w w.heap.size q Ao As Ap lo ls lp) (hr : Repd w w.heap.size r Bo Bs Bf mo ms mf) (hb : lp ≤ 100000) (hk : chkQ q = 0) (hx : r.x = 0) (hc : q.c = 1 ∨ q.c = 2) :
    Calls Try.prog 12 #[.agg #[.int .i64 q.c, .int .i64 q.a, .int .i64 q.n, .slice Ao lo co, .slice As ls cs, .slice Ap lp cp], .agg #[.int .i64 r.x, .slice Bo mo eo, .slice Bs ms es, .slice Bf mf ef]] w fun e w' => e = .returned (.int .i64 (chkR q r)) ∧ Below w.heap.size w w' := by
  have tb := TB.new2 w #[.int .i64 q.c, .int .i64 q.a, .int .i64 q.n, .slice Ao lo co, .slice As ls cs, .slice Ap lp cp] #[.int .i64 r.x, .slice Bo mo eo, .slice Bs ms es, .slice Bf mf ef] 26 29
  have hsz : w.heap.size ≤ ((w.alloc (.cells #[.int .i64 q.c, .int .i64 q.a, .int .i64 q.n, .slice Ao lo co, .slice As ls cs, .slice Ap lp cp] 26)).alloc (.cells #[.int .i64 r.x, .slice Bo mo eo, .slice Bs ms es, .slice Bf mf ef] 29)).heap.size := tb.bel.size
  have H0 := Lib.hid h
  have HR0 := Lib.hid hr
  have H := Lib.hid ((h.below tb.bel).more hsz)
  obtain ⟨E, hE⟩ : ∃ E, Hid (chkR q r = E) := ⟨_, Lib.hid rfl⟩
  rw [hE.out]
  have HMO := Lib.hid hr.mo
  have HMS := Lib.hid hr.ms
  have HMF := Lib.hid hr.mf
  have HC := Lib.hid (refCheck_any q Ao As Ap lo ls lp co cs cp _ H.out)
  rw [chkQ_of H.out, hk] at HC
  have HB : Hid (clB q.c = true) := Lib.hid (decide_eq_true hc)
  have HW : Hid (clW q.c = false) := Lib.hid (decide_eq_false (by omega))
  have HF : Hid (clF q.c = false) := Lib.hid (decide_eq_false (by omega))
  have HS : Hid (strayB q.c mo ms mf = anyB 0 ms mf) := Lib.hid (by unfold strayB; rw [if_pos hc, if_neg (show ¬ (q.c = 3 ∨ q.c = 4) by omega), if_neg (show ¬ (q.c = 20) by omega)])
  have HM2 : Hid (manyB q r = decide ((mo : Int) = q.n)) := Lib.hid (by unfold manyB; rw [if_pos hc, HMO.out])
  have HE : Hid (E = if strayB q.c mo ms mf = true then 23 else if manyB q r = false then 22 else 0) := Lib.hid (by
    rw [← hE.out]; unfold chkR; rw [if_neg (show ¬ chkQ q ≠ 0 by rw [hk]; simp), if_neg (show ¬ r.x ≠ 0 by simp [hx]), HMO.out, HMS.out, HMF.out])
  have u1 : (r.x != 0) = false := by simp [hx]
  have u2 : (r.x == 0) = true := by simp [hx]
  clear h hr hk hx hE H hc
  by_cases g1 : 0 < mo
  · have g1' : (0 : Int) < (mo : Int) := by omega
    by_cases g2 : 0 < ms
    · have g2' : (0 : Int) < (ms : Int) := by omega
      by_cases g3 : 0 < mf
      · have g3' : (0 : Int) < (mf : Int) := by omega
        have hl : Hid (E = 23) := Lib.hid (by rw [HE.out, HS.out, if_pos (by simp [anyB]; omega)])
        clear HE HS
        go_enter Try.func12, Try.ntmps12
        go_wp2_with fail
        refine HC.out.mono ?_
        rintro e w1 ⟨rfl, b1⟩
        have tb := tb.below b1
        clear b1
        obtain ⟨d0, d1, d2, d3, d4⟩ := tb.c4; obtain ⟨r0, r1, r2, r3, r4, r5, r6⟩ := tb.r6
        go_wp2_with (first | (go_at_call 39; refine (refBits_any q.c q.a q.n Ao As Ap lo co ls cs lp cp _).mono ?_; rintro e w9 ⟨rfl, b9⟩; rw [HB.out]; have tb := tb.below b9; obtain ⟨d0, d1, d2, d3, d4⟩ := tb.c4; obtain ⟨r0, r1, r2, r3, r4, r5, r6⟩ := tb.r6) | (go_at_call 40; refine (refWords_kind q.c q.a q.n Ao As Ap lo co ls cs lp cp _).mono ?_; rintro e w9 ⟨rfl, b9⟩; rw [HW.out]; have tb := tb.below b9; obtain ⟨d0, d1, d2, d3, d4⟩ := tb.c4; obtain ⟨r0, r1, r2, r3, r4, r5, r6⟩ := tb.r6) | (go_at_call 41; refine (refFiles_kind q.c q.a q.n Ao As Ap lo co ls cs lp cp _).mono ?_; rintro e w9 ⟨rfl, b9⟩; rw [HF.out]; have tb := tb.below b9; obtain ⟨d0, d1, d2, d3, d4⟩ := tb.c4; obtain ⟨r0, r1, r2, r3, r4, r5, r6⟩ := tb.r6))
        go_ret
        exact ⟨by rw [hl.out]; rfl, tb.bel⟩
      · have g3' : ¬ (0 : Int) < (mf : Int) := by omega
        have hl : Hid (E = 23) := Lib.hid (by rw [HE.out, HS.out, if_pos (by simp [anyB]; omega)])
        clear HE HS
        go_enter Try.func12, Try.ntmps12
        go_wp2_with fail
        refine HC.out.mono ?_
        rintro e w1 ⟨rfl, b1⟩
        have tb := tb.below b1
        clear b1
        obtain ⟨d0, d1, d2, d3, d4⟩ := tb.c4; obtain ⟨r0, r1, r2, r3, r4, r5, r6⟩ := tb.r6
        go_wp2_with (first | (go_at_call 39; refine (refBits_any q.c q.a q.n Ao As Ap lo co ls cs lp cp _).mono ?_; rintro e w9 ⟨rfl, b9⟩; rw [HB.out]; have tb := tb.below b9; obtain ⟨d0, d1, d2, d3, d4⟩ := tb.c4; obtain ⟨r0, r1, r2, r3, r4, r5, r6⟩ := tb.r6) | (go_at_call 40; refine (refWords_kind q.c q.a q.n Ao As Ap lo co ls cs lp cp _).mono ?_; rintro e w9 ⟨rfl, b9⟩; rw [HW.out]; have tb := tb.below b9; obtain ⟨d0, d1, d2, d3, d4⟩ := tb.c4; obtain ⟨r0, r1, r2, r3, r4, r5, r6⟩ := tb.r6) | (go_at_call 41; refine (refFiles_kind q.c q.a q.n Ao As Ap lo co ls cs lp cp _).mono ?_; rintro e w9 ⟨rfl, b9⟩; rw [HF.out]; have tb := tb.below b9; obtain ⟨d0, d1, d2, d3, d4⟩ := tb.c4; obtain ⟨r0, r1, r2, r3, r4, r5, r6⟩ := tb.r6))
        go_ret
        exact ⟨by rw [hl.out]; rfl, tb.bel⟩
    · have g2' : ¬ (0 : Int) < (ms : Int) := by omega
      by_cases g3 : 0 < mf
      · have g3' : (0 : Int) < (mf : Int) := by omega
        have hl : Hid (E = 23) := Lib.hid (by rw [HE.out, HS.out, if_pos (by simp [anyB]; omega)])
        clear HE HS
        go_enter Try.func12, Try.ntmps12
        go_wp2_with fail
        refine HC.out.mono ?_
        rintro e w1 ⟨rfl, b1⟩
        have tb := tb.below b1
        clear b1
        obtain ⟨d0, d1, d2, d3, d4⟩ := tb.c4; obtain ⟨r0, r1, r2, r3, r4, r5, r6⟩ := tb.r6
        go_wp2_with (first | (go_at_call 39; refine (refBits_any q.c q.a q.n Ao As Ap lo co ls cs lp cp _).mono ?_; rintro e w9 ⟨rfl, b9⟩; rw [HB.out]; have tb := tb.below b9; obtain ⟨d0, d1, d2, d3, d4⟩ := tb.c4; obtain ⟨r0, r1, r2, r3, r4, r5, r6⟩ := tb.r6) | (go_at_call 40; refine (refWords_kind q.c q.a q.n Ao As Ap lo co ls cs lp cp _).mono ?_; rintro e w9 ⟨rfl, b9⟩; rw [HW.out]; have tb := tb.below b9; obtain ⟨d0, d1, d2, d3, d4⟩ := tb.c4; obtain ⟨r0, r1, r2, r3, r4, r5, r6⟩ := tb.r6) | (go_at_call 41; refine (refFiles_kind q.c q.a q.n Ao As Ap lo co ls cs lp cp _).mono ?_; rintro e w9 ⟨rfl, b9⟩; rw [HF.out]; have tb := tb.below b9; obtain ⟨d0, d1, d2, d3, d4⟩ := tb.c4; obtain ⟨r0, r1, r2, r3, r4, r5, r6⟩ := tb.r6))
        go_ret
        exact ⟨by rw [hl.out]; rfl, tb.bel⟩
      · have g3' : ¬ (0 : Int) < (mf : Int) := by omega
        have HEM : Hid (E = if manyB q r = false then 22 else 0) := Lib.hid (by rw [HE.out, HS.out, if_neg (by simp [anyB]; try omega)])
        by_cases he : (mo : Int) = q.n
        · have u3 : ((mo : Int) != q.n) = false := by simp [he]
          have u4 : ((mo : Int) == q.n) = true := by simp [he]
          have HN : Hid (manyB q r = true) := Lib.hid (by rw [HM2.out]; exact decide_eq_true he)
          clear he HE HS
          go_enter Try.func12, Try.ntmps12
          go_wp2_with fail
          refine HC.out.mono ?_
          rintro e w1 ⟨rfl, b1⟩
          have tb := tb.below b1
          clear b1
          obtain ⟨d0, d1, d2, d3, d4⟩ := tb.c4; obtain ⟨r0, r1, r2, r3, r4, r5, r6⟩ := tb.r6
          go_wp2_with (first | (go_at_call 39; refine (refBits_any q.c q.a q.n Ao As Ap lo co ls cs lp cp _).mono ?_; rintro e w9 ⟨rfl, b9⟩; rw [HB.out]; have tb := tb.below b9; obtain ⟨d0, d1, d2, d3, d4⟩ := tb.c4; obtain ⟨r0, r1, r2, r3, r4, r5, r6⟩ := tb.r6) | (go_at_call 40; refine (refWords_kind q.c q.a q.n Ao As Ap lo co ls cs lp cp _).mono ?_; rintro e w9 ⟨rfl, b9⟩; rw [HW.out]; have tb := tb.below b9; obtain ⟨d0, d1, d2, d3, d4⟩ := tb.c4; obtain ⟨r0, r1, r2, r3, r4, r5, r6⟩ := tb.r6) | (go_at_call 41; refine (refFiles_kind q.c q.a q.n Ao As Ap lo co ls cs lp cp _).mono ?_; rintro e w9 ⟨rfl, b9⟩; rw [HF.out]; have tb := tb.below b9; obtain ⟨d0, d1, d2, d3, d4⟩ := tb.c4; obtain ⟨r0, r1, r2, r3, r4, r5, r6⟩ := tb.r6))
          go_loopw [6] (fun i wr => ∃ k : Nat, k ≤ mf ∧ i = .int .i64 k ∧ TB w w.heap.size (.cells #[.int .i64 q.c, .int .i64 q.a, .int .i64 q.n, .slice Ao lo co, .slice As ls cs, .slice Ap lp cp] 26 (0, 0)) (.cells #[.int .i64 r.x, .slice Bo mo eo, .slice Bs ms es, .slice Bf mf ef] 29 (0, 0)) wr ∧ Hid (∀ j, j < k → ((nthF r.fs j).length : Int) = nth q.fl (3 * j + 2))) (fun i _ => mf - (intOf i).toNat)
          case atStart => exact ⟨0, by omega, rfl, tb, Lib.hid (fun j h => by omega)⟩
          case round =>
            clear d0 d1 d2 d3 d4 r0 r1 r2 r3 r4 r5 r6 tb
            obtain ⟨k, hk, rfl, tb, hs⟩ := hrel
            by_cases hlt : k < mf
            · exact absurd hlt (by omega)
            · obtain rfl : k = mf := by omega
              have hl : Hid (E = 0) := Lib.hid (by rw [HEM.out, HN.out]; rfl)
              obtain ⟨d0, d1, d2, d3, d4⟩ := tb.c4; obtain ⟨r0, r1, r2, r3, r4, r5, r6⟩ := tb.r6
              go_wp2
              go_ret
              exact ⟨by rw [hl.out]; rfl, tb.bel⟩
        · have u3 : ((mo : Int) != q.n) = true := by simpa using he
          have u4 : ((mo : Int) == q.n) = false := beq_false_of_ne he
          have HN : Hid (manyB q r = false) := Lib.hid (by rw [HM2.out]; exact decide_eq_false he)
          clear he
          have hl : Hid (E = 22) := Lib.hid (by rw [HEM.out, HN.out]; rfl)
          clear HE HS
          go_enter Try.func12, Try.ntmps12
          go_wp2_with fail
          refine HC.out.mono ?_
          rintro e w1 ⟨rfl, b1⟩
          have tb := tb.below b1
          clear b1
          obtain ⟨d0, d1, d2, d3, d4⟩ := tb.c4; obtain ⟨r0, r1, r2, r3, r4, r5, r6⟩ := tb.r6
          go_wp2_with (first | (go_at_call 39; refine (refBits_any q.c q.a q.n Ao As Ap lo co ls cs lp cp _).mono ?_; rintro e w9 ⟨rfl, b9⟩; rw [HB.out]; have tb := tb.below b9; obtain ⟨d0, d1, d2, d3, d4⟩ := tb.c4; obtain ⟨r0, r1, r2, r3, r4, r5, r6⟩ := tb.r6) | (go_at_call 40; refine (refWords_kind q.c q.a q.n Ao As Ap lo co ls cs lp cp _).mono ?_; rintro e w9 ⟨rfl, b9⟩; rw [HW.out]; have tb := tb.below b9; obtain ⟨d0, d1, d2, d3, d4⟩ := tb.c4; obtain ⟨r0, r1, r2, r3, r4, r5, r6⟩ := tb.r6) | (go_at_call 41; refine (refFiles_kind q.c q.a q.n Ao As Ap lo co ls cs lp cp _).mono ?_; rintro e w9 ⟨rfl, b9⟩; rw [HF.out]; have tb := tb.below b9; obtain ⟨d0, d1, d2, d3, d4⟩ := tb.c4; obtain ⟨r0, r1, r2, r3, r4, r5, r6⟩ := tb.r6))
          go_ret
          exact ⟨by rw [hl.out]; rfl, tb.bel⟩
  · have g1' : ¬ (0 : Int) < (mo : Int) := by omega
    by_cases g2 : 0 < ms
    · have g2' : (0 : Int) < (ms : Int) := by omega
      by_cases g3 : 0 < mf
      · have g3' : (0 : Int) < (mf : Int) := by omega
        have hl : Hid (E = 23) := Lib.hid (by rw [HE.out, HS.out, if_pos (by simp [anyB]; omega)])
        clear HE HS
        go_enter Try.func12, Try.ntmps12
        go_wp2_with fail
        refine HC.out.mono ?_
        rintro e w1 ⟨rfl, b1⟩
        have tb := tb.below b1
        clear b1
        obtain ⟨d0, d1, d2, d3, d4⟩ := tb.c4; obtain ⟨r0, r1, r2, r3, r4, r5, r6⟩ := tb.r6
        go_wp2_with (first | (go_at_call 39; refine (refBits_any q.c q.a q.n Ao As Ap lo co ls cs lp cp _).mono ?_; rintro e w9 ⟨rfl, b9⟩; rw [HB.out]; have tb := tb.below b9; obtain ⟨d0, d1, d2, d3, d4⟩ := tb.c4; obtain ⟨r0, r1, r2, r3, r4, r5, r6⟩ := tb.r6) | (go_at_call 40; refine (refWords_kind q.c q.a q.n Ao As Ap lo co ls cs lp cp _).mono ?_; rintro e w9 ⟨rfl, b9⟩; rw [HW.out]; have tb := tb.below b9; obtain ⟨d0, d1, d2, d3, d4⟩ := tb.c4; obtain ⟨r0, r1, r2, r3, r4, r5, r6⟩ := tb.r6) | (go_at_call 41; refine (refFiles_kind q.c q.a q.n Ao As Ap lo co ls cs lp cp _).mono ?_; rintro e w9 ⟨rfl, b9⟩; rw [HF.out]; have tb := tb.below b9; obtain ⟨d0, d1, d2, d3, d4⟩ := tb.c4; obtain ⟨r0, r1, r2, r3, r4, r5, r6⟩ := tb.r6))
        go_ret
        exact ⟨by rw [hl.out]; rfl, tb.bel⟩
      · have g3' : ¬ (0 : Int) < (mf : Int) := by omega
        have hl : Hid (E = 23) := Lib.hid (by rw [HE.out, HS.out, if_pos (by simp [anyB]; omega)])
        clear HE HS
        go_enter Try.func12, Try.ntmps12
        go_wp2_with fail
        refine HC.out.mono ?_
        rintro e w1 ⟨rfl, b1⟩
        have tb := tb.below b1
        clear b1
        obtain ⟨d0, d1, d2, d3, d4⟩ := tb.c4; obtain ⟨r0, r1, r2, r3, r4, r5, r6⟩ := tb.r6
        go_wp2_with (first | (go_at_call 39; refine (refBits_any q.c q.a q.n Ao As Ap lo co ls cs lp cp _).mono ?_; rintro e w9 ⟨rfl, b9⟩; rw [HB.out]; have tb := tb.below b9; obtain ⟨d0, d1, d2, d3, d4⟩ := tb.c4; obtain ⟨r0, r1, r2, r3, r4, r5, r6⟩ := tb.r6) | (go_at_call 40; refine (refWords_kind q.c q.a q.n Ao As Ap lo co ls cs lp cp _).mono ?_; rintro e w9 ⟨rfl, b9⟩; rw [HW.out]; have tb := tb.below b9; obtain ⟨d0, d1, d2, d3, d4⟩ := tb.c4; obtain ⟨r0, r1, r2, r3, r4, r5, r6⟩ := tb.r6) | (go_at_call 41; refine (refFiles_kind q.c q.a q.n Ao As Ap lo co ls cs lp cp _).mono ?_; rintro e w9 ⟨rfl, b9⟩; rw [HF.out]; have tb := tb.below b9; obtain ⟨d0, d1, d2, d3, d4⟩ := tb.c4; obtain ⟨r0, r1, r2, r3, r4, r5, r6⟩ := tb.r6))
        go_ret
        exact ⟨by rw [hl.out]; rfl, tb.bel⟩
    · have g2' : ¬ (0 : Int) < (ms : Int) := by omega
      by_cases g3 : 0 < mf
      · have g3' : (0 : Int) < (mf : Int) := by omega
        have hl : Hid (E = 23) := Lib.hid (by rw [HE.out, HS.out, if_pos (by simp [anyB]; omega)])
        clear HE HS
        go_enter Try.func12, Try.ntmps12
        go_wp2_with fail
        refine HC.out.mono ?_
        rintro e w1 ⟨rfl, b1⟩
        have tb := tb.below b1
        clear b1
        obtain ⟨d0, d1, d2, d3, d4⟩ := tb.c4; obtain ⟨r0, r1, r2, r3, r4, r5, r6⟩ := tb.r6
        go_wp2_with (first | (go_at_call 39; refine (refBits_any q.c q.a q.n Ao As Ap lo co ls cs lp cp _).mono ?_; rintro e w9 ⟨rfl, b9⟩; rw [HB.out]; have tb := tb.below b9; obtain ⟨d0, d1, d2, d3, d4⟩ := tb.c4; obtain ⟨r0, r1, r2, r3, r4, r5, r6⟩ := tb.r6) | (go_at_call 40; refine (refWords_kind q.c q.a q.n Ao As Ap lo co ls cs lp cp _).mono ?_; rintro e w9 ⟨rfl, b9⟩; rw [HW.out]; have tb := tb.below b9; obtain ⟨d0, d1, d2, d3, d4⟩ := tb.c4; obtain ⟨r0, r1, r2, r3, r4, r5, r6⟩ := tb.r6) | (go_at_call 41; refine (refFiles_kind q.c q.a q.n Ao As Ap lo co ls cs lp cp _).mono ?_; rintro e w9 ⟨rfl, b9⟩; rw [HF.out]; have tb := tb.below b9; obtain ⟨d0, d1, d2, d3, d4⟩ := tb.c4; obtain ⟨r0, r1, r2, r3, r4, r5, r6⟩ := tb.r6))
        go_ret
        exact ⟨by rw [hl.out]; rfl, tb.bel⟩
      · have g3' : ¬ (0 : Int) < (mf : Int) := by omega
        have HEM : Hid (E = if manyB q r = false then 22 else 0) := Lib.hid (by rw [HE.out, HS.out, if_neg (by simp [anyB]; try omega)])
        by_cases he : (mo : Int) = q.n
        · have u3 : ((mo : Int) != q.n) = false := by simp [he]
          have u4 : ((mo : Int) == q.n) = true := by simp [he]
          have HN : Hid (manyB q r = true) := Lib.hid (by rw [HM2.out]; exact decide_eq_true he)
          clear he HE HS
          go_enter Try.func12, Try.ntmps12
          go_wp2_with fail
          refine HC.out.mono ?_
          rintro e w1 ⟨rfl, b1⟩
          have tb := tb.below b1
          clear b1
          obtain ⟨d0, d1, d2, d3, d4⟩ := tb.c4; obtain ⟨r0, r1, r2, r3, r4, r5, r6⟩ := tb.r6
          go_wp2_with (first | (go_at_call 39; refine (refBits_any q.c q.a q.n Ao As Ap lo co ls cs lp cp _).mono ?_; rintro e w9 ⟨rfl, b9⟩; rw [HB.out]; have tb := tb.below b9; obtain ⟨d0, d1, d2, d3, d4⟩ := tb.c4; obtain ⟨r0, r1, r2, r3, r4, r5, r6⟩ := tb.r6) | (go_at_call 40; refine (refWords_kind q.c q.a q.n Ao As Ap lo co ls cs lp cp _).mono ?_; rintro e w9 ⟨rfl, b9⟩; rw [HW.out]; have tb := tb.below b9; obtain ⟨d0, d1, d2, d3, d4⟩ := tb.c4; obtain ⟨r0, r1, r2, r3, r4, r5, r6⟩ := tb.r6) | (go_at_call 41; refine (refFiles_kind q.c q.a q.n Ao As Ap lo co ls cs lp cp _).mono ?_; rintro e w9 ⟨rfl, b9⟩; rw [HF.out]; have tb := tb.below b9; obtain ⟨d0, d1, d2, d3, d4⟩ := tb.c4; obtain ⟨r0, r1, r2, r3, r4, r5, r6⟩ := tb.r6))
          go_loopw [6] (fun i wr => ∃ k : Nat, k ≤ mf ∧ i = .int .i64 k ∧ TB w w.heap.size (.cells #[.int .i64 q.c, .int .i64 q.a, .int .i64 q.n, .slice Ao lo co, .slice As ls cs, .slice Ap lp cp] 26 (0, 0)) (.cells #[.int .i64 r.x, .slice Bo mo eo, .slice Bs ms es, .slice Bf mf ef] 29 (0, 0)) wr ∧ Hid (∀ j, j < k → ((nthF r.fs j).length : Int) = nth q.fl (3 * j + 2))) (fun i _ => mf - (intOf i).toNat)
          case atStart => exact ⟨0, by omega, rfl, tb, Lib.hid (fun j h => by omega)⟩
          case round =>
            clear d0 d1 d2 d3 d4 r0 r1 r2 r3 r4 r5 r6 tb
            obtain ⟨k, hk, rfl, tb, hs⟩ := hrel
            by_cases hlt : k < mf
            · exact absurd hlt (by omega)
            · obtain rfl : k = mf := by omega
              have hl : Hid (E = 0) := Lib.hid (by rw [HEM.out, HN.out]; rfl)
              obtain ⟨d0, d1, d2, d3, d4⟩ := tb.c4; obtain ⟨r0, r1, r2, r3, r4, r5, r6⟩ := tb.r6
              go_wp2
              go_ret
              exact ⟨by rw [hl.out]; rfl, tb.bel⟩
        · have u3 : ((mo : Int) != q.n) = true := by simpa using he
          have u4 : ((mo : Int) == q.n) = false := beq_false_of_ne he
          have HN : Hid (manyB q r = false) := Lib.hid (by rw [HM2.out]; exact decide_eq_false he)
          clear he
          have hl : Hid (E = 22) := Lib.hid (by rw [HEM.out, HN.out]; rfl)
          clear HE HS
          go_enter Try.func12, Try.ntmps12
          go_wp2_with fail
          refine HC.out.mono ?_
          rintro e w1 ⟨rfl, b1⟩
          have tb := tb.below b1
          clear b1
          obtain ⟨d0, d1, d2, d3, d4⟩ := tb.c4; obtain ⟨r0, r1, r2, r3, r4, r5, r6⟩ := tb.r6
          go_wp2_with (first | (go_at_call 39; refine (refBits_any q.c q.a q.n Ao As Ap lo co ls cs lp cp _).mono ?_; rintro e w9 ⟨rfl, b9⟩; rw [HB.out]; have tb := tb.below b9; obtain ⟨d0, d1, d2, d3, d4⟩ := tb.c4; obtain ⟨r0, r1, r2, r3, r4, r5, r6⟩ := tb.r6) | (go_at_call 40; refine (refWords_kind q.c q.a q.n Ao As Ap lo co ls cs lp cp _).mono ?_; rintro e w9 ⟨rfl, b9⟩; rw [HW.out]; have tb := tb.below b9; obtain ⟨d0, d1, d2, d3, d4⟩ := tb.c4; obtain ⟨r0, r1, r2, r3, r4, r5, r6⟩ := tb.r6) | (go_at_call 41; refine (refFiles_kind q.c q.a q.n Ao As Ap lo co ls cs lp cp _).mono ?_; rintro e w9 ⟨rfl, b9⟩; rw [HF.out]; have tb := tb.below b9; obtain ⟨d0, d1, d2, d3, d4⟩ := tb.c4; obtain ⟨r0, r1, r2, r3, r4, r5, r6⟩ := tb.r6))
          go_ret
          exact ⟨by rw [hl.out]; rfl, tb.bel⟩
end Go.Proofs.Ytfdikjfbmfibjaa
namespace Go.Proofs.Ytfdikjfbmfibjaa
open Go.RowKit
set_option linter.unusedVariables false

set_option maxHeartbeats 4000000 in
set_option maxRecDepth 100000 in
theorem refRp_words (q : Req) (r : Rep) (Ao As Ap Bo Bs Bf : Option Addr) (lo ls lp co cs cp mo ms mf eo es ef : Nat) (w : World) (h : Asked w w.heap.size q Ao As Ap lo ls lp) (hr : Repd w w.heap.size r Bo Bs Bf mo ms mf) (hb : lp ≤ 100000) (hk : chkQ q = 0) (hx : r.x = 0) (hc : q.c = 3 ∨ q.c = 4) :
    Calls Try.prog 12 #[.agg #[.int .i64 q.c, .int .i64 q.a, .int .i64 q.n, .slice Ao lo co, .slice As ls cs, .slice Ap lp cp], .agg #[.int .i64 r.x, .slice Bo mo eo, .slice Bs ms es, .slice Bf mf ef]] w fun e w' => e = .returned (.int .i64 (chkR q r)) ∧ Below w.heap.size w w' := by
  have tb := TB.new2 w #[.int .i64 q.c, .int .i64 q.a, .int .i64 q.n, .slice Ao lo co, .slice As ls cs, .slice Ap lp cp] #[.int .i64 r.x, .slice Bo mo eo, .slice Bs ms es, .slice Bf mf ef] 26 29
  have hsz : w.heap.size ≤ ((w.alloc (.cells #[.int .i64 q.c, .int .i64 q.a, .int .i64 q.n, .slice Ao lo co, .slice As ls cs, .slice Ap lp cp] 26)).alloc (.cells #[.int .i64 r.x, .slice Bo mo eo, .slice Bs ms es, .slice Bf mf ef] 29)).heap.size := tb.bel.size
  have H0 := Lib.hid h
  have HR0 := Lib.hid hr
  have H := Lib.hid ((h.below tb.bel).more hsz)
  obtain ⟨E, hE⟩ : ∃ E, Hid (chkR q r = E) := ⟨_, Lib.hid rfl⟩
  rw [hE.out]
  have HMO := Lib.hid hr.mo
  have HMS := Lib.hid hr.ms
  have HMF := Lib.hid hr.mf
  have HC := Lib.hid (refCheck_any q Ao As Ap lo ls lp co cs cp _ H.out)
  rw [chkQ_of H.out, hk] at HC
  have HB : Hid (clB q.c = false) := Lib.hid (decide_eq_false (by omega))
  have HW : Hid (clW q.c = true) := Lib.hid (decide_eq_true hc)
  have HF : Hid (clF q.c = false) := Lib.hid (decide_eq_false (by omega))
  have HS : Hid (strayB q.c mo ms mf = anyB mo 0 mf) := Lib.hid (by unfold strayB; rw [if_neg (show ¬ (q.c = 1 ∨ q.c = 2) by omega), if_pos hc, if_neg (show ¬ (q.c = 20) by omega)])
  have HM2 : Hid (manyB q r = decide ((ms : Int) = q.n)) := Lib.hid (by unfold manyB; rw [if_neg (show ¬ (q.c = 1 ∨ q.c = 2) by omega), if_pos hc, HMS.out])
  have HE : Hid (E = if strayB q.c mo ms mf = true then 23 else if manyB q r = false then 22 else 0) := Lib.hid (by
    rw [← hE.out]; unfold chkR; rw [if_neg (show ¬ chkQ q ≠ 0 by rw [hk]; simp), if_neg (show ¬ r.x ≠ 0 by simp [hx]), HMO.out, HMS.out, HMF.out])
  have u1 : (r.x != 0) = false := by simp [hx]
  have u2 : (r.x == 0) = true := by simp [hx]
  clear h hr hk hx hE H hc
  by_cases g1 : 0 < mo
  · have g1' : (0 : Int) < (mo : Int) := by omega
    by_cases g2 : 0 < ms
    · have g2' : (0 : Int) < (ms : Int) := by omega
      by_cases g3 : 0 < mf
      · have g3' : (0 : Int) < (mf : Int) := by omega
        have hl : Hid (E = 23) := Lib.hid (by rw [HE.out, HS.out, if_pos (by simp [anyB]; omega)])
        clear HE HS
        go_enter Try.func12, Try.ntmps12
        go_wp2_with fail
        refine HC.out.mono ?_
        rintro e w1 ⟨rfl, b1⟩
        have tb := tb.below b1
        clear b1
        obtain ⟨d0, d1, d2, d3, d4⟩ := tb.c4; obtain ⟨r0, r1, r2, r3, r4, r5, r6⟩ := tb.r6
        go_wp2_with (first | (go_at_call 39; refine (refBits_any q.c q.a q.n Ao As Ap lo co ls cs lp cp _).mono ?_; rintro e w9 ⟨rfl, b9⟩; rw [HB.out]; have tb := tb.below b9; obtain ⟨d0, d1, d2, d3, d4⟩ := tb.c4; obtain ⟨r0, r1, r2, r3, r4, r5, r6⟩ := tb.r6) | (go_at_call 40; refine (refWords_kind q.c q.a q.n Ao As Ap lo co ls cs lp cp _).mono ?_; rintro e w9 ⟨rfl, b9⟩; rw [HW.out]; have tb := tb.below b9; obtain ⟨d0, d1, d2, d3, d4⟩ := tb.c4; obtain ⟨r0, r1, r2, r3, r4, r5, r6⟩ := tb.r6) | (go_at_call 41; refine (refFiles_kind q.c q.a q.n Ao As Ap lo co ls cs lp cp _).mono ?_; rintro e w9 ⟨rfl, b9⟩; rw [HF.out]; have tb := tb.below b9; obtain ⟨d0, d1, d2, d3, d4⟩ := tb.c4; obtain ⟨r0, r1, r2, r3, r4, r5, r6⟩ := tb.r6))
        go_ret
        exact ⟨by rw [hl.out]; rfl, tb.bel⟩
      · have g3' : ¬ (0 : Int) < (mf : Int) := by omega
        have hl : Hid (E = 23) := Lib.hid (by rw [HE.out, HS.out, if_pos (by simp [anyB]; omega)])
        clear HE HS
        go_enter Try.func12, Try.ntmps12
        go_wp2_with fail
        refine HC.out.mono ?_
        rintro e w1 ⟨rfl, b1⟩
        have tb := tb.below b1
        clear b1
        obtain ⟨d0, d1, d2, d3, d4⟩ := tb.c4; obtain ⟨r0, r1, r2, r3, r4, r5, r6⟩ := tb.r6
        go_wp2_with (first | (go_at_call 39; refine (refBits_any q.c q.a q.n Ao As Ap lo co ls cs lp cp _).mono ?_; rintro e w9 ⟨rfl, b9⟩; rw [HB.out]; have tb := tb.below b9; obtain ⟨d0, d1, d2, d3, d4⟩ := tb.c4; obtain ⟨r0, r1, r2, r3, r4, r5, r6⟩ := tb.r6) | (go_at_call 40; refine (refWords_kind q.c q.a q.n Ao As Ap lo co ls cs lp cp _).mono ?_; rintro e w9 ⟨rfl, b9⟩; rw [HW.out]; have tb := tb.below b9; obtain ⟨d0, d1, d2, d3, d4⟩ := tb.c4; obtain ⟨r0, r1, r2, r3, r4, r5, r6⟩ := tb.r6) | (go_at_call 41; refine (refFiles_kind q.c q.a q.n Ao As Ap lo co ls cs lp cp _).mono ?_; rintro e w9 ⟨rfl, b9⟩; rw [HF.out]; have tb := tb.below b9; obtain ⟨d0, d1, d2, d3, d4⟩ := tb.c4; obtain ⟨r0, r1, r2, r3, r4, r5, r6⟩ := tb.r6))
        go_ret
        exact ⟨by rw [hl.out]; rfl, tb.bel⟩
    · have g2' : ¬ (0 : Int) < (ms : Int) := by omega
      by_cases g3 : 0 < mf
      · have g3' : (0 : Int) < (mf : Int) := by omega
        have hl : Hid (E = 23) := Lib.hid (by rw [HE.out, HS.out, if_pos (by simp [anyB]; omega)])
        clear HE HS
        go_enter Try.func12, Try.ntmps12
        go_wp2_with fail
        refine HC.out.mono ?_
        rintro e w1 ⟨rfl, b1⟩
        have tb := tb.below b1
        clear b1
        obtain ⟨d0, d1, d2, d3, d4⟩ := tb.c4; obtain ⟨r0, r1, r2, r3, r4, r5, r6⟩ := tb.r6
        go_wp2_with (first | (go_at_call 39; refine (refBits_any q.c q.a q.n Ao As Ap lo co ls cs lp cp _).mono ?_; rintro e w9 ⟨rfl, b9⟩; rw [HB.out]; have tb := tb.below b9; obtain ⟨d0, d1, d2, d3, d4⟩ := tb.c4; obtain ⟨r0, r1, r2, r3, r4, r5, r6⟩ := tb.r6) | (go_at_call 40; refine (refWords_kind q.c q.a q.n Ao As Ap lo co ls cs lp cp _).mono ?_; rintro e w9 ⟨rfl, b9⟩; rw [HW.out]; have tb := tb.below b9; obtain ⟨d0, d1, d2, d3, d4⟩ := tb.c4; obtain ⟨r0, r1, r2, r3, r4, r5, r6⟩ := tb.r6) | (go_at_call 41; refine (refFiles_kind q.c q.a q.n Ao As Ap lo co ls cs lp cp _).mono ?_; rintro e w9 ⟨rfl, b9⟩; rw [HF.out]; have tb := tb.below b9; obtain ⟨d0, d1, d2, d3, d4⟩ := tb.c4; obtain ⟨r0, r1, r2, r3, r4, r5, r6⟩ := tb.r6))
        go_ret
        exact ⟨by rw [hl.out]; rfl, tb.bel⟩
      · have g3' : ¬ (0 : Int) < (mf : Int) := by omega
        have hl : Hid (E = 23) := Lib.hid (by rw [HE.out, HS.out, if_pos (by simp [anyB]; omega)])
        clear HE HS
        go_enter Try.func12, Try.ntmps12
        go_wp2_with fail
        refine HC.out.mono ?_
        rintro e w1 ⟨rfl, b1⟩
        have tb := tb.below b1
        clear b1
        obtain ⟨d0, d1, d2, d3, d4⟩ := tb.c4; obtain ⟨r0, r1, r2, r3, r4, r5, r6⟩ := tb.r6
        go_wp2_with (first | (go_at_call 39; refine (refBits_any q.c q.a q.n Ao As Ap lo co ls cs lp cp _).mono ?_; rintro e w9 ⟨rfl, b9⟩; rw [HB.out]; have tb := tb.below b9; obtain ⟨d0, d1, d2, d3, d4⟩ := tb.c4; obtain ⟨r0, r1, r2, r3, r4, r5, r6⟩ := tb.r6) | (go_at_call 40; refine (refWords_kind q.c q.a q.n Ao As Ap lo co ls cs lp cp _).mono ?_; rintro e w9 ⟨rfl, b9⟩; rw [HW.out]; have tb := tb.below b9; obtain ⟨d0, d1, d2, d3, d4⟩ := tb.c4; obtain ⟨r0, r1, r2, r3, r4, r5, r6⟩ := tb.r6) | (go_at_call 41; refine (refFiles_kind q.c q.a q.n Ao As Ap lo co ls cs lp cp _).mono ?_; rintro e w9 ⟨rfl, b9⟩; rw [HF.out]; have tb := tb.below b9; obtain ⟨d0, d1, d2, d3, d4⟩ := tb.c4; obtain ⟨r0, r1, r2, r3, r4, r5, r6⟩ := tb.r6))
        go_ret
        exact ⟨by rw [hl.out]; rfl, tb.bel⟩
  · have g1' : ¬ (0 : Int) < (mo : Int) := by omega
    by_cases g2 : 0 < ms
    · have g2' : (0 : Int) < (ms : Int) := by omega
      by_cases g3 : 0 < mf
      · have g3' : (0 : Int) < (mf : Int) := by omega
        have hl : Hid (E = 23) := Lib.hid (by rw [HE.out, HS.out, if_pos (by simp [anyB]; omega)])
        clear HE HS
        go_enter Try.func12, Try.ntmps12
        go_wp2_with fail
        refine HC.out.mono ?_
        rintro e w1 ⟨rfl, b1⟩
        have tb := tb.below b1
        clear b1
        obtain ⟨d0, d1, d2, d3, d4⟩ := tb.c4; obtain ⟨r0, r1, r2, r3, r4, r5, r6⟩ := tb.r6
        go_wp2_with (first | (go_at_call 39; refine (refBits_any q.c q.a q.n Ao As Ap lo co ls cs lp cp _).mono ?_; rintro e w9 ⟨rfl, b9⟩; rw [HB.out]; have tb := tb.below b9; obtain ⟨d0, d1, d2, d3, d4⟩ := tb.c4; obtain ⟨r0, r1, r2, r3, r4, r5, r6⟩ := tb.r6) | (go_at_call 40; refine (refWords_kind q.c q.a q.n Ao As Ap lo co ls cs lp cp _).mono ?_; rintro e w9 ⟨rfl, b9⟩; rw [HW.out]; have tb := tb.below b9; obtain ⟨d0, d1, d2, d3, d4⟩ := tb.c4; obtain ⟨r0, r1, r2, r3, r4, r5, r6⟩ := tb.r6) | (go_at_call 41; refine (refFiles_kind q.c q.a q.n Ao As Ap lo co ls cs lp cp _).mono ?_; rintro e w9 ⟨rfl, b9⟩; rw [HF.out]; have tb := tb.below b9; obtain ⟨d0, d1, d2, d3, d4⟩ := tb.c4; obtain ⟨r0, r1, r2, r3, r4, r5, r6⟩ := tb.r6))
        go_ret
        exact ⟨by rw [hl.out]; rfl, tb.bel⟩
      · have g3' : ¬ (0 : Int) < (mf : Int) := by omega
        have HEM : Hid (E = if manyB q r = false then 22 else 0) := Lib.hid (by rw [HE.out, HS.out, if_neg (by simp [anyB]; try omega)])
        by_cases he : (ms : Int) = q.n
        · have u3 : ((ms : Int) != q.n) = false := by simp [he]
          have u4 : ((ms : Int) == q.n) = true := by simp [he]
          have HN : Hid (manyB q r = true) := Lib.hid (by rw [HM2.out]; exact decide_eq_true he)
          clear he HE HS
          go_enter Try.func12, Try.ntmps12
          go_wp2_with fail
          refine HC.out.mono ?_
          rintro e w1 ⟨rfl, b1⟩
          have tb := tb.below b1
          clear b1
          obtain ⟨d0, d1, d2, d3, d4⟩ := tb.c4; obtain ⟨r0, r1, r2, r3, r4, r5, r6⟩ := tb.r6
          go_wp2_with (first | (go_at_call 39; refine (refBits_any q.c q.a q.n Ao As Ap lo co ls cs lp cp _).mono ?_; rintro e w9 ⟨rfl, b9⟩; rw [HB.out]; have tb := tb.below b9; obtain ⟨d0, d1, d2, d3, d4⟩ := tb.c4; obtain ⟨r0, r1, r2, r3, r4, r5, r6⟩ := tb.r6) | (go_at_call 40; refine (refWords_kind q.c q.a q.n Ao As Ap lo co ls cs lp cp _).mono ?_; rintro e w9 ⟨rfl, b9⟩; rw [HW.out]; have tb := tb.below b9; obtain ⟨d0, d1, d2, d3, d4⟩ := tb.c4; obtain ⟨r0, r1, r2, r3, r4, r5, r6⟩ := tb.r6) | (go_at_call 41; refine (refFiles_kind q.c q.a q.n Ao As Ap lo co ls cs lp cp _).mono ?_; rintro e w9 ⟨rfl, b9⟩; rw [HF.out]; have tb := tb.below b9; obtain ⟨d0, d1, d2, d3, d4⟩ := tb.c4; obtain ⟨r0, r1, r2, r3, r4, r5, r6⟩ := tb.r6))
          go_loopw [6] (fun i wr => ∃ k : Nat, k ≤ mf ∧ i = .int .i64 k ∧ TB w w.heap.size (.cells #[.int .i64 q.c, .int .i64 q.a, .int .i64 q.n, .slice Ao lo co, .slice As ls cs, .slice Ap lp cp] 26 (0, 0)) (.cells #[.int .i64 r.x, .slice Bo mo eo, .slice Bs ms es, .slice Bf mf ef] 29 (0, 0)) wr ∧ Hid (∀ j, j < k → ((nthF r.fs j).length : Int) = nth q.fl (3 * j + 2))) (fun i _ => mf - (intOf i).toNat)
          case atStart => exact ⟨0, by omega, rfl, tb, Lib.hid (fun j h => by omega)⟩
          case round =>
            clear d0 d1 d2 d3 d4 r0 r1 r2 r3 r4 r5 r6 tb
            obtain ⟨k, hk, rfl, tb, hs⟩ := hrel
            by_cases hlt : k < mf
            · exact absurd hlt (by omega)
            · obtain rfl : k = mf := by omega
              have hl : Hid (E = 0) := Lib.hid (by rw [HEM.out, HN.out]; rfl)
              obtain ⟨d0, d1, d2, d3, d4⟩ := tb.c4; obtain ⟨r0, r1, r2, r3, r4, r5, r6⟩ := tb.r6
              go_wp2
              go_ret
              exact ⟨by rw [hl.out]; rfl, tb.bel⟩
        · have u3 : ((ms : Int) != q.n) = true := by simpa using he
          have u4 : ((ms : Int) == q.n) = false := beq_false_of_ne he
          have HN : Hid (manyB q r = false) := Lib.hid (by rw [HM2.out]; exact decide_eq_false he)
          clear he
          have hl : Hid (E = 22) := Lib.hid (by rw [HEM.out, HN.out]; rfl)
          clear HE HS
          go_enter Try.func12, Try.ntmps12
          go_wp2_with fail
          refine HC.out.mono ?_
          rintro e w1 ⟨rfl, b1⟩
          have tb := tb.below b1
          clear b1
          obtain ⟨d0, d1, d2, d3, d4⟩ := tb.c4; obtain ⟨r0, r1, r2, r3, r4, r5, r6⟩ := tb.r6
          go_wp2_with (first | (go_at_call 39; refine (refBits_any q.c q.a q.n Ao As Ap lo co ls cs lp cp _).mono ?_; rintro e w9 ⟨rfl, b9⟩; rw [HB.out]; have tb := tb.below b9; obtain ⟨d0, d1, d2, d3, d4⟩ := tb.c4; obtain ⟨r0, r1, r2, r3, r4, r5, r6⟩ := tb.r6) | (go_at_call 40; refine (refWords_kind q.c q.a q.n Ao As Ap lo co ls cs lp cp _).mono ?_; rintro e w9 ⟨rfl, b9⟩; rw [HW.out]; have tb := tb.below b9; obtain ⟨d0, d1, d2, d3, d4⟩ := tb.c4; obtain ⟨r0, r1, r2, r3, r4, r5, r6⟩ := tb.r6) | (go_at_call 41; refine (refFiles_kind q.c q.a q.n Ao As Ap lo co ls cs lp cp _).mono ?_; rintro e w9 ⟨rfl, b9⟩; rw [HF.out]; have tb := tb.below b9; obtain ⟨d0, d1, d2, d3, d4⟩ := tb.c4; obtain ⟨r0, r1, r2, r3, r4, r5, r6⟩ := tb.r6))
          go_ret
          exact ⟨by rw [hl.out]; rfl, tb.bel⟩
    · have g2' : ¬ (0 : Int) < (ms : Int) := by omega
      by_cases g3 : 0 < mf
      · have g3' : (0 : Int) < (mf : Int) := by omega
        have hl : Hid (E = 23) := Lib.hid (by rw [HE.out, HS.out, if_pos (by simp [anyB]; omega)])
        clear HE HS
        go_enter Try.func12, Try.ntmps12
        go_wp2_with fail
        refine HC.out.mono ?_
        rintro e w1 ⟨rfl, b1⟩
        have tb := tb.below b1
        clear b1
        obtain ⟨d0, d1, d2, d3, d4⟩ := tb.c4; obtain ⟨r0, r1, r2, r3, r4, r5, r6⟩ := tb.r6
        go_wp2_with (first | (go_at_call 39; refine (refBits_any q.c q.a q.n Ao As Ap lo co ls cs lp cp _).mono ?_; rintro e w9 ⟨rfl, b9⟩; rw [HB.out]; have tb := tb.below b9; obtain ⟨d0, d1, d2, d3, d4⟩ := tb.c4; obtain ⟨r0, r1, r2, r3, r4, r5, r6⟩ := tb.r6) | (go_at_call 40; refine (refWords_kind q.c q.a q.n Ao As Ap lo co ls cs lp cp _).mono ?_; rintro e w9 ⟨rfl, b9⟩; rw [HW.out]; have tb := tb.below b9; obtain ⟨d0, d1, d2, d3, d4⟩ := tb.c4; obtain ⟨r0, r1, r2, r3, r4, r5, r6⟩ := tb.r6) | (go_at_call 41; refine (refFiles_kind q.c q.a q.n Ao As Ap lo co ls cs lp cp _).mono ?_; rintro e w9 ⟨rfl, b9⟩; rw [HF.out]; have tb := tb.below b9; obtain ⟨d0, d1, d2, d3, d4⟩ := tb.c4; obtain ⟨r0, r1, r2, r3, r4, r5, r6⟩ := tb.r6))
        go_ret
        exact ⟨by rw [hl.out]; rfl, tb.bel⟩
      · have g3' : ¬ (0 : Int) < (mf : Int) := by omega
        have HEM : Hid (E = if manyB q r = false then 22 else 0) := Lib.hid (by rw [HE.out, HS.out, if_neg (by simp [anyB]; try omega)])
        by_cases he : (ms : Int) = q.n
        · have u3 : ((ms : Int) != q.n) = false := by simp [he]
          have u4 : ((ms : Int) == q.n) = true := by simp [he]
          have HN : Hid (manyB q r = true) := Lib.hid (by rw [HM2.out]; exact decide_eq_true he)
          clear he HE HS
          go_enter Try.func12, Try.ntmps12
          go_wp2_with fail
          refine HC.out.mono ?_
          rintro e w1 ⟨rfl, b1⟩
          have tb := tb.below b1
          clear b1
          obtain ⟨d0, d1, d2, d3, d4⟩ := tb.c4; obtain ⟨r0, r1, r2, r3, r4, r5, r6⟩ := tb.r6
          go_wp2_with (first | (go_at_call 39; refine (refBits_any q.c q.a q.n Ao As Ap lo co ls cs lp cp _).mono ?_; rintro e w9 ⟨rfl, b9⟩; rw [HB.out]; have tb := tb.below b9; obtain ⟨d0, d1, d2, d3, d4⟩ := tb.c4; obtain ⟨r0, r1, r2, r3, r4, r5, r6⟩ := tb.r6) | (go_at_call 40; refine (refWords_kind q.c q.a q.n Ao As Ap lo co ls cs lp cp _).mono ?_; rintro e w9 ⟨rfl, b9⟩; rw [HW.out]; have tb := tb.below b9; obtain ⟨d0, d1, d2, d3, d4⟩ := tb.c4; obtain ⟨r0, r1, r2, r3, r4, r5, r6⟩ := tb.r6) | (go_at_call 41; refine (refFiles_kind q.c q.a q.n Ao As Ap lo co ls cs lp cp _).mono ?_; rintro e w9 ⟨rfl, b9⟩; rw [HF.out]; have tb := tb.below b9; obtain ⟨d0, d1, d2, d3, d4⟩ := tb.c4; obtain ⟨r0, r1, r2, r3, r4, r5, r6⟩ := tb.r6))
          go_loopw [6] (fun i wr => ∃ k : Nat, k ≤ mf ∧ i = .int .i64 k ∧ TB w w.heap.size (.cells #[.int .i64 q.c, .int .i64 q.a, .int .i64 q.n, .slice Ao lo co, .slice As ls cs, .slice Ap lp cp] 26 (0, 0)) (.cells #[.int .i64 r.x, .slice Bo mo eo, .slice Bs ms es, .slice Bf mf ef] 29 (0, 0)) wr ∧ Hid (∀ j, j < k → ((nthF r.fs j).length : Int) = nth q.fl (3 * j + 2))) (fun i _ => mf - (intOf i).toNat)
          case atStart => exact ⟨0, by omega, rfl, tb, Lib.hid (fun j h => by omega)⟩
          case round =>
            clear d0 d1 d2 d3 d4 r0 r1 r2 r3 r4 r5 r6 tb
            obtain ⟨k, hk, rfl, tb, hs⟩ := hrel
            by_cases hlt : k < mf
            · exact absurd hlt (by omega)
            · obtain rfl : k = mf := by omega
              have hl : Hid (E = 0) := Lib.hid (by rw [HEM.out, HN.out]; rfl)
              obtain ⟨d0, d1, d2, d3, d4⟩ := tb.c4; obtain ⟨r0, r1, r2, r3, r4, r5, r6⟩ := tb.r6
              go_wp2
              go_ret
              exact ⟨by rw [hl.out]; rfl, tb.bel⟩
        · have u3 : ((ms : Int) != q.n) = true := by simpa using he
          have u4 : ((ms : Int) == q.n) = false := beq_false_of_ne he
          have HN : Hid (manyB q r = false) := Lib.hid (by rw [HM2.out]; exact decide_eq_false he)
          clear he
          have hl : Hid (E = 22) := Lib.hid (by rw [HEM.out, HN.out]; rfl)
          clear HE HS
          go_enter Try.func12, Try.ntmps12
          go_wp2_with fail
          refine HC.out.mono ?_
          rintro e w1 ⟨rfl, b1⟩
          have tb := tb.below b1
          clear b1
          obtain ⟨d0, d1, d2, d3, d4⟩ := tb.c4; obtain ⟨r0, r1, r2, r3, r4, r5, r6⟩ := tb.r6
          go_wp2_with (first | (go_at_call 39; refine (refBits_any q.c q.a q.n Ao As Ap lo co ls cs lp cp _).mono ?_; rintro e w9 ⟨rfl, b9⟩; rw [HB.out]; have tb := tb.below b9; obtain ⟨d0, d1, d2, d3, d4⟩ := tb.c4; obtain ⟨r0, r1, r2, r3, r4, r5, r6⟩ := tb.r6) | (go_at_call 40; refine (refWords_kind q.c q.a q.n Ao As Ap lo co ls cs lp cp _).mono ?_; rintro e w9 ⟨rfl, b9⟩; rw [HW.out]; have tb := tb.below b9; obtain ⟨d0, d1, d2, d3, d4⟩ := tb.c4; obtain ⟨r0, r1, r2, r3, r4, r5, r6⟩ := tb.r6) | (go_at_call 41; refine (refFiles_kind q.c q.a q.n Ao As Ap lo co ls cs lp cp _).mono ?_; rintro e w9 ⟨rfl, b9⟩; rw [HF.out]; have tb := tb.below b9; obtain ⟨d0, d1, d2, d3, d4⟩ := tb.c4; obtain ⟨r0, r1, r2, r3, r4, r5, r6⟩ := tb.r6))
          go_ret
          exact ⟨by rw [hl.out]; rfl, tb.bel⟩
end Go.Proofs.Ytfdikjfbmfibjaa
namespace Go.Proofs.Ytfdikjfbmfibjaa
open Go.RowKit
set_option linter.unusedVariables false

set_option maxHeartbeats 4000000 in
set_option maxRecDepth 100000 in
theorem refRp_files (q : Req) (r : Rep) (Ao As Ap Bo Bs Bf : Option Addr) (lo ls lp co cs cp mo ms mf eo es ef : Nat) (w : World) (h : Asked w w.heap.size q Ao As Ap lo ls lp) (hr : Repd w w.heap.size r Bo Bs Bf mo ms mf) (hb : lp ≤ 100000) (hk : chkQ q = 0) (hx : r.x = 0) (hc : q.c = 20) :
    Calls Try.prog 12 #[.agg #[.int .i64 q.c, .int .i64 q.a, .int .i64 q.n, .slice Ao lo co, .slice As ls cs, .slice Ap lp cp], .agg #[.int .i64 r.x, .slice Bo mo eo, .slice Bs ms es, .slice Bf mf ef]] w fun e w' => e = .returned (.int .i64 (chkR q r)) ∧ Below w.heap.size w w' := by
  have tb := TB.new2 w #[.int .i64 q.c, .int .i64 q.a, .int .i64 q.n, .slice Ao lo co, .slice As ls cs, .slice Ap lp cp] #[.int .i64 r.x, .slice Bo mo eo, .slice Bs ms es, .slice Bf mf ef] 26 29
  have hsz : w.heap.size ≤ ((w.alloc (.cells #[.int .i64 q.c, .int .i64 q.a, .int .i64 q.n, .slice Ao lo co, .slice As ls cs, .slice Ap lp cp] 26)).alloc (.cells #[.int .i64 r.x, .slice Bo mo eo, .slice Bs ms es, .slice Bf mf ef] 29)).heap.size := tb.bel.size
  have H0 := Lib.hid h
  have HR0 := Lib.hid hr
  have H := Lib.hid ((h.below tb.bel).more hsz)
  obtain ⟨E, hE⟩ : ∃ E, Hid (chkR q r = E) := ⟨_, Lib.hid rfl⟩
  rw [hE.out]
  have HMO := Lib.hid hr.mo
  have HMS := Lib.hid hr.ms
  have HMF := Lib.hid hr.mf
  have HC := Lib.hid (refCheck_any q Ao As Ap lo ls lp co cs cp _ H.out)
  rw [chkQ_of H.out, hk] at HC
  have HB : Hid (clB q.c = false) := Lib.hid (decide_eq_false (by omega))
  have HW : Hid (clW q.c = false) := Lib.hid (decide_eq_false (by omega))
  have HF : Hid (clF q.c = true) := Lib.hid (decide_eq_true hc)
  have HS : Hid (strayB q.c mo ms mf = anyB mo ms 0) := Lib.hid (by unfold strayB; rw [if_neg (show ¬ (q.c = 1 ∨ q.c = 2) by omega), if_neg (show ¬ (q.c = 3 ∨ q.c = 4) by omega), if_pos hc])
  have HM2 : Hid (manyB q r = fitsB q.fl r.fs) := Lib.hid (by unfold manyB; rw [if_neg (show ¬ (q.c = 1 ∨ q.c = 2) by omega), if_neg (show ¬ (q.c = 3 ∨ q.c = 4) by omega), if_pos hc])
  have HE : Hid (E = if strayB q.c mo ms mf = true then 23 else if manyB q r = false then 22 else 0) := Lib.hid (by
    rw [← hE.out]; unfold chkR; rw [if_neg (show ¬ chkQ q ≠ 0 by rw [hk]; simp), if_neg (show ¬ r.x ≠ 0 by simp [hx]), HMO.out, HMS.out, HMF.out])
  have u1 : (r.x != 0) = false := by simp [hx]
  have u2 : (r.x == 0) = true := by simp [hx]
  clear h hr hk hx hE H hc
  by_cases g1 : 0 < mo
  · have g1' : (0 : Int) < (mo : Int) := by omega
    by_cases g2 : 0 < ms
    · have g2' : (0 : Int) < (ms : Int) := by omega
      by_cases g3 : 0 < mf
      · have g3' : (0 : Int) < (mf : Int) := by omega
        have hl : Hid (E = 23) := Lib.hid (by rw [HE.out, HS.out, if_pos (by simp [anyB]; omega)])
        clear HE HS
        go_enter Try.func12, Try.ntmps12
        go_wp2_with fail
        refine HC.out.mono ?_
        rintro e w1 ⟨rfl, b1⟩
        have tb := tb.below b1
        clear b1
        obtain ⟨d0, d1, d2, d3, d4⟩ := tb.c4; obtain ⟨r0, r1, r2, r3, r4, r5, r6⟩ := tb.r6
        go_wp2_with (first | (go_at_call 39; refine (refBits_any q.c q.a q.n Ao As Ap lo co ls cs lp cp _).mono ?_; rintro e w9 ⟨rfl, b9⟩; rw [HB.out]; have tb := tb.below b9; obtain ⟨d0, d1, d2, d3, d4⟩ := tb.c4; obtain ⟨r0, r1, r2, r3, r4, r5, r6⟩ := tb.r6) | (go_at_call 40; refine (refWords_kind q.c q.a q.n Ao As Ap lo co ls cs lp cp _).mono ?_; rintro e w9 ⟨rfl, b9⟩; rw [HW.out]; have tb := tb.below b9; obtain ⟨d0, d1, d2, d3, d4⟩ := tb.c4; obtain ⟨r0, r1, r2, r3, r4, r5, r6⟩ := tb.r6) | (go_at_call 41; refine (refFiles_kind q.c q.a q.n Ao As Ap lo co ls cs lp cp _).mono ?_; rintro e w9 ⟨rfl, b9⟩; rw [HF.out]; have tb := tb.below b9; obtain ⟨d0, d1, d2, d3, d4⟩ := tb.c4; obtain ⟨r0, r1, r2, r3, r4, r5, r6⟩ := tb.r6))
        go_ret
        exact ⟨by rw [hl.out]; rfl, tb.bel⟩
      · have g3' : ¬ (0 : Int) < (mf : Int) := by omega
        have hl : Hid (E = 23) := Lib.hid (by rw [HE.out, HS.out, if_pos (by simp [anyB]; omega)])
        clear HE HS
        go_enter Try.func12, Try.ntmps12
        go_wp2_with fail
        refine HC.out.mono ?_
        rintro e w1 ⟨rfl, b1⟩
        have tb := tb.below b1
        clear b1
        obtain ⟨d0, d1, d2, d3, d4⟩ := tb.c4; obtain ⟨r0, r1, r2, r3, r4, r5, r6⟩ := tb.r6
        go_wp2_with (first | (go_at_call 39; refine (refBits_any q.c q.a q.n Ao As Ap lo co ls cs lp cp _).mono ?_; rintro e w9 ⟨rfl, b9⟩; rw [HB.out]; have tb := tb.below b9; obtain ⟨d0, d1, d2, d3, d4⟩ := tb.c4; obtain ⟨r0, r1, r2, r3, r4, r5, r6⟩ := tb.r6) | (go_at_call 40; refine (refWords_kind q.c q.a q.n Ao As Ap lo co ls cs lp cp _).mono ?_; rintro e w9 ⟨rfl, b9⟩; rw [HW.out]; have tb := tb.below b9; obtain ⟨d0, d1, d2, d3, d4⟩ := tb.c4; obtain ⟨r0, r1, r2, r3, r4, r5, r6⟩ := tb.r6) | (go_at_call 41; refine (refFiles_kind q.c q.a q.n Ao As Ap lo co ls cs lp cp _).mono ?_; rintro e w9 ⟨rfl, b9⟩; rw [HF.out]; have tb := tb.below b9; obtain ⟨d0, d1, d2, d3, d4⟩ := tb.c4; obtain ⟨r0, r1, r2, r3, r4, r5, r6⟩ := tb.r6))
        go_ret
        exact ⟨by rw [hl.out]; rfl, tb.bel⟩
    · have g2' : ¬ (0 : Int) < (ms : Int) := by omega
      by_cases g3 : 0 < mf
      · have g3' : (0 : Int) < (mf : Int) := by omega
        have hl : Hid (E = 23) := Lib.hid (by rw [HE.out, HS.out, if_pos (by simp [anyB]; omega)])
        clear HE HS
        go_enter Try.func12, Try.ntmps12
        go_wp2_with fail
        refine HC.out.mono ?_
        rintro e w1 ⟨rfl, b1⟩
        have tb := tb.below b1
        clear b1
        obtain ⟨d0, d1, d2, d3, d4⟩ := tb.c4; obtain ⟨r0, r1, r2, r3, r4, r5, r6⟩ := tb.r6
        go_wp2_with (first | (go_at_call 39; refine (refBits_any q.c q.a q.n Ao As Ap lo co ls cs lp cp _).mono ?_; rintro e w9 ⟨rfl, b9⟩; rw [HB.out]; have tb := tb.below b9; obtain ⟨d0, d1, d2, d3, d4⟩ := tb.c4; obtain ⟨r0, r1, r2, r3, r4, r5, r6⟩ := tb.r6) | (go_at_call 40; refine (refWords_kind q.c q.a q.n Ao As Ap lo co ls cs lp cp _).mono ?_; rintro e w9 ⟨rfl, b9⟩; rw [HW.out]; have tb := tb.below b9; obtain ⟨d0, d1, d2, d3, d4⟩ := tb.c4; obtain ⟨r0, r1, r2, r3, r4, r5, r6⟩ := tb.r6) | (go_at_call 41; refine (refFiles_kind q.c q.a q.n Ao As Ap lo co ls cs lp cp _).mono ?_; rintro e w9 ⟨rfl, b9⟩; rw [HF.out]; have tb := tb.below b9; obtain ⟨d0, d1, d2, d3, d4⟩ := tb.c4; obtain ⟨r0, r1, r2, r3, r4, r5, r6⟩ := tb.r6))
        go_ret
        exact ⟨by rw [hl.out]; rfl, tb.bel⟩
      · have g3' : ¬ (0 : Int) < (mf : Int) := by omega
        have hl : Hid (E = 23) := Lib.hid (by rw [HE.out, HS.out, if_pos (by simp [anyB]; omega)])
        clear HE HS
        go_enter Try.func12, Try.ntmps12
        go_wp2_with fail
        refine HC.out.mono ?_
        rintro e w1 ⟨rfl, b1⟩
        have tb := tb.below b1
        clear b1
        obtain ⟨d0, d1, d2, d3, d4⟩ := tb.c4; obtain ⟨r0, r1, r2, r3, r4, r5, r6⟩ := tb.r6
        go_wp2_with (first | (go_at_call 39; refine (refBits_any q.c q.a q.n Ao As Ap lo co ls cs lp cp _).mono ?_; rintro e w9 ⟨rfl, b9⟩; rw [HB.out]; have tb := tb.below b9; obtain ⟨d0, d1, d2, d3, d4⟩ := tb.c4; obtain ⟨r0, r1, r2, r3, r4, r5, r6⟩ := tb.r6) | (go_at_call 40; refine (refWords_kind q.c q.a q.n Ao As Ap lo co ls cs lp cp _).mono ?_; rintro e w9 ⟨rfl, b9⟩; rw [HW.out]; have tb := tb.below b9; obtain ⟨d0, d1, d2, d3, d4⟩ := tb.c4; obtain ⟨r0, r1, r2, r3, r4, r5, r6⟩ := tb.r6) | (go_at_call 41; refine (refFiles_kind q.c q.a q.n Ao As Ap lo co ls cs lp cp _).mono ?_; rintro e w9 ⟨rfl, b9⟩; rw [HF.out]; have tb := tb.below b9; obtain ⟨d0, d1, d2, d3, d4⟩ := tb.c4; obtain ⟨r0, r1, r2, r3, r4, r5, r6⟩ := tb.r6))
        go_ret
        exact ⟨by rw [hl.out]; rfl, tb.bel⟩
  · have g1' : ¬ (0 : Int) < (mo : Int) := by omega
    by_cases g2 : 0 < ms
    · have g2' : (0 : Int) < (ms : Int) := by omega
      by_cases g3 : 0 < mf
      · have g3' : (0 : Int) < (mf : Int) := by omega
        have hl : Hid (E = 23) := Lib.hid (by rw [HE.out, HS.out, if_pos (by simp [anyB]; omega)])
        clear HE HS
        go_enter Try.func12, Try.ntmps12
        go_wp2_with fail
        refine HC.out.mono ?_
        rintro e w1 ⟨rfl, b1⟩
        have tb := tb.below b1
        clear b1
        obtain ⟨d0, d1, d2, d3, d4⟩ := tb.c4; obtain ⟨r0, r1, r2, r3, r4, r5, r6⟩ := tb.r6
        go_wp2_with (first | (go_at_call 39; refine (refBits_any q.c q.a q.n Ao As Ap lo co ls cs lp cp _).mono ?_; rintro e w9 ⟨rfl, b9⟩; rw [HB.out]; have tb := tb.below b9; obtain ⟨d0, d1, d2, d3, d4⟩ := tb.c4; obtain ⟨r0, r1, r2, r3, r4, r5, r6⟩ := tb.r6) | (go_at_call 40; refine (refWords_kind q.c q.a q.n Ao As Ap lo co ls cs lp cp _).mono ?_; rintro e w9 ⟨rfl, b9⟩; rw [HW.out]; have tb := tb.below b9; obtain ⟨d0, d1, d2, d3, d4⟩ := tb.c4; obtain ⟨r0, r1, r2, r3, r4, r5, r6⟩ := tb.r6) | (go_at_call 41; refine (refFiles_kind q.c q.a q.n Ao As Ap lo co ls cs lp cp _).mono ?_; rintro e w9 ⟨rfl, b9⟩; rw [HF.out]; have tb := tb.below b9; obtain ⟨d0, d1, d2, d3, d4⟩ := tb.c4; obtain ⟨r0, r1, r2, r3, r4, r5, r6⟩ := tb.r6))
        go_ret
        exact ⟨by rw [hl.out]; rfl, tb.bel⟩
      · have g3' : ¬ (0 : Int) < (mf : Int) := by omega
        have hl : Hid (E = 23) := Lib.hid (by rw [HE.out, HS.out, if_pos (by simp [anyB]; omega)])
        clear HE HS
        go_enter Try.func12, Try.ntmps12
        go_wp2_with fail
        refine HC.out.mono ?_
        rintro e w1 ⟨rfl, b1⟩
        have tb := tb.below b1
        clear b1
        obtain ⟨d0, d1, d2, d3, d4⟩ := tb.c4; obtain ⟨r0, r1, r2, r3, r4, r5, r6⟩ := tb.r6
        go_wp2_with (first | (go_at_call 39; refine (refBits_any q.c q.a q.n Ao As Ap lo co ls cs lp cp _).mono ?_; rintro e w9 ⟨rfl, b9⟩; rw [HB.out]; have tb := tb.below b9; obtain ⟨d0, d1, d2, d3, d4⟩ := tb.c4; obtain ⟨r0, r1, r2, r3, r4, r5, r6⟩ := tb.r6) | (go_at_call 40; refine (refWords_kind q.c q.a q.n Ao As Ap lo co ls cs lp cp _).mono ?_; rintro e w9 ⟨rfl, b9⟩; rw [HW.out]; have tb := tb.below b9; obtain ⟨d0, d1, d2, d3, d4⟩ := tb.c4; obtain ⟨r0, r1, r2, r3, r4, r5, r6⟩ := tb.r6) | (go_at_call 41; refine (refFiles_kind q.c q.a q.n Ao As Ap lo co ls cs lp cp _).mono ?_; rintro e w9 ⟨rfl, b9⟩; rw [HF.out]; have tb := tb.below b9; obtain ⟨d0, d1, d2, d3, d4⟩ := tb.c4; obtain ⟨r0, r1, r2, r3, r4, r5, r6⟩ := tb.r6))
        go_ret
        exact ⟨by rw [hl.out]; rfl, tb.bel⟩
    · have g2' : ¬ (0 : Int) < (ms : Int) := by omega
      by_cases g3 : 0 < mf
      · have g3' : (0 : Int) < (mf : Int) := by omega
        have HEM : Hid (E = if manyB q r = false then 22 else 0) := Lib.hid (by rw [HE.out, HS.out, if_neg (by simp [anyB]; try omega)])
        by_cases he : mf = lp
        · have u3 : ((mf : Int) != (lp : Int)) = false := by simp [he]
          have u4 : ((mf : Int) == (lp : Int)) = true := by simp [he]
          have HLE := Lib.hid he
          clear HE HS he
          go_enter Try.func12, Try.ntmps12
          go_wp2_with fail
          refine HC.out.mono ?_
          rintro e w1 ⟨rfl, b1⟩
          have tb := tb.below b1
          clear b1
          obtain ⟨d0, d1, d2, d3, d4⟩ := tb.c4; obtain ⟨r0, r1, r2, r3, r4, r5, r6⟩ := tb.r6
          go_wp2_with (first | (go_at_call 39; refine (refBits_any q.c q.a q.n Ao As Ap lo co ls cs lp cp _).mono ?_; rintro e w9 ⟨rfl, b9⟩; rw [HB.out]; have tb := tb.below b9; obtain ⟨d0, d1, d2, d3, d4⟩ := tb.c4; obtain ⟨r0, r1, r2, r3, r4, r5, r6⟩ := tb.r6) | (go_at_call 40; refine (refWords_kind q.c q.a q.n Ao As Ap lo co ls cs lp cp _).mono ?_; rintro e w9 ⟨rfl, b9⟩; rw [HW.out]; have tb := tb.below b9; obtain ⟨d0, d1, d2, d3, d4⟩ := tb.c4; obtain ⟨r0, r1, r2, r3, r4, r5, r6⟩ := tb.r6) | (go_at_call 41; refine (refFiles_kind q.c q.a q.n Ao As Ap lo co ls cs lp cp _).mono ?_; rintro e w9 ⟨rfl, b9⟩; rw [HF.out]; have tb := tb.below b9; obtain ⟨d0, d1, d2, d3, d4⟩ := tb.c4; obtain ⟨r0, r1, r2, r3, r4, r5, r6⟩ := tb.r6))
          go_loopw [6] (fun i wr => ∃ k : Nat, k ≤ mf ∧ i = .int .i64 k ∧ TB w w.heap.size (.cells #[.int .i64 q.c, .int .i64 q.a, .int .i64 q.n, .slice Ao lo co, .slice As ls cs, .slice Ap lp cp] 26 (0, 0)) (.cells #[.int .i64 r.x, .slice Bo mo eo, .slice Bs ms es, .slice Bf mf ef] 29 (0, 0)) wr ∧ Hid (∀ j, j < k → ((nthF r.fs j).length : Int) = nth q.fl (3 * j + 2))) (fun i _ => mf - (intOf i).toNat)
          case atStart => exact ⟨0, by omega, rfl, tb, Lib.hid (fun j h => by omega)⟩
          case round =>
            clear d0 d1 d2 d3 d4 r0 r1 r2 r3 r4 r5 r6 tb
            obtain ⟨k, hk, rfl, tb, hs⟩ := hrel
            by_cases hlt : k < mf
            · obtain ⟨d0, d1, d2, d3, d4⟩ := tb.c4; obtain ⟨r0, r1, r2, r3, r4, r5, r6⟩ := tb.r6
              go_wp2_with fail
              have hltp : (k : Int) < (lp : Int) := by have := HLE.out; omega
              obtain ⟨b, o, hAp, hb1, hc1, hc2, hc3⟩ := H0.out.fl.three (k := k) (by have := H0.out.lp; have := HLE.out; omega)
              obtain ⟨bf, of, hBf, hb2, hcf⟩ := HR0.out.fs (by have := HMF.out; omega)
              obtain ⟨Ai, ci, hci, _, _⟩ := hcf k (by have := HMF.out; omega)
              have hcf2 := (tb.bel.cell (p := ⟨bf, of + k, none⟩) hb2).trans hci
              have hcp2 := (tb.bel.cell (p := ⟨b, o + k * 3 + 2, none⟩) hb1).trans hc3
              subst hAp hBf
              obtain ⟨p, hpp⟩ : ∃ p, Hid (nth q.fl (3 * k + 2) = p) := ⟨_, Lib.hid rfl⟩
              obtain ⟨z, hzz⟩ : ∃ z, Hid ((nthF r.fs k).length = z) := ⟨_, Lib.hid rfl⟩
              rw [hpp.out] at hcp2
              rw [hzz.out] at hcf2
              clear hci hcf hc1 hc2 hc3
              by_cases he : (z : Int) = p
              · have u3 : ((z : Int) != p) = false := by simp [he]
                have u4 : ((z : Int) == p) = true := by simp [he]
                have HEQ := Lib.hid he
                clear he
                go_quiet (fail)
                have tbq := tb.below (bel_drewN wr nq)
                clear tb d0 d1 d2 d3 d4 r0 r1 r2 r3 r4 r5 r6 hcf2 hcp2
                go_wp2
                go_roundw
                case rel => exact ⟨k + 1, by omega, by go_num, tbq, Lib.hid (fun j hj => by
                  rcases Nat.lt_succ_iff_lt_or_eq.1 hj with h | h
                  · exact hs.out j h
                  · subst h; rw [hzz.out, hpp.out]; exact HEQ.out)⟩
                case measure => simp [intOf]; omega
              · have u3 : ((z : Int) != p) = true := by simpa using he
                have u4 : ((z : Int) == p) = false := beq_false_of_ne he
                have hl : Hid (E = 22) := Lib.hid (by rw [HEM.out, HM2.out, fitsB_no (i := k) (by rw [HMF.out]; exact hlt) (by rw [hzz.out, hpp.out]; exact he)]; rfl)
                clear he
                go_quiet (fail)
                have tbq := tb.below (bel_drewN wr nq)
                go_wp2
                go_ret
                exact ⟨by rw [hl.out]; rfl, tbq.bel⟩
            · obtain rfl : k = mf := by omega
              have hl : Hid (E = 0) := Lib.hid (by rw [HEM.out, HM2.out, fitsB_yes (by rw [H0.out.lp, HMF.out, HLE.out]) (fun i hi => hs.out i (by rw [← HMF.out]; exact hi))]; rfl)
              obtain ⟨d0, d1, d2, d3, d4⟩ := tb.c4; obtain ⟨r0, r1, r2, r3, r4, r5, r6⟩ := tb.r6
              go_wp2
              go_ret
              exact ⟨by rw [hl.out]; rfl, tb.bel⟩
        · have u3 : ((mf : Int) != (lp : Int)) = true := by simp; omega
          have u4 : ((mf : Int) == (lp : Int)) = false := beq_false_of_ne (by omega)
          have HN : Hid (manyB q r = false) := Lib.hid (by rw [HM2.out]; exact fitsB_len (by rw [H0.out.lp, HMF.out]; omega))
          clear he
          have hl : Hid (E = 22) := Lib.hid (by rw [HEM.out, HN.out]; rfl)
          clear HE HS
          go_enter Try.func12, Try.ntmps12
          go_wp2_with fail
          refine HC.out.mono ?_
          rintro e w1 ⟨rfl, b1⟩
          have tb := tb.below b1
          clear b1
          obtain ⟨d0, d1, d2, d3, d4⟩ := tb.c4; obtain ⟨r0, r1, r2, r3, r4, r5, r6⟩ := tb.r6
          go_wp2_with (first | (go_at_call 39; refine (refBits_any q.c q.a q.n Ao As Ap lo co ls cs lp cp _).mono ?_; rintro e w9 ⟨rfl, b9⟩; rw [HB.out]; have tb := tb.below b9; obtain ⟨d0, d1, d2, d3, d4⟩ := tb.c4; obtain ⟨r0, r1, r2, r3, r4, r5, r6⟩ := tb.r6) | (go_at_call 40; refine (refWords_kind q.c q.a q.n Ao As Ap lo co ls cs lp cp _).mono ?_; rintro e w9 ⟨rfl, b9⟩; rw [HW.out]; have tb := tb.below b9; obtain ⟨d0, d1, d2, d3, d4⟩ := tb.c4; obtain ⟨r0, r1, r2, r3, r4, r5, r6⟩ := tb.r6) | (go_at_call 41; refine (refFiles_kind q.c q.a q.n Ao As Ap lo co ls cs lp cp _).mono ?_; rintro e w9 ⟨rfl, b9⟩; rw [HF.out]; have tb := tb.below b9; obtain ⟨d0, d1, d2, d3, d4⟩ := tb.c4; obtain ⟨r0, r1, r2, r3, r4, r5, r6⟩ := tb.r6))
          go_ret
          exact ⟨by rw [hl.out]; rfl, tb.bel⟩
      · have g3' : ¬ (0 : Int) < (mf : Int) := by omega
        have HEM : Hid (E = if manyB q r = false then 22 else 0) := Lib.hid (by rw [HE.out, HS.out, if_neg (by simp [anyB]; try omega)])
        by_cases he : mf = lp
        · have u3 : ((mf : Int) != (lp : Int)) = false := by simp [he]
          have u4 : ((mf : Int) == (lp : Int)) = true := by simp [he]
          have HLE := Lib.hid he
          clear HE HS he
          go_enter Try.func12, Try.ntmps12
          go_wp2_with fail
          refine HC.out.mono ?_
          rintro e w1 ⟨rfl, b1⟩
          have tb := tb.below b1
          clear b1
          obtain ⟨d0, d1, d2, d3, d4⟩ := tb.c4; obtain ⟨r0, r1, r2, r3, r4, r5, r6⟩ := tb.r6
          go_wp2_with (first | (go_at_call 39; refine (refBits_any q.c q.a q.n Ao As Ap lo co ls cs lp cp _).mono ?_; rintro e w9 ⟨rfl, b9⟩; rw [HB.out]; have tb := tb.below b9; obtain ⟨d0, d1, d2, d3, d4⟩ := tb.c4; obtain ⟨r0, r1, r2, r3, r4, r5, r6⟩ := tb.r6) | (go_at_call 40; refine (refWords_kind q.c q.a q.n Ao As Ap lo co ls cs lp cp _).mono ?_; rintro e w9 ⟨rfl, b9⟩; rw [HW.out]; have tb := tb.below b9; obtain ⟨d0, d1, d2, d3, d4⟩ := tb.c4; obtain ⟨r0, r1, r2, r3, r4, r5, r6⟩ := tb.r6) | (go_at_call 41; refine (refFiles_kind q.c q.a q.n Ao As Ap lo co ls cs lp cp _).mono ?_; rintro e w9 ⟨rfl, b9⟩; rw [HF.out]; have tb := tb.below b9; obtain ⟨d0, d1, d2, d3, d4⟩ := tb.c4; obtain ⟨r0, r1, r2, r3, r4, r5, r6⟩ := tb.r6))
          go_loopw [6] (fun i wr => ∃ k : Nat, k ≤ mf ∧ i = .int .i64 k ∧ TB w w.heap.size (.cells #[.int .i64 q.c, .int .i64 q.a, .int .i64 q.n, .slice Ao lo co, .slice As ls cs, .slice Ap lp cp] 26 (0, 0)) (.cells #[.int .i64 r.x, .slice Bo mo eo, .slice Bs ms es, .slice Bf mf ef] 29 (0, 0)) wr ∧ Hid (∀ j, j < k → ((nthF r.fs j).length : Int) = nth q.fl (3 * j + 2))) (fun i _ => mf - (intOf i).toNat)
          case atStart => exact ⟨0, by omega, rfl, tb, Lib.hid (fun j h => by omega)⟩
          case round =>
            clear d0 d1 d2 d3 d4 r0 r1 r2 r3 r4 r5 r6 tb
            obtain ⟨k, hk, rfl, tb, hs⟩ := hrel
            by_cases hlt : k < mf
            · exact absurd hlt (by omega)
            · obtain rfl : k = mf := by omega
              have hl : Hid (E = 0) := Lib.hid (by rw [HEM.out, HM2.out, fitsB_yes (by rw [H0.out.lp, HMF.out, HLE.out]) (fun i hi => hs.out i (by rw [← HMF.out]; exact hi))]; rfl)
              obtain ⟨d0, d1, d2, d3, d4⟩ := tb.c4; obtain ⟨r0, r1, r2, r3, r4, r5, r6⟩ := tb.r6
              go_wp2
              go_ret
              exact ⟨by rw [hl.out]; rfl, tb.bel⟩
        · have u3 : ((mf : Int) != (lp : Int)) = true := by simp; omega
          have u4 : ((mf : Int) == (lp : Int)) = false := beq_false_of_ne (by omega)
          have HN : Hid (manyB q r = false) := Lib.hid (by rw [HM2.out]; exact fitsB_len (by rw [H0.out.lp, HMF.out]; omega))
          clear he
          have hl : Hid (E = 22) := Lib.hid (by rw [HEM.out, HN.out]; rfl)
          clear HE HS
          go_enter Try.func12, Try.ntmps12
          go_wp2_with fail
          refine HC.out.mono ?_
          rintro e w1 ⟨rfl, b1⟩
          have tb := tb.below b1
          clear b1
          obtain ⟨d0, d1, d2, d3, d4⟩ := tb.c4; obtain ⟨r0, r1, r2, r3, r4, r5, r6⟩ := tb.r6
          go_wp2_with (first | (go_at_call 39; refine (refBits_any q.c q.a q.n Ao As Ap lo co ls cs lp cp _).mono ?_; rintro e w9 ⟨rfl, b9⟩; rw [HB.out]; have tb := tb.below b9; obtain ⟨d0, d1, d2, d3, d4⟩ := tb.c4; obtain ⟨r0, r1, r2, r3, r4, r5, r6⟩ := tb.r6) | (go_at_call 40; refine (refWords_kind q.c q.a q.n Ao As Ap lo co ls cs lp cp _).mono ?_; rintro e w9 ⟨rfl, b9⟩; rw [HW.out]; have tb := tb.below b9; obtain ⟨d0, d1, d2, d3, d4⟩ := tb.c4; obtain ⟨r0, r1, r2, r3, r4, r5, r6⟩ := tb.r6) | (go_at_call 41; refine (refFiles_kind q.c q.a q.n Ao As Ap lo co ls cs lp cp _).mono ?_; rintro e w9 ⟨rfl, b9⟩; rw [HF.out]; have tb := tb.below b9; obtain ⟨d0, d1, d2, d3, d4⟩ := tb.c4; obtain ⟨r0, r1, r2, r3, r4, r5, r6⟩ := tb.r6))
          go_ret
          exact ⟨by rw [hl.out]; rfl, tb.bel⟩
end Go.Proofs.Ytfdikjfbmfibjaa
namespace Go.Proofs.Ytfdikjfbmfibjaa
open Go.RowKit
set_option linter.unusedVariables false

set_option maxHeartbeats 4000000 in
set_option maxRecDepth 100000 in
theorem refRp_else (q : Req) (r : Rep) (Ao As Ap Bo Bs Bf : Option Addr) (lo ls lp co cs cp mo ms mf eo es ef : Nat) (w : World) (h : Asked w w.heap.size q Ao As Ap lo ls lp) (hr : Repd w w.heap.size r Bo Bs Bf mo ms mf) (hb : lp ≤ 100000) (hk : chkQ q = 0) (hx : r.x = 0) (hc : ¬ (q.c = 1 ∨ q.c = 2) ∧ ¬ (q.c = 3 ∨ q.c = 4) ∧ ¬ (q.c = 20)) :
    Calls Try.prog 12 #[.agg #[.int .i64 q.c, .int .i64 q.a, .int .i64 q.n, .slice Ao lo co, .slice As ls cs, .slice Ap lp cp], .agg #[.int .i64 r.x, .slice Bo mo eo, .slice Bs ms es, .slice Bf mf ef]] w fun e w' => e = .returned (.int .i64 (chkR q r)) ∧ Below w.heap.size w w' := by
  have tb := TB.new2 w #[.int .i64 q.c, .int .i64 q.a, .int .i64 q.n, .slice Ao lo co, .slice As ls cs, .slice Ap lp cp] #[.int .i64 r.x, .slice Bo mo eo, .slice Bs ms es, .slice Bf mf ef] 26 29
  have hsz : w.heap.size ≤ ((w.alloc (.cells #[.int .i64 q.c, .int .i64 q.a, .int .i64 q.n, .slice Ao lo co, .slice As ls cs, .slice Ap lp cp] 26)).alloc (.cells #[.int .i64 r.x, .slice Bo mo eo, .slice Bs ms es, .slice Bf mf ef] 29)).heap.size := tb.bel.size
  have H0 := Lib.hid h
  have HR0 := Lib.hid hr
  have H := Lib.hid ((h.below tb.bel).more hsz)
  obtain ⟨E, hE⟩ : ∃ E, Hid (chkR q r = E) := ⟨_, Lib.hid rfl⟩
  rw [hE.out]
  have HMO := Lib.hid hr.mo
  have HMS := Lib.hid hr.ms
  have HMF := Lib.hid hr.mf
  have HC := Lib.hid (refCheck_any q Ao As Ap lo ls lp co cs cp _ H.out)
  rw [chkQ_of H.out, hk] at HC
  have HB : Hid (clB q.c = false) := Lib.hid (decide_eq_false (by omega))
  have HW : Hid (clW q.c = false) := Lib.hid (decide_eq_false (by omega))
  have HF : Hid (clF q.c = false) := Lib.hid (decide_eq_false (by omega))
  have HS : Hid (strayB q.c mo ms mf = anyB mo ms mf) := Lib.hid (by unfold strayB; rw [if_neg (show ¬ (q.c = 1 ∨ q.c = 2) by omega), if_neg (show ¬ (q.c = 3 ∨ q.c = 4) by omega), if_neg (show ¬ (q.c = 20) by omega)])
  have HM2 : Hid (manyB q r = true) := Lib.hid (by unfold manyB; rw [if_neg (show ¬ (q.c = 1 ∨ q.c = 2) by omega), if_neg (show ¬ (q.c = 3 ∨ q.c = 4) by omega), if_neg (show ¬ (q.c = 20) by omega)])
  have HE : Hid (E = if strayB q.c mo ms mf = true then 23 else if manyB q r = false then 22 else 0) := Lib.hid (by
    rw [← hE.out]; unfold chkR; rw [if_neg (show ¬ chkQ q ≠ 0 by rw [hk]; simp), if_neg (show ¬ r.x ≠ 0 by simp [hx]), HMO.out, HMS.out, HMF.out])
  have u1 : (r.x != 0) = false := by simp [hx]
  have u2 : (r.x == 0) = true := by simp [hx]
  clear h hr hk hx hE H hc
  by_cases g1 : 0 < mo
  · have g1' : (0 : Int) < (mo : Int) := by omega
    by_cases g2 : 0 < ms
    · have g2' : (0 : Int) < (ms : Int) := by omega
      by_cases g3 : 0 < mf
      · have g3' : (0 : Int) < (mf : Int) := by omega
        have hl : Hid (E = 23) := Lib.hid (by rw [HE.out, HS.out, if_pos (by simp [anyB]; omega)])
        clear HE HS
        go_enter Try.func12, Try.ntmps12
        go_wp2_with fail
        refine HC.out.mono ?_
        rintro e w1 ⟨rfl, b1⟩
        have tb := tb.below b1
        clear b1
        obtain ⟨d0, d1, d2, d3, d4⟩ := tb.c4; obtain ⟨r0, r1, r2, r3, r4, r5, r6⟩ := tb.r6
        go_wp2_with (first | (go_at_call 39; refine (refBits_any q.c q.a q.n Ao As Ap lo co ls cs lp cp _).mono ?_; rintro e w9 ⟨rfl, b9⟩; rw [HB.out]; have tb := tb.below b9; obtain ⟨d0, d1, d2, d3, d4⟩ := tb.c4; obtain ⟨r0, r1, r2, r3, r4, r5, r6⟩ := tb.r6) | (go_at_call 40; refine (refWords_kind q.c q.a q.n Ao As Ap lo co ls cs lp cp _).mono ?_; rintro e w9 ⟨rfl, b9⟩; rw [HW.out]; have tb := tb.below b9; obtain ⟨d0, d1, d2, d3, d4⟩ := tb.c4; obtain ⟨r0, r1, r2, r3, r4, r5, r6⟩ := tb.r6) | (go_at_call 41; refine (refFiles_kind q.c q.a q.n Ao As Ap lo co ls cs lp cp _).mono ?_; rintro e w9 ⟨rfl, b9⟩; rw [HF.out]; have tb := tb.below b9; obtain ⟨d0, d1, d2, d3, d4⟩ := tb.c4; obtain ⟨r0, r1, r2, r3, r4, r5, r6⟩ := tb.r6))
        go_ret
        exact ⟨by rw [hl.out]; rfl, tb.bel⟩
      · have g3' : ¬ (0 : Int) < (mf : Int) := by omega
        have hl : Hid (E = 23) := Lib.hid (by rw [HE.out, HS.out, if_pos (by simp [anyB]; omega)])
        clear HE HS
        go_enter Try.func12, Try.ntmps12
        go_wp2_with fail
        refine HC.out.mono ?_
        rintro e w1 ⟨rfl, b1⟩
        have tb := tb.below b1
        clear b1
        obtain ⟨d0, d1, d2, d3, d4⟩ := tb.c4; obtain ⟨r0, r1, r2, r3, r4, r5, r6⟩ := tb.r6
        go_wp2_with (first | (go_at_call 39; refine (refBits_any q.c q.a q.n Ao As Ap lo co ls cs lp cp _).mono ?_; rintro e w9 ⟨rfl, b9⟩; rw [HB.out]; have tb := tb.below b9; obtain ⟨d0, d1, d2, d3, d4⟩ := tb.c4; obtain ⟨r0, r1, r2, r3, r4, r5, r6⟩ := tb.r6) | (go_at_call 40; refine (refWords_kind q.c q.a q.n Ao As Ap lo co ls cs lp cp _).mono ?_; rintro e w9 ⟨rfl, b9⟩; rw [HW.out]; have tb := tb.below b9; obtain ⟨d0, d1, d2, d3, d4⟩ := tb.c4; obtain ⟨r0, r1, r2, r3, r4, r5, r6⟩ := tb.r6) | (go_at_call 41; refine (refFiles_kind q.c q.a q.n Ao As Ap lo co ls cs lp cp _).mono ?_; rintro e w9 ⟨rfl, b9⟩; rw [HF.out]; have tb := tb.below b9; obtain ⟨d0, d1, d2, d3, d4⟩ := tb.c4; obtain ⟨r0, r1, r2, r3, r4, r5, r6⟩ := tb.r6))
        go_ret
        exact ⟨by rw [hl.out]; rfl, tb.bel⟩
    · have g2' : ¬ (0 : Int) < (ms : Int) := by omega
      by_cases g3 : 0 < mf
      · have g3' : (0 : Int) < (mf : Int) := by omega
        have hl : Hid (E = 23) := Lib.hid (by rw [HE.out, HS.out, if_pos (by simp [anyB]; omega)])
        clear HE HS
        go_enter Try.func12, Try.ntmps12
        go_wp2_with fail
        refine HC.out.mono ?_
        rintro e w1 ⟨rfl, b1⟩
        have tb := tb.below b1
        clear b1
        obtain ⟨d0, d1, d2, d3, d4⟩ := tb.c4; obtain ⟨r0, r1, r2, r3, r4, r5, r6⟩ := tb.r6
        go_wp2_with (first | (go_at_call 39; refine (refBits_any q.c q.a q.n Ao As Ap lo co ls cs lp cp _).mono ?_; rintro e w9 ⟨rfl, b9⟩; rw [HB.out]; have tb := tb.below b9; obtain ⟨d0, d1, d2, d3, d4⟩ := tb.c4; obtain ⟨r0, r1, r2, r3, r4, r5, r6⟩ := tb.r6) | (go_at_call 40; refine (refWords_kind q.c q.a q.n Ao As Ap lo co ls cs lp cp _).mono ?_; rintro e w9 ⟨rfl, b9⟩; rw [HW.out]; have tb := tb.below b9; obtain ⟨d0, d1, d2, d3, d4⟩ := tb.c4; obtain ⟨r0, r1, r2, r3, r4, r5, r6⟩ := tb.r6) | (go_at_call 41; refine (refFiles_kind q.c q.a q.n Ao As Ap lo co ls cs lp cp _).mono ?_; rintro e w9 ⟨rfl, b9⟩; rw [HF.out]; have tb := tb.below b9; obtain ⟨d0, d1, d2, d3, d4⟩ := tb.c4; obtain ⟨r0, r1, r2, r3, r4, r5, r6⟩ := tb.r6))
        go_ret
        exact ⟨by rw [hl.out]; rfl, tb.bel⟩
      · have g3' : ¬ (0 : Int) < (mf : Int) := by omega
        have hl : Hid (E = 23) := Lib.hid (by rw [HE.out, HS.out, if_pos (by simp [anyB]; omega)])
        clear HE HS
        go_enter Try.func12, Try.ntmps12
        go_wp2_with fail
        refine HC.out.mono ?_
        rintro e w1 ⟨rfl, b1⟩
        have tb := tb.below b1
        clear b1
        obtain ⟨d0, d1, d2, d3, d4⟩ := tb.c4; obtain ⟨r0, r1, r2, r3, r4, r5, r6⟩ := tb.r6
        go_wp2_with (first | (go_at_call 39; refine (refBits_any q.c q.a q.n Ao As Ap lo co ls cs lp cp _).mono ?_; rintro e w9 ⟨rfl, b9⟩; rw [HB.out]; have tb := tb.below b9; obtain ⟨d0, d1, d2, d3, d4⟩ := tb.c4; obtain ⟨r0, r1, r2, r3, r4, r5, r6⟩ := tb.r6) | (go_at_call 40; refine (refWords_kind q.c q.a q.n Ao As Ap lo co ls cs lp cp _).mono ?_; rintro e w9 ⟨rfl, b9⟩; rw [HW.out]; have tb := tb.below b9; obtain ⟨d0, d1, d2, d3, d4⟩ := tb.c4; obtain ⟨r0, r1, r2, r3, r4, r5, r6⟩ := tb.r6) | (go_at_call 41; refine (refFiles_kind q.c q.a q.n Ao As Ap lo co ls cs lp cp _).mono ?_; rintro e w9 ⟨rfl, b9⟩; rw [HF.out]; have tb := tb.below b9; obtain ⟨d0, d1, d2, d3, d4⟩ := tb.c4; obtain ⟨r0, r1, r2, r3, r4, r5, r6⟩ := tb.r6))
        go_ret
        exact ⟨by rw [hl.out]; rfl, tb.bel⟩
  · have g1' : ¬ (0 : Int) < (mo : Int) := by omega
    by_cases g2 : 0 < ms
    · have g2' : (0 : Int) < (ms : Int) := by omega
      by_cases g3 : 0 < mf
      · have g3' : (0 : Int) < (mf : Int) := by omega
        have hl : Hid (E = 23) := Lib.hid (by rw [HE.out, HS.out, if_pos (by simp [anyB]; omega)])
        clear HE HS
        go_enter Try.func12, Try.ntmps12
        go_wp2_with fail
        refine HC.out.mono ?_
        rintro e w1 ⟨rfl, b1⟩
        have tb := tb.below b1
        clear b1
        obtain ⟨d0, d1, d2, d3, d4⟩ := tb.c4; obtain ⟨r0, r1, r2, r3, r4, r5, r6⟩ := tb.r6
        go_wp2_with (first | (go_at_call 39; refine (refBits_any q.c q.a q.n Ao As Ap lo co ls cs lp cp _).mono ?_; rintro e w9 ⟨rfl, b9⟩; rw [HB.out]; have tb := tb.below b9; obtain ⟨d0, d1, d2, d3, d4⟩ := tb.c4; obtain ⟨r0, r1, r2, r3, r4, r5, r6⟩ := tb.r6) | (go_at_call 40; refine (refWords_kind q.c q.a q.n Ao As Ap lo co ls cs lp cp _).mono ?_; rintro e w9 ⟨rfl, b9⟩; rw [HW.out]; have tb := tb.below b9; obtain ⟨d0, d1, d2, d3, d4⟩ := tb.c4; obtain ⟨r0, r1, r2, r3, r4, r5, r6⟩ := tb.r6) | (go_at_call 41; refine (refFiles_kind q.c q.a q.n Ao As Ap lo co ls cs lp cp _).mono ?_; rintro e w9 ⟨rfl, b9⟩; rw [HF.out]; have tb := tb.below b9; obtain ⟨d0, d1, d2, d3, d4⟩ := tb.c4; obtain ⟨r0, r1, r2, r3, r4, r5, r6⟩ := tb.r6))
        go_ret
        exact ⟨by rw [hl.out]; rfl, tb.bel⟩
      · have g3' : ¬ (0 : Int) < (mf : Int) := by omega
        have hl : Hid (E = 23) := Lib.hid (by rw [HE.out, HS.out, if_pos (by simp [anyB]; omega)])
        clear HE HS
        go_enter Try.func12, Try.ntmps12
        go_wp2_with fail
        refine HC.out.mono ?_
        rintro e w1 ⟨rfl, b1⟩
        have tb := tb.below b1
        clear b1
        obtain ⟨d0, d1, d2, d3, d4⟩ := tb.c4; obtain ⟨r0, r1, r2, r3, r4, r5, r6⟩ := tb.r6
        go_wp2_with (first | (go_at_call 39; refine (refBits_any q.c q.a q.n Ao As Ap lo co ls cs lp cp _).mono ?_; rintro e w9 ⟨rfl, b9⟩; rw [HB.out]; have tb := tb.below b9; obtain ⟨d0, d1, d2, d3, d4⟩ := tb.c4; obtain ⟨r0, r1, r2, r3, r4, r5, r6⟩ := tb.r6) | (go_at_call 40; refine (refWords_kind q.c q.a q.n Ao As Ap lo co ls cs lp cp _).mono ?_; rintro e w9 ⟨rfl, b9⟩; rw [HW.out]; have tb := tb.below b9; obtain ⟨d0, d1, d2, d3, d4⟩ := tb.c4; obtain ⟨r0, r1, r2, r3, r4, r5, r6⟩ := tb.r6) | (go_at_call 41; refine (refFiles_kind q.c q.a q.n Ao As Ap lo co ls cs lp cp _).mono ?_; rintro e w9 ⟨rfl, b9⟩; rw [HF.out]; have tb := tb.below b9; obtain ⟨d0, d1, d2, d3, d4⟩ := tb.c4; obtain ⟨r0, r1, r2, r3, r4, r5, r6⟩ := tb.r6))
        go_ret
        exact ⟨by rw [hl.out]; rfl, tb.bel⟩
    · have g2' : ¬ (0 : Int) < (ms : Int) := by omega
      by_cases g3 : 0 < mf
      · have g3' : (0 : Int) < (mf : Int) := by omega
        have hl : Hid (E = 23) := Lib.hid (by rw [HE.out, HS.out, if_pos (by simp [anyB]; omega)])
        clear HE HS
        go_enter Try.func12, Try.ntmps12
        go_wp2_with fail
        refine HC.out.mono ?_
        rintro e w1 ⟨rfl, b1⟩
        have tb := tb.below b1
        clear b1
        obtain ⟨d0, d1, d2, d3, d4⟩ := tb.c4; obtain ⟨r0, r1, r2, r3, r4, r5, r6⟩ := tb.r6
        go_wp2_with (first | (go_at_call 39; refine (refBits_any q.c q.a q.n Ao As Ap lo co ls cs lp cp _).mono ?_; rintro e w9 ⟨rfl, b9⟩; rw [HB.out]; have tb := tb.below b9; obtain ⟨d0, d1, d2, d3, d4⟩ := tb.c4; obtain ⟨r0, r1, r2, r3, r4, r5, r6⟩ := tb.r6) | (go_at_call 40; refine (refWords_kind q.c q.a q.n Ao As Ap lo co ls cs lp cp _).mono ?_; rintro e w9 ⟨rfl, b9⟩; rw [HW.out]; have tb := tb.below b9; obtain ⟨d0, d1, d2, d3, d4⟩ := tb.c4; obtain ⟨r0, r1, r2, r3, r4, r5, r6⟩ := tb.r6) | (go_at_call 41; refine (refFiles_kind q.c q.a q.n Ao As Ap lo co ls cs lp cp _).mono ?_; rintro e w9 ⟨rfl, b9⟩; rw [HF.out]; have tb := tb.below b9; obtain ⟨d0, d1, d2, d3, d4⟩ := tb.c4; obtain ⟨r0, r1, r2, r3, r4, r5, r6⟩ := tb.r6))
        go_ret
        exact ⟨by rw [hl.out]; rfl, tb.bel⟩
      · have g3' : ¬ (0 : Int) < (mf : Int) := by omega
        have HEM : Hid (E = if manyB q r = false then 22 else 0) := Lib.hid (by rw [HE.out, HS.out, if_neg (by simp [anyB]; try omega)])
        clear HE HS
        go_enter Try.func12, Try.ntmps12
        go_wp2_with fail
        refine HC.out.mono ?_
        rintro e w1 ⟨rfl, b1⟩
        have tb := tb.below b1
        clear b1
        obtain ⟨d0, d1, d2, d3, d4⟩ := tb.c4; obtain ⟨r0, r1, r2, r3, r4, r5, r6⟩ := tb.r6
        go_wp2_with (first | (go_at_call 39; refine (refBits_any q.c q.a q.n Ao As Ap lo co ls cs lp cp _).mono ?_; rintro e w9 ⟨rfl, b9⟩; rw [HB.out]; have tb := tb.below b9; obtain ⟨d0, d1, d2, d3, d4⟩ := tb.c4; obtain ⟨r0, r1, r2, r3, r4, r5, r6⟩ := tb.r6) | (go_at_call 40; refine (refWords_kind q.c q.a q.n Ao As Ap lo co ls cs lp cp _).mono ?_; rintro e w9 ⟨rfl, b9⟩; rw [HW.out]; have tb := tb.below b9; obtain ⟨d0, d1, d2, d3, d4⟩ := tb.c4; obtain ⟨r0, r1, r2, r3, r4, r5, r6⟩ := tb.r6) | (go_at_call 41; refine (refFiles_kind q.c q.a q.n Ao As Ap lo co ls cs lp cp _).mono ?_; rintro e w9 ⟨rfl, b9⟩; rw [HF.out]; have tb := tb.below b9; obtain ⟨d0, d1, d2, d3, d4⟩ := tb.c4; obtain ⟨r0, r1, r2, r3, r4, r5, r6⟩ := tb.r6))
        go_loopw [6] (fun i wr => ∃ k : Nat, k ≤ mf ∧ i = .int .i64 k ∧ TB w w.heap.size (.cells #[.int .i64 q.c, .int .i64 q.a, .int .i64 q.n, .slice Ao lo co, .slice As ls cs, .slice Ap lp cp] 26 (0, 0)) (.cells #[.int .i64 r.x, .slice Bo mo eo, .slice Bs ms es, .slice Bf mf ef] 29 (0, 0)) wr ∧ Hid (∀ j, j < k → ((nthF r.fs j).length : Int) = nth q.fl (3 * j + 2))) (fun i _ => mf - (intOf i).toNat)
        case atStart => exact ⟨0, by omega, rfl, tb, Lib.hid (fun j h => by omega)⟩
        case round =>
          clear d0 d1 d2 d3 d4 r0 r1 r2 r3 r4 r5 r6 tb
          obtain ⟨k, hk, rfl, tb, hs⟩ := hrel
          by_cases hlt : k < mf
          · exact absurd hlt (by omega)
          · obtain rfl : k = mf := by omega
            have hl : Hid (E = 0) := Lib.hid (by rw [HEM.out, HM2.out]; rfl)
            obtain ⟨d0, d1, d2, d3, d4⟩ := tb.c4; obtain ⟨r0, r1, r2, r3, r4, r5, r6⟩ := tb.r6
            go_wp2
            go_ret
            exact ⟨by rw [hl.out]; rfl, tb.bel⟩
end Go.Proofs.Ytfdikjfbmfibjaa
namespace Go.Proofs.Ytfdikjfbmfibjaa
open Go.RowKit
set_option linter.unusedVariables false

/-- The document's Check, of any answer to any request. -/
theorem refRp_any (q : Req) (r : Rep) (Ao As Ap Bo Bs Bf : Option Addr) (lo ls lp co cs cp mo ms mf eo es ef : Nat) (w : World) (h : Asked w w.heap.size q Ao As Ap lo ls lp) (hr : Repd w w.heap.size r Bo Bs Bf mo ms mf) (hb : lp ≤ 100000) :
    Calls Try.prog 12 #[.agg #[.int .i64 q.c, .int .i64 q.a, .int .i64 q.n, .slice Ao lo co, .slice As ls cs, .slice Ap lp cp], .agg #[.int .i64 r.x, .slice Bo mo eo, .slice Bs ms es, .slice Bf mf ef]] w fun e w' => e = .returned (.int .i64 (chkR q r)) ∧ Below w.heap.size w w' := by
  by_cases hk : chkQ q = 0
  · by_cases hx : r.x = 0
    · by_cases h1 : q.c = 1 ∨ q.c = 2
      · exact refRp_bits q r Ao As Ap Bo Bs Bf lo ls lp co cs cp mo ms mf eo es ef w h hr hb hk hx h1
      · by_cases h2 : q.c = 3 ∨ q.c = 4
        · exact refRp_words q r Ao As Ap Bo Bs Bf lo ls lp co cs cp mo ms mf eo es ef w h hr hb hk hx h2
        · by_cases h3 : q.c = 20
          · exact refRp_files q r Ao As Ap Bo Bs Bf lo ls lp co cs cp mo ms mf eo es ef w h hr hb hk hx h3
          · exact refRp_else q r Ao As Ap Bo Bs Bf lo ls lp co cs cp mo ms mf eo es ef w h hr hb hk hx ⟨h1, h2, h3⟩
    · exact refRp_exc q r Ao As Ap Bo Bs Bf lo ls lp co cs cp mo ms mf eo es ef w h hr hb hk hx
  · exact refRp_bad q r Ao As Ap Bo Bs Bf lo ls lp co cs cp mo ms mf eo es ef w h hr hb hk
end Go.Proofs.Ytfdikjfbmfibjaa
namespace Go.Proofs.Ytfdikjfbmfibjaa
open Go.RowKit
set_option linter.unusedVariables false

/-- Four stores, field by field. -/
def put4 (w : World) (g : Nat) (v0 v1 v2 v3 : Value) : World := (((w.setCell ⟨g, 0, none⟩ v0).setCell ⟨g, 1, none⟩ v1).setCell ⟨g, 2, none⟩ v2).setCell ⟨g, 3, none⟩ v3
theorem put4_heap {w : World} {g : Nat} {t : TypeId} {u0 u1 u2 u3 : Value} (h : w.heap[g]? = some (.cells #[u0, u1, u2, u3] t (0, 0))) (v0 v1 v2 v3 : Value) :
    (put4 w g v0 v1 v2 v3).heap[g]? = some (.cells #[v0, v1, v2, v3] t (0, 0)) := box_set (box_set (box_set (box_set h 0 v0) 1 v1) 2 v2) 3 v3
theorem below_put4 {B : Nat} {a w : World} {g : Nat} (h : Below B a w) (hg : B ≤ g) (v0 v1 v2 v3 : Value) : Below B a (put4 w g v0 v1 v2 v3) :=
  below_setCell (below_setCell (below_setCell (below_setCell h hg 0 v0) hg 1 v1) hg 2 v2) hg 3 v3
theorem cells4 {w : World} {g : Nat} {t : TypeId} {v0 v1 v2 v3 : Value} (h : w.heap[g]? = some (.cells #[v0, v1, v2, v3] t (0, 0))) :
    w.cell? ⟨g, 0, none⟩ = some v0 ∧ w.cell? ⟨g, 1, none⟩ = some v1 ∧ w.cell? ⟨g, 2, none⟩ = some v2 ∧ w.cell? ⟨g, 3, none⟩ = some v3 :=
  ⟨cell_of_row w g 0 _ _ _ h, cell_of_row w g 1 _ _ _ h, cell_of_row w g 2 _ _ _ h, cell_of_row w g 3 _ _ _ h⟩
theorem TB.put4 {w0 w : World} {B : Nat} {o1 : Obj} {t : TypeId} {u0 u1 u2 u3 : Value} (h : TB w0 B o1 (.cells #[u0, u1, u2, u3] t (0, 0)) w) (v0 v1 v2 v3 : Value) :
    (put4 w (B + 1) v0 v1 v2 v3).heap[B + 1]? = some (.cells #[v0, v1, v2, v3] t (0, 0)) ∧ Below B w0 (put4 w (B + 1) v0 v1 v2 v3) :=
  ⟨put4_heap h.box v0 v1 v2 v3, below_put4 h.bel (Nat.le_succ _) v0 v1 v2 v3⟩

/-- An answer and a number. -/
def RpGot (w : World) (r : Rep) (E : Int) (e : Ending) (w' : World) : Prop :=
  ∃ (Bo Bs Bf : Option Addr) (mo ms mf eo es ef : Nat), e = .returned (.tuple #[.agg #[.int .i64 r.x, .slice Bo mo eo, .slice Bs ms es, .slice Bf mf ef], .int .i64 E]) ∧ Repd w' w'.heap.size r Bo Bs Bf mo ms mf ∧ Below w.heap.size w w'
theorem RpGot.exc {w w' : World} {x err : Int} {e : Ending} (h : e = .returned (.tuple #[.agg #[.int .i64 x, .slice none 0 0, .slice none 0 0, .slice none 0 0], .int .i64 err])) (hb : Below w.heap.size w w') : RpGot w ⟨x, [], [], []⟩ err e w' :=
  ⟨none, none, none, 0, 0, 0, 0, 0, 0, h, Repd.zero _ _ x, hb⟩

theorem checkSize_any (A : Option Addr) (n c : Nat) (s : Int) (w : World) : Calls Try.prog 93 #[.slice A n c, .int .i64 s] w fun e w' => e = .returned (.int .i64 (if (n : Int) < s then 1 else if s < (n : Int) then 2 else 0)) ∧ w' = w := by
  by_cases h1 : (n : Int) < s
  · rw [if_pos h1]
    go_enter Try.func93, Try.ntmps93
    go_wp2
    go_ret
    exact ⟨rfl, rfl⟩
  · rw [if_neg h1]
    by_cases h2 : s < (n : Int)
    · rw [if_pos h2]
      go_enter Try.func93, Try.ntmps93
      go_wp2
      go_ret
      exact ⟨rfl, rfl⟩
    · rw [if_neg h2]
      go_enter Try.func93, Try.ntmps93
      go_wp2
      go_ret
      exact ⟨rfl, rfl⟩

set_option maxHeartbeats 1000000 in
set_option maxRecDepth 100000 in
/-- getExc, of the two bytes of an exception. -/
theorem getExc_yes (A : Option Addr) (c : Nat) (y x : Int) (w : World) (B : Nat) (hr : Row .u8 w B A [y, x]) (hx : 1 ≤ x ∧ x ≤ 127) :
    Calls Try.prog 60 #[.slice A 2 c] w (RpGot w ⟨x, [], [], []⟩ 0) := by
  obtain ⟨b, o, rfl, hb, hc⟩ := hr.at_ (i := 1) (by simp)
  replace hc : w.cell? ⟨b, o + 1, none⟩ = some (.int .u8 x) := hc
  have hbw : b < w.heap.size := World.block_lt_of_cell? w ⟨b, o + 1, none⟩ hc
  have HX : Hid (decide (1 ≤ x ∧ x ≤ 127) = true) := Lib.hid (decide_eq_true hx)
  have e0 : IntKind.i64.wrap x = x := IntWalk.i64_in _ (by omega)
  have HS : Hid (∀ W, Calls Try.prog 93 #[.slice (some ⟨b, o, none⟩) 2 c, .int .i64 2] W fun e w' => e = .returned (.int .i64 0) ∧ w' = W) := Lib.hid (fun W => (checkSize_any (some ⟨b, o, none⟩) 2 c 2 W).mono fun e w' h => ⟨h.1.trans (by rw [if_neg (by omega), if_neg (by omega)]), h.2⟩)
  have bel := bel_alloc w (.cells #[.int .i64 x, .slice none 0 0, .slice none 0 0, .slice none 0 0] 29)
  clear hr hx
  go_enter Try.func60, Try.ntmps60
  go_wp2_with fail
  refine (HS.out _).mono ?_
  rintro e w1 ⟨rfl, rfl⟩
  go_wp2_with fail
  refine (isExc_any x _).mono ?_
  rintro e w1 ⟨rfl, rfl⟩
  rw [HX.out]
  go_wp2
  (try simp only [Exit.inBlock, Exit.then])
  refine bodyPost_ret (v := .tuple #[.agg #[.int .i64 x, .slice none 0 0, .slice none 0 0, .slice none 0 0], .int .i64 0]) (by simp [results, Try.results60, go_sem]) rfl ?_
  exact RpGot.exc rfl bel

/-- A right request has a code. -/
theorem chk_code {q : Req} (h : chkQ q = 0) : 0 < mm q.c := by
  unfold chkQ chk at h
  by_cases hm : mm q.c ≤ 0
  · rw [if_pos hm] at h; omega
  · omega
theorem mm_le (c : Int) (h : 0 < mm c) : 1 ≤ c ∧ c ≤ 20 := by rcases mm_pos h with h | h | h | h | h | h | h | h | h <;> omega

set_option maxHeartbeats 1000000 in
set_option maxRecDepth 100000 in
theorem rpGet_bad (q : Req) (Ao As Ap : Option Addr) (lo ls lp co cs cp : Nat) (A : Option Addr) (n c : Nat) (w : World) (h : Asked w w.heap.size q Ao As Ap lo ls lp) (hk : chkQ q ≠ 0) :
    Calls Try.prog 24 #[.agg #[.int .i64 q.c, .int .i64 q.a, .int .i64 q.n, .slice Ao lo co, .slice As ls cs, .slice Ap lp cp], .slice A n c] w (RpGot w Rep.zero (chkQ q)) := by
  have t0 := TB.new2 w #[.int .i64 q.c, .int .i64 q.a, .int .i64 q.n, .slice Ao lo co, .slice As ls cs, .slice Ap lp cp] #[.int .i64 0, .slice none 0 0, .slice none 0 0, .slice none 0 0] 26 29
  have hsz : w.heap.size ≤ ((w.alloc (.cells #[.int .i64 q.c, .int .i64 q.a, .int .i64 q.n, .slice Ao lo co, .slice As ls cs, .slice Ap lp cp] 26)).alloc (.cells #[.int .i64 0, .slice none 0 0, .slice none 0 0, .slice none 0 0] 29)).heap.size := t0.bel.size
  have HC := Lib.hid (Check_Q q Ao As Ap lo ls lp co cs cp _ ((h.below t0.bel).more hsz))
  obtain ⟨k, hk2⟩ : ∃ k, chkQ q = k := ⟨_, rfl⟩
  rw [hk2] at HC hk ⊢
  have u1 : (k != 0) = true := by simpa using hk
  have u2 : (k == 0) = false := beq_false_of_ne hk
  clear h hk hk2
  go_enter Try.func24, Try.ntmps24
  go_wp2_with fail
  refine HC.out.mono ?_
  rintro e w1 ⟨rfl, b1⟩
  have t1 := t0.below b1
  clear b1 t0 HC hsz
  obtain ⟨d0, d1, d2, d3, d4⟩ := t1.c4
  obtain ⟨r0, r1, r2, r3, r4, r5, r6⟩ := t1.r6
  have P5 := Lib.hid (t1.put4 (.int .i64 0) (.slice none 0 0) (.slice none 0 0) (.slice none 0 0))
  go_wp2
  (try simp only [Exit.inBlock, Exit.then])
  show bodyPost _ _ _ _ _ (put4 (w1) (w.heap.size + 1) (.int .i64 0) (.slice none 0 0) (.slice none 0 0) (.slice none 0 0))
  generalize put4 (w1) (w.heap.size + 1) (.int .i64 0) (.slice none 0 0) (.slice none 0 0) (.slice none 0 0) = w6 at *
  obtain ⟨x0, x1, x2, x3⟩ := cells4 P5.out.1
  refine bodyPost_ret (v := .tuple #[.agg #[.int .i64 0, .slice none 0 0, .slice none 0 0, .slice none 0 0], .int .i64 k]) (by simp [results, Try.results24, go_sem, x0, x1, x2, x3]) rfl ?_
  exact RpGot.exc rfl P5.out.2

set_option maxHeartbeats 1000000 in
set_option maxRecDepth 100000 in
theorem rpGet_none (q : Req) (Ao As Ap : Option Addr) (lo ls lp co cs cp : Nat) (A : Option Addr) (c : Nat) (w : World) (h : Asked w w.heap.size q Ao As Ap lo ls lp) (hk : chkQ q = 0) :
    Calls Try.prog 24 #[.agg #[.int .i64 q.c, .int .i64 q.a, .int .i64 q.n, .slice Ao lo co, .slice As ls cs, .slice Ap lp cp], .slice A 0 c] w (RpGot w Rep.zero 1) := by
  have t0 := TB.new2 w #[.int .i64 q.c, .int .i64 q.a, .int .i64 q.n, .slice Ao lo co, .slice As ls cs, .slice Ap lp cp] #[.int .i64 0, .slice none 0 0, .slice none 0 0, .slice none 0 0] 26 29
  have hsz : w.heap.size ≤ ((w.alloc (.cells #[.int .i64 q.c, .int .i64 q.a, .int .i64 q.n, .slice Ao lo co, .slice As ls cs, .slice Ap lp cp] 26)).alloc (.cells #[.int .i64 0, .slice none 0 0, .slice none 0 0, .slice none 0 0] 29)).heap.size := t0.bel.size
  have HC := Lib.hid (Check_Q q Ao As Ap lo ls lp co cs cp _ ((h.below t0.bel).more hsz))
  rw [hk] at HC
  clear h hk
  go_enter Try.func24, Try.ntmps24
  go_wp2_with fail
  refine HC.out.mono ?_
  rintro e w1 ⟨rfl, b1⟩
  have t1 := t0.below b1
  clear b1 t0 HC hsz
  obtain ⟨d0, d1, d2, d3, d4⟩ := t1.c4
  obtain ⟨r0, r1, r2, r3, r4, r5, r6⟩ := t1.r6
  have P5 := Lib.hid (t1.put4 (.int .i64 0) (.slice none 0 0) (.slice none 0 0) (.slice none 0 0))
  go_wp2
  (try simp only [Exit.inBlock, Exit.then])
  show bodyPost _ _ _ _ _ (put4 (w1) (w.heap.size + 1) (.int .i64 0) (.slice none 0 0) (.slice none 0 0) (.slice none 0 0))
  generalize put4 (w1) (w.heap.size + 1) (.int .i64 0) (.slice none 0 0) (.slice none 0 0) (.slice none 0 0) = w6 at *
  obtain ⟨x0, x1, x2, x3⟩ := cells4 P5.out.1
  refine bodyPost_ret (v := .tuple #[.agg #[.int .i64 0, .slice none 0 0, .slice none 0 0, .slice none 0 0], .int .i64 1]) (by simp [results, Try.results24, go_sem, x0, x1, x2, x3]) rfl ?_
  exact RpGot.exc rfl P5.out.2

set_option maxHeartbeats 1000000 in
set_option maxRecDepth 100000 in
theorem rpGet_exc (q : Req) (Ao As Ap : Option Addr) (lo ls lp co cs cp : Nat) (A : Option Addr) (c : Nat) (x : Int) (w : World) (h : Asked w w.heap.size q Ao As Ap lo ls lp) (hk : chkQ q = 0) (hr : Row .u8 w w.heap.size A [q.c + 128, x]) (hx : 1 ≤ x ∧ x ≤ 127) :
    Calls Try.prog 24 #[.agg #[.int .i64 q.c, .int .i64 q.a, .int .i64 q.n, .slice Ao lo co, .slice As ls cs, .slice Ap lp cp], .slice A 2 c] w (RpGot w ⟨x, [], [], []⟩ 0) := by
  have t0 := TB.new2 w #[.int .i64 q.c, .int .i64 q.a, .int .i64 q.n, .slice Ao lo co, .slice As ls cs, .slice Ap lp cp] #[.int .i64 0, .slice none 0 0, .slice none 0 0, .slice none 0 0] 26 29
  have hsz : w.heap.size ≤ ((w.alloc (.cells #[.int .i64 q.c, .int .i64 q.a, .int .i64 q.n, .slice Ao lo co, .slice As ls cs, .slice Ap lp cp] 26)).alloc (.cells #[.int .i64 0, .slice none 0 0, .slice none 0 0, .slice none 0 0] 29)).heap.size := t0.bel.size
  have HC := Lib.hid (Check_Q q Ao As Ap lo ls lp co cs cp _ ((h.below t0.bel).more hsz))
  rw [hk] at HC
  have hcr := mm_le _ (chk_code hk)
  have HR := Lib.hid hr
  have HX := Lib.hid hx
  obtain ⟨b, o, rfl, hb, hc⟩ := hr.at_ (i := 0) (by simp)
  replace hc : w.cell? ⟨b, o + 0, none⟩ = some (.int .u8 (q.c + 128)) := hc
  rw [Nat.add_zero] at hc
  have e1 : IntKind.i64.wrap (q.c + 128) = q.c + 128 := IntWalk.i64_in _ (by omega)
  have e2 : (q.c + 128 == q.c + 128) = true := by simp
  clear h hk hr hx
  go_enter Try.func24, Try.ntmps24
  go_wp2_with fail
  refine HC.out.mono ?_
  rintro e w1 ⟨rfl, b1⟩
  have t1 := t0.below b1
  clear b1 t0 HC hsz
  obtain ⟨d0, d1, d2, d3, d4⟩ := t1.c4
  obtain ⟨r0, r1, r2, r3, r4, r5, r6⟩ := t1.r6
  have hc1 : w1.cell? ⟨b, o, none⟩ = some (.int .u8 (q.c + 128)) := (t1.bel.cell (p := ⟨b, o, none⟩) hb).trans hc
  go_wp2_with fail
  refine (getExc_yes _ c (q.c + 128) x _ _ (HR.out.tb t1) HX.out).mono ?_
  rintro e w2 ⟨Bo, Bs, Bf, mo, ms, mf, eo, es, ef, rfl, hrep, b2⟩
  have t2 := t1.below b2
  have HREP := Lib.hid hrep
  clear hrep b2 t1 d0 d1 d2 d3 d4 r0 r1 r2 r3 r4 r5 r6 hc1
  obtain ⟨d0, d1, d2, d3, d4⟩ := t2.c4
  have P5 := Lib.hid (t2.put4 (.int .i64 x) (.slice Bo mo eo) (.slice Bs ms es) (.slice Bf mf ef))
  obtain rfl : mo = 0 := HREP.out.mo.symm
  obtain rfl : ms = 0 := HREP.out.ms.symm
  obtain rfl : mf = 0 := HREP.out.mf.symm
  go_wp2
  (try simp only [Exit.inBlock, Exit.then])
  show bodyPost _ _ _ _ _ (put4 (w2) (w.heap.size + 1) (.int .i64 x) (.slice Bo 0 eo) (.slice Bs 0 es) (.slice Bf 0 ef))
  generalize put4 (w2) (w.heap.size + 1) (.int .i64 x) (.slice Bo 0 eo) (.slice Bs 0 es) (.slice Bf 0 ef) = w6 at *
  obtain ⟨x0, x1, x2, x3⟩ := cells4 P5.out.1
  refine bodyPost_ret (v := .tuple #[.agg #[.int .i64 x, .slice Bo 0 eo, .slice Bs 0 es, .slice Bf 0 ef], .int .i64 0]) (by simp [results, Try.results24, go_sem, x0, x1, x2, x3]) rfl ?_
  exact ⟨Bo, Bs, Bf, 0, 0, 0, eo, es, ef, rfl, ⟨L.Row.nil _ _ _ _, Row.nil _ _ _ _, FRow.nil _ _ _, rfl, rfl, rfl⟩, P5.out.2⟩

set_option maxHeartbeats 1000000 in
theorem rpPut_exc (q : Req) (Ao As Ap : Option Addr) (lo ls lp co cs cp : Nat) (x : Int) (w : World) (h : Asked w w.heap.size q Ao As Ap lo ls lp) (hb : lp ≤ 100000) (hk : chkQ q = 0) (hx : 1 ≤ x ∧ x ≤ 127) :
    Calls Try.prog 16 #[.agg #[.int .i64 q.c, .int .i64 q.a, .int .i64 q.n, .slice Ao lo co, .slice As ls cs, .slice Ap lp cp], .agg #[.int .i64 x, .slice none 0 0, .slice none 0 0, .slice none 0 0]] w fun e w' => ∃ g, w.heap.size ≤ g ∧ e = .returned (.tuple #[.slice (some ⟨g, 0, none⟩) 2 2, .int .i64 0]) ∧ w'.heap[g]? = some (.cells (blk .u8 [q.c + 128, x]) 5 (0, 0)) ∧ Below w.heap.size w w' := by
  have t0 := TB.new2 w #[.int .i64 q.c, .int .i64 q.a, .int .i64 q.n, .slice Ao lo co, .slice As ls cs, .slice Ap lp cp] #[.int .i64 x, .slice none 0 0, .slice none 0 0, .slice none 0 0] 26 29
  have hsz : w.heap.size ≤ ((w.alloc (.cells #[.int .i64 q.c, .int .i64 q.a, .int .i64 q.n, .slice Ao lo co, .slice As ls cs, .slice Ap lp cp] 26)).alloc (.cells #[.int .i64 x, .slice none 0 0, .slice none 0 0, .slice none 0 0] 29)).heap.size := t0.bel.size
  have HC := Lib.hid (rpCheck_any q ⟨x, [], [], []⟩ Ao As Ap none none none lo ls lp co cs cp 0 0 0 0 0 0 _ ((h.below t0.bel).more hsz) (Repd.zero _ _ x) hb)
  have hz : chkR q ⟨x, [], [], []⟩ = 0 := by
    unfold chkR
    rw [if_neg (show ¬ chkQ q ≠ 0 by rw [hk]; simp), if_pos (show x ≠ 0 by omega), if_pos hx]
    rfl
  rw [hz] at HC
  have hcr := mm_le _ (chk_code hk)
  have u1 : (x != 0) = true := by simp; omega
  have u2 : (x == 0) = false := beq_false_of_ne (by omega)
  have e1 : IntKind.i64.wrap (q.c + 128) = q.c + 128 := IntWalk.i64_in _ (by omega)
  have e2 : IntKind.u8.wrap (q.c + 128) = q.c + 128 := by rw [IntKind.wrap_u8]; omega
  have e3 : IntKind.u8.wrap x = x := by rw [IntKind.wrap_u8]; omega
  clear h hk hz
  go_enter Try.func16, Try.ntmps16
  go_wp2_with fail
  refine HC.out.mono ?_
  rintro e w1 ⟨rfl, b1⟩
  have t1 := t0.below b1
  have hlt := t1.lt
  clear b1 t0 HC hsz
  obtain ⟨d0, d1, d2, d3, d4⟩ := t1.c4
  obtain ⟨r0, r1, r2, r3, r4, r5, r6⟩ := t1.r6
  go_wp2
  go_ret2
  exact ⟨w1.heap.size, by omega, rfl, heap_alloc_new w1 (.cells (blk .u8 [q.c + 128, x]) 5), t1.bel.alloc (by omega) _⟩
end Go.Proofs.Ytfdikjfbmfibjaa
namespace Go.Proofs.Ytfdikjfbmfibjaa
open Go.RowKit
set_option linter.unusedVariables false

set_option maxHeartbeats 1000000 in
theorem rpCounted_any (c : Int) (A : Option Addr) (m cap : Nat) (ys : List Int) (w : World) (hr : Row .u8 w w.heap.size A ys) (hm : ys.length = m) (hm2 : m ≤ 255) (hc : 0 ≤ c ∧ c < 256) :
    Calls Try.prog 85 #[.int .i64 c, .slice A m cap] w (Makes .u8 5 w (c :: (m : Int) :: ys)) := by
  have e1 : IntKind.u8.wrap c = c := by rw [IntKind.wrap_u8]; omega
  have e2 : IntKind.u8.wrap (m : Int) = m := by rw [IntKind.wrap_u8]; omega
  have HR := Lib.hid (hr.alloc (Nat.le_refl _) (.cells (blk .u8 [c, (m : Int)]) 5))
  have HM := Lib.hid hm
  have hown := Own.laid (k := .u8) (base := w.heap.size) (n := 2) (heap_alloc_new w (.cells (blk .u8 [c, (m : Int)]) 5)) (Nat.le_refl _) (show [c, (m : Int)].length = 2 from rfl) (by simp [maxLen])
  have bel := bel_alloc w (.cells (blk .u8 [c, (m : Int)]) 5)
  clear hr hm
  go_enter Try.func85, Try.ntmps85
  go_wp2_with (at_builtin; refine wpList_append_row _ rfl (.tmp 10) (.tmp 11) 36 rfl w.heap.size .u8 5 1 Try.underlying36 info_u8 (.slice (some ⟨w.heap.size, 0, none⟩) 2 2) [c, (m : Int)] rfl hown _ _ m cap ys rfl HR.out HM.out (by simp; omega) (by simp [maxLen]; omega) (by simp) ?_; intro v1 w1 hown1 hg1)
  go_ret
  exact ⟨_, rfl, hown1, Below.own bel (by simp) hown hg1⟩

theorem Bytes_row (A : Option Addr) (n c z : Nat) (xs : List Int) (W : World) (hz : W.heap.size = z) (hr : Row .u16 W z A xs) (hn : xs.length = n) (hb : n ≤ 1000000) :
    Calls Try.prog 87 #[.slice A n c] W fun e w' => e = .returned (.slice (some ⟨z, 0, none⟩) (2 * n) (2 * n)) ∧ w'.heap[z]? = some (.cells (blk .u8 (wbytes xs)) 5 (0, 0)) ∧ Below z W w' := by
  subst hz; exact Bytes_any A n c xs W hr hn hb
theorem TB.below2 {w0 w w' : World} {B z : Nat} {o1 o2 : Obj} (h : TB w0 B o1 o2 w) (hb : Below z w w') (hz : B + 1 < z) : TB w0 B o1 o2 w' :=
  ⟨(hb.block B (by omega)).trans h.ret, (hb.block (B + 1) hz).trans h.box, h.bel.trans (hb.mono (by omega))⟩

set_option maxHeartbeats 1000000 in
set_option maxRecDepth 100000 in
theorem rpForm_words (q : Req) (r : Rep) (Ao As Ap Bo Bs Bf : Option Addr) (lo ls lp co cs cp mo ms mf eo es ef : Nat) (w : World) (h : Asked w w.heap.size q Ao As Ap lo ls lp) (hr : Repd w w.heap.size r Bo Bs Bf mo ms mf) (hc : q.c = 3 ∨ q.c = 4) (hm : ms ≤ 125) :
    Calls Try.prog 48 #[.agg #[.int .i64 q.c, .int .i64 q.a, .int .i64 q.n, .slice Ao lo co, .slice As ls cs, .slice Ap lp cp], .agg #[.int .i64 r.x, .slice Bo mo eo, .slice Bs ms es, .slice Bf mf ef]] w (Makes .u8 5 w (q.c :: 2 * (ms : Int) :: wbytes r.set)) := by
  obtain ⟨c, a, n, on, set, fl⟩ := q
  simp only at *
  have t0 := TB.new2 w #[.int .i64 c, .int .i64 a, .int .i64 n, .slice Ao lo co, .slice As ls cs, .slice Ap lp cp] #[.int .i64 r.x, .slice Bo mo eo, .slice Bs ms es, .slice Bf mf ef] 26 29
  have HSET := Lib.hid hr.set
  have HMS := Lib.hid hr.ms
  have HWL : Hid ((wbytes r.set).length = 2 * ms) := Lib.hid (by rw [wbytes_length, hr.ms])
  have hcast : ((2 * ms : Nat) : Int) = 2 * (ms : Int) := by omega
  obtain ⟨m2, hm2⟩ : ∃ m2, 2 * ms = m2 := ⟨_, rfl⟩
  rw [hm2] at HWL hcast
  rw [← hcast]
  have hm3 : m2 ≤ 255 := by omega
  have HM2 := Lib.hid hm2
  clear h hr hm2 hcast
  rcases hc with rfl | rfl
  · go_enter Try.func48, Try.ntmps48
    go_wp2_with fail
    go_region_held3 (fun w' => TB w w.heap.size (.cells #[.int .i64 3, .int .i64 a, .int .i64 n, .slice Ao lo co, .slice As ls cs, .slice Ap lp cp] 26 (0, 0)) (.cells #[.int .i64 r.x, .slice Bo mo eo, .slice Bs ms es, .slice Bf mf ef] 29 (0, 0)) w' ∧ w'.cell? ⟨w.heap.size, 0, none⟩ = some (.int .i64 3) ∧ w'.cell? ⟨w.heap.size + 1, 0, none⟩ = some (.int .i64 r.x) ∧ w'.cell? ⟨w.heap.size + 1, 1, none⟩ = some (.slice Bo mo eo) ∧ w'.cell? ⟨w.heap.size + 1, 2, none⟩ = some (.slice Bs ms es) ∧ w'.cell? ⟨w.heap.size + 1, 3, none⟩ = some (.slice Bf mf ef))
      ((first
        | exact ⟨t0.drew, t0.drew.r6.1, t0.drew.c4.1, t0.drew.c4.2.1, t0.drew.c4.2.2.1, t0.drew.c4.2.2.2.1⟩
        | exact ⟨t2, t2.r6.1, t2.c4.1, t2.c4.2.1, t2.c4.2.2.1, t2.c4.2.2.2.1⟩
        | exact ⟨t1, t1.r6.1, t1.c4.1, t1.c4.2.1, t1.c4.2.2.1, t1.c4.2.2.2.1⟩))
      (first
        | (go_at_call 87; refine (Bytes_row Bs ms es (w.heap.size + 1 + 1) r.set _ (by simp) ((HSET.out.below t0.drew.bel).more (by omega)) HMS.out (by omega)).mono ?_; rintro e w1 ⟨rfl, g1, b1⟩; rw [HM2.out]; have t1 := t0.drew.below2 b1 (by omega); have hg1 := block_lt g1)
        | (go_at_call 85; refine (rpCounted_any _ _ m2 m2 (wbytes r.set) _ ((Row.of_block g1 (wbytes r.set) (wbytes_wf r.set) (List.prefix_refl _)).more hg1) HWL.out hm3 (by omega)).mono ?_; rintro e w2 ⟨v2, rfl, own2, b2⟩; have t2 := t1.below b2))
    go_wp2
    go_ret
    exact ⟨_, rfl, own2.mono (by have := t1.lt; omega), t2.bel⟩
  · go_enter Try.func48, Try.ntmps48
    go_wp2_with fail
    go_region_held3 (fun w' => TB w w.heap.size (.cells #[.int .i64 4, .int .i64 a, .int .i64 n, .slice Ao lo co, .slice As ls cs, .slice Ap lp cp] 26 (0, 0)) (.cells #[.int .i64 r.x, .slice Bo mo eo, .slice Bs ms es, .slice Bf mf ef] 29 (0, 0)) w' ∧ w'.cell? ⟨w.heap.size, 0, none⟩ = some (.int .i64 4) ∧ w'.cell? ⟨w.heap.size + 1, 0, none⟩ = some (.int .i64 r.x) ∧ w'.cell? ⟨w.heap.size + 1, 1, none⟩ = some (.slice Bo mo eo) ∧ w'.cell? ⟨w.heap.size + 1, 2, none⟩ = some (.slice Bs ms es) ∧ w'.cell? ⟨w.heap.size + 1, 3, none⟩ = some (.slice Bf mf ef))
      ((first
        | exact ⟨t0.drew, t0.drew.r6.1, t0.drew.c4.1, t0.drew.c4.2.1, t0.drew.c4.2.2.1, t0.drew.c4.2.2.2.1⟩
        | exact ⟨t2, t2.r6.1, t2.c4.1, t2.c4.2.1, t2.c4.2.2.1, t2.c4.2.2.2.1⟩
        | exact ⟨t1, t1.r6.1, t1.c4.1, t1.c4.2.1, t1.c4.2.2.1, t1.c4.2.2.2.1⟩))
      (first
        | (go_at_call 87; refine (Bytes_row Bs ms es (w.heap.size + 1 + 1) r.set _ (by simp) ((HSET.out.below t0.drew.bel).more (by omega)) HMS.out (by omega)).mono ?_; rintro e w1 ⟨rfl, g1, b1⟩; rw [HM2.out]; have t1 := t0.drew.below2 b1 (by omega); have hg1 := block_lt g1)
        | (go_at_call 85; refine (rpCounted_any _ _ m2 m2 (wbytes r.set) _ ((Row.of_block g1 (wbytes r.set) (wbytes_wf r.set) (List.prefix_refl _)).more hg1) HWL.out hm3 (by omega)).mono ?_; rintro e w2 ⟨v2, rfl, own2, b2⟩; have t2 := t1.below b2))
    go_wp2
    go_ret
    exact ⟨_, rfl, own2.mono (by have := t1.lt; omega), t2.bel⟩

/-- The function that takes the next bytes. -/
theorem take_any (b o n c k g : Nat) (w : World) (hg : w.heap[g]? = some (.cells #[.slice (some ⟨b, o, none⟩) n c] 36 (0, 0))) (hn : n ≤ c) (hk : k ≤ n) (hb : c ≤ 9223372036854775807) :
    Calls Try.prog 119 #[.int .i64 k, .pointer (some ⟨g, 0, none⟩)] w fun e w' => e = .returned (.slice (some ⟨b, o, none⟩) k c) ∧ ∃ A', (k < c → A' = some ⟨b, o + k, none⟩) ∧ w' = w.setCell ⟨g, 0, none⟩ (.slice A' (n - k) (c - k)) := by
  have d0 : w.cell? ⟨g, 0, none⟩ = some (.slice (some ⟨b, o, none⟩) n c) := cell_of_row w g 0 _ _ _ hg
  have d1 : ∀ i, w.frozen? ⟨g, i, none⟩ = false := fun i => block_frozen w g i _ _ hg
  have i1 : (0 : Int) ≤ (k : Int) := by omega
  have i2 : (k : Int) ≤ (c : Int) := by omega
  have i3 : (k : Int) ≤ (n : Int) := by omega
  by_cases hkc : k = c
  · obtain rfl : n = c := by omega
    subst hkc
    go_enter Try.func119, Try.ntmps119
    go_wp2
    go_ret
    exact ⟨rfl, some ⟨b, o, none⟩, fun h => absurd h (by omega), by rw [Nat.sub_self]⟩
  · go_enter Try.func119, Try.ntmps119
    go_wp2
    go_ret
    exact ⟨rfl, _, fun _ => rfl, rfl⟩
end Go.Proofs.Ytfdikjfbmfibjaa
namespace Go.Proofs.Ytfdikjfbmfibjaa
open Go.RowKit
set_option linter.unusedVariables false

set_option maxHeartbeats 1000000 in
theorem rpPut_words (q : Req) (r : Rep) (Ao As Ap Bo Bs Bf : Option Addr) (lo ls lp co cs cp mo ms mf eo es ef : Nat) (w : World) (h : Asked w w.heap.size q Ao As Ap lo ls lp) (hr : Repd w w.heap.size r Bo Bs Bf mo ms mf) (hb : lp ≤ 100000) (hk : chkR q r = 0) (hx : r.x = 0) (hc : q.c = 3 ∨ q.c = 4) (hm : ms ≤ 125) :
    Calls Try.prog 16 #[.agg #[.int .i64 q.c, .int .i64 q.a, .int .i64 q.n, .slice Ao lo co, .slice As ls cs, .slice Ap lp cp], .agg #[.int .i64 r.x, .slice Bo mo eo, .slice Bs ms es, .slice Bf mf ef]] w fun e w' => ∃ v', e = .returned (.tuple #[v', .int .i64 0]) ∧ Own .u8 5 w' w.heap.size v' (q.c :: 2 * (ms : Int) :: wbytes r.set) ∧ Below w.heap.size w w' := by
  have t0 := TB.new2 w #[.int .i64 q.c, .int .i64 q.a, .int .i64 q.n, .slice Ao lo co, .slice As ls cs, .slice Ap lp cp] #[.int .i64 r.x, .slice Bo mo eo, .slice Bs ms es, .slice Bf mf ef] 26 29
  have hsz : w.heap.size ≤ ((w.alloc (.cells #[.int .i64 q.c, .int .i64 q.a, .int .i64 q.n, .slice Ao lo co, .slice As ls cs, .slice Ap lp cp] 26)).alloc (.cells #[.int .i64 r.x, .slice Bo mo eo, .slice Bs ms es, .slice Bf mf ef] 29)).heap.size := t0.bel.size
  have H := Lib.hid ((h.below t0.bel).more hsz)
  have HR := Lib.hid ((hr.below t0.bel).more hsz)
  have HC := Lib.hid (rpCheck_any q r Ao As Ap Bo Bs Bf lo ls lp co cs cp mo ms mf eo es ef _ H.out HR.out hb)
  rw [hk] at HC
  have u1 : (r.x != 0) = false := by simp [hx]
  have u2 : (r.x == 0) = true := by simp [hx]
  have HCC := Lib.hid hc
  clear h hr hk hx hc
  go_enter Try.func16, Try.ntmps16
  go_wp2_with fail
  refine HC.out.mono ?_
  rintro e w1 ⟨rfl, b1⟩
  have t1 := t0.below b1
  have hlt := t1.lt
  have HF := Lib.hid (rpForm_words q r Ao As Ap Bo Bs Bf lo ls lp co cs cp mo ms mf eo es ef w1 (H.out.up b1) (HR.out.up b1) HCC.out hm)
  clear b1 t0 HC hsz
  obtain ⟨d0, d1, d2, d3, d4⟩ := t1.c4
  obtain ⟨r0, r1, r2, r3, r4, r5, r6⟩ := t1.r6
  go_wp2_with fail
  refine HF.out.mono ?_
  rintro e w2 ⟨v2, rfl, own2, b2⟩
  have t2 := t1.below b2
  go_wp2
  go_ret2
  exact ⟨_, rfl, own2.mono (by omega), t2.bel⟩

set_option maxHeartbeats 1000000 in
theorem rpSize_words (c a : Int) (n : Nat) (Ao As Ap : Option Addr) (lo co ls cs lp cp : Nat) (w : World) (hc : c = 3 ∨ c = 4) (hn : n ≤ 1000) :
    Calls Try.prog 94 #[.agg #[.int .i64 c, .int .i64 a, .int .i64 n, .slice Ao lo co, .slice As ls cs, .slice Ap lp cp]] w fun e w' => e = .returned (.int .i64 ((2 + 2 * n : Nat) : Int)) ∧ Below w.heap.size w w' := by
  have e1 : IntKind.i64.wrap (2 * (n : Int)) = 2 * (n : Int) := IntWalk.i64_in _ (by omega)
  have e2 : IntKind.i64.wrap (2 + 2 * (n : Int)) = 2 + 2 * (n : Int) := IntWalk.i64_in _ (by omega)
  rw [show ((2 + 2 * n : Nat) : Int) = 2 + 2 * (n : Int) by omega]
  have bel := bel_alloc w (.cells #[.int .i64 c, .int .i64 a, .int .i64 n, .slice Ao lo co, .slice As ls cs, .slice Ap lp cp] 26)
  rcases hc with rfl | rfl
  all_goals
    go_enter Try.func94, Try.ntmps94
    go_wp2
    go_ret
    exact ⟨rfl, bel⟩

theorem taker_any (A : Option Addr) (n c : Nat) (w : World) :
    Calls Try.prog 113 #[.slice A n c] w fun e w' => e = .returned (.func (.func 119) #[] #[.pointer (some ⟨w.heap.size, 0, none⟩)]) ∧ w' = w.alloc (.cells #[.slice A n c] 36) := by
  go_enter Try.func113, Try.ntmps113
  go_wp2
  go_ret
  exact ⟨rfl, rfl⟩

theorem take_at (b o n c k g : Nat) (z : Int) (hz : z = k) (w : World) (hg : w.heap[g]? = some (.cells #[.slice (some ⟨b, o, none⟩) n c] 36 (0, 0))) (hn : n ≤ c) (hk : k ≤ n) (hb : c ≤ 9223372036854775807) :
    Calls Try.prog 119 #[.int .i64 z, .pointer (some ⟨g, 0, none⟩)] w fun e w' => e = .returned (.slice (some ⟨b, o, none⟩) k c) ∧ ∃ A', (k < c → A' = some ⟨b, o + k, none⟩) ∧ w' = w.setCell ⟨g, 0, none⟩ (.slice A' (n - k) (c - k)) := by
  subst hz; exact take_any b o n c k g w hg hn hk hb
theorem TB.far {w0 w : World} {B g : Nat} {o1 o2 : Obj} (h : TB w0 B o1 o2 w) (hg : B + 1 < g) (i : Nat) (v : Value) : TB w0 B o1 o2 (w.setCell ⟨g, i, none⟩ v) :=
  ⟨(Below.heap_setCell w ⟨g, i, none⟩ v B (by simp; omega)).trans h.ret, (Below.heap_setCell w ⟨g, i, none⟩ v (B + 1) (by simp; omega)).trans h.box, below_setCell h.bel (by omega) i v⟩
theorem put4_other {w : World} {g j : Nat} (h : j ≠ g) (v0 v1 v2 v3 : Value) : (put4 w g v0 v1 v2 v3).heap[j]? = w.heap[j]? := by
  unfold put4
  rw [Below.heap_setCell _ ⟨g, 3, none⟩ v3 j (by simpa using h), Below.heap_setCell _ ⟨g, 2, none⟩ v2 j (by simpa using h), Below.heap_setCell _ ⟨g, 1, none⟩ v1 j (by simpa using h), Below.heap_setCell _ ⟨g, 0, none⟩ v0 j (by simpa using h)]

set_option maxHeartbeats 2000000 in
set_option maxRecDepth 100000 in
theorem rpRead_words (c a : Int) (n : Nat) (Ao As Ap : Option Addr) (lo co ls cs lp cp : Nat) (b o m cap : Nat) (ys : List Int) (w : World) (hc : c = 3 ∨ c = 4) (hr : Row .u8 w w.heap.size (some ⟨b, o, none⟩) ys) (hy : ys.length = m) (hm : m = 2 + 2 * n) (hn : 1 ≤ n ∧ n ≤ 125) (hcap : m ≤ cap) (hcb : cap ≤ 9223372036854775807) (h1 : nth ys 1 = 2 * (n : Int)) :
    Calls Try.prog 95 #[.agg #[.int .i64 c, .int .i64 a, .int .i64 n, .slice Ao lo co, .slice As ls cs, .slice Ap lp cp], .slice (some ⟨b, o, none⟩) m cap] w fun e w' => ∃ g, w.heap.size ≤ g ∧ e = .returned (.tuple #[.agg #[.int .i64 0, .slice none 0 0, .slice (some ⟨g, 0, none⟩) n n, .slice none 0 0], .bool true]) ∧ w'.heap[g]? = some (.cells (blk .u16 (wwords (ys.drop 2))) 90 (0, 0)) ∧ Below w.heap.size w w' := by
  have HR := Lib.hid hr
  have HY := Lib.hid hy
  have HM := Lib.hid hm
  have HW : Hid (wrB c = false) := Lib.hid (decide_eq_false (by omega))
  obtain ⟨b', o', hA, hbB, hcell⟩ := hr.at_ (i := 1) (by omega)
  injection hA with hA
  injection hA with hA1 hA2
  subst hA1 hA2
  rw [h1] at hcell
  have t0 := TB.new2 w #[.int .i64 c, .int .i64 a, .int .i64 n, .slice Ao lo co, .slice As ls cs, .slice Ap lp cp] #[.int .i64 0, .slice none 0 0, .slice none 0 0, .slice none 0 0] 26 29
  have e0 : IntKind.i64.wrap (2 * (n : Int)) = 2 * (n : Int) := IntWalk.i64_in _ (by omega)
  have em : (m : Int) - 2 = 2 * (n : Int) := by omega
  have em1 : IntKind.i64.wrap ((m : Int) - 2) = 2 * (n : Int) := by rw [IntWalk.i64_in _ (by omega)]; omega
  have tn : (2 * (n : Int) != 2 * (n : Int)) = false := by simp
  have hm2 : 1 < m := by omega
  have HC1 := Lib.hid hcell
  clear hr hy hm h1 hcell
  rcases hc with rfl | rfl
  all_goals
    go_enter Try.func95, Try.ntmps95
    go_wp2_with fail
    refine (Writes_any _ a n Ao As Ap lo co ls cs lp cp _).mono ?_
    rintro e w1 ⟨rfl, b1⟩
    rw [HW.out]
    have t1 := t0.below b1
    clear t0 b1
    go_wp2_with fail
    refine (taker_any (some ⟨b, o, none⟩) m cap _).mono ?_
    rintro e w2' ⟨rfl, rfl⟩
    have t2 := t1.alloc (.cells #[.slice (some ⟨b, o, none⟩) m cap] 36)
    have hg2 := Lib.hid (heap_alloc_new w1 (.cells #[.slice (some ⟨b, o, none⟩) m cap] 36))
    have hz := t1.lt
    generalize w1.heap.size = g at *
    clear t1
    generalize w1.alloc (.cells #[.slice (some ⟨b, o, none⟩) m cap] 36) = w2 at *
    go_wp2_with fail
    refine (take_any b o m cap 2 g _ hg2.out hcap (by omega) hcb).mono ?_
    rintro e w3' ⟨rfl, A', hA', rfl⟩
    obtain rfl := hA' (by have := HM.out; omega)
    clear hA'
    have t3 := t2.far hz 0 (.slice (some ⟨b, o + 2, none⟩) (m - 2) (cap - 2))
    have hg3 : (w2.setCell ⟨g, 0, none⟩ (.slice (some ⟨b, o + 2, none⟩) (m - 2) (cap - 2))).heap[g]? = some (.cells #[.slice (some ⟨b, o + 2, none⟩) (m - 2) (cap - 2)] 36 (0, 0)) := box_set hg2.out 0 _
    have hc3 := (t3.bel.cell (p := ⟨b, o + 1, none⟩) hbB).trans HC1.out
    clear t2 hg2
    generalize w2.setCell ⟨g, 0, none⟩ (.slice (some ⟨b, o + 2, none⟩) (m - 2) (cap - 2)) = w3 at *
    have HG3 := Lib.hid hg3
    clear hg3
    obtain ⟨d0, d1, d2, d3, d4⟩ := t3.c4
    obtain ⟨r0, r1, r2, r3, r4, r5, r6⟩ := t3.r6
    go_wp2_with fail
    refine (take_at b (o + 2) (m - 2) (cap - 2) (2 * n) g _ (by omega) _ HG3.out (by omega) (by have := HM.out; omega) (by omega)).mono ?_
    rintro e w4' ⟨rfl, A', _, rfl⟩
    have t4 := t3.far hz 0 (.slice A' (m - 2 - 2 * n) (cap - 2 - 2 * n))
    have hz4 := t4.lt
    have HR4 := Lib.hid (((HR.out.drop 2).tb t4).more (Nat.le_of_lt (Nat.lt_of_succ_lt hz4)))
    clear t3 hc3 d0 d1 d2 d3 d4 r0 r1 r2 r3 r4 r5 r6 HG3
    generalize w3.setCell ⟨g, 0, none⟩ (.slice A' (m - 2 - 2 * n) (cap - 2 - 2 * n)) = w4 at *
    go_wp2_with fail
    refine (Words_ok _ (2 * n) (cap - 2) n (ys.drop 2) _ HR4.out (by rw [List.length_drop, HY.out, HM.out]; omega) (by have := HM.out; omega) (by omega) rfl).mono ?_
    rintro e w5' ⟨rfl, rfl⟩
    have t5 := t4.alloc (.cells (blk .u16 (wwords (ys.drop 2))) 90)
    have hn5 := Lib.hid (heap_alloc_new w4 (.cells (blk .u16 (wwords (ys.drop 2))) 90))
    clear t4 HR4
    generalize w4.heap.size = g5 at *
    generalize w4.alloc (.cells (blk .u16 (wwords (ys.drop 2))) 90) = w5 at *
    have P5 := Lib.hid (t5.put4 (.int .i64 0) (.slice none 0 0) (.slice (some ⟨g5, 0, none⟩) n n) (.slice none 0 0))
    have P6 := Lib.hid ((put4_other (w := w5) (g := w.heap.size + 1) (j := g5) (by omega) (.int .i64 0) (.slice none 0 0) (.slice (some ⟨g5, 0, none⟩) n n) (.slice none 0 0)).trans hn5.out)
    obtain ⟨d0, d1, d2, d3, d4⟩ := t5.c4
    go_wp2
    (try simp only [Exit.inBlock, Exit.then])
    show bodyPost _ _ _ _ _ (put4 (w5) (w.heap.size + 1) (.int .i64 0) (.slice none 0 0) (.slice (some ⟨g5, 0, none⟩) n n) (.slice none 0 0))
    generalize put4 (w5) (w.heap.size + 1) (.int .i64 0) (.slice none 0 0) (.slice (some ⟨g5, 0, none⟩) n n) (.slice none 0 0) = w6 at *
    obtain ⟨x0, x1, x2, x3⟩ := cells4 P5.out.1
    refine bodyPost_ret (v := .tuple #[.agg #[.int .i64 0, .slice none 0 0, .slice (some ⟨g5, 0, none⟩) n n, .slice none 0 0], .bool true]) (by simp [results, Try.results95, go_sem, x0, x1, x2, x3]) rfl ?_
    exact ⟨g5, by omega, rfl, P6.out, P5.out.2⟩
end Go.Proofs.Ytfdikjfbmfibjaa
