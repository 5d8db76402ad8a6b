/-
  Texts of the proof of PlanValues, joined.
-/
import Derived.Test.YtcmbdhmhkfhjfaaGreatJPlanValuesH
import Derived.Test.YtcmbdhmhkfhjfaaGreatJPlanValuesA
import Derived.Laws.AppendOwn
import Derived.Test.YtcmbdhmhkfhjfaaGreatJPlanValuesC
import Derived.Test.YtcmbdhmhkfhjfaaGreatRows
namespace Go.Proofs.YtcmbdhmhkfhjfaaGreat
open Go.RowKit
set_option linter.unusedVariables false

set_option maxHeartbeats 4000000 in
set_option maxRecDepth 100000 in
theorem refRp_bits (q : Req) (r : Rep) (Ao As Ap Bo Bs Bf : Option Addr) (lo ls lp co cs cp mo ms mf eo es ef : Nat) (w : World) (h : Asked w w.heap.size q Ao As Ap lo ls lp) (hr : Repd w w.heap.size r Bo Bs Bf mo ms mf) (hb : lp ≤ 100000) (hk : chkQ q = 0) (hx : r.x = 0) (hc : q.c = 1 ∨ q.c = 2) :
    Calls Tryz.prog 30 #[.agg #[.int .i64 q.c, .int .i64 q.a, .int .i64 q.n, .slice Ao lo co, .slice As ls cs, .slice Ap lp cp], .agg #[.int .i64 r.x, .slice Bo mo eo, .slice Bs ms es, .slice Bf mf ef]] w fun e w' => e = .returned (.int .i64 (chkR q r)) ∧ Below w.heap.size w w' := by
  have tb := TB.new2 w #[.int .i64 q.c, .int .i64 q.a, .int .i64 q.n, .slice Ao lo co, .slice As ls cs, .slice Ap lp cp] #[.int .i64 r.x, .slice Bo mo eo, .slice Bs ms es, .slice Bf mf ef] 68 30
  have hsz : w.heap.size ≤ ((w.alloc (.cells #[.int .i64 q.c, .int .i64 q.a, .int .i64 q.n, .slice Ao lo co, .slice As ls cs, .slice Ap lp cp] 68)).alloc (.cells #[.int .i64 r.x, .slice Bo mo eo, .slice Bs ms es, .slice Bf mf ef] 30)).heap.size := tb.bel.size
  have H0 := Lib.hid h
  have HR0 := Lib.hid hr
  have H := Lib.hid ((h.below tb.bel).more hsz)
  obtain ⟨E, hE⟩ : ∃ E, Hid (chkR q r = E) := ⟨_, Lib.hid rfl⟩
  rw [hE.out]
  have HMO := Lib.hid hr.mo
  have HMS := Lib.hid hr.ms
  have HMF := Lib.hid hr.mf
  have HC := Lib.hid (refCheck_any q Ao As Ap lo ls lp co cs cp _ H.out)
  rw [chkQ_of H.out, hk] at HC
  have HB : Hid (clB q.c = true) := Lib.hid (decide_eq_true hc)
  have HW : Hid (clW q.c = false) := Lib.hid (decide_eq_false (by omega))
  have HF : Hid (clF q.c = false) := Lib.hid (decide_eq_false (by omega))
  have HS : Hid (strayB q.c mo ms mf = anyB 0 ms mf) := Lib.hid (by unfold strayB; rw [if_pos hc, if_neg (show ¬ (q.c = 3 ∨ q.c = 4) by omega), if_neg (show ¬ (q.c = 20) by omega)])
  have HM2 : Hid (manyB q r = decide ((mo : Int) = q.n)) := Lib.hid (by unfold manyB; rw [if_pos hc, HMO.out])
  have HE : Hid (E = if strayB q.c mo ms mf = true then 23 else if manyB q r = false then 22 else 0) := Lib.hid (by
    rw [← hE.out]; unfold chkR; rw [if_neg (show ¬ chkQ q ≠ 0 by rw [hk]; simp), if_neg (show ¬ r.x ≠ 0 by simp [hx]), HMO.out, HMS.out, HMF.out])
  have u1 : (r.x != 0) = false := by simp [hx]
  have u2 : (r.x == 0) = true := by simp [hx]
  clear h hr hk hx hE H hc
  by_cases g1 : 0 < mo
  · have g1' : (0 : Int) < (mo : Int) := by omega
    by_cases g2 : 0 < ms
    · have g2' : (0 : Int) < (ms : Int) := by omega
      by_cases g3 : 0 < mf
      · have g3' : (0 : Int) < (mf : Int) := by omega
        have hl : Hid (E = 23) := Lib.hid (by rw [HE.out, HS.out, if_pos (by simp [anyB]; omega)])
        clear HE HS
        go_enter Tryz.func30, Tryz.ntmps30
        go_wp2_with fail
        refine HC.out.mono ?_
        rintro e w1 ⟨rfl, b1⟩
        have tb := tb.below b1
        clear b1
        obtain ⟨d0, d1, d2, d3, d4⟩ := tb.c4; obtain ⟨r0, r1, r2, r3, r4, r5, r6⟩ := tb.r6
        go_wp2_with (first | (go_at_call 58; refine (refKindBits_any q.c q.a q.n Ao As Ap lo co ls cs lp cp _).mono ?_; rintro e w9 ⟨rfl, b9⟩; rw [HB.out]; have tb := tb.below b9; obtain ⟨d0, d1, d2, d3, d4⟩ := tb.c4; obtain ⟨r0, r1, r2, r3, r4, r5, r6⟩ := tb.r6) | (go_at_call 59; refine (refWords_kind q.c q.a q.n Ao As Ap lo co ls cs lp cp _).mono ?_; rintro e w9 ⟨rfl, b9⟩; rw [HW.out]; have tb := tb.below b9; obtain ⟨d0, d1, d2, d3, d4⟩ := tb.c4; obtain ⟨r0, r1, r2, r3, r4, r5, r6⟩ := tb.r6) | (go_at_call 60; refine (refFiles_kind q.c q.a q.n Ao As Ap lo co ls cs lp cp _).mono ?_; rintro e w9 ⟨rfl, b9⟩; rw [HF.out]; have tb := tb.below b9; obtain ⟨d0, d1, d2, d3, d4⟩ := tb.c4; obtain ⟨r0, r1, r2, r3, r4, r5, r6⟩ := tb.r6))
        go_ret
        exact ⟨by rw [hl.out]; rfl, tb.bel⟩
      · have g3' : ¬ (0 : Int) < (mf : Int) := by omega
        have hl : Hid (E = 23) := Lib.hid (by rw [HE.out, HS.out, if_pos (by simp [anyB]; omega)])
        clear HE HS
        go_enter Tryz.func30, Tryz.ntmps30
        go_wp2_with fail
        refine HC.out.mono ?_
        rintro e w1 ⟨rfl, b1⟩
        have tb := tb.below b1
        clear b1
        obtain ⟨d0, d1, d2, d3, d4⟩ := tb.c4; obtain ⟨r0, r1, r2, r3, r4, r5, r6⟩ := tb.r6
        go_wp2_with (first | (go_at_call 58; refine (refKindBits_any q.c q.a q.n Ao As Ap lo co ls cs lp cp _).mono ?_; rintro e w9 ⟨rfl, b9⟩; rw [HB.out]; have tb := tb.below b9; obtain ⟨d0, d1, d2, d3, d4⟩ := tb.c4; obtain ⟨r0, r1, r2, r3, r4, r5, r6⟩ := tb.r6) | (go_at_call 59; refine (refWords_kind q.c q.a q.n Ao As Ap lo co ls cs lp cp _).mono ?_; rintro e w9 ⟨rfl, b9⟩; rw [HW.out]; have tb := tb.below b9; obtain ⟨d0, d1, d2, d3, d4⟩ := tb.c4; obtain ⟨r0, r1, r2, r3, r4, r5, r6⟩ := tb.r6) | (go_at_call 60; refine (refFiles_kind q.c q.a q.n Ao As Ap lo co ls cs lp cp _).mono ?_; rintro e w9 ⟨rfl, b9⟩; rw [HF.out]; have tb := tb.below b9; obtain ⟨d0, d1, d2, d3, d4⟩ := tb.c4; obtain ⟨r0, r1, r2, r3, r4, r5, r6⟩ := tb.r6))
        go_ret
        exact ⟨by rw [hl.out]; rfl, tb.bel⟩
    · have g2' : ¬ (0 : Int) < (ms : Int) := by omega
      by_cases g3 : 0 < mf
      · have g3' : (0 : Int) < (mf : Int) := by omega
        have hl : Hid (E = 23) := Lib.hid (by rw [HE.out, HS.out, if_pos (by simp [anyB]; omega)])
        clear HE HS
        go_enter Tryz.func30, Tryz.ntmps30
        go_wp2_with fail
        refine HC.out.mono ?_
        rintro e w1 ⟨rfl, b1⟩
        have tb := tb.below b1
        clear b1
        obtain ⟨d0, d1, d2, d3, d4⟩ := tb.c4; obtain ⟨r0, r1, r2, r3, r4, r5, r6⟩ := tb.r6
        go_wp2_with (first | (go_at_call 58; refine (refKindBits_any q.c q.a q.n Ao As Ap lo co ls cs lp cp _).mono ?_; rintro e w9 ⟨rfl, b9⟩; rw [HB.out]; have tb := tb.below b9; obtain ⟨d0, d1, d2, d3, d4⟩ := tb.c4; obtain ⟨r0, r1, r2, r3, r4, r5, r6⟩ := tb.r6) | (go_at_call 59; refine (refWords_kind q.c q.a q.n Ao As Ap lo co ls cs lp cp _).mono ?_; rintro e w9 ⟨rfl, b9⟩; rw [HW.out]; have tb := tb.below b9; obtain ⟨d0, d1, d2, d3, d4⟩ := tb.c4; obtain ⟨r0, r1, r2, r3, r4, r5, r6⟩ := tb.r6) | (go_at_call 60; refine (refFiles_kind q.c q.a q.n Ao As Ap lo co ls cs lp cp _).mono ?_; rintro e w9 ⟨rfl, b9⟩; rw [HF.out]; have tb := tb.below b9; obtain ⟨d0, d1, d2, d3, d4⟩ := tb.c4; obtain ⟨r0, r1, r2, r3, r4, r5, r6⟩ := tb.r6))
        go_ret
        exact ⟨by rw [hl.out]; rfl, tb.bel⟩
      · have g3' : ¬ (0 : Int) < (mf : Int) := by omega
        have HEM : Hid (E = if manyB q r = false then 22 else 0) := Lib.hid (by rw [HE.out, HS.out, if_neg (by simp [anyB]; try omega)])
        by_cases he : (mo : Int) = q.n
        · have u3 : ((mo : Int) != q.n) = false := by simp [he]
          have u4 : ((mo : Int) == q.n) = true := by simp [he]
          have HN : Hid (manyB q r = true) := Lib.hid (by rw [HM2.out]; exact decide_eq_true he)
          clear he HE HS
          go_enter Tryz.func30, Tryz.ntmps30
          go_wp2_with fail
          refine HC.out.mono ?_
          rintro e w1 ⟨rfl, b1⟩
          have tb := tb.below b1
          clear b1
          obtain ⟨d0, d1, d2, d3, d4⟩ := tb.c4; obtain ⟨r0, r1, r2, r3, r4, r5, r6⟩ := tb.r6
          go_wp2_with (first | (go_at_call 58; refine (refKindBits_any q.c q.a q.n Ao As Ap lo co ls cs lp cp _).mono ?_; rintro e w9 ⟨rfl, b9⟩; rw [HB.out]; have tb := tb.below b9; obtain ⟨d0, d1, d2, d3, d4⟩ := tb.c4; obtain ⟨r0, r1, r2, r3, r4, r5, r6⟩ := tb.r6) | (go_at_call 59; refine (refWords_kind q.c q.a q.n Ao As Ap lo co ls cs lp cp _).mono ?_; rintro e w9 ⟨rfl, b9⟩; rw [HW.out]; have tb := tb.below b9; obtain ⟨d0, d1, d2, d3, d4⟩ := tb.c4; obtain ⟨r0, r1, r2, r3, r4, r5, r6⟩ := tb.r6) | (go_at_call 60; refine (refFiles_kind q.c q.a q.n Ao As Ap lo co ls cs lp cp _).mono ?_; rintro e w9 ⟨rfl, b9⟩; rw [HF.out]; have tb := tb.below b9; obtain ⟨d0, d1, d2, d3, d4⟩ := tb.c4; obtain ⟨r0, r1, r2, r3, r4, r5, r6⟩ := tb.r6))
          go_loopw [6] (fun i wr => ∃ k : Nat, k ≤ mf ∧ i = .int .i64 k ∧ TB w w.heap.size (.cells #[.int .i64 q.c, .int .i64 q.a, .int .i64 q.n, .slice Ao lo co, .slice As ls cs, .slice Ap lp cp] 68 (0, 0)) (.cells #[.int .i64 r.x, .slice Bo mo eo, .slice Bs ms es, .slice Bf mf ef] 30 (0, 0)) wr ∧ Hid (∀ j, j < k → ((nthF r.fs j).length : Int) = nth q.fl (3 * j + 2))) (fun i _ => mf - (intOf i).toNat)
          case atStart => exact ⟨0, by omega, rfl, tb, Lib.hid (fun j h => by omega)⟩
          case round =>
            clear d0 d1 d2 d3 d4 r0 r1 r2 r3 r4 r5 r6 tb
            obtain ⟨k, hk, rfl, tb, hs⟩ := hrel
            by_cases hlt : k < mf
            · exact absurd hlt (by omega)
            · obtain rfl : k = mf := by omega
              have hl : Hid (E = 0) := Lib.hid (by rw [HEM.out, HN.out]; rfl)
              obtain ⟨d0, d1, d2, d3, d4⟩ := tb.c4; obtain ⟨r0, r1, r2, r3, r4, r5, r6⟩ := tb.r6
              go_wp2
              go_ret
              exact ⟨by rw [hl.out]; rfl, tb.bel⟩
        · have u3 : ((mo : Int) != q.n) = true := by simpa using he
          have u4 : ((mo : Int) == q.n) = false := beq_false_of_ne he
          have HN : Hid (manyB q r = false) := Lib.hid (by rw [HM2.out]; exact decide_eq_false he)
          clear he
          have hl : Hid (E = 22) := Lib.hid (by rw [HEM.out, HN.out]; rfl)
          clear HE HS
          go_enter Tryz.func30, Tryz.ntmps30
          go_wp2_with fail
          refine HC.out.mono ?_
          rintro e w1 ⟨rfl, b1⟩
          have tb := tb.below b1
          clear b1
          obtain ⟨d0, d1, d2, d3, d4⟩ := tb.c4; obtain ⟨r0, r1, r2, r3, r4, r5, r6⟩ := tb.r6
          go_wp2_with (first | (go_at_call 58; refine (refKindBits_any q.c q.a q.n Ao As Ap lo co ls cs lp cp _).mono ?_; rintro e w9 ⟨rfl, b9⟩; rw [HB.out]; have tb := tb.below b9; obtain ⟨d0, d1, d2, d3, d4⟩ := tb.c4; obtain ⟨r0, r1, r2, r3, r4, r5, r6⟩ := tb.r6) | (go_at_call 59; refine (refWords_kind q.c q.a q.n Ao As Ap lo co ls cs lp cp _).mono ?_; rintro e w9 ⟨rfl, b9⟩; rw [HW.out]; have tb := tb.below b9; obtain ⟨d0, d1, d2, d3, d4⟩ := tb.c4; obtain ⟨r0, r1, r2, r3, r4, r5, r6⟩ := tb.r6) | (go_at_call 60; refine (refFiles_kind q.c q.a q.n Ao As Ap lo co ls cs lp cp _).mono ?_; rintro e w9 ⟨rfl, b9⟩; rw [HF.out]; have tb := tb.below b9; obtain ⟨d0, d1, d2, d3, d4⟩ := tb.c4; obtain ⟨r0, r1, r2, r3, r4, r5, r6⟩ := tb.r6))
          go_ret
          exact ⟨by rw [hl.out]; rfl, tb.bel⟩
  · have g1' : ¬ (0 : Int) < (mo : Int) := by omega
    by_cases g2 : 0 < ms
    · have g2' : (0 : Int) < (ms : Int) := by omega
      by_cases g3 : 0 < mf
      · have g3' : (0 : Int) < (mf : Int) := by omega
        have hl : Hid (E = 23) := Lib.hid (by rw [HE.out, HS.out, if_pos (by simp [anyB]; omega)])
        clear HE HS
        go_enter Tryz.func30, Tryz.ntmps30
        go_wp2_with fail
        refine HC.out.mono ?_
        rintro e w1 ⟨rfl, b1⟩
        have tb := tb.below b1
        clear b1
        obtain ⟨d0, d1, d2, d3, d4⟩ := tb.c4; obtain ⟨r0, r1, r2, r3, r4, r5, r6⟩ := tb.r6
        go_wp2_with (first | (go_at_call 58; refine (refKindBits_any q.c q.a q.n Ao As Ap lo co ls cs lp cp _).mono ?_; rintro e w9 ⟨rfl, b9⟩; rw [HB.out]; have tb := tb.below b9; obtain ⟨d0, d1, d2, d3, d4⟩ := tb.c4; obtain ⟨r0, r1, r2, r3, r4, r5, r6⟩ := tb.r6) | (go_at_call 59; refine (refWords_kind q.c q.a q.n Ao As Ap lo co ls cs lp cp _).mono ?_; rintro e w9 ⟨rfl, b9⟩; rw [HW.out]; have tb := tb.below b9; obtain ⟨d0, d1, d2, d3, d4⟩ := tb.c4; obtain ⟨r0, r1, r2, r3, r4, r5, r6⟩ := tb.r6) | (go_at_call 60; refine (refFiles_kind q.c q.a q.n Ao As Ap lo co ls cs lp cp _).mono ?_; rintro e w9 ⟨rfl, b9⟩; rw [HF.out]; have tb := tb.below b9; obtain ⟨d0, d1, d2, d3, d4⟩ := tb.c4; obtain ⟨r0, r1, r2, r3, r4, r5, r6⟩ := tb.r6))
        go_ret
        exact ⟨by rw [hl.out]; rfl, tb.bel⟩
      · have g3' : ¬ (0 : Int) < (mf : Int) := by omega
        have hl : Hid (E = 23) := Lib.hid (by rw [HE.out, HS.out, if_pos (by simp [anyB]; omega)])
        clear HE HS
        go_enter Tryz.func30, Tryz.ntmps30
        go_wp2_with fail
        refine HC.out.mono ?_
        rintro e w1 ⟨rfl, b1⟩
        have tb := tb.below b1
        clear b1
        obtain ⟨d0, d1, d2, d3, d4⟩ := tb.c4; obtain ⟨r0, r1, r2, r3, r4, r5, r6⟩ := tb.r6
        go_wp2_with (first | (go_at_call 58; refine (refKindBits_any q.c q.a q.n Ao As Ap lo co ls cs lp cp _).mono ?_; rintro e w9 ⟨rfl, b9⟩; rw [HB.out]; have tb := tb.below b9; obtain ⟨d0, d1, d2, d3, d4⟩ := tb.c4; obtain ⟨r0, r1, r2, r3, r4, r5, r6⟩ := tb.r6) | (go_at_call 59; refine (refWords_kind q.c q.a q.n Ao As Ap lo co ls cs lp cp _).mono ?_; rintro e w9 ⟨rfl, b9⟩; rw [HW.out]; have tb := tb.below b9; obtain ⟨d0, d1, d2, d3, d4⟩ := tb.c4; obtain ⟨r0, r1, r2, r3, r4, r5, r6⟩ := tb.r6) | (go_at_call 60; refine (refFiles_kind q.c q.a q.n Ao As Ap lo co ls cs lp cp _).mono ?_; rintro e w9 ⟨rfl, b9⟩; rw [HF.out]; have tb := tb.below b9; obtain ⟨d0, d1, d2, d3, d4⟩ := tb.c4; obtain ⟨r0, r1, r2, r3, r4, r5, r6⟩ := tb.r6))
        go_ret
        exact ⟨by rw [hl.out]; rfl, tb.bel⟩
    · have g2' : ¬ (0 : Int) < (ms : Int) := by omega
      by_cases g3 : 0 < mf
      · have g3' : (0 : Int) < (mf : Int) := by omega
        have hl : Hid (E = 23) := Lib.hid (by rw [HE.out, HS.out, if_pos (by simp [anyB]; omega)])
        clear HE HS
        go_enter Tryz.func30, Tryz.ntmps30
        go_wp2_with fail
        refine HC.out.mono ?_
        rintro e w1 ⟨rfl, b1⟩
        have tb := tb.below b1
        clear b1
        obtain ⟨d0, d1, d2, d3, d4⟩ := tb.c4; obtain ⟨r0, r1, r2, r3, r4, r5, r6⟩ := tb.r6
        go_wp2_with (first | (go_at_call 58; refine (refKindBits_any q.c q.a q.n Ao As Ap lo co ls cs lp cp _).mono ?_; rintro e w9 ⟨rfl, b9⟩; rw [HB.out]; have tb := tb.below b9; obtain ⟨d0, d1, d2, d3, d4⟩ := tb.c4; obtain ⟨r0, r1, r2, r3, r4, r5, r6⟩ := tb.r6) | (go_at_call 59; refine (refWords_kind q.c q.a q.n Ao As Ap lo co ls cs lp cp _).mono ?_; rintro e w9 ⟨rfl, b9⟩; rw [HW.out]; have tb := tb.below b9; obtain ⟨d0, d1, d2, d3, d4⟩ := tb.c4; obtain ⟨r0, r1, r2, r3, r4, r5, r6⟩ := tb.r6) | (go_at_call 60; refine (refFiles_kind q.c q.a q.n Ao As Ap lo co ls cs lp cp _).mono ?_; rintro e w9 ⟨rfl, b9⟩; rw [HF.out]; have tb := tb.below b9; obtain ⟨d0, d1, d2, d3, d4⟩ := tb.c4; obtain ⟨r0, r1, r2, r3, r4, r5, r6⟩ := tb.r6))
        go_ret
        exact ⟨by rw [hl.out]; rfl, tb.bel⟩
      · have g3' : ¬ (0 : Int) < (mf : Int) := by omega
        have HEM : Hid (E = if manyB q r = false then 22 else 0) := Lib.hid (by rw [HE.out, HS.out, if_neg (by simp [anyB]; try omega)])
        by_cases he : (mo : Int) = q.n
        · have u3 : ((mo : Int) != q.n) = false := by simp [he]
          have u4 : ((mo : Int) == q.n) = true := by simp [he]
          have HN : Hid (manyB q r = true) := Lib.hid (by rw [HM2.out]; exact decide_eq_true he)
          clear he HE HS
          go_enter Tryz.func30, Tryz.ntmps30
          go_wp2_with fail
          refine HC.out.mono ?_
          rintro e w1 ⟨rfl, b1⟩
          have tb := tb.below b1
          clear b1
          obtain ⟨d0, d1, d2, d3, d4⟩ := tb.c4; obtain ⟨r0, r1, r2, r3, r4, r5, r6⟩ := tb.r6
          go_wp2_with (first | (go_at_call 58; refine (refKindBits_any q.c q.a q.n Ao As Ap lo co ls cs lp cp _).mono ?_; rintro e w9 ⟨rfl, b9⟩; rw [HB.out]; have tb := tb.below b9; obtain ⟨d0, d1, d2, d3, d4⟩ := tb.c4; obtain ⟨r0, r1, r2, r3, r4, r5, r6⟩ := tb.r6) | (go_at_call 59; refine (refWords_kind q.c q.a q.n Ao As Ap lo co ls cs lp cp _).mono ?_; rintro e w9 ⟨rfl, b9⟩; rw [HW.out]; have tb := tb.below b9; obtain ⟨d0, d1, d2, d3, d4⟩ := tb.c4; obtain ⟨r0, r1, r2, r3, r4, r5, r6⟩ := tb.r6) | (go_at_call 60; refine (refFiles_kind q.c q.a q.n Ao As Ap lo co ls cs lp cp _).mono ?_; rintro e w9 ⟨rfl, b9⟩; rw [HF.out]; have tb := tb.below b9; obtain ⟨d0, d1, d2, d3, d4⟩ := tb.c4; obtain ⟨r0, r1, r2, r3, r4, r5, r6⟩ := tb.r6))
          go_loopw [6] (fun i wr => ∃ k : Nat, k ≤ mf ∧ i = .int .i64 k ∧ TB w w.heap.size (.cells #[.int .i64 q.c, .int .i64 q.a, .int .i64 q.n, .slice Ao lo co, .slice As ls cs, .slice Ap lp cp] 68 (0, 0)) (.cells #[.int .i64 r.x, .slice Bo mo eo, .slice Bs ms es, .slice Bf mf ef] 30 (0, 0)) wr ∧ Hid (∀ j, j < k → ((nthF r.fs j).length : Int) = nth q.fl (3 * j + 2))) (fun i _ => mf - (intOf i).toNat)
          case atStart => exact ⟨0, by omega, rfl, tb, Lib.hid (fun j h => by omega)⟩
          case round =>
            clear d0 d1 d2 d3 d4 r0 r1 r2 r3 r4 r5 r6 tb
            obtain ⟨k, hk, rfl, tb, hs⟩ := hrel
            by_cases hlt : k < mf
            · exact absurd hlt (by omega)
            · obtain rfl : k = mf := by omega
              have hl : Hid (E = 0) := Lib.hid (by rw [HEM.out, HN.out]; rfl)
              obtain ⟨d0, d1, d2, d3, d4⟩ := tb.c4; obtain ⟨r0, r1, r2, r3, r4, r5, r6⟩ := tb.r6
              go_wp2
              go_ret
              exact ⟨by rw [hl.out]; rfl, tb.bel⟩
        · have u3 : ((mo : Int) != q.n) = true := by simpa using he
          have u4 : ((mo : Int) == q.n) = false := beq_false_of_ne he
          have HN : Hid (manyB q r = false) := Lib.hid (by rw [HM2.out]; exact decide_eq_false he)
          clear he
          have hl : Hid (E = 22) := Lib.hid (by rw [HEM.out, HN.out]; rfl)
          clear HE HS
          go_enter Tryz.func30, Tryz.ntmps30
          go_wp2_with fail
          refine HC.out.mono ?_
          rintro e w1 ⟨rfl, b1⟩
          have tb := tb.below b1
          clear b1
          obtain ⟨d0, d1, d2, d3, d4⟩ := tb.c4; obtain ⟨r0, r1, r2, r3, r4, r5, r6⟩ := tb.r6
          go_wp2_with (first | (go_at_call 58; refine (refKindBits_any q.c q.a q.n Ao As Ap lo co ls cs lp cp _).mono ?_; rintro e w9 ⟨rfl, b9⟩; rw [HB.out]; have tb := tb.below b9; obtain ⟨d0, d1, d2, d3, d4⟩ := tb.c4; obtain ⟨r0, r1, r2, r3, r4, r5, r6⟩ := tb.r6) | (go_at_call 59; refine (refWords_kind q.c q.a q.n Ao As Ap lo co ls cs lp cp _).mono ?_; rintro e w9 ⟨rfl, b9⟩; rw [HW.out]; have tb := tb.below b9; obtain ⟨d0, d1, d2, d3, d4⟩ := tb.c4; obtain ⟨r0, r1, r2, r3, r4, r5, r6⟩ := tb.r6) | (go_at_call 60; refine (refFiles_kind q.c q.a q.n Ao As Ap lo co ls cs lp cp _).mono ?_; rintro e w9 ⟨rfl, b9⟩; rw [HF.out]; have tb := tb.below b9; obtain ⟨d0, d1, d2, d3, d4⟩ := tb.c4; obtain ⟨r0, r1, r2, r3, r4, r5, r6⟩ := tb.r6))
          go_ret
          exact ⟨by rw [hl.out]; rfl, tb.bel⟩
end Go.Proofs.YtcmbdhmhkfhjfaaGreat
namespace Go.Proofs.YtcmbdhmhkfhjfaaGreat
open Go.RowKit
set_option linter.unusedVariables false

set_option maxHeartbeats 4000000 in
set_option maxRecDepth 100000 in
theorem refRp_words (q : Req) (r : Rep) (Ao As Ap Bo Bs Bf : Option Addr) (lo ls lp co cs cp mo ms mf eo es ef : Nat) (w : World) (h : Asked w w.heap.size q Ao As Ap lo ls lp) (hr : Repd w w.heap.size r Bo Bs Bf mo ms mf) (hb : lp ≤ 100000) (hk : chkQ q = 0) (hx : r.x = 0) (hc : q.c = 3 ∨ q.c = 4) :
    Calls Tryz.prog 30 #[.agg #[.int .i64 q.c, .int .i64 q.a, .int .i64 q.n, .slice Ao lo co, .slice As ls cs, .slice Ap lp cp], .agg #[.int .i64 r.x, .slice Bo mo eo, .slice Bs ms es, .slice Bf mf ef]] w fun e w' => e = .returned (.int .i64 (chkR q r)) ∧ Below w.heap.size w w' := by
  have tb := TB.new2 w #[.int .i64 q.c, .int .i64 q.a, .int .i64 q.n, .slice Ao lo co, .slice As ls cs, .slice Ap lp cp] #[.int .i64 r.x, .slice Bo mo eo, .slice Bs ms es, .slice Bf mf ef] 68 30
  have hsz : w.heap.size ≤ ((w.alloc (.cells #[.int .i64 q.c, .int .i64 q.a, .int .i64 q.n, .slice Ao lo co, .slice As ls cs, .slice Ap lp cp] 68)).alloc (.cells #[.int .i64 r.x, .slice Bo mo eo, .slice Bs ms es, .slice Bf mf ef] 30)).heap.size := tb.bel.size
  have H0 := Lib.hid h
  have HR0 := Lib.hid hr
  have H := Lib.hid ((h.below tb.bel).more hsz)
  obtain ⟨E, hE⟩ : ∃ E, Hid (chkR q r = E) := ⟨_, Lib.hid rfl⟩
  rw [hE.out]
  have HMO := Lib.hid hr.mo
  have HMS := Lib.hid hr.ms
  have HMF := Lib.hid hr.mf
  have HC := Lib.hid (refCheck_any q Ao As Ap lo ls lp co cs cp _ H.out)
  rw [chkQ_of H.out, hk] at HC
  have HB : Hid (clB q.c = false) := Lib.hid (decide_eq_false (by omega))
  have HW : Hid (clW q.c = true) := Lib.hid (decide_eq_true hc)
  have HF : Hid (clF q.c = false) := Lib.hid (decide_eq_false (by omega))
  have HS : Hid (strayB q.c mo ms mf = anyB mo 0 mf) := Lib.hid (by unfold strayB; rw [if_neg (show ¬ (q.c = 1 ∨ q.c = 2) by omega), if_pos hc, if_neg (show ¬ (q.c = 20) by omega)])
  have HM2 : Hid (manyB q r = decide ((ms : Int) = q.n)) := Lib.hid (by unfold manyB; rw [if_neg (show ¬ (q.c = 1 ∨ q.c = 2) by omega), if_pos hc, HMS.out])
  have HE : Hid (E = if strayB q.c mo ms mf = true then 23 else if manyB q r = false then 22 else 0) := Lib.hid (by
    rw [← hE.out]; unfold chkR; rw [if_neg (show ¬ chkQ q ≠ 0 by rw [hk]; simp), if_neg (show ¬ r.x ≠ 0 by simp [hx]), HMO.out, HMS.out, HMF.out])
  have u1 : (r.x != 0) = false := by simp [hx]
  have u2 : (r.x == 0) = true := by simp [hx]
  clear h hr hk hx hE H hc
  by_cases g1 : 0 < mo
  · have g1' : (0 : Int) < (mo : Int) := by omega
    by_cases g2 : 0 < ms
    · have g2' : (0 : Int) < (ms : Int) := by omega
      by_cases g3 : 0 < mf
      · have g3' : (0 : Int) < (mf : Int) := by omega
        have hl : Hid (E = 23) := Lib.hid (by rw [HE.out, HS.out, if_pos (by simp [anyB]; omega)])
        clear HE HS
        go_enter Tryz.func30, Tryz.ntmps30
        go_wp2_with fail
        refine HC.out.mono ?_
        rintro e w1 ⟨rfl, b1⟩
        have tb := tb.below b1
        clear b1
        obtain ⟨d0, d1, d2, d3, d4⟩ := tb.c4; obtain ⟨r0, r1, r2, r3, r4, r5, r6⟩ := tb.r6
        go_wp2_with (first | (go_at_call 58; refine (refKindBits_any q.c q.a q.n Ao As Ap lo co ls cs lp cp _).mono ?_; rintro e w9 ⟨rfl, b9⟩; rw [HB.out]; have tb := tb.below b9; obtain ⟨d0, d1, d2, d3, d4⟩ := tb.c4; obtain ⟨r0, r1, r2, r3, r4, r5, r6⟩ := tb.r6) | (go_at_call 59; refine (refWords_kind q.c q.a q.n Ao As Ap lo co ls cs lp cp _).mono ?_; rintro e w9 ⟨rfl, b9⟩; rw [HW.out]; have tb := tb.below b9; obtain ⟨d0, d1, d2, d3, d4⟩ := tb.c4; obtain ⟨r0, r1, r2, r3, r4, r5, r6⟩ := tb.r6) | (go_at_call 60; refine (refFiles_kind q.c q.a q.n Ao As Ap lo co ls cs lp cp _).mono ?_; rintro e w9 ⟨rfl, b9⟩; rw [HF.out]; have tb := tb.below b9; obtain ⟨d0, d1, d2, d3, d4⟩ := tb.c4; obtain ⟨r0, r1, r2, r3, r4, r5, r6⟩ := tb.r6))
        go_ret
        exact ⟨by rw [hl.out]; rfl, tb.bel⟩
      · have g3' : ¬ (0 : Int) < (mf : Int) := by omega
        have hl : Hid (E = 23) := Lib.hid (by rw [HE.out, HS.out, if_pos (by simp [anyB]; omega)])
        clear HE HS
        go_enter Tryz.func30, Tryz.ntmps30
        go_wp2_with fail
        refine HC.out.mono ?_
        rintro e w1 ⟨rfl, b1⟩
        have tb := tb.below b1
        clear b1
        obtain ⟨d0, d1, d2, d3, d4⟩ := tb.c4; obtain ⟨r0, r1, r2, r3, r4, r5, r6⟩ := tb.r6
        go_wp2_with (first | (go_at_call 58; refine (refKindBits_any q.c q.a q.n Ao As Ap lo co ls cs lp cp _).mono ?_; rintro e w9 ⟨rfl, b9⟩; rw [HB.out]; have tb := tb.below b9; obtain ⟨d0, d1, d2, d3, d4⟩ := tb.c4; obtain ⟨r0, r1, r2, r3, r4, r5, r6⟩ := tb.r6) | (go_at_call 59; refine (refWords_kind q.c q.a q.n Ao As Ap lo co ls cs lp cp _).mono ?_; rintro e w9 ⟨rfl, b9⟩; rw [HW.out]; have tb := tb.below b9; obtain ⟨d0, d1, d2, d3, d4⟩ := tb.c4; obtain ⟨r0, r1, r2, r3, r4, r5, r6⟩ := tb.r6) | (go_at_call 60; refine (refFiles_kind q.c q.a q.n Ao As Ap lo co ls cs lp cp _).mono ?_; rintro e w9 ⟨rfl, b9⟩; rw [HF.out]; have tb := tb.below b9; obtain ⟨d0, d1, d2, d3, d4⟩ := tb.c4; obtain ⟨r0, r1, r2, r3, r4, r5, r6⟩ := tb.r6))
        go_ret
        exact ⟨by rw [hl.out]; rfl, tb.bel⟩
    · have g2' : ¬ (0 : Int) < (ms : Int) := by omega
      by_cases g3 : 0 < mf
      · have g3' : (0 : Int) < (mf : Int) := by omega
        have hl : Hid (E = 23) := Lib.hid (by rw [HE.out, HS.out, if_pos (by simp [anyB]; omega)])
        clear HE HS
        go_enter Tryz.func30, Tryz.ntmps30
        go_wp2_with fail
        refine HC.out.mono ?_
        rintro e w1 ⟨rfl, b1⟩
        have tb := tb.below b1
        clear b1
        obtain ⟨d0, d1, d2, d3, d4⟩ := tb.c4; obtain ⟨r0, r1, r2, r3, r4, r5, r6⟩ := tb.r6
        go_wp2_with (first | (go_at_call 58; refine (refKindBits_any q.c q.a q.n Ao As Ap lo co ls cs lp cp _).mono ?_; rintro e w9 ⟨rfl, b9⟩; rw [HB.out]; have tb := tb.below b9; obtain ⟨d0, d1, d2, d3, d4⟩ := tb.c4; obtain ⟨r0, r1, r2, r3, r4, r5, r6⟩ := tb.r6) | (go_at_call 59; refine (refWords_kind q.c q.a q.n Ao As Ap lo co ls cs lp cp _).mono ?_; rintro e w9 ⟨rfl, b9⟩; rw [HW.out]; have tb := tb.below b9; obtain ⟨d0, d1, d2, d3, d4⟩ := tb.c4; obtain ⟨r0, r1, r2, r3, r4, r5, r6⟩ := tb.r6) | (go_at_call 60; refine (refFiles_kind q.c q.a q.n Ao As Ap lo co ls cs lp cp _).mono ?_; rintro e w9 ⟨rfl, b9⟩; rw [HF.out]; have tb := tb.below b9; obtain ⟨d0, d1, d2, d3, d4⟩ := tb.c4; obtain ⟨r0, r1, r2, r3, r4, r5, r6⟩ := tb.r6))
        go_ret
        exact ⟨by rw [hl.out]; rfl, tb.bel⟩
      · have g3' : ¬ (0 : Int) < (mf : Int) := by omega
        have hl : Hid (E = 23) := Lib.hid (by rw [HE.out, HS.out, if_pos (by simp [anyB]; omega)])
        clear HE HS
        go_enter Tryz.func30, Tryz.ntmps30
        go_wp2_with fail
        refine HC.out.mono ?_
        rintro e w1 ⟨rfl, b1⟩
        have tb := tb.below b1
        clear b1
        obtain ⟨d0, d1, d2, d3, d4⟩ := tb.c4; obtain ⟨r0, r1, r2, r3, r4, r5, r6⟩ := tb.r6
        go_wp2_with (first | (go_at_call 58; refine (refKindBits_any q.c q.a q.n Ao As Ap lo co ls cs lp cp _).mono ?_; rintro e w9 ⟨rfl, b9⟩; rw [HB.out]; have tb := tb.below b9; obtain ⟨d0, d1, d2, d3, d4⟩ := tb.c4; obtain ⟨r0, r1, r2, r3, r4, r5, r6⟩ := tb.r6) | (go_at_call 59; refine (refWords_kind q.c q.a q.n Ao As Ap lo co ls cs lp cp _).mono ?_; rintro e w9 ⟨rfl, b9⟩; rw [HW.out]; have tb := tb.below b9; obtain ⟨d0, d1, d2, d3, d4⟩ := tb.c4; obtain ⟨r0, r1, r2, r3, r4, r5, r6⟩ := tb.r6) | (go_at_call 60; refine (refFiles_kind q.c q.a q.n Ao As Ap lo co ls cs lp cp _).mono ?_; rintro e w9 ⟨rfl, b9⟩; rw [HF.out]; have tb := tb.below b9; obtain ⟨d0, d1, d2, d3, d4⟩ := tb.c4; obtain ⟨r0, r1, r2, r3, r4, r5, r6⟩ := tb.r6))
        go_ret
        exact ⟨by rw [hl.out]; rfl, tb.bel⟩
  · have g1' : ¬ (0 : Int) < (mo : Int) := by omega
    by_cases g2 : 0 < ms
    · have g2' : (0 : Int) < (ms : Int) := by omega
      by_cases g3 : 0 < mf
      · have g3' : (0 : Int) < (mf : Int) := by omega
        have hl : Hid (E = 23) := Lib.hid (by rw [HE.out, HS.out, if_pos (by simp [anyB]; omega)])
        clear HE HS
        go_enter Tryz.func30, Tryz.ntmps30
        go_wp2_with fail
        refine HC.out.mono ?_
        rintro e w1 ⟨rfl, b1⟩
        have tb := tb.below b1
        clear b1
        obtain ⟨d0, d1, d2, d3, d4⟩ := tb.c4; obtain ⟨r0, r1, r2, r3, r4, r5, r6⟩ := tb.r6
        go_wp2_with (first | (go_at_call 58; refine (refKindBits_any q.c q.a q.n Ao As Ap lo co ls cs lp cp _).mono ?_; rintro e w9 ⟨rfl, b9⟩; rw [HB.out]; have tb := tb.below b9; obtain ⟨d0, d1, d2, d3, d4⟩ := tb.c4; obtain ⟨r0, r1, r2, r3, r4, r5, r6⟩ := tb.r6) | (go_at_call 59; refine (refWords_kind q.c q.a q.n Ao As Ap lo co ls cs lp cp _).mono ?_; rintro e w9 ⟨rfl, b9⟩; rw [HW.out]; have tb := tb.below b9; obtain ⟨d0, d1, d2, d3, d4⟩ := tb.c4; obtain ⟨r0, r1, r2, r3, r4, r5, r6⟩ := tb.r6) | (go_at_call 60; refine (refFiles_kind q.c q.a q.n Ao As Ap lo co ls cs lp cp _).mono ?_; rintro e w9 ⟨rfl, b9⟩; rw [HF.out]; have tb := tb.below b9; obtain ⟨d0, d1, d2, d3, d4⟩ := tb.c4; obtain ⟨r0, r1, r2, r3, r4, r5, r6⟩ := tb.r6))
        go_ret
        exact ⟨by rw [hl.out]; rfl, tb.bel⟩
      · have g3' : ¬ (0 : Int) < (mf : Int) := by omega
        have HEM : Hid (E = if manyB q r = false then 22 else 0) := Lib.hid (by rw [HE.out, HS.out, if_neg (by simp [anyB]; try omega)])
        by_cases he : (ms : Int) = q.n
        · have u3 : ((ms : Int) != q.n) = false := by simp [he]
          have u4 : ((ms : Int) == q.n) = true := by simp [he]
          have HN : Hid (manyB q r = true) := Lib.hid (by rw [HM2.out]; exact decide_eq_true he)
          clear he HE HS
          go_enter Tryz.func30, Tryz.ntmps30
          go_wp2_with fail
          refine HC.out.mono ?_
          rintro e w1 ⟨rfl, b1⟩
          have tb := tb.below b1
          clear b1
          obtain ⟨d0, d1, d2, d3, d4⟩ := tb.c4; obtain ⟨r0, r1, r2, r3, r4, r5, r6⟩ := tb.r6
          go_wp2_with (first | (go_at_call 58; refine (refKindBits_any q.c q.a q.n Ao As Ap lo co ls cs lp cp _).mono ?_; rintro e w9 ⟨rfl, b9⟩; rw [HB.out]; have tb := tb.below b9; obtain ⟨d0, d1, d2, d3, d4⟩ := tb.c4; obtain ⟨r0, r1, r2, r3, r4, r5, r6⟩ := tb.r6) | (go_at_call 59; refine (refWords_kind q.c q.a q.n Ao As Ap lo co ls cs lp cp _).mono ?_; rintro e w9 ⟨rfl, b9⟩; rw [HW.out]; have tb := tb.below b9; obtain ⟨d0, d1, d2, d3, d4⟩ := tb.c4; obtain ⟨r0, r1, r2, r3, r4, r5, r6⟩ := tb.r6) | (go_at_call 60; refine (refFiles_kind q.c q.a q.n Ao As Ap lo co ls cs lp cp _).mono ?_; rintro e w9 ⟨rfl, b9⟩; rw [HF.out]; have tb := tb.below b9; obtain ⟨d0, d1, d2, d3, d4⟩ := tb.c4; obtain ⟨r0, r1, r2, r3, r4, r5, r6⟩ := tb.r6))
          go_loopw [6] (fun i wr => ∃ k : Nat, k ≤ mf ∧ i = .int .i64 k ∧ TB w w.heap.size (.cells #[.int .i64 q.c, .int .i64 q.a, .int .i64 q.n, .slice Ao lo co, .slice As ls cs, .slice Ap lp cp] 68 (0, 0)) (.cells #[.int .i64 r.x, .slice Bo mo eo, .slice Bs ms es, .slice Bf mf ef] 30 (0, 0)) wr ∧ Hid (∀ j, j < k → ((nthF r.fs j).length : Int) = nth q.fl (3 * j + 2))) (fun i _ => mf - (intOf i).toNat)
          case atStart => exact ⟨0, by omega, rfl, tb, Lib.hid (fun j h => by omega)⟩
          case round =>
            clear d0 d1 d2 d3 d4 r0 r1 r2 r3 r4 r5 r6 tb
            obtain ⟨k, hk, rfl, tb, hs⟩ := hrel
            by_cases hlt : k < mf
            · exact absurd hlt (by omega)
            · obtain rfl : k = mf := by omega
              have hl : Hid (E = 0) := Lib.hid (by rw [HEM.out, HN.out]; rfl)
              obtain ⟨d0, d1, d2, d3, d4⟩ := tb.c4; obtain ⟨r0, r1, r2, r3, r4, r5, r6⟩ := tb.r6
              go_wp2
              go_ret
              exact ⟨by rw [hl.out]; rfl, tb.bel⟩
        · have u3 : ((ms : Int) != q.n) = true := by simpa using he
          have u4 : ((ms : Int) == q.n) = false := beq_false_of_ne he
          have HN : Hid (manyB q r = false) := Lib.hid (by rw [HM2.out]; exact decide_eq_false he)
          clear he
          have hl : Hid (E = 22) := Lib.hid (by rw [HEM.out, HN.out]; rfl)
          clear HE HS
          go_enter Tryz.func30, Tryz.ntmps30
          go_wp2_with fail
          refine HC.out.mono ?_
          rintro e w1 ⟨rfl, b1⟩
          have tb := tb.below b1
          clear b1
          obtain ⟨d0, d1, d2, d3, d4⟩ := tb.c4; obtain ⟨r0, r1, r2, r3, r4, r5, r6⟩ := tb.r6
          go_wp2_with (first | (go_at_call 58; refine (refKindBits_any q.c q.a q.n Ao As Ap lo co ls cs lp cp _).mono ?_; rintro e w9 ⟨rfl, b9⟩; rw [HB.out]; have tb := tb.below b9; obtain ⟨d0, d1, d2, d3, d4⟩ := tb.c4; obtain ⟨r0, r1, r2, r3, r4, r5, r6⟩ := tb.r6) | (go_at_call 59; refine (refWords_kind q.c q.a q.n Ao As Ap lo co ls cs lp cp _).mono ?_; rintro e w9 ⟨rfl, b9⟩; rw [HW.out]; have tb := tb.below b9; obtain ⟨d0, d1, d2, d3, d4⟩ := tb.c4; obtain ⟨r0, r1, r2, r3, r4, r5, r6⟩ := tb.r6) | (go_at_call 60; refine (refFiles_kind q.c q.a q.n Ao As Ap lo co ls cs lp cp _).mono ?_; rintro e w9 ⟨rfl, b9⟩; rw [HF.out]; have tb := tb.below b9; obtain ⟨d0, d1, d2, d3, d4⟩ := tb.c4; obtain ⟨r0, r1, r2, r3, r4, r5, r6⟩ := tb.r6))
          go_ret
          exact ⟨by rw [hl.out]; rfl, tb.bel⟩
    · have g2' : ¬ (0 : Int) < (ms : Int) := by omega
      by_cases g3 : 0 < mf
      · have g3' : (0 : Int) < (mf : Int) := by omega
        have hl : Hid (E = 23) := Lib.hid (by rw [HE.out, HS.out, if_pos (by simp [anyB]; omega)])
        clear HE HS
        go_enter Tryz.func30, Tryz.ntmps30
        go_wp2_with fail
        refine HC.out.mono ?_
        rintro e w1 ⟨rfl, b1⟩
        have tb := tb.below b1
        clear b1
        obtain ⟨d0, d1, d2, d3, d4⟩ := tb.c4; obtain ⟨r0, r1, r2, r3, r4, r5, r6⟩ := tb.r6
        go_wp2_with (first | (go_at_call 58; refine (refKindBits_any q.c q.a q.n Ao As Ap lo co ls cs lp cp _).mono ?_; rintro e w9 ⟨rfl, b9⟩; rw [HB.out]; have tb := tb.below b9; obtain ⟨d0, d1, d2, d3, d4⟩ := tb.c4; obtain ⟨r0, r1, r2, r3, r4, r5, r6⟩ := tb.r6) | (go_at_call 59; refine (refWords_kind q.c q.a q.n Ao As Ap lo co ls cs lp cp _).mono ?_; rintro e w9 ⟨rfl, b9⟩; rw [HW.out]; have tb := tb.below b9; obtain ⟨d0, d1, d2, d3, d4⟩ := tb.c4; obtain ⟨r0, r1, r2, r3, r4, r5, r6⟩ := tb.r6) | (go_at_call 60; refine (refFiles_kind q.c q.a q.n Ao As Ap lo co ls cs lp cp _).mono ?_; rintro e w9 ⟨rfl, b9⟩; rw [HF.out]; have tb := tb.below b9; obtain ⟨d0, d1, d2, d3, d4⟩ := tb.c4; obtain ⟨r0, r1, r2, r3, r4, r5, r6⟩ := tb.r6))
        go_ret
        exact ⟨by rw [hl.out]; rfl, tb.bel⟩
      · have g3' : ¬ (0 : Int) < (mf : Int) := by omega
        have HEM : Hid (E = if manyB q r = false then 22 else 0) := Lib.hid (by rw [HE.out, HS.out, if_neg (by simp [anyB]; try omega)])
        by_cases he : (ms : Int) = q.n
        · have u3 : ((ms : Int) != q.n) = false := by simp [he]
          have u4 : ((ms : Int) == q.n) = true := by simp [he]
          have HN : Hid (manyB q r = true) := Lib.hid (by rw [HM2.out]; exact decide_eq_true he)
          clear he HE HS
          go_enter Tryz.func30, Tryz.ntmps30
          go_wp2_with fail
          refine HC.out.mono ?_
          rintro e w1 ⟨rfl, b1⟩
          have tb := tb.below b1
          clear b1
          obtain ⟨d0, d1, d2, d3, d4⟩ := tb.c4; obtain ⟨r0, r1, r2, r3, r4, r5, r6⟩ := tb.r6
          go_wp2_with (first | (go_at_call 58; refine (refKindBits_any q.c q.a q.n Ao As Ap lo co ls cs lp cp _).mono ?_; rintro e w9 ⟨rfl, b9⟩; rw [HB.out]; have tb := tb.below b9; obtain ⟨d0, d1, d2, d3, d4⟩ := tb.c4; obtain ⟨r0, r1, r2, r3, r4, r5, r6⟩ := tb.r6) | (go_at_call 59; refine (refWords_kind q.c q.a q.n Ao As Ap lo co ls cs lp cp _).mono ?_; rintro e w9 ⟨rfl, b9⟩; rw [HW.out]; have tb := tb.below b9; obtain ⟨d0, d1, d2, d3, d4⟩ := tb.c4; obtain ⟨r0, r1, r2, r3, r4, r5, r6⟩ := tb.r6) | (go_at_call 60; refine (refFiles_kind q.c q.a q.n Ao As Ap lo co ls cs lp cp _).mono ?_; rintro e w9 ⟨rfl, b9⟩; rw [HF.out]; have tb := tb.below b9; obtain ⟨d0, d1, d2, d3, d4⟩ := tb.c4; obtain ⟨r0, r1, r2, r3, r4, r5, r6⟩ := tb.r6))
          go_loopw [6] (fun i wr => ∃ k : Nat, k ≤ mf ∧ i = .int .i64 k ∧ TB w w.heap.size (.cells #[.int .i64 q.c, .int .i64 q.a, .int .i64 q.n, .slice Ao lo co, .slice As ls cs, .slice Ap lp cp] 68 (0, 0)) (.cells #[.int .i64 r.x, .slice Bo mo eo, .slice Bs ms es, .slice Bf mf ef] 30 (0, 0)) wr ∧ Hid (∀ j, j < k → ((nthF r.fs j).length : Int) = nth q.fl (3 * j + 2))) (fun i _ => mf - (intOf i).toNat)
          case atStart => exact ⟨0, by omega, rfl, tb, Lib.hid (fun j h => by omega)⟩
          case round =>
            clear d0 d1 d2 d3 d4 r0 r1 r2 r3 r4 r5 r6 tb
            obtain ⟨k, hk, rfl, tb, hs⟩ := hrel
            by_cases hlt : k < mf
            · exact absurd hlt (by omega)
            · obtain rfl : k = mf := by omega
              have hl : Hid (E = 0) := Lib.hid (by rw [HEM.out, HN.out]; rfl)
              obtain ⟨d0, d1, d2, d3, d4⟩ := tb.c4; obtain ⟨r0, r1, r2, r3, r4, r5, r6⟩ := tb.r6
              go_wp2
              go_ret
              exact ⟨by rw [hl.out]; rfl, tb.bel⟩
        · have u3 : ((ms : Int) != q.n) = true := by simpa using he
          have u4 : ((ms : Int) == q.n) = false := beq_false_of_ne he
          have HN : Hid (manyB q r = false) := Lib.hid (by rw [HM2.out]; exact decide_eq_false he)
          clear he
          have hl : Hid (E = 22) := Lib.hid (by rw [HEM.out, HN.out]; rfl)
          clear HE HS
          go_enter Tryz.func30, Tryz.ntmps30
          go_wp2_with fail
          refine HC.out.mono ?_
          rintro e w1 ⟨rfl, b1⟩
          have tb := tb.below b1
          clear b1
          obtain ⟨d0, d1, d2, d3, d4⟩ := tb.c4; obtain ⟨r0, r1, r2, r3, r4, r5, r6⟩ := tb.r6
          go_wp2_with (first | (go_at_call 58; refine (refKindBits_any q.c q.a q.n Ao As Ap lo co ls cs lp cp _).mono ?_; rintro e w9 ⟨rfl, b9⟩; rw [HB.out]; have tb := tb.below b9; obtain ⟨d0, d1, d2, d3, d4⟩ := tb.c4; obtain ⟨r0, r1, r2, r3, r4, r5, r6⟩ := tb.r6) | (go_at_call 59; refine (refWords_kind q.c q.a q.n Ao As Ap lo co ls cs lp cp _).mono ?_; rintro e w9 ⟨rfl, b9⟩; rw [HW.out]; have tb := tb.below b9; obtain ⟨d0, d1, d2, d3, d4⟩ := tb.c4; obtain ⟨r0, r1, r2, r3, r4, r5, r6⟩ := tb.r6) | (go_at_call 60; refine (refFiles_kind q.c q.a q.n Ao As Ap lo co ls cs lp cp _).mono ?_; rintro e w9 ⟨rfl, b9⟩; rw [HF.out]; have tb := tb.below b9; obtain ⟨d0, d1, d2, d3, d4⟩ := tb.c4; obtain ⟨r0, r1, r2, r3, r4, r5, r6⟩ := tb.r6))
          go_ret
          exact ⟨by rw [hl.out]; rfl, tb.bel⟩
end Go.Proofs.YtcmbdhmhkfhjfaaGreat
namespace Go.Proofs.YtcmbdhmhkfhjfaaGreat
open Go.RowKit
set_option linter.unusedVariables false

set_option maxHeartbeats 4000000 in
set_option maxRecDepth 100000 in
theorem refRp_files (q : Req) (r : Rep) (Ao As Ap Bo Bs Bf : Option Addr) (lo ls lp co cs cp mo ms mf eo es ef : Nat) (w : World) (h : Asked w w.heap.size q Ao As Ap lo ls lp) (hr : Repd w w.heap.size r Bo Bs Bf mo ms mf) (hb : lp ≤ 100000) (hk : chkQ q = 0) (hx : r.x = 0) (hc : q.c = 20) :
    Calls Tryz.prog 30 #[.agg #[.int .i64 q.c, .int .i64 q.a, .int .i64 q.n, .slice Ao lo co, .slice As ls cs, .slice Ap lp cp], .agg #[.int .i64 r.x, .slice Bo mo eo, .slice Bs ms es, .slice Bf mf ef]] w fun e w' => e = .returned (.int .i64 (chkR q r)) ∧ Below w.heap.size w w' := by
  have tb := TB.new2 w #[.int .i64 q.c, .int .i64 q.a, .int .i64 q.n, .slice Ao lo co, .slice As ls cs, .slice Ap lp cp] #[.int .i64 r.x, .slice Bo mo eo, .slice Bs ms es, .slice Bf mf ef] 68 30
  have hsz : w.heap.size ≤ ((w.alloc (.cells #[.int .i64 q.c, .int .i64 q.a, .int .i64 q.n, .slice Ao lo co, .slice As ls cs, .slice Ap lp cp] 68)).alloc (.cells #[.int .i64 r.x, .slice Bo mo eo, .slice Bs ms es, .slice Bf mf ef] 30)).heap.size := tb.bel.size
  have H0 := Lib.hid h
  have HR0 := Lib.hid hr
  have H := Lib.hid ((h.below tb.bel).more hsz)
  obtain ⟨E, hE⟩ : ∃ E, Hid (chkR q r = E) := ⟨_, Lib.hid rfl⟩
  rw [hE.out]
  have HMO := Lib.hid hr.mo
  have HMS := Lib.hid hr.ms
  have HMF := Lib.hid hr.mf
  have HC := Lib.hid (refCheck_any q Ao As Ap lo ls lp co cs cp _ H.out)
  rw [chkQ_of H.out, hk] at HC
  have HB : Hid (clB q.c = false) := Lib.hid (decide_eq_false (by omega))
  have HW : Hid (clW q.c = false) := Lib.hid (decide_eq_false (by omega))
  have HF : Hid (clF q.c = true) := Lib.hid (decide_eq_true hc)
  have HS : Hid (strayB q.c mo ms mf = anyB mo ms 0) := Lib.hid (by unfold strayB; rw [if_neg (show ¬ (q.c = 1 ∨ q.c = 2) by omega), if_neg (show ¬ (q.c = 3 ∨ q.c = 4) by omega), if_pos hc])
  have HM2 : Hid (manyB q r = fitsB q.fl r.fs) := Lib.hid (by unfold manyB; rw [if_neg (show ¬ (q.c = 1 ∨ q.c = 2) by omega), if_neg (show ¬ (q.c = 3 ∨ q.c = 4) by omega), if_pos hc])
  have HE : Hid (E = if strayB q.c mo ms mf = true then 23 else if manyB q r = false then 22 else 0) := Lib.hid (by
    rw [← hE.out]; unfold chkR; rw [if_neg (show ¬ chkQ q ≠ 0 by rw [hk]; simp), if_neg (show ¬ r.x ≠ 0 by simp [hx]), HMO.out, HMS.out, HMF.out])
  have u1 : (r.x != 0) = false := by simp [hx]
  have u2 : (r.x == 0) = true := by simp [hx]
  clear h hr hk hx hE H hc
  by_cases g1 : 0 < mo
  · have g1' : (0 : Int) < (mo : Int) := by omega
    by_cases g2 : 0 < ms
    · have g2' : (0 : Int) < (ms : Int) := by omega
      by_cases g3 : 0 < mf
      · have g3' : (0 : Int) < (mf : Int) := by omega
        have hl : Hid (E = 23) := Lib.hid (by rw [HE.out, HS.out, if_pos (by simp [anyB]; omega)])
        clear HE HS
        go_enter Tryz.func30, Tryz.ntmps30
        go_wp2_with fail
        refine HC.out.mono ?_
        rintro e w1 ⟨rfl, b1⟩
        have tb := tb.below b1
        clear b1
        obtain ⟨d0, d1, d2, d3, d4⟩ := tb.c4; obtain ⟨r0, r1, r2, r3, r4, r5, r6⟩ := tb.r6
        go_wp2_with (first | (go_at_call 58; refine (refKindBits_any q.c q.a q.n Ao As Ap lo co ls cs lp cp _).mono ?_; rintro e w9 ⟨rfl, b9⟩; rw [HB.out]; have tb := tb.below b9; obtain ⟨d0, d1, d2, d3, d4⟩ := tb.c4; obtain ⟨r0, r1, r2, r3, r4, r5, r6⟩ := tb.r6) | (go_at_call 59; refine (refWords_kind q.c q.a q.n Ao As Ap lo co ls cs lp cp _).mono ?_; rintro e w9 ⟨rfl, b9⟩; rw [HW.out]; have tb := tb.below b9; obtain ⟨d0, d1, d2, d3, d4⟩ := tb.c4; obtain ⟨r0, r1, r2, r3, r4, r5, r6⟩ := tb.r6) | (go_at_call 60; refine (refFiles_kind q.c q.a q.n Ao As Ap lo co ls cs lp cp _).mono ?_; rintro e w9 ⟨rfl, b9⟩; rw [HF.out]; have tb := tb.below b9; obtain ⟨d0, d1, d2, d3, d4⟩ := tb.c4; obtain ⟨r0, r1, r2, r3, r4, r5, r6⟩ := tb.r6))
        go_ret
        exact ⟨by rw [hl.out]; rfl, tb.bel⟩
      · have g3' : ¬ (0 : Int) < (mf : Int) := by omega
        have hl : Hid (E = 23) := Lib.hid (by rw [HE.out, HS.out, if_pos (by simp [anyB]; omega)])
        clear HE HS
        go_enter Tryz.func30, Tryz.ntmps30
        go_wp2_with fail
        refine HC.out.mono ?_
        rintro e w1 ⟨rfl, b1⟩
        have tb := tb.below b1
        clear b1
        obtain ⟨d0, d1, d2, d3, d4⟩ := tb.c4; obtain ⟨r0, r1, r2, r3, r4, r5, r6⟩ := tb.r6
        go_wp2_with (first | (go_at_call 58; refine (refKindBits_any q.c q.a q.n Ao As Ap lo co ls cs lp cp _).mono ?_; rintro e w9 ⟨rfl, b9⟩; rw [HB.out]; have tb := tb.below b9; obtain ⟨d0, d1, d2, d3, d4⟩ := tb.c4; obtain ⟨r0, r1, r2, r3, r4, r5, r6⟩ := tb.r6) | (go_at_call 59; refine (refWords_kind q.c q.a q.n Ao As Ap lo co ls cs lp cp _).mono ?_; rintro e w9 ⟨rfl, b9⟩; rw [HW.out]; have tb := tb.below b9; obtain ⟨d0, d1, d2, d3, d4⟩ := tb.c4; obtain ⟨r0, r1, r2, r3, r4, r5, r6⟩ := tb.r6) | (go_at_call 60; refine (refFiles_kind q.c q.a q.n Ao As Ap lo co ls cs lp cp _).mono ?_; rintro e w9 ⟨rfl, b9⟩; rw [HF.out]; have tb := tb.below b9; obtain ⟨d0, d1, d2, d3, d4⟩ := tb.c4; obtain ⟨r0, r1, r2, r3, r4, r5, r6⟩ := tb.r6))
        go_ret
        exact ⟨by rw [hl.out]; rfl, tb.bel⟩
    · have g2' : ¬ (0 : Int) < (ms : Int) := by omega
      by_cases g3 : 0 < mf
      · have g3' : (0 : Int) < (mf : Int) := by omega
        have hl : Hid (E = 23) := Lib.hid (by rw [HE.out, HS.out, if_pos (by simp [anyB]; omega)])
        clear HE HS
        go_enter Tryz.func30, Tryz.ntmps30
        go_wp2_with fail
        refine HC.out.mono ?_
        rintro e w1 ⟨rfl, b1⟩
        have tb := tb.below b1
        clear b1
        obtain ⟨d0, d1, d2, d3, d4⟩ := tb.c4; obtain ⟨r0, r1, r2, r3, r4, r5, r6⟩ := tb.r6
        go_wp2_with (first | (go_at_call 58; refine (refKindBits_any q.c q.a q.n Ao As Ap lo co ls cs lp cp _).mono ?_; rintro e w9 ⟨rfl, b9⟩; rw [HB.out]; have tb := tb.below b9; obtain ⟨d0, d1, d2, d3, d4⟩ := tb.c4; obtain ⟨r0, r1, r2, r3, r4, r5, r6⟩ := tb.r6) | (go_at_call 59; refine (refWords_kind q.c q.a q.n Ao As Ap lo co ls cs lp cp _).mono ?_; rintro e w9 ⟨rfl, b9⟩; rw [HW.out]; have tb := tb.below b9; obtain ⟨d0, d1, d2, d3, d4⟩ := tb.c4; obtain ⟨r0, r1, r2, r3, r4, r5, r6⟩ := tb.r6) | (go_at_call 60; refine (refFiles_kind q.c q.a q.n Ao As Ap lo co ls cs lp cp _).mono ?_; rintro e w9 ⟨rfl, b9⟩; rw [HF.out]; have tb := tb.below b9; obtain ⟨d0, d1, d2, d3, d4⟩ := tb.c4; obtain ⟨r0, r1, r2, r3, r4, r5, r6⟩ := tb.r6))
        go_ret
        exact ⟨by rw [hl.out]; rfl, tb.bel⟩
      · have g3' : ¬ (0 : Int) < (mf : Int) := by omega
        have hl : Hid (E = 23) := Lib.hid (by rw [HE.out, HS.out, if_pos (by simp [anyB]; omega)])
        clear HE HS
        go_enter Tryz.func30, Tryz.ntmps30
        go_wp2_with fail
        refine HC.out.mono ?_
        rintro e w1 ⟨rfl, b1⟩
        have tb := tb.below b1
        clear b1
        obtain ⟨d0, d1, d2, d3, d4⟩ := tb.c4; obtain ⟨r0, r1, r2, r3, r4, r5, r6⟩ := tb.r6
        go_wp2_with (first | (go_at_call 58; refine (refKindBits_any q.c q.a q.n Ao As Ap lo co ls cs lp cp _).mono ?_; rintro e w9 ⟨rfl, b9⟩; rw [HB.out]; have tb := tb.below b9; obtain ⟨d0, d1, d2, d3, d4⟩ := tb.c4; obtain ⟨r0, r1, r2, r3, r4, r5, r6⟩ := tb.r6) | (go_at_call 59; refine (refWords_kind q.c q.a q.n Ao As Ap lo co ls cs lp cp _).mono ?_; rintro e w9 ⟨rfl, b9⟩; rw [HW.out]; have tb := tb.below b9; obtain ⟨d0, d1, d2, d3, d4⟩ := tb.c4; obtain ⟨r0, r1, r2, r3, r4, r5, r6⟩ := tb.r6) | (go_at_call 60; refine (refFiles_kind q.c q.a q.n Ao As Ap lo co ls cs lp cp _).mono ?_; rintro e w9 ⟨rfl, b9⟩; rw [HF.out]; have tb := tb.below b9; obtain ⟨d0, d1, d2, d3, d4⟩ := tb.c4; obtain ⟨r0, r1, r2, r3, r4, r5, r6⟩ := tb.r6))
        go_ret
        exact ⟨by rw [hl.out]; rfl, tb.bel⟩
  · have g1' : ¬ (0 : Int) < (mo : Int) := by omega
    by_cases g2 : 0 < ms
    · have g2' : (0 : Int) < (ms : Int) := by omega
      by_cases g3 : 0 < mf
      · have g3' : (0 : Int) < (mf : Int) := by omega
        have hl : Hid (E = 23) := Lib.hid (by rw [HE.out, HS.out, if_pos (by simp [anyB]; omega)])
        clear HE HS
        go_enter Tryz.func30, Tryz.ntmps30
        go_wp2_with fail
        refine HC.out.mono ?_
        rintro e w1 ⟨rfl, b1⟩
        have tb := tb.below b1
        clear b1
        obtain ⟨d0, d1, d2, d3, d4⟩ := tb.c4; obtain ⟨r0, r1, r2, r3, r4, r5, r6⟩ := tb.r6
        go_wp2_with (first | (go_at_call 58; refine (refKindBits_any q.c q.a q.n Ao As Ap lo co ls cs lp cp _).mono ?_; rintro e w9 ⟨rfl, b9⟩; rw [HB.out]; have tb := tb.below b9; obtain ⟨d0, d1, d2, d3, d4⟩ := tb.c4; obtain ⟨r0, r1, r2, r3, r4, r5, r6⟩ := tb.r6) | (go_at_call 59; refine (refWords_kind q.c q.a q.n Ao As Ap lo co ls cs lp cp _).mono ?_; rintro e w9 ⟨rfl, b9⟩; rw [HW.out]; have tb := tb.below b9; obtain ⟨d0, d1, d2, d3, d4⟩ := tb.c4; obtain ⟨r0, r1, r2, r3, r4, r5, r6⟩ := tb.r6) | (go_at_call 60; refine (refFiles_kind q.c q.a q.n Ao As Ap lo co ls cs lp cp _).mono ?_; rintro e w9 ⟨rfl, b9⟩; rw [HF.out]; have tb := tb.below b9; obtain ⟨d0, d1, d2, d3, d4⟩ := tb.c4; obtain ⟨r0, r1, r2, r3, r4, r5, r6⟩ := tb.r6))
        go_ret
        exact ⟨by rw [hl.out]; rfl, tb.bel⟩
      · have g3' : ¬ (0 : Int) < (mf : Int) := by omega
        have hl : Hid (E = 23) := Lib.hid (by rw [HE.out, HS.out, if_pos (by simp [anyB]; omega)])
        clear HE HS
        go_enter Tryz.func30, Tryz.ntmps30
        go_wp2_with fail
        refine HC.out.mono ?_
        rintro e w1 ⟨rfl, b1⟩
        have tb := tb.below b1
        clear b1
        obtain ⟨d0, d1, d2, d3, d4⟩ := tb.c4; obtain ⟨r0, r1, r2, r3, r4, r5, r6⟩ := tb.r6
        go_wp2_with (first | (go_at_call 58; refine (refKindBits_any q.c q.a q.n Ao As Ap lo co ls cs lp cp _).mono ?_; rintro e w9 ⟨rfl, b9⟩; rw [HB.out]; have tb := tb.below b9; obtain ⟨d0, d1, d2, d3, d4⟩ := tb.c4; obtain ⟨r0, r1, r2, r3, r4, r5, r6⟩ := tb.r6) | (go_at_call 59; refine (refWords_kind q.c q.a q.n Ao As Ap lo co ls cs lp cp _).mono ?_; rintro e w9 ⟨rfl, b9⟩; rw [HW.out]; have tb := tb.below b9; obtain ⟨d0, d1, d2, d3, d4⟩ := tb.c4; obtain ⟨r0, r1, r2, r3, r4, r5, r6⟩ := tb.r6) | (go_at_call 60; refine (refFiles_kind q.c q.a q.n Ao As Ap lo co ls cs lp cp _).mono ?_; rintro e w9 ⟨rfl, b9⟩; rw [HF.out]; have tb := tb.below b9; obtain ⟨d0, d1, d2, d3, d4⟩ := tb.c4; obtain ⟨r0, r1, r2, r3, r4, r5, r6⟩ := tb.r6))
        go_ret
        exact ⟨by rw [hl.out]; rfl, tb.bel⟩
    · have g2' : ¬ (0 : Int) < (ms : Int) := by omega
      by_cases g3 : 0 < mf
      · have g3' : (0 : Int) < (mf : Int) := by omega
        have HEM : Hid (E = if manyB q r = false then 22 else 0) := Lib.hid (by rw [HE.out, HS.out, if_neg (by simp [anyB]; try omega)])
        by_cases he : mf = lp
        · have u3 : ((mf : Int) != (lp : Int)) = false := by simp [he]
          have u4 : ((mf : Int) == (lp : Int)) = true := by simp [he]
          have HLE := Lib.hid he
          clear HE HS he
          go_enter Tryz.func30, Tryz.ntmps30
          go_wp2_with fail
          refine HC.out.mono ?_
          rintro e w1 ⟨rfl, b1⟩
          have tb := tb.below b1
          clear b1
          obtain ⟨d0, d1, d2, d3, d4⟩ := tb.c4; obtain ⟨r0, r1, r2, r3, r4, r5, r6⟩ := tb.r6
          go_wp2_with (first | (go_at_call 58; refine (refKindBits_any q.c q.a q.n Ao As Ap lo co ls cs lp cp _).mono ?_; rintro e w9 ⟨rfl, b9⟩; rw [HB.out]; have tb := tb.below b9; obtain ⟨d0, d1, d2, d3, d4⟩ := tb.c4; obtain ⟨r0, r1, r2, r3, r4, r5, r6⟩ := tb.r6) | (go_at_call 59; refine (refWords_kind q.c q.a q.n Ao As Ap lo co ls cs lp cp _).mono ?_; rintro e w9 ⟨rfl, b9⟩; rw [HW.out]; have tb := tb.below b9; obtain ⟨d0, d1, d2, d3, d4⟩ := tb.c4; obtain ⟨r0, r1, r2, r3, r4, r5, r6⟩ := tb.r6) | (go_at_call 60; refine (refFiles_kind q.c q.a q.n Ao As Ap lo co ls cs lp cp _).mono ?_; rintro e w9 ⟨rfl, b9⟩; rw [HF.out]; have tb := tb.below b9; obtain ⟨d0, d1, d2, d3, d4⟩ := tb.c4; obtain ⟨r0, r1, r2, r3, r4, r5, r6⟩ := tb.r6))
          go_loopw [6] (fun i wr => ∃ k : Nat, k ≤ mf ∧ i = .int .i64 k ∧ TB w w.heap.size (.cells #[.int .i64 q.c, .int .i64 q.a, .int .i64 q.n, .slice Ao lo co, .slice As ls cs, .slice Ap lp cp] 68 (0, 0)) (.cells #[.int .i64 r.x, .slice Bo mo eo, .slice Bs ms es, .slice Bf mf ef] 30 (0, 0)) wr ∧ Hid (∀ j, j < k → ((nthF r.fs j).length : Int) = nth q.fl (3 * j + 2))) (fun i _ => mf - (intOf i).toNat)
          case atStart => exact ⟨0, by omega, rfl, tb, Lib.hid (fun j h => by omega)⟩
          case round =>
            clear d0 d1 d2 d3 d4 r0 r1 r2 r3 r4 r5 r6 tb
            obtain ⟨k, hk, rfl, tb, hs⟩ := hrel
            by_cases hlt : k < mf
            · obtain ⟨d0, d1, d2, d3, d4⟩ := tb.c4; obtain ⟨r0, r1, r2, r3, r4, r5, r6⟩ := tb.r6
              go_wp2_with fail
              have hltp : (k : Int) < (lp : Int) := by have := HLE.out; omega
              obtain ⟨b, o, hAp, hb1, hc1, hc2, hc3⟩ := H0.out.fl.three (k := k) (by have := H0.out.lp; have := HLE.out; omega)
              obtain ⟨bf, of, hBf, hb2, hcf⟩ := HR0.out.fs (by have := HMF.out; omega)
              obtain ⟨Ai, ci, hci, _, _⟩ := hcf k (by have := HMF.out; omega)
              have hcf2 := (tb.bel.cell (p := ⟨bf, of + k, none⟩) hb2).trans hci
              have hcp2 := (tb.bel.cell (p := ⟨b, o + k * 3 + 2, none⟩) hb1).trans hc3
              subst hAp hBf
              obtain ⟨p, hpp⟩ : ∃ p, Hid (nth q.fl (3 * k + 2) = p) := ⟨_, Lib.hid rfl⟩
              obtain ⟨z, hzz⟩ : ∃ z, Hid ((nthF r.fs k).length = z) := ⟨_, Lib.hid rfl⟩
              rw [hpp.out] at hcp2
              rw [hzz.out] at hcf2
              clear hci hcf hc1 hc2 hc3
              by_cases he : (z : Int) = p
              · have u3 : ((z : Int) != p) = false := by simp [he]
                have u4 : ((z : Int) == p) = true := by simp [he]
                have HEQ := Lib.hid he
                clear he
                go_quiet (fail)
                have tbq := tb.below (bel_drewN wr nq)
                clear tb d0 d1 d2 d3 d4 r0 r1 r2 r3 r4 r5 r6 hcf2 hcp2
                go_wp2
                go_roundw
                case rel => exact ⟨k + 1, by omega, by go_num, tbq, Lib.hid (fun j hj => by
                  rcases Nat.lt_succ_iff_lt_or_eq.1 hj with h | h
                  · exact hs.out j h
                  · subst h; rw [hzz.out, hpp.out]; exact HEQ.out)⟩
                case measure => simp [intOf]; omega
              · have u3 : ((z : Int) != p) = true := by simpa using he
                have u4 : ((z : Int) == p) = false := beq_false_of_ne he
                have hl : Hid (E = 22) := Lib.hid (by rw [HEM.out, HM2.out, fitsB_no (i := k) (by rw [HMF.out]; exact hlt) (by rw [hzz.out, hpp.out]; exact he)]; rfl)
                clear he
                go_quiet (fail)
                have tbq := tb.below (bel_drewN wr nq)
                go_wp2
                go_ret
                exact ⟨by rw [hl.out]; rfl, tbq.bel⟩
            · obtain rfl : k = mf := by omega
              have hl : Hid (E = 0) := Lib.hid (by rw [HEM.out, HM2.out, fitsB_yes (by rw [H0.out.lp, HMF.out, HLE.out]) (fun i hi => hs.out i (by rw [← HMF.out]; exact hi))]; rfl)
              obtain ⟨d0, d1, d2, d3, d4⟩ := tb.c4; obtain ⟨r0, r1, r2, r3, r4, r5, r6⟩ := tb.r6
              go_wp2
              go_ret
              exact ⟨by rw [hl.out]; rfl, tb.bel⟩
        · have u3 : ((mf : Int) != (lp : Int)) = true := by simp; omega
          have u4 : ((mf : Int) == (lp : Int)) = false := beq_false_of_ne (by omega)
          have HN : Hid (manyB q r = false) := Lib.hid (by rw [HM2.out]; exact fitsB_len (by rw [H0.out.lp, HMF.out]; omega))
          clear he
          have hl : Hid (E = 22) := Lib.hid (by rw [HEM.out, HN.out]; rfl)
          clear HE HS
          go_enter Tryz.func30, Tryz.ntmps30
          go_wp2_with fail
          refine HC.out.mono ?_
          rintro e w1 ⟨rfl, b1⟩
          have tb := tb.below b1
          clear b1
          obtain ⟨d0, d1, d2, d3, d4⟩ := tb.c4; obtain ⟨r0, r1, r2, r3, r4, r5, r6⟩ := tb.r6
          go_wp2_with (first | (go_at_call 58; refine (refKindBits_any q.c q.a q.n Ao As Ap lo co ls cs lp cp _).mono ?_; rintro e w9 ⟨rfl, b9⟩; rw [HB.out]; have tb := tb.below b9; obtain ⟨d0, d1, d2, d3, d4⟩ := tb.c4; obtain ⟨r0, r1, r2, r3, r4, r5, r6⟩ := tb.r6) | (go_at_call 59; refine (refWords_kind q.c q.a q.n Ao As Ap lo co ls cs lp cp _).mono ?_; rintro e w9 ⟨rfl, b9⟩; rw [HW.out]; have tb := tb.below b9; obtain ⟨d0, d1, d2, d3, d4⟩ := tb.c4; obtain ⟨r0, r1, r2, r3, r4, r5, r6⟩ := tb.r6) | (go_at_call 60; refine (refFiles_kind q.c q.a q.n Ao As Ap lo co ls cs lp cp _).mono ?_; rintro e w9 ⟨rfl, b9⟩; rw [HF.out]; have tb := tb.below b9; obtain ⟨d0, d1, d2, d3, d4⟩ := tb.c4; obtain ⟨r0, r1, r2, r3, r4, r5, r6⟩ := tb.r6))
          go_ret
          exact ⟨by rw [hl.out]; rfl, tb.bel⟩
      · have g3' : ¬ (0 : Int) < (mf : Int) := by omega
        have HEM : Hid (E = if manyB q r = false then 22 else 0) := Lib.hid (by rw [HE.out, HS.out, if_neg (by simp [anyB]; try omega)])
        by_cases he : mf = lp
        · have u3 : ((mf : Int) != (lp : Int)) = false := by simp [he]
          have u4 : ((mf : Int) == (lp : Int)) = true := by simp [he]
          have HLE := Lib.hid he
          clear HE HS he
          go_enter Tryz.func30, Tryz.ntmps30
          go_wp2_with fail
          refine HC.out.mono ?_
          rintro e w1 ⟨rfl, b1⟩
          have tb := tb.below b1
          clear b1
          obtain ⟨d0, d1, d2, d3, d4⟩ := tb.c4; obtain ⟨r0, r1, r2, r3, r4, r5, r6⟩ := tb.r6
          go_wp2_with (first | (go_at_call 58; refine (refKindBits_any q.c q.a q.n Ao As Ap lo co ls cs lp cp _).mono ?_; rintro e w9 ⟨rfl, b9⟩; rw [HB.out]; have tb := tb.below b9; obtain ⟨d0, d1, d2, d3, d4⟩ := tb.c4; obtain ⟨r0, r1, r2, r3, r4, r5, r6⟩ := tb.r6) | (go_at_call 59; refine (refWords_kind q.c q.a q.n Ao As Ap lo co ls cs lp cp _).mono ?_; rintro e w9 ⟨rfl, b9⟩; rw [HW.out]; have tb := tb.below b9; obtain ⟨d0, d1, d2, d3, d4⟩ := tb.c4; obtain ⟨r0, r1, r2, r3, r4, r5, r6⟩ := tb.r6) | (go_at_call 60; refine (refFiles_kind q.c q.a q.n Ao As Ap lo co ls cs lp cp _).mono ?_; rintro e w9 ⟨rfl, b9⟩; rw [HF.out]; have tb := tb.below b9; obtain ⟨d0, d1, d2, d3, d4⟩ := tb.c4; obtain ⟨r0, r1, r2, r3, r4, r5, r6⟩ := tb.r6))
          go_loopw [6] (fun i wr => ∃ k : Nat, k ≤ mf ∧ i = .int .i64 k ∧ TB w w.heap.size (.cells #[.int .i64 q.c, .int .i64 q.a, .int .i64 q.n, .slice Ao lo co, .slice As ls cs, .slice Ap lp cp] 68 (0, 0)) (.cells #[.int .i64 r.x, .slice Bo mo eo, .slice Bs ms es, .slice Bf mf ef] 30 (0, 0)) wr ∧ Hid (∀ j, j < k → ((nthF r.fs j).length : Int) = nth q.fl (3 * j + 2))) (fun i _ => mf - (intOf i).toNat)
          case atStart => exact ⟨0, by omega, rfl, tb, Lib.hid (fun j h => by omega)⟩
          case round =>
            clear d0 d1 d2 d3 d4 r0 r1 r2 r3 r4 r5 r6 tb
            obtain ⟨k, hk, rfl, tb, hs⟩ := hrel
            by_cases hlt : k < mf
            · exact absurd hlt (by omega)
            · obtain rfl : k = mf := by omega
              have hl : Hid (E = 0) := Lib.hid (by rw [HEM.out, HM2.out, fitsB_yes (by rw [H0.out.lp, HMF.out, HLE.out]) (fun i hi => hs.out i (by rw [← HMF.out]; exact hi))]; rfl)
              obtain ⟨d0, d1, d2, d3, d4⟩ := tb.c4; obtain ⟨r0, r1, r2, r3, r4, r5, r6⟩ := tb.r6
              go_wp2
              go_ret
              exact ⟨by rw [hl.out]; rfl, tb.bel⟩
        · have u3 : ((mf : Int) != (lp : Int)) = true := by simp; omega
          have u4 : ((mf : Int) == (lp : Int)) = false := beq_false_of_ne (by omega)
          have HN : Hid (manyB q r = false) := Lib.hid (by rw [HM2.out]; exact fitsB_len (by rw [H0.out.lp, HMF.out]; omega))
          clear he
          have hl : Hid (E = 22) := Lib.hid (by rw [HEM.out, HN.out]; rfl)
          clear HE HS
          go_enter Tryz.func30, Tryz.ntmps30
          go_wp2_with fail
          refine HC.out.mono ?_
          rintro e w1 ⟨rfl, b1⟩
          have tb := tb.below b1
          clear b1
          obtain ⟨d0, d1, d2, d3, d4⟩ := tb.c4; obtain ⟨r0, r1, r2, r3, r4, r5, r6⟩ := tb.r6
          go_wp2_with (first | (go_at_call 58; refine (refKindBits_any q.c q.a q.n Ao As Ap lo co ls cs lp cp _).mono ?_; rintro e w9 ⟨rfl, b9⟩; rw [HB.out]; have tb := tb.below b9; obtain ⟨d0, d1, d2, d3, d4⟩ := tb.c4; obtain ⟨r0, r1, r2, r3, r4, r5, r6⟩ := tb.r6) | (go_at_call 59; refine (refWords_kind q.c q.a q.n Ao As Ap lo co ls cs lp cp _).mono ?_; rintro e w9 ⟨rfl, b9⟩; rw [HW.out]; have tb := tb.below b9; obtain ⟨d0, d1, d2, d3, d4⟩ := tb.c4; obtain ⟨r0, r1, r2, r3, r4, r5, r6⟩ := tb.r6) | (go_at_call 60; refine (refFiles_kind q.c q.a q.n Ao As Ap lo co ls cs lp cp _).mono ?_; rintro e w9 ⟨rfl, b9⟩; rw [HF.out]; have tb := tb.below b9; obtain ⟨d0, d1, d2, d3, d4⟩ := tb.c4; obtain ⟨r0, r1, r2, r3, r4, r5, r6⟩ := tb.r6))
          go_ret
          exact ⟨by rw [hl.out]; rfl, tb.bel⟩
end Go.Proofs.YtcmbdhmhkfhjfaaGreat
namespace Go.Proofs.YtcmbdhmhkfhjfaaGreat
open Go.RowKit
set_option linter.unusedVariables false

set_option maxHeartbeats 4000000 in
set_option maxRecDepth 100000 in
theorem refRp_else (q : Req) (r : Rep) (Ao As Ap Bo Bs Bf : Option Addr) (lo ls lp co cs cp mo ms mf eo es ef : Nat) (w : World) (h : Asked w w.heap.size q Ao As Ap lo ls lp) (hr : Repd w w.heap.size r Bo Bs Bf mo ms mf) (hb : lp ≤ 100000) (hk : chkQ q = 0) (hx : r.x = 0) (hc : ¬ (q.c = 1 ∨ q.c = 2) ∧ ¬ (q.c = 3 ∨ q.c = 4) ∧ ¬ (q.c = 20)) :
    Calls Tryz.prog 30 #[.agg #[.int .i64 q.c, .int .i64 q.a, .int .i64 q.n, .slice Ao lo co, .slice As ls cs, .slice Ap lp cp], .agg #[.int .i64 r.x, .slice Bo mo eo, .slice Bs ms es, .slice Bf mf ef]] w fun e w' => e = .returned (.int .i64 (chkR q r)) ∧ Below w.heap.size w w' := by
  have tb := TB.new2 w #[.int .i64 q.c, .int .i64 q.a, .int .i64 q.n, .slice Ao lo co, .slice As ls cs, .slice Ap lp cp] #[.int .i64 r.x, .slice Bo mo eo, .slice Bs ms es, .slice Bf mf ef] 68 30
  have hsz : w.heap.size ≤ ((w.alloc (.cells #[.int .i64 q.c, .int .i64 q.a, .int .i64 q.n, .slice Ao lo co, .slice As ls cs, .slice Ap lp cp] 68)).alloc (.cells #[.int .i64 r.x, .slice Bo mo eo, .slice Bs ms es, .slice Bf mf ef] 30)).heap.size := tb.bel.size
  have H0 := Lib.hid h
  have HR0 := Lib.hid hr
  have H := Lib.hid ((h.below tb.bel).more hsz)
  obtain ⟨E, hE⟩ : ∃ E, Hid (chkR q r = E) := ⟨_, Lib.hid rfl⟩
  rw [hE.out]
  have HMO := Lib.hid hr.mo
  have HMS := Lib.hid hr.ms
  have HMF := Lib.hid hr.mf
  have HC := Lib.hid (refCheck_any q Ao As Ap lo ls lp co cs cp _ H.out)
  rw [chkQ_of H.out, hk] at HC
  have HB : Hid (clB q.c = false) := Lib.hid (decide_eq_false (by omega))
  have HW : Hid (clW q.c = false) := Lib.hid (decide_eq_false (by omega))
  have HF : Hid (clF q.c = false) := Lib.hid (decide_eq_false (by omega))
  have HS : Hid (strayB q.c mo ms mf = anyB mo ms mf) := Lib.hid (by unfold strayB; rw [if_neg (show ¬ (q.c = 1 ∨ q.c = 2) by omega), if_neg (show ¬ (q.c = 3 ∨ q.c = 4) by omega), if_neg (show ¬ (q.c = 20) by omega)])
  have HM2 : Hid (manyB q r = true) := Lib.hid (by unfold manyB; rw [if_neg (show ¬ (q.c = 1 ∨ q.c = 2) by omega), if_neg (show ¬ (q.c = 3 ∨ q.c = 4) by omega), if_neg (show ¬ (q.c = 20) by omega)])
  have HE : Hid (E = if strayB q.c mo ms mf = true then 23 else if manyB q r = false then 22 else 0) := Lib.hid (by
    rw [← hE.out]; unfold chkR; rw [if_neg (show ¬ chkQ q ≠ 0 by rw [hk]; simp), if_neg (show ¬ r.x ≠ 0 by simp [hx]), HMO.out, HMS.out, HMF.out])
  have u1 : (r.x != 0) = false := by simp [hx]
  have u2 : (r.x == 0) = true := by simp [hx]
  clear h hr hk hx hE H hc
  by_cases g1 : 0 < mo
  · have g1' : (0 : Int) < (mo : Int) := by omega
    by_cases g2 : 0 < ms
    · have g2' : (0 : Int) < (ms : Int) := by omega
      by_cases g3 : 0 < mf
      · have g3' : (0 : Int) < (mf : Int) := by omega
        have hl : Hid (E = 23) := Lib.hid (by rw [HE.out, HS.out, if_pos (by simp [anyB]; omega)])
        clear HE HS
        go_enter Tryz.func30, Tryz.ntmps30
        go_wp2_with fail
        refine HC.out.mono ?_
        rintro e w1 ⟨rfl, b1⟩
        have tb := tb.below b1
        clear b1
        obtain ⟨d0, d1, d2, d3, d4⟩ := tb.c4; obtain ⟨r0, r1, r2, r3, r4, r5, r6⟩ := tb.r6
        go_wp2_with (first | (go_at_call 58; refine (refKindBits_any q.c q.a q.n Ao As Ap lo co ls cs lp cp _).mono ?_; rintro e w9 ⟨rfl, b9⟩; rw [HB.out]; have tb := tb.below b9; obtain ⟨d0, d1, d2, d3, d4⟩ := tb.c4; obtain ⟨r0, r1, r2, r3, r4, r5, r6⟩ := tb.r6) | (go_at_call 59; refine (refWords_kind q.c q.a q.n Ao As Ap lo co ls cs lp cp _).mono ?_; rintro e w9 ⟨rfl, b9⟩; rw [HW.out]; have tb := tb.below b9; obtain ⟨d0, d1, d2, d3, d4⟩ := tb.c4; obtain ⟨r0, r1, r2, r3, r4, r5, r6⟩ := tb.r6) | (go_at_call 60; refine (refFiles_kind q.c q.a q.n Ao As Ap lo co ls cs lp cp _).mono ?_; rintro e w9 ⟨rfl, b9⟩; rw [HF.out]; have tb := tb.below b9; obtain ⟨d0, d1, d2, d3, d4⟩ := tb.c4; obtain ⟨r0, r1, r2, r3, r4, r5, r6⟩ := tb.r6))
        go_ret
        exact ⟨by rw [hl.out]; rfl, tb.bel⟩
      · have g3' : ¬ (0 : Int) < (mf : Int) := by omega
        have hl : Hid (E = 23) := Lib.hid (by rw [HE.out, HS.out, if_pos (by simp [anyB]; omega)])
        clear HE HS
        go_enter Tryz.func30, Tryz.ntmps30
        go_wp2_with fail
        refine HC.out.mono ?_
        rintro e w1 ⟨rfl, b1⟩
        have tb := tb.below b1
        clear b1
        obtain ⟨d0, d1, d2, d3, d4⟩ := tb.c4; obtain ⟨r0, r1, r2, r3, r4, r5, r6⟩ := tb.r6
        go_wp2_with (first | (go_at_call 58; refine (refKindBits_any q.c q.a q.n Ao As Ap lo co ls cs lp cp _).mono ?_; rintro e w9 ⟨rfl, b9⟩; rw [HB.out]; have tb := tb.below b9; obtain ⟨d0, d1, d2, d3, d4⟩ := tb.c4; obtain ⟨r0, r1, r2, r3, r4, r5, r6⟩ := tb.r6) | (go_at_call 59; refine (refWords_kind q.c q.a q.n Ao As Ap lo co ls cs lp cp _).mono ?_; rintro e w9 ⟨rfl, b9⟩; rw [HW.out]; have tb := tb.below b9; obtain ⟨d0, d1, d2, d3, d4⟩ := tb.c4; obtain ⟨r0, r1, r2, r3, r4, r5, r6⟩ := tb.r6) | (go_at_call 60; refine (refFiles_kind q.c q.a q.n Ao As Ap lo co ls cs lp cp _).mono ?_; rintro e w9 ⟨rfl, b9⟩; rw [HF.out]; have tb := tb.below b9; obtain ⟨d0, d1, d2, d3, d4⟩ := tb.c4; obtain ⟨r0, r1, r2, r3, r4, r5, r6⟩ := tb.r6))
        go_ret
        exact ⟨by rw [hl.out]; rfl, tb.bel⟩
    · have g2' : ¬ (0 : Int) < (ms : Int) := by omega
      by_cases g3 : 0 < mf
      · have g3' : (0 : Int) < (mf : Int) := by omega
        have hl : Hid (E = 23) := Lib.hid (by rw [HE.out, HS.out, if_pos (by simp [anyB]; omega)])
        clear HE HS
        go_enter Tryz.func30, Tryz.ntmps30
        go_wp2_with fail
        refine HC.out.mono ?_
        rintro e w1 ⟨rfl, b1⟩
        have tb := tb.below b1
        clear b1
        obtain ⟨d0, d1, d2, d3, d4⟩ := tb.c4; obtain ⟨r0, r1, r2, r3, r4, r5, r6⟩ := tb.r6
        go_wp2_with (first | (go_at_call 58; refine (refKindBits_any q.c q.a q.n Ao As Ap lo co ls cs lp cp _).mono ?_; rintro e w9 ⟨rfl, b9⟩; rw [HB.out]; have tb := tb.below b9; obtain ⟨d0, d1, d2, d3, d4⟩ := tb.c4; obtain ⟨r0, r1, r2, r3, r4, r5, r6⟩ := tb.r6) | (go_at_call 59; refine (refWords_kind q.c q.a q.n Ao As Ap lo co ls cs lp cp _).mono ?_; rintro e w9 ⟨rfl, b9⟩; rw [HW.out]; have tb := tb.below b9; obtain ⟨d0, d1, d2, d3, d4⟩ := tb.c4; obtain ⟨r0, r1, r2, r3, r4, r5, r6⟩ := tb.r6) | (go_at_call 60; refine (refFiles_kind q.c q.a q.n Ao As Ap lo co ls cs lp cp _).mono ?_; rintro e w9 ⟨rfl, b9⟩; rw [HF.out]; have tb := tb.below b9; obtain ⟨d0, d1, d2, d3, d4⟩ := tb.c4; obtain ⟨r0, r1, r2, r3, r4, r5, r6⟩ := tb.r6))
        go_ret
        exact ⟨by rw [hl.out]; rfl, tb.bel⟩
      · have g3' : ¬ (0 : Int) < (mf : Int) := by omega
        have hl : Hid (E = 23) := Lib.hid (by rw [HE.out, HS.out, if_pos (by simp [anyB]; omega)])
        clear HE HS
        go_enter Tryz.func30, Tryz.ntmps30
        go_wp2_with fail
        refine HC.out.mono ?_
        rintro e w1 ⟨rfl, b1⟩
        have tb := tb.below b1
        clear b1
        obtain ⟨d0, d1, d2, d3, d4⟩ := tb.c4; obtain ⟨r0, r1, r2, r3, r4, r5, r6⟩ := tb.r6
        go_wp2_with (first | (go_at_call 58; refine (refKindBits_any q.c q.a q.n Ao As Ap lo co ls cs lp cp _).mono ?_; rintro e w9 ⟨rfl, b9⟩; rw [HB.out]; have tb := tb.below b9; obtain ⟨d0, d1, d2, d3, d4⟩ := tb.c4; obtain ⟨r0, r1, r2, r3, r4, r5, r6⟩ := tb.r6) | (go_at_call 59; refine (refWords_kind q.c q.a q.n Ao As Ap lo co ls cs lp cp _).mono ?_; rintro e w9 ⟨rfl, b9⟩; rw [HW.out]; have tb := tb.below b9; obtain ⟨d0, d1, d2, d3, d4⟩ := tb.c4; obtain ⟨r0, r1, r2, r3, r4, r5, r6⟩ := tb.r6) | (go_at_call 60; refine (refFiles_kind q.c q.a q.n Ao As Ap lo co ls cs lp cp _).mono ?_; rintro e w9 ⟨rfl, b9⟩; rw [HF.out]; have tb := tb.below b9; obtain ⟨d0, d1, d2, d3, d4⟩ := tb.c4; obtain ⟨r0, r1, r2, r3, r4, r5, r6⟩ := tb.r6))
        go_ret
        exact ⟨by rw [hl.out]; rfl, tb.bel⟩
  · have g1' : ¬ (0 : Int) < (mo : Int) := by omega
    by_cases g2 : 0 < ms
    · have g2' : (0 : Int) < (ms : Int) := by omega
      by_cases g3 : 0 < mf
      · have g3' : (0 : Int) < (mf : Int) := by omega
        have hl : Hid (E = 23) := Lib.hid (by rw [HE.out, HS.out, if_pos (by simp [anyB]; omega)])
        clear HE HS
        go_enter Tryz.func30, Tryz.ntmps30
        go_wp2_with fail
        refine HC.out.mono ?_
        rintro e w1 ⟨rfl, b1⟩
        have tb := tb.below b1
        clear b1
        obtain ⟨d0, d1, d2, d3, d4⟩ := tb.c4; obtain ⟨r0, r1, r2, r3, r4, r5, r6⟩ := tb.r6
        go_wp2_with (first | (go_at_call 58; refine (refKindBits_any q.c q.a q.n Ao As Ap lo co ls cs lp cp _).mono ?_; rintro e w9 ⟨rfl, b9⟩; rw [HB.out]; have tb := tb.below b9; obtain ⟨d0, d1, d2, d3, d4⟩ := tb.c4; obtain ⟨r0, r1, r2, r3, r4, r5, r6⟩ := tb.r6) | (go_at_call 59; refine (refWords_kind q.c q.a q.n Ao As Ap lo co ls cs lp cp _).mono ?_; rintro e w9 ⟨rfl, b9⟩; rw [HW.out]; have tb := tb.below b9; obtain ⟨d0, d1, d2, d3, d4⟩ := tb.c4; obtain ⟨r0, r1, r2, r3, r4, r5, r6⟩ := tb.r6) | (go_at_call 60; refine (refFiles_kind q.c q.a q.n Ao As Ap lo co ls cs lp cp _).mono ?_; rintro e w9 ⟨rfl, b9⟩; rw [HF.out]; have tb := tb.below b9; obtain ⟨d0, d1, d2, d3, d4⟩ := tb.c4; obtain ⟨r0, r1, r2, r3, r4, r5, r6⟩ := tb.r6))
        go_ret
        exact ⟨by rw [hl.out]; rfl, tb.bel⟩
      · have g3' : ¬ (0 : Int) < (mf : Int) := by omega
        have hl : Hid (E = 23) := Lib.hid (by rw [HE.out, HS.out, if_pos (by simp [anyB]; omega)])
        clear HE HS
        go_enter Tryz.func30, Tryz.ntmps30
        go_wp2_with fail
        refine HC.out.mono ?_
        rintro e w1 ⟨rfl, b1⟩
        have tb := tb.below b1
        clear b1
        obtain ⟨d0, d1, d2, d3, d4⟩ := tb.c4; obtain ⟨r0, r1, r2, r3, r4, r5, r6⟩ := tb.r6
        go_wp2_with (first | (go_at_call 58; refine (refKindBits_any q.c q.a q.n Ao As Ap lo co ls cs lp cp _).mono ?_; rintro e w9 ⟨rfl, b9⟩; rw [HB.out]; have tb := tb.below b9; obtain ⟨d0, d1, d2, d3, d4⟩ := tb.c4; obtain ⟨r0, r1, r2, r3, r4, r5, r6⟩ := tb.r6) | (go_at_call 59; refine (refWords_kind q.c q.a q.n Ao As Ap lo co ls cs lp cp _).mono ?_; rintro e w9 ⟨rfl, b9⟩; rw [HW.out]; have tb := tb.below b9; obtain ⟨d0, d1, d2, d3, d4⟩ := tb.c4; obtain ⟨r0, r1, r2, r3, r4, r5, r6⟩ := tb.r6) | (go_at_call 60; refine (refFiles_kind q.c q.a q.n Ao As Ap lo co ls cs lp cp _).mono ?_; rintro e w9 ⟨rfl, b9⟩; rw [HF.out]; have tb := tb.below b9; obtain ⟨d0, d1, d2, d3, d4⟩ := tb.c4; obtain ⟨r0, r1, r2, r3, r4, r5, r6⟩ := tb.r6))
        go_ret
        exact ⟨by rw [hl.out]; rfl, tb.bel⟩
    · have g2' : ¬ (0 : Int) < (ms : Int) := by omega
      by_cases g3 : 0 < mf
      · have g3' : (0 : Int) < (mf : Int) := by omega
        have hl : Hid (E = 23) := Lib.hid (by rw [HE.out, HS.out, if_pos (by simp [anyB]; omega)])
        clear HE HS
        go_enter Tryz.func30, Tryz.ntmps30
        go_wp2_with fail
        refine HC.out.mono ?_
        rintro e w1 ⟨rfl, b1⟩
        have tb := tb.below b1
        clear b1
        obtain ⟨d0, d1, d2, d3, d4⟩ := tb.c4; obtain ⟨r0, r1, r2, r3, r4, r5, r6⟩ := tb.r6
        go_wp2_with (first | (go_at_call 58; refine (refKindBits_any q.c q.a q.n Ao As Ap lo co ls cs lp cp _).mono ?_; rintro e w9 ⟨rfl, b9⟩; rw [HB.out]; have tb := tb.below b9; obtain ⟨d0, d1, d2, d3, d4⟩ := tb.c4; obtain ⟨r0, r1, r2, r3, r4, r5, r6⟩ := tb.r6) | (go_at_call 59; refine (refWords_kind q.c q.a q.n Ao As Ap lo co ls cs lp cp _).mono ?_; rintro e w9 ⟨rfl, b9⟩; rw [HW.out]; have tb := tb.below b9; obtain ⟨d0, d1, d2, d3, d4⟩ := tb.c4; obtain ⟨r0, r1, r2, r3, r4, r5, r6⟩ := tb.r6) | (go_at_call 60; refine (refFiles_kind q.c q.a q.n Ao As Ap lo co ls cs lp cp _).mono ?_; rintro e w9 ⟨rfl, b9⟩; rw [HF.out]; have tb := tb.below b9; obtain ⟨d0, d1, d2, d3, d4⟩ := tb.c4; obtain ⟨r0, r1, r2, r3, r4, r5, r6⟩ := tb.r6))
        go_ret
        exact ⟨by rw [hl.out]; rfl, tb.bel⟩
      · have g3' : ¬ (0 : Int) < (mf : Int) := by omega
        have HEM : Hid (E = if manyB q r = false then 22 else 0) := Lib.hid (by rw [HE.out, HS.out, if_neg (by simp [anyB]; try omega)])
        clear HE HS
        go_enter Tryz.func30, Tryz.ntmps30
        go_wp2_with fail
        refine HC.out.mono ?_
        rintro e w1 ⟨rfl, b1⟩
        have tb := tb.below b1
        clear b1
        obtain ⟨d0, d1, d2, d3, d4⟩ := tb.c4; obtain ⟨r0, r1, r2, r3, r4, r5, r6⟩ := tb.r6
        go_wp2_with (first | (go_at_call 58; refine (refKindBits_any q.c q.a q.n Ao As Ap lo co ls cs lp cp _).mono ?_; rintro e w9 ⟨rfl, b9⟩; rw [HB.out]; have tb := tb.below b9; obtain ⟨d0, d1, d2, d3, d4⟩ := tb.c4; obtain ⟨r0, r1, r2, r3, r4, r5, r6⟩ := tb.r6) | (go_at_call 59; refine (refWords_kind q.c q.a q.n Ao As Ap lo co ls cs lp cp _).mono ?_; rintro e w9 ⟨rfl, b9⟩; rw [HW.out]; have tb := tb.below b9; obtain ⟨d0, d1, d2, d3, d4⟩ := tb.c4; obtain ⟨r0, r1, r2, r3, r4, r5, r6⟩ := tb.r6) | (go_at_call 60; refine (refFiles_kind q.c q.a q.n Ao As Ap lo co ls cs lp cp _).mono ?_; rintro e w9 ⟨rfl, b9⟩; rw [HF.out]; have tb := tb.below b9; obtain ⟨d0, d1, d2, d3, d4⟩ := tb.c4; obtain ⟨r0, r1, r2, r3, r4, r5, r6⟩ := tb.r6))
        go_loopw [6] (fun i wr => ∃ k : Nat, k ≤ mf ∧ i = .int .i64 k ∧ TB w w.heap.size (.cells #[.int .i64 q.c, .int .i64 q.a, .int .i64 q.n, .slice Ao lo co, .slice As ls cs, .slice Ap lp cp] 68 (0, 0)) (.cells #[.int .i64 r.x, .slice Bo mo eo, .slice Bs ms es, .slice Bf mf ef] 30 (0, 0)) wr ∧ Hid (∀ j, j < k → ((nthF r.fs j).length : Int) = nth q.fl (3 * j + 2))) (fun i _ => mf - (intOf i).toNat)
        case atStart => exact ⟨0, by omega, rfl, tb, Lib.hid (fun j h => by omega)⟩
        case round =>
          clear d0 d1 d2 d3 d4 r0 r1 r2 r3 r4 r5 r6 tb
          obtain ⟨k, hk, rfl, tb, hs⟩ := hrel
          by_cases hlt : k < mf
          · exact absurd hlt (by omega)
          · obtain rfl : k = mf := by omega
            have hl : Hid (E = 0) := Lib.hid (by rw [HEM.out, HM2.out]; rfl)
            obtain ⟨d0, d1, d2, d3, d4⟩ := tb.c4; obtain ⟨r0, r1, r2, r3, r4, r5, r6⟩ := tb.r6
            go_wp2
            go_ret
            exact ⟨by rw [hl.out]; rfl, tb.bel⟩
end Go.Proofs.YtcmbdhmhkfhjfaaGreat
namespace Go.Proofs.YtcmbdhmhkfhjfaaGreat
open Go.RowKit
set_option linter.unusedVariables false

/-- The document's Check, of any answer to any request. -/
theorem refRp_any (q : Req) (r : Rep) (Ao As Ap Bo Bs Bf : Option Addr) (lo ls lp co cs cp mo ms mf eo es ef : Nat) (w : World) (h : Asked w w.heap.size q Ao As Ap lo ls lp) (hr : Repd w w.heap.size r Bo Bs Bf mo ms mf) (hb : lp ≤ 100000) :
    Calls Tryz.prog 30 #[.agg #[.int .i64 q.c, .int .i64 q.a, .int .i64 q.n, .slice Ao lo co, .slice As ls cs, .slice Ap lp cp], .agg #[.int .i64 r.x, .slice Bo mo eo, .slice Bs ms es, .slice Bf mf ef]] w fun e w' => e = .returned (.int .i64 (chkR q r)) ∧ Below w.heap.size w w' := by
  by_cases hk : chkQ q = 0
  · by_cases hx : r.x = 0
    · by_cases h1 : q.c = 1 ∨ q.c = 2
      · exact refRp_bits q r Ao As Ap Bo Bs Bf lo ls lp co cs cp mo ms mf eo es ef w h hr hb hk hx h1
      · by_cases h2 : q.c = 3 ∨ q.c = 4
        · exact refRp_words q r Ao As Ap Bo Bs Bf lo ls lp co cs cp mo ms mf eo es ef w h hr hb hk hx h2
        · by_cases h3 : q.c = 20
          · exact refRp_files q r Ao As Ap Bo Bs Bf lo ls lp co cs cp mo ms mf eo es ef w h hr hb hk hx h3
          · exact refRp_else q r Ao As Ap Bo Bs Bf lo ls lp co cs cp mo ms mf eo es ef w h hr hb hk hx ⟨h1, h2, h3⟩
    · exact refRp_exc q r Ao As Ap Bo Bs Bf lo ls lp co cs cp mo ms mf eo es ef w h hr hb hk hx
  · exact refRp_bad q r Ao As Ap Bo Bs Bf lo ls lp co cs cp mo ms mf eo es ef w h hr hb hk
end Go.Proofs.YtcmbdhmhkfhjfaaGreat
namespace Go.Proofs.YtcmbdhmhkfhjfaaGreat
open Go.RowKit
set_option linter.unusedVariables false

/-- The slice v is nil and xs empty, or v begins a block of the call's own, whose cells are the integers xs, and others behind them. -/
def KOwn (k : IntKind) (e : TypeId) (w : World) (base : Nat) (v : Value) (xs : List Int) : Prop :=
  (v = .slice none 0 0 ∧ xs = []) ∨
  ∃ (g n cap : Nat) (r : List Int), v = .slice (some ⟨g, 0, none⟩) n cap ∧ base ≤ g ∧ xs.length = n ∧ w.heap[g]? = some (.cells (blk k (xs ++ r)) e (0, 0)) ∧ n ≤ cap ∧ cap ≤ maxLen ∧ xs.length + r.length = cap ∧ (∀ x ∈ r, (Lit.int k x).wf = true)
theorem KOwn.nil (k : IntKind) (e : TypeId) (w : World) (base : Nat) : KOwn k e w base (.slice none 0 0) [] := .inl ⟨rfl, rfl⟩
theorem KOwn.below {k : IntKind} {e : TypeId} {w w' : World} {base B : Nat} {v : Value} {xs : List Int} (h : KOwn k e w base v xs) (hb : Below B w w') (hB : w.heap.size ≤ B) : KOwn k e w' base v xs := by
  rcases h with h | ⟨g, n, cap, r, h1, h2, h3, h4, h5⟩
  · exact .inl h
  · exact .inr ⟨g, n, cap, r, h1, h2, h3, (hb.block g (by have := block_lt h4; omega)).trans h4, h5⟩
theorem KOwn.drewN {k : IntKind} {e : TypeId} {w : World} {base : Nat} {v : Value} {xs : List Int} (h : KOwn k e w base v xs) (n : Nat) : KOwn k e (w.drewN n) base v xs := h
theorem KOwn.mono {k : IntKind} {e : TypeId} {w : World} {base base' : Nat} {v : Value} {xs : List Int} (h : KOwn k e w base v xs) (hb : base' ≤ base) : KOwn k e w base' v xs := by
  rcases h with h | ⟨g, n, cap, r, h1, h2, h3⟩
  · exact .inl h
  · exact .inr ⟨g, n, cap, r, h1, by omega, h3⟩
theorem KOwn.block {k : IntKind} {e : TypeId} {w : World} {base : Nat} {v : Value} {xs : List Int} (h : KOwn k e w base v xs) : ∀ g, v.ownBlock = some g → base ≤ g ∧ g < w.heap.size := by
  intro g hg
  rcases h with ⟨rfl, _⟩ | ⟨g', n, cap, r, rfl, h2, h3, h4, h5⟩
  · cases hg
  · injection hg with hg
    subst hg
    exact ⟨h2, block_lt h4⟩
theorem KOwn.own {k : IntKind} {e : TypeId} {w : World} {base : Nat} {v : Value} {xs : List Int} (h : KOwn k e w base v xs) : Own k e w base v xs := by
  rcases h with ⟨rfl, rfl⟩ | ⟨g, n, cap, r, rfl, h2, h3, h4, h5, h6, h7, _⟩
  · exact Own.nil _ _ _ _
  · subst h3
    refine ⟨by simp, .inr ⟨g, cap, _, rfl, h2, h4, h5, h6, by rw [blk_size, List.length_append]; omega, ?_⟩⟩
    rw [Nat.mul_one]
    simp only [blk, List.map_append]
    rw [List.take_left' (by simp)]
theorem KOwn.row {k : IntKind} {e : TypeId} {w : World} {base : Nat} {v : Value} {xs : List Int} (h : KOwn k e w base v xs) (hw : ∀ x ∈ xs, (Lit.int k x).wf = true) :
    ∃ A c, v = .slice A xs.length c ∧ Row k w w.heap.size A xs ∧ xs.length ≤ c ∧ c ≤ maxLen := h.own.row hw
theorem KOwn.kept {k : IntKind} {e : TypeId} {w w' : World} {base : Nat} {v : Value} {xs : List Int} {row : Option Nat} (h : KOwn k e w base v xs) (hg : w.grownBy w' row) (hne : v.ownBlock = none ∨ v.ownBlock ≠ row) : KOwn k e w' base v xs := by
  rcases h with h | ⟨g, n, cap, r, rfl, h2, h3, h4, h5⟩
  · exact .inl h
  · refine .inr ⟨g, n, cap, r, rfl, h2, h3, (hg.block g (block_lt h4) ?_).trans h4, h5⟩
    rcases hne with h | h
    · cases h
    · exact h

section
variable {P : Program}
theorem zero_one (k : IntKind) (m : Nat) : Builtin.zeroCells (Value.int k 0).cells m = blk k (List.replicate m 0) := by
  have h := toList_madeCells_one (Value.int k 0) m
  apply Array.toList_inj.1
  show (madeCells (Value.int k 0).cells (m * 1)).toList = _
  rw [Nat.mul_one, show (Value.int k 0).cells = #[Value.int k 0] from rfl, h]
  simp [blk]
theorem run_append_full (w : World) (t : TypeId) (k : IntKind) (e : TypeId) (bytes : Nat) (ht : P.underlying t = some (.slice e)) (hi : (P.info? e).map (fun i => (i.zero, i.size, i.bytes)) = some (some (.int k 0), 1, bytes))
    (g n : Nat) (xs : List Int) (hg : w.heap[g]? = some (.cells (blk k xs) e (0, 0))) (hn : xs.length = n) (B : Nat) (A : Option Addr) (m c : Nat) (ys : List Int) (hr : Row k w B A ys) (hm : ys.length = m) (h1 : 1 ≤ m)
    (hb : (n + m) * bytes ≤ 140737488355328) (h63 : n + m ≤ maxLen) :
    ∃ cap, (∀ ty, (Builtin.append_ #[t, t] ty #[.slice (some ⟨g, 0, none⟩) n n, .slice A m c]).run P w = .ok (.slice (some ⟨w.heap.size, 0, none⟩) (n + m) cap) (w.drew.alloc (.cells (blk k (xs ++ ys ++ List.replicate (cap - (n + m)) 0)) e))) ∧ n + m ≤ cap ∧ cap ≤ maxLen := by
  obtain ⟨i, hi1, hz, hsz, hby⟩ := info_parts hi
  have h64 := h63
  simp only [maxLen] at h64
  obtain ⟨b, o, rfl, _, hc⟩ := hr.2 (by omega)
  have holds : ∀ j u, (xs.map (Value.int k))[j]? = some u → w.cell? ((⟨g, 0, none⟩ : Addr).add j) = some u := by
    intro j u hu
    rw [Go.WideShapes.add_plain, Nat.zero_add, cell_of_row w g j _ _ _ hg]
    simpa [blk] using hu
  have hnews : ∀ j u, (ys.map (Value.int k))[j]? = some u → w.cell? ((⟨b, o, none⟩ : Addr).add j) = some u := by
    intro j u hu
    rw [List.getElem?_map] at hu
    by_cases hj : j < ys.length
    · rw [List.getElem?_eq_getElem hj] at hu
      rw [Go.WideShapes.add_plain, hc j hj, nth_eq ys j hj]
      exact hu
    · rw [List.getElem?_eq_none (by omega)] at hu
      cases hu
  have hr := fun ty => run_append_grow (P := P) w t ty e i _ ht hi1 hz ⟨g, 0, none⟩ n n (xs.map (Value.int k)) (by rw [hsz]; simp; omega) holds ⟨b, o, none⟩ m c (ys.map (Value.int k)) (by rw [hsz]; simp; omega) hnews (by omega) (by omega) (growslice_fits (by omega) (by rw [hby]; omega))
  have hge := grownCap_ge w (n + m) n e
  refine ⟨grownCap w (n + m) n e, fun ty => ?_, hge, grownCap_le_maxLen w (n + m) n e h63⟩
  rw [hr ty, zero_one]
  congr 3
  apply Array.toList_inj.1
  simp [blk]
/-- An append whose outcome is known. -/
theorem wpList_append_run {ops : Array Oper} {rest : List Oper} {o : Oper} {a : Act} {Q : Exit → Act → World → Prop} (w : World) (hgd : o.guard = none) (s x : Operand) (t : TypeId)
    (ho : o.op = .call { callee := .builtin .append, args := #[s, x], argTypes := #[t, t] }) (v u v' : Value) (w' : World) (hs : a.eval s = v) (hx : a.eval x = u)
    (hrun : ∀ ty, (Builtin.append_ #[t, t] ty #[v, u]).run P w = .ok v' w') (h : wpList P ops Q rest (a.put o.dst v') w') : wpList P ops Q (o :: rest) a w := by
  refine wpList_plain hgd fun K hK => ?_
  unfold Oper.wp
  simp [execOp, ho, resolve, invoke, builtin, hs, hx, hrun, Result.andThen]
  exact hK _ _ h
theorem step_append_run {ops : Array Oper} {o : Oper} {a : Act} {K : Act → World → Prop} {Q : Exit → Act → World → Prop} {E : Prop} (w : World) (hgd : o.guard = none) (s x : Operand) (t : TypeId)
    (ho : o.op = .call { callee := .builtin .append, args := #[s, x], argTypes := #[t, t] }) (v u v' : Value) (w' : World) (hs : a.eval s = v) (hx : a.eval x = u)
    (hrun : ∀ ty, (Builtin.append_ #[t, t] ty #[v, u]).run P w = .ok v' w') (h : K (a.put o.dst v') w') :
    if Region.wanted o (yielded ops a.tmps) = true then Oper.wp P o a w K Q else E := by
  have hw : Region.wanted o (yielded ops a.tmps) = true := by simp [Region.wanted, hgd]
  rw [if_pos hw]
  unfold Oper.wp execOp
  simp only [ho, resolve, invoke, builtin, Sem.run_bind, Sem.run_pure, Result.andThen_ok, List.map_toArray, List.map_cons, List.map_nil, hs, hx, hrun]
  exact h
end
end Go.Proofs.YtcmbdhmhkfhjfaaGreat
namespace Go.Proofs.YtcmbdhmhkfhjfaaGreat
open Go.RowKit
set_option linter.unusedVariables false

theorem zeros_wfK (k : IntKind) (m : Nat) : ∀ x ∈ List.replicate m (0 : Int), (Lit.int k x).wf = true := fun x hx => by
  rw [List.eq_of_mem_replicate hx]; cases k <;> decide
section
variable {P : Program}
theorem run_append_K (w : World) (base : Nat) (t : TypeId) (k : IntKind) (e : TypeId) (bytes : Nat) (ht : P.underlying t = some (.slice e)) (hi : (P.info? e).map (fun i => (i.zero, i.size, i.bytes)) = some (some (.int k 0), 1, bytes))
    (v : Value) (xs : List Int) (hown : KOwn k e w base v xs) (B : Nat) (A : Option Addr) (m c : Nat) (ys : List Int) (hr : Row k w B A ys) (hm : ys.length = m) (h1 : 1 ≤ m)
    (hbytes : (xs.length + m) * bytes ≤ 140737488355328) (h63 : xs.length + m ≤ maxLen) (hbase : base ≤ w.heap.size) :
    ∃ v' w', (∀ ty, (Builtin.append_ #[t, t] ty #[v, .slice A m c]).run P w = .ok v' w') ∧ KOwn k e w' base v' (xs ++ ys) ∧ w.grownBy w' v.ownBlock ∧ (v'.ownBlock = some w.heap.size ∨ (v'.ownBlock = v.ownBlock ∧ v.ownBlock ≠ none)) ∧ ∃ A' n' c', v' = .slice A' n' c' := by
  obtain ⟨i, hi1, hz, hsz, hby⟩ := info_parts hi
  have h64 := h63
  simp only [maxLen] at h64
  obtain ⟨b, o, rfl, _, hc⟩ := hr.2 (by omega)
  have hnews : ∀ j u, (ys.map (Value.int k))[j]? = some u → w.cell? ((⟨b, o, none⟩ : Addr).add j) = some u := by
    intro j u hu
    rw [List.getElem?_map] at hu
    by_cases hj : j < ys.length
    · rw [List.getElem?_eq_getElem hj] at hu
      rw [Go.WideShapes.add_plain, hc j hj, nth_eq ys j hj]
      exact hu
    · rw [List.getElem?_eq_none (by omega)] at hu
      cases hu
  have hnl : (ys.map (Value.int k)).length = m * i.size := by rw [List.length_map, hsz, hm, Nat.mul_one]
  rcases hown with ⟨rfl, rfl⟩ | ⟨g, n, cap, r, rfl, h2, h3, h4, h5, h6, h7, h8⟩
  · simp only [List.length_nil, Nat.zero_add] at hbytes h63 h64
    have hrun := fun ty => run_append_nil (P := P) w t ty e i _ ht hi1 hz ⟨b, o, none⟩ m c (ys.map (Value.int k)) hnl hnews (by omega) (by omega) (by rw [hby]; omega)
    have hge := grownCap_ge w m 0 e
    refine ⟨_, _, hrun, .inr ⟨w.heap.size, m, grownCap w m 0 e, List.replicate (grownCap w m 0 e - m) 0, rfl, hbase, by simpa using hm, ?_, hge, grownCap_le_maxLen w m 0 e h63, by simp; omega, zeros_wfK _ _⟩, ⟨rfl, rfl, rfl, by simp, fun q hq _ => heap_alloc_old w.drew _ hq⟩, .inl rfl, _, _, _, rfl⟩
    rw [zero_one, show ((ys.map (Value.int k)).toArray ++ blk k (List.replicate (grownCap w m 0 e - m) 0)) = blk k ([] ++ ys ++ List.replicate (grownCap w m 0 e - m) 0) by simp [blk]]
    exact heap_alloc_new w.drew _
  · by_cases hroom : n + m ≤ cap
    · have hsz4 : (blk k (xs ++ r)).size = cap := by rw [blk_size, List.length_append]; exact h7
      have hrun := fun ty => run_append_room (P := P) w t ty e i ht hi1 g n cap (blk k (xs ++ r)) h4 ⟨b, o, none⟩ m c (ys.map (Value.int k)) hnl hnews (ints_oneCell k ys) hroom (by rw [hsz4, hsz, Nat.mul_one, List.length_map]; omega)
      refine ⟨_, _, hrun, .inr ⟨g, n + m, cap, r.drop m, rfl, h2, by rw [List.length_append]; omega, ?_, hroom, h6, by rw [List.length_append, List.length_drop]; omega, fun x hx => h8 x (List.mem_of_mem_drop hx)⟩, ⟨rfl, rfl, rfl, by simp, fun q _ hq => setRow_other w g q _ (fun e => hq (by simp [Value.ownBlock, e]))⟩, .inr ⟨rfl, by simp [Value.ownBlock]⟩, _, _, _, rfl⟩
      have hcells : ((blk k (xs ++ r)).toList.take (n * i.size) ++ ys.map (Value.int k) ++ (blk k (xs ++ r)).toList.drop (n * i.size + (ys.map (Value.int k)).length)).toArray = blk k (xs ++ ys ++ r.drop m) := by
        rw [hsz, Nat.mul_one, List.length_map, hm]
        simp only [blk, List.map_append, ← h3]
        congr 1
        rw [List.take_left' (by simp), ← List.drop_drop, List.drop_left' (by simp), List.map_drop]
      rw [hcells]
      exact setRow_heap w g _ _ e _ h4
    · have holds : ∀ j u, (xs.map (Value.int k))[j]? = some u → w.cell? ((⟨g, 0, none⟩ : Addr).add j) = some u := by
        intro j u hu
        have hj : j < xs.length := by have := (List.getElem?_eq_some_iff.1 hu).1; simpa using this
        rw [Go.WideShapes.add_plain, Nat.zero_add, cell_of_row w g j _ _ _ h4, blk_get _ _ _ (by rw [List.length_append]; omega), nth_left _ _ _ hj]
        rw [List.getElem?_map, List.getElem?_eq_getElem hj] at hu
        rw [nth_eq _ _ hj]
        exact hu
      have hrun := fun ty => run_append_grow (P := P) w t ty e i _ ht hi1 hz ⟨g, 0, none⟩ n cap (xs.map (Value.int k)) (by rw [hsz]; simp; omega) holds ⟨b, o, none⟩ m c (ys.map (Value.int k)) hnl hnews (by omega) (by omega) (growslice_fits (by omega) (by rw [hby, ← h3]; exact hbytes))
      have hge := grownCap_ge w (n + m) cap e
      refine ⟨_, _, hrun, .inr ⟨w.heap.size, n + m, grownCap w (n + m) cap e, List.replicate (grownCap w (n + m) cap e - (n + m)) 0, rfl, hbase, by rw [List.length_append]; omega, ?_, hge, grownCap_le_maxLen w (n + m) cap e (by omega), by rw [List.length_append, List.length_replicate]; omega, zeros_wfK _ _⟩, ⟨rfl, rfl, rfl, by simp, fun q hq _ => heap_alloc_old w.drew _ hq⟩, .inl rfl, _, _, _, rfl⟩
      rw [zero_one, show ((xs.map (Value.int k)).toArray ++ (ys.map (Value.int k)).toArray ++ blk k (List.replicate (grownCap w (n + m) cap e - (n + m)) 0)) = blk k (xs ++ ys ++ List.replicate (grownCap w (n + m) cap e - (n + m)) 0) by simp [blk]]
      exact heap_alloc_new w.drew _
theorem step_append_K {ops : Array Oper} {o : Oper} {a : Act} {K : Act → World → Prop} {Q : Exit → Act → World → Prop} {E : Prop} (w : World) (hgd : o.guard = none) (s x : Operand) (t : TypeId)
    (ho : o.op = .call { callee := .builtin .append, args := #[s, x], argTypes := #[t, t] })
    (base : Nat) (k : IntKind) (e : TypeId) (bytes : Nat) (ht : P.underlying t = some (.slice e)) (hi : (P.info? e).map (fun i => (i.zero, i.size, i.bytes)) = some (some (.int k 0), 1, bytes))
    (v : Value) (xs : List Int) (hs : a.eval s = v) (hown : KOwn k e w base v xs) (B : Nat) (A : Option Addr) (m c : Nat) (ys : List Int) (hx : a.eval x = .slice A m c) (hr : Row k w B A ys) (hm : ys.length = m) (h1 : 1 ≤ m)
    (hbytes : (xs.length + m) * bytes ≤ 140737488355328) (h63 : xs.length + m ≤ maxLen) (hbase : base ≤ w.heap.size)
    (h : ∀ v' w', KOwn k e w' base v' (xs ++ ys) → w.grownBy w' v.ownBlock → (v'.ownBlock = some w.heap.size ∨ (v'.ownBlock = v.ownBlock ∧ v.ownBlock ≠ none)) → (∃ A' n' c', v' = .slice A' n' c') → K (a.put o.dst v') w') :
    if Region.wanted o (yielded ops a.tmps) = true then Oper.wp P o a w K Q else E := by
  have hw : Region.wanted o (yielded ops a.tmps) = true := by simp [Region.wanted, hgd]
  rw [if_pos hw]
  obtain ⟨v', w', hrun, g1, g2, g3, g4⟩ := run_append_K (P := P) w base t k e bytes ht hi v xs hown B A m c ys hr hm h1 hbytes h63 hbase
  unfold Oper.wp execOp
  simp only [ho, resolve, invoke, builtin, Sem.run_bind, Sem.run_pure, Result.andThen_ok, List.map_toArray, List.map_cons, List.map_nil, hs, hx, hrun]
  exact h v' w' g1 g2 g3 g4
theorem wpList_append_K {ops : Array Oper} {rest : List Oper} {o : Oper} {a : Act} {Q : Exit → Act → World → Prop} (w : World) (hgd : o.guard = none) (s x : Operand) (t : TypeId)
    (ho : o.op = .call { callee := .builtin .append, args := #[s, x], argTypes := #[t, t] })
    (base : Nat) (k : IntKind) (e : TypeId) (bytes : Nat) (ht : P.underlying t = some (.slice e)) (hi : (P.info? e).map (fun i => (i.zero, i.size, i.bytes)) = some (some (.int k 0), 1, bytes))
    (v : Value) (xs : List Int) (hs : a.eval s = v) (hown : KOwn k e w base v xs)
    (B : Nat) (A : Option Addr) (m c : Nat) (ys : List Int) (hx : a.eval x = .slice A m c) (hr : Row k w B A ys) (hm : ys.length = m) (h1 : 1 ≤ m)
    (hbytes : (xs.length + m) * bytes ≤ 140737488355328) (h63 : xs.length + m ≤ maxLen) (hbase : base ≤ w.heap.size)
    (h : ∀ v' w', KOwn k e w' base v' (xs ++ ys) → w.grownBy w' v.ownBlock → (v'.ownBlock = some w.heap.size ∨ (v'.ownBlock = v.ownBlock ∧ v.ownBlock ≠ none)) → (∃ A' n' c', v' = .slice A' n' c') → wpList P ops Q rest (a.put o.dst v') w') : wpList P ops Q (o :: rest) a w := by
  obtain ⟨v', w', hrun, g1, g2, g3, g4⟩ := run_append_K (P := P) w base t k e bytes ht hi v xs hown B A m c ys hr hm h1 hbytes h63 hbase
  exact wpList_append_run w hgd s x t ho v (.slice A m c) v' w' hs hx hrun (h v' w' g1 g2 g3 g4)
end
end Go.Proofs.YtcmbdhmhkfhjfaaGreat
namespace Go.Proofs.YtcmbdhmhkfhjfaaGreat.I
open Go.RowKit

theorem info_i64 : (Tryz.prog.info? 3).map (fun i => (i.zero, i.size, i.bytes)) = some (some (.int .i64 0), 1, 8) := by kernel_rfl

theorem made_zero (z : Int) (n : Nat) : madeCells (Value.int .i64 z).cells (n * 1) = blk .i64 (List.replicate n z) := by
  apply Array.toList_inj.1
  rw [show (Value.int .i64 z).cells = #[Value.int .i64 z] from rfl, toList_madeCells_one, Nat.mul_one]
  simp [blk]

theorem make_i64 (n : Nat) (hn : n ≤ 17592186044416) (W : World) :
    (Instr.makeSlice 23 (.int .i64 (n : Int)) (.int .i64 (n : Int))).run Tryz.prog W = .ok (.slice (some ⟨W.heap.size, 0, none⟩) n n) (W.alloc (.cells (blk .i64 (List.replicate n 0)) 3)) := by
  obtain ⟨i, hi, hz, hs, hb⟩ := info_parts info_i64
  have h := run_make (P := Tryz.prog) W 23 3 i (.int .i64 0) Tryz.underlying23 hi hz .i64 .i64 n n (by omega) (by omega) (by rw [hb]; omega) (by omega)
  rw [h, hs, Int.toNat_natCast, made_zero]

def marks5 : List Int := [-77, -77, -77, -77, -77]

/-- LentInts: the same list in a new block, five marks behind it. -/
theorem lent_i64 (A : Option Addr) (n c : Nat) (xs : List Int) (w : World) (hr : Row .i64 w w.heap.size A xs) (hn : xs.length = n) (hb : n ≤ 17592186043904) : 
    Calls Tryz.prog 8 #[.slice A n c] w fun e w' => e = .returned (.slice (some ⟨w.heap.size, 0, none⟩) n (n+5)) ∧ w' = w.alloc (.cells (blk .i64 (xs ++ marks5)) 3) := by
  have hmk := make_i64 (n + 5) (by omega)
  rw [show ((n + 5 : Nat) : Int) = (n : Int) + 5 by omega] at hmk
  go_enter Tryz.func8, Tryz.ntmps8
  go_wp2
  go_loopw [4] (fun i wr => ∃ k : Nat, k ≤ n ∧ i = .int .i64 k ∧ wr = w.alloc (.cells (blk .i64 (xs.take k ++ List.replicate (n + 5 - k) 0)) 3)) (fun i _ => n - (intOf i).toNat)
  case atStart => exact ⟨0, by omega, rfl, by simp⟩
  case round =>
    obtain ⟨k, hk, rfl, rfl⟩ := hrel
    by_cases hlt : k < n
    · obtain ⟨b, o, rfl, hb1, hc1⟩ := hr.at_ (i := k) (by omega)
      have hc2 := fill_cell .i64 (xs.take k) (n + 5 - k) k 0 (by simp; omega) (by omega)
      have HS := Lib.hid (set_step (xs.take k) (n + 5 - (k + 1)) k 0 (nth xs k) (by simp; omega))
      go_wp2
      go_roundw
      case rel => exact ⟨k + 1, by omega, by go_num, by rw [blk_set, show n + 5 - k = (n + 5 - (k + 1)) + 1 by omega, HS.out, take_step xs k (by omega)]⟩
      case measure => simp [intOf]; omega
    · obtain rfl : k = n := by omega
      have hx : xs.take k = xs := List.take_of_length_le (by omega)
      rw [hx, show k + 5 - k = 5 by omega]
      clear hx hlt hk
      go_wp2
      go_loopw [5] (fun i wr => ∃ (j : Nat) (L : List Int), j ≤ 5 ∧ i = .int .i64 (k + j : Nat) ∧ Hid (L = xs ++ List.replicate j (-77) ++ List.replicate (5 - j) 0) ∧ wr = w.alloc (.cells (blk .i64 L) 3)) (fun i _ => k + 5 - (intOf i).toNat)
      case atStart => exact ⟨0, _, by omega, rfl, Lib.hid (by simp), rfl⟩
      case round =>
        obtain ⟨j, L, hj, rfl, hL, rfl⟩ := hrel
        by_cases hlt : j < 5
        · have hc2 := fill_cell .i64 (xs ++ List.replicate j (-77)) (5 - j) (k + j) 0 (by simp; omega) (by omega)
          rw [← hL.out] at hc2
          have HS := Lib.hid (set_step (xs ++ List.replicate j (-77)) (5 - (j + 1)) (k + j) 0 (-77) (by simp; omega))
          go_wp2
          go_roundw
          case rel => exact ⟨j + 1, L.set (k + j) (-77), by omega, by go_num, Lib.hid (by rw [hL.out, show 5 - j = (5 - (j + 1)) + 1 by omega, HS.out, List.replicate_succ', List.append_assoc xs]), by rw [blk_set]⟩
          case measure => simp [intOf]; omega
        · obtain rfl : j = 5 := by omega
          go_wp2
          go_ret
          exact ⟨rfl, by rw [hL.out]; simp [marks5, List.replicate]⟩

/-- SameInts, where the lists are the same. -/
theorem same_yes_i64 (A A' : Option Addr) (n c c' : Nat) (xs : List Int) (w : World) (B B' : Nat) (hr : Row .i64 w B A xs) (hr' : Row .i64 w B' A' xs) (hn : xs.length = n) (hb : n ≤ 17592186044416) :
    Calls Tryz.prog 12 #[.slice A n c, .slice A' n c'] w fun e w' => e = .returned (.bool true) ∧ ∃ m, w' = w.drewN m := by
  go_enter Tryz.func12, Tryz.ntmps12
  go_wp2
  go_loopw [5] (fun i wr => ∃ k nq : Nat, k ≤ n ∧ i = .int .i64 k ∧ wr = w.drewN nq) (fun i _ => n - (intOf i).toNat)
  case atStart => exact ⟨0, 0, by omega, rfl, rfl⟩
  case round =>
    obtain ⟨k, nq, hk, rfl, rfl⟩ := hrel
    by_cases hlt : k < n
    · obtain ⟨b, o, rfl, hb1, hc1⟩ := hr.at_ (i := k) (by omega)
      obtain ⟨b', o', rfl, hb1', hc1'⟩ := hr'.at_ (i := k) (by omega)
      have hlt' : (k : Int) < (n : Int) := by omega
      go_wp2
      go_quiet (fail)
      go_wp2
      go_roundw
      case rel => exact ⟨k + 1, _, by omega, by go_num, rfl⟩
      case measure => simp [intOf]; omega
    · go_wp2
      go_ret
      exact ⟨rfl, nq, rfl⟩

end Go.Proofs.YtcmbdhmhkfhjfaaGreat.I
namespace Go.Proofs.YtcmbdhmhkfhjfaaGreat
open Go.RowKit
set_option linter.unusedVariables false
set_option maxRecDepth 100000
attribute [local go_sem ↓] ldTag_fold stTag_fold bxTag_fold
attribute [local go_sem] bxTag_run

theorem valT_range (t : Tg) (pa : Int) (on : List Bool) (set : List Int) : -1099511627776 ≤ valT t pa on set ∧ valT t pa on set ≤ 1099511627776 := by
  unfold valT
  split
  · split <;> omega
  · unfold valN
    split
    · unfold cut; omega
    · omega
theorem valT_wf (t : Tg) (pa : Int) (on : List Bool) (set : List Int) : (Lit.int .i64 (valT t pa on set)).wf = true := by
  have := valT_range t pa on set
  simp [Lit.wf, IntKind.min, IntKind.max, IntKind.signed, IntKind.bits]; omega
/-- An answer that fits a request for bits, or words, and is no exception. -/
theorem chkR_len {k a c : Int} {r : Rep} (hk : 1 ≤ k ∧ k ≤ 4) (h : chkR (reqK k a c) r = 0) (hx : r.x = 0) : ((k = 1 ∨ k = 2) → (r.on.length : Int) = c) ∧ (¬ (k = 1 ∨ k = 2) → (r.set.length : Int) = c) := by
  unfold chkR at h
  have hq : chkQ (reqK k a c) = 0 := by
    by_cases h0 : chkQ (reqK k a c) = 0
    · exact h0
    · rw [if_pos h0] at h; exact absurd h h0
  rw [if_neg (by simp [hq]), if_neg (by simp [hx])] at h
  have hm : manyB (reqK k a c) r = true := by
    by_cases hs : strayB (reqK k a c).c r.on.length r.set.length r.fs.length = true
    · rw [if_pos hs] at h; cases h
    · rw [if_neg hs] at h
      cases hm : manyB (reqK k a c) r with
      | true => rfl
      | false => rw [hm, if_pos rfl] at h; cases h
  unfold manyB reqK at hm
  simp only at hm
  refine ⟨fun hb => ?_, fun hb => ?_⟩
  · rw [if_pos hb] at hm
    exact of_decide_eq_true hm
  · rw [if_neg hb, if_pos (by omega)] at hm
    exact of_decide_eq_true hm
theorem refValue10_any (pu pk pa pc pe : Int) (Pt : Option Addr) (pn pm : Nat) (x : Int) (Bo Bs Bf : Option Addr) (mo ms mf eo es ef : Nat) (r : Rep) (t : Tg) (w : World) (hr : Repd w w.heap.size r Bo Bs Bf mo ms mf) (hin : inP t pu pk pa pc = true) (hask : askE pk pa pc = 0) (hchk : chkR (reqK pk pa pc) r = 0) (hx : r.x = 0) (hms : ms ≤ es) (hb : es ≤ 9223372036854775807) :
    Calls Tryz.prog 32 #[tgV t, .agg #[.int .i64 pu, .int .i64 pk, .int .i64 pa, .int .i64 pc, .int .i64 pe, .slice Pt pn pm], .agg #[.int .i64 x, .slice Bo mo eo, .slice Bs ms es, .slice Bf mf ef]] w fun e w' => e = .returned (.int .i64 (valT t pa r.on r.set)) ∧ Below w.heap.size w w' := by
  obtain ⟨i1, i2, i3, i4⟩ := inP_iff.1 hin
  obtain ⟨k1, k2, k3, k4⟩ := askE_zero hask
  obtain ⟨n1, n2⟩ := chkR_len k1 hchk hx
  have hw := widT_le t
  have hmo : mostK pk ≤ 2000 := by unfold mostK; split <;> omega
  obtain ⟨k, hk⟩ : ∃ k : Nat, t.ad - pa = k := ⟨(t.ad - pa).toNat, by omega⟩
  obtain ⟨m, hm⟩ : ∃ m : Nat, widT t = m := ⟨(widT t).toNat, by omega⟩
  unfold valT
  rw [hk, hm, Int.toNat_natCast, Int.toNat_natCast]
  by_cases hki : t.ki = 1 ∨ t.ki = 2
  · rw [if_pos hki]
    have := n1 (by rw [← i2]; exact hki)
    exact refValue10_bits pu pk pa pc pe Pt pn pm x Bo Bs Bf mo ms mf eo es ef r.on t k w hr.on hr.mo hk (by omega) hki (by have := hr.mo; omega)
  · rw [if_neg hki]
    have := n2 (by rw [← i2]; exact hki)
    exact refValue10_words pu pk pa pc pe Pt pn pm x Bo Bs Bf mo ms mf eo es ef r.set t k m w hr.set hr.ms hk hm (by omega) hms (fun h => hki (.inl h)) (fun h => hki (.inr h)) hb

/-- Is a number a place of a tag within a poll? -/
def okP (l : List Tg) (un ki ad ct x : Int) : Bool := decide (0 ≤ x) && (decide (x < l.length) && inP (tgAt l x.toNat) un ki ad ct)
def valsE (l : List Tg) (p : Pol) (r : Rep) : Int :=
  if (chkAll l).1 ≠ 0 then (chkAll l).1 else if askE p.ki p.ad p.ct ≠ 0 then askE p.ki p.ad p.ct else if chkR (reqK p.ki p.ad p.ct) r ≠ 0 then chkR (reqK p.ki p.ad p.ct) r
  else if r.x ≠ 0 then 12 else if p.tg.all (okP l p.un p.ki p.ad p.ct) = true then 0 else 3
def valsM (l : List Tg) (p : Pol) (r : Rep) : List Int := p.tg.map (fun x => valT (tgAt l x.toNat) p.ad r.on r.set)
def valsL (l : List Tg) (p : Pol) (r : Rep) : List Int := if valsE l p r = 0 then valsM l p r else []
theorem valsE_tab {l : List Tg} {p : Pol} {r : Rep} {E : Int} (h : (chkAll l).1 = E) (h0 : E ≠ 0) : valsE l p r = E := by unfold valsE; rw [h, if_pos h0]
theorem valsE_ask {l : List Tg} {p : Pol} {r : Rep} {E : Int} (h : (chkAll l).1 = 0) (h1 : askE p.ki p.ad p.ct = E) (h0 : E ≠ 0) : valsE l p r = E := by unfold valsE; rw [h, if_neg (by omega), h1, if_pos h0]
theorem valsE_chk {l : List Tg} {p : Pol} {r : Rep} {E : Int} (h : (chkAll l).1 = 0) (h1 : askE p.ki p.ad p.ct = 0) (h2 : chkR (reqK p.ki p.ad p.ct) r = E) (h0 : E ≠ 0) : valsE l p r = E := by unfold valsE; rw [h, if_neg (by omega), h1, if_neg (by omega), h2, if_pos h0]
theorem valsE_exc {l : List Tg} {p : Pol} {r : Rep} (h : (chkAll l).1 = 0) (h1 : askE p.ki p.ad p.ct = 0) (h2 : chkR (reqK p.ki p.ad p.ct) r = 0) (h0 : r.x ≠ 0) : valsE l p r = 12 := by unfold valsE; rw [h, if_neg (by omega), h1, if_neg (by omega), h2, if_neg (by omega), if_pos h0]
theorem valsE_all {l : List Tg} {p : Pol} {r : Rep} (h : (chkAll l).1 = 0) (h1 : askE p.ki p.ad p.ct = 0) (h2 : chkR (reqK p.ki p.ad p.ct) r = 0) (h3 : r.x = 0) : valsE l p r = if p.tg.all (okP l p.un p.ki p.ad p.ct) = true then 0 else 3 := by unfold valsE; rw [h, if_neg (by omega), h1, if_neg (by omega), h2, if_neg (by omega), if_neg (by omega)]
theorem valsE_bad {l : List Tg} {p : Pol} {r : Rep} (h : (chkAll l).1 = 0) (h1 : askE p.ki p.ad p.ct = 0) (h2 : chkR (reqK p.ki p.ad p.ct) r = 0) (h3 : r.x = 0) {k : Nat} (hk : k < p.tg.length) (hb : okP l p.un p.ki p.ad p.ct (nth p.tg k) = false) : valsE l p r = 3 := by
  rw [valsE_all h h1 h2 h3, if_neg]
  intro ha
  have := List.all_eq_true.1 ha _ (nth_mem p.tg k hk)
  rw [hb] at this; cases this
theorem valsE_good {l : List Tg} {p : Pol} {r : Rep} (h : (chkAll l).1 = 0) (h1 : askE p.ki p.ad p.ct = 0) (h2 : chkR (reqK p.ki p.ad p.ct) r = 0) (h3 : r.x = 0) (ha : ∀ k, k < p.tg.length → okP l p.un p.ki p.ad p.ct (nth p.tg k) = true) : valsE l p r = 0 := by
  rw [valsE_all h h1 h2 h3, if_pos]
  rw [List.all_eq_true]
  intro x hx
  obtain ⟨i, hi, rfl⟩ := List.mem_iff_getElem.1 hx
  rw [← nth_eq p.tg i hi]
  exact ha i hi
theorem valsL_bad {l : List Tg} {p : Pol} {r : Rep} (h : valsE l p r ≠ 0) : valsL l p r = [] := if_neg h
theorem valsL_good {l : List Tg} {p : Pol} {r : Rep} (h : valsE l p r = 0) : valsL l p r = valsM l p r := if_pos h
theorem valsM_len (l : List Tg) (p : Pol) (r : Rep) : (valsM l p r).length = p.tg.length := by simp [valsM]
theorem valsM_nth (l : List Tg) (p : Pol) (r : Rep) (k : Nat) (hk : k < p.tg.length) : nth (valsM l p r) k = valT (tgAt l (nth p.tg k).toNat) p.ad r.on r.set := by
  rw [nth_eq _ _ (by rw [valsM_len]; exact hk), nth_eq _ _ hk]
  simp [valsM]
theorem valsM_wf (l : List Tg) (p : Pol) (r : Rep) : ∀ x ∈ valsM l p r, (Lit.int .i64 x).wf = true := by
  intro x hx
  obtain ⟨y, _, rfl⟩ := List.mem_map.1 hx
  exact valT_wf _ _ _ _
theorem valsL_wf (l : List Tg) (p : Pol) (r : Rep) : ∀ x ∈ valsL l p r, (Lit.int .i64 x).wf = true := by
  unfold valsL
  split
  · exact valsM_wf l p r
  · intro x hx; cases hx
/-- A call returns a list of its own, its block known whole, and a number. -/
def GivesI (w : World) (xs : List Int) (E : Int) (e : Ending) (w' : World) : Prop := ∃ v, e = .returned (.tuple #[v, .int .i64 E]) ∧ KOwn .i64 3 w' w.heap.size v xs ∧ Below w.heap.size w w'
end Go.Proofs.YtcmbdhmhkfhjfaaGreat
