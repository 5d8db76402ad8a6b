/-
  Texts of the proof of PlanKnown, joined.
-/
import Derived.Test.YtcmbdhmhkfhjfaaGreatJPlanKnownG
import Derived.Test.YtcmbdhmhkfhjfaaGreatJPlanKnownH
import Derived.Test.YtcmbdhmhkfhjfaaGreatJPlanKnownA
import Derived.Laws.AppendOwn
import Derived.Test.YtcmbdhmhkfhjfaaGreatJPlanKnownD
import Derived.Test.YtcmbdhmhkfhjfaaGreatRows
import Derived.Test.YtcmbdhmhkfhjfaaGreatJPlanKnownF
import Derived.Test.YtcmbdhmhkfhjfaaGreatJPlanKnownC
import Derived.Shelf.SlGeneric
import Derived.Shelf.SlSortCmp.NoneTotal
import Derived.Shelf.SlicesG.Cmp
import Derived.Ground.SlsfProg
import Derived.Ground.SlgcProg
import Derived.Test.YtcmbdhmhkfhjfaaGreatProg
import Derived.Deep.RegionHeld3
import Derived.BigRegion
import Derived.Deep.CutRange
namespace Go.Proofs.YtcmbdhmhkfhjfaaGreat
open Go.RowKit
set_option linter.unusedVariables false

set_option maxHeartbeats 4000000 in
set_option maxRecDepth 100000 in
theorem refRp_else (q : Req) (r : Rep) (Ao As Ap Bo Bs Bf : Option Addr) (lo ls lp co cs cp mo ms mf eo es ef : Nat) (w : World) (h : Asked w w.heap.size q Ao As Ap lo ls lp) (hr : Repd w w.heap.size r Bo Bs Bf mo ms mf) (hb : lp ≤ 100000) (hk : chkQ q = 0) (hx : r.x = 0) (hc : ¬ (q.c = 1 ∨ q.c = 2) ∧ ¬ (q.c = 3 ∨ q.c = 4) ∧ ¬ (q.c = 20)) :
    Calls Tryz.prog 30 #[.agg #[.int .i64 q.c, .int .i64 q.a, .int .i64 q.n, .slice Ao lo co, .slice As ls cs, .slice Ap lp cp], .agg #[.int .i64 r.x, .slice Bo mo eo, .slice Bs ms es, .slice Bf mf ef]] w fun e w' => e = .returned (.int .i64 (chkR q r)) ∧ Below w.heap.size w w' := by
  have tb := TB.new2 w #[.int .i64 q.c, .int .i64 q.a, .int .i64 q.n, .slice Ao lo co, .slice As ls cs, .slice Ap lp cp] #[.int .i64 r.x, .slice Bo mo eo, .slice Bs ms es, .slice Bf mf ef] 68 30
  have hsz : w.heap.size ≤ ((w.alloc (.cells #[.int .i64 q.c, .int .i64 q.a, .int .i64 q.n, .slice Ao lo co, .slice As ls cs, .slice Ap lp cp] 68)).alloc (.cells #[.int .i64 r.x, .slice Bo mo eo, .slice Bs ms es, .slice Bf mf ef] 30)).heap.size := tb.bel.size
  have H0 := Lib.hid h
  have HR0 := Lib.hid hr
  have H := Lib.hid ((h.below tb.bel).more hsz)
  obtain ⟨E, hE⟩ : ∃ E, Hid (chkR q r = E) := ⟨_, Lib.hid rfl⟩
  rw [hE.out]
  have HMO := Lib.hid hr.mo
  have HMS := Lib.hid hr.ms
  have HMF := Lib.hid hr.mf
  have HC := Lib.hid (refCheck_any q Ao As Ap lo ls lp co cs cp _ H.out)
  rw [chkQ_of H.out, hk] at HC
  have HB : Hid (clB q.c = false) := Lib.hid (decide_eq_false (by omega))
  have HW : Hid (clW q.c = false) := Lib.hid (decide_eq_false (by omega))
  have HF : Hid (clF q.c = false) := Lib.hid (decide_eq_false (by omega))
  have HS : Hid (strayB q.c mo ms mf = anyB mo ms mf) := Lib.hid (by unfold strayB; rw [if_neg (show ¬ (q.c = 1 ∨ q.c = 2) by omega), if_neg (show ¬ (q.c = 3 ∨ q.c = 4) by omega), if_neg (show ¬ (q.c = 20) by omega)])
  have HM2 : Hid (manyB q r = true) := Lib.hid (by unfold manyB; rw [if_neg (show ¬ (q.c = 1 ∨ q.c = 2) by omega), if_neg (show ¬ (q.c = 3 ∨ q.c = 4) by omega), if_neg (show ¬ (q.c = 20) by omega)])
  have HE : Hid (E = if strayB q.c mo ms mf = true then 23 else if manyB q r = false then 22 else 0) := Lib.hid (by
    rw [← hE.out]; unfold chkR; rw [if_neg (show ¬ chkQ q ≠ 0 by rw [hk]; simp), if_neg (show ¬ r.x ≠ 0 by simp [hx]), HMO.out, HMS.out, HMF.out])
  have u1 : (r.x != 0) = false := by simp [hx]
  have u2 : (r.x == 0) = true := by simp [hx]
  clear h hr hk hx hE H hc
  by_cases g1 : 0 < mo
  · have g1' : (0 : Int) < (mo : Int) := by omega
    by_cases g2 : 0 < ms
    · have g2' : (0 : Int) < (ms : Int) := by omega
      by_cases g3 : 0 < mf
      · have g3' : (0 : Int) < (mf : Int) := by omega
        have hl : Hid (E = 23) := Lib.hid (by rw [HE.out, HS.out, if_pos (by simp [anyB]; omega)])
        clear HE HS
        go_enter Tryz.func30, Tryz.ntmps30
        go_wp2_with fail
        refine HC.out.mono ?_
        rintro e w1 ⟨rfl, b1⟩
        have tb := tb.below b1
        clear b1
        obtain ⟨d0, d1, d2, d3, d4⟩ := tb.c4; obtain ⟨r0, r1, r2, r3, r4, r5, r6⟩ := tb.r6
        go_wp2_with (first | (go_at_call 58; refine (refKindBits_any q.c q.a q.n Ao As Ap lo co ls cs lp cp _).mono ?_; rintro e w9 ⟨rfl, b9⟩; rw [HB.out]; have tb := tb.below b9; obtain ⟨d0, d1, d2, d3, d4⟩ := tb.c4; obtain ⟨r0, r1, r2, r3, r4, r5, r6⟩ := tb.r6) | (go_at_call 59; refine (refWords_kind q.c q.a q.n Ao As Ap lo co ls cs lp cp _).mono ?_; rintro e w9 ⟨rfl, b9⟩; rw [HW.out]; have tb := tb.below b9; obtain ⟨d0, d1, d2, d3, d4⟩ := tb.c4; obtain ⟨r0, r1, r2, r3, r4, r5, r6⟩ := tb.r6) | (go_at_call 60; refine (refFiles_kind q.c q.a q.n Ao As Ap lo co ls cs lp cp _).mono ?_; rintro e w9 ⟨rfl, b9⟩; rw [HF.out]; have tb := tb.below b9; obtain ⟨d0, d1, d2, d3, d4⟩ := tb.c4; obtain ⟨r0, r1, r2, r3, r4, r5, r6⟩ := tb.r6))
        go_ret
        exact ⟨by rw [hl.out]; rfl, tb.bel⟩
      · have g3' : ¬ (0 : Int) < (mf : Int) := by omega
        have hl : Hid (E = 23) := Lib.hid (by rw [HE.out, HS.out, if_pos (by simp [anyB]; omega)])
        clear HE HS
        go_enter Tryz.func30, Tryz.ntmps30
        go_wp2_with fail
        refine HC.out.mono ?_
        rintro e w1 ⟨rfl, b1⟩
        have tb := tb.below b1
        clear b1
        obtain ⟨d0, d1, d2, d3, d4⟩ := tb.c4; obtain ⟨r0, r1, r2, r3, r4, r5, r6⟩ := tb.r6
        go_wp2_with (first | (go_at_call 58; refine (refKindBits_any q.c q.a q.n Ao As Ap lo co ls cs lp cp _).mono ?_; rintro e w9 ⟨rfl, b9⟩; rw [HB.out]; have tb := tb.below b9; obtain ⟨d0, d1, d2, d3, d4⟩ := tb.c4; obtain ⟨r0, r1, r2, r3, r4, r5, r6⟩ := tb.r6) | (go_at_call 59; refine (refWords_kind q.c q.a q.n Ao As Ap lo co ls cs lp cp _).mono ?_; rintro e w9 ⟨rfl, b9⟩; rw [HW.out]; have tb := tb.below b9; obtain ⟨d0, d1, d2, d3, d4⟩ := tb.c4; obtain ⟨r0, r1, r2, r3, r4, r5, r6⟩ := tb.r6) | (go_at_call 60; refine (refFiles_kind q.c q.a q.n Ao As Ap lo co ls cs lp cp _).mono ?_; rintro e w9 ⟨rfl, b9⟩; rw [HF.out]; have tb := tb.below b9; obtain ⟨d0, d1, d2, d3, d4⟩ := tb.c4; obtain ⟨r0, r1, r2, r3, r4, r5, r6⟩ := tb.r6))
        go_ret
        exact ⟨by rw [hl.out]; rfl, tb.bel⟩
    · have g2' : ¬ (0 : Int) < (ms : Int) := by omega
      by_cases g3 : 0 < mf
      · have g3' : (0 : Int) < (mf : Int) := by omega
        have hl : Hid (E = 23) := Lib.hid (by rw [HE.out, HS.out, if_pos (by simp [anyB]; omega)])
        clear HE HS
        go_enter Tryz.func30, Tryz.ntmps30
        go_wp2_with fail
        refine HC.out.mono ?_
        rintro e w1 ⟨rfl, b1⟩
        have tb := tb.below b1
        clear b1
        obtain ⟨d0, d1, d2, d3, d4⟩ := tb.c4; obtain ⟨r0, r1, r2, r3, r4, r5, r6⟩ := tb.r6
        go_wp2_with (first | (go_at_call 58; refine (refKindBits_any q.c q.a q.n Ao As Ap lo co ls cs lp cp _).mono ?_; rintro e w9 ⟨rfl, b9⟩; rw [HB.out]; have tb := tb.below b9; obtain ⟨d0, d1, d2, d3, d4⟩ := tb.c4; obtain ⟨r0, r1, r2, r3, r4, r5, r6⟩ := tb.r6) | (go_at_call 59; refine (refWords_kind q.c q.a q.n Ao As Ap lo co ls cs lp cp _).mono ?_; rintro e w9 ⟨rfl, b9⟩; rw [HW.out]; have tb := tb.below b9; obtain ⟨d0, d1, d2, d3, d4⟩ := tb.c4; obtain ⟨r0, r1, r2, r3, r4, r5, r6⟩ := tb.r6) | (go_at_call 60; refine (refFiles_kind q.c q.a q.n Ao As Ap lo co ls cs lp cp _).mono ?_; rintro e w9 ⟨rfl, b9⟩; rw [HF.out]; have tb := tb.below b9; obtain ⟨d0, d1, d2, d3, d4⟩ := tb.c4; obtain ⟨r0, r1, r2, r3, r4, r5, r6⟩ := tb.r6))
        go_ret
        exact ⟨by rw [hl.out]; rfl, tb.bel⟩
      · have g3' : ¬ (0 : Int) < (mf : Int) := by omega
        have hl : Hid (E = 23) := Lib.hid (by rw [HE.out, HS.out, if_pos (by simp [anyB]; omega)])
        clear HE HS
        go_enter Tryz.func30, Tryz.ntmps30
        go_wp2_with fail
        refine HC.out.mono ?_
        rintro e w1 ⟨rfl, b1⟩
        have tb := tb.below b1
        clear b1
        obtain ⟨d0, d1, d2, d3, d4⟩ := tb.c4; obtain ⟨r0, r1, r2, r3, r4, r5, r6⟩ := tb.r6
        go_wp2_with (first | (go_at_call 58; refine (refKindBits_any q.c q.a q.n Ao As Ap lo co ls cs lp cp _).mono ?_; rintro e w9 ⟨rfl, b9⟩; rw [HB.out]; have tb := tb.below b9; obtain ⟨d0, d1, d2, d3, d4⟩ := tb.c4; obtain ⟨r0, r1, r2, r3, r4, r5, r6⟩ := tb.r6) | (go_at_call 59; refine (refWords_kind q.c q.a q.n Ao As Ap lo co ls cs lp cp _).mono ?_; rintro e w9 ⟨rfl, b9⟩; rw [HW.out]; have tb := tb.below b9; obtain ⟨d0, d1, d2, d3, d4⟩ := tb.c4; obtain ⟨r0, r1, r2, r3, r4, r5, r6⟩ := tb.r6) | (go_at_call 60; refine (refFiles_kind q.c q.a q.n Ao As Ap lo co ls cs lp cp _).mono ?_; rintro e w9 ⟨rfl, b9⟩; rw [HF.out]; have tb := tb.below b9; obtain ⟨d0, d1, d2, d3, d4⟩ := tb.c4; obtain ⟨r0, r1, r2, r3, r4, r5, r6⟩ := tb.r6))
        go_ret
        exact ⟨by rw [hl.out]; rfl, tb.bel⟩
  · have g1' : ¬ (0 : Int) < (mo : Int) := by omega
    by_cases g2 : 0 < ms
    · have g2' : (0 : Int) < (ms : Int) := by omega
      by_cases g3 : 0 < mf
      · have g3' : (0 : Int) < (mf : Int) := by omega
        have hl : Hid (E = 23) := Lib.hid (by rw [HE.out, HS.out, if_pos (by simp [anyB]; omega)])
        clear HE HS
        go_enter Tryz.func30, Tryz.ntmps30
        go_wp2_with fail
        refine HC.out.mono ?_
        rintro e w1 ⟨rfl, b1⟩
        have tb := tb.below b1
        clear b1
        obtain ⟨d0, d1, d2, d3, d4⟩ := tb.c4; obtain ⟨r0, r1, r2, r3, r4, r5, r6⟩ := tb.r6
        go_wp2_with (first | (go_at_call 58; refine (refKindBits_any q.c q.a q.n Ao As Ap lo co ls cs lp cp _).mono ?_; rintro e w9 ⟨rfl, b9⟩; rw [HB.out]; have tb := tb.below b9; obtain ⟨d0, d1, d2, d3, d4⟩ := tb.c4; obtain ⟨r0, r1, r2, r3, r4, r5, r6⟩ := tb.r6) | (go_at_call 59; refine (refWords_kind q.c q.a q.n Ao As Ap lo co ls cs lp cp _).mono ?_; rintro e w9 ⟨rfl, b9⟩; rw [HW.out]; have tb := tb.below b9; obtain ⟨d0, d1, d2, d3, d4⟩ := tb.c4; obtain ⟨r0, r1, r2, r3, r4, r5, r6⟩ := tb.r6) | (go_at_call 60; refine (refFiles_kind q.c q.a q.n Ao As Ap lo co ls cs lp cp _).mono ?_; rintro e w9 ⟨rfl, b9⟩; rw [HF.out]; have tb := tb.below b9; obtain ⟨d0, d1, d2, d3, d4⟩ := tb.c4; obtain ⟨r0, r1, r2, r3, r4, r5, r6⟩ := tb.r6))
        go_ret
        exact ⟨by rw [hl.out]; rfl, tb.bel⟩
      · have g3' : ¬ (0 : Int) < (mf : Int) := by omega
        have hl : Hid (E = 23) := Lib.hid (by rw [HE.out, HS.out, if_pos (by simp [anyB]; omega)])
        clear HE HS
        go_enter Tryz.func30, Tryz.ntmps30
        go_wp2_with fail
        refine HC.out.mono ?_
        rintro e w1 ⟨rfl, b1⟩
        have tb := tb.below b1
        clear b1
        obtain ⟨d0, d1, d2, d3, d4⟩ := tb.c4; obtain ⟨r0, r1, r2, r3, r4, r5, r6⟩ := tb.r6
        go_wp2_with (first | (go_at_call 58; refine (refKindBits_any q.c q.a q.n Ao As Ap lo co ls cs lp cp _).mono ?_; rintro e w9 ⟨rfl, b9⟩; rw [HB.out]; have tb := tb.below b9; obtain ⟨d0, d1, d2, d3, d4⟩ := tb.c4; obtain ⟨r0, r1, r2, r3, r4, r5, r6⟩ := tb.r6) | (go_at_call 59; refine (refWords_kind q.c q.a q.n Ao As Ap lo co ls cs lp cp _).mono ?_; rintro e w9 ⟨rfl, b9⟩; rw [HW.out]; have tb := tb.below b9; obtain ⟨d0, d1, d2, d3, d4⟩ := tb.c4; obtain ⟨r0, r1, r2, r3, r4, r5, r6⟩ := tb.r6) | (go_at_call 60; refine (refFiles_kind q.c q.a q.n Ao As Ap lo co ls cs lp cp _).mono ?_; rintro e w9 ⟨rfl, b9⟩; rw [HF.out]; have tb := tb.below b9; obtain ⟨d0, d1, d2, d3, d4⟩ := tb.c4; obtain ⟨r0, r1, r2, r3, r4, r5, r6⟩ := tb.r6))
        go_ret
        exact ⟨by rw [hl.out]; rfl, tb.bel⟩
    · have g2' : ¬ (0 : Int) < (ms : Int) := by omega
      by_cases g3 : 0 < mf
      · have g3' : (0 : Int) < (mf : Int) := by omega
        have hl : Hid (E = 23) := Lib.hid (by rw [HE.out, HS.out, if_pos (by simp [anyB]; omega)])
        clear HE HS
        go_enter Tryz.func30, Tryz.ntmps30
        go_wp2_with fail
        refine HC.out.mono ?_
        rintro e w1 ⟨rfl, b1⟩
        have tb := tb.below b1
        clear b1
        obtain ⟨d0, d1, d2, d3, d4⟩ := tb.c4; obtain ⟨r0, r1, r2, r3, r4, r5, r6⟩ := tb.r6
        go_wp2_with (first | (go_at_call 58; refine (refKindBits_any q.c q.a q.n Ao As Ap lo co ls cs lp cp _).mono ?_; rintro e w9 ⟨rfl, b9⟩; rw [HB.out]; have tb := tb.below b9; obtain ⟨d0, d1, d2, d3, d4⟩ := tb.c4; obtain ⟨r0, r1, r2, r3, r4, r5, r6⟩ := tb.r6) | (go_at_call 59; refine (refWords_kind q.c q.a q.n Ao As Ap lo co ls cs lp cp _).mono ?_; rintro e w9 ⟨rfl, b9⟩; rw [HW.out]; have tb := tb.below b9; obtain ⟨d0, d1, d2, d3, d4⟩ := tb.c4; obtain ⟨r0, r1, r2, r3, r4, r5, r6⟩ := tb.r6) | (go_at_call 60; refine (refFiles_kind q.c q.a q.n Ao As Ap lo co ls cs lp cp _).mono ?_; rintro e w9 ⟨rfl, b9⟩; rw [HF.out]; have tb := tb.below b9; obtain ⟨d0, d1, d2, d3, d4⟩ := tb.c4; obtain ⟨r0, r1, r2, r3, r4, r5, r6⟩ := tb.r6))
        go_ret
        exact ⟨by rw [hl.out]; rfl, tb.bel⟩
      · have g3' : ¬ (0 : Int) < (mf : Int) := by omega
        have HEM : Hid (E = if manyB q r = false then 22 else 0) := Lib.hid (by rw [HE.out, HS.out, if_neg (by simp [anyB]; try omega)])
        clear HE HS
        go_enter Tryz.func30, Tryz.ntmps30
        go_wp2_with fail
        refine HC.out.mono ?_
        rintro e w1 ⟨rfl, b1⟩
        have tb := tb.below b1
        clear b1
        obtain ⟨d0, d1, d2, d3, d4⟩ := tb.c4; obtain ⟨r0, r1, r2, r3, r4, r5, r6⟩ := tb.r6
        go_wp2_with (first | (go_at_call 58; refine (refKindBits_any q.c q.a q.n Ao As Ap lo co ls cs lp cp _).mono ?_; rintro e w9 ⟨rfl, b9⟩; rw [HB.out]; have tb := tb.below b9; obtain ⟨d0, d1, d2, d3, d4⟩ := tb.c4; obtain ⟨r0, r1, r2, r3, r4, r5, r6⟩ := tb.r6) | (go_at_call 59; refine (refWords_kind q.c q.a q.n Ao As Ap lo co ls cs lp cp _).mono ?_; rintro e w9 ⟨rfl, b9⟩; rw [HW.out]; have tb := tb.below b9; obtain ⟨d0, d1, d2, d3, d4⟩ := tb.c4; obtain ⟨r0, r1, r2, r3, r4, r5, r6⟩ := tb.r6) | (go_at_call 60; refine (refFiles_kind q.c q.a q.n Ao As Ap lo co ls cs lp cp _).mono ?_; rintro e w9 ⟨rfl, b9⟩; rw [HF.out]; have tb := tb.below b9; obtain ⟨d0, d1, d2, d3, d4⟩ := tb.c4; obtain ⟨r0, r1, r2, r3, r4, r5, r6⟩ := tb.r6))
        go_loopw [6] (fun i wr => ∃ k : Nat, k ≤ mf ∧ i = .int .i64 k ∧ TB w w.heap.size (.cells #[.int .i64 q.c, .int .i64 q.a, .int .i64 q.n, .slice Ao lo co, .slice As ls cs, .slice Ap lp cp] 68 (0, 0)) (.cells #[.int .i64 r.x, .slice Bo mo eo, .slice Bs ms es, .slice Bf mf ef] 30 (0, 0)) wr ∧ Hid (∀ j, j < k → ((nthF r.fs j).length : Int) = nth q.fl (3 * j + 2))) (fun i _ => mf - (intOf i).toNat)
        case atStart => exact ⟨0, by omega, rfl, tb, Lib.hid (fun j h => by omega)⟩
        case round =>
          clear d0 d1 d2 d3 d4 r0 r1 r2 r3 r4 r5 r6 tb
          obtain ⟨k, hk, rfl, tb, hs⟩ := hrel
          by_cases hlt : k < mf
          · exact absurd hlt (by omega)
          · obtain rfl : k = mf := by omega
            have hl : Hid (E = 0) := Lib.hid (by rw [HEM.out, HM2.out]; rfl)
            obtain ⟨d0, d1, d2, d3, d4⟩ := tb.c4; obtain ⟨r0, r1, r2, r3, r4, r5, r6⟩ := tb.r6
            go_wp2
            go_ret
            exact ⟨by rw [hl.out]; rfl, tb.bel⟩
end Go.Proofs.YtcmbdhmhkfhjfaaGreat
namespace Go.Proofs.YtcmbdhmhkfhjfaaGreat
open Go.RowKit
set_option linter.unusedVariables false

theorem refRp_any (q : Req) (r : Rep) (Ao As Ap Bo Bs Bf : Option Addr) (lo ls lp co cs cp mo ms mf eo es ef : Nat) (w : World) (h : Asked w w.heap.size q Ao As Ap lo ls lp) (hr : Repd w w.heap.size r Bo Bs Bf mo ms mf) (hb : lp ≤ 100000) :
    Calls Tryz.prog 30 #[.agg #[.int .i64 q.c, .int .i64 q.a, .int .i64 q.n, .slice Ao lo co, .slice As ls cs, .slice Ap lp cp], .agg #[.int .i64 r.x, .slice Bo mo eo, .slice Bs ms es, .slice Bf mf ef]] w fun e w' => e = .returned (.int .i64 (chkR q r)) ∧ Below w.heap.size w w' := by
  by_cases hk : chkQ q = 0
  · by_cases hx : r.x = 0
    · by_cases h1 : q.c = 1 ∨ q.c = 2
      · exact refRp_bits q r Ao As Ap Bo Bs Bf lo ls lp co cs cp mo ms mf eo es ef w h hr hb hk hx h1
      · by_cases h2 : q.c = 3 ∨ q.c = 4
        · exact refRp_words q r Ao As Ap Bo Bs Bf lo ls lp co cs cp mo ms mf eo es ef w h hr hb hk hx h2
        · by_cases h3 : q.c = 20
          · exact refRp_files q r Ao As Ap Bo Bs Bf lo ls lp co cs cp mo ms mf eo es ef w h hr hb hk hx h3
          · exact refRp_else q r Ao As Ap Bo Bs Bf lo ls lp co cs cp mo ms mf eo es ef w h hr hb hk hx ⟨h1, h2, h3⟩
    · exact refRp_exc q r Ao As Ap Bo Bs Bf lo ls lp co cs cp mo ms mf eo es ef w h hr hb hk hx
  · exact refRp_bad q r Ao As Ap Bo Bs Bf lo ls lp co cs cp mo ms mf eo es ef w h hr hb hk
end Go.Proofs.YtcmbdhmhkfhjfaaGreat
namespace Go.Proofs.YtcmbdhmhkfhjfaaGreat
open Go.RowKit
set_option linter.unusedVariables false

def KOwn (k : IntKind) (e : TypeId) (w : World) (base : Nat) (v : Value) (xs : List Int) : Prop :=
  (v = .slice none 0 0 ∧ xs = []) ∨
  ∃ (g n cap : Nat) (r : List Int), v = .slice (some ⟨g, 0, none⟩) n cap ∧ base ≤ g ∧ xs.length = n ∧ w.heap[g]? = some (.cells (blk k (xs ++ r)) e (0, 0)) ∧ n ≤ cap ∧ cap ≤ maxLen ∧ xs.length + r.length = cap ∧ (∀ x ∈ r, (Lit.int k x).wf = true)
theorem KOwn.nil (k : IntKind) (e : TypeId) (w : World) (base : Nat) : KOwn k e w base (.slice none 0 0) [] := .inl ⟨rfl, rfl⟩
theorem KOwn.below {k : IntKind} {e : TypeId} {w w' : World} {base B : Nat} {v : Value} {xs : List Int} (h : KOwn k e w base v xs) (hb : Below B w w') (hB : w.heap.size ≤ B) : KOwn k e w' base v xs := by
  rcases h with h | ⟨g, n, cap, r, h1, h2, h3, h4, h5⟩
  · exact .inl h
  · exact .inr ⟨g, n, cap, r, h1, h2, h3, (hb.block g (by have := block_lt h4; omega)).trans h4, h5⟩
theorem KOwn.drewN {k : IntKind} {e : TypeId} {w : World} {base : Nat} {v : Value} {xs : List Int} (h : KOwn k e w base v xs) (n : Nat) : KOwn k e (w.drewN n) base v xs := h
theorem KOwn.mono {k : IntKind} {e : TypeId} {w : World} {base base' : Nat} {v : Value} {xs : List Int} (h : KOwn k e w base v xs) (hb : base' ≤ base) : KOwn k e w base' v xs := by
  rcases h with h | ⟨g, n, cap, r, h1, h2, h3⟩
  · exact .inl h
  · exact .inr ⟨g, n, cap, r, h1, by omega, h3⟩
theorem KOwn.block {k : IntKind} {e : TypeId} {w : World} {base : Nat} {v : Value} {xs : List Int} (h : KOwn k e w base v xs) : ∀ g, v.ownBlock = some g → base ≤ g ∧ g < w.heap.size := by
  intro g hg
  rcases h with ⟨rfl, _⟩ | ⟨g', n, cap, r, rfl, h2, h3, h4, h5⟩
  · cases hg
  · injection hg with hg
    subst hg
    exact ⟨h2, block_lt h4⟩
theorem KOwn.own {k : IntKind} {e : TypeId} {w : World} {base : Nat} {v : Value} {xs : List Int} (h : KOwn k e w base v xs) : Own k e w base v xs := by
  rcases h with ⟨rfl, rfl⟩ | ⟨g, n, cap, r, rfl, h2, h3, h4, h5, h6, h7, _⟩
  · exact Own.nil _ _ _ _
  · subst h3
    refine ⟨by simp, .inr ⟨g, cap, _, rfl, h2, h4, h5, h6, by rw [blk_size, List.length_append]; omega, ?_⟩⟩
    rw [Nat.mul_one]
    simp only [blk, List.map_append]
    rw [List.take_left' (by simp)]
theorem KOwn.row {k : IntKind} {e : TypeId} {w : World} {base : Nat} {v : Value} {xs : List Int} (h : KOwn k e w base v xs) (hw : ∀ x ∈ xs, (Lit.int k x).wf = true) :
    ∃ A c, v = .slice A xs.length c ∧ Row k w w.heap.size A xs ∧ xs.length ≤ c ∧ c ≤ maxLen := h.own.row hw
theorem KOwn.kept {k : IntKind} {e : TypeId} {w w' : World} {base : Nat} {v : Value} {xs : List Int} {row : Option Nat} (h : KOwn k e w base v xs) (hg : w.grownBy w' row) (hne : v.ownBlock = none ∨ v.ownBlock ≠ row) : KOwn k e w' base v xs := by
  rcases h with h | ⟨g, n, cap, r, rfl, h2, h3, h4, h5⟩
  · exact .inl h
  · refine .inr ⟨g, n, cap, r, rfl, h2, h3, (hg.block g (block_lt h4) ?_).trans h4, h5⟩
    rcases hne with h | h
    · cases h
    · exact h

section
variable {P : Program}
theorem zero_one (k : IntKind) (m : Nat) : Builtin.zeroCells (Value.int k 0).cells m = blk k (List.replicate m 0) := by
  have h := toList_madeCells_one (Value.int k 0) m
  apply Array.toList_inj.1
  show (madeCells (Value.int k 0).cells (m * 1)).toList = _
  rw [Nat.mul_one, show (Value.int k 0).cells = #[Value.int k 0] from rfl, h]
  simp [blk]
theorem wpList_append_run {ops : Array Oper} {rest : List Oper} {o : Oper} {a : Act} {Q : Exit → Act → World → Prop} (w : World) (hgd : o.guard = none) (s x : Operand) (t : TypeId)
    (ho : o.op = .call { callee := .builtin .append, args := #[s, x], argTypes := #[t, t] }) (v u v' : Value) (w' : World) (hs : a.eval s = v) (hx : a.eval x = u)
    (hrun : ∀ ty, (Builtin.append_ #[t, t] ty #[v, u]).run P w = .ok v' w') (h : wpList P ops Q rest (a.put o.dst v') w') : wpList P ops Q (o :: rest) a w := by
  refine wpList_plain hgd fun K hK => ?_
  unfold Oper.wp
  simp [execOp, ho, resolve, invoke, builtin, hs, hx, hrun, Result.andThen]
  exact hK _ _ h
end
end Go.Proofs.YtcmbdhmhkfhjfaaGreat
namespace Go.Proofs.YtcmbdhmhkfhjfaaGreat
open Go.RowKit
set_option linter.unusedVariables false

theorem zeros_wfK (k : IntKind) (m : Nat) : ∀ x ∈ List.replicate m (0 : Int), (Lit.int k x).wf = true := fun x hx => by
  rw [List.eq_of_mem_replicate hx]; cases k <;> decide
section
variable {P : Program}
theorem run_append_K (w : World) (base : Nat) (t : TypeId) (k : IntKind) (e : TypeId) (bytes : Nat) (ht : P.underlying t = some (.slice e)) (hi : (P.info? e).map (fun i => (i.zero, i.size, i.bytes)) = some (some (.int k 0), 1, bytes))
    (v : Value) (xs : List Int) (hown : KOwn k e w base v xs) (B : Nat) (A : Option Addr) (m c : Nat) (ys : List Int) (hr : Row k w B A ys) (hm : ys.length = m) (h1 : 1 ≤ m)
    (hbytes : (xs.length + m) * bytes ≤ 140737488355328) (h63 : xs.length + m ≤ maxLen) (hbase : base ≤ w.heap.size) :
    ∃ v' w', (∀ ty, (Builtin.append_ #[t, t] ty #[v, .slice A m c]).run P w = .ok v' w') ∧ KOwn k e w' base v' (xs ++ ys) ∧ w.grownBy w' v.ownBlock ∧ (v'.ownBlock = some w.heap.size ∨ (v'.ownBlock = v.ownBlock ∧ v.ownBlock ≠ none)) ∧ ∃ A' n' c', v' = .slice A' n' c' := by
  obtain ⟨i, hi1, hz, hsz, hby⟩ := info_parts hi
  have h64 := h63
  simp only [maxLen] at h64
  obtain ⟨b, o, rfl, _, hc⟩ := hr.2 (by omega)
  have hnews : ∀ j u, (ys.map (Value.int k))[j]? = some u → w.cell? ((⟨b, o, none⟩ : Addr).add j) = some u := by
    intro j u hu
    rw [List.getElem?_map] at hu
    by_cases hj : j < ys.length
    · rw [List.getElem?_eq_getElem hj] at hu
      rw [Go.WideShapes.add_plain, hc j hj, nth_eq ys j hj]
      exact hu
    · rw [List.getElem?_eq_none (by omega)] at hu
      cases hu
  have hnl : (ys.map (Value.int k)).length = m * i.size := by rw [List.length_map, hsz, hm, Nat.mul_one]
  rcases hown with ⟨rfl, rfl⟩ | ⟨g, n, cap, r, rfl, h2, h3, h4, h5, h6, h7, h8⟩
  · simp only [List.length_nil, Nat.zero_add] at hbytes h63 h64
    have hrun := fun ty => run_append_nil (P := P) w t ty e i _ ht hi1 hz ⟨b, o, none⟩ m c (ys.map (Value.int k)) hnl hnews (by omega) (by omega) (by rw [hby]; omega)
    have hge := grownCap_ge w m 0 e
    refine ⟨_, _, hrun, .inr ⟨w.heap.size, m, grownCap w m 0 e, List.replicate (grownCap w m 0 e - m) 0, rfl, hbase, by simpa using hm, ?_, hge, grownCap_le_maxLen w m 0 e h63, by simp; omega, zeros_wfK _ _⟩, ⟨rfl, rfl, rfl, by simp, fun q hq _ => heap_alloc_old w.drew _ hq⟩, .inl rfl, _, _, _, rfl⟩
    rw [zero_one, show ((ys.map (Value.int k)).toArray ++ blk k (List.replicate (grownCap w m 0 e - m) 0)) = blk k ([] ++ ys ++ List.replicate (grownCap w m 0 e - m) 0) by simp [blk]]
    exact heap_alloc_new w.drew _
  · by_cases hroom : n + m ≤ cap
    · have hsz4 : (blk k (xs ++ r)).size = cap := by rw [blk_size, List.length_append]; exact h7
      have hrun := fun ty => run_append_room (P := P) w t ty e i ht hi1 g n cap (blk k (xs ++ r)) h4 ⟨b, o, none⟩ m c (ys.map (Value.int k)) hnl hnews (ints_oneCell k ys) hroom (by rw [hsz4, hsz, Nat.mul_one, List.length_map]; omega)
      refine ⟨_, _, hrun, .inr ⟨g, n + m, cap, r.drop m, rfl, h2, by rw [List.length_append]; omega, ?_, hroom, h6, by rw [List.length_append, List.length_drop]; omega, fun x hx => h8 x (List.mem_of_mem_drop hx)⟩, ⟨rfl, rfl, rfl, by simp, fun q _ hq => setRow_other w g q _ (fun e => hq (by simp [Value.ownBlock, e]))⟩, .inr ⟨rfl, by simp [Value.ownBlock]⟩, _, _, _, rfl⟩
      have hcells : ((blk k (xs ++ r)).toList.take (n * i.size) ++ ys.map (Value.int k) ++ (blk k (xs ++ r)).toList.drop (n * i.size + (ys.map (Value.int k)).length)).toArray = blk k (xs ++ ys ++ r.drop m) := by
        rw [hsz, Nat.mul_one, List.length_map, hm]
        simp only [blk, List.map_append, ← h3]
        congr 1
        rw [List.take_left' (by simp), ← List.drop_drop, List.drop_left' (by simp), List.map_drop]
      rw [hcells]
      exact setRow_heap w g _ _ e _ h4
    · have holds : ∀ j u, (xs.map (Value.int k))[j]? = some u → w.cell? ((⟨g, 0, none⟩ : Addr).add j) = some u := by
        intro j u hu
        have hj : j < xs.length := by have := (List.getElem?_eq_some_iff.1 hu).1; simpa using this
        rw [Go.WideShapes.add_plain, Nat.zero_add, cell_of_row w g j _ _ _ h4, blk_get _ _ _ (by rw [List.length_append]; omega), nth_left _ _ _ hj]
        rw [List.getElem?_map, List.getElem?_eq_getElem hj] at hu
        rw [nth_eq _ _ hj]
        exact hu
      have hrun := fun ty => run_append_grow (P := P) w t ty e i _ ht hi1 hz ⟨g, 0, none⟩ n cap (xs.map (Value.int k)) (by rw [hsz]; simp; omega) holds ⟨b, o, none⟩ m c (ys.map (Value.int k)) hnl hnews (by omega) (by omega) (growslice_fits (by omega) (by rw [hby, ← h3]; exact hbytes))
      have hge := grownCap_ge w (n + m) cap e
      refine ⟨_, _, hrun, .inr ⟨w.heap.size, n + m, grownCap w (n + m) cap e, List.replicate (grownCap w (n + m) cap e - (n + m)) 0, rfl, hbase, by rw [List.length_append]; omega, ?_, hge, grownCap_le_maxLen w (n + m) cap e (by omega), by rw [List.length_append, List.length_replicate]; omega, zeros_wfK _ _⟩, ⟨rfl, rfl, rfl, by simp, fun q hq _ => heap_alloc_old w.drew _ hq⟩, .inl rfl, _, _, _, rfl⟩
      rw [zero_one, show ((xs.map (Value.int k)).toArray ++ (ys.map (Value.int k)).toArray ++ blk k (List.replicate (grownCap w (n + m) cap e - (n + m)) 0)) = blk k (xs ++ ys ++ List.replicate (grownCap w (n + m) cap e - (n + m)) 0) by simp [blk]]
      exact heap_alloc_new w.drew _
theorem step_append_K {ops : Array Oper} {o : Oper} {a : Act} {K : Act → World → Prop} {Q : Exit → Act → World → Prop} {E : Prop} (w : World) (hgd : o.guard = none) (s x : Operand) (t : TypeId)
    (ho : o.op = .call { callee := .builtin .append, args := #[s, x], argTypes := #[t, t] })
    (base : Nat) (k : IntKind) (e : TypeId) (bytes : Nat) (ht : P.underlying t = some (.slice e)) (hi : (P.info? e).map (fun i => (i.zero, i.size, i.bytes)) = some (some (.int k 0), 1, bytes))
    (v : Value) (xs : List Int) (hs : a.eval s = v) (hown : KOwn k e w base v xs) (B : Nat) (A : Option Addr) (m c : Nat) (ys : List Int) (hx : a.eval x = .slice A m c) (hr : Row k w B A ys) (hm : ys.length = m) (h1 : 1 ≤ m)
    (hbytes : (xs.length + m) * bytes ≤ 140737488355328) (h63 : xs.length + m ≤ maxLen) (hbase : base ≤ w.heap.size)
    (h : ∀ v' w', KOwn k e w' base v' (xs ++ ys) → w.grownBy w' v.ownBlock → (v'.ownBlock = some w.heap.size ∨ (v'.ownBlock = v.ownBlock ∧ v.ownBlock ≠ none)) → (∃ A' n' c', v' = .slice A' n' c') → K (a.put o.dst v') w') :
    if Region.wanted o (yielded ops a.tmps) = true then Oper.wp P o a w K Q else E := by
  have hw : Region.wanted o (yielded ops a.tmps) = true := by simp [Region.wanted, hgd]
  rw [if_pos hw]
  obtain ⟨v', w', hrun, g1, g2, g3, g4⟩ := run_append_K (P := P) w base t k e bytes ht hi v xs hown B A m c ys hr hm h1 hbytes h63 hbase
  unfold Oper.wp execOp
  simp only [ho, resolve, invoke, builtin, Sem.run_bind, Sem.run_pure, Result.andThen_ok, List.map_toArray, List.map_cons, List.map_nil, hs, hx, hrun]
  exact h v' w' g1 g2 g3 g4
theorem wpList_append_K {ops : Array Oper} {rest : List Oper} {o : Oper} {a : Act} {Q : Exit → Act → World → Prop} (w : World) (hgd : o.guard = none) (s x : Operand) (t : TypeId)
    (ho : o.op = .call { callee := .builtin .append, args := #[s, x], argTypes := #[t, t] })
    (base : Nat) (k : IntKind) (e : TypeId) (bytes : Nat) (ht : P.underlying t = some (.slice e)) (hi : (P.info? e).map (fun i => (i.zero, i.size, i.bytes)) = some (some (.int k 0), 1, bytes))
    (v : Value) (xs : List Int) (hs : a.eval s = v) (hown : KOwn k e w base v xs)
    (B : Nat) (A : Option Addr) (m c : Nat) (ys : List Int) (hx : a.eval x = .slice A m c) (hr : Row k w B A ys) (hm : ys.length = m) (h1 : 1 ≤ m)
    (hbytes : (xs.length + m) * bytes ≤ 140737488355328) (h63 : xs.length + m ≤ maxLen) (hbase : base ≤ w.heap.size)
    (h : ∀ v' w', KOwn k e w' base v' (xs ++ ys) → w.grownBy w' v.ownBlock → (v'.ownBlock = some w.heap.size ∨ (v'.ownBlock = v.ownBlock ∧ v.ownBlock ≠ none)) → (∃ A' n' c', v' = .slice A' n' c') → wpList P ops Q rest (a.put o.dst v') w') : wpList P ops Q (o :: rest) a w := by
  obtain ⟨v', w', hrun, g1, g2, g3, g4⟩ := run_append_K (P := P) w base t k e bytes ht hi v xs hown B A m c ys hr hm h1 hbytes h63 hbase
  exact wpList_append_run w hgd s x t ho v (.slice A m c) v' w' hs hx hrun (h v' w' g1 g2 g3 g4)
end
end Go.Proofs.YtcmbdhmhkfhjfaaGreat
namespace Go.Proofs.YtcmbdhmhkfhjfaaGreat.I
open Go.RowKit

theorem info_i64 : (Tryz.prog.info? 3).map (fun i => (i.zero, i.size, i.bytes)) = some (some (.int .i64 0), 1, 8) := by kernel_rfl

theorem made_zero (z : Int) (n : Nat) : madeCells (Value.int .i64 z).cells (n * 1) = blk .i64 (List.replicate n z) := by
  apply Array.toList_inj.1
  rw [show (Value.int .i64 z).cells = #[Value.int .i64 z] from rfl, toList_madeCells_one, Nat.mul_one]
  simp [blk]

theorem make_i64 (n : Nat) (hn : n ≤ 17592186044416) (W : World) :
    (Instr.makeSlice 23 (.int .i64 (n : Int)) (.int .i64 (n : Int))).run Tryz.prog W = .ok (.slice (some ⟨W.heap.size, 0, none⟩) n n) (W.alloc (.cells (blk .i64 (List.replicate n 0)) 3)) := by
  obtain ⟨i, hi, hz, hs, hb⟩ := info_parts info_i64
  have h := run_make (P := Tryz.prog) W 23 3 i (.int .i64 0) Tryz.underlying23 hi hz .i64 .i64 n n (by omega) (by omega) (by rw [hb]; omega) (by omega)
  rw [h, hs, Int.toNat_natCast, made_zero]

def marks5 : List Int := [-77, -77, -77, -77, -77]

theorem lent_i64 (A : Option Addr) (n c : Nat) (xs : List Int) (w : World) (hr : Row .i64 w w.heap.size A xs) (hn : xs.length = n) (hb : n ≤ 17592186043904) : 
    Calls Tryz.prog 8 #[.slice A n c] w fun e w' => e = .returned (.slice (some ⟨w.heap.size, 0, none⟩) n (n+5)) ∧ w' = w.alloc (.cells (blk .i64 (xs ++ marks5)) 3) := by
  have hmk := make_i64 (n + 5) (by omega)
  rw [show ((n + 5 : Nat) : Int) = (n : Int) + 5 by omega] at hmk
  go_enter Tryz.func8, Tryz.ntmps8
  go_wp2
  go_loopw [4] (fun i wr => ∃ k : Nat, k ≤ n ∧ i = .int .i64 k ∧ wr = w.alloc (.cells (blk .i64 (xs.take k ++ List.replicate (n + 5 - k) 0)) 3)) (fun i _ => n - (intOf i).toNat)
  case atStart => exact ⟨0, by omega, rfl, by simp⟩
  case round =>
    obtain ⟨k, hk, rfl, rfl⟩ := hrel
    by_cases hlt : k < n
    · obtain ⟨b, o, rfl, hb1, hc1⟩ := hr.at_ (i := k) (by omega)
      have hc2 := fill_cell .i64 (xs.take k) (n + 5 - k) k 0 (by simp; omega) (by omega)
      have HS := Lib.hid (set_step (xs.take k) (n + 5 - (k + 1)) k 0 (nth xs k) (by simp; omega))
      go_wp2
      go_roundw
      case rel => exact ⟨k + 1, by omega, by go_num, by rw [blk_set, show n + 5 - k = (n + 5 - (k + 1)) + 1 by omega, HS.out, take_step xs k (by omega)]⟩
      case measure => simp [intOf]; omega
    · obtain rfl : k = n := by omega
      have hx : xs.take k = xs := List.take_of_length_le (by omega)
      rw [hx, show k + 5 - k = 5 by omega]
      clear hx hlt hk
      go_wp2
      go_loopw [5] (fun i wr => ∃ (j : Nat) (L : List Int), j ≤ 5 ∧ i = .int .i64 (k + j : Nat) ∧ Hid (L = xs ++ List.replicate j (-77) ++ List.replicate (5 - j) 0) ∧ wr = w.alloc (.cells (blk .i64 L) 3)) (fun i _ => k + 5 - (intOf i).toNat)
      case atStart => exact ⟨0, _, by omega, rfl, Lib.hid (by simp), rfl⟩
      case round =>
        obtain ⟨j, L, hj, rfl, hL, rfl⟩ := hrel
        by_cases hlt : j < 5
        · have hc2 := fill_cell .i64 (xs ++ List.replicate j (-77)) (5 - j) (k + j) 0 (by simp; omega) (by omega)
          rw [← hL.out] at hc2
          have HS := Lib.hid (set_step (xs ++ List.replicate j (-77)) (5 - (j + 1)) (k + j) 0 (-77) (by simp; omega))
          go_wp2
          go_roundw
          case rel => exact ⟨j + 1, L.set (k + j) (-77), by omega, by go_num, Lib.hid (by rw [hL.out, show 5 - j = (5 - (j + 1)) + 1 by omega, HS.out, List.replicate_succ', List.append_assoc xs]), by rw [blk_set]⟩
          case measure => simp [intOf]; omega
        · obtain rfl : j = 5 := by omega
          go_wp2
          go_ret
          exact ⟨rfl, by rw [hL.out]; simp [marks5, List.replicate]⟩

theorem same_yes_i64 (A A' : Option Addr) (n c c' : Nat) (xs : List Int) (w : World) (B B' : Nat) (hr : Row .i64 w B A xs) (hr' : Row .i64 w B' A' xs) (hn : xs.length = n) (hb : n ≤ 17592186044416) :
    Calls Tryz.prog 12 #[.slice A n c, .slice A' n c'] w fun e w' => e = .returned (.bool true) ∧ ∃ m, w' = w.drewN m := by
  go_enter Tryz.func12, Tryz.ntmps12
  go_wp2
  go_loopw [5] (fun i wr => ∃ k nq : Nat, k ≤ n ∧ i = .int .i64 k ∧ wr = w.drewN nq) (fun i _ => n - (intOf i).toNat)
  case atStart => exact ⟨0, 0, by omega, rfl, rfl⟩
  case round =>
    obtain ⟨k, nq, hk, rfl, rfl⟩ := hrel
    by_cases hlt : k < n
    · obtain ⟨b, o, rfl, hb1, hc1⟩ := hr.at_ (i := k) (by omega)
      obtain ⟨b', o', rfl, hb1', hc1'⟩ := hr'.at_ (i := k) (by omega)
      have hlt' : (k : Int) < (n : Int) := by omega
      go_wp2
      go_quiet (fail)
      go_wp2
      go_roundw
      case rel => exact ⟨k + 1, _, by omega, by go_num, rfl⟩
      case measure => simp [intOf]; omega
    · go_wp2
      go_ret
      exact ⟨rfl, nq, rfl⟩

end Go.Proofs.YtcmbdhmhkfhjfaaGreat.I
namespace Go.Proofs.YtcmbdhmhkfhjfaaGreat
open Go.RowKit
set_option linter.unusedVariables false
set_option maxRecDepth 100000
attribute [local go_sem ↓] ldTag_fold stTag_fold bxTag_fold
attribute [local go_sem] bxTag_run

theorem valT_range (t : Tg) (pa : Int) (on : List Bool) (set : List Int) : -1099511627776 ≤ valT t pa on set ∧ valT t pa on set ≤ 1099511627776 := by
  unfold valT
  split
  · split <;> omega
  · unfold valN
    split
    · unfold cut; omega
    · omega
theorem valT_wf (t : Tg) (pa : Int) (on : List Bool) (set : List Int) : (Lit.int .i64 (valT t pa on set)).wf = true := by
  have := valT_range t pa on set
  simp [Lit.wf, IntKind.min, IntKind.max, IntKind.signed, IntKind.bits]; omega
theorem chkR_len {k a c : Int} {r : Rep} (hk : 1 ≤ k ∧ k ≤ 4) (h : chkR (reqK k a c) r = 0) (hx : r.x = 0) : ((k = 1 ∨ k = 2) → (r.on.length : Int) = c) ∧ (¬ (k = 1 ∨ k = 2) → (r.set.length : Int) = c) := by
  unfold chkR at h
  have hq : chkQ (reqK k a c) = 0 := by
    by_cases h0 : chkQ (reqK k a c) = 0
    · exact h0
    · rw [if_pos h0] at h; exact absurd h h0
  rw [if_neg (by simp [hq]), if_neg (by simp [hx])] at h
  have hm : manyB (reqK k a c) r = true := by
    by_cases hs : strayB (reqK k a c).c r.on.length r.set.length r.fs.length = true
    · rw [if_pos hs] at h; cases h
    · rw [if_neg hs] at h
      cases hm : manyB (reqK k a c) r with
      | true => rfl
      | false => rw [hm, if_pos rfl] at h; cases h
  unfold manyB reqK at hm
  simp only at hm
  refine ⟨fun hb => ?_, fun hb => ?_⟩
  · rw [if_pos hb] at hm
    exact of_decide_eq_true hm
  · rw [if_neg hb, if_pos (by omega)] at hm
    exact of_decide_eq_true hm
theorem refValue10_any (pu pk pa pc pe : Int) (Pt : Option Addr) (pn pm : Nat) (x : Int) (Bo Bs Bf : Option Addr) (mo ms mf eo es ef : Nat) (r : Rep) (t : Tg) (w : World) (hr : Repd w w.heap.size r Bo Bs Bf mo ms mf) (hin : inP t pu pk pa pc = true) (hask : askE pk pa pc = 0) (hchk : chkR (reqK pk pa pc) r = 0) (hx : r.x = 0) (hms : ms ≤ es) (hb : es ≤ 9223372036854775807) :
    Calls Tryz.prog 32 #[tgV t, .agg #[.int .i64 pu, .int .i64 pk, .int .i64 pa, .int .i64 pc, .int .i64 pe, .slice Pt pn pm], .agg #[.int .i64 x, .slice Bo mo eo, .slice Bs ms es, .slice Bf mf ef]] w fun e w' => e = .returned (.int .i64 (valT t pa r.on r.set)) ∧ Below w.heap.size w w' := by
  obtain ⟨i1, i2, i3, i4⟩ := inP_iff.1 hin
  obtain ⟨k1, k2, k3, k4⟩ := askE_zero hask
  obtain ⟨n1, n2⟩ := chkR_len k1 hchk hx
  have hw := widT_le t
  have hmo : mostK pk ≤ 2000 := by unfold mostK; split <;> omega
  obtain ⟨k, hk⟩ : ∃ k : Nat, t.ad - pa = k := ⟨(t.ad - pa).toNat, by omega⟩
  obtain ⟨m, hm⟩ : ∃ m : Nat, widT t = m := ⟨(widT t).toNat, by omega⟩
  unfold valT
  rw [hk, hm, Int.toNat_natCast, Int.toNat_natCast]
  by_cases hki : t.ki = 1 ∨ t.ki = 2
  · rw [if_pos hki]
    have := n1 (by rw [← i2]; exact hki)
    exact refValue10_bits pu pk pa pc pe Pt pn pm x Bo Bs Bf mo ms mf eo es ef r.on t k w hr.on hr.mo hk (by omega) hki (by have := hr.mo; omega)
  · rw [if_neg hki]
    have := n2 (by rw [← i2]; exact hki)
    exact refValue10_words pu pk pa pc pe Pt pn pm x Bo Bs Bf mo ms mf eo es ef r.set t k m w hr.set hr.ms hk hm (by omega) hms (fun h => hki (.inl h)) (fun h => hki (.inr h)) hb

def okP (l : List Tg) (un ki ad ct x : Int) : Bool := decide (0 ≤ x) && (decide (x < l.length) && inP (tgAt l x.toNat) un ki ad ct)
def valsE (l : List Tg) (p : Pol) (r : Rep) : Int :=
  if (chkAll l).1 ≠ 0 then (chkAll l).1 else if askE p.ki p.ad p.ct ≠ 0 then askE p.ki p.ad p.ct else if chkR (reqK p.ki p.ad p.ct) r ≠ 0 then chkR (reqK p.ki p.ad p.ct) r
  else if r.x ≠ 0 then 12 else if p.tg.all (okP l p.un p.ki p.ad p.ct) = true then 0 else 3
def valsM (l : List Tg) (p : Pol) (r : Rep) : List Int := p.tg.map (fun x => valT (tgAt l x.toNat) p.ad r.on r.set)
def valsL (l : List Tg) (p : Pol) (r : Rep) : List Int := if valsE l p r = 0 then valsM l p r else []
theorem valsE_tab {l : List Tg} {p : Pol} {r : Rep} {E : Int} (h : (chkAll l).1 = E) (h0 : E ≠ 0) : valsE l p r = E := by unfold valsE; rw [h, if_pos h0]
theorem valsE_ask {l : List Tg} {p : Pol} {r : Rep} {E : Int} (h : (chkAll l).1 = 0) (h1 : askE p.ki p.ad p.ct = E) (h0 : E ≠ 0) : valsE l p r = E := by unfold valsE; rw [h, if_neg (by omega), h1, if_pos h0]
theorem valsE_chk {l : List Tg} {p : Pol} {r : Rep} {E : Int} (h : (chkAll l).1 = 0) (h1 : askE p.ki p.ad p.ct = 0) (h2 : chkR (reqK p.ki p.ad p.ct) r = E) (h0 : E ≠ 0) : valsE l p r = E := by unfold valsE; rw [h, if_neg (by omega), h1, if_neg (by omega), h2, if_pos h0]
theorem valsE_exc {l : List Tg} {p : Pol} {r : Rep} (h : (chkAll l).1 = 0) (h1 : askE p.ki p.ad p.ct = 0) (h2 : chkR (reqK p.ki p.ad p.ct) r = 0) (h0 : r.x ≠ 0) : valsE l p r = 12 := by unfold valsE; rw [h, if_neg (by omega), h1, if_neg (by omega), h2, if_neg (by omega), if_pos h0]
theorem valsE_all {l : List Tg} {p : Pol} {r : Rep} (h : (chkAll l).1 = 0) (h1 : askE p.ki p.ad p.ct = 0) (h2 : chkR (reqK p.ki p.ad p.ct) r = 0) (h3 : r.x = 0) : valsE l p r = if p.tg.all (okP l p.un p.ki p.ad p.ct) = true then 0 else 3 := by unfold valsE; rw [h, if_neg (by omega), h1, if_neg (by omega), h2, if_neg (by omega), if_neg (by omega)]
theorem valsE_bad {l : List Tg} {p : Pol} {r : Rep} (h : (chkAll l).1 = 0) (h1 : askE p.ki p.ad p.ct = 0) (h2 : chkR (reqK p.ki p.ad p.ct) r = 0) (h3 : r.x = 0) {k : Nat} (hk : k < p.tg.length) (hb : okP l p.un p.ki p.ad p.ct (nth p.tg k) = false) : valsE l p r = 3 := by
  rw [valsE_all h h1 h2 h3, if_neg]
  intro ha
  have := List.all_eq_true.1 ha _ (nth_mem p.tg k hk)
  rw [hb] at this; cases this
theorem valsE_good {l : List Tg} {p : Pol} {r : Rep} (h : (chkAll l).1 = 0) (h1 : askE p.ki p.ad p.ct = 0) (h2 : chkR (reqK p.ki p.ad p.ct) r = 0) (h3 : r.x = 0) (ha : ∀ k, k < p.tg.length → okP l p.un p.ki p.ad p.ct (nth p.tg k) = true) : valsE l p r = 0 := by
  rw [valsE_all h h1 h2 h3, if_pos]
  rw [List.all_eq_true]
  intro x hx
  obtain ⟨i, hi, rfl⟩ := List.mem_iff_getElem.1 hx
  rw [← nth_eq p.tg i hi]
  exact ha i hi
theorem valsL_bad {l : List Tg} {p : Pol} {r : Rep} (h : valsE l p r ≠ 0) : valsL l p r = [] := if_neg h
theorem valsL_good {l : List Tg} {p : Pol} {r : Rep} (h : valsE l p r = 0) : valsL l p r = valsM l p r := if_pos h
theorem valsM_len (l : List Tg) (p : Pol) (r : Rep) : (valsM l p r).length = p.tg.length := by simp [valsM]
theorem valsM_nth (l : List Tg) (p : Pol) (r : Rep) (k : Nat) (hk : k < p.tg.length) : nth (valsM l p r) k = valT (tgAt l (nth p.tg k).toNat) p.ad r.on r.set := by
  rw [nth_eq _ _ (by rw [valsM_len]; exact hk), nth_eq _ _ hk]
  simp [valsM]
theorem valsM_wf (l : List Tg) (p : Pol) (r : Rep) : ∀ x ∈ valsM l p r, (Lit.int .i64 x).wf = true := by
  intro x hx
  obtain ⟨y, _, rfl⟩ := List.mem_map.1 hx
  exact valT_wf _ _ _ _
theorem valsL_wf (l : List Tg) (p : Pol) (r : Rep) : ∀ x ∈ valsL l p r, (Lit.int .i64 x).wf = true := by
  unfold valsL
  split
  · exact valsM_wf l p r
  · intro x hx; cases hx
def GivesI (w : World) (xs : List Int) (E : Int) (e : Ending) (w' : World) : Prop := ∃ v, e = .returned (.tuple #[v, .int .i64 E]) ∧ KOwn .i64 3 w' w.heap.size v xs ∧ Below w.heap.size w w'
end Go.Proofs.YtcmbdhmhkfhjfaaGreat
namespace Go.Proofs.YtcmbdhmhkfhjfaaGreat
open Go.RowKit
set_option linter.unusedVariables false
set_option maxRecDepth 100000

def usedL (n : Nat) (o : List Nat) : List Bool := (List.range n).map fun i => decide (i ∈ o)
theorem usedL_len (n : Nat) (o : List Nat) : (usedL n o).length = n := by simp [usedL]
theorem usedL_nil (n : Nat) : usedL n [] = List.replicate n false := by
  apply List.ext_getElem (by simp [usedL])
  intro i h1 h2
  simp [usedL]
theorem usedL_at (n : Nat) (o : List Nat) {i : Nat} (h : i < n) : L.nth (usedL n o) i = decide (i ∈ o) := by
  rw [L.nth_eq _ _ (by rw [usedL_len]; exact h)]
  simp [usedL]
theorem usedL_set (n : Nat) (o : List Nat) (m : Nat) : (usedL n o).set m true = usedL n (o ++ [m]) := by
  apply List.ext_getElem (by simp [usedL])
  intro i h1 h2
  rw [List.getElem_set]
  simp only [usedL, List.getElem_map, List.getElem_range, List.mem_append, List.mem_singleton]
  by_cases h : m = i
  · subst h; simp
  · rw [if_neg h]
    simp [show ¬ i = m from fun e => h e.symm]
structure OInv (l : List Tg) (o : List Nat) : Prop where
  lt : ∀ x ∈ o, x < l.length
  srt : o.Pairwise (fun a b => aheadB l a b = true)
  all : ∀ x ∈ o, ∀ y, y < l.length → y ∉ o → aheadB l x y = true
theorem oinv_nil (l : List Tg) : OInv l [] := ⟨fun x hx => (by cases hx), List.Pairwise.nil, fun x hx => (by cases hx)⟩
theorem oinv_snoc {l : List Tg} {o : List Nat} (h : OInv l o) {m : Nat} (hm : m < l.length) (hn : m ∉ o) (hf : ∀ j, j < l.length → j ∉ o → j = m ∨ aheadB l m j = true) : OInv l (o ++ [m]) := by
  refine ⟨fun x hx => ?_, List.pairwise_append.2 ⟨h.srt, List.pairwise_singleton _ _, fun a ha b hb => ?_⟩, fun x hx y hy hyn => ?_⟩
  · rcases List.mem_append.1 hx with hx | hx
    · exact h.lt x hx
    · obtain rfl : x = m := by simpa using hx
      exact hm
  · obtain rfl : b = m := by simpa using hb
    exact h.all a ha b hm hn
  · have hyo : y ∉ o := fun e => hyn (List.mem_append_left _ e)
    have hym : y ≠ m := fun e => hyn (by rw [e]; simp)
    rcases List.mem_append.1 hx with hx | hx
    · exact h.all x hx y hy hyo
    · obtain rfl : x = m := by simpa using hx
      exact (hf y hy hyo).resolve_left hym
theorem oinv_left {l : List Tg} {o : List Nat} (h : OInv l o) (hl : o.length < l.length) (ha : ∀ j, j < l.length → j ∈ o) : False := by
  have := (List.nodup_range (n := l.length)).length_le_of_subset (l₂ := o) (fun x hx => ha x (List.mem_range.1 hx))
  rw [List.length_range] at this
  omega
def FirstP (l : List Tg) (o : List Nat) (k : Nat) (f : Int) : Prop := (f = -1 ∧ ∀ j, j < k → j ∈ o) ∨ ∃ m : Nat, f = (m : Int) ∧ m < k ∧ m ∉ o ∧ ∀ j, j < k → j ∉ o → j = m ∨ aheadB l m j = true
theorem firstP_used {l : List Tg} {o : List Nat} {k : Nat} {f : Int} (h : FirstP l o k f) (hk : k ∈ o) : FirstP l o (k + 1) f := by
  rcases h with ⟨h1, h2⟩ | ⟨m, h1, h2, h3, h4⟩
  · refine .inl ⟨h1, fun j hj => ?_⟩
    rcases Nat.lt_or_ge j k with h | h
    · exact h2 j h
    · obtain rfl : j = k := by omega
      exact hk
  · refine .inr ⟨m, h1, by omega, h3, fun j hj hjo => ?_⟩
    rcases Nat.lt_or_ge j k with h | h
    · exact h4 j h hjo
    · obtain rfl : j = k := by omega
      exact absurd hk hjo
theorem firstP_new {l : List Tg} {o : List Nat} {k : Nat} (h : FirstP l o k (-1)) (hk : k ∉ o) : FirstP l o (k + 1) (k : Int) := by
  rcases h with ⟨h1, h2⟩ | ⟨m, h1, h2, h3, h4⟩
  · refine .inr ⟨k, rfl, by omega, hk, fun j hj hjo => ?_⟩
    rcases Nat.lt_or_ge j k with h | h
    · exact absurd (h2 j h) hjo
    · exact .inl (by omega)
  · omega
theorem firstP_ahead {l : List Tg} {o : List Nat} {k m : Nat} (h : FirstP l o k (m : Int)) (hk : k ∉ o) (ha : aheadB l k m = true) : FirstP l o (k + 1) (k : Int) := by
  rcases h with ⟨h1, h2⟩ | ⟨m', h1, h2, h3, h4⟩
  · omega
  · obtain rfl : m = m' := by omega
    refine .inr ⟨k, rfl, by omega, hk, fun j hj hjo => ?_⟩
    rcases Nat.lt_or_ge j k with h | h
    · rcases h4 j h hjo with rfl | h5
      · exact .inr ha
      · exact .inr (ahead_trans ha h5)
    · exact .inl (by omega)
theorem firstP_keep {l : List Tg} {o : List Nat} {k m : Nat} (h : FirstP l o k (m : Int)) (ha : aheadB l k m = false) : FirstP l o (k + 1) (m : Int) := by
  rcases h with ⟨h1, h2⟩ | ⟨m', h1, h2, h3, h4⟩
  · omega
  · obtain rfl : m = m' := by omega
    refine .inr ⟨m, rfl, by omega, h3, fun j hj hjo => ?_⟩
    rcases Nat.lt_or_ge j k with h | h
    · exact h4 j h hjo
    · obtain rfl : j = k := by omega
      rcases ahead_total l (show j ≠ m by omega) with h5 | h5
      · rw [ha] at h5; cases h5
      · exact .inr h5
def lenV : Value → Nat
  | .slice _ n _ => n
  | _ => 0
theorem L.block_setB (w : World) (g i : Nat) (l : List Bool) (v : Bool) (h : w.heap[g]? = some (.cells (L.blk () l) 4 (0, 0))) : (w.setCell ⟨g, i, none⟩ (.bool v)).heap[g]? = some (.cells (L.blk () (l.set i v)) 4 (0, 0)) := L.block_setCell w g i () 4 l v h
theorem KOwn.setLow {k : IntKind} {e : TypeId} {w : World} {base : Nat} {v : Value} {xs : List Int} (h : KOwn k e w base v xs) {g : Nat} (hg : g < base) (i : Nat) (u : Value) : KOwn k e (w.setCell ⟨g, i, none⟩ u) base v xs := by
  rcases h with h | ⟨g', n, cap, r, h1, h2, h3, h4, h5⟩
  · exact .inl h
  · exact .inr ⟨g', n, cap, r, h1, h2, h3, (Below.heap_setCell w ⟨g, i, none⟩ u g' (by simp; omega)).trans h4, h5⟩
def intL (o : List Nat) : List Int := o.map fun k : Nat => (k : Int)
theorem intL_len (o : List Nat) : (intL o).length = o.length := by simp [intL]
theorem intL_snoc (o : List Nat) (m : Nat) : intL (o ++ [m]) = intL o ++ [(m : Int)] := by simp [intL]

set_option maxHeartbeats 4000000 in
theorem refOrder_any (A : Option Addr) (n c : Nat) (l : List Tg) (w : World) (hr : VRow w w.heap.size A (flatV tgC l)) (hn : l.length = n) (hb : n ≤ 64) :
    Calls Tryz.prog 64 #[.slice A n c] w fun e w' => ∃ v, e = .returned v ∧ KOwn .i64 3 w' w.heap.size v (intL (ordT l)) ∧ Below w.heap.size w w' := by
  have hmk := L.make_bool n (by omega) w
  rw [← usedL_nil] at hmk
  have hn' := Lib.hid hn
  have HVR := Lib.hid hr
  clear hn hr
  go_enter Tryz.func64, Tryz.ntmps64
  go_wp2
  go_loopw [3] (fun v wr => ∃ o : List Nat, Hid (OInv l o) ∧ Hid (o.length ≤ n) ∧ (∃ A' c', v = .slice A' o.length c') ∧ Hid (KOwn .i64 3 wr (w.heap.size + 1) v (intL o)) ∧ Hid (wr.heap[w.heap.size]? = some (.cells (L.blk () (usedL n o)) 4 (0, 0))) ∧ Hid (Below w.heap.size w wr)) (fun v _ => n - lenV v)
  case atStart => exact ⟨[], Lib.hid (oinv_nil l), Lib.hid (Nat.zero_le _), ⟨none, 0, rfl⟩, Lib.hid (KOwn.nil _ _ _ _), Lib.hid (heap_alloc_new w _), Lib.hid (bel_alloc w _)⟩
  case round =>
    clear hmk
    obtain ⟨o, hoi, hol, ⟨A', c', rfl⟩, hown, hus, hbel⟩ := hrel
    by_cases hlt : o.length < n
    · have hlt' : (o.length : Int) < (n : Int) := by omega
      generalize hm0 : o.length = m0 at *
      have hm0' := Lib.hid hm0
      clear hm0
      go_wp2
      rename World => w2
      go_loopw [5, 6] (fun f i wj => ∃ (k : Nat) (z : Int), k ≤ n ∧ i = .int .i64 k ∧ f = .int .i64 z ∧ Hid (FirstP l o k z) ∧ Hid (Below w2.heap.size w2 wj)) (fun _ i _ => n - (intOf i).toNat)
      case atStart => exact ⟨0, -1, by omega, rfl, rfl, Lib.hid (.inl ⟨rfl, fun j hj => absurd hj (by omega)⟩), Lib.hid (Below.refl _ _)⟩
      case round =>
        obtain ⟨k, z, hk, rfl, rfl, hfp, hbi⟩ := hrel
        by_cases hkn : k < n
        · have hkn' : (k : Int) < (n : Int) := by omega
          have hk0 : (0 : Int) ≤ k := by omega
          have husi : wr.heap[w.heap.size]? = some (.cells (L.blk () (usedL n o)) 4 (0, 0)) := (hbi.out.block _ (block_lt hus.out)).trans hus.out
          have hcu : wr.cell? ⟨w.heap.size, k, none⟩ = some (.bool (decide (k ∈ o))) := by
            rw [cell_of_row _ _ k _ _ _ husi, L.blk_get _ _ _ (by rw [usedL_len]; exact hkn), usedL_at n o hkn]
          clear husi
          by_cases hko : k ∈ o
          · have hfp2 : Hid (FirstP l o (k + 1) z) := Lib.hid (firstP_used hfp.out hko)
            rw [decide_eq_true hko] at hcu
            clear hko
            go_wp2
            go_roundw
            case rel => exact ⟨k + 1, z, by omega, by go_num, rfl, hfp2, hbi⟩
            case measure => simp [intOf]; omega
          · have HKO := Lib.hid hko
            rw [decide_eq_false hko] at hcu
            clear hko
            rcases id hfp.out with ⟨rfl, _⟩ | ⟨m, rfl, hmk, _⟩
            · have hfp2 : Hid (FirstP l o (k + 1) (k : Int)) := Lib.hid (firstP_new hfp.out HKO.out)
              go_wp2
              go_roundw
              case rel => exact ⟨k + 1, (k : Int), by omega, by go_num, rfl, hfp2, hbi⟩
              case measure => simp [intOf]; omega
            · have hmn : m < n := by omega
              have hm0 : (0 : Int) ≤ m := by omega
              have hmz : ¬ (m : Int) < 0 := by omega
              have hdz : decide ((m : Int) < 0) = false := decide_eq_false hmz
              have HA : Hid (Calls Tryz.prog 98 #[.slice A n c, .int .i64 (k : Int), .int .i64 (m : Int)] wr fun e w' => e = .returned (.bool (aheadB l k m)) ∧ Below wr.heap.size wr w') := Lib.hid (refAhead_any A n c l k m wr ((HVR.out.below (hbel.out.trans (hbi.out.mono hbel.out.size))).more (Nat.le_trans hbel.out.size hbi.out.size)) hn'.out (by omega) hkn hmn)
              cases hah : aheadB l k m
              case true =>
                have hfp2 : Hid (FirstP l o (k + 1) (k : Int)) := Lib.hid (firstP_ahead hfp.out HKO.out hah)
                rw [hah] at HA
                clear hah
                go_wp2_with (go_at_call 98; refine HA.out.mono ?_; rintro e w9 ⟨rfl, b9⟩)
                have hbi2 := Lib.hid (hbi.out.trans (b9.mono hbi.out.size))
                go_roundw
                case rel => exact ⟨k + 1, (k : Int), by omega, by go_num, rfl, hfp2, hbi2⟩
                case measure => simp [intOf]; omega
              case false =>
                have hfp2 : Hid (FirstP l o (k + 1) (m : Int)) := Lib.hid (firstP_keep hfp.out hah)
                rw [hah] at HA
                clear hah
                go_wp2_with (go_at_call 98; refine HA.out.mono ?_; rintro e w9 ⟨rfl, b9⟩)
                have hbi2 := Lib.hid (hbi.out.trans (b9.mono hbi.out.size))
                go_roundw
                case rel => exact ⟨k + 1, (m : Int), by omega, by go_num, rfl, hfp2, hbi2⟩
                case measure => simp [intOf]; omega
        · obtain rfl : k = n := by omega
          obtain ⟨m, rfl, hmn, hmo, hmf⟩ : ∃ m : Nat, z = (m : Int) ∧ m < k ∧ m ∉ o ∧ ∀ j, j < k → j ∉ o → j = m ∨ aheadB l m j = true := by
            rcases hfp.out with ⟨_, h2⟩ | h
            · exact (oinv_left hoi.out (by have := hn'.out; have := hm0'.out; omega) (fun j hj => h2 j (by have := hn'.out; omega))).elim
            · exact h
          have hoi2 : Hid (OInv l (o ++ [m])) := Lib.hid (oinv_snoc hoi.out (by have := hn'.out; omega) hmo (fun j hj => hmf j (by have := hn'.out; omega)))
          have hol2 : Hid ((o ++ [m]).length = m0 + 1) := Lib.hid (by rw [List.length_append, hm0'.out]; rfl)
          clear hmf hmo
          have husi : wr.heap[w.heap.size]? = some (.cells (L.blk () (usedL k o)) 4 (0, 0)) := (hbi.out.block _ (block_lt hus.out)).trans hus.out
          have hcu := cell_of_row _ _ m _ _ _ husi
          rw [L.blk_get _ _ _ (by rw [usedL_len]; exact hmn)] at hcu
          have hfz := block_frozen _ _ m _ _ husi
          have hus2 := Lib.hid (L.block_setB wr w.heap.size m _ true husi)
          rw [usedL_set] at hus2
          have hbs := Lib.hid (below_setCell (hbel.out.trans (hbi.out.mono hbel.out.size)) (Nat.le_refl _) m (.bool true))
          have hown2 : KOwn .i64 3 (wr.setCell ⟨w.heap.size, m, none⟩ (.bool true)) (w.heap.size + 1) (.slice A' m0 c') (intL o) := (hown.out.below hbi.out (Nat.le_refl _)).setLow (g := w.heap.size) (by omega) m (.bool true)
          have hszs : w.heap.size + 1 ≤ (wr.setCell ⟨w.heap.size, m, none⟩ (.bool true)).heap.size := by
            have h1 := block_lt husi
            simp [World.setCell]; omega
          have hmk' : (m : Int) < (k : Int) := by omega
          have hm0i : (0 : Int) ≤ m := by omega
          have hmw : (Lit.int .i64 (m : Int)).wf = true := by simp [Lit.wf, IntKind.min, IntKind.max, IntKind.signed, IntKind.bits]; omega
          have hss : (wr.setCell ⟨w.heap.size, m, none⟩ (.bool true)).heap.size = wr.heap.size := by simp [World.setCell]
          have hone := Row.one .i64 (wr.setCell ⟨w.heap.size, m, none⟩ (.bool true)) 3 (m : Int) hmw
          rw [hss] at hone hszs
          have HLN : Hid ((intL o).length = m0) := Lib.hid (by rw [intL_len, hm0'.out])
          have hown3 := hown2.below (bel_alloc _ (.cells #[.int .i64 (m : Int)] 3)) (Nat.le_refl _)
          clear husi hown hown2
          go_wp2_with (at_builtin; refine wpList_append_K _ rfl _ _ 23 rfl (w.heap.size + 1) .i64 3 8 Tryz.underlying23 I.info_i64 _ (intL o) rfl hown3 _ _ 1 1 [(m : Int)] rfl hone rfl (Nat.le_refl _) (by rw [HLN.out]; omega) (by rw [HLN.out]; simp only [maxLen]; omega) (by rw [World.size_alloc, hss]; omega) ?_; intro v1 w1 own1 g1 _ sl1)
          have hgb : ∀ g, (Value.slice A' m0 c').ownBlock = some g → w.heap.size + 1 ≤ g := fun g e => (hown3.block g e).1
          have hus3 := Lib.hid ((heap_alloc_old _ (.cells #[.int .i64 (m : Int)] 3) (block_lt hus2.out)).trans hus2.out)
          have hus4 := Lib.hid ((g1.block _ (block_lt hus3.out) (fun e => by have := hgb _ e.symm; omega)).trans hus3.out)
          have hbel4 := Lib.hid (((hbs.out.alloc (by rw [hss]; omega) (.cells #[.int .i64 (m : Int)] 3))).grown g1 (by rw [World.size_alloc, hss]; omega) (fun g e => by have := hgb g e; omega))
          rw [← intL_snoc] at own1
          have own4 := Lib.hid own1
          obtain ⟨A1, n1, c1, rfl⟩ := sl1
          have hl1 : n1 = (o ++ [m]).length := by
            rcases own4.out with ⟨e, e'⟩ | ⟨g, n', cap, r, e, _, hl, _⟩
            · simp [intL] at e'
            · injection e with _ e _
              rw [e, ← hl, intL_len]
          have hl2 : n1 = m0 + 1 := by rw [hl1, hol2.out]
          clear own1 g1 hown3 hone hgb hbs hus2 hus3 hl1
          subst hl2
          go_wp2
          go_roundw
          case rel => exact ⟨o ++ [m], hoi2, Lib.hid (by rw [hol2.out]; omega), ⟨A1, c1, by rw [hol2.out]⟩, own4, hus4, hbel4⟩
          case measure => simp [lenV]; omega
    · have heq : Hid (o = ordT l) := Lib.hid (ordT_only2 (by have := hn'.out; have := hol.out; omega) hoi.out.lt hoi.out.srt)
      have hfin : Hid (KOwn .i64 3 wr w.heap.size (.slice A' o.length c') (intL (ordT l))) := Lib.hid (by rw [← heq.out]; exact hown.out.mono (base' := w.heap.size) (by omega))
      go_wp2
      go_ret
      exact ⟨_, rfl, hfin.out, hbel.out⟩
end Go.Proofs.YtcmbdhmhkfhjfaaGreat
namespace Go.Proofs.YtcmbdhmhkfhjfaaGreat
open Go.Shelf Go.Proofs
def Tryz.sortInts_ren : Go.Shelf.Ren := ⟨fun | 6 => 71 | 15 => 106 | 14 => 105 | 28 => 126 | 29 => 127 | 20 => 118 | 21 => 119 | 22 => 120 | 23 => 121 | 24 => 122 | 25 => 123 | 26 => 124 | 27 => 125 | 46 => 132 | 47 => 133 | 48 => 134 | 49 => 135 | 50 => 136 | 57 => 138 | n => n, fun | 22 => 23 | 24 => 3 | 25 => 103 | 3 => 3 | 39 => 123 | 0 => 0 | 53 => 135 | 55 => 137 | 4 => 4 | 46 => 129 | 45 => 128 | 50 => 95 | 5 => 5 | 9 => 9 | 66 => 139 | 70 => 143 | 76 => 146 | 77 => 147 | n => n, fun | n => n⟩
theorem Tryz.sortInts : Go.Proofs.SlLaysF.n6 Tryz.prog Tryz.sortInts_ren := {
  mixed := by kernel_rfl
  f6 := ⟨Tryz.f71.name, by decide, Tryz.func71.trans (congrArg some (by kernel_rfl))⟩
  f14 := ⟨Tryz.f105.name, by decide, Tryz.func105.trans (congrArg some (by kernel_rfl))⟩
  f15 := Tryz.func106.trans (congrArg some (by kernel_rfl))
  f20 := ⟨Tryz.f118.name, by decide, Tryz.func118.trans (congrArg some (by kernel_rfl))⟩
  f21 := ⟨Tryz.f119.name, by decide, Tryz.func119.trans (congrArg some (by kernel_rfl))⟩
  f22 := ⟨Tryz.f120.name, by decide, Tryz.func120.trans (congrArg some (by kernel_rfl))⟩
  f23 := ⟨Tryz.f121.name, by decide, Tryz.func121.trans (congrArg some (by kernel_rfl))⟩
  f24 := ⟨Tryz.f122.name, by decide, Tryz.func122.trans (congrArg some (by kernel_rfl))⟩
  f25 := ⟨Tryz.f123.name, by decide, Tryz.func123.trans (congrArg some (by kernel_rfl))⟩
  f26 := ⟨Tryz.f124.name, by decide, Tryz.func124.trans (congrArg some (by kernel_rfl))⟩
  f27 := ⟨Tryz.f125.name, by decide, Tryz.func125.trans (congrArg some (by kernel_rfl))⟩
  f28 := Tryz.func126.trans (congrArg some (by kernel_rfl))
  f29 := Tryz.func127.trans (congrArg some (by kernel_rfl))
  f46 := ⟨Tryz.f132.name, by decide, Tryz.func132.trans (congrArg some (by kernel_rfl))⟩
  f47 := Tryz.func133.trans (congrArg some (by kernel_rfl))
  f48 := Tryz.func134.trans (congrArg some (by kernel_rfl))
  f49 := ⟨Tryz.f135.name, by decide, Tryz.func135.trans (congrArg some (by kernel_rfl))⟩
  f50 := ⟨Tryz.f136.name, by decide, Tryz.func136.trans (congrArg some (by kernel_rfl))⟩
  f57 := ⟨Tryz.f138.name, by decide, Tryz.func138.trans (congrArg some (by kernel_rfl))⟩
  t0 := Tryz.underlying0
  a0 := Tryz.isAgg0
  z0 := Tryz.sizeOf0
  v0 := Tryz.zeroValue0
  t3 := Tryz.underlying3
  a3 := Tryz.isAgg3
  z3 := Tryz.sizeOf3
  v3 := Tryz.zeroValue3
  t4 := Tryz.underlying4
  a4 := Tryz.isAgg4
  z4 := Tryz.sizeOf4
  v4 := Tryz.zeroValue4
  t5 := Tryz.underlying5
  a5 := Tryz.isAgg5
  z5 := Tryz.sizeOf5
  v5 := Tryz.zeroValue5
  t9 := Tryz.underlying9
  a9 := Tryz.isAgg9
  z9 := Tryz.sizeOf9
  v9 := Tryz.zeroValue9
  t22 := Tryz.underlying23
  a22 := Tryz.isAgg23
  z22 := Tryz.sizeOf23
  v22 := Tryz.zeroValue23
  a24 := Tryz.isAgg3
  z24 := Tryz.sizeOf3
  t25 := Tryz.underlying103
  a25 := Tryz.isAgg103
  z25 := Tryz.sizeOf103
  v25 := Tryz.zeroValue103
  t39 := Tryz.underlying123
  a39 := Tryz.isAgg123
  z39 := Tryz.sizeOf123
  v39 := Tryz.zeroValue123
  t45 := Tryz.underlying128
  a45 := Tryz.isAgg128
  z45 := Tryz.sizeOf128
  v45 := Tryz.zeroValue128
  t46 := Tryz.underlying129
  a46 := Tryz.isAgg129
  z46 := Tryz.sizeOf129
  v46 := Tryz.zeroValue129
  t50 := Tryz.underlying95
  a50 := Tryz.isAgg95
  z50 := Tryz.sizeOf95
  v50 := Tryz.zeroValue95
  t53 := Tryz.underlying135
  a53 := Tryz.isAgg135
  z53 := Tryz.sizeOf135
  v53 := Tryz.zeroValue135
  t55 := Tryz.underlying137
  a55 := Tryz.isAgg137
  z55 := Tryz.sizeOf137
  v55 := Tryz.zeroValue137
  t66 := Tryz.underlying139
  a66 := Tryz.isAgg139
  z66 := Tryz.sizeOf139
  v66 := Tryz.zeroValue139
  t70 := Tryz.underlying143
  a70 := Tryz.isAgg143
  z70 := Tryz.sizeOf143
  v70 := Tryz.zeroValue143
  t76 := Tryz.underlying146
  a76 := Tryz.isAgg146
  z76 := Tryz.sizeOf146
  v76 := Tryz.zeroValue146
  t77 := Tryz.underlying147
  a77 := Tryz.isAgg147
  z77 := Tryz.sizeOf147
  v77 := Tryz.zeroValue147 }
def Tryz.cmpInts_ren : Go.Shelf.Ren := ⟨fun | 5 => 74 | 7 => 107 | n => n, fun | 22 => 3 | 3 => 3 | 4 => 4 | n => n, fun | n => n⟩
theorem Tryz.cmpInts : Go.Proofs.SlLaysC2.n5 Tryz.prog Tryz.cmpInts_ren := {
  mixed := by kernel_rfl
  f5 := ⟨Tryz.f74.name, by decide, Tryz.func74.trans (congrArg some (by kernel_rfl))⟩
  f7 := ⟨Tryz.f107.name, by decide, Tryz.func107.trans (congrArg some (by kernel_rfl))⟩
  t3 := Tryz.underlying3
  a3 := Tryz.isAgg3
  z3 := Tryz.sizeOf3
  v3 := Tryz.zeroValue3
  t4 := Tryz.underlying4
  a4 := Tryz.isAgg4
  z4 := Tryz.sizeOf4
  v4 := Tryz.zeroValue4
  t22 := Tryz.underlying3
  a22 := Tryz.isAgg3
  z22 := Tryz.sizeOf3
  v22 := Tryz.zeroValue3 }
end Go.Proofs.YtcmbdhmhkfhjfaaGreat
namespace Go.Proofs.YtcmbdhmhkfhjfaaGreat
open Go.RowKit Go.Lib
set_option linter.unusedVariables false
set_option maxRecDepth 100000
attribute [local go_sem ↓] ldTag_fold stTag_fold bxTag_fold
attribute [local go_sem] bxTag_run

theorem compare_any (x y : Int) (w : World) : Calls Tryz.prog 74 #[.int .i64 x, .int .i64 y] w fun e w' => e = .returned (.int .i64 (Lib.compareInt x y)) ∧ w' = w := AnyG.cmp_Compare_int Tryz.cmpInts x y w
def orL : List Int → Int
  | [] => 0
  | x :: xs => if x = 0 then orL xs else x
theorem orL_step (xs : List Int) (k : Nat) (h : k < xs.length) : orL (xs.drop k) = if nth xs k = 0 then orL (xs.drop (k + 1)) else nth xs k := by
  rw [List.drop_eq_getElem_cons h, nth_eq xs k h]
  rfl
theorem or_any (A : Option Addr) (n c : Nat) (xs : List Int) (w : World) (hr : Row .i64 w w.heap.size A xs) (hn : xs.length = n) (hb : n ≤ 1000) : Calls Tryz.prog 73 #[.slice A n c] w fun e w' => e = .returned (.int .i64 (orL xs)) ∧ w' = w := by
  have HR := Lib.hid hr
  have HN := Lib.hid hn
  clear hr hn
  go_enter Tryz.func73, Tryz.ntmps73
  go_wp2
  go_loopw [8] (fun i wr => ∃ k : Nat, k ≤ n ∧ i = .int .i64 k ∧ Hid (orL xs = orL (xs.drop k)) ∧ wr = w) (fun i _ => n - (intOf i).toNat)
  case atStart => exact ⟨0, by omega, rfl, Lib.hid (by rw [List.drop_zero]), rfl⟩
  case round =>
    obtain ⟨k, hk, rfl, hor, rfl⟩ := hrel
    by_cases hlt : k < n
    · obtain ⟨b, o, rfl, hb1, hc1⟩ := HR.out.at_ (i := k) (by rw [HN.out]; exact hlt)
      have hst := orL_step xs k (by rw [HN.out]; exact hlt)
      generalize nth xs k = x at *
      by_cases hx : x = 0
      · have e0 : (x != 0) = false := by simp [hx]
        have e0' : (x == 0) = true := by simp [hx]
        have HS : Hid (orL xs = orL (xs.drop (k + 1))) := Lib.hid (by rw [hor.out, hst, if_pos hx])
        clear hx hst
        go_wp2
        go_roundw
        case rel => exact ⟨k + 1, by omega, by go_num, HS, trivial⟩
        case measure => simp [intOf]; omega
      · have e0 : (x != 0) = true := by simpa using hx
        have e0' : (x == 0) = false := beq_false_of_ne hx
        have HS : Hid (orL xs = x) := Lib.hid (by rw [hor.out, hst, if_neg hx])
        clear hx hst
        go_wp2
        go_ret
        exact ⟨by rw [HS.out]; rfl, rfl⟩
    · obtain rfl : k = n := by omega
      have HS : Hid (orL xs = 0) := Lib.hid (by rw [hor.out, List.drop_of_length_le (by rw [HN.out]; exact Nat.le_refl _)]; rfl)
      go_wp2
      go_ret
      exact ⟨by rw [HS.out]; rfl, rfl⟩

def cmpT (a b : Tg) (i k : Nat) : Int := orL [Lib.compareInt a.un b.un, Lib.compareInt a.ev b.ev, Lib.compareInt a.ki b.ki, Lib.compareInt a.ad b.ad, Lib.compareInt i k]
theorem compare_zero {x y : Int} : Lib.compareInt x y = 0 ↔ x = y := by unfold Lib.compareInt; split <;> (try split) <;> omega
theorem compare_neg {x y : Int} : Lib.compareInt x y < 0 ↔ x < y := by unfold Lib.compareInt; split <;> (try split) <;> omega
theorem cmpT_ahead (a b : Tg) (i k : Nat) : cmpT a b i k < 0 ↔ aheadP a b i k := by
  unfold cmpT aheadP
  simp only [orL, compare_zero]
  split
  · rename_i h1
    split
    · rename_i h2
      split
      · rename_i h3
        split
        · rename_i h4
          split
          · rename_i h5; constructor
            · intro h; omega
            · intro h; omega
          · rw [compare_neg]; omega
        · rw [compare_neg]; omega
      · rw [compare_neg]; omega
    · rw [compare_neg]; omega
  · rw [compare_neg]; omega

structure Past (w w9 : World) : Prop where
  bel : Below w.heap.size w w9
  dr : w.drawn ≤ w9.drawn
theorem Past.refl (w : World) : Past w w := ⟨Below.refl _ _, Nat.le_refl _⟩
theorem Past.drew {w w9 : World} (h : Past w w9) : Past w w9.drew := ⟨below_drew h.bel, Nat.le_trans h.dr (Nat.le_succ _)⟩
theorem Past.drewN {w w9 : World} (h : Past w w9) (n : Nat) : Past w (w9.drewN n) := ⟨below_drewN h.bel n, Nat.le_trans h.dr (Nat.le_add_right _ _)⟩
theorem Past.alloc {w w9 : World} (h : Past w w9) (o : Obj) : Past w (w9.alloc o) := ⟨h.bel.alloc h.bel.size o, h.dr⟩
theorem Past.grow {w w9 : World} (h : Past w w9) : ∃ q os', w9 = Go.Sort.grow (w.drewN q) os' := by
  refine ⟨w9.drawn - w.drawn, w9.heap.extract w.heap.size w9.heap.size, ?_⟩
  obtain ⟨⟨h1, h2, h3, h4, h5⟩, h6⟩ := h
  obtain ⟨hp, tp, dn, os, op⟩ := w
  obtain ⟨hp9, tp9, dn9, os9, op9⟩ := w9
  simp only at h1 h2 h3 h4 h5 h6
  subst h1 h2 h3
  simp only [Go.Sort.grow, World.drewN, World.mk.injEq, true_and, and_true]
  refine ⟨?_, by omega⟩
  apply Array.ext_getElem?
  intro k
  rw [Array.getElem?_append]
  split
  · rename_i hk; exact h5 k hk
  · rename_i hk
    rw [Array.getElem?_extract]
    by_cases hk9 : k < hp9.size
    · rw [if_pos (by omega)]; congr 1; omega
    · rw [if_neg (by omega)]; exact Array.getElem?_eq_none (by omega)
end Go.Proofs.YtcmbdhmhkfhjfaaGreat
namespace Go.Proofs.YtcmbdhmhkfhjfaaGreat
open Go.RowKit Go.Lib
set_option linter.unusedVariables false
set_option maxRecDepth 100000
attribute [local go_sem ↓] ldTag_fold stTag_fold bxTag_fold
attribute [local go_sem] bxTag_run

def zBox : Obj := .cells #[.string ⟨#[]⟩, .int .i64 0, .int .i64 0, .int .i64 0, .int .i64 0, .bool false, .bool false, .bool false, .int .i64 0, .int .i64 0, .int .i64 0, .int .i64 0, .int .i64 0, .bool false, .bool false, .bool false, .int .i64 0, .int .i64 0, .int .i64 0] 51 (0, 0)
def tBox (t : Tg) : Obj := .cells (tgC t).toArray 51 (0, 0)
theorem made1 (X : World) (t : Tg) : (stTag (.pointer (some ⟨X.heap.size, 0, none⟩)) (tgV t)).run Tryz.prog (X.alloc zBox) = .ok () (X.alloc (tBox t)) := made_tag X t
theorem made2 (X : World) (o : Obj) (t : Tg) : (stTag (.pointer (some ⟨X.heap.size + 1, 0, none⟩)) (tgV t)).run Tryz.prog ((X.alloc o).alloc zBox) = .ok () ((X.alloc o).alloc (tBox t)) := by
  have h := made_tag (X.alloc o) t
  rw [World.size_alloc] at h
  exact h
theorem setCells_past (o : Obj) (b : Nat) (vs : List Value) : ∀ (w : World) (i : Nat), b < w.heap.size → (w.alloc o).setCells b i vs = (w.setCells b i vs).alloc o := by
  induction vs with
  | nil => intro w i _; rfl
  | cons v vs ih =>
    intro w i hb
    rw [World.setCells, World.setCells, World.setCell_alloc_past o b i v hb]
    exact ih _ _ (by rw [World.size_setCell]; exact hb)
theorem made3 (X : World) (o : Obj) (t : Tg) : (stTag (.pointer (some ⟨X.heap.size, 0, none⟩)) (tgV t)).run Tryz.prog ((X.alloc zBox).alloc o) = .ok () ((X.alloc (tBox t)).alloc o) := by
  have h := stTag_run (w := (X.alloc zBox).alloc o) (b := X.heap.size) (o := 0) t (World.there_alloc (there_alloc_size X 51 (tgC zT).toArray 0 19 (Nat.le_refl _)) o)
  rw [setCells_past _ _ _ _ _ (by simp)] at h
  unfold zBox at h
  rw [show (Obj.cells #[.string ⟨#[]⟩, .int .i64 0, .int .i64 0, .int .i64 0, .int .i64 0, .bool false, .bool false, .bool false, .int .i64 0, .int .i64 0, .int .i64 0, .int .i64 0, .int .i64 0, .bool false, .bool false, .bool false, .int .i64 0, .int .i64 0, .int .i64 0] 51 (0, 0)) = .cells (tgC zT).toArray 51 (0, 0) from rfl, setCells_alloc, setL_whole (tgC zT).toArray (tgC t) rfl] at h
  exact h
theorem setCells_drew (b : Nat) (vs : List Value) : ∀ (w : World) (i : Nat), w.drew.setCells b i vs = (w.setCells b i vs).drew := by
  induction vs with
  | nil => intro w i; rfl
  | cons v vs ih => intro w i; exact ih (w.setCell ⟨b, i, none⟩ v) (i + 1)
theorem there_z2 (X : World) (o : Obj) : ((X.alloc o).alloc zBox).there (X.heap.size + 1) 0 19 := by
  have h := there_alloc_size (X.alloc o) 51 (tgC zT).toArray 0 19 (Nat.le_refl _)
  rw [World.size_alloc] at h
  exact h
theorem madeD (W W' : World) (b : Nat) (t : Tg) (h1 : W.there b 0 19) (h2 : (stTag (.pointer (some ⟨b, 0, none⟩)) (tgV t)).run Tryz.prog W = .ok () W') : (stTag (.pointer (some ⟨b, 0, none⟩)) (tgV t)).run Tryz.prog W.drew = .ok () W'.drew := by
  rw [stTag_run t h1] at h2
  injection h2 with _ h2
  rw [stTag_run t (by exact (World.there_drew W b 0 19).2 h1), setCells_drew, h2]
theorem made1d (X : World) (t : Tg) : (stTag (.pointer (some ⟨X.heap.size, 0, none⟩)) (tgV t)).run Tryz.prog (X.alloc zBox).drew = .ok () (X.alloc (tBox t)).drew := madeD _ _ _ t (there_alloc_size X 51 (tgC zT).toArray 0 19 (Nat.le_refl _)) (made1 X t)
theorem made2d (X : World) (o : Obj) (t : Tg) : (stTag (.pointer (some ⟨X.heap.size + 1, 0, none⟩)) (tgV t)).run Tryz.prog ((X.alloc o).alloc zBox).drew = .ok () ((X.alloc o).alloc (tBox t)).drew := madeD _ _ _ t (there_z2 X o) (made2 X o t)
theorem made3d (X : World) (o : Obj) (t : Tg) : (stTag (.pointer (some ⟨X.heap.size, 0, none⟩)) (tgV t)).run Tryz.prog ((X.alloc zBox).alloc o).drew = .ok () ((X.alloc (tBox t)).alloc o).drew := madeD _ _ _ t (World.there_alloc (there_alloc_size X 51 (tgC zT).toArray 0 19 (Nat.le_refl _)) o) (made3 X o t)
attribute [local go_sem] made1 made2 made3 made1d made2d made3d
theorem zBox_fold : Obj.cells #[.string ⟨#[]⟩, .int .i64 0, .int .i64 0, .int .i64 0, .int .i64 0, .bool false, .bool false, .bool false, .int .i64 0, .int .i64 0, .int .i64 0, .int .i64 0, .int .i64 0, .bool false, .bool false, .bool false, .int .i64 0, .int .i64 0, .int .i64 0] 51 (0, 0) = zBox := rfl
attribute [local go_sem] zBox_fold

theorem past_trans {a b c : World} (h : Past a b) (k : Past b c) : Past a c := ⟨h.bel.trans (k.bel.mono h.bel.size), Nat.le_trans h.dr k.dr⟩
theorem cmp_wf (x y : Int) : (Lit.int .i64 (Lib.compareInt x y)).wf = true := by unfold Lib.compareInt; split <;> (try split) <;> decide
set_option maxHeartbeats 4000000 in
theorem less_any (A : Option Addr) (n c : Nat) (l : List Tg) (gb : Nat) (i k : Nat) (w : World) (hr : VRow w w.heap.size A (flatV tgC l)) (hn : l.length = n) (hb : n ≤ 4611686018427387904) (hi : i < n) (hk : k < n) (hc : w.cell? ⟨gb, 0, none⟩ = some (.slice A n c)) (hgb : gb < w.heap.size) :
    Calls Tryz.prog 72 #[.int .i64 (i : Int), .int .i64 (k : Int), .pointer (some ⟨gb, 0, none⟩)] w fun e w' => e = .returned (.int .i64 (cmpT (tgAt l i) (tgAt l k) i k)) ∧ Past w w' := by
  have HRI : Hid (∀ W : World, Past w W → ∃ b o, A = some ⟨b, o, none⟩ ∧ (ldTag (.pointer (some ⟨b, o + i * 19, none⟩))).run Tryz.prog W = .ok (tgV (tgAt l i)) W ∧ (ldTag (.pointer (some ⟨b, o + k * 19, none⟩))).run Tryz.prog W = .ok (tgV (tgAt l k)) W) := Lib.hid fun W hW => by
    have hr2 := (hr.below hW.bel).more hW.bel.size
    obtain ⟨b, o, rfl, _, h1⟩ := hr2.five (i := i) (by omega)
    obtain ⟨b', o', e2, _, h2⟩ := hr2.five (i := k) (by omega)
    injection e2 with e2
    injection e2 with e2 e3
    subst e2 e3
    exact ⟨_, _, rfl, h1, h2⟩
  obtain ⟨b, o, rfl, _, _⟩ := HRI.out w (Past.refl w)
  have HK : Hid (∀ W : World, Past w W → (Past w W ∧ W.cell? ⟨gb, 0, none⟩ = some (.slice (some ⟨b, o, none⟩) n c) ∧ (ldTag (.pointer (some ⟨b, o + i * 19, none⟩))).run Tryz.prog W = .ok (tgV (tgAt l i)) W ∧ (ldTag (.pointer (some ⟨b, o + k * 19, none⟩))).run Tryz.prog W = .ok (tgV (tgAt l k)) W)) := Lib.hid fun W hW => by
    obtain ⟨b', o', e, h1, h2⟩ := HRI.out W hW
    injection e with e
    injection e with e1 e2
    subst e1 e2
    exact ⟨hW, cellB hW.bel hgb hc, h1, h2⟩
  have hi' : (i : Int) < n := by omega
  have hk' : (k : Int) < n := by omega
  have hi0 : (0 : Int) ≤ i := by omega
  have hk0 : (0 : Int) ≤ k := by omega
  clear HRI hr hn
  generalize tgAt l i = ta at *
  generalize tgAt l k = tb at *
  go_enter Tryz.func72, Tryz.ntmps72
  go_wp2
  go_cut [6, 7] from 8 to 16 (fun s t wx => ∃ ga gc, s = .pointer (some ⟨ga, 0, none⟩) ∧ t = .pointer (some ⟨gc, 0, none⟩) ∧ Hid (wx.heap[ga]? = some (tBox ta) ∧ wx.heap[gc]? = some (tBox tb) ∧ Past w wx))
  case first =>
    have belh : ∀ W : World, (Past w W ∧ W.cell? ⟨gb, 0, none⟩ = some (.slice (some ⟨b, o, none⟩) n c) ∧ (ldTag (.pointer (some ⟨b, o + i * 19, none⟩))).run Tryz.prog W = .ok (tgV ta) W ∧ (ldTag (.pointer (some ⟨b, o + k * 19, none⟩))).run Tryz.prog W = .ok (tgV tb) W) → Past w W := fun W h => h.1
    go_region_held3 (fun W => Past w W ∧ W.cell? ⟨gb, 0, none⟩ = some (.slice (some ⟨b, o, none⟩) n c) ∧ (ldTag (.pointer (some ⟨b, o + i * 19, none⟩))).run Tryz.prog W = .ok (tgV ta) W ∧ (ldTag (.pointer (some ⟨b, o + k * 19, none⟩))).run Tryz.prog W = .ok (tgV tb) W)
      ((refine HK.out _ ?_
        repeat' (first
          | with_reducible exact Past.refl _
          | with_reducible exact belh _ (by assumption)
          | with_reducible apply Past.drew
          | with_reducible apply Past.drewN
          | with_reducible apply Past.alloc
          | fail)))
      (first | fail)
    · (try go_wp2)
      go_meet
      exact ⟨_, _, rfl, rfl, Lib.hid ⟨two_fst w (tBox ta) (tBox tb), heap_alloc_two w (tBox ta) (tBox tb), (((Past.refl w).alloc _).alloc _).drew⟩⟩
    · (try go_wp2)
      go_meet
      exact ⟨_, _, rfl, rfl, Lib.hid ⟨heap_alloc_two w (tBox tb) (tBox ta), two_fst w (tBox tb) (tBox ta), (((Past.refl w).alloc _).alloc _).drew⟩⟩
  case rest =>
    obtain ⟨ga, gc, rfl, rfl, hcut⟩ := hcut
    obtain ⟨hxa, hxb, hp⟩ := hcut.out
    have HP := Lib.hid hp
    have HK2 : Hid (∀ W : World, Past wc W → (Past wc W ∧ (W.cell? ⟨ga, 1, none⟩ = some (.int .i64 ta.un) ∧ W.cell? ⟨ga, 2, none⟩ = some (.int .i64 ta.ki) ∧ W.cell? ⟨ga, 3, none⟩ = some (.int .i64 ta.ad) ∧ W.cell? ⟨ga, 4, none⟩ = some (.int .i64 ta.ev)) ∧ (W.cell? ⟨gc, 1, none⟩ = some (.int .i64 tb.un) ∧ W.cell? ⟨gc, 2, none⟩ = some (.int .i64 tb.ki) ∧ W.cell? ⟨gc, 3, none⟩ = some (.int .i64 tb.ad) ∧ W.cell? ⟨gc, 4, none⟩ = some (.int .i64 tb.ev)))) := Lib.hid fun W hW => ⟨hW, (tgBox (keepB hW.bel hxa)).2, (tgBox (keepB hW.bel hxb)).2⟩
    have belh : ∀ W : World, (Past wc W ∧ (W.cell? ⟨ga, 1, none⟩ = some (.int .i64 ta.un) ∧ W.cell? ⟨ga, 2, none⟩ = some (.int .i64 ta.ki) ∧ W.cell? ⟨ga, 3, none⟩ = some (.int .i64 ta.ad) ∧ W.cell? ⟨ga, 4, none⟩ = some (.int .i64 ta.ev)) ∧ (W.cell? ⟨gc, 1, none⟩ = some (.int .i64 tb.un) ∧ W.cell? ⟨gc, 2, none⟩ = some (.int .i64 tb.ki) ∧ W.cell? ⟨gc, 3, none⟩ = some (.int .i64 tb.ad) ∧ W.cell? ⟨gc, 4, none⟩ = some (.int .i64 tb.ev))) → Past wc W := fun W h => h.1
    have HC : Hid (∀ (x y : Int) (W : World), Calls Tryz.prog 74 #[.int .i64 x, .int .i64 y] W fun e w' => e = .returned (.int .i64 (Lib.compareInt x y)) ∧ w' = W) := Lib.hid compare_any
    have HT : Hid (∀ w' : World, Past wc w' → Ending.returned (.int .i64 (orL [Lib.compareInt ta.un tb.un, Lib.compareInt ta.ev tb.ev, Lib.compareInt ta.ki tb.ki, Lib.compareInt ta.ad tb.ad, Lib.compareInt i k])) = Ending.returned (.int .i64 (cmpT ta tb i k)) ∧ Past w w') := Lib.hid fun w' hw => ⟨rfl, past_trans HP.out hw⟩
    have HWF := Lib.hid (And.intro (cmp_wf ta.un tb.un) (And.intro (cmp_wf ta.ev tb.ev) (And.intro (cmp_wf ta.ki tb.ki) (And.intro (cmp_wf ta.ad tb.ad) (cmp_wf i k)))))
    clear HK hc hxa hxb hp hcut
    have HO : Hid (∀ W : World, Calls Tryz.prog 73 #[.slice (some ⟨W.heap.size, 0, none⟩) 5 5] (W.alloc (.cells #[.int .i64 (Lib.compareInt ta.un tb.un), .int .i64 (Lib.compareInt ta.ev tb.ev), .int .i64 (Lib.compareInt ta.ki tb.ki), .int .i64 (Lib.compareInt ta.ad tb.ad), .int .i64 (Lib.compareInt i k)] 3)).drew fun e w' => e = .returned (.int .i64 (orL [Lib.compareInt ta.un tb.un, Lib.compareInt ta.ev tb.ev, Lib.compareInt ta.ki tb.ki, Lib.compareInt ta.ad tb.ad, Lib.compareInt i k])) ∧ w' = (W.alloc (.cells #[.int .i64 (Lib.compareInt ta.un tb.un), .int .i64 (Lib.compareInt ta.ev tb.ev), .int .i64 (Lib.compareInt ta.ki tb.ki), .int .i64 (Lib.compareInt ta.ad tb.ad), .int .i64 (Lib.compareInt i k)] 3)).drew) := Lib.hid fun W => by
      obtain ⟨w1, w2, w3, w4, w5⟩ := HWF.out
      refine or_any _ 5 5 [Lib.compareInt ta.un tb.un, Lib.compareInt ta.ev tb.ev, Lib.compareInt ta.ki tb.ki, Lib.compareInt ta.ad tb.ad, Lib.compareInt i k] _ (Row.drewN (n := 1) ((Row.new .i64 W 3 [Lib.compareInt ta.un tb.un, Lib.compareInt ta.ev tb.ev, Lib.compareInt ta.ki tb.ki, Lib.compareInt ta.ad tb.ad, Lib.compareInt i k] [Lib.compareInt ta.un tb.un, Lib.compareInt ta.ev tb.ev, Lib.compareInt ta.ki tb.ki, Lib.compareInt ta.ad tb.ad, Lib.compareInt i k] (by
        intro x hx
        simp only [List.mem_cons, List.not_mem_nil, or_false] at hx
        rcases hx with rfl | rfl | rfl | rfl | rfl <;> assumption) (List.prefix_refl _)).more (by simp))) rfl (by omega)
    generalize Lib.compareInt = cf at *
    go_wp2
    go_region_held3 (fun W => Past wc W ∧ (W.cell? ⟨ga, 1, none⟩ = some (.int .i64 ta.un) ∧ W.cell? ⟨ga, 2, none⟩ = some (.int .i64 ta.ki) ∧ W.cell? ⟨ga, 3, none⟩ = some (.int .i64 ta.ad) ∧ W.cell? ⟨ga, 4, none⟩ = some (.int .i64 ta.ev)) ∧ (W.cell? ⟨gc, 1, none⟩ = some (.int .i64 tb.un) ∧ W.cell? ⟨gc, 2, none⟩ = some (.int .i64 tb.ki) ∧ W.cell? ⟨gc, 3, none⟩ = some (.int .i64 tb.ad) ∧ W.cell? ⟨gc, 4, none⟩ = some (.int .i64 tb.ev)))
      ((refine HK2.out _ ?_
        repeat' (first
          | with_reducible exact Past.refl _
          | with_reducible exact belh _ (by assumption)
          | with_reducible apply Past.drew
          | with_reducible apply Past.drewN
          | with_reducible apply Past.alloc
          | fail)))
      (first
        | (go_at_call 74; refine (HC.out _ _ _).mono ?_; rintro e w5 ⟨rfl, rfl⟩)
        | (go_at_call 73; have hpz := belh _ (by assumption); refine (HO.out _).mono ?_; rintro e w6 ⟨rfl, rfl⟩)
        | fail)
    go_wp2
    go_ret
    exact HT.out _ (((Past.refl wc).alloc _).drew)
end Go.Proofs.YtcmbdhmhkfhjfaaGreat
namespace Go.Proofs.YtcmbdhmhkfhjfaaGreat
open Go.RowKit Go.Lib
set_option linter.unusedVariables false
set_option maxRecDepth 100000

def encF {m : Nat} (x : Fin (m + 1)) : Value := .int .i64 ((x.val : Nat) : Int)
def cfF (l : List Tg) {m : Nat} (x y : Fin (m + 1)) : Int := cmpT (tgAt l x.val) (tgAt l y.val) x.val y.val
theorem ltF (l : List Tg) {m : Nat} (x y : Fin (m + 1)) : ltOf (cfF l) x y = aheadB l x.val y.val := by
  unfold ltOf cfF
  by_cases h : cmpT (tgAt l x.val) (tgAt l y.val) x.val y.val < 0
  · rw [decide_eq_true h, ahead_iff.2 ((cmpT_ahead _ _ _ _).1 h)]
  · rw [decide_eq_false h]
    cases hb : aheadB l x.val y.val with
    | false => rfl
    | true => exact absurd ((cmpT_ahead _ _ _ _).2 (ahead_iff.1 hb)) h
theorem ahead_false {l : List Tg} {i k : Nat} (h : aheadB l i k = false) : i = k ∨ aheadB l k i = true := by
  by_cases e : i = k
  · exact .inl e
  · rcases ahead_total l e with h2 | h2
    · rw [h] at h2; cases h2
    · exact .inr h2
theorem swoF (l : List Tg) (m : Nat) : Go.Sort.SWO (ltOf (cfF l (m := m))) where
  irrefl x := by rw [ltF]; exact ahead_irrefl _ _
  trans x y z h1 h2 := by rw [ltF] at *; exact ahead_trans h1 h2
  ntrans x y z h1 h2 := by
    rw [ltF] at *
    cases h : aheadB l x.val z.val with
    | false => rfl
    | true =>
      exfalso
      rcases ahead_false h1 with e | h1'
      · rw [e, h2] at h; cases h
      · rcases ahead_false h2 with e | h2'
        · rw [← e, h1] at h; cases h
        · exact ahead_asymm h (ahead_trans h2' h1')
theorem sortWorld_below {α : Type} [Inhabited α] (enc : α → Value) (w : World) (b off q : Nat) (d : Array α) (os : Array Obj) {B : Nat} (hB : B ≤ b) (hB2 : B ≤ w.heap.size) : Below B w (sortWorld enc w b off q d os) := by
  refine ⟨rfl, rfl, rfl, ?_, fun k hk => ?_⟩
  · simp [sortWorld, Go.Sort.grow, Go.Sort.putRow, Go.Sort.mapBlock, Go.Sort.ahead]
  · by_cases hs : k < w.heap.size
    · simp only [sortWorld, Go.Sort.grow, Go.Sort.putRow, Go.Sort.mapBlock, Go.Sort.ahead, Array.getElem?_append, Array.size_modify, hs, if_true, Array.getElem?_modify]
      rw [if_neg (by omega)]
    · omega
theorem order_lays (A : Option Addr) (m c : Nat) (l : List Tg) (gb b : Nat) (w : World) (hr : VRow w gb A (flatV tgC l)) (hn : l.length = m + 1) (hb : m + 1 ≤ 4611686018427387904) (hc : w.cell? ⟨gb, 0, none⟩ = some (.slice A (m + 1) c)) (hgb : gb < b) (hbs : b < w.heap.size) :
    CmpLays1 Tryz.prog 72 #[.pointer (some ⟨gb, 0, none⟩)] (encF (m := m)) (cfF l) b 0 (m + 1) w := by
  intro q os dk hs x y
  have bel : Below (gb + 1) w (sortWorld encF w b 0 q dk os) := sortWorld_below encF w b 0 q dk os (by omega) (by omega)
  have hsz := bel.size
  refine (less_any A (m + 1) c l gb x.val y.val _ ((hr.below (bel.mono (by omega))).more (by omega)) hn hb x.isLt y.isLt ((World.cell?_of_block (bel.block gb (by omega))).trans hc) (by omega)).mono ?_
  rintro e w' ⟨rfl, hp⟩
  exact ⟨rfl, hp.grow⟩
theorem fin_range (n : Nat) : (List.finRange n).map Fin.val = List.range n := by
  apply List.ext_getElem (by simp)
  intro i h1 h2
  simp
theorem sorted_ord (l : List Tg) (m : Nat) (hn : l.length = m + 1) (d d' : Array (Fin (m + 1))) (hd : d.toList = List.finRange (m + 1)) (hp : Go.Sort.PermIn 0 (m + 1) d d') (hs : Go.Sort.SortedIn (ltOf (cfF l)) 0 (m + 1) d') : d'.size = m + 1 ∧ d'.toList.map Fin.val = ordT l := by
  obtain ⟨hsz, _, hperm⟩ := hp
  have hds : d.size = m + 1 := by rw [← Array.length_toList, hd, List.length_finRange]
  have e1 : d'.extract 0 (m + 1) = d' := by have h := @Array.extract_size _ d'; rwa [show d'.size = m + 1 by omega] at h
  have e2 : d.extract 0 (m + 1) = d := by have h := @Array.extract_size _ d; rwa [hds] at h
  rw [e1, e2, hd] at hperm
  have hpr : (d'.toList.map Fin.val).Perm (List.range l.length) := by
    have := hperm.map Fin.val
    rw [fin_range] at this
    rw [hn]; exact this
  refine ⟨by omega, ordT_only hpr ?_⟩
  have hnd : (d'.toList.map Fin.val).Nodup := hpr.nodup_iff.2 List.nodup_range
  rw [List.pairwise_iff_getElem]
  intro i j hi hj hij
  have hi' : i < d'.size := by simpa using hi
  have hj' : j < d'.size := by simpa using hj
  have h := hs i j (by omega) hij (by omega)
  rw [getElem!_pos d' i hi', getElem!_pos d' j hj', ltF] at h
  have hne : (d'[i]).val ≠ (d'[j]).val := by
    have := (List.nodup_iff_pairwise_ne.1 hnd)
    rw [List.pairwise_iff_getElem] at this
    have h2 := this i j hi hj hij
    simpa using h2
  have hi2 : (d'.toList.map Fin.val)[i] = (d'[i]).val := by simp
  have hj2 : (d'.toList.map Fin.val)[j] = (d'[j]).val := by simp
  rw [hi2, hj2]
  rcases ahead_false h with e | h
  · exact absurd e.symm hne
  · exact h

theorem intL_rng (k : Nat) : intL (List.range (k + 1)) = intL (List.range k) ++ [(k : Int)] := by rw [List.range_succ, intL_snoc]
theorem intL_ordwf {l : List Tg} (h : l.length ≤ 64) : ∀ x ∈ intL (ordT l), (Lit.int .i64 x).wf = true := fun x hx => by
  obtain ⟨k, hk, rfl⟩ := List.mem_map.1 hx
  have := ordT_lt hk
  simp [Lit.wf, IntKind.min, IntKind.max, IntKind.signed, IntKind.bits]; omega
def Sorted10 (w1 : World) (n gb : Nat) (l : List Tg) (e : Ending) (w' : World) : Prop := e = .returned (.tuple #[]) ∧ Row .i64 w' w'.heap.size (some ⟨gb + 1, 0, none⟩) (intL (ordT l)) ∧ Below (gb + 1) w1 w'
theorem sort_any (A : Option Addr) (n c : Nat) (l : List Tg) (gb : Nat) (cells : List Int) (w : World) (hr : VRow w gb A (flatV tgC l)) (hn : l.length = n) (hb : n ≤ 64) (hc : w.cell? ⟨gb, 0, none⟩ = some (.slice A n c)) (hx : w.heap[gb + 1]? = some (.cells (blk .i64 (intL (List.range n))) 3 (0, 0))) :
    Calls Tryz.prog 71 #[.slice (some ⟨gb + 1, 0, none⟩) n n, .func (.func 72) #[] #[.pointer (some ⟨gb, 0, none⟩)]] w (Sorted10 w n gb l) := by
  have hwf := intL_ordwf (l := l) (by omega)
  cases n with
  | zero =>
    refine (AnyF.slices_SortFunc_none { Tryz.sortInts with } (some ⟨gb + 1, 0, none⟩) 0 _ w).mono ?_
    rintro e w' ⟨rfl, rfl⟩
    have hl : l = [] := List.eq_nil_of_length_eq_zero hn
    subst hl
    exact ⟨rfl, Row.nil _ _ _ _, Below.refl _ _⟩
  | succ m =>
    obtain ⟨d0, hd0⟩ : ∃ d0 : Array (Fin (m + 1)), d0.toList = List.finRange (m + 1) := ⟨(List.finRange (m + 1)).toArray, by simp⟩
    have hds : d0.size = m + 1 := by rw [← Array.length_toList, hd0, List.length_finRange]
    have hbs := block_lt hx
    have eg : ∀ args w, (callFunc 72 args).run Tryz.prog w = .ok (.enter 72 args) w := enters_of Tryz.func72 (by kernel_rfl) rfl
    have hH : Go.Sort.Holds (encF (m := m)) w (gb + 1) 0 d0 := by
      intro j hj
      refine ⟨?_, block_frozen w _ _ _ _ hx⟩
      have hj' : j < m + 1 := by omega
      rw [cell_of_row w (gb + 1) (0 + j) _ _ _ hx, Nat.zero_add, blk_get _ _ _ (by rw [intL_len, List.length_range]; exact hj'), getElem!_pos d0 j hj]
      have he : d0[j] = (⟨j, hj'⟩ : Fin (m + 1)) := by
        rw [← Array.getElem_toList]
        simp [hd0]
      rw [he, nth_eq _ _ (by rw [intL_len, List.length_range]; exact hj')]
      simp [intL, encF]
    have hcon := Any.slices_SortFunc Tryz.sortInts (encF (m := m)) (fun _ => rfl) (cfF l) (swoF l m) 72 #[.pointer (some ⟨gb, 0, none⟩)] (gb + 1) 0 (m + 1) d0 w eg (by rw [hds]; exact order_lays A m c l gb (gb + 1) w hr hn (by omega) hc (by omega) hbs) hH hbs (by omega)
    rw [hds] at hcon
    refine hcon.mono ?_
    rintro e w' ⟨rfl, d', q, os, hp, hs, rfl⟩
    obtain ⟨hsz, hord⟩ := sorted_ord l m hn d0 d' hd0 hp hs
    have hSW : SW (encF (m := m)) w (gb + 1) 0 d' (sortWorld encF w (gb + 1) 0 q d' os) := ⟨q, os, rfl⟩
    have hh := hSW.holds hbs hH (by omega)
    have bel := sortWorld_below (encF (m := m)) w (gb + 1) 0 q d' os (B := gb + 1) (Nat.le_refl _) (by omega)
    refine ⟨rfl, ⟨hwf, fun _ => ⟨gb + 1, 0, rfl, Nat.lt_of_lt_of_le hbs bel.size, fun i hi => ?_⟩⟩, bel⟩
    have hi' : i < d'.size := by rw [intL_len, ordT_len, hn] at hi; omega
    rw [(hh i hi').1, getElem!_pos d' i hi', nth_eq _ _ hi]
    simp only [intL, ← hord, encF, List.getElem_map, Array.getElem_toList]
set_option maxHeartbeats 1000000 in
theorem order_any (A : Option Addr) (n c : Nat) (l : List Tg) (w : World) (hr : VRow w w.heap.size A (flatV tgC l)) (hn : l.length = n) (hb : n ≤ 64) :
    Calls Tryz.prog 47 #[.slice A n c] w fun e w' => ∃ A2 c2, e = .returned (.slice A2 n c2) ∧ Row .i64 w' w'.heap.size A2 (intL (ordT l)) ∧ Below w.heap.size w w' := by
  have hmk := I.make_i64 n (by omega)
  have HR := Lib.hid hr
  have HN := Lib.hid hn
  have bel0 := bel_alloc w (.cells #[.slice A n c] 22)
  have hz1 : (w.alloc (.cells #[.slice A n c] 22)).heap.size = w.heap.size + 1 := by simp
  clear hr hn
  go_enter Tryz.func47, Tryz.ntmps47
  go_wp2
  go_loopw [10] (fun i wr => ∃ k : Nat, k ≤ n ∧ i = .int .i64 k ∧ wr = (w.alloc (.cells #[.slice A n c] 22)).alloc (.cells (blk .i64 (intL (List.range k) ++ List.replicate (n - k) 0)) 3)) (fun i _ => n - (intOf i).toNat)
  case atStart => exact ⟨0, by omega, rfl, by simp [intL]⟩
  case round =>
    obtain ⟨k, hk, rfl, rfl⟩ := hrel
    by_cases hlt : k < n
    · have hc2 := fill_cell .i64 (intL (List.range k)) (n - k) k 0 (by rw [intL_len, List.length_range]) (by omega)
      have HS := Lib.hid (set_step (intL (List.range k)) (n - (k + 1)) k 0 (k : Int) (by rw [intL_len, List.length_range]))
      go_wp2
      go_roundw
      case rel => exact ⟨k + 1, by omega, by go_num, by rw [blk_set, show n - k = (n - (k + 1)) + 1 by omega, HS.out, intL_rng]⟩
      case measure => simp [intOf]; omega
    · obtain rfl : k = n := by omega
      have hx1 := heap_alloc_two w (.cells #[.slice A k c] 22) (.cells (blk .i64 (intL (List.range k) ++ List.replicate (k - k) 0)) 3)
      rw [Nat.sub_self, List.replicate_zero, List.append_nil] at hx1 ⊢
      have hx0 := two_fst w (.cells #[.slice A k c] 22) (.cells (blk .i64 (intL (List.range k))) 3)
      have bel1 := bel0.alloc (by omega) (.cells (blk .i64 (intL (List.range k))) 3)
      have HC := Lib.hid (sort_any A k c l w.heap.size [] _ ((HR.out.below bel1)) HN.out hb (cell_of_row _ _ 0 _ _ _ hx0) hx1)
      have HB := Lib.hid bel1
      clear hx1 hx0 bel0 bel1 hmk
      generalize (w.alloc (.cells #[.slice A k c] 22)).alloc (.cells (blk .i64 (intL (List.range k))) 3) = w1 at *
      go_wp2_with (go_at_call 71; refine HC.out.mono ?_; rintro e w' ⟨rfl, hrow, hbl⟩)
      go_ret
      exact ⟨_, _, rfl, hrow, HB.out.trans (hbl.mono (by omega))⟩
end Go.Proofs.YtcmbdhmhkfhjfaaGreat
namespace Go.Proofs.YtcmbdhmhkfhjfaaGreat
open Go.RowKit
set_option linter.unusedVariables false
set_option maxRecDepth 100000
attribute [local go_sem ↓] ldTag_fold stTag_fold bxTag_fold
attribute [local go_sem] bxTag_run

theorem width_t (t : Tg) (w : World) : Calls Tryz.prog 44 #[tgV t] w fun e w' => e = .returned (.int .i64 (widT t)) ∧ Below w.heap.size w w' := by
  obtain ⟨nm, un, ki, ad, ev, we, sg, sw, mu, di, aa, de, qu, ul, uh, la, lo, hi, hy⟩ := t
  exact Width9_any nm un ki ad ev we sg sw mu di aa de qu ul uh la lo hi hy w
theorem ret_eq {a b : Int} (h : a = b) : Ending.returned (.int .i64 a) = Ending.returned (.int .i64 b) := by rw [h]
set_option maxHeartbeats 2000000 in
theorem count10_any (pu pk pa pc pe : Int) (Pt : Option Addr) (pn pm : Nat) (tg : List Int) (t : Tg) (w : World) (hpa : 0 ≤ pa ∧ pa ≤ 65536) (hpc : 0 ≤ pc ∧ pc ≤ 65536) (hta : 0 ≤ t.ad ∧ t.ad ≤ 65536) :
    Calls Tryz.prog 49 #[tgV t, .agg #[.int .i64 pu, .int .i64 pk, .int .i64 pa, .int .i64 pc, .int .i64 pe, .slice Pt pn pm]] w fun e w' => e = .returned (.int .i64 (cntJ ⟨pu, pk, pa, pc, pe, tg⟩ t)) ∧ Below w.heap.size w w' := by
  have hx0 := two_fst w (.cells (tgC t).toArray 51) (.cells #[.int .i64 pu, .int .i64 pk, .int .i64 pa, .int .i64 pc, .int .i64 pe, .slice Pt pn pm] 25)
  have hx1 := heap_alloc_two w (.cells (tgC t).toArray 51) (.cells #[.int .i64 pu, .int .i64 pk, .int .i64 pa, .int .i64 pc, .int .i64 pe, .slice Pt pn pm] 25)
  have bel0 := Lib.hid ((bel_alloc w (.cells (tgC t).toArray 51)).alloc (by simp) (.cells #[.int .i64 pu, .int .i64 pk, .int .i64 pa, .int .i64 pc, .int .i64 pe, .slice Pt pn pm] 25))
  have hw := widT_le t
  have hwr1 : IntKind.i64.wrap (t.ad + widT t) = t.ad + widT t := by rw [IntKind.wrap_i64]; omega
  have hwr2 : IntKind.i64.wrap (t.ad + widT t - pa) = t.ad + widT t - pa := by rw [IntKind.wrap_i64]; omega
  have HW : Hid (∀ W : World, Calls Tryz.prog 44 #[tgV t] W fun e w' => e = .returned (.int .i64 (widT t)) ∧ Below W.heap.size W w') := Lib.hid fun W => width_t t W
  have HM : Hid ((t.ad + widT t - pa < pc ∧ cntJ ⟨pu, pk, pa, pc, pe, tg⟩ t = pc) ∨ (¬ t.ad + widT t - pa < pc ∧ cntJ ⟨pu, pk, pa, pc, pe, tg⟩ t = t.ad + widT t - pa)) := Lib.hid (by
    show (t.ad + widT t - pa < pc ∧ (if t.ad + widT t - pa < pc then pc else t.ad + widT t - pa) = pc) ∨ (¬ t.ad + widT t - pa < pc ∧ (if t.ad + widT t - pa < pc then pc else t.ad + widT t - pa) = t.ad + widT t - pa)
    split <;> omega)
  generalize widT t = wd at *
  generalize cntJ ⟨pu, pk, pa, pc, pe, tg⟩ t = r at *
  go_enter Tryz.func49, Tryz.ntmps49
  go_wp2
  have HK : Hid (∀ w9 : World, Below ((w.alloc (.cells (tgC t).toArray 51)).alloc (.cells #[.int .i64 pu, .int .i64 pk, .int .i64 pa, .int .i64 pc, .int .i64 pe, .slice Pt pn pm] 25)).heap.size ((w.alloc (.cells (tgC t).toArray 51)).alloc (.cells #[.int .i64 pu, .int .i64 pk, .int .i64 pa, .int .i64 pc, .int .i64 pe, .slice Pt pn pm] 25)) w9 → (Below ((w.alloc (.cells (tgC t).toArray 51)).alloc (.cells #[.int .i64 pu, .int .i64 pk, .int .i64 pa, .int .i64 pc, .int .i64 pe, .slice Pt pn pm] 25)).heap.size ((w.alloc (.cells (tgC t).toArray 51)).alloc (.cells #[.int .i64 pu, .int .i64 pk, .int .i64 pa, .int .i64 pc, .int .i64 pe, .slice Pt pn pm] 25)) w9 ∧ w9.cell? ⟨w.heap.size, 3, none⟩ = some (.int .i64 t.ad) ∧ (ldTag (.pointer (some ⟨w.heap.size, 0, none⟩))).run Tryz.prog w9 = .ok (tgV t) w9 ∧ (w9.cell? ⟨w.heap.size + 1, 2, none⟩ = some (.int .i64 pa) ∧ w9.cell? ⟨w.heap.size + 1, 3, none⟩ = some (.int .i64 pc)))) := Lib.hid fun w9 hw => ⟨hw, (tgBox (keepB hw hx0)).2.2.2.1, tgBox_ld (keepB hw hx0), ⟨(of6 (keepB hw hx1)).2.2.1, (of6 (keepB hw hx1)).2.2.2.1⟩⟩
  generalize (w.alloc (.cells (tgC t).toArray 51)).alloc (.cells #[.int .i64 pu, .int .i64 pk, .int .i64 pa, .int .i64 pc, .int .i64 pe, .slice Pt pn pm] 25) = w0 at *
  have belh : ∀ w9 : World, (Below w0.heap.size w0 w9 ∧ w9.cell? ⟨w.heap.size, 3, none⟩ = some (.int .i64 t.ad) ∧ (ldTag (.pointer (some ⟨w.heap.size, 0, none⟩))).run Tryz.prog w9 = .ok (tgV t) w9 ∧ (w9.cell? ⟨w.heap.size + 1, 2, none⟩ = some (.int .i64 pa) ∧ w9.cell? ⟨w.heap.size + 1, 3, none⟩ = some (.int .i64 pc))) → Below w0.heap.size w0 w9 := fun w9 h => h.1
  go_region_held3 (fun w9 => Below w0.heap.size w0 w9 ∧ w9.cell? ⟨w.heap.size, 3, none⟩ = some (.int .i64 t.ad) ∧ (ldTag (.pointer (some ⟨w.heap.size, 0, none⟩))).run Tryz.prog w9 = .ok (tgV t) w9 ∧ (w9.cell? ⟨w.heap.size + 1, 2, none⟩ = some (.int .i64 pa) ∧ w9.cell? ⟨w.heap.size + 1, 3, none⟩ = some (.int .i64 pc)))
    ((refine HK.out _ ?_
      repeat' (first
        | with_reducible exact Below.refl _ _
        | with_reducible exact bel5
        | with_reducible exact belh _ (by assumption)
        | with_reducible apply below_drew
        | with_reducible apply below_drewN
        | fail)))
    (first
      | (go_at_call 44; have bh := belh _ (by assumption); refine (HW.out _).mono ?_; rintro e w5 ⟨rfl, b5⟩; have bel5 : Below w0.heap.size w0 w5 := Below.trans bh (b5.mono bh.size))
      | fail)
  have BEL := Lib.hid (bel0.out.trans (bel5.mono bel0.out.size))
  clear HK belh bel5 hx0 hx1 bel0 HW
  go_wp2
  all_goals
    go_ret
    refine ⟨ret_eq ?_, BEL.out⟩
    have hm := HM.out
    omega
end Go.Proofs.YtcmbdhmhkfhjfaaGreat
