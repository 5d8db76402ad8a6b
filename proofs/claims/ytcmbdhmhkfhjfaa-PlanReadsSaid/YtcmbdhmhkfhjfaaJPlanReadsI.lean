/-
  Texts of the proof of PlanReads, joined.
-/
import Derived.Test.YtcmbdhmhkfhjfaaJPlanReadsH
import Derived.Test.YtcmbdhmhkfhjfaaJPlanReadsF
import Derived.Test.YtcmbdhmhkfhjfaaJPlanReadsA
import Derived.Test.YtcmbdhmhkfhjfaaJPlanReadsG
import Derived.BigQuiet
import Derived.Deep.RegionHeld3
import Derived.Deep.RegionWith
import Derived.Deep.CutRange
import Derived.Test.YtcmbdhmhkfhjfaaJPlanReadsD
import Derived.Laws.AppendOwn
import Derived.Test.YtcmbdhmhkfhjfaaProg
import Derived.OpenShut
namespace Go.Proofs.Ytcmbdhmhkfhjfaa
open Go.RowKit
set_option linter.unusedVariables false
set_option maxRecDepth 100000
attribute [local go_sem ↓] ldTag_fold stTag_fold bxTag_fold
attribute [local go_sem] bxTag_run

/-- Why an answer says nothing of any tag. -/
def ansE (l : List Tg) (p : Pol) (r : Rep) : Int :=
  if (chkAll l).1 ≠ 0 then (chkAll l).1 else if askE p.ki p.ad p.ct ≠ 0 then askE p.ki p.ad p.ct else if chkR (reqK p.ki p.ad p.ct) r ≠ 0 then chkR (reqK p.ki p.ad p.ct) r else if r.x ≠ 0 then 12 else 0
theorem ansE_tab {l : List Tg} {p : Pol} {r : Rep} {E : Int} (h : (chkAll l).1 = E) (h0 : E ≠ 0) : ansE l p r = E := by unfold ansE; rw [h, if_pos h0]
theorem ansE_ask {l : List Tg} {p : Pol} {r : Rep} {E : Int} (h : (chkAll l).1 = 0) (h1 : askE p.ki p.ad p.ct = E) (h0 : E ≠ 0) : ansE l p r = E := by unfold ansE; rw [h, if_neg (by omega), h1, if_pos h0]
theorem ansE_chk {l : List Tg} {p : Pol} {r : Rep} {E : Int} (h : (chkAll l).1 = 0) (h1 : askE p.ki p.ad p.ct = 0) (h2 : chkR (reqK p.ki p.ad p.ct) r = E) (h0 : E ≠ 0) : ansE l p r = E := by unfold ansE; rw [h, if_neg (by omega), h1, if_neg (by omega), h2, if_pos h0]
theorem ansE_exc {l : List Tg} {p : Pol} {r : Rep} (h : (chkAll l).1 = 0) (h1 : askE p.ki p.ad p.ct = 0) (h2 : chkR (reqK p.ki p.ad p.ct) r = 0) (h0 : r.x ≠ 0) : ansE l p r = 12 := by unfold ansE; rw [h, if_neg (by omega), h1, if_neg (by omega), h2, if_neg (by omega), if_pos h0]
theorem ansE_all {l : List Tg} {p : Pol} {r : Rep} (h : (chkAll l).1 = 0) (h1 : askE p.ki p.ad p.ct = 0) (h2 : chkR (reqK p.ki p.ad p.ct) r = 0) (h3 : r.x = 0) : ansE l p r = 0 := by unfold ansE; rw [h, if_neg (by omega), h1, if_neg (by omega), h2, if_neg (by omega), if_neg (by omega)]
theorem ansE_zero {l : List Tg} {p : Pol} {r : Rep} (h : ansE l p r = 0) : (chkAll l).1 = 0 ∧ askE p.ki p.ad p.ct = 0 ∧ chkR (reqK p.ki p.ad p.ct) r = 0 ∧ r.x = 0 := by
  unfold ansE at h
  by_cases h1 : (chkAll l).1 = 0
  · rw [if_neg (by omega)] at h
    by_cases h2 : askE p.ki p.ad p.ct = 0
    · rw [if_neg (by omega)] at h
      by_cases h3 : chkR (reqK p.ki p.ad p.ct) r = 0
      · rw [if_neg (by omega)] at h
        by_cases h4 : r.x = 0
        · exact ⟨h1, h2, h3, h4⟩
        · rw [if_pos h4] at h; cases h
      · rw [if_pos h3] at h; exact absurd h h3
    · rw [if_pos h2] at h; exact absurd h h2
  · rw [if_pos h1] at h; exact absurd h h1
theorem valsE_ans {l : List Tg} {p : Pol} {r : Rep} (h : ansE l p r ≠ 0) : valsE l p r = ansE l p r := by
  by_cases h1 : (chkAll l).1 = 0
  · by_cases h2 : askE p.ki p.ad p.ct = 0
    · by_cases h3 : chkR (reqK p.ki p.ad p.ct) r = 0
      · by_cases h4 : r.x = 0
        · exact absurd (ansE_all h1 h2 h3 h4) h
        · rw [valsE_exc h1 h2 h3 h4, ansE_exc h1 h2 h3 h4]
      · rw [valsE_chk h1 h2 rfl h3, ansE_chk h1 h2 rfl h3]
    · rw [valsE_ask h1 rfl h2, ansE_ask h1 rfl h2]
  · rw [valsE_tab rfl h1, ansE_tab rfl h1]
set_option maxHeartbeats 8000000 in
theorem checkAnswer_any (A : Option Addr) (n c : Nat) (l : List Tg) (pu pk pa pc pe : Int) (Pt : Option Addr) (pn pm : Nat) (tg : List Int) (Bo Bs Bf : Option Addr) (mo ms mf eo es ef : Nat) (r : Rep) (w : World) (hr : VRow w w.heap.size A (flatV tgC l)) (hn : l.length = n) (hnb : n ≤ 4611686018427387904) (hok : ∀ t ∈ l, Tg.Ok t)
    (hrow : Row .i64 w w.heap.size Pt tg) (hpn : tg.length = pn) (hpb : pn ≤ 100000) (hrep : Repd w w.heap.size r Bo Bs Bf mo ms mf) (hms : ms ≤ es) (hes : es ≤ 9223372036854775807) (hx : (Lit.int .i64 r.x).wf = true) :
    Calls Try.prog 28 #[.slice A n c, .agg #[.int .i64 pu, .int .i64 pk, .int .i64 pa, .int .i64 pc, .int .i64 pe, .slice Pt pn pm], .agg #[.int .i64 r.x, .slice Bo mo eo, .slice Bs ms es, .slice Bf mf ef]] w fun e w' => e = .returned (.int .i64 (ansE l ⟨pu, pk, pa, pc, pe, tg⟩ r)) ∧ Below w.heap.size w w' := by
  have HP : Hid (∀ E, ansE l ⟨pu, pk, pa, pc, pe, tg⟩ r = E → ∀ w', Below w.heap.size w w' → Ending.returned (.int .i64 E) = .returned (.int .i64 (ansE l ⟨pu, pk, pa, pc, pe, tg⟩ r)) ∧ Below w.heap.size w w') := Lib.hid (fun E h w' hb => ⟨by rw [h], hb⟩)
  have v0 := ValH.new w (.cells #[.int .i64 pu, .int .i64 pk, .int .i64 pa, .int .i64 pc, .int .i64 pe, .slice Pt pn pm] 24) (.cells #[.int .i64 r.x, .slice Bo mo eo, .slice Bs ms es, .slice Bf mf ef] 56)
  have HRW := Lib.hid hrow
  have HRP := Lib.hid hrep
  have HVR := Lib.hid hr
  have hpn' := Lib.hid hpn
  have hn' := Lib.hid hn
  obtain ⟨x, hxx⟩ : ∃ x, r.x = x := ⟨_, rfl⟩
  have HX := Lib.hid hxx
  rw [hxx] at v0 ⊢
  obtain ⟨E1, hE1⟩ : ∃ E, (chkAll l).1 = E := ⟨_, rfl⟩
  have HE1 := Lib.hid hE1
  have HCA : Hid (∀ W : World, Below w.heap.size w W → Calls Try.prog 12 #[.slice A n c] W fun e w' => e = .returned (.tuple #[.int .i64 E1, .int .i64 (chkAll l).2]) ∧ Below W.heap.size W w') := Lib.hid fun W hW => by
    have h := CheckAll9_any A n c l W ((hr.below hW).more hW.size) hn hnb hok
    rw [hE1] at h
    exact h
  clear hrow hrep hr hpn hxx hx hE1 hn
  by_cases h1 : E1 = 0
  case neg =>
    obtain ⟨f1, f2⟩ := fold_ne h1
    have HF := Lib.hid (HP.out E1 (ansE_tab HE1.out h1))
    clear h1
    go_enter Try.func28, Try.ntmps28
    go_wp2_with fail
    refine (HCA.out _ v0.bel).mono ?_
    rintro e w1 ⟨rfl, b1⟩
    have v1 := Lib.hid (v0.below b1)
    go_wp2
    go_ret
    exact HF.out _ v1.out.bel
  subst h1
  obtain ⟨E2, hE2⟩ : ∃ E, askE pk pa pc = E := ⟨_, rfl⟩
  have HE2 := Lib.hid hE2
  have HCK : Hid (∀ W : World, Calls Try.prog 7 #[.agg #[.int .i64 pu, .int .i64 pk, .int .i64 pa, .int .i64 pc, .int .i64 pe, .slice Pt pn pm]] W fun e w' => e = .returned (.tuple #[.agg #[.int .i64 (askN pk pa pc pk), .int .i64 (askN pk pa pc pa), .int .i64 (askN pk pa pc pc), .slice none 0 0, .slice none 0 0, .slice none 0 0], .int .i64 E2]) ∧ Below W.heap.size W w') := Lib.hid fun W => by
    have h := Ask10_any pu pk pa pc pe Pt pn pm W
    unfold AskedK at h
    rw [hE2] at h
    exact h
  by_cases h2 : E2 = 0
  case neg =>
    obtain ⟨f1, f2⟩ := fold_ne h2
    have HF := Lib.hid (HP.out E2 (ansE_ask HE1.out hE2 h2))
    clear h2 hE2
    generalize askN pk pa pc pk = y1 at *
    generalize askN pk pa pc pa = y2 at *
    generalize askN pk pa pc pc = y3 at *
    go_enter Try.func28, Try.ntmps28
    go_wp2_with fail
    refine (HCA.out _ v0.bel).mono ?_
    rintro e w1 ⟨rfl, b1⟩
    have v1 := v0.below b1
    obtain ⟨p0, p1, p2, p3, p4, p5⟩ := of6 v1.b1
    clear v0 b1
    go_wp2_with fail
    refine (HCK.out _).mono ?_
    rintro e w2 ⟨rfl, b2⟩
    have v2 := Lib.hid ((v1.below b2).alloc (.cells #[.int .i64 y1, .int .i64 y2, .int .i64 y3, .slice none 0 0, .slice none 0 0, .slice none 0 0] 29))
    clear v1 b2 p0 p1 p2 p3 p4 p5
    go_wp2
    go_ret
    exact HF.out _ v2.out.bel
  subst h2
  have n1 : askN pk pa pc pk = pk := by unfold askN; rw [hE2]; rfl
  have n2 : askN pk pa pc pa = pa := by unfold askN; rw [hE2]; rfl
  have n3 : askN pk pa pc pc = pc := by unfold askN; rw [hE2]; rfl
  rw [n1, n2, n3] at HCK
  clear n1 n2 n3
  obtain ⟨k1, k2, k3, k4⟩ := askE_zero hE2
  have hmo : mostK pk ≤ 2000 := by unfold mostK; split <;> omega
  have K1 := Lib.hid k1
  clear hE2 k1
  obtain ⟨E3, hE3⟩ : ∃ E, chkR (reqK pk pa pc) r = E := ⟨_, rfl⟩
  have HE3 := Lib.hid hE3
  have HRC : Hid (∀ W : World, Below w.heap.size w W → Calls Try.prog 50 #[.agg #[.int .i64 pk, .int .i64 pa, .int .i64 pc, .slice none 0 0, .slice none 0 0, .slice none 0 0], .agg #[.int .i64 x, .slice Bo mo eo, .slice Bs ms es, .slice Bf mf ef]] W fun e w' => e = .returned (.int .i64 E3) ∧ Below W.heap.size W w') := Lib.hid fun W hW => by
    have h := rpCheck_any (reqK pk pa pc) r none none none Bo Bs Bf 0 0 0 0 0 0 mo ms mf eo es ef W (asked_none _ _ _ _ _) ((HRP.out.below hW).more hW.size) (by omega)
    rw [HX.out, hE3] at h
    exact h
  clear hE3
  by_cases h3 : E3 = 0
  case neg =>
    obtain ⟨f1, f2⟩ := fold_ne h3
    have HF := Lib.hid (HP.out E3 (ansE_chk HE1.out HE2.out HE3.out h3))
    clear h3 k2 k3 k4
    go_enter Try.func28, Try.ntmps28
    go_wp2_with fail
    refine (HCA.out _ v0.bel).mono ?_
    rintro e w1 ⟨rfl, b1⟩
    have v1 := v0.below b1
    obtain ⟨p0, p1, p2, p3, p4, p5⟩ := of6 v1.b1
    clear v0 b1
    go_wp2_with fail
    refine (HCK.out _).mono ?_
    rintro e w2 ⟨rfl, b2⟩
    have v2 := (v1.below b2).alloc (.cells #[.int .i64 pk, .int .i64 pa, .int .i64 pc, .slice none 0 0, .slice none 0 0, .slice none 0 0] 29)
    have hq := heap_alloc_new w2 (.cells #[.int .i64 pk, .int .i64 pa, .int .i64 pc, .slice none 0 0, .slice none 0 0, .slice none 0 0] 29)
    obtain ⟨q0, q1, q2, q3, q4, q5⟩ := of6 hq
    have r0 := cell_of_row _ _ 0 _ _ _ v2.b2
    have r1 := cell_of_row _ _ 1 _ _ _ v2.b2
    have r2 := cell_of_row _ _ 2 _ _ _ v2.b2
    have r3 := cell_of_row _ _ 3 _ _ _ v2.b2
    clear v1 b2 p0 p1 p2 p3 p4 p5 hq
    go_wp2_with fail
    refine (HRC.out _ v2.bel).mono ?_
    rintro e w3 ⟨rfl, b3⟩
    have v3 := Lib.hid (v2.below b3)
    clear v2 b3 q0 q1 q2 q3 q4 q5 r0 r1 r2 r3
    go_wp2
    go_ret
    exact HF.out _ v3.out.bel
  subst h3
  by_cases h4 : x = 0
  case neg =>
    obtain ⟨f1, f2⟩ := fold_ne h4
    have HF := Lib.hid (HP.out 12 (ansE_exc HE1.out HE2.out HE3.out (by rw [HX.out]; exact h4)))
    clear h4 k2 k3 k4
    go_enter Try.func28, Try.ntmps28
    go_wp2_with fail
    refine (HCA.out _ v0.bel).mono ?_
    rintro e w1 ⟨rfl, b1⟩
    have v1 := v0.below b1
    obtain ⟨p0, p1, p2, p3, p4, p5⟩ := of6 v1.b1
    clear v0 b1
    go_wp2_with fail
    refine (HCK.out _).mono ?_
    rintro e w2 ⟨rfl, b2⟩
    have v2 := (v1.below b2).alloc (.cells #[.int .i64 pk, .int .i64 pa, .int .i64 pc, .slice none 0 0, .slice none 0 0, .slice none 0 0] 29)
    have hq := heap_alloc_new w2 (.cells #[.int .i64 pk, .int .i64 pa, .int .i64 pc, .slice none 0 0, .slice none 0 0, .slice none 0 0] 29)
    obtain ⟨q0, q1, q2, q3, q4, q5⟩ := of6 hq
    have r0 := cell_of_row _ _ 0 _ _ _ v2.b2
    have r1 := cell_of_row _ _ 1 _ _ _ v2.b2
    have r2 := cell_of_row _ _ 2 _ _ _ v2.b2
    have r3 := cell_of_row _ _ 3 _ _ _ v2.b2
    clear v1 b2 p0 p1 p2 p3 p4 p5 hq
    go_wp2_with fail
    refine (HRC.out _ v2.bel).mono ?_
    rintro e w3 ⟨rfl, b3⟩
    have v3 := v2.below b3
    clear v2 b3 q0 q1 q2 q3 q4 q5 r0 r1 r2 r3
    have r0 := cell_of_row _ _ 0 _ _ _ v3.b2
    have v3' := Lib.hid v3
    clear v3
    go_wp2
    go_ret
    exact HF.out _ v3'.out.bel
  subst h4
  have HF := Lib.hid (HP.out 0 (ansE_all HE1.out HE2.out HE3.out HX.out))
  clear k2 k3 k4
  go_enter Try.func28, Try.ntmps28
  go_wp2_with fail
  refine (HCA.out _ v0.bel).mono ?_
  rintro e w1 ⟨rfl, b1⟩
  have v1 := v0.below b1
  obtain ⟨p0, p1, p2, p3, p4, p5⟩ := of6 v1.b1
  clear v0 b1
  go_wp2_with fail
  refine (HCK.out _).mono ?_
  rintro e w2 ⟨rfl, b2⟩
  have v2 := (v1.below b2).alloc (.cells #[.int .i64 pk, .int .i64 pa, .int .i64 pc, .slice none 0 0, .slice none 0 0, .slice none 0 0] 29)
  have hq := heap_alloc_new w2 (.cells #[.int .i64 pk, .int .i64 pa, .int .i64 pc, .slice none 0 0, .slice none 0 0, .slice none 0 0] 29)
  obtain ⟨q0, q1, q2, q3, q4, q5⟩ := of6 hq
  have r0 := cell_of_row _ _ 0 _ _ _ v2.b2
  have r1 := cell_of_row _ _ 1 _ _ _ v2.b2
  have r2 := cell_of_row _ _ 2 _ _ _ v2.b2
  have r3 := cell_of_row _ _ 3 _ _ _ v2.b2
  clear v1 b2 p0 p1 p2 p3 p4 p5 hq
  go_wp2_with fail
  refine (HRC.out _ v2.bel).mono ?_
  rintro e w3 ⟨rfl, b3⟩
  have v3 := v2.below b3
  clear v2 b3 q0 q1 q2 q3 q4 q5 r0 r1 r2 r3
  have r0 := cell_of_row _ _ 0 _ _ _ v3.b2
  have v3' := Lib.hid v3
  clear v3
  go_wp2
  go_ret
  exact HF.out _ v3'.out.bel

set_option maxHeartbeats 8000000 in
theorem Values10_any (A : Option Addr) (n c : Nat) (l : List Tg) (pu pk pa pc pe : Int) (Pt : Option Addr) (pn pm : Nat) (tg : List Int) (Bo Bs Bf : Option Addr) (mo ms mf eo es ef : Nat) (r : Rep) (w : World) (hr : VRow w w.heap.size A (flatV tgC l)) (hn : l.length = n) (hnb : n ≤ 4611686018427387904) (hok : ∀ t ∈ l, Tg.Ok t)
    (hrow : Row .i64 w w.heap.size Pt tg) (hpn : tg.length = pn) (hpb : pn ≤ 100000) (hrep : Repd w w.heap.size r Bo Bs Bf mo ms mf) (hms : ms ≤ es) (hes : es ≤ 9223372036854775807) (hx : (Lit.int .i64 r.x).wf = true) :
    Calls Try.prog 14 #[.slice A n c, .agg #[.int .i64 pu, .int .i64 pk, .int .i64 pa, .int .i64 pc, .int .i64 pe, .slice Pt pn pm], .agg #[.int .i64 r.x, .slice Bo mo eo, .slice Bs ms es, .slice Bf mf ef]] w (GivesI w (valsL l ⟨pu, pk, pa, pc, pe, tg⟩ r) (valsE l ⟨pu, pk, pa, pc, pe, tg⟩ r)) := by
  have HP : Hid (∀ E, E ≠ 0 → valsE l ⟨pu, pk, pa, pc, pe, tg⟩ r = E → ∀ w', Below w.heap.size w w' → GivesI w (valsL l ⟨pu, pk, pa, pc, pe, tg⟩ r) (valsE l ⟨pu, pk, pa, pc, pe, tg⟩ r) (.returned (.tuple #[.slice none 0 0, .int .i64 E])) w') := Lib.hid (fun E h0 h w' hb => by
    have hne : valsE l ⟨pu, pk, pa, pc, pe, tg⟩ r ≠ 0 := by rw [h]; exact h0
    rw [valsL_bad hne, h]
    exact ⟨_, rfl, KOwn.nil _ _ _ _, hb⟩)
  have v0 := ValH.new w (.cells #[.int .i64 pu, .int .i64 pk, .int .i64 pa, .int .i64 pc, .int .i64 pe, .slice Pt pn pm] 24) (.cells #[.int .i64 r.x, .slice Bo mo eo, .slice Bs ms es, .slice Bf mf ef] 56)
  have HRW := Lib.hid hrow
  have HRP := Lib.hid hrep
  have HVR := Lib.hid hr
  have hpn' := Lib.hid hpn
  have hn' := Lib.hid hn
  obtain ⟨x, hxx⟩ : ∃ x, r.x = x := ⟨_, rfl⟩
  have HX := Lib.hid hxx
  rw [hxx] at v0 ⊢
  obtain ⟨E1, hE1⟩ : ∃ E, (chkAll l).1 = E := ⟨_, rfl⟩
  have HE1 := Lib.hid hE1
  have HCA : Hid (∀ W : World, Below w.heap.size w W → Calls Try.prog 12 #[.slice A n c] W fun e w' => e = .returned (.tuple #[.int .i64 E1, .int .i64 (chkAll l).2]) ∧ Below W.heap.size W w') := Lib.hid fun W hW => by
    have h := CheckAll9_any A n c l W ((hr.below hW).more hW.size) hn hnb hok
    rw [hE1] at h
    exact h
  have hxw := hx
  clear hrow hrep hr hpn hxx hx hE1 hn
  clear HCA HE1
  obtain ⟨E0, hE0⟩ : ∃ E, ansE l ⟨pu, pk, pa, pc, pe, tg⟩ r = E := ⟨_, rfl⟩
  have HCH : Hid (∀ W : World, Below w.heap.size w W → Calls Try.prog 28 #[.slice A n c, .agg #[.int .i64 pu, .int .i64 pk, .int .i64 pa, .int .i64 pc, .int .i64 pe, .slice Pt pn pm], .agg #[.int .i64 x, .slice Bo mo eo, .slice Bs ms es, .slice Bf mf ef]] W fun e w' => e = .returned (.int .i64 E0) ∧ Below W.heap.size W w') := Lib.hid fun W hW => by
    have h := checkAnswer_any A n c l pu pk pa pc pe Pt pn pm tg Bo Bs Bf mo ms mf eo es ef r W ((HVR.out.below hW).more hW.size) hn'.out hnb hok ((HRW.out.below hW).more hW.size) hpn'.out hpb ((HRP.out.below hW).more hW.size) hms hes hxw
    rw [HX.out, hE0] at h
    exact h
  by_cases h0 : E0 = 0
  case neg =>
    obtain ⟨f1, f2⟩ := fold_ne h0
    have HF := Lib.hid (HP.out E0 h0 (by rw [valsE_ans (by rw [hE0]; exact h0), hE0]))
    obtain ⟨p0, p1, p2, p3, p4, p5⟩ := of6 v0.b1
    have r0 := cell_of_row _ _ 0 _ _ _ v0.b2
    have r1 := cell_of_row _ _ 1 _ _ _ v0.b2
    have r2 := cell_of_row _ _ 2 _ _ _ v0.b2
    have r3 := cell_of_row _ _ 3 _ _ _ v0.b2
    clear h0 hE0
    go_enter Try.func14, Try.ntmps14
    go_wp2_with fail
    refine (HCH.out _ v0.bel).mono ?_
    rintro e w1 ⟨rfl, b1⟩
    have v1 := Lib.hid (v0.below b1)
    clear p0 p1 p2 p3 p4 p5 r0 r1 r2 r3
    go_wp2
    (try simp only [Exit.inBlock, Exit.then])
    refine bodyPost_ret (v := .tuple #[.slice none 0 0, .int .i64 E0]) (by simp [results, Try.results14, go_sem]) rfl ?_
    exact HF.out _ v1.out.bel
  subst h0
  obtain ⟨e1, e2, e3, e4⟩ := ansE_zero hE0
  have HE1 := Lib.hid e1
  have HE2 : Hid (askE pk pa pc = 0) := Lib.hid e2
  have HE3 : Hid (chkR (reqK pk pa pc) r = 0) := Lib.hid e3
  obtain rfl : x = 0 := by have := HX.out; omega
  obtain ⟨k1, k2, k3, k4⟩ := askE_zero HE2.out
  have hmo : mostK pk ≤ 2000 := by unfold mostK; split <;> omega
  clear hE0 e1 e2 e3 e4 k1
  have HG : Hid ((∀ k, k < tg.length → okP l pu pk pa pc (nth tg k) = true) → ∀ v w', KOwn .i64 3 w' w.heap.size v (valsM l ⟨pu, pk, pa, pc, pe, tg⟩ r) → Below w.heap.size w w' → GivesI w (valsL l ⟨pu, pk, pa, pc, pe, tg⟩ r) (valsE l ⟨pu, pk, pa, pc, pe, tg⟩ r) (.returned (.tuple #[v, .int .i64 0])) w') := Lib.hid (fun ha v w' hv hb => by
    have he : valsE l ⟨pu, pk, pa, pc, pe, tg⟩ r = 0 := valsE_good HE1.out HE2.out HE3.out HX.out ha
    rw [valsL_good he, he]
    exact ⟨_, rfl, hv, hb⟩)
  have HBAD : Hid (∀ k, k < tg.length → okP l pu pk pa pc (nth tg k) = false → ∀ w', Below w.heap.size w w' → GivesI w (valsL l ⟨pu, pk, pa, pc, pe, tg⟩ r) (valsE l ⟨pu, pk, pa, pc, pe, tg⟩ r) (.returned (.tuple #[.slice none 0 0, .int .i64 3])) w') := Lib.hid (fun k hk hb => HP.out 3 (by omega) (valsE_bad (p := ⟨pu, pk, pa, pc, pe, tg⟩) HE1.out HE2.out HE3.out HX.out hk hb))
  obtain ⟨p0, p1, p2, p3, p4, p5⟩ := of6 v0.b1
  have r0 := cell_of_row _ _ 0 _ _ _ v0.b2
  have r1 := cell_of_row _ _ 1 _ _ _ v0.b2
  have r2 := cell_of_row _ _ 2 _ _ _ v0.b2
  have r3 := cell_of_row _ _ 3 _ _ _ v0.b2
  go_enter Try.func14, Try.ntmps14
  go_wp2_with fail
  refine (HCH.out _ v0.bel).mono ?_
  rintro e w1 ⟨rfl, b1⟩
  have v1 := v0.below b1
  clear v0 b1 p0 p1 p2 p3 p4 p5 r0 r1 r2 r3
  obtain ⟨p0, p1, p2, p3, p4, p5⟩ := of6 v1.b1
  have v3' := Lib.hid v1
  clear v1
  go_wp2
  go_loopw [9, 22] (fun v i wr => ∃ k : Nat, k ≤ pn ∧ i = .int .i64 k ∧ KOwn .i64 3 wr (w.heap.size + 2) v ((valsM l ⟨pu, pk, pa, pc, pe, tg⟩ r).take k) ∧ Hid (ValH w wr (.cells #[.int .i64 pu, .int .i64 pk, .int .i64 pa, .int .i64 pc, .int .i64 pe, .slice Pt pn pm] 24) (.cells #[.int .i64 0, .slice Bo mo eo, .slice Bs ms es, .slice Bf mf ef] 56)) ∧ Hid (∀ j, j < k → okP l pu pk pa pc (nth tg j) = true)) (fun _ i _ => pn - (intOf i).toNat)
  case atStart => exact ⟨0, by omega, rfl, by rw [List.take_zero]; exact KOwn.nil _ _ _ _, v3', Lib.hid (fun j hj => absurd hj (by omega))⟩
  case round =>
    clear v3'
    obtain ⟨k, hk, rfl, hown, hv, hall⟩ := hrel
    obtain ⟨Av, nv, cv, rfl⟩ := hown.sl
    obtain ⟨p0, p1, p2, p3, p4, p5⟩ := of6 hv.out.b1
    by_cases hlt : k < pn
    · have hkl : k < tg.length := by have := hpn'.out; omega
      obtain ⟨b, o, rfl, hb1, hc1⟩ := (HRW.out.below hv.out.bel).at_ hkl
      have hwx := wf_i64 (HRW.out.wf_at hkl)
      obtain ⟨z, hz⟩ : ∃ z, nth tg k = z := ⟨_, rfl⟩
      have HZ := Lib.hid hz
      rw [hz] at hc1 hwx
      clear hz
      have hlt' : (k : Int) < (pn : Int) := by omega
      have hk0 : (0 : Int) ≤ k := by omega
      have hzz : (z == z) = true := by simp
      by_cases hz1 : z < 0
      case pos =>
        have HB : Hid (okP l pu pk pa pc (nth tg k) = false) := Lib.hid (by unfold okP; rw [HZ.out, decide_eq_false (by omega)]; rfl)
        have d1 : decide (z < 0) = true := decide_eq_true hz1
        go_wp2
        go_quiet (fail)
        go_wp2
        (try simp only [Exit.inBlock, Exit.then])
        refine bodyPost_ret (v := .tuple #[.slice none 0 0, .int .i64 3]) (by simp [results, Try.results14, go_sem]) rfl ?_
        exact HBAD.out k hkl HB.out _ (below_drewN hv.out.bel _)
      have d1 : decide (z < 0) = false := decide_eq_false hz1
      by_cases hz2 : z ≥ n
      case pos =>
        have HB : Hid (okP l pu pk pa pc (nth tg k) = false) := Lib.hid (by unfold okP; rw [HZ.out, decide_eq_false (show ¬ z < (l.length : Int) by have := hn'.out; omega), Bool.false_and, Bool.and_false])
        have d2 : decide (z ≥ n) = true := decide_eq_true hz2
        have d3 : decide ((n : Int) ≤ z) = true := decide_eq_true hz2
        go_wp2
        go_quiet (fail)
        go_wp2
        (try simp only [Exit.inBlock, Exit.then])
        refine bodyPost_ret (v := .tuple #[.slice none 0 0, .int .i64 3]) (by simp [results, Try.results14, go_sem]) rfl ?_
        exact HBAD.out k hkl HB.out _ (below_drewN hv.out.bel _)
      have d2 : decide (z ≥ n) = false := decide_eq_false hz2
      obtain ⟨i, rfl⟩ : ∃ i : Nat, z = (i : Int) := ⟨z.toNat, by omega⟩
      have hil : i < l.length := by have := hn'.out; omega
      have hiln : (i : Int) < n := by omega
      have hi0 : (0 : Int) ≤ i := by omega
      have d4 : decide (n ≤ i) = false := decide_eq_false (by omega)
      have d5 : decide ((n : Int) ≤ (i : Int)) = false := decide_eq_false (by omega)
      have d6 : i < n := by omega
      obtain ⟨bl, ol, hAl, hbl, hld0⟩ := (HVR.out.below hv.out.bel).five hil
      subst hAl
      have HLD : Hid (∀ w9 : World, Below w.heap.size w w9 → (ldTag (.pointer (some ⟨bl, ol + i * 19, none⟩))).run Try.prog w9 = .ok (tgV (tgAt l i)) w9) := Lib.hid (fun w9 hb => by
        obtain ⟨b9, o9, e9, _, h9⟩ := (HVR.out.below hb).five hil
        injection e9 with e9
        injection e9 with e9 e9'
        subst e9 e9'
        exact h9)
      have HT0 : Hid (chkT (tgAt l i) = 0) := Lib.hid (tag_right HE1.out hil)
      have hta : 0 ≤ (tgAt l i).ad ∧ (tgAt l i).ad ≤ 65536 := by
        have h := (chkT_zero HT0.out).2.2.2.1
        have := widT_le (tgAt l i)
        omega
      have HWI : Hid (∀ W : World, Calls Try.prog 29 #[tgV (tgAt l i), .agg #[.int .i64 pu, .int .i64 pk, .int .i64 pa, .int .i64 pc, .int .i64 pe, .slice (some ⟨b, o, none⟩) pn pm]] W fun e w' => e = .returned (.bool (inP (tgAt l i) pu pk pa pc)) ∧ Below W.heap.size W w') := Lib.hid fun W => within_any pu pk pa pc pe (some ⟨b, o, none⟩) pn pm [] (tgAt l i) W (by omega) (by omega) hta
      have HOK : Hid (okP l pu pk pa pc (nth tg k) = inP (tgAt l i) pu pk pa pc) := Lib.hid (by unfold okP; rw [HZ.out, decide_eq_true hi0, decide_eq_true (show (i : Int) < (l.length : Int) by omega), Int.toNat_natCast]; rfl)
      have HV2 : Hid (valT (tgAt l (nth tg k).toNat) pa r.on r.set = valT (tgAt l i) pa r.on r.set) := Lib.hid (by rw [HZ.out, Int.toNat_natCast])
      generalize tgAt l i = t at *
      have hbs : b < wr.heap.size := by have := hv.out.sz; omega
      have HKR : Hid (∀ w9 : World, Below wr.heap.size wr w9 → (Below wr.heap.size wr w9 ∧ (ldTag (.pointer (some ⟨bl, ol + i * 19, none⟩))).run Try.prog w9 = .ok (tgV t) w9 ∧ (w9.cell? ⟨w.heap.size, 0, none⟩ = some (.int .i64 pu) ∧ w9.cell? ⟨w.heap.size, 1, none⟩ = some (.int .i64 pk) ∧ w9.cell? ⟨w.heap.size, 2, none⟩ = some (.int .i64 pa) ∧ w9.cell? ⟨w.heap.size, 3, none⟩ = some (.int .i64 pc) ∧ w9.cell? ⟨w.heap.size, 4, none⟩ = some (.int .i64 pe) ∧ w9.cell? ⟨w.heap.size, 5, none⟩ = some (.slice (some ⟨b, o, none⟩) pn pm)))) := Lib.hid fun w9 hb => ⟨hb, HLD.out _ (hv.out.below hb).bel, of6 (hv.out.below hb).b1⟩
      have belh : ∀ w9 : World, (Below wr.heap.size wr w9 ∧ (ldTag (.pointer (some ⟨bl, ol + i * 19, none⟩))).run Try.prog w9 = .ok (tgV t) w9 ∧ (w9.cell? ⟨w.heap.size, 0, none⟩ = some (.int .i64 pu) ∧ w9.cell? ⟨w.heap.size, 1, none⟩ = some (.int .i64 pk) ∧ w9.cell? ⟨w.heap.size, 2, none⟩ = some (.int .i64 pa) ∧ w9.cell? ⟨w.heap.size, 3, none⟩ = some (.int .i64 pc) ∧ w9.cell? ⟨w.heap.size, 4, none⟩ = some (.int .i64 pe) ∧ w9.cell? ⟨w.heap.size, 5, none⟩ = some (.slice (some ⟨b, o, none⟩) pn pm))) → Below wr.heap.size wr w9 := fun w9 h => h.1
      clear hld0
      go_wp2
      clear p0 p1 p2 p3 p4 p5 hc1
      go_region_held3 (fun w9 => Below wr.heap.size wr w9 ∧ (ldTag (.pointer (some ⟨bl, ol + i * 19, none⟩))).run Try.prog w9 = .ok (tgV t) w9 ∧ (w9.cell? ⟨w.heap.size, 0, none⟩ = some (.int .i64 pu) ∧ w9.cell? ⟨w.heap.size, 1, none⟩ = some (.int .i64 pk) ∧ w9.cell? ⟨w.heap.size, 2, none⟩ = some (.int .i64 pa) ∧ w9.cell? ⟨w.heap.size, 3, none⟩ = some (.int .i64 pc) ∧ w9.cell? ⟨w.heap.size, 4, none⟩ = some (.int .i64 pe) ∧ w9.cell? ⟨w.heap.size, 5, none⟩ = some (.slice (some ⟨b, o, none⟩) pn pm)))
        ((refine HKR.out _ ?_
          repeat' (first
            | with_reducible exact Below.refl _ _
            | with_reducible exact bel5
            | with_reducible exact belh _ (by assumption)
            | with_reducible apply below_drew
            | with_reducible apply below_drewN
            | fail)))
        (first
          | (go_at_call 29; refine (HWI.out _).mono ?_; rintro e w5 ⟨rfl, b5⟩; have bel5 : Below wr.heap.size wr w5 := Below.trans (belh _ (by assumption)) (b5.mono (Below.size (belh _ (by assumption)))))
          | fail)
      have hv5 := Lib.hid (hv.out.below bel5)
      have hown5 := hown.below bel5 (Nat.le_refl _)
      clear HKR belh b5 hown
      cases hin : inP t pu pk pa pc
      case false =>
        have HB : Hid (okP l pu pk pa pc (nth tg k) = false) := Lib.hid (by rw [HOK.out, hin])
        go_wp2
        (try simp only [Exit.inBlock, Exit.then])
        refine bodyPost_ret (v := .tuple #[.slice none 0 0, .int .i64 3]) (by simp [results, Try.results14, go_sem]) rfl ?_
        exact HBAD.out k hkl HB.out _ hv5.out.bel
      have HIN := Lib.hid hin
      clear hin
      have hall2 : Hid (∀ j, j < k + 1 → okP l pu pk pa pc (nth tg j) = true) := Lib.hid (fun j hj => by
        rcases Nat.lt_or_ge j k with h | h
        · exact hall.out j h
        · obtain rfl : j = k := by omega
          rw [HOK.out]; exact HIN.out)
      have HVA0 : Hid (∀ W : World, Below w.heap.size w W → Calls Try.prog 30 #[tgV t, .agg #[.int .i64 pu, .int .i64 pk, .int .i64 pa, .int .i64 pc, .int .i64 pe, .slice (some ⟨b, o, none⟩) pn pm], .agg #[.int .i64 0, .slice Bo mo eo, .slice Bs ms es, .slice Bf mf ef]] W fun e w' => e = .returned (.int .i64 (valT t pa r.on r.set)) ∧ Below W.heap.size W w') := Lib.hid fun W hb =>
        value10_any pu pk pa pc pe (some ⟨b, o, none⟩) pn pm 0 Bo Bs Bf mo ms mf eo es ef r t W ((HRP.out.below hb).more hb.size) HIN.out HE2.out HE3.out HX.out hms hes
      have huw := valT_wf t pa r.on r.set
      have HTK : Hid ((valsM l ⟨pu, pk, pa, pc, pe, tg⟩ r).take (k + 1) = (valsM l ⟨pu, pk, pa, pc, pe, tg⟩ r).take k ++ [valT t pa r.on r.set]) := Lib.hid (by
        rw [take_step _ _ (by rw [valsM_len]; exact hkl), valsM_nth _ _ _ _ hkl]
        show _ ++ [valT (tgAt l (nth tg k).toNat) pa r.on r.set] = _
        rw [HV2.out])
      have HLK : Hid (((valsM l ⟨pu, pk, pa, pc, pe, tg⟩ r).take k).length = k) := Lib.hid (by rw [List.length_take, valsM_len]; exact Nat.min_eq_left (Nat.le_of_lt hkl))
      clear HV2
      generalize valT t pa r.on r.set = u at *
      generalize (valsM l ⟨pu, pk, pa, pc, pe, tg⟩ r).take k = vk at *
      have hsz5 := hv5.out.sz
      have HKR : Hid (∀ w9 : World, ValH w w9 (.cells #[.int .i64 pu, .int .i64 pk, .int .i64 pa, .int .i64 pc, .int .i64 pe, .slice (some ⟨b, o, none⟩) pn pm] 24) (.cells #[.int .i64 0, .slice Bo mo eo, .slice Bs ms es, .slice Bf mf ef] 56) → (ValH w w9 (.cells #[.int .i64 pu, .int .i64 pk, .int .i64 pa, .int .i64 pc, .int .i64 pe, .slice (some ⟨b, o, none⟩) pn pm] 24) (.cells #[.int .i64 0, .slice Bo mo eo, .slice Bs ms es, .slice Bf mf ef] 56) ∧ (ldTag (.pointer (some ⟨bl, ol + i * 19, none⟩))).run Try.prog w9 = .ok (tgV t) w9 ∧ (w9.cell? ⟨w.heap.size, 0, none⟩ = some (.int .i64 pu) ∧ w9.cell? ⟨w.heap.size, 1, none⟩ = some (.int .i64 pk) ∧ w9.cell? ⟨w.heap.size, 2, none⟩ = some (.int .i64 pa) ∧ w9.cell? ⟨w.heap.size, 3, none⟩ = some (.int .i64 pc) ∧ w9.cell? ⟨w.heap.size, 4, none⟩ = some (.int .i64 pe) ∧ w9.cell? ⟨w.heap.size, 5, none⟩ = some (.slice (some ⟨b, o, none⟩) pn pm)) ∧ (w9.cell? ⟨w.heap.size + 1, 0, none⟩ = some (.int .i64 0) ∧ w9.cell? ⟨w.heap.size + 1, 1, none⟩ = some (.slice Bo mo eo) ∧ w9.cell? ⟨w.heap.size + 1, 2, none⟩ = some (.slice Bs ms es) ∧ w9.cell? ⟨w.heap.size + 1, 3, none⟩ = some (.slice Bf mf ef)))) := Lib.hid fun w9 hb => ⟨hb, HLD.out _ hb.bel, of6 hb.b1, cell_of_row _ _ 0 _ _ _ hb.b2, cell_of_row _ _ 1 _ _ _ hb.b2, cell_of_row _ _ 2 _ _ _ hb.b2, cell_of_row _ _ 3 _ _ _ hb.b2⟩
      have belh : ∀ w9 : World, (ValH w w9 (.cells #[.int .i64 pu, .int .i64 pk, .int .i64 pa, .int .i64 pc, .int .i64 pe, .slice (some ⟨b, o, none⟩) pn pm] 24) (.cells #[.int .i64 0, .slice Bo mo eo, .slice Bs ms es, .slice Bf mf ef] 56) ∧ (ldTag (.pointer (some ⟨bl, ol + i * 19, none⟩))).run Try.prog w9 = .ok (tgV t) w9 ∧ (w9.cell? ⟨w.heap.size, 0, none⟩ = some (.int .i64 pu) ∧ w9.cell? ⟨w.heap.size, 1, none⟩ = some (.int .i64 pk) ∧ w9.cell? ⟨w.heap.size, 2, none⟩ = some (.int .i64 pa) ∧ w9.cell? ⟨w.heap.size, 3, none⟩ = some (.int .i64 pc) ∧ w9.cell? ⟨w.heap.size, 4, none⟩ = some (.int .i64 pe) ∧ w9.cell? ⟨w.heap.size, 5, none⟩ = some (.slice (some ⟨b, o, none⟩) pn pm)) ∧ (w9.cell? ⟨w.heap.size + 1, 0, none⟩ = some (.int .i64 0) ∧ w9.cell? ⟨w.heap.size + 1, 1, none⟩ = some (.slice Bo mo eo) ∧ w9.cell? ⟨w.heap.size + 1, 2, none⟩ = some (.slice Bs ms es) ∧ w9.cell? ⟨w.heap.size + 1, 3, none⟩ = some (.slice Bf mf ef))) → ValH w w9 (.cells #[.int .i64 pu, .int .i64 pk, .int .i64 pa, .int .i64 pc, .int .i64 pe, .slice (some ⟨b, o, none⟩) pn pm] 24) (.cells #[.int .i64 0, .slice Bo mo eo, .slice Bs ms es, .slice Bf mf ef] 56) := fun w9 h => h.1
      clear bel5
      go_wp2
      go_region_held3 (fun w9 => ValH w w9 (.cells #[.int .i64 pu, .int .i64 pk, .int .i64 pa, .int .i64 pc, .int .i64 pe, .slice (some ⟨b, o, none⟩) pn pm] 24) (.cells #[.int .i64 0, .slice Bo mo eo, .slice Bs ms es, .slice Bf mf ef] 56) ∧ (ldTag (.pointer (some ⟨bl, ol + i * 19, none⟩))).run Try.prog w9 = .ok (tgV t) w9 ∧ (w9.cell? ⟨w.heap.size, 0, none⟩ = some (.int .i64 pu) ∧ w9.cell? ⟨w.heap.size, 1, none⟩ = some (.int .i64 pk) ∧ w9.cell? ⟨w.heap.size, 2, none⟩ = some (.int .i64 pa) ∧ w9.cell? ⟨w.heap.size, 3, none⟩ = some (.int .i64 pc) ∧ w9.cell? ⟨w.heap.size, 4, none⟩ = some (.int .i64 pe) ∧ w9.cell? ⟨w.heap.size, 5, none⟩ = some (.slice (some ⟨b, o, none⟩) pn pm)) ∧ (w9.cell? ⟨w.heap.size + 1, 0, none⟩ = some (.int .i64 0) ∧ w9.cell? ⟨w.heap.size + 1, 1, none⟩ = some (.slice Bo mo eo) ∧ w9.cell? ⟨w.heap.size + 1, 2, none⟩ = some (.slice Bs ms es) ∧ w9.cell? ⟨w.heap.size + 1, 3, none⟩ = some (.slice Bf mf ef)))
        ((refine HKR.out _ ?_
          repeat' (first
            | with_reducible exact hv7
            | with_reducible exact hv6
            | with_reducible exact hv5.out
            | with_reducible exact belh _ (by assumption)
            | with_reducible apply ValH.drew
            | with_reducible apply ValH.drewN
            | with_reducible apply ValH.alloc
            | fail)))
        (first
          | (go_at_call 30; have bh := belh _ (by assumption); refine (HVA0.out _ bh.bel).mono ?_; rintro e w6 ⟨rfl, b6⟩; have hv6 := bh.below b6; have hown6 : KOwn .i64 3 w6 (w.heap.size + 2) (.slice Av nv cv) vk := by first | exact hown5.below b6 (Nat.le_refl _) | exact (KOwn.drew hown5).below b6 (Nat.le_refl _) | exact (KOwn.drew (KOwn.drew hown5)).below b6 (Nat.le_refl _))
          | (refine step_append_K (w6.alloc (.cells #[.int .i64 u] 3)) rfl _ _ 22 rfl (w.heap.size + 2) .i64 3 8 Try.underlying22 I.info_i64 _ vk rfl (hown6.alloc _) (w6.heap.size + 1) (some ⟨w6.heap.size, 0, none⟩) 1 1 [u] rfl (Row.one .i64 w6 3 u huw) rfl (Nat.le_refl _) (by have := HLK.out; omega) (by have := HLK.out; simp only [maxLen]; omega) (by have := hv6.sz; simp; omega) ?_; intro v7 w7 own7 g7 _ sl7; have hv7 := (hv6.alloc (.cells #[.int .i64 u] 3)).grown g7 (fun g e => (hown6.block g e).1))
          | fail)
      have HV7 := Lib.hid hv7
      rw [← HTK.out] at own7
      clear HKR belh g7 hown5 hown6 hv6 hv7 b6
      go_wp2
      go_roundw
      case rel => exact ⟨k + 1, by omega, by go_num, own7, HV7, hall2⟩
      case measure => simp [intOf]; omega
    · obtain rfl : k = pn := by omega
      have hx : (valsM l ⟨pu, pk, pa, pc, pe, tg⟩ r).take k = valsM l ⟨pu, pk, pa, pc, pe, tg⟩ r := List.take_of_length_le (by rw [valsM_len]; have := hpn'.out; show tg.length ≤ k; omega)
      rw [hx] at hown
      have HO := Lib.hid (hown.mono (base' := w.heap.size) (by omega))
      clear hx hown
      go_wp2
      (try simp only [Exit.inBlock, Exit.then])
      refine bodyPost_ret (v := .tuple #[.slice Av nv cv, .int .i64 0]) (by simp [results, Try.results14, go_sem]) rfl ?_
      exact HG.out (fun j hj => hall.out j (by have := hpn'.out; omega)) _ _ HO.out hv.out.bel
end Go.Proofs.Ytcmbdhmhkfhjfaa
namespace Go.Proofs.Ytcmbdhmhkfhjfaa
open Go.RowKit
set_option linter.unusedVariables false
set_option maxRecDepth 100000

theorem info_poll : (Try.prog.info? 24).map (fun i => (i.zero, i.size, i.bytes)) = some (some (.agg #[.int .i64 0, .int .i64 0, .int .i64 0, .int .i64 0, .int .i64 0, .slice none 0 0]), 6, 64) := by kernel_rfl
def pcell (p : Pol × Value) : List Value := [.int .i64 p.1.un, .int .i64 p.1.ki, .int .i64 p.1.ad, .int .i64 p.1.ct, .int .i64 p.1.ev, p.2]
theorem pcell_len (p : Pol × Value) : (pcell p).length = 6 := rfl
def FarV (a b : Value) : Prop := a.ownBlock = none ∨ a.ownBlock ≠ b.ownBlock
theorem FarV.symm {a b : Value} (h : FarV a b) : FarV b a := by
  unfold FarV at *
  cases hb : b.ownBlock with
  | none => exact .inl rfl
  | some g =>
    right
    rcases h with h | h
    · rw [h]; simp
    · rw [hb] at h; exact fun e => h e.symm
/-- The slice v owns the polls ps. -/
def PlOwn (w : World) (base : Nat) (v : Value) (ps : List Pol) : Prop :=
  ∃ L : List (Pol × Value), L.map Prod.fst = ps ∧ w.ownsRow base 24 6 v L.length (flatV pcell L) ∧ (∀ p ∈ L, KOwn .i64 3 w base p.2 p.1.tg) ∧ L.Pairwise (fun a b => FarV a.2 b.2)
theorem PlOwn.nil (w : World) (base : Nat) : PlOwn w base (.slice none 0 0) [] := ⟨[], rfl, World.ownsRow_nil _ _ _ _, fun p hp => (by cases hp), List.Pairwise.nil⟩
theorem rowP_below {w w' : World} {base B n : Nat} {v : Value} {xs : List Value} (h : w.ownsRow base 24 6 v n xs) (hb : Below B w w') (hB : w.heap.size ≤ B) : w'.ownsRow base 24 6 v n xs := by
  refine h.kept (row := none) ⟨hb.os, hb.tape, hb.output, hb.size, fun i hi _ => hb.block i (by omega)⟩ ?_
  cases hv : v.ownBlock with
  | none => exact .inl rfl
  | some g => exact .inr (by simp)
theorem PlOwn.below {w w' : World} {base B : Nat} {v : Value} {ps : List Pol} (h : PlOwn w base v ps) (hb : Below B w w') (hB : w.heap.size ≤ B) : PlOwn w' base v ps := by
  obtain ⟨L, h1, h2, h3, h4⟩ := h
  exact ⟨L, h1, rowP_below h2 hb hB, fun p hp => (h3 p hp).below hb hB, h4⟩
theorem PlOwn.alloc {w : World} {base : Nat} {v : Value} {ps : List Pol} (h : PlOwn w base v ps) (o : Obj) : PlOwn (w.alloc o) base v ps := h.below (bel_alloc w o) (Nat.le_refl _)
theorem PlOwn.drewN {w : World} {base : Nat} {v : Value} {ps : List Pol} (h : PlOwn w base v ps) (n : Nat) : PlOwn (w.drewN n) base v ps := h
theorem PlOwn.block {w : World} {base : Nat} {v : Value} {ps : List Pol} (h : PlOwn w base v ps) : ∀ g, v.ownBlock = some g → base ≤ g ∧ g < w.heap.size := by
  obtain ⟨L, h1, h2, h3, h4⟩ := h
  exact World.ownsRow.lt h2
theorem PlOwn.mono {w : World} {base base' : Nat} {v : Value} {ps : List Pol} (h : PlOwn w base v ps) (hb : base' ≤ base) : PlOwn w base' v ps := by
  obtain ⟨L, h1, h2, h3, h4⟩ := h
  refine ⟨L, h1, ⟨h2.1, ?_⟩, fun p hp => (h3 p hp).mono hb, h4⟩
  rcases h2.2 with h0 | ⟨g, cap, cur, hv, h5, r⟩
  · exact .inl h0
  · exact .inr ⟨g, cap, cur, hv, by omega, r⟩
theorem PlOwn.len {w : World} {base : Nat} {v : Value} {ps : List Pol} (h : PlOwn w base v ps) : ∃ A c, v = .slice A ps.length c ∧ ps.length ≤ c := by
  obtain ⟨L, rfl, h2, h3, h4⟩ := h
  rw [List.length_map]
  rcases h2.2 with ⟨rfl, h0⟩ | ⟨g, cap, cur, rfl, _, _, h5, _⟩
  · rw [h0]; exact ⟨none, 0, rfl, Nat.le_refl _⟩
  · exact ⟨_, cap, rfl, h5⟩
/-- The block of a list of polls is none of a list of numbers. -/
theorem pol_far {w : World} {base base' : Nat} {v u : Value} {n : Nat} {xs : List Value} {ys : List Int} (h : w.ownsRow base 24 6 v n xs) (k : KOwn .i64 3 w base' u ys) : u.ownBlock = none ∨ u.ownBlock ≠ v.ownBlock := by
  rcases k with ⟨rfl, _⟩ | ⟨g, m, cap, r, rfl, _, _, hg, _⟩
  · exact .inl rfl
  · refine .inr fun e => ?_
    rcases h.2 with ⟨rfl, _⟩ | ⟨g', cap', cur, rfl, _, hg', _⟩
    · cases e
    · have e : some g = some g' := e
      injection e with e
      subst e
      rw [hg] at hg'
      injection hg' with hg'
      injection hg' with _ ht
      exact absurd ht (by decide)
/-- One poll of the list, where it lies. -/
theorem PlOwn.at_ {w : World} {base : Nat} {v : Value} {ps : List Pol} (h : PlOwn w base v ps) {i : Nat} (hi : i < ps.length) :
    ∃ g c A m cc, v = .slice (some ⟨g, 0, none⟩) ps.length c ∧ base ≤ g ∧ g < w.heap.size ∧ ps.length ≤ c ∧ (w.cell? ⟨g, i * 6, none⟩ = some (.int .i64 ps[i].un) ∧ w.cell? ⟨g, i * 6 + 1, none⟩ = some (.int .i64 ps[i].ki) ∧ w.cell? ⟨g, i * 6 + 2, none⟩ = some (.int .i64 ps[i].ad) ∧ w.cell? ⟨g, i * 6 + 3, none⟩ = some (.int .i64 ps[i].ct) ∧ w.cell? ⟨g, i * 6 + 4, none⟩ = some (.int .i64 ps[i].ev) ∧ w.cell? ⟨g, i * 6 + 5, none⟩ = some (.slice A m cc)) ∧ KOwn .i64 3 w base (.slice A m cc) ps[i].tg := by
  obtain ⟨L, rfl, h2, h3, h4⟩ := h
  rw [List.length_map] at hi ⊢
  rcases h2.2 with ⟨rfl, h0⟩ | ⟨g, cap, cur, rfl, hb, hg, h5, h6, h7, h8⟩
  · omega
  · have k := h3 _ (List.getElem_mem hi)
    have hcell : ∀ j, j < 6 → w.cell? ⟨g, i * 6 + j, none⟩ = (pcell L[i])[j]? := by
      intro j hj
      rw [cell_of_row w g _ cur _ _ hg, ← flatV_get pcell_len L i hi j hj, ← h8, List.getElem?_take_of_lt (by omega), Array.getElem?_toList]
    obtain ⟨A, m, cc, hs⟩ : ∃ A m cc, L[i].2 = .slice A m cc := by
      rcases k with ⟨e, _⟩ | ⟨g', n', cap', r, e, _⟩
      · exact ⟨_, _, _, e⟩
      · exact ⟨_, _, _, e⟩
    have c0 := hcell 0 (by omega)
    have c1 := hcell 1 (by omega)
    have c2 := hcell 2 (by omega)
    have c3 := hcell 3 (by omega)
    have c4 := hcell 4 (by omega)
    have c5 := hcell 5 (by omega)
    rw [hs] at k
    refine ⟨g, cap, A, m, cc, rfl, hb, block_lt hg, h5, ⟨?_, ?_, ?_, ?_, ?_, ?_⟩, ?_⟩
    · rw [Nat.add_zero] at c0; rw [c0]; simp [pcell]
    · rw [c1]; simp [pcell]
    · rw [c2]; simp [pcell]
    · rw [c3]; simp [pcell]
    · rw [c4]; simp [pcell]
    · rw [c5]; simp [pcell, hs]
    · simpa using k
theorem Below.plown {w0 w w' : World} {base B : Nat} {v : Value} {ps : List Pol} (hb : Below B w0 w) (hB : B ≤ w.heap.size) (h : PlOwn w base v ps) (hBB : B ≤ base) (hg : w.grownBy w' v.ownBlock) : Below B w0 w' :=
  hb.grown hg hB fun g e => Nat.le_trans hBB (h.block g e).1

section
variable {P : Program}
theorem run_append_poll (w0 w : World) (t : TypeId) (ht : P.underlying t = some (.slice 24)) (hi : (P.info? 24).map (fun i => (i.zero, i.size, i.bytes)) = some (some (.agg #[.int .i64 0, .int .i64 0, .int .i64 0, .int .i64 0, .int .i64 0, .slice none 0 0]), 6, 64))
    (base : Nat) (v : Value) (ps : List Pol) (hown : PlOwn w0 base v ps) (hb0 : Below w0.heap.size w0 w) (g0 : Nat) (hg0 : w0.heap.size ≤ g0) (hb1 : base ≤ g0) (un ki pa ct ev x : Int) (hx : (Lit.int .i64 x).wf = true) (hu : w.heap[g0]? = some (.cells (blk .i64 [x]) 3 (0, 0))) (ad : Addr) (c : Nat)
    (hnews : ∀ j y, [Value.int .i64 un, .int .i64 ki, .int .i64 pa, .int .i64 ct, .int .i64 ev, .slice (some ⟨g0, 0, none⟩) 1 1][j]? = some y → w.cell? (ad.add j) = some y) (hb : ps.length ≤ 1000000) (hbase : base ≤ w.heap.size) :
    ∃ v' w', (∀ ty, (Builtin.append_ #[t, t] ty #[v, .slice (some ad) 1 c]).run P w = .ok v' w') ∧ PlOwn w' base v' (ps ++ [⟨un, ki, pa, ct, ev, [x]⟩]) ∧ w.grownBy w' v.ownBlock := by
  obtain ⟨i, hi1, hz, hsz, hby⟩ := info_parts hi
  have hk : KOwn .i64 3 w base (.slice (some ⟨g0, 0, none⟩) 1 1) [x] := .inr ⟨g0, 1, 1, [], rfl, hb1, rfl, hu, Nat.le_refl _, by simp [maxLen], rfl, by simp⟩
  obtain ⟨L, rfl, h2, h3, h4⟩ := hown
  have k2 := rowP_below h2 hb0 (Nat.le_refl _)
  rw [List.length_map] at hb
  obtain ⟨v', w', hrun, g1, g2, _⟩ := run_append_own (P := P) w base t t 24 i _ 6 64 ht hi1 hz hsz hby rfl (by omega) v L.length (flatV pcell L) k2 ad 1 c [Value.int .i64 un, .int .i64 ki, .int .i64 pa, .int .i64 ct, .int .i64 ev, .slice (some ⟨g0, 0, none⟩) 1 1] rfl hnews (by simp [Value.oneCell']) (by simp only [maxLen]; omega) (by omega) hbase
  refine ⟨v', w', fun ty => ?_, ⟨L ++ [(⟨un, ki, pa, ct, ev, [x]⟩, .slice (some ⟨g0, 0, none⟩) 1 1)], by simp, ?_, fun p hp => ?_, ?_⟩, g2⟩
  · obtain ⟨v2, w2, hrun2, _⟩ := run_append_own (P := P) w base t ty 24 i _ 6 64 ht hi1 hz hsz hby rfl (by omega) v L.length (flatV pcell L) k2 ad 1 c [Value.int .i64 un, .int .i64 ki, .int .i64 pa, .int .i64 ct, .int .i64 ev, .slice (some ⟨g0, 0, none⟩) 1 1] rfl hnews (by simp [Value.oneCell']) (by simp only [maxLen]; omega) (by omega) hbase
    exact hrun
  · rw [flatV_append, flatV_one, List.length_append]
    exact g1
  · rcases List.mem_append.1 hp with hp | hp
    · exact ((h3 p hp).below hb0 (Nat.le_refl _)).kept g2 (pol_far k2 ((h3 p hp).below hb0 (Nat.le_refl _)))
    · simp only [List.mem_singleton] at hp
      subst hp
      exact hk.kept g2 (pol_far k2 hk)
  · refine List.pairwise_append.2 ⟨h4, List.pairwise_singleton _ _, fun a ha b hb => ?_⟩
    simp only [List.mem_singleton] at hb
    subst hb
    cases hv : a.2.ownBlock with
    | none => exact .inl hv
    | some g =>
      have := (h3 a ha).block g hv
      refine .inr ?_
      rw [hv]
      show some g ≠ some g0
      intro e
      injection e with e
      omega
theorem step_append_poll {ops : Array Oper} {o : Oper} {a : Act} {K : Act → World → Prop} {Q : Exit → Act → World → Prop} {E : Prop} (w0 w : World) (hgd : o.guard = none) (s x : Operand) (t : TypeId)
    (ho : o.op = .call { callee := .builtin .append, args := #[s, x], argTypes := #[t, t] }) (ht : P.underlying t = some (.slice 24)) (hi : (P.info? 24).map (fun i => (i.zero, i.size, i.bytes)) = some (some (.agg #[.int .i64 0, .int .i64 0, .int .i64 0, .int .i64 0, .int .i64 0, .slice none 0 0]), 6, 64))
    (base : Nat) (v : Value) (ps : List Pol) (hs : a.eval s = v) (hown : PlOwn w0 base v ps) (hb0 : Below w0.heap.size w0 w) (g0 : Nat) (hg0 : w0.heap.size ≤ g0) (hb1 : base ≤ g0) (un ki pa ct ev y : Int) (hy : (Lit.int .i64 y).wf = true) (hu : w.heap[g0]? = some (.cells (blk .i64 [y]) 3 (0, 0))) (ad : Addr) (c : Nat) (hx : a.eval x = .slice (some ad) 1 c)
    (hnews : ∀ j y, [Value.int .i64 un, .int .i64 ki, .int .i64 pa, .int .i64 ct, .int .i64 ev, .slice (some ⟨g0, 0, none⟩) 1 1][j]? = some y → w.cell? (ad.add j) = some y) (hb : ps.length ≤ 1000000) (hbase : base ≤ w.heap.size)
    (h : ∀ v' w', PlOwn w' base v' (ps ++ [⟨un, ki, pa, ct, ev, [y]⟩]) → w.grownBy w' v.ownBlock → K (a.put o.dst v') w') :
    if Region.wanted o (yielded ops a.tmps) = true then Oper.wp P o a w K Q else E := by
  have hw : Region.wanted o (yielded ops a.tmps) = true := by simp [Region.wanted, hgd]
  rw [if_pos hw]
  obtain ⟨v', w', hrun, g1, g2⟩ := run_append_poll (P := P) w0 w t ht hi base v ps hown hb0 g0 hg0 hb1 un ki pa ct ev y hy hu ad c hnews hb hbase
  unfold Oper.wp execOp
  simp only [ho, resolve, invoke, builtin, Sem.run_bind, Sem.run_pure, Result.andThen_ok, List.map_toArray, List.map_cons, List.map_nil, hs, hx, hrun]
  exact h v' w' g1 g2
end

/-- A cell of an owned row is written. -/
theorem ownsRow_set {w : World} {base size n : Nat} {e : TypeId} {g c : Nat} {m : Nat} {xs : List Value} (h : w.ownsRow base e size (.slice (some ⟨g, 0, none⟩) m c) n xs) (j : Nat) (x : Value) (hj : j < xs.length) : (w.setCell ⟨g, j, none⟩ x).ownsRow base e size (.slice (some ⟨g, 0, none⟩) m c) n (xs.set j x) := by
  refine ⟨by rw [List.length_set]; exact h.1, ?_⟩
  rcases h.2 with ⟨h0, _⟩ | ⟨g', cap, cur, hv, hb, hg, h1, h2, h3, h4⟩
  · cases h0
  · injection hv with ha hm hc
    injection ha with ha
    injection ha with ha
    subst ha hm hc
    refine .inr ⟨g, c, cur.setIfInBounds j x, rfl, hb, ?_, h1, h2, by simpa using h3, ?_⟩
    · simp [World.setCell, Array.getElem?_modify, hg]
    · rw [Array.toList_setIfInBounds, List.take_set, h4]
theorem flat_set (L : List (Pol × Value)) (z z' : Pol × Value) (j : Nat) (x : Value) (hj : j < 6) (h : pcell z' = (pcell z).set j x) : (flatV pcell (L ++ [z])).set (L.length * 6 + j) x = flatV pcell (L ++ [z']) := by
  rw [flatV_append, flatV_append, flatV_one, flatV_one, List.set_append_right _ _ (by rw [flatV_len pcell_len]; omega), flatV_len pcell_len, Nat.add_sub_cancel_left, h]
def Pol.wct (p : Pol) (c : Int) : Pol := ⟨p.un, p.ki, p.ad, c, p.ev, p.tg⟩
def Pol.wtg (p : Pol) (l : List Int) : Pol := ⟨p.un, p.ki, p.ad, p.ct, p.ev, l⟩
theorem map_snoc {α β : Type} {f : α → β} {L : List α} {qs : List β} {p : β} (h : L.map f = qs ++ [p]) : ∃ M z, L = M ++ [z] ∧ M.map f = qs ∧ f z = p := by
  rcases snoc_cases L with rfl | ⟨M, z, rfl⟩
  · simp at h
  · rw [List.map_append] at h
    have := List.append_inj' h rfl
    exact ⟨M, z, rfl, this.1, by simpa using this.2⟩
theorem KOwn.setP {w : World} {base base' : Nat} {v u : Value} {n : Nat} {xs : List Value} {ys : List Int} {g c m : Nat} (h : w.ownsRow base 24 6 (.slice (some ⟨g, 0, none⟩) m c) n xs) (k : KOwn .i64 3 w base' u ys) (j : Nat) (x : Value) : KOwn .i64 3 (w.setCell ⟨g, j, none⟩ x) base' u ys := by
  have hf := pol_far h k
  rcases k with k | ⟨g', n', cap, r, rfl, h2, h3, h4, h5⟩
  · exact .inl k
  · refine .inr ⟨g', n', cap, r, rfl, h2, h3, (Below.heap_setCell w ⟨g, j, none⟩ x g' ?_).trans h4, h5⟩
    rcases hf with hf | hf
    · cases hf
    · intro e
      exact hf (by show some g' = some g; rw [e])
/-- The count of the last poll is written. -/
theorem PlOwn.setct {w : World} {base g m c : Nat} {qs : List Pol} {p : Pol} (h : PlOwn w base (.slice (some ⟨g, 0, none⟩) m c) (qs ++ [p])) (ct : Int) : PlOwn (w.setCell ⟨g, qs.length * 6 + 3, none⟩ (.int .i64 ct)) base (.slice (some ⟨g, 0, none⟩) m c) (qs ++ [p.wct ct]) := by
  obtain ⟨L, h1, h2, h3, h4⟩ := h
  obtain ⟨M, z, rfl, hM, hz⟩ := map_snoc h1
  have hl : M.length = qs.length := by rw [← hM, List.length_map]
  refine ⟨M ++ [(p.wct ct, z.2)], by simp [hM], ?_, fun q hq => ?_, ?_⟩
  · have := ownsRow_set h2 (qs.length * 6 + 3) (.int .i64 ct) (by rw [flatV_len pcell_len, List.length_append]; simp; omega)
    rw [← hl, flat_set M z (p.wct ct, z.2) 3 (.int .i64 ct) (by omega) (by rw [← hz]; rfl)] at this
    rw [← hl]
    rw [List.length_append] at this ⊢
    exact this
  · rcases List.mem_append.1 hq with hq | hq
    · exact KOwn.setP (v := .slice none 0 0) h2 (h3 q (List.mem_append_left _ hq)) _ _
    · simp only [List.mem_singleton] at hq
      subst hq
      have := h3 z (List.mem_append_right _ (by simp))
      rw [hz] at this
      exact KOwn.setP (v := .slice none 0 0) h2 this _ _
  · obtain ⟨a1, a2, a3⟩ := List.pairwise_append.1 h4
    refine List.pairwise_append.2 ⟨a1, List.pairwise_singleton _ _, fun a ha b hb => ?_⟩
    simp only [List.mem_singleton] at hb
    subst hb
    exact a3 a ha z (by simp)
theorem ownsRow_cell {w : World} {base n : Nat} {g m c : Nat} {L : List (Pol × Value)} (h : w.ownsRow base 24 6 (.slice (some ⟨g, 0, none⟩) m c) n (flatV pcell L)) {i j : Nat} (hi : i < L.length) (hj : j < 6) : w.cell? ⟨g, i * 6 + j, none⟩ = (pcell L[i])[j]? := by
  rcases h.2 with ⟨h0, _⟩ | ⟨g', cap, cur, hv, hb, hg, h5, h6, h7, h8⟩
  · cases h0
  · injection hv with ha hm hc
    injection ha with ha
    injection ha with ha
    subst ha hm hc
    have hl := flatV_len pcell_len L
    have hlen : L.length * 6 = m * 6 := by rw [← hl]; exact h.1
    rw [cell_of_row w g _ cur _ _ hg, ← flatV_get pcell_len L i hi j hj, ← h8, List.getElem?_take_of_lt (by omega), Array.getElem?_toList]
/-- The last poll has a tag more: its Tags were appended to, and are stored. -/
theorem PlOwn.settg {w w' : World} {base g m c : Nat} {qs : List Pol} {p : Pol} {u u' : Value} {tg' : List Int} (h : PlOwn w base (.slice (some ⟨g, 0, none⟩) m c) (qs ++ [p])) (hc : w.cell? ⟨g, qs.length * 6 + 5, none⟩ = some u)
    (hk' : KOwn .i64 3 w' base u' tg') (hgr : w.grownBy w' u.ownBlock) (hnew : u'.ownBlock = some w.heap.size ∨ (u'.ownBlock = u.ownBlock ∧ u.ownBlock ≠ none)) :
    PlOwn (w'.setCell ⟨g, qs.length * 6 + 5, none⟩ u') base (.slice (some ⟨g, 0, none⟩) m c) (qs ++ [p.wtg tg']) := by
  obtain ⟨L, h1, h2, h3, h4⟩ := h
  obtain ⟨M, z, rfl, hM, hz⟩ := map_snoc h1
  have hl : M.length = qs.length := by rw [← hM, List.length_map]
  obtain ⟨a1, a2, a3⟩ := List.pairwise_append.1 h4
  have hzu : z.2 = u := by
    have := ownsRow_cell h2 (i := M.length) (j := 5) (by simp) (by omega)
    have e : (M ++ [z])[M.length]'(by simp) = z := by simp
    rw [e, hl, hc] at this
    simpa [pcell] using this.symm
  have hzk := h3 z (List.mem_append_right _ (by simp))
  rw [hzu] at hzk
  have hpf := pol_far h2 hzk
  have hvf : (Value.slice (some ⟨g, 0, none⟩) m c).ownBlock = none ∨ (Value.slice (some ⟨g, 0, none⟩) m c).ownBlock ≠ u.ownBlock := by
    right
    rcases hpf with e | e
    · rw [e]; simp [Value.ownBlock]
    · exact fun e' => e e'.symm
  have k2 := h2.kept hgr hvf
  refine ⟨M ++ [(p.wtg tg', u')], by simp [hM], ?_, fun q hq => ?_, ?_⟩
  · have := ownsRow_set k2 (qs.length * 6 + 5) u' (by rw [flatV_len pcell_len, List.length_append]; simp; omega)
    rw [← hl, flat_set M z (p.wtg tg', u') 5 u' (by omega) (by rw [← hz]; rfl)] at this
    rw [← hl]
    rw [List.length_append] at this ⊢
    exact this
  · rcases List.mem_append.1 hq with hq | hq
    · have hfq := a3 q hq z (by simp)
      rw [hzu] at hfq
      exact KOwn.setP (v := .slice none 0 0) k2 ((h3 q (List.mem_append_left _ hq)).kept hgr hfq) _ _
    · simp only [List.mem_singleton] at hq
      subst hq
      exact KOwn.setP (v := .slice none 0 0) k2 hk' _ _
  · refine List.pairwise_append.2 ⟨a1, List.pairwise_singleton _ _, fun a ha b hb => ?_⟩
    simp only [List.mem_singleton] at hb
    subst hb
    have hfq := a3 a ha z (by simp)
    rw [hzu] at hfq
    show FarV a.2 u'
    rcases hnew with e | ⟨e, _⟩
    · unfold FarV
      cases hv : a.2.ownBlock with
      | none => exact .inl rfl
      | some q =>
        have := (h3 a (List.mem_append_left _ ha)).block q hv
        refine .inr ?_
        rw [e]
        intro e'
        injection e' with e'
        omega
    · unfold FarV at hfq ⊢
      rw [e]; exact hfq
end Go.Proofs.Ytcmbdhmhkfhjfaa
namespace Go.Proofs.Ytcmbdhmhkfhjfaa
open Go.RowKit
set_option linter.unusedVariables false
set_option maxRecDepth 100000
attribute [local go_sem ↓] ldTag_fold stTag_fold bxTag_fold
attribute [local go_sem] bxTag_run

/-- A call returns polls of its own, and a number. -/
def GivesP (w : World) (ps : List Pol) (E : Int) (e : Ending) (w' : World) : Prop := ∃ v, e = .returned (.tuple #[v, .int .i64 E]) ∧ PlOwn w' w.heap.size v ps ∧ Below w.heap.size w w'
/-- The cells of a new box, one by one. -/
theorem box_news (w : World) (vs : List Value) (t : TypeId) (g : Nat) (hg : w.heap.size = g) : ∀ j y, vs[j]? = some y → (w.alloc (.cells vs.toArray t)).cell? ((⟨g, 0, none⟩ : Addr).add j) = some y := by
  intro j y hy
  subst hg
  rw [Go.WideShapes.add_plain, Nat.zero_add, World.cell?_alloc_at _ _ _ _ rfl]
  simpa using hy
theorem addP_new2 {ps : List Pol} {t : Tg} {k : Nat} (h : ps = [] ∨ ∃ qs p, ps = qs ++ [p] ∧ joinB p t = false) : addP ps t k = ps ++ [newP t k] := by
  rcases h with rfl | ⟨qs, p, rfl, h⟩
  · rfl
  · rw [addP_new h]; simp
/-- What a call has made below a world, and a tag's box behind it. -/
structure TagH (w2 w9 : World) (g : Nat) (t : Tg) : Prop where
  bel : Below w2.heap.size w2 w9
  bx : w9.heap[g]? = some (.cells (tgC t).toArray 49 (0, 0))
theorem TagH.below {w2 w9 w' : World} {g : Nat} {t : Tg} (h : TagH w2 w9 g t) (hb : Below w9.heap.size w9 w') : TagH w2 w' g t := ⟨h.bel.trans (hb.mono h.bel.size), keepB hb h.bx⟩
theorem TagH.drew {w2 w9 : World} {g : Nat} {t : Tg} (h : TagH w2 w9 g t) : TagH w2 w9.drew g t := h.below ⟨rfl, rfl, rfl, Nat.le_refl _, fun _ _ => rfl⟩
theorem TagH.drewN {w2 w9 : World} {g : Nat} {t : Tg} (h : TagH w2 w9 g t) (n : Nat) : TagH w2 (w9.drewN n) g t := h.below (bel_drewN w9 n)
theorem TagH.alloc {w2 w9 : World} {g : Nat} {t : Tg} (h : TagH w2 w9 g t) (o : Obj) : TagH w2 (w9.alloc o) g t := h.below (bel_alloc w9 o)
theorem TagH.grown {w2 w9 w' : World} {g : Nat} {t : Tg} (h : TagH w2 w9 g t) {v : Option Nat} (hg : w9.grownBy w' v) (hv : ∀ q, v = some q → w2.heap.size ≤ q ∧ q ≠ g) : TagH w2 w' g t :=
  ⟨h.bel.grown hg h.bel.size (fun q e => (hv q e).1), (hg.block g (block_lt h.bx) (fun e => (hv g e.symm).2 rfl)).trans h.bx⟩
/-- What a call leaves that comes behind a new block. -/
theorem way2 {w9 w5 : World} {o : Obj} (b5 : Below (w9.alloc o).drew.heap.size (w9.alloc o).drew w5) : Below w9.heap.size w9 w5 ∧ w9.heap.size < w5.heap.size ∧ w5.heap[w9.heap.size]? = some o := by
  have hz : (w9.alloc o).drew.heap.size = w9.heap.size + 1 := World.size_alloc w9 o
  have h1 : Below w9.heap.size w9 (w9.alloc o).drew := below_drew (bel_alloc w9 o)
  have h2 := b5.size
  refine ⟨h1.trans (b5.mono (by omega)), by omega, (b5.block _ (by omega)).trans ?_⟩
  exact heap_alloc_new w9 o
theorem wf_small {x : Int} (h : 0 ≤ x) (h2 : x < 1000000000) : (Lit.int .i64 x).wf = true := by
  simp [Lit.wf, IntKind.min, IntKind.max, IntKind.signed, IntKind.bits]; omega

/-- The block of a list of polls: its cells may be written; an append to a list of numbers leaves it. -/
theorem PlOwn.thaw {w : World} {base g m c : Nat} {ps : List Pol} (h : PlOwn w base (.slice (some ⟨g, 0, none⟩) m c) ps) (i : Nat) : w.frozen? ⟨g, i, none⟩ = false := by
  obtain ⟨L, rfl, h2, h3, h4⟩ := h
  rcases h2.2 with ⟨h0, _⟩ | ⟨g', cap, cur, hv, hb, hg, _⟩
  · cases h0
  · injection hv with ha hm hc
    injection ha with ha
    injection ha with ha
    subst ha
    exact block_frozen w g i _ _ hg
theorem PlOwn.stays {w w' : World} {base base' g m c : Nat} {ps : List Pol} {u : Value} {ys : List Int} (h : PlOwn w base (.slice (some ⟨g, 0, none⟩) m c) ps) (k : KOwn .i64 3 w base' u ys) (hg : w.grownBy w' u.ownBlock) : w'.heap[g]? = w.heap[g]? := by
  have hb := (h.block g rfl).2
  obtain ⟨L, rfl, h2, h3, h4⟩ := h
  refine hg.block g hb fun e => ?_
  rcases pol_far h2 k with e' | e'
  · rw [e'] at e; cases e
  · exact e' e.symm
theorem PlOwn.last {w : World} {base g m c z : Nat} {qs : List Pol} {p : Pol} (h : PlOwn w base (.slice (some ⟨g, 0, none⟩) m c) (qs ++ [p])) (hz : qs.length = z) :
    ∃ A m' cc, g < w.heap.size ∧ w.cell? ⟨g, z * 6 + 3, none⟩ = some (.int .i64 p.ct) ∧ w.cell? ⟨g, z * 6 + 5, none⟩ = some (.slice A m' cc) ∧ KOwn .i64 3 w base (.slice A m' cc) p.tg := by
  subst hz
  obtain ⟨g', cg, At, mt, ctt, hv9, hgb, hgl, hgc, ⟨e0, e1, e2, e3, e4, e5⟩, hkt⟩ := h.at_ (i := qs.length) (by simp)
  injection hv9 with i1 i2 i3
  injection i1 with i1
  injection i1 with i1
  subst i1
  have hpi : (qs ++ [p])[qs.length]'(by simp) = p := by simp
  rw [hpi] at e3 hkt
  exact ⟨At, mt, ctt, hgl, e3, e5, hkt⟩
theorem grown_undrew {w w' : World} {r : Option Nat} (h : w.drew.grownBy w' r) : w.grownBy w' r := ⟨h.os, h.tape, h.output, h.size, h.block⟩
/-- The last poll has joined a tag: its count was written, its Tags appended to, behind a new box. -/
theorem PlOwn.joined {ws w7 : World} {base g m c z : Nat} {qs : List Pol} {p : Pol} {O : Obj} {u u' : Value} {tg' : List Int} (h : PlOwn ws base (.slice (some ⟨g, 0, none⟩) m c) (qs ++ [p])) (hz : qs.length = z) (hc : ws.cell? ⟨g, z * 6 + 5, none⟩ = some u)
    (hk7 : KOwn .i64 3 w7 base u' tg') (hgr : (ws.alloc O).grownBy w7 u.ownBlock) (hnew : u'.ownBlock = some (ws.alloc O).heap.size ∨ (u'.ownBlock = u.ownBlock ∧ u.ownBlock ≠ none)) :
    PlOwn (w7.setCell ⟨g, z * 6 + 5, none⟩ u') base (.slice (some ⟨g, 0, none⟩) m c) (qs ++ [p.wtg tg']) := by
  subst hz
  exact (h.alloc O).settg (cellB (bel_alloc ws O) (h.block g rfl).2 hc) hk7 hgr hnew
end Go.Proofs.Ytcmbdhmhkfhjfaa
namespace Go.Proofs.Ytcmbdhmhkfhjfaa
open Go.RowKit
set_option linter.unusedVariables false
set_option maxRecDepth 100000

section
variable {P : Program}
theorem run_append_pol0 (w : World) (t : TypeId) (ht : P.underlying t = some (.slice 24)) (hi : (P.info? 24).map (fun i => (i.zero, i.size, i.bytes)) = some (some (.agg #[.int .i64 0, .int .i64 0, .int .i64 0, .int .i64 0, .int .i64 0, .slice none 0 0]), 6, 64))
    (base : Nat) (v : Value) (ps : List Pol) (hown : PlOwn w base v ps) (un ki pa ct ev : Int) (ad : Addr) (c : Nat)
    (hnews : ∀ j y, [Value.int .i64 un, .int .i64 ki, .int .i64 pa, .int .i64 ct, .int .i64 ev, .slice none 0 0][j]? = some y → w.cell? (ad.add j) = some y) (hb : ps.length ≤ 1000000) (hbase : base ≤ w.heap.size) :
    ∃ v' w', (∀ ty, (Builtin.append_ #[t, t] ty #[v, .slice (some ad) 1 c]).run P w = .ok v' w') ∧ PlOwn w' base v' (ps ++ [⟨un, ki, pa, ct, ev, []⟩]) ∧ w.grownBy w' v.ownBlock := by
  obtain ⟨i, hi1, hz, hsz, hby⟩ := info_parts hi
  obtain ⟨L, rfl, k2, h3, h4⟩ := hown
  rw [List.length_map] at hb
  obtain ⟨v', w', hrun, g1, g2, _⟩ := run_append_own (P := P) w base t t 24 i _ 6 64 ht hi1 hz hsz hby rfl (by omega) v L.length (flatV pcell L) k2 ad 1 c [Value.int .i64 un, .int .i64 ki, .int .i64 pa, .int .i64 ct, .int .i64 ev, .slice none 0 0] rfl hnews (by simp [Value.oneCell']) (by simp only [maxLen]; omega) (by omega) hbase
  refine ⟨v', w', fun ty => ?_, ⟨L ++ [(⟨un, ki, pa, ct, ev, []⟩, .slice none 0 0)], by simp, ?_, fun p hp => ?_, ?_⟩, g2⟩
  · exact hrun
  · rw [flatV_append, flatV_one, List.length_append]
    exact g1
  · rcases List.mem_append.1 hp with hp | hp
    · exact (h3 p hp).kept g2 (pol_far k2 (h3 p hp))
    · simp only [List.mem_singleton] at hp
      subst hp
      exact KOwn.nil _ _ _ _
  · refine List.pairwise_append.2 ⟨h4, List.pairwise_singleton _ _, fun a ha b hb => ?_⟩
    simp only [List.mem_singleton] at hb
    subst hb
    exact FarV.symm (.inl rfl)
theorem wpList_append_pol0 {ops : Array Oper} {rest : List Oper} {o : Oper} {a : Act} {Q : Exit → Act → World → Prop} (w : World) (hgd : o.guard = none) (s x : Operand) (t : TypeId)
    (ho : o.op = .call { callee := .builtin .append, args := #[s, x], argTypes := #[t, t] }) (ht : P.underlying t = some (.slice 24)) (hi : (P.info? 24).map (fun i => (i.zero, i.size, i.bytes)) = some (some (.agg #[.int .i64 0, .int .i64 0, .int .i64 0, .int .i64 0, .int .i64 0, .slice none 0 0]), 6, 64))
    (base : Nat) (v : Value) (ps : List Pol) (hs : a.eval s = v) (hown : PlOwn w base v ps) (un ki pa ct ev : Int) (ad : Addr) (c : Nat) (hx : a.eval x = .slice (some ad) 1 c)
    (hnews : ∀ j y, [Value.int .i64 un, .int .i64 ki, .int .i64 pa, .int .i64 ct, .int .i64 ev, .slice none 0 0][j]? = some y → w.cell? (ad.add j) = some y) (hb : ps.length ≤ 1000000) (hbase : base ≤ w.heap.size)
    (h : ∀ v' w', PlOwn w' base v' (ps ++ [⟨un, ki, pa, ct, ev, []⟩]) → w.grownBy w' v.ownBlock → wpList P ops Q rest (a.put o.dst v') w') : wpList P ops Q (o :: rest) a w := by
  obtain ⟨v', w', hrun, g1, g2⟩ := run_append_pol0 (P := P) w t ht hi base v ps hown un ki pa ct ev ad c hnews hb hbase
  exact wpList_append_run w hgd s x t ho v (.slice (some ad) 1 c) v' w' hs hx hrun (h v' w' g1 g2)
end
/-- What a tag makes of the polls: the last one, or a new one with no tags yet, is given it. -/
theorem addP_last {ps qs : List Pol} {p : Pol} {t : Tg} {k : Nat} (h : (ps = qs ++ [p] ∧ joinB p t = true) ∨ (qs = ps ∧ p = ⟨t.un, t.ki, t.ad, 0, t.ev, []⟩ ∧ (ps = [] ∨ ∃ us u, ps = us ++ [u] ∧ joinB u t = false))) : qs ++ [(p.wct (cntJ p t)).wtg (p.tg ++ [(k : Int)])] = addP ps t k := by
  rcases h with ⟨rfl, hj⟩ | ⟨rfl, rfl, hj⟩
  · rw [addP_join hj]; rfl
  · rw [addP_new2 hj]
    have hw := widT_le t
    have hc : cntJ ⟨t.un, t.ki, t.ad, 0, t.ev, []⟩ t = widT t := by
      show (if t.ad + widT t - t.ad < 0 then 0 else t.ad + widT t - t.ad) = widT t
      rw [if_neg (by omega)]; omega
    rw [hc]; rfl
end Go.Proofs.Ytcmbdhmhkfhjfaa
namespace Go.Proofs.Ytcmbdhmhkfhjfaa
open Go.RowKit
set_option linter.unusedVariables false
set_option maxRecDepth 100000
attribute [local go_sem ↓] ldTag_fold stTag_fold bxTag_fold
attribute [local go_sem] bxTag_run

set_option maxHeartbeats 8000000 in
theorem Plan10_any (A : Option Addr) (n c : Nat) (l : List Tg) (w : World) (hr : VRow w w.heap.size A (flatV tgC l)) (hn : l.length = n) (hnb : n ≤ 4611686018427387904) (hok : ∀ t ∈ l, Tg.Ok t) :
    Calls Try.prog 11 #[.slice A n c] w (GivesP w (planL l) (chkAll l).1) := by
  obtain ⟨E1, hE1⟩ : ∃ E, (chkAll l).1 = E := ⟨_, rfl⟩
  have HE1 := Lib.hid hE1
  have HCA : Hid (Calls Try.prog 12 #[.slice A n c] w fun e w' => e = .returned (.tuple #[.int .i64 E1, .int .i64 (chkAll l).2]) ∧ Below w.heap.size w w') := Lib.hid (by
    have h := CheckAll9_any A n c l w hr hn hnb hok
    rw [hE1] at h
    exact h)
  have HVR := Lib.hid hr
  have hn' := Lib.hid hn
  rw [hE1]
  by_cases h1 : E1 = 0
  case neg =>
    obtain ⟨f1, f2⟩ := fold_ne h1
    have HF : Hid (∀ w', Below w.heap.size w w' → GivesP w (planL l) E1 (.returned (.tuple #[.slice none 0 0, .int .i64 E1])) w') := Lib.hid (fun w' hb => by
      rw [plan_bad (by rw [hE1]; exact h1)]
      exact ⟨_, rfl, PlOwn.nil _ _, hb⟩)
    clear h1 hr hE1 hn
    go_enter Try.func11, Try.ntmps11
    go_wp2_with fail
    refine HCA.out.mono ?_
    rintro e w1 ⟨rfl, b1⟩
    go_wp2
    (try simp only [Exit.inBlock, Exit.then])
    refine bodyPost_ret (v := .tuple #[.slice none 0 0, .int .i64 E1]) (by simp [results, Try.results11, go_sem]) rfl ?_
    exact HF.out _ b1
  subst h1
  have HT := Lib.hid (tag_tab hE1)
  have h64 : n ≤ 64 := by have := HT.out.1; omega
  have HPL : Hid (planL l = pollsO l (ordT l)) := Lib.hid (by unfold planL; rw [if_pos hE1])
  have HOL : Hid ((intL (ordT l)).length = n) := Lib.hid (by rw [intL_len, ordT_len]; exact hn)
  have HOW : Hid (∀ x ∈ intL (ordT l), (Lit.int .i64 x).wf = true) := Lib.hid (fun x hx => by
    obtain ⟨k, hk, rfl⟩ := List.mem_map.1 hx
    have := ordT_lt hk
    exact wf_small (by omega) (by omega))
  clear hE1 hr hn
  go_enter Try.func11, Try.ntmps11
  go_wp2_with fail
  refine HCA.out.mono ?_
  rintro e w1 ⟨rfl, b1⟩
  clear HCA
  go_wp2_with fail
  refine (order_any A n c l w1 ((HVR.out.below b1).more b1.size) hn'.out h64).mono ?_
  rintro e w2 ⟨A2, c2, rfl, row2, b2⟩
  have ROW := Lib.hid row2
  have BEL := Lib.hid (b1.trans (b2.mono b1.size))
  clear row2 b1 b2
  go_wp2
  go_loopw [6, 23] (fun v i wr => ∃ (k : Nat) (ps : List Pol), k ≤ n ∧ i = .int .i64 k ∧ Hid (ps = pollsO l ((ordT l).take k)) ∧ Hid (ps.length ≤ k) ∧ (∃ A' c', v = .slice A' ps.length c') ∧ Hid (PlOwn wr w2.heap.size v ps) ∧ Hid (Below w2.heap.size w2 wr)) (fun _ i _ => n - (intOf i).toNat)
  case atStart => exact ⟨0, [], by omega, rfl, Lib.hid (by rw [List.take_zero]; rfl), Lib.hid (Nat.le_refl _), ⟨none, 0, rfl⟩, Lib.hid (PlOwn.nil _ _), Lib.hid (Below.refl _ _)⟩
  case round =>
    obtain ⟨k, ps, hk, rfl, hps, hpl, ⟨Av, cv, rfl⟩, hown, hbel⟩ := hrel
    by_cases hlt : k < n
    · have hko : k < (ordT l).length := by rw [ordT_len]; have := hn'.out; omega
      obtain ⟨q, hq⟩ : ∃ q, (ordT l)[k] = q := ⟨_, rfl⟩
      have hql : q < l.length := by rw [← hq]; exact ordT_lt (List.getElem_mem hko)
      have HTK : Hid ((ordT l).take (k + 1) = (ordT l).take k ++ [q]) := Lib.hid (by rw [List.take_succ_eq_append_getElem hko, hq])
      have hnq : nth (intL (ordT l)) k = (q : Int) := by
        rw [nth_eq _ _ (by rw [HOL.out]; exact hlt)]
        simp [intL, hq]
      obtain ⟨b, o, rfl, hb1, hc1⟩ := (ROW.out.below hbel.out).at_ (i := k) (by rw [HOL.out]; exact hlt)
      rw [hnq] at hc1
      have HCQ : Hid (∀ w9 : World, Below w2.heap.size w2 w9 → w9.cell? ⟨b, o + k, none⟩ = some (.int .i64 (q : Int))) := Lib.hid (fun w9 hb => by
        obtain ⟨b9, o9, e9, _, h9⟩ := (ROW.out.below hb).at_ (i := k) (by rw [HOL.out]; exact hlt)
        injection e9 with e9
        injection e9 with e9 e9'
        subst e9 e9'
        rw [h9, hnq])
      have HNX : Hid (∀ r, r = addP ps (tgAt l q) q → r = pollsO l ((ordT l).take (k + 1))) := Lib.hid (fun r hr => by rw [hr, HTK.out, pollsO_snoc, hps.out])
      have hqn : (q : Int) < n := by have := hn'.out; omega
      have hq0 : (0 : Int) ≤ q := by omega
      have hqw := wf_small hq0 (by have := hn'.out; omega)
      have hlt' : (k : Int) < (n : Int) := by omega
      have hk0 : (0 : Int) ≤ k := by omega
      obtain ⟨bl, ol, hAl, hbl, hld0⟩ := (HVR.out.below (BEL.out.trans (hbel.out.mono BEL.out.size))).five hql
      subst hAl
      have HCT : Hid (chkT (tgAt l q) = 0) := Lib.hid (tag_right HE1.out hql)
      have hta : 0 ≤ (tgAt l q).ad ∧ (tgAt l q).ad ≤ 65536 := by
        have h := (chkT_zero HCT.out).2.2.2.1
        have := widT_le (tgAt l q)
        omega
      have HGOOD : Hid (∀ p ∈ ps, PGood l p) := Lib.hid (by
        rw [hps.out]
        exact (pinv_all (fun k hk => tag_right HE1.out hk) _ (fun k hk => ordT_lt (List.mem_of_mem_take hk)) ((ordT_sorted l).sublist (List.take_sublist _ _))).each)
      generalize tgAt l q = t at *
      have hst := made_tag wr t
      have hx := heap_alloc_new wr (.cells (tgC t).toArray 49)
      have belA := Lib.hid (hbel.out.alloc hbel.out.size (.cells (tgC t).toArray 49))
      have ownA := Lib.hid (hown.out.alloc (.cells (tgC t).toArray 49))
      have HVB : Hid (∀ q, (Value.slice Av ps.length cv).ownBlock = some q → w2.heap.size ≤ q ∧ q ≠ wr.heap.size) := Lib.hid (fun q e => by have := hown.out.block q e; omega)
      clear hnq HTK hq
      go_wp2
      generalize hW : wr.alloc (.cells (tgC t).toArray 49) = wa at *
      go_cut [44] from 24 to 80 (fun s wx => ∃ nb : Bool, s = .bool nb ∧ Hid (Below wa.heap.size wa wx) ∧ Hid ((nb = true ∧ (ps = [] ∨ ∃ us u, ps = us ++ [u] ∧ joinB u t = false)) ∨ (nb = false ∧ ∃ us u, ps = us ++ [u] ∧ joinB u t = true)))
      case first =>
        rcases snoc_cases ps with rfl | ⟨us, u, rfl⟩
        · have h00 : ((([] : List Pol).length : Int) == 0) = true := by simp
          go_quiet (fail)
          (try go_wp2)
          go_meet
          exact ⟨true, rfl, Lib.hid (by first | exact below_drewN (Below.refl _ _) nq | exact Below.refl _ _), Lib.hid (.inl ⟨rfl, by simp⟩)⟩
        · obtain ⟨g, cg, At, mt, ctt, hv9, hgb, hgl, hgc, ⟨e0, e1, e2, e3, e4, e5⟩, hkt⟩ := ownA.out.at_ (i := us.length) (by simp)
          injection hv9 with i1 i2 i3
          subst i1 i3
          have hpi : (us ++ [u])[us.length]'(by simp) = u := by simp
          rw [hpi] at e0 e1 e2 e3 e4 hkt
          clear hpi
          have hpg := HGOOD.out u (by simp)
          have hpa := hpg.ad
          have hpc := hpg.ct
          have hlen : (us ++ [u]).length = us.length + 1 := by simp
          have hqk : us.length + 1 ≤ k := by have := hpl.out; omega
          have htl : Hid (u.tg.length ≤ 1000000) := Lib.hid (by
            have h1 := (pinv_all (fun k hk => tag_right HE1.out hk) ((ordT l).take k) (fun k hk => ordT_lt (List.mem_of_mem_take hk)) ((ordT_sorted l).sublist (List.take_sublist _ _))).flat
            rw [← hps.out, List.flatMap_append] at h1
            have h2 := congrArg List.length h1
            rw [List.length_append, List.length_map, List.length_take] at h2
            simp at h2
            omega)
          have HPK : Hid ((us ++ [u]).length ≤ 1000000) := Lib.hid (by rw [hlen]; omega)
          generalize hm9 : (us ++ [u]).length = m9 at *
          have hm9' := Lib.hid hm9
          generalize hz : us.length = z at *
          have hz' := Lib.hid hz
          have hwl : IntKind.i64.wrap ((m9 : Int) - 1) = (z : Int) := by rw [IntKind.wrap_i64]; omega
          have hz0 : (0 : Int) ≤ z := by omega
          have hzm : (z : Int) < m9 := by omega
          have hzw := wf_small hz0 (by omega)
          have h00 : ((m9 : Int) == 0) = false := beq_false_of_ne (by omega)
          have hmz : Hid (m9 = z + 1) := Lib.hid (by omega)
          clear i2 hz hpg hlen hm9
          obtain ⟨jb, hjb⟩ : ∃ jb, joinB u t = jb := ⟨_, rfl⟩
          have HJB := Lib.hid hjb
          have HJ : Hid (∀ W : World, Calls Try.prog 25 #[tgV t, .agg #[.int .i64 u.un, .int .i64 u.ki, .int .i64 u.ad, .int .i64 u.ct, .int .i64 u.ev, .slice At mt ctt]] W fun e w' => e = .returned (.bool jb) ∧ Below W.heap.size W w') := Lib.hid fun W => by
            have h := joins_any u.un u.ki u.ad u.ct u.ev At mt ctt u.tg t W (by omega) (by omega) hta
            rw [← hjb]
            exact h
          clear hjb
          have HUB : Hid ((0 ≤ u.ad ∧ u.ad ≤ 65536) ∧ (0 ≤ u.ct ∧ u.ct ≤ 65536) ∧ u.tg.length ≤ 1000000) := Lib.hid ⟨by omega, by omega, htl.out⟩
          clear hpa hpc
          have HK : Hid (∀ w9 : World, Below wa.heap.size wa w9 → (Below wa.heap.size wa w9 ∧ (ldTag (.pointer (some ⟨wr.heap.size, 0, none⟩))).run Try.prog w9 = .ok (tgV t) w9 ∧ (w9.cell? ⟨g, z * 6, none⟩ = some (.int .i64 u.un) ∧ w9.cell? ⟨g, z * 6 + 1, none⟩ = some (.int .i64 u.ki) ∧ w9.cell? ⟨g, z * 6 + 2, none⟩ = some (.int .i64 u.ad) ∧ w9.cell? ⟨g, z * 6 + 3, none⟩ = some (.int .i64 u.ct) ∧ w9.cell? ⟨g, z * 6 + 4, none⟩ = some (.int .i64 u.ev) ∧ w9.cell? ⟨g, z * 6 + 5, none⟩ = some (.slice At mt ctt)))) := Lib.hid fun w9 hw => ⟨hw, tgBox_ld (keepB hw hx), (cellB hw hgl e0), (cellB hw hgl e1), (cellB hw hgl e2), (cellB hw hgl e3), (cellB hw hgl e4), (cellB hw hgl e5)⟩
          have belh : ∀ w9 : World, (Below wa.heap.size wa w9 ∧ (ldTag (.pointer (some ⟨wr.heap.size, 0, none⟩))).run Try.prog w9 = .ok (tgV t) w9 ∧ (w9.cell? ⟨g, z * 6, none⟩ = some (.int .i64 u.un) ∧ w9.cell? ⟨g, z * 6 + 1, none⟩ = some (.int .i64 u.ki) ∧ w9.cell? ⟨g, z * 6 + 2, none⟩ = some (.int .i64 u.ad) ∧ w9.cell? ⟨g, z * 6 + 3, none⟩ = some (.int .i64 u.ct) ∧ w9.cell? ⟨g, z * 6 + 4, none⟩ = some (.int .i64 u.ev) ∧ w9.cell? ⟨g, z * 6 + 5, none⟩ = some (.slice At mt ctt))) → Below wa.heap.size wa w9 := fun w9 h => h.1
          go_region_held3 (fun w9 => Below wa.heap.size wa w9 ∧ (ldTag (.pointer (some ⟨wr.heap.size, 0, none⟩))).run Try.prog w9 = .ok (tgV t) w9 ∧ (w9.cell? ⟨g, z * 6, none⟩ = some (.int .i64 u.un) ∧ w9.cell? ⟨g, z * 6 + 1, none⟩ = some (.int .i64 u.ki) ∧ w9.cell? ⟨g, z * 6 + 2, none⟩ = some (.int .i64 u.ad) ∧ w9.cell? ⟨g, z * 6 + 3, none⟩ = some (.int .i64 u.ct) ∧ w9.cell? ⟨g, z * 6 + 4, none⟩ = some (.int .i64 u.ev) ∧ w9.cell? ⟨g, z * 6 + 5, none⟩ = some (.slice At mt ctt)))
            ((refine HK.out _ ?_
              repeat' (first
                | with_reducible exact Below.refl _ _
                | with_reducible exact bel5
                | with_reducible exact belh _ (by assumption)
                | with_reducible apply below_drew
                | with_reducible apply below_drewN
                | fail)))
            (first
              | (go_at_call 25; have bh := belh _ (by assumption); refine (HJ.out _).mono ?_; rintro e w5 ⟨rfl, b5⟩; have bel5 : Below wa.heap.size wa w5 := Below.trans bh (b5.mono bh.size))
              | fail)
          have HBL := Lib.hid bel5
          clear HK belh hkt b5 e0 e1 e2 e3 e4 e5 HJ hst bel5
          cases jb
          case true =>
            (try go_wp2)
            go_meet
            exact ⟨false, rfl, HBL, Lib.hid (.inr ⟨rfl, us, u, rfl, HJB.out⟩)⟩
          case false =>
            (try go_wp2)
            go_meet
            exact ⟨true, rfl, HBL, Lib.hid (.inl ⟨rfl, .inr ⟨us, u, rfl, HJB.out⟩⟩)⟩
      case rest =>
      obtain ⟨nb, rfl, hbl1, hnb⟩ := hcut
      have own9 := Lib.hid (ownA.out.below hbl1.out (Nat.le_refl _))
      have th9 : Hid (TagH w2 wc wr.heap.size t) := Lib.hid (TagH.below ⟨belA.out, hx⟩ hbl1.out)
      have HGU : Hid (∀ us u, ps = us ++ [u] → (0 ≤ u.ad ∧ u.ad ≤ 65536) ∧ (0 ≤ u.ct ∧ u.ct ≤ 65536) ∧ u.tg.length ≤ 1000000) := Lib.hid (fun us u e => by
        have hpg := HGOOD.out u (by rw [e]; simp)
        have hpa := hpg.ad
        have hpc := hpg.ct
        refine ⟨by omega, by omega, ?_⟩
        have h1 := (pinv_all (fun k hk => tag_right HE1.out hk) ((ordT l).take k) (fun k hk => ordT_lt (List.mem_of_mem_take hk)) ((ordT_sorted l).sublist (List.take_sublist _ _))).flat
        rw [← hps.out, e, List.flatMap_append] at h1
        have h2 := congrArg List.length h1
        rw [List.length_append, List.length_map, List.length_take] at h2
        simp at h2
        omega)
      clear hst hx hbl1
      go_upto_if 44 with fail
      go_cut [6] from 45 to 80 (fun s wx => ∃ (us : List Pol) (p : Pol) (As : Option Addr) (cs z : Nat), s = .slice As (z + 1) cs ∧ Hid (us.length = z) ∧ Hid (z ≤ k) ∧ Hid (PlOwn wx w2.heap.size (.slice As (z + 1) cs) (us ++ [p])) ∧ Hid (TagH w2 wx wr.heap.size t) ∧ Hid (us ++ [(p.wct (cntJ p t)).wtg (p.tg ++ [(q : Int)])] = addP ps t q) ∧ Hid ((0 ≤ p.ad ∧ p.ad ≤ 65536) ∧ (0 ≤ p.ct ∧ p.ct ≤ 65536) ∧ p.tg.length ≤ 1000000))
      case first =>
        rcases hnb.out with ⟨rfl, hnew⟩ | ⟨rfl, us, u, rfl, hj⟩
        · have HNE := Lib.hid hnew
          obtain ⟨_, a1, a2, a3, a4⟩ := tgBox (w := wc) th9.out.bx
          have bs0 := th9.out.bel.size
          have hnX := Lib.hid (box_news wc [.int .i64 t.un, .int .i64 t.ki, .int .i64 t.ad, .int .i64 0, .int .i64 t.ev, .slice none 0 0] 24 _ rfl)
          clear hnew hnb
          go_wp2_with (at_builtin; refine wpList_append_pol0 _ rfl _ _ 37 rfl Try.underlying37 info_poll w2.heap.size _ ps rfl (own9.out.alloc _) t.un t.ki t.ad 0 t.ev ⟨wc.heap.size, 0, none⟩ 1 rfl hnX.out (by have := hpl.out; omega) (by rw [World.size_alloc]; omega) ?_; intro v7 w7 own7 g7)
          have th7 := (th9.out.alloc (.cells #[.int .i64 t.un, .int .i64 t.ki, .int .i64 t.ad, .int .i64 0, .int .i64 t.ev, .slice none 0 0] 24)).grown g7 HVB.out
          obtain ⟨A7, c7, rfl, _⟩ := own7.len
          have hl7 : Hid ((ps ++ [(⟨t.un, t.ki, t.ad, 0, t.ev, []⟩ : Pol)]).length = ps.length + 1) := Lib.hid (by rw [List.length_append]; rfl)
          (try go_wp2)
          go_meet
          exact ⟨ps, ⟨t.un, t.ki, t.ad, 0, t.ev, []⟩, A7, c7, ps.length, by rw [hl7.out], Lib.hid rfl, hpl, Lib.hid (by rw [← hl7.out]; exact own7), Lib.hid th7, Lib.hid (addP_last (.inr ⟨rfl, rfl, HNE.out⟩)), Lib.hid ⟨hta, ⟨Int.le_refl _, show (0 : Int) ≤ 65536 by omega⟩, by simp⟩⟩
        · have hl7 : Hid ((us ++ [u]).length = us.length + 1) := Lib.hid (by rw [List.length_append]; rfl)
          have HJ := Lib.hid hj
          clear hnb hj
          go_wp2
          go_meet
          exact ⟨us, u, Av, cv, us.length, by rw [hl7.out], Lib.hid rfl, Lib.hid (by have := hl7.out; have := hpl.out; omega), Lib.hid (by rw [← hl7.out]; exact own9.out), th9, Lib.hid (addP_last (.inl ⟨rfl, HJ.out⟩)), Lib.hid (HGU.out us u rfl)⟩
      case rest =>
      obtain ⟨us, p, As, cs, z, rfl, hz, hzk, hown9, hth, hadd, hpb⟩ := hcut
      obtain ⟨g, cg, At, mt, ctt, hv9, hgb, hgl, hgc, ⟨e0, e1, e2, e3, e4, e5⟩, hkt⟩ := hown9.out.at_ (i := us.length) (by simp)
      injection hv9 with i1 i2 i3
      subst i1 i3
      have hpi : (us ++ [p])[us.length]'(by simp) = p := by simp
      rw [hpi, hz.out] at e0 e1 e2 e3 e4
      rw [hz.out] at e5
      rw [hpi] at hkt
      clear hpi i2 hgc
      generalize hm9 : z + 1 = m9 at *
      have hm9' := Lib.hid hm9
      have hwl : IntKind.i64.wrap ((m9 : Int) - 1) = (z : Int) := by rw [IntKind.wrap_i64]; have := hzk.out; omega
      have hz0 : (0 : Int) ≤ z := by omega
      have hzm : (z : Int) < m9 := by omega
      have hzw := wf_small hz0 (by have := hzk.out; omega)
      have HC : Hid (∀ W : World, Calls Try.prog 26 #[tgV t, .agg #[.int .i64 p.un, .int .i64 p.ki, .int .i64 p.ad, .int .i64 p.ct, .int .i64 p.ev, .slice At mt ctt]] W fun e w' => e = .returned (.int .i64 (cntJ p t)) ∧ Below W.heap.size W w') := Lib.hid fun W => count10_any p.un p.ki p.ad p.ct p.ev At mt ctt p.tg t W hpb.out.1 hpb.out.2.1 hta
      have hld1 := tgBox_ld hth.out.bx
      have hld2 := tgBox_ld hth.out.drew.bx
      have hbx := Lib.hid hth.out.bx
      generalize cntJ p t = cnt at *
      clear hkt hnb th9 own9 hm9
      go_wp2
      go_region_with (go_at_call 26; refine (HC.out _).mono ?_; rintro e w5 ⟨rfl, b5d⟩; have b5 : Below wc.heap.size wc w5 := ⟨b5d.os, b5d.tape, b5d.output, b5d.size, b5d.block⟩; have c3 := cellB b5 hgl e3; have own5 := hown9.out.below b5 (Nat.le_refl _); have f3 := own5.thaw (z * 6 + 3))
      all_goals
        have bel9 := Lib.hid (hth.out.bel.trans (b5.mono hth.out.bel.size))
        have ownS := own5.setct cnt
        rw [hz.out] at ownS
        have belS := Lib.hid (below_setCell bel9.out hgb (z * 6 + 3) (.int .i64 cnt))
        clear own5 c3 f3 b5 b5d e0 e1 e2 e3 e4 e5 hld1 hld2
        generalize hWS : w5.setCell ⟨g, z * 6 + 3, none⟩ (.int .i64 cnt) = ws at *
        obtain ⟨A3, m3, cc3, hgs, _, c5, k5⟩ := ownS.last hz.out
        have k5 : KOwn .i64 3 ws w2.heap.size (.slice A3 m3 cc3) p.tg := k5
        have HBS : Hid (w2.heap.size ≤ (ws.alloc (.cells #[.int .i64 (q : Int)] 3)).heap.size) := Lib.hid (by have hz1 := World.size_alloc ws (.cells #[.int .i64 (q : Int)] 3); have := belS.out.size; omega)
        go_wp2_with (at_builtin; refine wpList_append_K _ rfl _ _ 22 rfl w2.heap.size .i64 3 8 Try.underlying22 I.info_i64 _ p.tg rfl (k5.alloc (.cells #[.int .i64 (q : Int)] 3)) (ws.heap.size + 1) (some ⟨ws.heap.size, 0, none⟩) 1 1 [(q : Int)] rfl (Row.one .i64 ws 3 (q : Int) hqw) rfl (Nat.le_refl _) (by have := hpb.out.2.2; omega) (by have := hpb.out.2.2; simp only [maxLen]; omega) HBS.out ?_; intro v7 w7 own7 g7 nw7 sl7; obtain ⟨A7, n7, c7, rfl⟩ := sl7; have hst7 := (ownS.alloc (.cells #[.int .i64 (q : Int)] 3)).stays (k5.alloc (.cells #[.int .i64 (q : Int)] 3)) g7; have c7' := (World.cell?_of_block (a := ⟨g, z * 6 + 5, none⟩) hst7).trans (cellB (bel_alloc ws (.cells #[.int .i64 (q : Int)] 3)) hgs c5); have f7 := (World.frozen?_of_block (a := ⟨g, z * 6 + 5, none⟩) hst7).trans ((ownS.alloc (.cells #[.int .i64 (q : Int)] 3)).thaw (z * 6 + 5)))
        have ownF := Lib.hid (ownS.joined hz.out c5 own7 g7 nw7)
        have belF := Lib.hid (below_setCell ((belS.out.alloc belS.out.size (.cells #[.int .i64 (q : Int)] 3)).grown g7 HBS.out (fun x e => (k5.block x e).1)) hgb (z * 6 + 5) (.slice A7 n7 c7))
        have hfin : Hid (us ++ [(p.wct cnt).wtg (p.tg ++ [(q : Int)])] = pollsO l ((ordT l).take (k + 1))) := Lib.hid (HNX.out _ hadd.out)
        have hlf : Hid ((us ++ [(p.wct cnt).wtg (p.tg ++ [(q : Int)])]).length = m9) := Lib.hid (by rw [List.length_append, hz.out]; exact hm9'.out)
        clear own7 g7 nw7 hst7 ownS c5 k5 hgs
        (try go_wp2)
        go_roundw
        case rel => exact ⟨k + 1, us ++ [(p.wct cnt).wtg (p.tg ++ [(q : Int)])], by omega, by go_num, hfin, Lib.hid (by rw [hlf.out]; have := hm9'.out; have := hzk.out; omega), ⟨some ⟨g, 0, none⟩, cs, by rw [hlf.out]⟩, ownF, belF⟩
        case measure => simp [intOf]; omega
    · obtain rfl : k = n := by omega
      have hfin : Hid (ps = planL l) := Lib.hid (by rw [hps.out, HPL.out, List.take_of_length_le (by rw [ordT_len]; have := hn'.out; omega)])
      have HO : Hid (PlOwn wr w.heap.size (.slice Av ps.length cv) (planL l)) := Lib.hid (by rw [← hfin.out]; exact hown.out.mono BEL.out.size)
      have HBE := Lib.hid (BEL.out.trans (hbel.out.mono BEL.out.size))
      generalize ps.length = m9 at *
      go_wp2
      (try simp only [Exit.inBlock, Exit.then])
      refine bodyPost_ret (v := .tuple #[.slice Av m9 cv, .int .i64 0]) (by simp [results, Try.results11, go_sem]) rfl ?_
      exact ⟨_, rfl, HO.out, HBE.out⟩
end Go.Proofs.Ytcmbdhmhkfhjfaa
namespace Go.Proofs.Ytcmbdhmhkfhjfaa
open Go.RowKit
set_option linter.unusedVariables false
set_option maxRecDepth 100000

/-- A list of tags of the call's own. -/
def TgOwn (w : World) (base : Nat) (v : Value) (l : List Tg) : Prop := w.ownsRow base 49 19 v l.length (flatV tgC l)
theorem TgOwn.nil (w : World) (base : Nat) : TgOwn w base (.slice none 0 0) [] := World.ownsRow_nil w base _ 19
theorem TgOwn.row {w : World} {base : Nat} {v : Value} {l : List Tg} (h : TgOwn w base v l) : ∃ A c, v = .slice A l.length c ∧ VRow w w.heap.size A (flatV tgC l) ∧ l.length ≤ c ∧ c ≤ maxLen := VRow.of_own h
theorem TgOwn.below {w w' : World} {base B : Nat} {v : Value} {l : List Tg} (h : TgOwn w base v l) (hb : Below B w w') (hB : w.heap.size ≤ B) : TgOwn w' base v l := by
  refine ⟨h.1, ?_⟩
  rcases h.2 with hn | ⟨g, cap, cur, h1, h2, h3, h4⟩
  · exact .inl hn
  · exact .inr ⟨g, cap, cur, h1, h2, (hb.block g (by have := block_lt h3; omega)).trans h3, h4⟩
theorem TgOwn.alloc {w : World} {base : Nat} {v : Value} {l : List Tg} (h : TgOwn w base v l) (o : Obj) : TgOwn (w.alloc o) base v l := World.ownsRow.alloc h o
theorem Below.tgown {w0 w w' : World} {base : Nat} {v : Value} {l : List Tg} {o : Obj} (hb : Below base w0 w) (hB : base ≤ w.heap.size) (h : TgOwn w base v l) (hg : (w.alloc o).grownBy w' v.ownBlock) : Below base w0 w' :=
  (hb.alloc hB o).grown hg (by simp; omega) fun g e => (World.ownsRow.lt h g e).1
theorem flat_one {l : List Tg} : ∀ u ∈ flatV tgC l, u.oneCell' = true := by
  intro u hu
  obtain ⟨t, ht, h⟩ := List.mem_flatMap.1 hu
  exact tgC_one t u h
theorem wpList_append_tg {ops : Array Oper} {rest : List Oper} {o : Oper} {a : Act} {Q : Exit → Act → World → Prop} (w : World) (hgd : o.guard = none) (s x : Operand)
    (ho : o.op = .call { callee := .builtin .append, args := #[s, x], argTypes := #[36, 36] })
    (base : Nat) (v : Value) (l : List Tg) (hs : a.eval s = v) (hown : TgOwn w base v l) (ad : Addr) (c : Nat) (t : Tg) (hx : a.eval x = .slice (some ad) 1 c)
    (hnews : ∀ j u, (tgC t)[j]? = some u → w.cell? (ad.add j) = some u) (hb : (l.length + 1) * 128 ≤ 140737488355328) (hbase : base ≤ w.heap.size)
    (h : ∀ v' w', TgOwn w' base v' (l ++ [t]) → w.grownBy w' v.ownBlock → wpList Try.prog ops Q rest (a.put o.dst v') w') : wpList Try.prog ops Q (o :: rest) a w := by
  obtain ⟨i, hi1, hz, hsz, hby⟩ := info_parts info_tg
  refine wpList_append_own w hgd s x 36 ho base 49 i _ 19 128 Try.underlying36 hi1 hz hsz hby rfl (by omega) v l.length (flatV tgC l) hs hown ad 1 c (tgC t) hx rfl hnews (tgC_one t) (by simp only [maxLen]; omega) (by omega) hbase fun v' w' h4 h5 _ => h v' w' ?_ h5
  unfold TgOwn
  rw [flatV_append, flatV_one, List.length_append]
  exact h4
/-- The cells of a tag in a new box. -/
theorem box_tag (w : World) (t : Tg) : ∀ j u, (tgC t)[j]? = some u → (w.alloc (.cells (tgC t).toArray 49)).cell? ((⟨w.heap.size, 0, none⟩ : Addr).add j) = some u := by
  intro j u hu
  have := rangeB (heap_alloc_new w (.cells (tgC t).toArray 49)) j u hu
  rw [Go.WideShapes.add_plain]
  exact this
end Go.Proofs.Ytcmbdhmhkfhjfaa
namespace Go.Proofs.Ytcmbdhmhkfhjfaa.I
open Go.RowKit

/-- A call returns a new slice, its own, that holds xs; nothing that was there has turned. -/
def Makes (k : IntKind) (t : TypeId) (w : World) (xs : List Int) (e : Ending) (w' : World) : Prop := ∃ v, e = .returned v ∧ Own k t w' w.heap.size v xs ∧ Below w.heap.size w w'

/-- A call returns a slice that fills a new block, the first new one, with xs; nothing that was there has turned. -/
def Lays (k : IntKind) (t : TypeId) (w : World) (xs : List Int) (m : Nat) (e : Ending) (w' : World) : Prop :=
  e = .returned (.slice (some ⟨w.heap.size, 0, none⟩) m m) ∧ w'.heap[w.heap.size]? = some (.cells (blk k xs) t (0, 0)) ∧ Below w.heap.size w w'

end Go.Proofs.Ytcmbdhmhkfhjfaa.I
namespace Go.Proofs.Ytcmbdhmhkfhjfaa.I
open Go.RowKit
set_option linter.unusedVariables false

theorem below_drewN {B : Nat} {a w : World} (h : Below B a w) (n : Nat) : Below B a (w.drewN n) := ⟨h.os, h.tape, h.output, h.size, h.block⟩
/-- Block g is just the row l. (A name: so the walk does not rewrite by it.) -/
def Bk (w : World) (g : Nat) (l : List Int) : Prop := w.heap[g]? = some (.cells (blk .i64 l) 3 (0, 0))
theorem Bk.below {w w' : World} {g : Nat} {l : List Int} (h : Bk w g l) (hb : Below w.heap.size w w') : Bk w' g l := (hb.block g (block_lt h)).trans h
theorem Bk.lt {w : World} {g : Nat} {l : List Int} (h : Bk w g l) : g < w.heap.size := block_lt h
theorem Bk.drewN {w : World} {g : Nat} {l : List Int} (h : Bk w g l) (n : Nat) : Bk (w.drewN n) g l := h
theorem Bk.row {w : World} {g : Nat} {l : List Int} (h : Bk w g l) (xs : List Int) (hw : ∀ x ∈ xs, (Lit.int .i64 x).wf = true) (hp : xs <+: l) : Row .i64 w w.heap.size (some ⟨g, 0, none⟩) xs :=
  (Row.of_block h xs hw hp).more h.lt
/-- A slice that is nil, or the beginning of block g. -/
def Li (w : World) (A : Option Addr) (m g : Nat) (l r : List Int) : Prop := A = none ∧ m = 0 ∨ A = some ⟨g, 0, none⟩ ∧ Bk w g (l ++ r)
theorem Li.below {w w' : World} {A : Option Addr} {m g : Nat} {l r : List Int} (h : Li w A m g l r) (hb : Below w.heap.size w w') : Li w' A m g l r := by
  rcases h with h | ⟨h1, h2⟩
  · exact .inl h
  · exact .inr ⟨h1, h2.below hb⟩
theorem Li.row {w : World} {A : Option Addr} {m g : Nat} {l r : List Int} (h : Li w A m g l r) (hm : l.length = m) (hw : ∀ x ∈ l, (Lit.int .i64 x).wf = true) : Row .i64 w w.heap.size A l := by
  rcases h with ⟨h1, h2⟩ | ⟨h1, h2⟩
  · have : l = [] := List.eq_nil_of_length_eq_zero (by omega)
    subst this
    exact Row.nil _ _ _ _
  · subst h1
    exact h2.row l hw (List.prefix_append _ _)
theorem bel_drewN (w : World) (n : Nat) : Below w.heap.size w (w.drewN n) := ⟨rfl, rfl, rfl, Nat.le_refl _, fun _ _ => rfl⟩

/-- A call returns a pair: a list that is nil or fills the first new block, and a number. -/
def Gives (w : World) (l : List Int) (err : Int) (e : Ending) (w' : World) : Prop :=
  ∃ A m, e = .returned (.tuple #[.slice A m m, .int .i64 err]) ∧ l.length = m ∧ Li w' A m w.heap.size l [] ∧ Below w.heap.size w w'
/-- A call returns a pair: a list of its own, and a number. -/
def GivesOwn (w : World) (l : List Int) (err : Int) (e : Ending) (w' : World) : Prop :=
  ∃ v, e = .returned (.tuple #[v, .int .i64 err]) ∧ Own .i64 3 w' w.heap.size v l ∧ Below w.heap.size w w'
theorem Li.lt {w : World} {A : Option Addr} {m g : Nat} {l r : List Int} (h : Li w A m g l r) : A = none ∨ g < w.heap.size := by
  rcases h with ⟨h1, _⟩ | ⟨_, h2⟩
  · exact .inl h1
  · exact .inr h2.lt
end Go.Proofs.Ytcmbdhmhkfhjfaa.I
namespace Go.Proofs.Ytcmbdhmhkfhjfaa
open Go.RowKit
set_option linter.unusedVariables false
set_option maxRecDepth 100000
attribute [local go_sem ↓] ldTag_fold stTag_fold bxTag_fold
attribute [local go_sem] bxTag_run

/-- A list of tags is laid in one step. -/
def bsTag (n : Nat) (ps : Array (Nat × Value)) : Sem Value := Instr.buildSlice 36 n ps
theorem bsTag_fold (n : Nat) (ps : Array (Nat × Value)) : Instr.buildSlice 36 n ps = bsTag n ps := rfl
theorem bsTag3 (x y z : Tg) (W : World) : (bsTag 3 #[(0, tgV x), (1, tgV y), (2, tgV z)]).run Try.prog W = .ok (.slice (some ⟨W.heap.size, 0, none⟩) 3 3) (W.alloc (.cells (flatV tgC [x, y, z]).toArray 49)) := by
  obtain ⟨x0, x1, x2, x3, x4, x5, x6, x7, x8, x9, x10, x11, x12, x13, x14, x15, x16, x17, x18⟩ := x
  obtain ⟨y0, y1, y2, y3, y4, y5, y6, y7, y8, y9, y10, y11, y12, y13, y14, y15, y16, y17, y18⟩ := y
  obtain ⟨z0, z1, z2, z3, z4, z5, z6, z7, z8, z9, z10, z11, z12, z13, z14, z15, z16, z17, z18⟩ := z
  kernel_rfl
attribute [local go_sem ↓] bsTag_fold
attribute [local go_sem] bsTag3

theorem setL_whole2 (arr : Array Value) (vs : List Value) (h : arr.size = vs.length) : setL arr 0 vs = vs.toArray := setL_whole arr vs h
theorem results_cell2 {P : Program} {fn : Func} {tmps : Array Value} {k : Nat} {ty : TypeId} {a : Addr} {v : Value} {w : World} (hf : fn.results = #[.cell k ty]) (ht : tmps[k]?.getD undef = .pointer (some a)) (hl : (loadVar ty a).run P w = .ok v w) : (results fn tmps).run P w = .ok v w := by
  simp [results, hf, ht, asAddr, hl]
/-- A tag of a holding register of unit 1. -/
def regT (s : ByteArray) (a : Int) : Tg := ⟨s, 1, 3, a, 5, false, false, false, 1, 1, 0, 0, 0, false, false, false, 0, 0, 0⟩
theorem regT_ok {s : ByteArray} {a : Int} (h : s.size ≤ maxLen) (ha : (Lit.int .i64 a).wf = true) : Tg.Ok (regT s a) := by
  have := wf_i64 ha
  refine ⟨h, ?_, ?_, ?_, ?_⟩ <;> simp [regT] <;> omega
set_option maxHeartbeats 1000000 in
theorem reg_any (s : ByteArray) (a : Int) (w : World) : Calls Try.prog 22 #[.string s, .int .i64 a] w fun e w' => e = .returned (tgV (regT s a)) ∧ Below w.heap.size w w' := by
  have hst := made_tag w (regT s a)
  have hx := heap_alloc_new w (.cells (tgC (regT s a)).toArray 49)
  have bel := bel_alloc w (.cells (tgC (regT s a)).toArray 49)
  have hld := run_loadVar_mid (P := Try.prog) (w.alloc (.cells (tgC (regT s a)).toArray 49)) w.heap.size 0 49 (tgC (regT s a)) _ (rangeB hx) Try.underlying49 rfl size_tag
  have hv : tgV (regT s a) = .agg (tgC (regT s a)).toArray := rfl
  generalize hC : (w.alloc (.cells (tgC (regT s a)).toArray 49)) = wC at *
  have hst2 : (stTag (.pointer (some ⟨w.heap.size, 0, none⟩)) (.agg #[.string s, .int .i64 1, .int .i64 3, .int .i64 a, .int .i64 5, .bool false, .bool false, .bool false, .int .i64 1, .int .i64 1, .int .i64 0, .int .i64 0, .int .i64 0, .bool false, .bool false, .bool false, .int .i64 0, .int .i64 0, .int .i64 0])).run Try.prog _ = .ok () wC := hst
  clear hst hx
  go_enter Try.func22, Try.ntmps22
  go_wp2
  (try simp only [Exit.inBlock, Exit.then])
  refine bodyPost_ret (v := tgV (regT s a)) (results_cell2 Try.results22 rfl hld) rfl ?_
  exact ⟨rfl, bel⟩

def wA : ByteArray := ⟨#[97]⟩
def wB : ByteArray := ⟨#[98]⟩
def wC3 : ByteArray := ⟨#[99]⟩
def wkL : List Tg := [regT wA 0, regT wB 1, regT wC3 10]
def wkP : Pol := ⟨1, 3, 0, 11, 5, [0, 1, 2]⟩
def wkR : Rep := ⟨0, [], [7, 8, 0, 0, 0, 0, 0, 0, 0, 0, 9], []⟩
theorem wk_chk : (chkAll wkL).1 = 0 := by decide +kernel
theorem wk_plan : planL wkL = [wkP] := by
  unfold planL
  rw [if_pos wk_chk]
  rfl
theorem wk_valsE : valsE wkL wkP wkR = 0 := by decide +kernel
theorem wk_valsL : valsL wkL wkP wkR = [7, 8, 9] := by decide +kernel
theorem wk_ok : ∀ t ∈ wkL, Tg.Ok t := by
  intro t ht
  simp only [wkL, List.mem_cons, List.not_mem_nil, or_false] at ht
  rcases ht with rfl | rfl | rfl <;> exact regT_ok (by decide) (by decide)

theorem ints_wf3 (x y z : Int) (hx : (Lit.int .i64 x).wf = true) (hy : (Lit.int .i64 y).wf = true) (hz : (Lit.int .i64 z).wf = true) : ∀ u ∈ [x, y, z], (Lit.int .i64 u).wf = true := by
  intro u hu
  simp only [List.mem_cons, List.not_mem_nil, or_false] at hu
  rcases hu with rfl | rfl | rfl <;> assumption
theorem wkR_wf : ∀ u ∈ wkR.set, (Lit.int .u16 u).wf = true := by decide
set_option maxHeartbeats 4000000 in
theorem works10_yes (w : World) : Calls Try.prog 10 #[] w fun e w' => e = .returned (.bool true) ∧ Below w.heap.size w w' := by
  have H1 : ∀ (s : ByteArray) (a : Int), Hid (∀ W, Calls Try.prog 22 #[.string s, .int .i64 a] W fun e w' => e = .returned (tgV (regT s a)) ∧ Below W.heap.size W w') := fun s a => Lib.hid fun W => reg_any s a W
  go_enter Try.func10, Try.ntmps10
  go_wp2_with fail
  refine ((H1 _ _).out _).mono ?_
  rintro e w1 ⟨rfl, b1⟩
  go_wp2_with fail
  refine ((H1 _ _).out _).mono ?_
  rintro e w2 ⟨rfl, b2⟩
  have bel2 := b1.trans (b2.mono b1.size)
  clear b1 b2
  go_wp2_with fail
  refine ((H1 _ _).out _).mono ?_
  rintro e w3 ⟨rfl, b3⟩
  have bel3 := bel2.trans (b3.mono bel2.size)
  clear b3 bel2 H1
  have VR : Hid (VRow (w3.alloc (.cells (flatV tgC wkL).toArray 49)) (w3.alloc (.cells (flatV tgC wkL).toArray 49)).heap.size (some ⟨w3.heap.size, 0, none⟩) (flatV tgC wkL)) := Lib.hid (VRow.new w3 49 (flatV tgC wkL))
  have bel4 := Lib.hid (bel3.alloc bel3.size (.cells (flatV tgC wkL).toArray 49))
  clear bel3
  go_wp2_with fail
  generalize hW4 : w3.alloc (.cells (flatV tgC [regT ⟨#[97]⟩ 0, regT ⟨#[98]⟩ 1, regT ⟨#[99]⟩ 10]).toArray 49) = w4
  have hW4' : w3.alloc (.cells (flatV tgC wkL).toArray 49) = w4 := hW4
  rw [hW4'] at VR bel4
  refine (Plan10_any (some ⟨w3.heap.size, 0, none⟩) 3 3 wkL w4 VR.out rfl (by omega) wk_ok).mono ?_
  rintro e w5 ⟨v5, rfl, own5, b5⟩
  rw [wk_plan] at own5
  rw [wk_chk]
  obtain ⟨g, cg, At, mt, ct, rfl, hgb, hgl, hgc, ⟨e0, e1, e2, e3, e4, e5⟩, hkt⟩ := own5.at_ (i := 0) (by simp)
  simp only [Nat.zero_mul, Nat.zero_add, List.getElem_cons_zero, wkP] at e0 e1 e2 e3 e4 e5 hkt
  obtain ⟨A9, c9, hs9, rT, _, _⟩ := hkt.row (by decide)
  injection hs9 with q1 q2 q3
  subst q1 q3
  have hmt : mt = 3 := q2
  subst hmt
  have bel5 := Lib.hid (bel4.out.trans (b5.mono bel4.out.size))
  have VR5 := Lib.hid ((VR.out.below b5).more b5.size)
  have RT := Lib.hid rT
  have OW := Lib.hid own5
  clear own5 hkt b5 VR hW4 hW4' q2 rT bel4
  have RN := Row.new .i64 w5 3 [0, 1, 2] [0, 1, 2] (by decide) (List.prefix_refl _)
  have RA := RT.out.alloc (Nat.le_refl _) (.cells (blk .i64 [0, 1, 2]) 3)
  go_wp2_with fail
  refine (I.same_yes_i64 At (some ⟨w5.heap.size, 0, none⟩) 3 ct 3 [0, 1, 2] _ w5.heap.size (w5.heap.size + 1) RA RN rfl (by omega)).mono ?_
  rintro e w6 ⟨rfl, m6, hw6⟩
  have b6 : Below w5.heap.size w5 w6 := by
    rw [hw6]
    exact below_drewN (bel_alloc w5 _) _
  have f0 := cellB b6 hgl e0
  have f1 := cellB b6 hgl e1
  have f2 := cellB b6 hgl e2
  have f3 := cellB b6 hgl e3
  have f4 := cellB b6 hgl e4
  have f5 := cellB b6 hgl e5
  clear hw6 RN RA
  go_wp2_with fail
  have HRP : Hid (Repd (w6.alloc (.cells (blk .u16 wkR.set) 66)) (w6.alloc (.cells (blk .u16 wkR.set) 66)).heap.size wkR none (some ⟨w6.heap.size, 0, none⟩) none 0 11 0) := Lib.hid ⟨L.Row.nil _ _ _ _, (Row.new .u16 w6 66 wkR.set wkR.set wkR_wf (List.prefix_refl _)).more (by simp), FRow.nil _ _ _, rfl, rfl, rfl⟩
  have bel6 := Lib.hid (bel5.out.trans (b6.mono bel5.out.size))
  have RT6 := Lib.hid (((RT.out.below b6).more b6.size).alloc (Nat.le_refl _) (.cells (blk .u16 wkR.set) 66))
  have VR6 := Lib.hid (((VR5.out.below b6).more b6.size).alloc (Nat.le_refl _) (.cells (blk .u16 wkR.set) 66))
  clear b6 e0 e1 e2 e3 e4 e5
  generalize hW7 : w6.alloc (.cells (blk .u16 wkR.set) 66) = w7 at *
  have hW7' : w6.alloc (.cells #[.int .u16 7, .int .u16 8, .int .u16 0, .int .u16 0, .int .u16 0, .int .u16 0, .int .u16 0, .int .u16 0, .int .u16 0, .int .u16 0, .int .u16 9] 66) = w7 := hW7
  have bel7 : Hid (Below w.heap.size w w7) := Lib.hid (by rw [← hW7]; exact bel6.out.alloc bel6.out.size _)
  have hz7 : w6.heap.size + 1 = w7.heap.size := by rw [← hW7, World.size_alloc]
  rw [hW7']
  refine (Values10_any (some ⟨w3.heap.size, 0, none⟩) 3 3 wkL 1 3 0 11 5 At 3 ct [0, 1, 2] none (some ⟨w6.heap.size, 0, none⟩) none 0 11 0 0 11 0 wkR w7 (VR6.out.more (by omega)) rfl (by omega) wk_ok (RT6.out.more (by omega)) rfl (by omega) HRP.out (Nat.le_refl _) (by omega) (by decide)).mono ?_
  rintro e w8 ⟨v8, rfl, own8, b8⟩
  have hE : valsE wkL ⟨1, 3, 0, 11, 5, [0, 1, 2]⟩ wkR = 0 := wk_valsE
  have hL : valsL wkL ⟨1, 3, 0, 11, 5, [0, 1, 2]⟩ wkR = [7, 8, 9] := wk_valsL
  rw [hE]
  rw [hL] at own8
  obtain ⟨A8, c8, rfl, r8, _, _⟩ := own8.row (by decide)
  have bel8 := Lib.hid (bel7.out.trans (b8.mono bel7.out.size))
  have hl8 : ([7, 8, 9] : List Int).length = 3 := rfl
  rw [hl8]
  have RN := Row.new .i64 w8 3 [7, 8, 9] [7, 8, 9] (by decide) (List.prefix_refl _)
  have RA := r8.alloc (Nat.le_refl _) (.cells (blk .i64 [7, 8, 9]) 3)
  clear own8 b8 hE hL r8 hl8 hW7 hW7' hz7 HRP RT6 VR6 bel7 f0 f1 f2 f3 f4 f5
  go_wp2_with fail
  refine (I.same_yes_i64 A8 (some ⟨w8.heap.size, 0, none⟩) 3 c8 3 [7, 8, 9] _ w8.heap.size (w8.heap.size + 1) RA RN rfl (by omega)).mono ?_
  rintro e w9 ⟨rfl, m9, hw9⟩
  have bel9 := Lib.hid (bel8.out.trans ((below_drewN (bel_alloc w8 (.cells (blk .i64 [7, 8, 9]) 3)) m9).mono bel8.out.size))
  rw [hw9]
  clear hw9 RN RA
  go_wp2
  go_ret
  exact ⟨rfl, bel9.out⟩
end Go.Proofs.Ytcmbdhmhkfhjfaa
namespace Go.Proofs.Ytcmbdhmhkfhjfaa
open Go.RowKit
set_option linter.unusedVariables false
/-- A list of polls that can be read: each where it lies, its Tags as a row. -/
def PlRow (w : World) (v : Value) (ps : List Pol) : Prop := (∃ A c, v = .slice A ps.length c) ∧ ∀ i (hi : i < ps.length), ∃ g c A cc, v = .slice (some ⟨g, 0, none⟩) ps.length c ∧ g < w.heap.size ∧ (w.cell? ⟨g, i * 6, none⟩ = some (.int .i64 ps[i].un) ∧ w.cell? ⟨g, i * 6 + 1, none⟩ = some (.int .i64 ps[i].ki) ∧ w.cell? ⟨g, i * 6 + 2, none⟩ = some (.int .i64 ps[i].ad) ∧ w.cell? ⟨g, i * 6 + 3, none⟩ = some (.int .i64 ps[i].ct) ∧ w.cell? ⟨g, i * 6 + 4, none⟩ = some (.int .i64 ps[i].ev) ∧ w.cell? ⟨g, i * 6 + 5, none⟩ = some (.slice A ps[i].tg.length cc)) ∧ Row .i64 w w.heap.size A ps[i].tg
theorem PlOwn.prow {w : World} {base : Nat} {v : Value} {ps : List Pol} (h : PlOwn w base v ps) (hw : ∀ p ∈ ps, ∀ x ∈ p.tg, (Lit.int .i64 x).wf = true) : PlRow w v ps := by
  obtain ⟨A, c, e, _⟩ := h.len
  refine ⟨⟨A, c, e⟩, fun i hi => ?_⟩
  obtain ⟨g, cg, At, mt, ct, hv, hgb, hgl, hgc, hc, hk⟩ := h.at_ hi
  obtain ⟨A9, c9, e9, r9, _, _⟩ := hk.row (hw _ (List.getElem_mem hi))
  injection e9 with i1 i2 i3
  subst i1 i2 i3
  exact ⟨g, cg, At, ct, hv, hgl, hc, r9⟩
theorem PlRow.below {w w' : World} {v : Value} {ps : List Pol} (h : PlRow w v ps) (hb : Below w.heap.size w w') : PlRow w' v ps := by
  refine ⟨h.1, fun i hi => ?_⟩
  obtain ⟨g, c, A, cc, e, hg, ⟨c0, c1, c2, c3, c4, c5⟩, hr⟩ := h.2 i hi
  exact ⟨g, c, A, cc, e, by have := hb.size; omega, ⟨cellB hb hg c0, cellB hb hg c1, cellB hb hg c2, cellB hb hg c3, cellB hb hg c4, cellB hb hg c5⟩, (hr.below hb).more hb.size⟩

end Go.Proofs.Ytcmbdhmhkfhjfaa
namespace Go.Proofs.Ytcmbdhmhkfhjfaa.I
open Go.RowKit
set_option linter.unusedVariables false
/-- A list with each byte written over, up to a place. -/
def spoilI (k : Nat) (l : List Int) : List Int := (l.take k).map (bits .xor .i64 · 77) ++ l.drop k
theorem spoilI_length (k : Nat) (l : List Int) : (spoilI k l).length = l.length := by simp [spoilI]; omega
theorem xor90_wf (x : Int) (h : (Lit.int .i64 x).wf = true) : (Lit.int .i64 (bits .xor .i64 x 77)).wf = true := wf_bits _ _ _ _
theorem spoilI_wf (k : Nat) (l : List Int) (h : ∀ x ∈ l, (Lit.int .i64 x).wf = true) : ∀ x ∈ spoilI k l, (Lit.int .i64 x).wf = true := by
  intro x hx
  rcases List.mem_append.1 hx with hx | hx
  · obtain ⟨y, hy, rfl⟩ := List.mem_map.1 hx
    exact xor90_wf y (h y (List.mem_of_mem_take hy))
  · exact h x (List.mem_of_mem_drop hx)
theorem spoilI_at (k : Nat) (l : List Int) (hk : k < l.length) : nth (spoilI k l) k = nth l k := by
  have hl : ((l.take k).map (bits .xor .i64 · 77)).length = k := by simp; omega
  have := nth_right ((l.take k).map (bits .xor .i64 · 77)) (l.drop k) 0
  rw [hl, Nat.add_zero] at this
  rw [spoilI, this, nth, nth, List.getD_eq_getElem?_getD, List.getD_eq_getElem?_getD, List.getElem?_drop, Nat.add_zero]
theorem spoilI_set (k : Nat) (l : List Int) (hk : k < l.length) : (spoilI k l).set k (bits .xor .i64 (nth l k) 77) = spoilI (k + 1) l := by
  have hl : ((l.take k).map (bits .xor .i64 · 77)).length = k := by simp; omega
  have hd := List.drop_eq_getElem_cons hk
  rw [spoilI, List.set_append_right _ _ (by omega), hl, Nat.sub_self, spoilI, take_step l k hk]
  simp
  rw [hd]
  rfl
theorem spoilI_zero (l : List Int) : spoilI 0 l = l := by simp [spoilI]

end Go.Proofs.Ytcmbdhmhkfhjfaa.I
namespace Go.Proofs.Ytcmbdhmhkfhjfaa.I
open Go.RowKit
set_option linter.unusedVariables false
/-- Rows that lie in blocks of their own, each known whole (or nil), their slices in the array of block gl. -/
structure Parts (w : World) (B gl m : Nat) (A : Nat → Option Addr) (n c : Nat → Nat) (l r : Nat → List Int) : Prop where
  at_ : ∀ k, k < m → w.cell? ⟨gl, k, none⟩ = some (.slice (A k) (n k) (c k))
  size : ∀ k, k < m → n k ≤ c k ∧ c k ≤ 17592186044416 ∧ (l k).length = c k
  wf : ∀ k, k < m → ∀ x ∈ l k, (Lit.int .i64 x).wf = true
  lies : ∀ k, k < m → (A k = none ∧ n k = 0 ∧ c k = 0) ∨ ∃ g, A k = some ⟨g, 0, none⟩ ∧ B ≤ g ∧ g ≠ gl ∧ w.heap[g]? = some (.cells (blk .i64 (l k ++ r k)) 3 (0, 0))
  apart : ∀ i k, i < m → k < m → i ≠ k → ∀ g, A i = some ⟨g, 0, none⟩ → A k ≠ some ⟨g, 0, none⟩
  gl_lt : gl < w.heap.size

theorem Parts.row {w : World} {B gl m : Nat} {A : Nat → Option Addr} {n c : Nat → Nat} {l r : Nat → List Int} (h : Parts w B gl m A n c l r) {k : Nat} (hk : k < m) :
    Row .i64 w w.heap.size (A k) ((l k).take (n k)) ∧ ((l k).take (n k)).length = n k := by
  have hs := h.size k hk
  refine ⟨?_, by simp; omega⟩
  rcases h.lies k hk with ⟨ha, hn, hc⟩ | ⟨g, ha, _, _, hg⟩
  · rw [hn, List.take_zero]; exact Row.nil _ _ _ _
  · rw [ha]
    exact (Row.of_block hg _ (fun x hx => h.wf k hk x (List.mem_of_mem_take hx)) ((List.take_prefix _ _).trans (List.prefix_append _ _))).more (block_lt hg)
/-- A step that leaves all old blocks leaves the parts. -/
theorem Parts.below {w w' : World} {B gl m : Nat} {A : Nat → Option Addr} {n c : Nat → Nat} {l r : Nat → List Int} (h : Parts w B gl m A n c l r) (hb : Below w.heap.size w w') : Parts w' B gl m A n c l r where
  at_ := fun k hk => (hb.cell (p := ⟨gl, k, none⟩) h.gl_lt).trans (h.at_ k hk)
  size := h.size
  wf := h.wf
  lies := fun k hk => by
    rcases h.lies k hk with h0 | ⟨g, ha, hB, hne, hg⟩
    · exact .inl h0
    · exact .inr ⟨g, ha, hB, hne, (hb.block g (block_lt hg)).trans hg⟩
  apart := h.apart
  gl_lt := Nat.lt_of_lt_of_le h.gl_lt hb.size
/-- One part is written over. -/
theorem Parts.spoil {w w' : World} {B gl m : Nat} {A : Nat → Option Addr} {n c : Nat → Nat} {l r : Nat → List Int} (h : Parts w B gl m A n c l r) {i g : Nat} (hi : i < m) (ha : A i = some ⟨g, 0, none⟩)
    (hg : w'.heap[g]? = some (.cells (blk .i64 (spoilI (c i) (l i) ++ r i)) 3 (0, 0))) (hgr : w.grownBy w' (some g)) : Parts w' B gl m A n c (fun k => if k = i then spoilI (c i) (l i) else l k) r where
  at_ := fun k hk => by
    rcases h.lies i hi with ⟨h0, _⟩ | ⟨g', ha', _, hne, _⟩
    · rw [ha] at h0; cases h0
    · rw [ha] at ha'
      injection ha' with ha'
      injection ha' with ha'
      subst ha'
      exact (World.cell?_of_block (hgr.block gl h.gl_lt (fun e => hne (by injection e with e; exact e.symm)))).trans (h.at_ k hk)
  size := fun k hk => by
    have := h.size k hk
    refine ⟨this.1, this.2.1, ?_⟩
    split
    · rename_i e; subst e; rw [spoilI_length]; exact this.2.2
    · exact this.2.2
  wf := fun k hk => by
    show ∀ x ∈ (if k = i then spoilI (c i) (l i) else l k), _
    split
    · exact spoilI_wf _ _ (h.wf i hi)
    · exact h.wf k hk
  lies := fun k hk => by
    by_cases e : k = i
    · subst e
      rcases h.lies k hi with ⟨h0, _⟩ | ⟨g', ha', hB, hne, _⟩
      · rw [ha] at h0; cases h0
      · rw [ha] at ha'
        injection ha' with ha'
        injection ha' with ha'
        subst ha'
        exact .inr ⟨g, ha, hB, hne, by rw [if_pos rfl]; exact hg⟩
    · rcases h.lies k hk with h0 | ⟨g', ha', hB, hne, hg'⟩
      · exact .inl h0
      · refine .inr ⟨g', ha', hB, hne, ?_⟩
        rw [if_neg e, hgr.block g' (block_lt hg') (fun e' => ?_)]
        · exact hg'
        · injection e' with e'
          subst e'
          exact h.apart k i hk hi e _ ha' ha
  apart := h.apart
  gl_lt := Nat.lt_of_lt_of_le h.gl_lt hgr.size

/-- A slice that is handed to ApartInts: nil, or the beginning of a block that is known whole. -/
structure Ent where
  a : Option Nat
  n : Nat
  c : Nat
  l : List Int
  r : List Int
def Ent.none_ : Ent := ⟨none, 0, 0, [], []⟩
def Ent.adr (e : Ent) : Option Addr := e.a.map fun g => ⟨g, 0, none⟩
def Ent.val (e : Ent) : Value := .slice e.adr e.n e.c
structure Ent.Ok (w : World) (B : Nat) (e : Ent) : Prop where
  size : e.n ≤ e.c ∧ e.c ≤ 17592186044416 ∧ e.l.length = e.c
  wf : ∀ x ∈ e.l, (Lit.int .i64 x).wf = true
  lies : (e.a = none ∧ e.n = 0 ∧ e.c = 0) ∨ ∃ g, e.a = some g ∧ B ≤ g ∧ w.heap[g]? = some (.cells (blk .i64 (e.l ++ e.r)) 3 (0, 0))
def Ent.Far (e e' : Ent) : Prop := ∀ g, e.a = some g → e'.a ≠ some g
theorem Ent.adr_some {e : Ent} {g : Nat} (h : e.adr = some ⟨g, 0, none⟩) : e.a = some g := by
  unfold Ent.adr at h
  cases ha : e.a with
  | none => rw [ha] at h; cases h
  | some q => rw [ha] at h; simp at h; rw [h]

theorem parts_of_list (w : World) (B : Nat) (L : List Ent) (t : TypeId) (hok : ∀ e ∈ L, e.Ok w B) (hfar : L.Pairwise Ent.Far) :
    Parts (w.alloc (.cells (L.map Ent.val).toArray t)) B w.heap.size L.length (fun k => (L.getD k Ent.none_).adr) (fun k => (L.getD k Ent.none_).n) (fun k => (L.getD k Ent.none_).c) (fun k => (L.getD k Ent.none_).l) (fun k => (L.getD k Ent.none_).r) where
  at_ := fun k hk => by
    rw [World.cell?_alloc_at _ _ _ _ rfl]
    simp [List.getElem?_eq_getElem hk, List.getD_eq_getElem?_getD, Ent.val]
  size := fun k hk => by
    simp only [List.getD_eq_getElem?_getD, List.getElem?_eq_getElem hk, Option.getD_some]
    exact (hok _ (List.getElem_mem hk)).size
  wf := fun k hk => by
    simp only [List.getD_eq_getElem?_getD, List.getElem?_eq_getElem hk, Option.getD_some]
    exact (hok _ (List.getElem_mem hk)).wf
  lies := fun k hk => by
    simp only [List.getD_eq_getElem?_getD, List.getElem?_eq_getElem hk, Option.getD_some]
    rcases (hok _ (List.getElem_mem hk)).lies with ⟨h1, h2⟩ | ⟨g, h1, h2, h3⟩
    · exact .inl ⟨by rw [Ent.adr, h1]; rfl, h2⟩
    · have := block_lt h3
      exact .inr ⟨g, by rw [Ent.adr, h1]; rfl, h2, by omega, (Below.heap_alloc w _ g this).trans h3⟩
  apart := fun i k hi hk hne g h1 h2 => by
    simp only [List.getD_eq_getElem?_getD, List.getElem?_eq_getElem hi, List.getElem?_eq_getElem hk, Option.getD_some] at h1 h2
    have h1 := Ent.adr_some h1
    have h2 := Ent.adr_some h2
    rcases Nat.lt_or_gt_of_ne hne with h | h
    · exact List.pairwise_iff_getElem.1 hfar i k hi hk h g h1 h2
    · exact List.pairwise_iff_getElem.1 hfar k i hk hi h g h2 h1
  gl_lt := by simp

end Go.Proofs.Ytcmbdhmhkfhjfaa.I
namespace Go.Proofs.Ytcmbdhmhkfhjfaa.I
open Go.RowKit
set_option linter.unusedVariables false
theorem spoilO_at (p l r : List Int) (k : Nat) (hk : k < l.length) : nth (p ++ spoilI k l ++ r) (p.length + k) = nth l k := by
  rw [nth_left _ _ _ (by rw [List.length_append, spoilI_length]; omega), nth_right, spoilI_at k l hk]
theorem spoilO_set (p l r : List Int) (k : Nat) (hk : k < l.length) : (p ++ spoilI k l ++ r).set (p.length + k) (bits .xor .i64 (nth l k) 77) = p ++ spoilI (k + 1) l ++ r := by
  rw [List.set_append_left _ _ (by rw [List.length_append, spoilI_length]; omega), List.set_append_right _ _ (by omega), Nat.add_sub_cancel_left, spoilI_set k l hk]

/-- A row inside a block that is known whole. -/
theorem Row.inside {k : IntKind} {w : World} {g : Nat} {t : TypeId} {fr : Nat × Nat} {p l r : List Int} (hg : w.heap[g]? = some (.cells (blk k (p ++ l ++ r)) t fr)) (xs : List Int) (hw : ∀ x ∈ xs, (Lit.int k x).wf = true) (hp : xs <+: l) :
    Row k w (g + 1) (some ⟨g, p.length, none⟩) xs := by
  obtain ⟨ys, rfl⟩ := hp
  refine ⟨hw, fun _ => ⟨_, _, rfl, Nat.lt_succ_self _, fun i hi => ?_⟩⟩
  rw [cell_of_row w g _ _ _ _ hg, blk_get _ _ _ (by simp; omega), nth_left _ _ _ (by simp; omega), nth_right, nth_left _ _ _ hi]
/-- Rows that lie inside blocks of their own, each known whole (or nil), their slices in the array of block gl. -/
structure PartsO (w : World) (B gl m : Nat) (A : Nat → Option Addr) (n c : Nat → Nat) (p l r : Nat → List Int) : Prop where
  at_ : ∀ k, k < m → w.cell? ⟨gl, k, none⟩ = some (.slice (A k) (n k) (c k))
  size : ∀ k, k < m → n k ≤ c k ∧ c k ≤ 17592186044416 ∧ (l k).length = c k
  wf : ∀ k, k < m → ∀ x ∈ l k, (Lit.int .i64 x).wf = true
  lies : ∀ k, k < m → (A k = none ∧ n k = 0 ∧ c k = 0) ∨ ∃ g, A k = some ⟨g, (p k).length, none⟩ ∧ B ≤ g ∧ g ≠ gl ∧ w.heap[g]? = some (.cells (blk .i64 (p k ++ l k ++ r k)) 3 (0, 0))
  apart : ∀ i k, i < m → k < m → i ≠ k → ∀ g o q, A i = some ⟨g, o, none⟩ → A k ≠ some ⟨g, q, none⟩
  gl_lt : gl < w.heap.size

theorem PartsO.row {w : World} {B gl m : Nat} {A : Nat → Option Addr} {n c : Nat → Nat} {p l r : Nat → List Int} (h : PartsO w B gl m A n c p l r) {k : Nat} (hk : k < m) :
    Row .i64 w w.heap.size (A k) ((l k).take (n k)) ∧ ((l k).take (n k)).length = n k := by
  have hs := h.size k hk
  refine ⟨?_, by simp; omega⟩
  rcases h.lies k hk with ⟨ha, hn, hc⟩ | ⟨g, ha, _, _, hg⟩
  · rw [hn, List.take_zero]; exact Row.nil _ _ _ _
  · rw [ha]
    exact (Row.inside hg _ (fun x hx => h.wf k hk x (List.mem_of_mem_take hx)) (List.take_prefix _ _)).more (block_lt hg)
/-- A step that leaves all old blocks leaves the parts. -/
theorem PartsO.below {w w' : World} {B gl m : Nat} {A : Nat → Option Addr} {n c : Nat → Nat} {p l r : Nat → List Int} (h : PartsO w B gl m A n c p l r) (hb : Below w.heap.size w w') : PartsO w' B gl m A n c p l r where
  at_ := fun k hk => (hb.cell (p := ⟨gl, k, none⟩) h.gl_lt).trans (h.at_ k hk)
  size := h.size
  wf := h.wf
  lies := fun k hk => by
    rcases h.lies k hk with h0 | ⟨g, ha, hB, hne, hg⟩
    · exact .inl h0
    · exact .inr ⟨g, ha, hB, hne, (hb.block g (block_lt hg)).trans hg⟩
  apart := h.apart
  gl_lt := Nat.lt_of_lt_of_le h.gl_lt hb.size
/-- One part is written over. -/
theorem PartsO.spoil {w w' : World} {B gl m : Nat} {A : Nat → Option Addr} {n c : Nat → Nat} {p l r : Nat → List Int} (h : PartsO w B gl m A n c p l r) {i g : Nat} (hi : i < m) (ha : A i = some ⟨g, (p i).length, none⟩)
    (hg : w'.heap[g]? = some (.cells (blk .i64 (p i ++ spoilI (c i) (l i) ++ r i)) 3 (0, 0))) (hgr : w.grownBy w' (some g)) : PartsO w' B gl m A n c p (fun k => if k = i then spoilI (c i) (l i) else l k) r where
  at_ := fun k hk => by
    rcases h.lies i hi with ⟨h0, _⟩ | ⟨g', ha', _, hne, _⟩
    · rw [ha] at h0; cases h0
    · rw [ha] at ha'
      injection ha' with ha'
      injection ha' with ha'
      subst ha'
      exact (World.cell?_of_block (hgr.block gl h.gl_lt (fun e => hne (by injection e with e; exact e.symm)))).trans (h.at_ k hk)
  size := fun k hk => by
    have := h.size k hk
    refine ⟨this.1, this.2.1, ?_⟩
    split
    · rename_i e; subst e; rw [spoilI_length]; exact this.2.2
    · exact this.2.2
  wf := fun k hk => by
    show ∀ x ∈ (if k = i then spoilI (c i) (l i) else l k), _
    split
    · exact spoilI_wf _ _ (h.wf i hi)
    · exact h.wf k hk
  lies := fun k hk => by
    by_cases e : k = i
    · subst e
      rcases h.lies k hi with ⟨h0, _⟩ | ⟨g', ha', hB, hne, _⟩
      · rw [ha] at h0; cases h0
      · rw [ha] at ha'
        injection ha' with ha'
        injection ha' with ha'
        subst ha'
        exact .inr ⟨g, ha, hB, hne, by rw [if_pos rfl]; exact hg⟩
    · rcases h.lies k hk with h0 | ⟨g', ha', hB, hne, hg'⟩
      · exact .inl h0
      · refine .inr ⟨g', ha', hB, hne, ?_⟩
        rw [if_neg e, hgr.block g' (block_lt hg') (fun e' => ?_)]
        · exact hg'
        · injection e' with e'
          subst e'
          exact h.apart k i hk hi e _ _ _ ha' ha
  apart := h.apart
  gl_lt := Nat.lt_of_lt_of_le h.gl_lt hgr.size

/-- A slice that is handed to ApartInts: nil, or the beginning of a block that is known whole. -/
structure EntO where
  a : Option Nat
  p : List Int
  n : Nat
  c : Nat
  l : List Int
  r : List Int
def EntO.none_ : EntO := ⟨none, [], 0, 0, [], []⟩
def EntO.adr (e : EntO) : Option Addr := e.a.map fun g => ⟨g, e.p.length, none⟩
def EntO.val (e : EntO) : Value := .slice e.adr e.n e.c
structure EntO.Ok (w : World) (B : Nat) (e : EntO) : Prop where
  size : e.n ≤ e.c ∧ e.c ≤ 17592186044416 ∧ e.l.length = e.c
  wf : ∀ x ∈ e.l, (Lit.int .i64 x).wf = true
  lies : (e.a = none ∧ e.n = 0 ∧ e.c = 0) ∨ ∃ g, e.a = some g ∧ B ≤ g ∧ w.heap[g]? = some (.cells (blk .i64 (e.p ++ e.l ++ e.r)) 3 (0, 0))
def EntO.Far (e e' : EntO) : Prop := ∀ g, e.a = some g → e'.a ≠ some g
theorem EntO.adr_some {e : EntO} {g o : Nat} (h : e.adr = some ⟨g, o, none⟩) : e.a = some g := by
  unfold EntO.adr at h
  cases ha : e.a with
  | none => rw [ha] at h; cases h
  | some q => rw [ha] at h; simp at h; rw [h.1]

theorem partsO_of_list (w : World) (B : Nat) (L : List EntO) (t : TypeId) (hok : ∀ e ∈ L, e.Ok w B) (hfar : L.Pairwise EntO.Far) :
    PartsO (w.alloc (.cells (L.map EntO.val).toArray t)) B w.heap.size L.length (fun k => (L.getD k EntO.none_).adr) (fun k => (L.getD k EntO.none_).n) (fun k => (L.getD k EntO.none_).c) (fun k => (L.getD k EntO.none_).p) (fun k => (L.getD k EntO.none_).l) (fun k => (L.getD k EntO.none_).r) where
  at_ := fun k hk => by
    rw [World.cell?_alloc_at _ _ _ _ rfl]
    simp [List.getElem?_eq_getElem hk, List.getD_eq_getElem?_getD, EntO.val]
  size := fun k hk => by
    simp only [List.getD_eq_getElem?_getD, List.getElem?_eq_getElem hk, Option.getD_some]
    exact (hok _ (List.getElem_mem hk)).size
  wf := fun k hk => by
    simp only [List.getD_eq_getElem?_getD, List.getElem?_eq_getElem hk, Option.getD_some]
    exact (hok _ (List.getElem_mem hk)).wf
  lies := fun k hk => by
    simp only [List.getD_eq_getElem?_getD, List.getElem?_eq_getElem hk, Option.getD_some]
    rcases (hok _ (List.getElem_mem hk)).lies with ⟨h1, h2⟩ | ⟨g, h1, h2, h3⟩
    · exact .inl ⟨by rw [EntO.adr, h1]; rfl, h2⟩
    · have := block_lt h3
      exact .inr ⟨g, by rw [EntO.adr, h1]; rfl, h2, by omega, (Below.heap_alloc w _ g this).trans h3⟩
  apart := fun i k hi hk hne g o q h1 h2 => by
    simp only [List.getD_eq_getElem?_getD, List.getElem?_eq_getElem hi, List.getElem?_eq_getElem hk, Option.getD_some] at h1 h2
    have h1 := EntO.adr_some h1
    have h2 := EntO.adr_some h2
    rcases Nat.lt_or_gt_of_ne hne with h | h
    · exact List.pairwise_iff_getElem.1 hfar i k hi hk h g h1 h2
    · exact List.pairwise_iff_getElem.1 hfar k i hk hi h g h2 h1
  gl_lt := by simp

end Go.Proofs.Ytcmbdhmhkfhjfaa.I
