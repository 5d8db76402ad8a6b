/-
  Texts of the proof of PlanKnown, joined.
-/
import Derived.Test.YtcmbdhmhkfhjfaaGreatJPlanKnownI
import Derived.Test.YtcmbdhmhkfhjfaaGreatJPlanKnownB
import Derived.Deep.RegionHeld3
import Derived.Test.YtcmbdhmhkfhjfaaGreatJPlanKnownJ
import Derived.Test.YtcmbdhmhkfhjfaaGreatJPlanKnownA
namespace Go.Proofs.YtcmbdhmhkfhjfaaGreat
open Go.RowKit
set_option linter.unusedVariables false
set_option maxRecDepth 100000
attribute [local go_sem ↓] ldTag_fold stTag_fold bxTag_fold
attribute [local go_sem] bxTag_run

theorem KOwn.alloc {k : IntKind} {e : TypeId} {w : World} {base : Nat} {v : Value} {xs : List Int} (h : KOwn k e w base v xs) (o : Obj) : KOwn k e (w.alloc o) base v xs := h.below (bel_alloc w o) (Nat.le_refl _)
theorem KOwn.drew {k : IntKind} {e : TypeId} {w : World} {base : Nat} {v : Value} {xs : List Int} (h : KOwn k e w base v xs) : KOwn k e w.drew base v xs := h
theorem KOwn.sl {k : IntKind} {e : TypeId} {w : World} {base : Nat} {v : Value} {xs : List Int} (h : KOwn k e w base v xs) : ∃ A n c, v = .slice A n c := by
  rcases h with ⟨rfl, _⟩ | ⟨g, n, cap, r, rfl, _⟩
  · exact ⟨_, _, _, rfl⟩
  · exact ⟨_, _, _, rfl⟩
theorem fold_ne {a : Int} (h : a ≠ 0) : (a == 0) = false ∧ (a != 0) = true := ⟨beq_false_of_ne h, by simpa using h⟩
structure ValH (w w' : World) (o1 o2 : Obj) : Prop where
  b1 : w'.heap[w.heap.size]? = some o1
  b2 : w'.heap[w.heap.size + 1]? = some o2
  sz : w.heap.size + 2 ≤ w'.heap.size
  bel : Below w.heap.size w w'
theorem ValH.new (w : World) (o1 o2 : Obj) : ValH w ((w.alloc o1).alloc o2) o1 o2 := ⟨two_fst w o1 o2, heap_alloc_two w o1 o2, by simp, (bel_alloc w o1).alloc (by simp) o2⟩
theorem ValH.below {w w' w2 : World} {o1 o2 : Obj} (h : ValH w w' o1 o2) (hb : Below w'.heap.size w' w2) : ValH w w2 o1 o2 := by
  have := h.sz
  exact ⟨(hb.block _ (by omega)).trans h.b1, (hb.block _ (by omega)).trans h.b2, Nat.le_trans h.sz hb.size, h.bel.trans (hb.mono (by omega))⟩
theorem ValH.alloc {w w' : World} {o1 o2 : Obj} (h : ValH w w' o1 o2) (o : Obj) : ValH w (w'.alloc o) o1 o2 := h.below (bel_alloc w' o)
theorem ValH.drew {w w' : World} {o1 o2 : Obj} (h : ValH w w' o1 o2) : ValH w w'.drew o1 o2 := h.below ⟨rfl, rfl, rfl, Nat.le_refl _, fun _ _ => rfl⟩
theorem ValH.drewN {w w' : World} {o1 o2 : Obj} (h : ValH w w' o1 o2) (n : Nat) : ValH w (w'.drewN n) o1 o2 := h.below (bel_drewN w' n)
theorem ValH.grown {w w' w2 : World} {o1 o2 : Obj} (h : ValH w w' o1 o2) {v : Option Nat} (hg : w'.grownBy w2 v) (hv : ∀ g, v = some g → w.heap.size + 2 ≤ g) : ValH w w2 o1 o2 := by
  have := h.sz
  refine ⟨(hg.block _ (by omega) (fun e => by have := hv _ e.symm; omega)).trans h.b1, (hg.block _ (by omega) (fun e => by have := hv _ e.symm; omega)).trans h.b2, Nat.le_trans h.sz hg.size, h.bel.grown hg (by omega) (fun g e => by have := hv _ e; omega)⟩

set_option maxHeartbeats 8000000 in
theorem refValues10_any (A : Option Addr) (n c : Nat) (l : List Tg) (pu pk pa pc pe : Int) (Pt : Option Addr) (pn pm : Nat) (tg : List Int) (Bo Bs Bf : Option Addr) (mo ms mf eo es ef : Nat) (r : Rep) (w : World) (hr : VRow w w.heap.size A (flatV tgC l)) (hn : l.length = n) (hnb : n ≤ 4611686018427387904) (hok : ∀ t ∈ l, Tg.Ok t)
    (hrow : Row .i64 w w.heap.size Pt tg) (hpn : tg.length = pn) (hpb : pn ≤ 100000) (hrep : Repd w w.heap.size r Bo Bs Bf mo ms mf) (hms : ms ≤ es) (hes : es ≤ 9223372036854775807) (hx : (Lit.int .i64 r.x).wf = true) :
    Calls Tryz.prog 11 #[.slice A n c, .agg #[.int .i64 pu, .int .i64 pk, .int .i64 pa, .int .i64 pc, .int .i64 pe, .slice Pt pn pm], .agg #[.int .i64 r.x, .slice Bo mo eo, .slice Bs ms es, .slice Bf mf ef]] w (GivesI w (valsL l ⟨pu, pk, pa, pc, pe, tg⟩ r) (valsE l ⟨pu, pk, pa, pc, pe, tg⟩ r)) := by
  have HP : Hid (∀ E, E ≠ 0 → valsE l ⟨pu, pk, pa, pc, pe, tg⟩ r = E → ∀ w', Below w.heap.size w w' → GivesI w (valsL l ⟨pu, pk, pa, pc, pe, tg⟩ r) (valsE l ⟨pu, pk, pa, pc, pe, tg⟩ r) (.returned (.tuple #[.slice none 0 0, .int .i64 E])) w') := Lib.hid (fun E h0 h w' hb => by
    have hne : valsE l ⟨pu, pk, pa, pc, pe, tg⟩ r ≠ 0 := by rw [h]; exact h0
    rw [valsL_bad hne, h]
    exact ⟨_, rfl, KOwn.nil _ _ _ _, hb⟩)
  have v0 := ValH.new w (.cells #[.int .i64 pu, .int .i64 pk, .int .i64 pa, .int .i64 pc, .int .i64 pe, .slice Pt pn pm] 25) (.cells #[.int .i64 r.x, .slice Bo mo eo, .slice Bs ms es, .slice Bf mf ef] 30)
  have HRW := Lib.hid hrow
  have HRP := Lib.hid hrep
  have HVR := Lib.hid hr
  have hpn' := Lib.hid hpn
  have hn' := Lib.hid hn
  obtain ⟨x, hxx⟩ : ∃ x, r.x = x := ⟨_, rfl⟩
  have HX := Lib.hid hxx
  rw [hxx] at v0 ⊢
  obtain ⟨E1, hE1⟩ : ∃ E, (chkAll l).1 = E := ⟨_, rfl⟩
  have HE1 := Lib.hid hE1
  have HCA : Hid (∀ W : World, Below w.heap.size w W → Calls Tryz.prog 28 #[.slice A n c] W fun e w' => e = .returned (.tuple #[.int .i64 E1, .int .i64 (chkAll l).2]) ∧ Below W.heap.size W w') := Lib.hid fun W hW => by
    have h := refCheckAll_any A n c l W ((hr.below hW).more hW.size) hn hnb hok
    rw [hE1] at h
    exact h
  clear hrow hrep hr hpn hxx hx hE1 hn
  by_cases h1 : E1 = 0
  case neg =>
    obtain ⟨f1, f2⟩ := fold_ne h1
    have HF := Lib.hid (HP.out E1 h1 (valsE_tab HE1.out h1))
    clear h1
    go_enter Tryz.func11, Tryz.ntmps11
    go_wp2_with fail
    refine (HCA.out _ v0.bel).mono ?_
    rintro e w1 ⟨rfl, b1⟩
    have v1 := Lib.hid (v0.below b1)
    go_wp2
    (try simp only [Exit.inBlock, Exit.then])
    refine bodyPost_ret (v := .tuple #[.slice none 0 0, .int .i64 E1]) (by simp [results, Tryz.results11, go_sem]) rfl ?_
    exact HF.out _ v1.out.bel
  subst h1
  obtain ⟨E2, hE2⟩ : ∃ E, askE pk pa pc = E := ⟨_, rfl⟩
  have HE2 := Lib.hid hE2
  have HCK : Hid (∀ W : World, Calls Tryz.prog 29 #[.agg #[.int .i64 pu, .int .i64 pk, .int .i64 pa, .int .i64 pc, .int .i64 pe, .slice Pt pn pm]] W fun e w' => e = .returned (.tuple #[.agg #[.int .i64 (askN pk pa pc pk), .int .i64 (askN pk pa pc pa), .int .i64 (askN pk pa pc pc), .slice none 0 0, .slice none 0 0, .slice none 0 0], .int .i64 E2]) ∧ Below W.heap.size W w') := Lib.hid fun W => by
    have h := refAsk10_any pu pk pa pc pe Pt pn pm W
    unfold AskedK at h
    rw [hE2] at h
    exact h
  by_cases h2 : E2 = 0
  case neg =>
    obtain ⟨f1, f2⟩ := fold_ne h2
    have HF := Lib.hid (HP.out E2 h2 (valsE_ask HE1.out hE2 h2))
    clear h2 hE2
    generalize askN pk pa pc pk = y1 at *
    generalize askN pk pa pc pa = y2 at *
    generalize askN pk pa pc pc = y3 at *
    go_enter Tryz.func11, Tryz.ntmps11
    go_wp2_with fail
    refine (HCA.out _ v0.bel).mono ?_
    rintro e w1 ⟨rfl, b1⟩
    have v1 := v0.below b1
    obtain ⟨p0, p1, p2, p3, p4, p5⟩ := of6 v1.b1
    clear v0 b1
    go_wp2_with fail
    refine (HCK.out _).mono ?_
    rintro e w2 ⟨rfl, b2⟩
    have v2 := Lib.hid ((v1.below b2).alloc (.cells #[.int .i64 y1, .int .i64 y2, .int .i64 y3, .slice none 0 0, .slice none 0 0, .slice none 0 0] 68))
    clear v1 b2 p0 p1 p2 p3 p4 p5
    go_wp2
    (try simp only [Exit.inBlock, Exit.then])
    refine bodyPost_ret (v := .tuple #[.slice none 0 0, .int .i64 E2]) (by simp [results, Tryz.results11, go_sem]) rfl ?_
    exact HF.out _ v2.out.bel
  subst h2
  have n1 : askN pk pa pc pk = pk := by unfold askN; rw [hE2]; rfl
  have n2 : askN pk pa pc pa = pa := by unfold askN; rw [hE2]; rfl
  have n3 : askN pk pa pc pc = pc := by unfold askN; rw [hE2]; rfl
  rw [n1, n2, n3] at HCK
  clear n1 n2 n3
  obtain ⟨k1, k2, k3, k4⟩ := askE_zero hE2
  have hmo : mostK pk ≤ 2000 := by unfold mostK; split <;> omega
  have K1 := Lib.hid k1
  clear hE2 k1
  obtain ⟨E3, hE3⟩ : ∃ E, chkR (reqK pk pa pc) r = E := ⟨_, rfl⟩
  have HE3 := Lib.hid hE3
  have HRC : Hid (∀ W : World, Below w.heap.size w W → Calls Tryz.prog 30 #[.agg #[.int .i64 pk, .int .i64 pa, .int .i64 pc, .slice none 0 0, .slice none 0 0, .slice none 0 0], .agg #[.int .i64 x, .slice Bo mo eo, .slice Bs ms es, .slice Bf mf ef]] W fun e w' => e = .returned (.int .i64 E3) ∧ Below W.heap.size W w') := Lib.hid fun W hW => by
    have h := refRp_any (reqK pk pa pc) r none none none Bo Bs Bf 0 0 0 0 0 0 mo ms mf eo es ef W (asked_none _ _ _ _ _) ((HRP.out.below hW).more hW.size) (by omega)
    rw [HX.out, hE3] at h
    exact h
  clear hE3
  by_cases h3 : E3 = 0
  case neg =>
    obtain ⟨f1, f2⟩ := fold_ne h3
    have HF := Lib.hid (HP.out E3 h3 (valsE_chk HE1.out HE2.out HE3.out h3))
    clear h3 k2 k3 k4
    go_enter Tryz.func11, Tryz.ntmps11
    go_wp2_with fail
    refine (HCA.out _ v0.bel).mono ?_
    rintro e w1 ⟨rfl, b1⟩
    have v1 := v0.below b1
    obtain ⟨p0, p1, p2, p3, p4, p5⟩ := of6 v1.b1
    clear v0 b1
    go_wp2_with fail
    refine (HCK.out _).mono ?_
    rintro e w2 ⟨rfl, b2⟩
    have v2 := (v1.below b2).alloc (.cells #[.int .i64 pk, .int .i64 pa, .int .i64 pc, .slice none 0 0, .slice none 0 0, .slice none 0 0] 68)
    have hq := heap_alloc_new w2 (.cells #[.int .i64 pk, .int .i64 pa, .int .i64 pc, .slice none 0 0, .slice none 0 0, .slice none 0 0] 68)
    obtain ⟨q0, q1, q2, q3, q4, q5⟩ := of6 hq
    have r0 := cell_of_row _ _ 0 _ _ _ v2.b2
    have r1 := cell_of_row _ _ 1 _ _ _ v2.b2
    have r2 := cell_of_row _ _ 2 _ _ _ v2.b2
    have r3 := cell_of_row _ _ 3 _ _ _ v2.b2
    clear v1 b2 p0 p1 p2 p3 p4 p5 hq
    go_wp2_with fail
    refine (HRC.out _ v2.bel).mono ?_
    rintro e w3 ⟨rfl, b3⟩
    have v3 := Lib.hid (v2.below b3)
    clear v2 b3 q0 q1 q2 q3 q4 q5 r0 r1 r2 r3
    go_wp2
    (try simp only [Exit.inBlock, Exit.then])
    refine bodyPost_ret (v := .tuple #[.slice none 0 0, .int .i64 E3]) (by simp [results, Tryz.results11, go_sem]) rfl ?_
    exact HF.out _ v3.out.bel
  subst h3
  by_cases h4 : x = 0
  case neg =>
    obtain ⟨f1, f2⟩ := fold_ne h4
    have HF := Lib.hid (HP.out 12 (by omega) (valsE_exc HE1.out HE2.out HE3.out (by rw [HX.out]; exact h4)))
    clear h4 k2 k3 k4
    go_enter Tryz.func11, Tryz.ntmps11
    go_wp2_with fail
    refine (HCA.out _ v0.bel).mono ?_
    rintro e w1 ⟨rfl, b1⟩
    have v1 := v0.below b1
    obtain ⟨p0, p1, p2, p3, p4, p5⟩ := of6 v1.b1
    clear v0 b1
    go_wp2_with fail
    refine (HCK.out _).mono ?_
    rintro e w2 ⟨rfl, b2⟩
    have v2 := (v1.below b2).alloc (.cells #[.int .i64 pk, .int .i64 pa, .int .i64 pc, .slice none 0 0, .slice none 0 0, .slice none 0 0] 68)
    have hq := heap_alloc_new w2 (.cells #[.int .i64 pk, .int .i64 pa, .int .i64 pc, .slice none 0 0, .slice none 0 0, .slice none 0 0] 68)
    obtain ⟨q0, q1, q2, q3, q4, q5⟩ := of6 hq
    have r0 := cell_of_row _ _ 0 _ _ _ v2.b2
    have r1 := cell_of_row _ _ 1 _ _ _ v2.b2
    have r2 := cell_of_row _ _ 2 _ _ _ v2.b2
    have r3 := cell_of_row _ _ 3 _ _ _ v2.b2
    clear v1 b2 p0 p1 p2 p3 p4 p5 hq
    go_wp2_with fail
    refine (HRC.out _ v2.bel).mono ?_
    rintro e w3 ⟨rfl, b3⟩
    have v3 := v2.below b3
    clear v2 b3 q0 q1 q2 q3 q4 q5 r0 r1 r2 r3
    have r0 := cell_of_row _ _ 0 _ _ _ v3.b2
    have v3' := Lib.hid v3
    clear v3
    go_wp2
    (try simp only [Exit.inBlock, Exit.then])
    refine bodyPost_ret (v := .tuple #[.slice none 0 0, .int .i64 12]) (by simp [results, Tryz.results11, go_sem]) rfl ?_
    exact HF.out _ v3'.out.bel
  subst h4
  have HG : Hid ((∀ k, k < tg.length → okP l pu pk pa pc (nth tg k) = true) → ∀ v w', KOwn .i64 3 w' w.heap.size v (valsM l ⟨pu, pk, pa, pc, pe, tg⟩ r) → Below w.heap.size w w' → GivesI w (valsL l ⟨pu, pk, pa, pc, pe, tg⟩ r) (valsE l ⟨pu, pk, pa, pc, pe, tg⟩ r) (.returned (.tuple #[v, .int .i64 0])) w') := Lib.hid (fun ha v w' hv hb => by
    have he : valsE l ⟨pu, pk, pa, pc, pe, tg⟩ r = 0 := valsE_good HE1.out HE2.out HE3.out HX.out ha
    rw [valsL_good he, he]
    exact ⟨_, rfl, hv, hb⟩)
  have HBAD : Hid (∀ k, k < tg.length → okP l pu pk pa pc (nth tg k) = false → ∀ w', Below w.heap.size w w' → GivesI w (valsL l ⟨pu, pk, pa, pc, pe, tg⟩ r) (valsE l ⟨pu, pk, pa, pc, pe, tg⟩ r) (.returned (.tuple #[.slice none 0 0, .int .i64 3])) w') := Lib.hid (fun k hk hb => HP.out 3 (by omega) (valsE_bad (p := ⟨pu, pk, pa, pc, pe, tg⟩) HE1.out HE2.out HE3.out HX.out hk hb))
  go_enter Tryz.func11, Tryz.ntmps11
  go_wp2_with fail
  refine (HCA.out _ v0.bel).mono ?_
  rintro e w1 ⟨rfl, b1⟩
  have v1 := v0.below b1
  obtain ⟨p0, p1, p2, p3, p4, p5⟩ := of6 v1.b1
  clear v0 b1
  go_wp2_with fail
  refine (HCK.out _).mono ?_
  rintro e w2 ⟨rfl, b2⟩
  have v2 := (v1.below b2).alloc (.cells #[.int .i64 pk, .int .i64 pa, .int .i64 pc, .slice none 0 0, .slice none 0 0, .slice none 0 0] 68)
  have hq := heap_alloc_new w2 (.cells #[.int .i64 pk, .int .i64 pa, .int .i64 pc, .slice none 0 0, .slice none 0 0, .slice none 0 0] 68)
  obtain ⟨q0, q1, q2, q3, q4, q5⟩ := of6 hq
  have r0 := cell_of_row _ _ 0 _ _ _ v2.b2
  have r1 := cell_of_row _ _ 1 _ _ _ v2.b2
  have r2 := cell_of_row _ _ 2 _ _ _ v2.b2
  have r3 := cell_of_row _ _ 3 _ _ _ v2.b2
  clear v1 b2 p0 p1 p2 p3 p4 p5 hq
  go_wp2_with fail
  refine (HRC.out _ v2.bel).mono ?_
  rintro e w3 ⟨rfl, b3⟩
  have v3 := v2.below b3
  clear v2 b3 q0 q1 q2 q3 q4 q5 r0 r1 r2 r3
  have r0 := cell_of_row _ _ 0 _ _ _ v3.b2
  have v3' := Lib.hid v3
  clear v3
  go_wp2
  go_loopw [11, 12] (fun v i wr => ∃ k : Nat, k ≤ pn ∧ i = .int .i64 k ∧ KOwn .i64 3 wr (w.heap.size + 2) v ((valsM l ⟨pu, pk, pa, pc, pe, tg⟩ r).take k) ∧ Hid (ValH w wr (.cells #[.int .i64 pu, .int .i64 pk, .int .i64 pa, .int .i64 pc, .int .i64 pe, .slice Pt pn pm] 25) (.cells #[.int .i64 0, .slice Bo mo eo, .slice Bs ms es, .slice Bf mf ef] 30)) ∧ Hid (∀ j, j < k → okP l pu pk pa pc (nth tg j) = true)) (fun _ i _ => pn - (intOf i).toNat)
  case atStart => exact ⟨0, by omega, rfl, by rw [List.take_zero]; exact KOwn.nil _ _ _ _, v3', Lib.hid (fun j hj => absurd hj (by omega))⟩
  case round =>
    clear v3' r0
    obtain ⟨k, hk, rfl, hown, hv, hall⟩ := hrel
    obtain ⟨Av, nv, cv, rfl⟩ := hown.sl
    obtain ⟨p0, p1, p2, p3, p4, p5⟩ := of6 hv.out.b1
    by_cases hlt : k < pn
    · have hkl : k < tg.length := by have := hpn'.out; omega
      obtain ⟨b, o, rfl, hb1, hc1⟩ := (HRW.out.below hv.out.bel).at_ hkl
      have hwx := wf_i64 (HRW.out.wf_at hkl)
      obtain ⟨z, hz⟩ : ∃ z, nth tg k = z := ⟨_, rfl⟩
      have HZ := Lib.hid hz
      rw [hz] at hc1 hwx
      clear hz
      have hlt' : (k : Int) < (pn : Int) := by omega
      have hk0 : (0 : Int) ≤ k := by omega
      have hzz : (z == z) = true := by simp
      by_cases hz1 : z < 0
      case pos =>
        have HB : Hid (okP l pu pk pa pc (nth tg k) = false) := Lib.hid (by unfold okP; rw [HZ.out, decide_eq_false (by omega)]; rfl)
        have d1 : decide (z < 0) = true := decide_eq_true hz1
        go_wp2
        go_quiet (fail)
        go_wp2
        (try simp only [Exit.inBlock, Exit.then])
        refine bodyPost_ret (v := .tuple #[.slice none 0 0, .int .i64 3]) (by simp [results, Tryz.results11, go_sem]) rfl ?_
        exact HBAD.out k hkl HB.out _ (below_drewN hv.out.bel _)
      have d1 : decide (z < 0) = false := decide_eq_false hz1
      by_cases hz2 : z ≥ n
      case pos =>
        have HB : Hid (okP l pu pk pa pc (nth tg k) = false) := Lib.hid (by unfold okP; rw [HZ.out, decide_eq_false (show ¬ z < (l.length : Int) by have := hn'.out; omega), Bool.false_and, Bool.and_false])
        have d2 : decide (z ≥ n) = true := decide_eq_true hz2
        have d3 : decide ((n : Int) ≤ z) = true := decide_eq_true hz2
        go_wp2
        go_quiet (fail)
        go_wp2
        (try simp only [Exit.inBlock, Exit.then])
        refine bodyPost_ret (v := .tuple #[.slice none 0 0, .int .i64 3]) (by simp [results, Tryz.results11, go_sem]) rfl ?_
        exact HBAD.out k hkl HB.out _ (below_drewN hv.out.bel _)
      have d2 : decide (z ≥ n) = false := decide_eq_false hz2
      obtain ⟨i, rfl⟩ : ∃ i : Nat, z = (i : Int) := ⟨z.toNat, by omega⟩
      have hil : i < l.length := by have := hn'.out; omega
      have hiln : (i : Int) < n := by omega
      have hi0 : (0 : Int) ≤ i := by omega
      have d4 : decide (n ≤ i) = false := decide_eq_false (by omega)
      have d5 : decide ((n : Int) ≤ (i : Int)) = false := decide_eq_false (by omega)
      have d6 : i < n := by omega
      obtain ⟨bl, ol, hAl, hbl, hld0⟩ := (HVR.out.below hv.out.bel).five hil
      subst hAl
      have HLD : Hid (∀ w9 : World, Below w.heap.size w w9 → (ldTag (.pointer (some ⟨bl, ol + i * 19, none⟩))).run Tryz.prog w9 = .ok (tgV (tgAt l i)) w9) := Lib.hid (fun w9 hb => by
        obtain ⟨b9, o9, e9, _, h9⟩ := (HVR.out.below hb).five hil
        injection e9 with e9
        injection e9 with e9 e9'
        subst e9 e9'
        exact h9)
      have HT0 : Hid (chkT (tgAt l i) = 0) := Lib.hid (tag_right HE1.out hil)
      have hta : 0 ≤ (tgAt l i).ad ∧ (tgAt l i).ad ≤ 65536 := by
        have h := (chkT_zero HT0.out).2.2.2.1
        have := widT_le (tgAt l i)
        omega
      have HWI : Hid (∀ W : World, Calls Tryz.prog 31 #[tgV (tgAt l i), .agg #[.int .i64 pu, .int .i64 pk, .int .i64 pa, .int .i64 pc, .int .i64 pe, .slice (some ⟨b, o, none⟩) pn pm]] W fun e w' => e = .returned (.bool (inP (tgAt l i) pu pk pa pc)) ∧ Below W.heap.size W w') := Lib.hid fun W => refWithin_any pu pk pa pc pe (some ⟨b, o, none⟩) pn pm (tgAt l i) W (by omega) (by omega) hta
      have HOK : Hid (okP l pu pk pa pc (nth tg k) = inP (tgAt l i) pu pk pa pc) := Lib.hid (by unfold okP; rw [HZ.out, decide_eq_true hi0, decide_eq_true (show (i : Int) < (l.length : Int) by omega), Int.toNat_natCast]; rfl)
      have HV2 : Hid (valT (tgAt l (nth tg k).toNat) pa r.on r.set = valT (tgAt l i) pa r.on r.set) := Lib.hid (by rw [HZ.out, Int.toNat_natCast])
      generalize tgAt l i = t at *
      have hbs : b < wr.heap.size := by have := hv.out.sz; omega
      have HKR : Hid (∀ w9 : World, Below wr.heap.size wr w9 → (Below wr.heap.size wr w9 ∧ (ldTag (.pointer (some ⟨bl, ol + i * 19, none⟩))).run Tryz.prog w9 = .ok (tgV t) w9 ∧ (w9.cell? ⟨w.heap.size, 0, none⟩ = some (.int .i64 pu) ∧ w9.cell? ⟨w.heap.size, 1, none⟩ = some (.int .i64 pk) ∧ w9.cell? ⟨w.heap.size, 2, none⟩ = some (.int .i64 pa) ∧ w9.cell? ⟨w.heap.size, 3, none⟩ = some (.int .i64 pc) ∧ w9.cell? ⟨w.heap.size, 4, none⟩ = some (.int .i64 pe) ∧ w9.cell? ⟨w.heap.size, 5, none⟩ = some (.slice (some ⟨b, o, none⟩) pn pm)))) := Lib.hid fun w9 hb => ⟨hb, HLD.out _ (hv.out.below hb).bel, of6 (hv.out.below hb).b1⟩
      have belh : ∀ w9 : World, (Below wr.heap.size wr w9 ∧ (ldTag (.pointer (some ⟨bl, ol + i * 19, none⟩))).run Tryz.prog w9 = .ok (tgV t) w9 ∧ (w9.cell? ⟨w.heap.size, 0, none⟩ = some (.int .i64 pu) ∧ w9.cell? ⟨w.heap.size, 1, none⟩ = some (.int .i64 pk) ∧ w9.cell? ⟨w.heap.size, 2, none⟩ = some (.int .i64 pa) ∧ w9.cell? ⟨w.heap.size, 3, none⟩ = some (.int .i64 pc) ∧ w9.cell? ⟨w.heap.size, 4, none⟩ = some (.int .i64 pe) ∧ w9.cell? ⟨w.heap.size, 5, none⟩ = some (.slice (some ⟨b, o, none⟩) pn pm))) → Below wr.heap.size wr w9 := fun w9 h => h.1
      clear hld0
      go_wp2
      clear p0 p1 p2 p3 p4 p5 hc1
      go_region_held3 (fun w9 => Below wr.heap.size wr w9 ∧ (ldTag (.pointer (some ⟨bl, ol + i * 19, none⟩))).run Tryz.prog w9 = .ok (tgV t) w9 ∧ (w9.cell? ⟨w.heap.size, 0, none⟩ = some (.int .i64 pu) ∧ w9.cell? ⟨w.heap.size, 1, none⟩ = some (.int .i64 pk) ∧ w9.cell? ⟨w.heap.size, 2, none⟩ = some (.int .i64 pa) ∧ w9.cell? ⟨w.heap.size, 3, none⟩ = some (.int .i64 pc) ∧ w9.cell? ⟨w.heap.size, 4, none⟩ = some (.int .i64 pe) ∧ w9.cell? ⟨w.heap.size, 5, none⟩ = some (.slice (some ⟨b, o, none⟩) pn pm)))
        ((refine HKR.out _ ?_
          repeat' (first
            | with_reducible exact Below.refl _ _
            | with_reducible exact bel5
            | with_reducible exact belh _ (by assumption)
            | with_reducible apply below_drew
            | with_reducible apply below_drewN
            | fail)))
        (first
          | (go_at_call 31; refine (HWI.out _).mono ?_; rintro e w5 ⟨rfl, b5⟩; have bel5 : Below wr.heap.size wr w5 := Below.trans (belh _ (by assumption)) (b5.mono (Below.size (belh _ (by assumption)))))
          | fail)
      have hv5 := Lib.hid (hv.out.below bel5)
      have hown5 := hown.below bel5 (Nat.le_refl _)
      clear HKR belh b5 hown
      cases hin : inP t pu pk pa pc
      case false =>
        have HB : Hid (okP l pu pk pa pc (nth tg k) = false) := Lib.hid (by rw [HOK.out, hin])
        go_wp2
        (try simp only [Exit.inBlock, Exit.then])
        refine bodyPost_ret (v := .tuple #[.slice none 0 0, .int .i64 3]) (by simp [results, Tryz.results11, go_sem]) rfl ?_
        exact HBAD.out k hkl HB.out _ hv5.out.bel
      have HIN := Lib.hid hin
      clear hin
      have hall2 : Hid (∀ j, j < k + 1 → okP l pu pk pa pc (nth tg j) = true) := Lib.hid (fun j hj => by
        rcases Nat.lt_or_ge j k with h | h
        · exact hall.out j h
        · obtain rfl : j = k := by omega
          rw [HOK.out]; exact HIN.out)
      have HVA0 : Hid (∀ W : World, Below w.heap.size w W → Calls Tryz.prog 32 #[tgV t, .agg #[.int .i64 pu, .int .i64 pk, .int .i64 pa, .int .i64 pc, .int .i64 pe, .slice (some ⟨b, o, none⟩) pn pm], .agg #[.int .i64 0, .slice Bo mo eo, .slice Bs ms es, .slice Bf mf ef]] W fun e w' => e = .returned (.int .i64 (valT t pa r.on r.set)) ∧ Below W.heap.size W w') := Lib.hid fun W hb =>
        refValue10_any pu pk pa pc pe (some ⟨b, o, none⟩) pn pm 0 Bo Bs Bf mo ms mf eo es ef r t W ((HRP.out.below hb).more hb.size) HIN.out HE2.out HE3.out HX.out hms hes
      have huw := valT_wf t pa r.on r.set
      have HTK : Hid ((valsM l ⟨pu, pk, pa, pc, pe, tg⟩ r).take (k + 1) = (valsM l ⟨pu, pk, pa, pc, pe, tg⟩ r).take k ++ [valT t pa r.on r.set]) := Lib.hid (by
        rw [take_step _ _ (by rw [valsM_len]; exact hkl), valsM_nth _ _ _ _ hkl]
        show _ ++ [valT (tgAt l (nth tg k).toNat) pa r.on r.set] = _
        rw [HV2.out])
      have HLK : Hid (((valsM l ⟨pu, pk, pa, pc, pe, tg⟩ r).take k).length = k) := Lib.hid (by rw [List.length_take, valsM_len]; exact Nat.min_eq_left (Nat.le_of_lt hkl))
      clear HV2
      generalize valT t pa r.on r.set = u at *
      generalize (valsM l ⟨pu, pk, pa, pc, pe, tg⟩ r).take k = vk at *
      have hsz5 := hv5.out.sz
      have HKR : Hid (∀ w9 : World, ValH w w9 (.cells #[.int .i64 pu, .int .i64 pk, .int .i64 pa, .int .i64 pc, .int .i64 pe, .slice (some ⟨b, o, none⟩) pn pm] 25) (.cells #[.int .i64 0, .slice Bo mo eo, .slice Bs ms es, .slice Bf mf ef] 30) → (ValH w w9 (.cells #[.int .i64 pu, .int .i64 pk, .int .i64 pa, .int .i64 pc, .int .i64 pe, .slice (some ⟨b, o, none⟩) pn pm] 25) (.cells #[.int .i64 0, .slice Bo mo eo, .slice Bs ms es, .slice Bf mf ef] 30) ∧ (ldTag (.pointer (some ⟨bl, ol + i * 19, none⟩))).run Tryz.prog w9 = .ok (tgV t) w9 ∧ (w9.cell? ⟨w.heap.size, 0, none⟩ = some (.int .i64 pu) ∧ w9.cell? ⟨w.heap.size, 1, none⟩ = some (.int .i64 pk) ∧ w9.cell? ⟨w.heap.size, 2, none⟩ = some (.int .i64 pa) ∧ w9.cell? ⟨w.heap.size, 3, none⟩ = some (.int .i64 pc) ∧ w9.cell? ⟨w.heap.size, 4, none⟩ = some (.int .i64 pe) ∧ w9.cell? ⟨w.heap.size, 5, none⟩ = some (.slice (some ⟨b, o, none⟩) pn pm)) ∧ (w9.cell? ⟨w.heap.size + 1, 0, none⟩ = some (.int .i64 0) ∧ w9.cell? ⟨w.heap.size + 1, 1, none⟩ = some (.slice Bo mo eo) ∧ w9.cell? ⟨w.heap.size + 1, 2, none⟩ = some (.slice Bs ms es) ∧ w9.cell? ⟨w.heap.size + 1, 3, none⟩ = some (.slice Bf mf ef)))) := Lib.hid fun w9 hb => ⟨hb, HLD.out _ hb.bel, of6 hb.b1, cell_of_row _ _ 0 _ _ _ hb.b2, cell_of_row _ _ 1 _ _ _ hb.b2, cell_of_row _ _ 2 _ _ _ hb.b2, cell_of_row _ _ 3 _ _ _ hb.b2⟩
      have belh : ∀ w9 : World, (ValH w w9 (.cells #[.int .i64 pu, .int .i64 pk, .int .i64 pa, .int .i64 pc, .int .i64 pe, .slice (some ⟨b, o, none⟩) pn pm] 25) (.cells #[.int .i64 0, .slice Bo mo eo, .slice Bs ms es, .slice Bf mf ef] 30) ∧ (ldTag (.pointer (some ⟨bl, ol + i * 19, none⟩))).run Tryz.prog w9 = .ok (tgV t) w9 ∧ (w9.cell? ⟨w.heap.size, 0, none⟩ = some (.int .i64 pu) ∧ w9.cell? ⟨w.heap.size, 1, none⟩ = some (.int .i64 pk) ∧ w9.cell? ⟨w.heap.size, 2, none⟩ = some (.int .i64 pa) ∧ w9.cell? ⟨w.heap.size, 3, none⟩ = some (.int .i64 pc) ∧ w9.cell? ⟨w.heap.size, 4, none⟩ = some (.int .i64 pe) ∧ w9.cell? ⟨w.heap.size, 5, none⟩ = some (.slice (some ⟨b, o, none⟩) pn pm)) ∧ (w9.cell? ⟨w.heap.size + 1, 0, none⟩ = some (.int .i64 0) ∧ w9.cell? ⟨w.heap.size + 1, 1, none⟩ = some (.slice Bo mo eo) ∧ w9.cell? ⟨w.heap.size + 1, 2, none⟩ = some (.slice Bs ms es) ∧ w9.cell? ⟨w.heap.size + 1, 3, none⟩ = some (.slice Bf mf ef))) → ValH w w9 (.cells #[.int .i64 pu, .int .i64 pk, .int .i64 pa, .int .i64 pc, .int .i64 pe, .slice (some ⟨b, o, none⟩) pn pm] 25) (.cells #[.int .i64 0, .slice Bo mo eo, .slice Bs ms es, .slice Bf mf ef] 30) := fun w9 h => h.1
      clear bel5
      go_wp2
      go_region_held3 (fun w9 => ValH w w9 (.cells #[.int .i64 pu, .int .i64 pk, .int .i64 pa, .int .i64 pc, .int .i64 pe, .slice (some ⟨b, o, none⟩) pn pm] 25) (.cells #[.int .i64 0, .slice Bo mo eo, .slice Bs ms es, .slice Bf mf ef] 30) ∧ (ldTag (.pointer (some ⟨bl, ol + i * 19, none⟩))).run Tryz.prog w9 = .ok (tgV t) w9 ∧ (w9.cell? ⟨w.heap.size, 0, none⟩ = some (.int .i64 pu) ∧ w9.cell? ⟨w.heap.size, 1, none⟩ = some (.int .i64 pk) ∧ w9.cell? ⟨w.heap.size, 2, none⟩ = some (.int .i64 pa) ∧ w9.cell? ⟨w.heap.size, 3, none⟩ = some (.int .i64 pc) ∧ w9.cell? ⟨w.heap.size, 4, none⟩ = some (.int .i64 pe) ∧ w9.cell? ⟨w.heap.size, 5, none⟩ = some (.slice (some ⟨b, o, none⟩) pn pm)) ∧ (w9.cell? ⟨w.heap.size + 1, 0, none⟩ = some (.int .i64 0) ∧ w9.cell? ⟨w.heap.size + 1, 1, none⟩ = some (.slice Bo mo eo) ∧ w9.cell? ⟨w.heap.size + 1, 2, none⟩ = some (.slice Bs ms es) ∧ w9.cell? ⟨w.heap.size + 1, 3, none⟩ = some (.slice Bf mf ef)))
        ((refine HKR.out _ ?_
          repeat' (first
            | with_reducible exact hv7
            | with_reducible exact hv6
            | with_reducible exact hv5.out
            | with_reducible exact belh _ (by assumption)
            | with_reducible apply ValH.drew
            | with_reducible apply ValH.drewN
            | with_reducible apply ValH.alloc
            | fail)))
        (first
          | (go_at_call 32; have bh := belh _ (by assumption); refine (HVA0.out _ bh.bel).mono ?_; rintro e w6 ⟨rfl, b6⟩; have hv6 := bh.below b6; have hown6 : KOwn .i64 3 w6 (w.heap.size + 2) (.slice Av nv cv) vk := by first | exact hown5.below b6 (Nat.le_refl _) | exact (KOwn.drew hown5).below b6 (Nat.le_refl _) | exact (KOwn.drew (KOwn.drew hown5)).below b6 (Nat.le_refl _))
          | (refine step_append_K (w6.alloc (.cells #[.int .i64 u] 3)) rfl _ _ 23 rfl (w.heap.size + 2) .i64 3 8 Tryz.underlying23 I.info_i64 _ vk rfl (hown6.alloc _) (w6.heap.size + 1) (some ⟨w6.heap.size, 0, none⟩) 1 1 [u] rfl (Row.one .i64 w6 3 u huw) rfl (Nat.le_refl _) (by have := HLK.out; omega) (by have := HLK.out; simp only [maxLen]; omega) (by have := hv6.sz; simp; omega) ?_; intro v7 w7 own7 g7 _ sl7; have hv7 := (hv6.alloc (.cells #[.int .i64 u] 3)).grown g7 (fun g e => (hown6.block g e).1))
          | fail)
      have HV7 := Lib.hid hv7
      rw [← HTK.out] at own7
      clear HKR belh g7 hown5 hown6 hv6 hv7 b6
      go_wp2
      go_roundw
      case rel => exact ⟨k + 1, by omega, by go_num, own7, HV7, hall2⟩
      case measure => simp [intOf]; omega
    · obtain rfl : k = pn := by omega
      have hx : (valsM l ⟨pu, pk, pa, pc, pe, tg⟩ r).take k = valsM l ⟨pu, pk, pa, pc, pe, tg⟩ r := List.take_of_length_le (by rw [valsM_len]; have := hpn'.out; show tg.length ≤ k; omega)
      rw [hx] at hown
      have HO := Lib.hid (hown.mono (base' := w.heap.size) (by omega))
      clear hx hown
      go_wp2
      (try simp only [Exit.inBlock, Exit.then])
      refine bodyPost_ret (v := .tuple #[.slice Av nv cv, .int .i64 0]) (by simp [results, Tryz.results11, go_sem]) rfl ?_
      exact HG.out (fun j hj => hall.out j (by have := hpn'.out; omega)) _ _ HO.out hv.out.bel
end Go.Proofs.YtcmbdhmhkfhjfaaGreat
namespace Go.Proofs.YtcmbdhmhkfhjfaaGreat
open Go.RowKit
set_option linter.unusedVariables false
set_option maxRecDepth 100000
attribute [local go_sem ↓] ldTag_fold stTag_fold bxTag_fold ldSc_fold
attribute [local go_sem] bxTag_run

theorem raw_t (t : Tg) (A : Option Addr) (n c : Nat) (xs : List Int) (w : World) (hr : Row .u16 w w.heap.size A xs) (hn : xs.length = n) (hb : n ≤ 1000000) : Calls Tryz.prog 54 #[.agg #[.bool t.we, .bool t.sg, .bool t.sw, .int .i64 t.mu, .int .i64 t.di, .int .i64 t.aa], .slice A n c] w fun e w' => e = .returned (.tuple #[.int .i64 (rawN t.sc xs), .int .i64 (rawE t.sc xs)]) ∧ Below w.heap.size w w' :=
  Raw_any t.we t.sg t.sw t.mu t.di t.aa A n c xs w hr hn hb
theorem value_t (t : Tg) (n : Int) (w : World) : Calls Tryz.prog 55 #[.agg #[.bool t.we, .bool t.sg, .bool t.sw, .int .i64 t.mu, .int .i64 t.di, .int .i64 t.aa], .int .i64 n] w fun e w' => e = .returned (.tuple #[.int .i64 (valN t.sc n), .int .i64 (valE t.sc n)]) ∧ Below w.heap.size w w' :=
  Value_any t.we t.sg t.sw t.mu t.di t.aa n w
set_option maxHeartbeats 2000000 in
theorem value10_bits (pu pk pa pc pe : Int) (Pt : Option Addr) (pn pm : Nat) (x : Int) (Bo Bs Bf : Option Addr) (mo ms mf eo es ef : Nat) (on : List Bool) (t : Tg) (k : Nat) (w : World) (hr : L.Row () w w.heap.size Bo on) (hm : on.length = mo) (hk : t.ad - pa = k) (hlt : k < on.length) (hki : t.ki = 1 ∨ t.ki = 2) (hb : mo ≤ 4611686018427387904) :
    Calls Tryz.prog 27 #[tgV t, .agg #[.int .i64 pu, .int .i64 pk, .int .i64 pa, .int .i64 pc, .int .i64 pe, .slice Pt pn pm], .agg #[.int .i64 x, .slice Bo mo eo, .slice Bs ms es, .slice Bf mf ef]] w fun e w' => e = .returned (.int .i64 (if L.nth on k = true then 1 else 0)) ∧ Below w.heap.size w w' := by
  have t3 := Box3.new w (.cells (tgC t).toArray 51) (.cells #[.int .i64 pu, .int .i64 pk, .int .i64 pa, .int .i64 pc, .int .i64 pe, .slice Pt pn pm] 25) (.cells #[.int .i64 x, .slice Bo mo eo, .slice Bs ms es, .slice Bf mf ef] 30)
  obtain ⟨b, o, rfl, hb1, hc1⟩ := (hr.below t3.bel).at_ hlt
  obtain ⟨a0, a1, a2, a3, a4⟩ := tgBox t3.1
  obtain ⟨p0, p1, p2, p3, p4, p5⟩ := of6 t3.2.1
  have r1 := cell_of_row _ _ 1 _ _ _ t3.2.2.1
  have bel := t3.bel
  have hwr : IntKind.i64.wrap (t.ad - pa) = k := by rw [IntKind.wrap_i64]; omega
  have hkm : (k : Int) < mo := by omega
  have hk0 : (0 : Int) ≤ k := by omega
  generalize L.nth on k = v at *
  clear t3 hr hlt hm hk
  have HBI : Hid (∀ W : World, Calls Tryz.prog 52 #[.int .i64 t.ki] W fun e w' => e = .returned (.bool true) ∧ w' = W) := Lib.hid fun W => by
    have h := bits_any t.ki W
    rw [bitK_yes hki] at h
    exact h
  clear hki
  go_enter Tryz.func27, Tryz.ntmps27
  go_wp2_with (first | (go_at_call 52; refine (HBI.out _).mono ?_; rintro e w' ⟨rfl, rfl⟩) | (go_at_call 53; refine (bitValue_any _ _).mono ?_; rintro e w' ⟨rfl, rfl⟩))
  all_goals
    go_ret
    exact ⟨rfl, bel⟩

set_option maxHeartbeats 4000000 in
theorem value10_words (pu pk pa pc pe : Int) (Pt : Option Addr) (pn pm : Nat) (x : Int) (Bo Bs Bf : Option Addr) (mo ms mf eo es ef : Nat) (set : List Int) (t : Tg) (k m : Nat) (w : World) (hr : Row .u16 w w.heap.size Bs set) (hm : set.length = ms) (hk : t.ad - pa = k) (hwd : widT t = m) (hlt : k + m ≤ set.length) (hms : ms ≤ es) (h1 : t.ki ≠ 1) (h2 : t.ki ≠ 2) (hb : es ≤ 9223372036854775807) :
    Calls Tryz.prog 27 #[tgV t, .agg #[.int .i64 pu, .int .i64 pk, .int .i64 pa, .int .i64 pc, .int .i64 pe, .slice Pt pn pm], .agg #[.int .i64 x, .slice Bo mo eo, .slice Bs ms es, .slice Bf mf ef]] w fun e w' => e = .returned (.int .i64 (valN t.sc (rawN t.sc ((set.drop k).take m)))) ∧ Below w.heap.size w w' := by
  have hm12 := widT_le t
  have t3 := Box3.new w (.cells (tgC t).toArray 51) (.cells #[.int .i64 pu, .int .i64 pk, .int .i64 pa, .int .i64 pc, .int .i64 pe, .slice Pt pn pm] 25) (.cells #[.int .i64 x, .slice Bo mo eo, .slice Bs ms es, .slice Bf mf ef] 30)
  have HR := Lib.hid ((hr.below t3.bel).more t3.bel.size)
  obtain ⟨b, o, rfl, hb1, hc1⟩ := hr.at_ (i := k) (by omega)
  obtain ⟨a0, a1, a2, a3, a4⟩ := tgBox t3.1
  obtain ⟨p0, p1, p2, p3, p4, p5⟩ := of6 t3.2.1
  have hwr : IntKind.i64.wrap (t.ad - pa) = k := by rw [IntKind.wrap_i64]; omega
  have hwr2 : IntKind.i64.wrap ((k : Int) + (m : Int)) = (k : Int) + m := by rw [IntKind.wrap_i64]; omega
  have f1 : (t.ki == 1) = false := beq_false_of_ne h1
  have f2 : (t.ki == 2) = false := beq_false_of_ne h2
  have HW : Hid (∀ W : World, Calls Tryz.prog 44 #[tgV t] W fun e w' => e = .returned (.int .i64 (m : Int)) ∧ Below W.heap.size W w') := Lib.hid fun W => by rw [← hwd]; exact width_t t W
  have HL : Hid (((set.drop k).take m).length = m) := Lib.hid (by rw [List.length_take, List.length_drop]; omega)
  have hkm : (k : Int) + m ≤ es := by omega
  have hk0 : (0 : Int) ≤ k := by omega
  have hm1 : (1 : Int) ≤ m := by omega
  have hkm2 : (k : Int) ≤ (k : Int) + m := by omega
  have hkm3 : (0 : Int) ≤ (k : Int) + m := by omega
  have hkm4 : ((k : Int) + m).toNat = k + m := by omega
  have hke : (k : Int) ≤ es := by omega
  have hke2 : ¬ es = k := by omega
  have hm2 : m ≤ 2 := by omega
  have hkes : k < es := by omega
  have hkmn : k + m ≤ es := by omega
  have HBI : Hid (∀ W : World, Calls Tryz.prog 52 #[.int .i64 t.ki] W fun e w' => e = .returned (.bool false) ∧ w' = W) := Lib.hid fun W => by
    have h := bits_any t.ki W
    rw [bitK_no (by omega)] at h
    exact h
  clear hr hc1 hb1 hm hk hwd hlt hms hm12 h1 h2
  have t3' := Lib.hid t3
  clear t3
  go_enter Tryz.func27, Tryz.ntmps27
  go_wp2_with (go_at_call 52; refine (HBI.out _).mono ?_; rintro e w' ⟨rfl, rfl⟩)
  clear a0 a1 a2 a3 a4 p0 p1 p2 p3 p4 p5
  generalize ((w.alloc (.cells (tgC t).toArray 51)).alloc (.cells #[.int .i64 pu, .int .i64 pk, .int .i64 pa, .int .i64 pc, .int .i64 pe, .slice Pt pn pm] 25)).alloc (.cells #[.int .i64 x, .slice Bo mo eo, .slice (some ⟨b, o, none⟩) ms es, .slice Bf mf ef] 30) = w0 at *
  have HK : Hid (∀ w9 : World, Below w0.heap.size w0 w9 → (Below w0.heap.size w0 w9 ∧ (ldSc (.pointer (some ⟨w.heap.size, 5, none⟩))).run Tryz.prog w9 = .ok (.agg #[.bool t.we, .bool t.sg, .bool t.sw, .int .i64 t.mu, .int .i64 t.di, .int .i64 t.aa]) w9 ∧ (ldTag (.pointer (some ⟨w.heap.size, 0, none⟩))).run Tryz.prog w9 = .ok (tgV t) w9 ∧ w9.cell? ⟨w.heap.size + 1 + 1, 2, none⟩ = some (.slice (some ⟨b, o, none⟩) ms es))) := Lib.hid fun w9 hw => ⟨hw, ldSc_run (keepB hw t3'.out.1), tgBox_ld (keepB hw t3'.out.1), cell_of_row _ _ 2 _ _ _ (keepB hw t3'.out.2.2.1)⟩
  have belh : ∀ w9 : World, (Below w0.heap.size w0 w9 ∧ (ldSc (.pointer (some ⟨w.heap.size, 5, none⟩))).run Tryz.prog w9 = .ok (.agg #[.bool t.we, .bool t.sg, .bool t.sw, .int .i64 t.mu, .int .i64 t.di, .int .i64 t.aa]) w9 ∧ (ldTag (.pointer (some ⟨w.heap.size, 0, none⟩))).run Tryz.prog w9 = .ok (tgV t) w9 ∧ w9.cell? ⟨w.heap.size + 1 + 1, 2, none⟩ = some (.slice (some ⟨b, o, none⟩) ms es)) → Below w0.heap.size w0 w9 := fun w9 h => h.1
  go_region_held3 (fun w9 => Below w0.heap.size w0 w9 ∧ (ldSc (.pointer (some ⟨w.heap.size, 5, none⟩))).run Tryz.prog w9 = .ok (.agg #[.bool t.we, .bool t.sg, .bool t.sw, .int .i64 t.mu, .int .i64 t.di, .int .i64 t.aa]) w9 ∧ (ldTag (.pointer (some ⟨w.heap.size, 0, none⟩))).run Tryz.prog w9 = .ok (tgV t) w9 ∧ w9.cell? ⟨w.heap.size + 1 + 1, 2, none⟩ = some (.slice (some ⟨b, o, none⟩) ms es))
    ((refine HK.out _ ?_
      repeat' (first
        | with_reducible exact Below.refl _ _
        | with_reducible exact bel7
        | with_reducible exact bel6
        | with_reducible exact bel5
        | with_reducible exact belh _ (by assumption)
        | with_reducible apply below_drew
        | with_reducible apply below_drewN
        | fail)))
    (first
      | (go_at_call 44; refine (HW.out _).mono ?_; rintro e w5 ⟨rfl, b5⟩; have bel5 : Below w0.heap.size w0 w5 := Below.trans (belh _ (by assumption)) (b5.mono (Below.size (belh _ (by assumption)))))
      | (go_at_call 54; have bh := belh _ (by assumption); refine (raw_t t _ m _ ((set.drop k).take m) _ (((HR.out.below bh).more bh.size).piece k m) HL.out (by omega)).mono ?_; rintro e w7 ⟨rfl, b7⟩; have bel7 : Below w0.heap.size w0 w7 := Below.trans bh (b7.mono bh.size))
      | fail)
  have h7 := keepB bel7 t3'.out.1
  have hsc := ldSc_run h7
  have BEL := Lib.hid (t3'.out.bel.trans (bel7.mono t3'.out.bel.size))
  go_wp2_with fail
  refine (value_t t _ _).mono ?_
  rintro e w8 ⟨rfl, b8⟩
  go_wp2
  go_ret
  exact ⟨rfl, BEL.out.trans (b8.mono BEL.out.size)⟩
theorem value10_any (pu pk pa pc pe : Int) (Pt : Option Addr) (pn pm : Nat) (x : Int) (Bo Bs Bf : Option Addr) (mo ms mf eo es ef : Nat) (r : Rep) (t : Tg) (w : World) (hr : Repd w w.heap.size r Bo Bs Bf mo ms mf) (hin : inP t pu pk pa pc = true) (hask : askE pk pa pc = 0) (hchk : chkR (reqK pk pa pc) r = 0) (hx : r.x = 0) (hms : ms ≤ es) (hb : es ≤ 9223372036854775807) :
    Calls Tryz.prog 27 #[tgV t, .agg #[.int .i64 pu, .int .i64 pk, .int .i64 pa, .int .i64 pc, .int .i64 pe, .slice Pt pn pm], .agg #[.int .i64 x, .slice Bo mo eo, .slice Bs ms es, .slice Bf mf ef]] w fun e w' => e = .returned (.int .i64 (valT t pa r.on r.set)) ∧ Below w.heap.size w w' := by
  obtain ⟨i1, i2, i3, i4⟩ := inP_iff.1 hin
  obtain ⟨k1, k2, k3, k4⟩ := askE_zero hask
  obtain ⟨n1, n2⟩ := chkR_len k1 hchk hx
  have hw := widT_le t
  have hmo : mostK pk ≤ 2000 := by unfold mostK; split <;> omega
  obtain ⟨k, hk⟩ : ∃ k : Nat, t.ad - pa = k := ⟨(t.ad - pa).toNat, by omega⟩
  obtain ⟨m, hm⟩ : ∃ m : Nat, widT t = m := ⟨(widT t).toNat, by omega⟩
  unfold valT
  rw [hk, hm, Int.toNat_natCast, Int.toNat_natCast]
  by_cases hki : t.ki = 1 ∨ t.ki = 2
  · rw [if_pos hki]
    have := n1 (by rw [← i2]; exact hki)
    exact value10_bits pu pk pa pc pe Pt pn pm x Bo Bs Bf mo ms mf eo es ef r.on t k w hr.on hr.mo hk (by omega) hki (by have := hr.mo; omega)
  · rw [if_neg hki]
    have := n2 (by rw [← i2]; exact hki)
    exact value10_words pu pk pa pc pe Pt pn pm x Bo Bs Bf mo ms mf eo es ef r.set t k m w hr.set hr.ms hk hm (by omega) hms (fun h => hki (.inl h)) (fun h => hki (.inr h)) hb

end Go.Proofs.YtcmbdhmhkfhjfaaGreat
namespace Go.Proofs.YtcmbdhmhkfhjfaaGreat
open Go.RowKit
set_option linter.unusedVariables false
set_option maxRecDepth 100000
attribute [local go_sem ↓] ldTag_fold stTag_fold bxTag_fold
attribute [local go_sem] bxTag_run

def ansE (l : List Tg) (p : Pol) (r : Rep) : Int :=
  if (chkAll l).1 ≠ 0 then (chkAll l).1 else if askE p.ki p.ad p.ct ≠ 0 then askE p.ki p.ad p.ct else if chkR (reqK p.ki p.ad p.ct) r ≠ 0 then chkR (reqK p.ki p.ad p.ct) r else if r.x ≠ 0 then 12 else 0
theorem ansE_tab {l : List Tg} {p : Pol} {r : Rep} {E : Int} (h : (chkAll l).1 = E) (h0 : E ≠ 0) : ansE l p r = E := by unfold ansE; rw [h, if_pos h0]
theorem ansE_ask {l : List Tg} {p : Pol} {r : Rep} {E : Int} (h : (chkAll l).1 = 0) (h1 : askE p.ki p.ad p.ct = E) (h0 : E ≠ 0) : ansE l p r = E := by unfold ansE; rw [h, if_neg (by omega), h1, if_pos h0]
theorem ansE_chk {l : List Tg} {p : Pol} {r : Rep} {E : Int} (h : (chkAll l).1 = 0) (h1 : askE p.ki p.ad p.ct = 0) (h2 : chkR (reqK p.ki p.ad p.ct) r = E) (h0 : E ≠ 0) : ansE l p r = E := by unfold ansE; rw [h, if_neg (by omega), h1, if_neg (by omega), h2, if_pos h0]
theorem ansE_exc {l : List Tg} {p : Pol} {r : Rep} (h : (chkAll l).1 = 0) (h1 : askE p.ki p.ad p.ct = 0) (h2 : chkR (reqK p.ki p.ad p.ct) r = 0) (h0 : r.x ≠ 0) : ansE l p r = 12 := by unfold ansE; rw [h, if_neg (by omega), h1, if_neg (by omega), h2, if_neg (by omega), if_pos h0]
theorem ansE_all {l : List Tg} {p : Pol} {r : Rep} (h : (chkAll l).1 = 0) (h1 : askE p.ki p.ad p.ct = 0) (h2 : chkR (reqK p.ki p.ad p.ct) r = 0) (h3 : r.x = 0) : ansE l p r = 0 := by unfold ansE; rw [h, if_neg (by omega), h1, if_neg (by omega), h2, if_neg (by omega), if_neg (by omega)]
theorem ansE_zero {l : List Tg} {p : Pol} {r : Rep} (h : ansE l p r = 0) : (chkAll l).1 = 0 ∧ askE p.ki p.ad p.ct = 0 ∧ chkR (reqK p.ki p.ad p.ct) r = 0 ∧ r.x = 0 := by
  unfold ansE at h
  by_cases h1 : (chkAll l).1 = 0
  · rw [if_neg (by omega)] at h
    by_cases h2 : askE p.ki p.ad p.ct = 0
    · rw [if_neg (by omega)] at h
      by_cases h3 : chkR (reqK p.ki p.ad p.ct) r = 0
      · rw [if_neg (by omega)] at h
        by_cases h4 : r.x = 0
        · exact ⟨h1, h2, h3, h4⟩
        · rw [if_pos h4] at h; cases h
      · rw [if_pos h3] at h; exact absurd h h3
    · rw [if_pos h2] at h; exact absurd h h2
  · rw [if_pos h1] at h; exact absurd h h1
theorem valsE_ans {l : List Tg} {p : Pol} {r : Rep} (h : ansE l p r ≠ 0) : valsE l p r = ansE l p r := by
  by_cases h1 : (chkAll l).1 = 0
  · by_cases h2 : askE p.ki p.ad p.ct = 0
    · by_cases h3 : chkR (reqK p.ki p.ad p.ct) r = 0
      · by_cases h4 : r.x = 0
        · exact absurd (ansE_all h1 h2 h3 h4) h
        · rw [valsE_exc h1 h2 h3 h4, ansE_exc h1 h2 h3 h4]
      · rw [valsE_chk h1 h2 rfl h3, ansE_chk h1 h2 rfl h3]
    · rw [valsE_ask h1 rfl h2, ansE_ask h1 rfl h2]
  · rw [valsE_tab rfl h1, ansE_tab rfl h1]
set_option maxHeartbeats 8000000 in
theorem checkAnswer_any (A : Option Addr) (n c : Nat) (l : List Tg) (pu pk pa pc pe : Int) (Pt : Option Addr) (pn pm : Nat) (tg : List Int) (Bo Bs Bf : Option Addr) (mo ms mf eo es ef : Nat) (r : Rep) (w : World) (hr : VRow w w.heap.size A (flatV tgC l)) (hn : l.length = n) (hnb : n ≤ 4611686018427387904) (hok : ∀ t ∈ l, Tg.Ok t)
    (hrow : Row .i64 w w.heap.size Pt tg) (hpn : tg.length = pn) (hpb : pn ≤ 100000) (hrep : Repd w w.heap.size r Bo Bs Bf mo ms mf) (hms : ms ≤ es) (hes : es ≤ 9223372036854775807) (hx : (Lit.int .i64 r.x).wf = true) :
    Calls Tryz.prog 25 #[.slice A n c, .agg #[.int .i64 pu, .int .i64 pk, .int .i64 pa, .int .i64 pc, .int .i64 pe, .slice Pt pn pm], .agg #[.int .i64 r.x, .slice Bo mo eo, .slice Bs ms es, .slice Bf mf ef]] w fun e w' => e = .returned (.int .i64 (ansE l ⟨pu, pk, pa, pc, pe, tg⟩ r)) ∧ Below w.heap.size w w' := by
  have HP : Hid (∀ E, ansE l ⟨pu, pk, pa, pc, pe, tg⟩ r = E → ∀ w', Below w.heap.size w w' → Ending.returned (.int .i64 E) = .returned (.int .i64 (ansE l ⟨pu, pk, pa, pc, pe, tg⟩ r)) ∧ Below w.heap.size w w') := Lib.hid (fun E h w' hb => ⟨by rw [h], hb⟩)
  have v0 := ValH.new w (.cells #[.int .i64 pu, .int .i64 pk, .int .i64 pa, .int .i64 pc, .int .i64 pe, .slice Pt pn pm] 25) (.cells #[.int .i64 r.x, .slice Bo mo eo, .slice Bs ms es, .slice Bf mf ef] 30)
  have HRW := Lib.hid hrow
  have HRP := Lib.hid hrep
  have HVR := Lib.hid hr
  have hpn' := Lib.hid hpn
  have hn' := Lib.hid hn
  obtain ⟨x, hxx⟩ : ∃ x, r.x = x := ⟨_, rfl⟩
  have HX := Lib.hid hxx
  rw [hxx] at v0 ⊢
  obtain ⟨E1, hE1⟩ : ∃ E, (chkAll l).1 = E := ⟨_, rfl⟩
  have HE1 := Lib.hid hE1
  have HCA : Hid (∀ W : World, Below w.heap.size w W → Calls Tryz.prog 42 #[.slice A n c] W fun e w' => e = .returned (.tuple #[.int .i64 E1, .int .i64 (chkAll l).2]) ∧ Below W.heap.size W w') := Lib.hid fun W hW => by
    have h := CheckAll9_any A n c l W ((hr.below hW).more hW.size) hn hnb hok
    rw [hE1] at h
    exact h
  clear hrow hrep hr hpn hxx hx hE1 hn
  by_cases h1 : E1 = 0
  case neg =>
    obtain ⟨f1, f2⟩ := fold_ne h1
    have HF := Lib.hid (HP.out E1 (ansE_tab HE1.out h1))
    clear h1
    go_enter Tryz.func25, Tryz.ntmps25
    go_wp2_with fail
    refine (HCA.out _ v0.bel).mono ?_
    rintro e w1 ⟨rfl, b1⟩
    have v1 := Lib.hid (v0.below b1)
    go_wp2
    go_ret
    exact HF.out _ v1.out.bel
  subst h1
  obtain ⟨E2, hE2⟩ : ∃ E, askE pk pa pc = E := ⟨_, rfl⟩
  have HE2 := Lib.hid hE2
  have HCK : Hid (∀ W : World, Calls Tryz.prog 43 #[.agg #[.int .i64 pu, .int .i64 pk, .int .i64 pa, .int .i64 pc, .int .i64 pe, .slice Pt pn pm]] W fun e w' => e = .returned (.tuple #[.agg #[.int .i64 (askN pk pa pc pk), .int .i64 (askN pk pa pc pa), .int .i64 (askN pk pa pc pc), .slice none 0 0, .slice none 0 0, .slice none 0 0], .int .i64 E2]) ∧ Below W.heap.size W w') := Lib.hid fun W => by
    have h := Ask10_any pu pk pa pc pe Pt pn pm W
    unfold AskedK at h
    rw [hE2] at h
    exact h
  by_cases h2 : E2 = 0
  case neg =>
    obtain ⟨f1, f2⟩ := fold_ne h2
    have HF := Lib.hid (HP.out E2 (ansE_ask HE1.out hE2 h2))
    clear h2 hE2
    generalize askN pk pa pc pk = y1 at *
    generalize askN pk pa pc pa = y2 at *
    generalize askN pk pa pc pc = y3 at *
    go_enter Tryz.func25, Tryz.ntmps25
    go_wp2_with fail
    refine (HCA.out _ v0.bel).mono ?_
    rintro e w1 ⟨rfl, b1⟩
    have v1 := v0.below b1
    obtain ⟨p0, p1, p2, p3, p4, p5⟩ := of6 v1.b1
    clear v0 b1
    go_wp2_with fail
    refine (HCK.out _).mono ?_
    rintro e w2 ⟨rfl, b2⟩
    have v2 := Lib.hid ((v1.below b2).alloc (.cells #[.int .i64 y1, .int .i64 y2, .int .i64 y3, .slice none 0 0, .slice none 0 0, .slice none 0 0] 68))
    clear v1 b2 p0 p1 p2 p3 p4 p5
    go_wp2
    go_ret
    exact HF.out _ v2.out.bel
  subst h2
  have n1 : askN pk pa pc pk = pk := by unfold askN; rw [hE2]; rfl
  have n2 : askN pk pa pc pa = pa := by unfold askN; rw [hE2]; rfl
  have n3 : askN pk pa pc pc = pc := by unfold askN; rw [hE2]; rfl
  rw [n1, n2, n3] at HCK
  clear n1 n2 n3
  obtain ⟨k1, k2, k3, k4⟩ := askE_zero hE2
  have hmo : mostK pk ≤ 2000 := by unfold mostK; split <;> omega
  have K1 := Lib.hid k1
  clear hE2 k1
  obtain ⟨E3, hE3⟩ : ∃ E, chkR (reqK pk pa pc) r = E := ⟨_, rfl⟩
  have HE3 := Lib.hid hE3
  have HRC : Hid (∀ W : World, Below w.heap.size w W → Calls Tryz.prog 50 #[.agg #[.int .i64 pk, .int .i64 pa, .int .i64 pc, .slice none 0 0, .slice none 0 0, .slice none 0 0], .agg #[.int .i64 x, .slice Bo mo eo, .slice Bs ms es, .slice Bf mf ef]] W fun e w' => e = .returned (.int .i64 E3) ∧ Below W.heap.size W w') := Lib.hid fun W hW => by
    have h := rpCheck_any (reqK pk pa pc) r none none none Bo Bs Bf 0 0 0 0 0 0 mo ms mf eo es ef W (asked_none _ _ _ _ _) ((HRP.out.below hW).more hW.size) (by omega)
    rw [HX.out, hE3] at h
    exact h
  clear hE3
  by_cases h3 : E3 = 0
  case neg =>
    obtain ⟨f1, f2⟩ := fold_ne h3
    have HF := Lib.hid (HP.out E3 (ansE_chk HE1.out HE2.out HE3.out h3))
    clear h3 k2 k3 k4
    go_enter Tryz.func25, Tryz.ntmps25
    go_wp2_with fail
    refine (HCA.out _ v0.bel).mono ?_
    rintro e w1 ⟨rfl, b1⟩
    have v1 := v0.below b1
    obtain ⟨p0, p1, p2, p3, p4, p5⟩ := of6 v1.b1
    clear v0 b1
    go_wp2_with fail
    refine (HCK.out _).mono ?_
    rintro e w2 ⟨rfl, b2⟩
    have v2 := (v1.below b2).alloc (.cells #[.int .i64 pk, .int .i64 pa, .int .i64 pc, .slice none 0 0, .slice none 0 0, .slice none 0 0] 68)
    have hq := heap_alloc_new w2 (.cells #[.int .i64 pk, .int .i64 pa, .int .i64 pc, .slice none 0 0, .slice none 0 0, .slice none 0 0] 68)
    obtain ⟨q0, q1, q2, q3, q4, q5⟩ := of6 hq
    have r0 := cell_of_row _ _ 0 _ _ _ v2.b2
    have r1 := cell_of_row _ _ 1 _ _ _ v2.b2
    have r2 := cell_of_row _ _ 2 _ _ _ v2.b2
    have r3 := cell_of_row _ _ 3 _ _ _ v2.b2
    clear v1 b2 p0 p1 p2 p3 p4 p5 hq
    go_wp2_with fail
    refine (HRC.out _ v2.bel).mono ?_
    rintro e w3 ⟨rfl, b3⟩
    have v3 := Lib.hid (v2.below b3)
    clear v2 b3 q0 q1 q2 q3 q4 q5 r0 r1 r2 r3
    go_wp2
    go_ret
    exact HF.out _ v3.out.bel
  subst h3
  by_cases h4 : x = 0
  case neg =>
    obtain ⟨f1, f2⟩ := fold_ne h4
    have HF := Lib.hid (HP.out 12 (ansE_exc HE1.out HE2.out HE3.out (by rw [HX.out]; exact h4)))
    clear h4 k2 k3 k4
    go_enter Tryz.func25, Tryz.ntmps25
    go_wp2_with fail
    refine (HCA.out _ v0.bel).mono ?_
    rintro e w1 ⟨rfl, b1⟩
    have v1 := v0.below b1
    obtain ⟨p0, p1, p2, p3, p4, p5⟩ := of6 v1.b1
    clear v0 b1
    go_wp2_with fail
    refine (HCK.out _).mono ?_
    rintro e w2 ⟨rfl, b2⟩
    have v2 := (v1.below b2).alloc (.cells #[.int .i64 pk, .int .i64 pa, .int .i64 pc, .slice none 0 0, .slice none 0 0, .slice none 0 0] 68)
    have hq := heap_alloc_new w2 (.cells #[.int .i64 pk, .int .i64 pa, .int .i64 pc, .slice none 0 0, .slice none 0 0, .slice none 0 0] 68)
    obtain ⟨q0, q1, q2, q3, q4, q5⟩ := of6 hq
    have r0 := cell_of_row _ _ 0 _ _ _ v2.b2
    have r1 := cell_of_row _ _ 1 _ _ _ v2.b2
    have r2 := cell_of_row _ _ 2 _ _ _ v2.b2
    have r3 := cell_of_row _ _ 3 _ _ _ v2.b2
    clear v1 b2 p0 p1 p2 p3 p4 p5 hq
    go_wp2_with fail
    refine (HRC.out _ v2.bel).mono ?_
    rintro e w3 ⟨rfl, b3⟩
    have v3 := v2.below b3
    clear v2 b3 q0 q1 q2 q3 q4 q5 r0 r1 r2 r3
    have r0 := cell_of_row _ _ 0 _ _ _ v3.b2
    have v3' := Lib.hid v3
    clear v3
    go_wp2
    go_ret
    exact HF.out _ v3'.out.bel
  subst h4
  have HF := Lib.hid (HP.out 0 (ansE_all HE1.out HE2.out HE3.out HX.out))
  clear k2 k3 k4
  go_enter Tryz.func25, Tryz.ntmps25
  go_wp2_with fail
  refine (HCA.out _ v0.bel).mono ?_
  rintro e w1 ⟨rfl, b1⟩
  have v1 := v0.below b1
  obtain ⟨p0, p1, p2, p3, p4, p5⟩ := of6 v1.b1
  clear v0 b1
  go_wp2_with fail
  refine (HCK.out _).mono ?_
  rintro e w2 ⟨rfl, b2⟩
  have v2 := (v1.below b2).alloc (.cells #[.int .i64 pk, .int .i64 pa, .int .i64 pc, .slice none 0 0, .slice none 0 0, .slice none 0 0] 68)
  have hq := heap_alloc_new w2 (.cells #[.int .i64 pk, .int .i64 pa, .int .i64 pc, .slice none 0 0, .slice none 0 0, .slice none 0 0] 68)
  obtain ⟨q0, q1, q2, q3, q4, q5⟩ := of6 hq
  have r0 := cell_of_row _ _ 0 _ _ _ v2.b2
  have r1 := cell_of_row _ _ 1 _ _ _ v2.b2
  have r2 := cell_of_row _ _ 2 _ _ _ v2.b2
  have r3 := cell_of_row _ _ 3 _ _ _ v2.b2
  clear v1 b2 p0 p1 p2 p3 p4 p5 hq
  go_wp2_with fail
  refine (HRC.out _ v2.bel).mono ?_
  rintro e w3 ⟨rfl, b3⟩
  have v3 := v2.below b3
  clear v2 b3 q0 q1 q2 q3 q4 q5 r0 r1 r2 r3
  have r0 := cell_of_row _ _ 0 _ _ _ v3.b2
  have v3' := Lib.hid v3
  clear v3
  go_wp2
  go_ret
  exact HF.out _ v3'.out.bel

set_option maxHeartbeats 8000000 in
theorem Values10_any (A : Option Addr) (n c : Nat) (l : List Tg) (pu pk pa pc pe : Int) (Pt : Option Addr) (pn pm : Nat) (tg : List Int) (Bo Bs Bf : Option Addr) (mo ms mf eo es ef : Nat) (r : Rep) (w : World) (hr : VRow w w.heap.size A (flatV tgC l)) (hn : l.length = n) (hnb : n ≤ 4611686018427387904) (hok : ∀ t ∈ l, Tg.Ok t)
    (hrow : Row .i64 w w.heap.size Pt tg) (hpn : tg.length = pn) (hpb : pn ≤ 100000) (hrep : Repd w w.heap.size r Bo Bs Bf mo ms mf) (hms : ms ≤ es) (hes : es ≤ 9223372036854775807) (hx : (Lit.int .i64 r.x).wf = true) :
    Calls Tryz.prog 10 #[.slice A n c, .agg #[.int .i64 pu, .int .i64 pk, .int .i64 pa, .int .i64 pc, .int .i64 pe, .slice Pt pn pm], .agg #[.int .i64 r.x, .slice Bo mo eo, .slice Bs ms es, .slice Bf mf ef]] w (GivesI w (valsL l ⟨pu, pk, pa, pc, pe, tg⟩ r) (valsE l ⟨pu, pk, pa, pc, pe, tg⟩ r)) := by
  have HP : Hid (∀ E, E ≠ 0 → valsE l ⟨pu, pk, pa, pc, pe, tg⟩ r = E → ∀ w', Below w.heap.size w w' → GivesI w (valsL l ⟨pu, pk, pa, pc, pe, tg⟩ r) (valsE l ⟨pu, pk, pa, pc, pe, tg⟩ r) (.returned (.tuple #[.slice none 0 0, .int .i64 E])) w') := Lib.hid (fun E h0 h w' hb => by
    have hne : valsE l ⟨pu, pk, pa, pc, pe, tg⟩ r ≠ 0 := by rw [h]; exact h0
    rw [valsL_bad hne, h]
    exact ⟨_, rfl, KOwn.nil _ _ _ _, hb⟩)
  have v0 := ValH.new w (.cells #[.int .i64 pu, .int .i64 pk, .int .i64 pa, .int .i64 pc, .int .i64 pe, .slice Pt pn pm] 25) (.cells #[.int .i64 r.x, .slice Bo mo eo, .slice Bs ms es, .slice Bf mf ef] 30)
  have HRW := Lib.hid hrow
  have HRP := Lib.hid hrep
  have HVR := Lib.hid hr
  have hpn' := Lib.hid hpn
  have hn' := Lib.hid hn
  obtain ⟨x, hxx⟩ : ∃ x, r.x = x := ⟨_, rfl⟩
  have HX := Lib.hid hxx
  rw [hxx] at v0 ⊢
  obtain ⟨E1, hE1⟩ : ∃ E, (chkAll l).1 = E := ⟨_, rfl⟩
  have HE1 := Lib.hid hE1
  have HCA : Hid (∀ W : World, Below w.heap.size w W → Calls Tryz.prog 42 #[.slice A n c] W fun e w' => e = .returned (.tuple #[.int .i64 E1, .int .i64 (chkAll l).2]) ∧ Below W.heap.size W w') := Lib.hid fun W hW => by
    have h := CheckAll9_any A n c l W ((hr.below hW).more hW.size) hn hnb hok
    rw [hE1] at h
    exact h
  have hxw := hx
  clear hrow hrep hr hpn hxx hx hE1 hn
  clear HCA HE1
  obtain ⟨E0, hE0⟩ : ∃ E, ansE l ⟨pu, pk, pa, pc, pe, tg⟩ r = E := ⟨_, rfl⟩
  have HCH : Hid (∀ W : World, Below w.heap.size w W → Calls Tryz.prog 25 #[.slice A n c, .agg #[.int .i64 pu, .int .i64 pk, .int .i64 pa, .int .i64 pc, .int .i64 pe, .slice Pt pn pm], .agg #[.int .i64 x, .slice Bo mo eo, .slice Bs ms es, .slice Bf mf ef]] W fun e w' => e = .returned (.int .i64 E0) ∧ Below W.heap.size W w') := Lib.hid fun W hW => by
    have h := checkAnswer_any A n c l pu pk pa pc pe Pt pn pm tg Bo Bs Bf mo ms mf eo es ef r W ((HVR.out.below hW).more hW.size) hn'.out hnb hok ((HRW.out.below hW).more hW.size) hpn'.out hpb ((HRP.out.below hW).more hW.size) hms hes hxw
    rw [HX.out, hE0] at h
    exact h
  by_cases h0 : E0 = 0
  case neg =>
    obtain ⟨f1, f2⟩ := fold_ne h0
    have HF := Lib.hid (HP.out E0 h0 (by rw [valsE_ans (by rw [hE0]; exact h0), hE0]))
    obtain ⟨p0, p1, p2, p3, p4, p5⟩ := of6 v0.b1
    have r0 := cell_of_row _ _ 0 _ _ _ v0.b2
    have r1 := cell_of_row _ _ 1 _ _ _ v0.b2
    have r2 := cell_of_row _ _ 2 _ _ _ v0.b2
    have r3 := cell_of_row _ _ 3 _ _ _ v0.b2
    clear h0 hE0
    go_enter Tryz.func10, Tryz.ntmps10
    go_wp2_with fail
    refine (HCH.out _ v0.bel).mono ?_
    rintro e w1 ⟨rfl, b1⟩
    have v1 := Lib.hid (v0.below b1)
    clear p0 p1 p2 p3 p4 p5 r0 r1 r2 r3
    go_wp2
    (try simp only [Exit.inBlock, Exit.then])
    refine bodyPost_ret (v := .tuple #[.slice none 0 0, .int .i64 E0]) (by simp [results, Tryz.results10, go_sem]) rfl ?_
    exact HF.out _ v1.out.bel
  subst h0
  obtain ⟨e1, e2, e3, e4⟩ := ansE_zero hE0
  have HE1 := Lib.hid e1
  have HE2 : Hid (askE pk pa pc = 0) := Lib.hid e2
  have HE3 : Hid (chkR (reqK pk pa pc) r = 0) := Lib.hid e3
  obtain rfl : x = 0 := by have := HX.out; omega
  obtain ⟨k1, k2, k3, k4⟩ := askE_zero HE2.out
  have hmo : mostK pk ≤ 2000 := by unfold mostK; split <;> omega
  clear hE0 e1 e2 e3 e4 k1
  have HG : Hid ((∀ k, k < tg.length → okP l pu pk pa pc (nth tg k) = true) → ∀ v w', KOwn .i64 3 w' w.heap.size v (valsM l ⟨pu, pk, pa, pc, pe, tg⟩ r) → Below w.heap.size w w' → GivesI w (valsL l ⟨pu, pk, pa, pc, pe, tg⟩ r) (valsE l ⟨pu, pk, pa, pc, pe, tg⟩ r) (.returned (.tuple #[v, .int .i64 0])) w') := Lib.hid (fun ha v w' hv hb => by
    have he : valsE l ⟨pu, pk, pa, pc, pe, tg⟩ r = 0 := valsE_good HE1.out HE2.out HE3.out HX.out ha
    rw [valsL_good he, he]
    exact ⟨_, rfl, hv, hb⟩)
  have HBAD : Hid (∀ k, k < tg.length → okP l pu pk pa pc (nth tg k) = false → ∀ w', Below w.heap.size w w' → GivesI w (valsL l ⟨pu, pk, pa, pc, pe, tg⟩ r) (valsE l ⟨pu, pk, pa, pc, pe, tg⟩ r) (.returned (.tuple #[.slice none 0 0, .int .i64 3])) w') := Lib.hid (fun k hk hb => HP.out 3 (by omega) (valsE_bad (p := ⟨pu, pk, pa, pc, pe, tg⟩) HE1.out HE2.out HE3.out HX.out hk hb))
  obtain ⟨p0, p1, p2, p3, p4, p5⟩ := of6 v0.b1
  have r0 := cell_of_row _ _ 0 _ _ _ v0.b2
  have r1 := cell_of_row _ _ 1 _ _ _ v0.b2
  have r2 := cell_of_row _ _ 2 _ _ _ v0.b2
  have r3 := cell_of_row _ _ 3 _ _ _ v0.b2
  go_enter Tryz.func10, Tryz.ntmps10
  go_wp2_with fail
  refine (HCH.out _ v0.bel).mono ?_
  rintro e w1 ⟨rfl, b1⟩
  have v1 := v0.below b1
  clear v0 b1 p0 p1 p2 p3 p4 p5 r0 r1 r2 r3
  obtain ⟨p0, p1, p2, p3, p4, p5⟩ := of6 v1.b1
  have v3' := Lib.hid v1
  clear v1
  go_wp2
  go_loopw [9, 22] (fun v i wr => ∃ k : Nat, k ≤ pn ∧ i = .int .i64 k ∧ KOwn .i64 3 wr (w.heap.size + 2) v ((valsM l ⟨pu, pk, pa, pc, pe, tg⟩ r).take k) ∧ Hid (ValH w wr (.cells #[.int .i64 pu, .int .i64 pk, .int .i64 pa, .int .i64 pc, .int .i64 pe, .slice Pt pn pm] 25) (.cells #[.int .i64 0, .slice Bo mo eo, .slice Bs ms es, .slice Bf mf ef] 30)) ∧ Hid (∀ j, j < k → okP l pu pk pa pc (nth tg j) = true)) (fun _ i _ => pn - (intOf i).toNat)
  case atStart => exact ⟨0, by omega, rfl, by rw [List.take_zero]; exact KOwn.nil _ _ _ _, v3', Lib.hid (fun j hj => absurd hj (by omega))⟩
  case round =>
    clear v3'
    obtain ⟨k, hk, rfl, hown, hv, hall⟩ := hrel
    obtain ⟨Av, nv, cv, rfl⟩ := hown.sl
    obtain ⟨p0, p1, p2, p3, p4, p5⟩ := of6 hv.out.b1
    by_cases hlt : k < pn
    · have hkl : k < tg.length := by have := hpn'.out; omega
      obtain ⟨b, o, rfl, hb1, hc1⟩ := (HRW.out.below hv.out.bel).at_ hkl
      have hwx := wf_i64 (HRW.out.wf_at hkl)
      obtain ⟨z, hz⟩ : ∃ z, nth tg k = z := ⟨_, rfl⟩
      have HZ := Lib.hid hz
      rw [hz] at hc1 hwx
      clear hz
      have hlt' : (k : Int) < (pn : Int) := by omega
      have hk0 : (0 : Int) ≤ k := by omega
      have hzz : (z == z) = true := by simp
      by_cases hz1 : z < 0
      case pos =>
        have HB : Hid (okP l pu pk pa pc (nth tg k) = false) := Lib.hid (by unfold okP; rw [HZ.out, decide_eq_false (by omega)]; rfl)
        have d1 : decide (z < 0) = true := decide_eq_true hz1
        go_wp2
        go_quiet (fail)
        go_wp2
        (try simp only [Exit.inBlock, Exit.then])
        refine bodyPost_ret (v := .tuple #[.slice none 0 0, .int .i64 3]) (by simp [results, Tryz.results10, go_sem]) rfl ?_
        exact HBAD.out k hkl HB.out _ (below_drewN hv.out.bel _)
      have d1 : decide (z < 0) = false := decide_eq_false hz1
      by_cases hz2 : z ≥ n
      case pos =>
        have HB : Hid (okP l pu pk pa pc (nth tg k) = false) := Lib.hid (by unfold okP; rw [HZ.out, decide_eq_false (show ¬ z < (l.length : Int) by have := hn'.out; omega), Bool.false_and, Bool.and_false])
        have d2 : decide (z ≥ n) = true := decide_eq_true hz2
        have d3 : decide ((n : Int) ≤ z) = true := decide_eq_true hz2
        go_wp2
        go_quiet (fail)
        go_wp2
        (try simp only [Exit.inBlock, Exit.then])
        refine bodyPost_ret (v := .tuple #[.slice none 0 0, .int .i64 3]) (by simp [results, Tryz.results10, go_sem]) rfl ?_
        exact HBAD.out k hkl HB.out _ (below_drewN hv.out.bel _)
      have d2 : decide (z ≥ n) = false := decide_eq_false hz2
      obtain ⟨i, rfl⟩ : ∃ i : Nat, z = (i : Int) := ⟨z.toNat, by omega⟩
      have hil : i < l.length := by have := hn'.out; omega
      have hiln : (i : Int) < n := by omega
      have hi0 : (0 : Int) ≤ i := by omega
      have d4 : decide (n ≤ i) = false := decide_eq_false (by omega)
      have d5 : decide ((n : Int) ≤ (i : Int)) = false := decide_eq_false (by omega)
      have d6 : i < n := by omega
      obtain ⟨bl, ol, hAl, hbl, hld0⟩ := (HVR.out.below hv.out.bel).five hil
      subst hAl
      have HLD : Hid (∀ w9 : World, Below w.heap.size w w9 → (ldTag (.pointer (some ⟨bl, ol + i * 19, none⟩))).run Tryz.prog w9 = .ok (tgV (tgAt l i)) w9) := Lib.hid (fun w9 hb => by
        obtain ⟨b9, o9, e9, _, h9⟩ := (HVR.out.below hb).five hil
        injection e9 with e9
        injection e9 with e9 e9'
        subst e9 e9'
        exact h9)
      have HT0 : Hid (chkT (tgAt l i) = 0) := Lib.hid (tag_right HE1.out hil)
      have hta : 0 ≤ (tgAt l i).ad ∧ (tgAt l i).ad ≤ 65536 := by
        have h := (chkT_zero HT0.out).2.2.2.1
        have := widT_le (tgAt l i)
        omega
      have HWI : Hid (∀ W : World, Calls Tryz.prog 26 #[tgV (tgAt l i), .agg #[.int .i64 pu, .int .i64 pk, .int .i64 pa, .int .i64 pc, .int .i64 pe, .slice (some ⟨b, o, none⟩) pn pm]] W fun e w' => e = .returned (.bool (inP (tgAt l i) pu pk pa pc)) ∧ Below W.heap.size W w') := Lib.hid fun W => within_any pu pk pa pc pe (some ⟨b, o, none⟩) pn pm [] (tgAt l i) W (by omega) (by omega) hta
      have HOK : Hid (okP l pu pk pa pc (nth tg k) = inP (tgAt l i) pu pk pa pc) := Lib.hid (by unfold okP; rw [HZ.out, decide_eq_true hi0, decide_eq_true (show (i : Int) < (l.length : Int) by omega), Int.toNat_natCast]; rfl)
      have HV2 : Hid (valT (tgAt l (nth tg k).toNat) pa r.on r.set = valT (tgAt l i) pa r.on r.set) := Lib.hid (by rw [HZ.out, Int.toNat_natCast])
      generalize tgAt l i = t at *
      have hbs : b < wr.heap.size := by have := hv.out.sz; omega
      have HKR : Hid (∀ w9 : World, Below wr.heap.size wr w9 → (Below wr.heap.size wr w9 ∧ (ldTag (.pointer (some ⟨bl, ol + i * 19, none⟩))).run Tryz.prog w9 = .ok (tgV t) w9 ∧ (w9.cell? ⟨w.heap.size, 0, none⟩ = some (.int .i64 pu) ∧ w9.cell? ⟨w.heap.size, 1, none⟩ = some (.int .i64 pk) ∧ w9.cell? ⟨w.heap.size, 2, none⟩ = some (.int .i64 pa) ∧ w9.cell? ⟨w.heap.size, 3, none⟩ = some (.int .i64 pc) ∧ w9.cell? ⟨w.heap.size, 4, none⟩ = some (.int .i64 pe) ∧ w9.cell? ⟨w.heap.size, 5, none⟩ = some (.slice (some ⟨b, o, none⟩) pn pm)))) := Lib.hid fun w9 hb => ⟨hb, HLD.out _ (hv.out.below hb).bel, of6 (hv.out.below hb).b1⟩
      have belh : ∀ w9 : World, (Below wr.heap.size wr w9 ∧ (ldTag (.pointer (some ⟨bl, ol + i * 19, none⟩))).run Tryz.prog w9 = .ok (tgV t) w9 ∧ (w9.cell? ⟨w.heap.size, 0, none⟩ = some (.int .i64 pu) ∧ w9.cell? ⟨w.heap.size, 1, none⟩ = some (.int .i64 pk) ∧ w9.cell? ⟨w.heap.size, 2, none⟩ = some (.int .i64 pa) ∧ w9.cell? ⟨w.heap.size, 3, none⟩ = some (.int .i64 pc) ∧ w9.cell? ⟨w.heap.size, 4, none⟩ = some (.int .i64 pe) ∧ w9.cell? ⟨w.heap.size, 5, none⟩ = some (.slice (some ⟨b, o, none⟩) pn pm))) → Below wr.heap.size wr w9 := fun w9 h => h.1
      clear hld0
      go_wp2
      clear p0 p1 p2 p3 p4 p5 hc1
      go_region_held3 (fun w9 => Below wr.heap.size wr w9 ∧ (ldTag (.pointer (some ⟨bl, ol + i * 19, none⟩))).run Tryz.prog w9 = .ok (tgV t) w9 ∧ (w9.cell? ⟨w.heap.size, 0, none⟩ = some (.int .i64 pu) ∧ w9.cell? ⟨w.heap.size, 1, none⟩ = some (.int .i64 pk) ∧ w9.cell? ⟨w.heap.size, 2, none⟩ = some (.int .i64 pa) ∧ w9.cell? ⟨w.heap.size, 3, none⟩ = some (.int .i64 pc) ∧ w9.cell? ⟨w.heap.size, 4, none⟩ = some (.int .i64 pe) ∧ w9.cell? ⟨w.heap.size, 5, none⟩ = some (.slice (some ⟨b, o, none⟩) pn pm)))
        ((refine HKR.out _ ?_
          repeat' (first
            | with_reducible exact Below.refl _ _
            | with_reducible exact bel5
            | with_reducible exact belh _ (by assumption)
            | with_reducible apply below_drew
            | with_reducible apply below_drewN
            | fail)))
        (first
          | (go_at_call 26; refine (HWI.out _).mono ?_; rintro e w5 ⟨rfl, b5⟩; have bel5 : Below wr.heap.size wr w5 := Below.trans (belh _ (by assumption)) (b5.mono (Below.size (belh _ (by assumption)))))
          | fail)
      have hv5 := Lib.hid (hv.out.below bel5)
      have hown5 := hown.below bel5 (Nat.le_refl _)
      clear HKR belh b5 hown
      cases hin : inP t pu pk pa pc
      case false =>
        have HB : Hid (okP l pu pk pa pc (nth tg k) = false) := Lib.hid (by rw [HOK.out, hin])
        go_wp2
        (try simp only [Exit.inBlock, Exit.then])
        refine bodyPost_ret (v := .tuple #[.slice none 0 0, .int .i64 3]) (by simp [results, Tryz.results10, go_sem]) rfl ?_
        exact HBAD.out k hkl HB.out _ hv5.out.bel
      have HIN := Lib.hid hin
      clear hin
      have hall2 : Hid (∀ j, j < k + 1 → okP l pu pk pa pc (nth tg j) = true) := Lib.hid (fun j hj => by
        rcases Nat.lt_or_ge j k with h | h
        · exact hall.out j h
        · obtain rfl : j = k := by omega
          rw [HOK.out]; exact HIN.out)
      have HVA0 : Hid (∀ W : World, Below w.heap.size w W → Calls Tryz.prog 27 #[tgV t, .agg #[.int .i64 pu, .int .i64 pk, .int .i64 pa, .int .i64 pc, .int .i64 pe, .slice (some ⟨b, o, none⟩) pn pm], .agg #[.int .i64 0, .slice Bo mo eo, .slice Bs ms es, .slice Bf mf ef]] W fun e w' => e = .returned (.int .i64 (valT t pa r.on r.set)) ∧ Below W.heap.size W w') := Lib.hid fun W hb =>
        value10_any pu pk pa pc pe (some ⟨b, o, none⟩) pn pm 0 Bo Bs Bf mo ms mf eo es ef r t W ((HRP.out.below hb).more hb.size) HIN.out HE2.out HE3.out HX.out hms hes
      have huw := valT_wf t pa r.on r.set
      have HTK : Hid ((valsM l ⟨pu, pk, pa, pc, pe, tg⟩ r).take (k + 1) = (valsM l ⟨pu, pk, pa, pc, pe, tg⟩ r).take k ++ [valT t pa r.on r.set]) := Lib.hid (by
        rw [take_step _ _ (by rw [valsM_len]; exact hkl), valsM_nth _ _ _ _ hkl]
        show _ ++ [valT (tgAt l (nth tg k).toNat) pa r.on r.set] = _
        rw [HV2.out])
      have HLK : Hid (((valsM l ⟨pu, pk, pa, pc, pe, tg⟩ r).take k).length = k) := Lib.hid (by rw [List.length_take, valsM_len]; exact Nat.min_eq_left (Nat.le_of_lt hkl))
      clear HV2
      generalize valT t pa r.on r.set = u at *
      generalize (valsM l ⟨pu, pk, pa, pc, pe, tg⟩ r).take k = vk at *
      have hsz5 := hv5.out.sz
      have HKR : Hid (∀ w9 : World, ValH w w9 (.cells #[.int .i64 pu, .int .i64 pk, .int .i64 pa, .int .i64 pc, .int .i64 pe, .slice (some ⟨b, o, none⟩) pn pm] 25) (.cells #[.int .i64 0, .slice Bo mo eo, .slice Bs ms es, .slice Bf mf ef] 30) → (ValH w w9 (.cells #[.int .i64 pu, .int .i64 pk, .int .i64 pa, .int .i64 pc, .int .i64 pe, .slice (some ⟨b, o, none⟩) pn pm] 25) (.cells #[.int .i64 0, .slice Bo mo eo, .slice Bs ms es, .slice Bf mf ef] 30) ∧ (ldTag (.pointer (some ⟨bl, ol + i * 19, none⟩))).run Tryz.prog w9 = .ok (tgV t) w9 ∧ (w9.cell? ⟨w.heap.size, 0, none⟩ = some (.int .i64 pu) ∧ w9.cell? ⟨w.heap.size, 1, none⟩ = some (.int .i64 pk) ∧ w9.cell? ⟨w.heap.size, 2, none⟩ = some (.int .i64 pa) ∧ w9.cell? ⟨w.heap.size, 3, none⟩ = some (.int .i64 pc) ∧ w9.cell? ⟨w.heap.size, 4, none⟩ = some (.int .i64 pe) ∧ w9.cell? ⟨w.heap.size, 5, none⟩ = some (.slice (some ⟨b, o, none⟩) pn pm)) ∧ (w9.cell? ⟨w.heap.size + 1, 0, none⟩ = some (.int .i64 0) ∧ w9.cell? ⟨w.heap.size + 1, 1, none⟩ = some (.slice Bo mo eo) ∧ w9.cell? ⟨w.heap.size + 1, 2, none⟩ = some (.slice Bs ms es) ∧ w9.cell? ⟨w.heap.size + 1, 3, none⟩ = some (.slice Bf mf ef)))) := Lib.hid fun w9 hb => ⟨hb, HLD.out _ hb.bel, of6 hb.b1, cell_of_row _ _ 0 _ _ _ hb.b2, cell_of_row _ _ 1 _ _ _ hb.b2, cell_of_row _ _ 2 _ _ _ hb.b2, cell_of_row _ _ 3 _ _ _ hb.b2⟩
      have belh : ∀ w9 : World, (ValH w w9 (.cells #[.int .i64 pu, .int .i64 pk, .int .i64 pa, .int .i64 pc, .int .i64 pe, .slice (some ⟨b, o, none⟩) pn pm] 25) (.cells #[.int .i64 0, .slice Bo mo eo, .slice Bs ms es, .slice Bf mf ef] 30) ∧ (ldTag (.pointer (some ⟨bl, ol + i * 19, none⟩))).run Tryz.prog w9 = .ok (tgV t) w9 ∧ (w9.cell? ⟨w.heap.size, 0, none⟩ = some (.int .i64 pu) ∧ w9.cell? ⟨w.heap.size, 1, none⟩ = some (.int .i64 pk) ∧ w9.cell? ⟨w.heap.size, 2, none⟩ = some (.int .i64 pa) ∧ w9.cell? ⟨w.heap.size, 3, none⟩ = some (.int .i64 pc) ∧ w9.cell? ⟨w.heap.size, 4, none⟩ = some (.int .i64 pe) ∧ w9.cell? ⟨w.heap.size, 5, none⟩ = some (.slice (some ⟨b, o, none⟩) pn pm)) ∧ (w9.cell? ⟨w.heap.size + 1, 0, none⟩ = some (.int .i64 0) ∧ w9.cell? ⟨w.heap.size + 1, 1, none⟩ = some (.slice Bo mo eo) ∧ w9.cell? ⟨w.heap.size + 1, 2, none⟩ = some (.slice Bs ms es) ∧ w9.cell? ⟨w.heap.size + 1, 3, none⟩ = some (.slice Bf mf ef))) → ValH w w9 (.cells #[.int .i64 pu, .int .i64 pk, .int .i64 pa, .int .i64 pc, .int .i64 pe, .slice (some ⟨b, o, none⟩) pn pm] 25) (.cells #[.int .i64 0, .slice Bo mo eo, .slice Bs ms es, .slice Bf mf ef] 30) := fun w9 h => h.1
      clear bel5
      go_wp2
      go_region_held3 (fun w9 => ValH w w9 (.cells #[.int .i64 pu, .int .i64 pk, .int .i64 pa, .int .i64 pc, .int .i64 pe, .slice (some ⟨b, o, none⟩) pn pm] 25) (.cells #[.int .i64 0, .slice Bo mo eo, .slice Bs ms es, .slice Bf mf ef] 30) ∧ (ldTag (.pointer (some ⟨bl, ol + i * 19, none⟩))).run Tryz.prog w9 = .ok (tgV t) w9 ∧ (w9.cell? ⟨w.heap.size, 0, none⟩ = some (.int .i64 pu) ∧ w9.cell? ⟨w.heap.size, 1, none⟩ = some (.int .i64 pk) ∧ w9.cell? ⟨w.heap.size, 2, none⟩ = some (.int .i64 pa) ∧ w9.cell? ⟨w.heap.size, 3, none⟩ = some (.int .i64 pc) ∧ w9.cell? ⟨w.heap.size, 4, none⟩ = some (.int .i64 pe) ∧ w9.cell? ⟨w.heap.size, 5, none⟩ = some (.slice (some ⟨b, o, none⟩) pn pm)) ∧ (w9.cell? ⟨w.heap.size + 1, 0, none⟩ = some (.int .i64 0) ∧ w9.cell? ⟨w.heap.size + 1, 1, none⟩ = some (.slice Bo mo eo) ∧ w9.cell? ⟨w.heap.size + 1, 2, none⟩ = some (.slice Bs ms es) ∧ w9.cell? ⟨w.heap.size + 1, 3, none⟩ = some (.slice Bf mf ef)))
        ((refine HKR.out _ ?_
          repeat' (first
            | with_reducible exact hv7
            | with_reducible exact hv6
            | with_reducible exact hv5.out
            | with_reducible exact belh _ (by assumption)
            | with_reducible apply ValH.drew
            | with_reducible apply ValH.drewN
            | with_reducible apply ValH.alloc
            | fail)))
        (first
          | (go_at_call 27; have bh := belh _ (by assumption); refine (HVA0.out _ bh.bel).mono ?_; rintro e w6 ⟨rfl, b6⟩; have hv6 := bh.below b6; have hown6 : KOwn .i64 3 w6 (w.heap.size + 2) (.slice Av nv cv) vk := by first | exact hown5.below b6 (Nat.le_refl _) | exact (KOwn.drew hown5).below b6 (Nat.le_refl _) | exact (KOwn.drew (KOwn.drew hown5)).below b6 (Nat.le_refl _))
          | (refine step_append_K (w6.alloc (.cells #[.int .i64 u] 3)) rfl _ _ 23 rfl (w.heap.size + 2) .i64 3 8 Tryz.underlying23 I.info_i64 _ vk rfl (hown6.alloc _) (w6.heap.size + 1) (some ⟨w6.heap.size, 0, none⟩) 1 1 [u] rfl (Row.one .i64 w6 3 u huw) rfl (Nat.le_refl _) (by have := HLK.out; omega) (by have := HLK.out; simp only [maxLen]; omega) (by have := hv6.sz; simp; omega) ?_; intro v7 w7 own7 g7 _ sl7; have hv7 := (hv6.alloc (.cells #[.int .i64 u] 3)).grown g7 (fun g e => (hown6.block g e).1))
          | fail)
      have HV7 := Lib.hid hv7
      rw [← HTK.out] at own7
      clear HKR belh g7 hown5 hown6 hv6 hv7 b6
      go_wp2
      go_roundw
      case rel => exact ⟨k + 1, by omega, by go_num, own7, HV7, hall2⟩
      case measure => simp [intOf]; omega
    · obtain rfl : k = pn := by omega
      have hx : (valsM l ⟨pu, pk, pa, pc, pe, tg⟩ r).take k = valsM l ⟨pu, pk, pa, pc, pe, tg⟩ r := List.take_of_length_le (by rw [valsM_len]; have := hpn'.out; show tg.length ≤ k; omega)
      rw [hx] at hown
      have HO := Lib.hid (hown.mono (base' := w.heap.size) (by omega))
      clear hx hown
      go_wp2
      (try simp only [Exit.inBlock, Exit.then])
      refine bodyPost_ret (v := .tuple #[.slice Av nv cv, .int .i64 0]) (by simp [results, Tryz.results10, go_sem]) rfl ?_
      exact HG.out (fun j hj => hall.out j (by have := hpn'.out; omega)) _ _ HO.out hv.out.bel
end Go.Proofs.YtcmbdhmhkfhjfaaGreat
namespace Go.Proofs.YtcmbdhmhkfhjfaaGreat
open Go.RowKit
set_option linter.unusedVariables false
set_option maxRecDepth 100000

theorem info_poll : (Tryz.prog.info? 25).map (fun i => (i.zero, i.size, i.bytes)) = some (some (.agg #[.int .i64 0, .int .i64 0, .int .i64 0, .int .i64 0, .int .i64 0, .slice none 0 0]), 6, 64) := by kernel_rfl
def pcell (p : Pol × Value) : List Value := [.int .i64 p.1.un, .int .i64 p.1.ki, .int .i64 p.1.ad, .int .i64 p.1.ct, .int .i64 p.1.ev, p.2]
theorem pcell_len (p : Pol × Value) : (pcell p).length = 6 := rfl
def FarV (a b : Value) : Prop := a.ownBlock = none ∨ a.ownBlock ≠ b.ownBlock
theorem FarV.symm {a b : Value} (h : FarV a b) : FarV b a := by
  unfold FarV at *
  cases hb : b.ownBlock with
  | none => exact .inl rfl
  | some g =>
    right
    rcases h with h | h
    · rw [h]; simp
    · rw [hb] at h; exact fun e => h e.symm
def PlOwn (w : World) (base : Nat) (v : Value) (ps : List Pol) : Prop :=
  ∃ L : List (Pol × Value), L.map Prod.fst = ps ∧ w.ownsRow base 25 6 v L.length (flatV pcell L) ∧ (∀ p ∈ L, KOwn .i64 3 w base p.2 p.1.tg) ∧ L.Pairwise (fun a b => FarV a.2 b.2)
theorem PlOwn.nil (w : World) (base : Nat) : PlOwn w base (.slice none 0 0) [] := ⟨[], rfl, World.ownsRow_nil _ _ _ _, fun p hp => (by cases hp), List.Pairwise.nil⟩
theorem rowP_below {w w' : World} {base B n : Nat} {v : Value} {xs : List Value} (h : w.ownsRow base 25 6 v n xs) (hb : Below B w w') (hB : w.heap.size ≤ B) : w'.ownsRow base 25 6 v n xs := by
  refine h.kept (row := none) ⟨hb.os, hb.tape, hb.output, hb.size, fun i hi _ => hb.block i (by omega)⟩ ?_
  cases hv : v.ownBlock with
  | none => exact .inl rfl
  | some g => exact .inr (by simp)
theorem PlOwn.below {w w' : World} {base B : Nat} {v : Value} {ps : List Pol} (h : PlOwn w base v ps) (hb : Below B w w') (hB : w.heap.size ≤ B) : PlOwn w' base v ps := by
  obtain ⟨L, h1, h2, h3, h4⟩ := h
  exact ⟨L, h1, rowP_below h2 hb hB, fun p hp => (h3 p hp).below hb hB, h4⟩
theorem PlOwn.alloc {w : World} {base : Nat} {v : Value} {ps : List Pol} (h : PlOwn w base v ps) (o : Obj) : PlOwn (w.alloc o) base v ps := h.below (bel_alloc w o) (Nat.le_refl _)
theorem PlOwn.drewN {w : World} {base : Nat} {v : Value} {ps : List Pol} (h : PlOwn w base v ps) (n : Nat) : PlOwn (w.drewN n) base v ps := h
theorem PlOwn.block {w : World} {base : Nat} {v : Value} {ps : List Pol} (h : PlOwn w base v ps) : ∀ g, v.ownBlock = some g → base ≤ g ∧ g < w.heap.size := by
  obtain ⟨L, h1, h2, h3, h4⟩ := h
  exact World.ownsRow.lt h2
theorem PlOwn.mono {w : World} {base base' : Nat} {v : Value} {ps : List Pol} (h : PlOwn w base v ps) (hb : base' ≤ base) : PlOwn w base' v ps := by
  obtain ⟨L, h1, h2, h3, h4⟩ := h
  refine ⟨L, h1, ⟨h2.1, ?_⟩, fun p hp => (h3 p hp).mono hb, h4⟩
  rcases h2.2 with h0 | ⟨g, cap, cur, hv, h5, r⟩
  · exact .inl h0
  · exact .inr ⟨g, cap, cur, hv, by omega, r⟩
theorem PlOwn.len {w : World} {base : Nat} {v : Value} {ps : List Pol} (h : PlOwn w base v ps) : ∃ A c, v = .slice A ps.length c ∧ ps.length ≤ c := by
  obtain ⟨L, rfl, h2, h3, h4⟩ := h
  rw [List.length_map]
  rcases h2.2 with ⟨rfl, h0⟩ | ⟨g, cap, cur, rfl, _, _, h5, _⟩
  · rw [h0]; exact ⟨none, 0, rfl, Nat.le_refl _⟩
  · exact ⟨_, cap, rfl, h5⟩
theorem pol_far {w : World} {base base' : Nat} {v u : Value} {n : Nat} {xs : List Value} {ys : List Int} (h : w.ownsRow base 25 6 v n xs) (k : KOwn .i64 3 w base' u ys) : u.ownBlock = none ∨ u.ownBlock ≠ v.ownBlock := by
  rcases k with ⟨rfl, _⟩ | ⟨g, m, cap, r, rfl, _, _, hg, _⟩
  · exact .inl rfl
  · refine .inr fun e => ?_
    rcases h.2 with ⟨rfl, _⟩ | ⟨g', cap', cur, rfl, _, hg', _⟩
    · cases e
    · have e : some g = some g' := e
      injection e with e
      subst e
      rw [hg] at hg'
      injection hg' with hg'
      injection hg' with _ ht
      exact absurd ht (by decide)
theorem PlOwn.at_ {w : World} {base : Nat} {v : Value} {ps : List Pol} (h : PlOwn w base v ps) {i : Nat} (hi : i < ps.length) :
    ∃ g c A m cc, v = .slice (some ⟨g, 0, none⟩) ps.length c ∧ base ≤ g ∧ g < w.heap.size ∧ ps.length ≤ c ∧ (w.cell? ⟨g, i * 6, none⟩ = some (.int .i64 ps[i].un) ∧ w.cell? ⟨g, i * 6 + 1, none⟩ = some (.int .i64 ps[i].ki) ∧ w.cell? ⟨g, i * 6 + 2, none⟩ = some (.int .i64 ps[i].ad) ∧ w.cell? ⟨g, i * 6 + 3, none⟩ = some (.int .i64 ps[i].ct) ∧ w.cell? ⟨g, i * 6 + 4, none⟩ = some (.int .i64 ps[i].ev) ∧ w.cell? ⟨g, i * 6 + 5, none⟩ = some (.slice A m cc)) ∧ KOwn .i64 3 w base (.slice A m cc) ps[i].tg := by
  obtain ⟨L, rfl, h2, h3, h4⟩ := h
  rw [List.length_map] at hi ⊢
  rcases h2.2 with ⟨rfl, h0⟩ | ⟨g, cap, cur, rfl, hb, hg, h5, h6, h7, h8⟩
  · omega
  · have k := h3 _ (List.getElem_mem hi)
    have hcell : ∀ j, j < 6 → w.cell? ⟨g, i * 6 + j, none⟩ = (pcell L[i])[j]? := by
      intro j hj
      rw [cell_of_row w g _ cur _ _ hg, ← flatV_get pcell_len L i hi j hj, ← h8, List.getElem?_take_of_lt (by omega), Array.getElem?_toList]
    obtain ⟨A, m, cc, hs⟩ : ∃ A m cc, L[i].2 = .slice A m cc := by
      rcases k with ⟨e, _⟩ | ⟨g', n', cap', r, e, _⟩
      · exact ⟨_, _, _, e⟩
      · exact ⟨_, _, _, e⟩
    have c0 := hcell 0 (by omega)
    have c1 := hcell 1 (by omega)
    have c2 := hcell 2 (by omega)
    have c3 := hcell 3 (by omega)
    have c4 := hcell 4 (by omega)
    have c5 := hcell 5 (by omega)
    rw [hs] at k
    refine ⟨g, cap, A, m, cc, rfl, hb, block_lt hg, h5, ⟨?_, ?_, ?_, ?_, ?_, ?_⟩, ?_⟩
    · rw [Nat.add_zero] at c0; rw [c0]; simp [pcell]
    · rw [c1]; simp [pcell]
    · rw [c2]; simp [pcell]
    · rw [c3]; simp [pcell]
    · rw [c4]; simp [pcell]
    · rw [c5]; simp [pcell, hs]
    · simpa using k
section
variable {P : Program}
theorem run_append_poll (w0 w : World) (t : TypeId) (ht : P.underlying t = some (.slice 25)) (hi : (P.info? 25).map (fun i => (i.zero, i.size, i.bytes)) = some (some (.agg #[.int .i64 0, .int .i64 0, .int .i64 0, .int .i64 0, .int .i64 0, .slice none 0 0]), 6, 64))
    (base : Nat) (v : Value) (ps : List Pol) (hown : PlOwn w0 base v ps) (hb0 : Below w0.heap.size w0 w) (g0 : Nat) (hg0 : w0.heap.size ≤ g0) (hb1 : base ≤ g0) (un ki pa ct ev x : Int) (hx : (Lit.int .i64 x).wf = true) (hu : w.heap[g0]? = some (.cells (blk .i64 [x]) 3 (0, 0))) (ad : Addr) (c : Nat)
    (hnews : ∀ j y, [Value.int .i64 un, .int .i64 ki, .int .i64 pa, .int .i64 ct, .int .i64 ev, .slice (some ⟨g0, 0, none⟩) 1 1][j]? = some y → w.cell? (ad.add j) = some y) (hb : ps.length ≤ 1000000) (hbase : base ≤ w.heap.size) :
    ∃ v' w', (∀ ty, (Builtin.append_ #[t, t] ty #[v, .slice (some ad) 1 c]).run P w = .ok v' w') ∧ PlOwn w' base v' (ps ++ [⟨un, ki, pa, ct, ev, [x]⟩]) ∧ w.grownBy w' v.ownBlock := by
  obtain ⟨i, hi1, hz, hsz, hby⟩ := info_parts hi
  have hk : KOwn .i64 3 w base (.slice (some ⟨g0, 0, none⟩) 1 1) [x] := .inr ⟨g0, 1, 1, [], rfl, hb1, rfl, hu, Nat.le_refl _, by simp [maxLen], rfl, by simp⟩
  obtain ⟨L, rfl, h2, h3, h4⟩ := hown
  have k2 := rowP_below h2 hb0 (Nat.le_refl _)
  rw [List.length_map] at hb
  obtain ⟨v', w', hrun, g1, g2, _⟩ := run_append_own (P := P) w base t t 25 i _ 6 64 ht hi1 hz hsz hby rfl (by omega) v L.length (flatV pcell L) k2 ad 1 c [Value.int .i64 un, .int .i64 ki, .int .i64 pa, .int .i64 ct, .int .i64 ev, .slice (some ⟨g0, 0, none⟩) 1 1] rfl hnews (by simp [Value.oneCell']) (by simp only [maxLen]; omega) (by omega) hbase
  refine ⟨v', w', fun ty => ?_, ⟨L ++ [(⟨un, ki, pa, ct, ev, [x]⟩, .slice (some ⟨g0, 0, none⟩) 1 1)], by simp, ?_, fun p hp => ?_, ?_⟩, g2⟩
  · obtain ⟨v2, w2, hrun2, _⟩ := run_append_own (P := P) w base t ty 25 i _ 6 64 ht hi1 hz hsz hby rfl (by omega) v L.length (flatV pcell L) k2 ad 1 c [Value.int .i64 un, .int .i64 ki, .int .i64 pa, .int .i64 ct, .int .i64 ev, .slice (some ⟨g0, 0, none⟩) 1 1] rfl hnews (by simp [Value.oneCell']) (by simp only [maxLen]; omega) (by omega) hbase
    exact hrun
  · rw [flatV_append, flatV_one, List.length_append]
    exact g1
  · rcases List.mem_append.1 hp with hp | hp
    · exact ((h3 p hp).below hb0 (Nat.le_refl _)).kept g2 (pol_far k2 ((h3 p hp).below hb0 (Nat.le_refl _)))
    · simp only [List.mem_singleton] at hp
      subst hp
      exact hk.kept g2 (pol_far k2 hk)
  · refine List.pairwise_append.2 ⟨h4, List.pairwise_singleton _ _, fun a ha b hb => ?_⟩
    simp only [List.mem_singleton] at hb
    subst hb
    cases hv : a.2.ownBlock with
    | none => exact .inl hv
    | some g =>
      have := (h3 a ha).block g hv
      refine .inr ?_
      rw [hv]
      show some g ≠ some g0
      intro e
      injection e with e
      omega
theorem step_append_poll {ops : Array Oper} {o : Oper} {a : Act} {K : Act → World → Prop} {Q : Exit → Act → World → Prop} {E : Prop} (w0 w : World) (hgd : o.guard = none) (s x : Operand) (t : TypeId)
    (ho : o.op = .call { callee := .builtin .append, args := #[s, x], argTypes := #[t, t] }) (ht : P.underlying t = some (.slice 25)) (hi : (P.info? 25).map (fun i => (i.zero, i.size, i.bytes)) = some (some (.agg #[.int .i64 0, .int .i64 0, .int .i64 0, .int .i64 0, .int .i64 0, .slice none 0 0]), 6, 64))
    (base : Nat) (v : Value) (ps : List Pol) (hs : a.eval s = v) (hown : PlOwn w0 base v ps) (hb0 : Below w0.heap.size w0 w) (g0 : Nat) (hg0 : w0.heap.size ≤ g0) (hb1 : base ≤ g0) (un ki pa ct ev y : Int) (hy : (Lit.int .i64 y).wf = true) (hu : w.heap[g0]? = some (.cells (blk .i64 [y]) 3 (0, 0))) (ad : Addr) (c : Nat) (hx : a.eval x = .slice (some ad) 1 c)
    (hnews : ∀ j y, [Value.int .i64 un, .int .i64 ki, .int .i64 pa, .int .i64 ct, .int .i64 ev, .slice (some ⟨g0, 0, none⟩) 1 1][j]? = some y → w.cell? (ad.add j) = some y) (hb : ps.length ≤ 1000000) (hbase : base ≤ w.heap.size)
    (h : ∀ v' w', PlOwn w' base v' (ps ++ [⟨un, ki, pa, ct, ev, [y]⟩]) → w.grownBy w' v.ownBlock → K (a.put o.dst v') w') :
    if Region.wanted o (yielded ops a.tmps) = true then Oper.wp P o a w K Q else E := by
  have hw : Region.wanted o (yielded ops a.tmps) = true := by simp [Region.wanted, hgd]
  rw [if_pos hw]
  obtain ⟨v', w', hrun, g1, g2⟩ := run_append_poll (P := P) w0 w t ht hi base v ps hown hb0 g0 hg0 hb1 un ki pa ct ev y hy hu ad c hnews hb hbase
  unfold Oper.wp execOp
  simp only [ho, resolve, invoke, builtin, Sem.run_bind, Sem.run_pure, Result.andThen_ok, List.map_toArray, List.map_cons, List.map_nil, hs, hx, hrun]
  exact h v' w' g1 g2
end

theorem ownsRow_set {w : World} {base size n : Nat} {e : TypeId} {g c : Nat} {m : Nat} {xs : List Value} (h : w.ownsRow base e size (.slice (some ⟨g, 0, none⟩) m c) n xs) (j : Nat) (x : Value) (hj : j < xs.length) : (w.setCell ⟨g, j, none⟩ x).ownsRow base e size (.slice (some ⟨g, 0, none⟩) m c) n (xs.set j x) := by
  refine ⟨by rw [List.length_set]; exact h.1, ?_⟩
  rcases h.2 with ⟨h0, _⟩ | ⟨g', cap, cur, hv, hb, hg, h1, h2, h3, h4⟩
  · cases h0
  · injection hv with ha hm hc
    injection ha with ha
    injection ha with ha
    subst ha hm hc
    refine .inr ⟨g, c, cur.setIfInBounds j x, rfl, hb, ?_, h1, h2, by simpa using h3, ?_⟩
    · simp [World.setCell, Array.getElem?_modify, hg]
    · rw [Array.toList_setIfInBounds, List.take_set, h4]
theorem flat_set (L : List (Pol × Value)) (z z' : Pol × Value) (j : Nat) (x : Value) (hj : j < 6) (h : pcell z' = (pcell z).set j x) : (flatV pcell (L ++ [z])).set (L.length * 6 + j) x = flatV pcell (L ++ [z']) := by
  rw [flatV_append, flatV_append, flatV_one, flatV_one, List.set_append_right _ _ (by rw [flatV_len pcell_len]; omega), flatV_len pcell_len, Nat.add_sub_cancel_left, h]
def Pol.wct (p : Pol) (c : Int) : Pol := ⟨p.un, p.ki, p.ad, c, p.ev, p.tg⟩
def Pol.wtg (p : Pol) (l : List Int) : Pol := ⟨p.un, p.ki, p.ad, p.ct, p.ev, l⟩
theorem map_snoc {α β : Type} {f : α → β} {L : List α} {qs : List β} {p : β} (h : L.map f = qs ++ [p]) : ∃ M z, L = M ++ [z] ∧ M.map f = qs ∧ f z = p := by
  rcases snoc_cases L with rfl | ⟨M, z, rfl⟩
  · simp at h
  · rw [List.map_append] at h
    have := List.append_inj' h rfl
    exact ⟨M, z, rfl, this.1, by simpa using this.2⟩
theorem KOwn.setP {w : World} {base base' : Nat} {v u : Value} {n : Nat} {xs : List Value} {ys : List Int} {g c m : Nat} (h : w.ownsRow base 25 6 (.slice (some ⟨g, 0, none⟩) m c) n xs) (k : KOwn .i64 3 w base' u ys) (j : Nat) (x : Value) : KOwn .i64 3 (w.setCell ⟨g, j, none⟩ x) base' u ys := by
  have hf := pol_far h k
  rcases k with k | ⟨g', n', cap, r, rfl, h2, h3, h4, h5⟩
  · exact .inl k
  · refine .inr ⟨g', n', cap, r, rfl, h2, h3, (Below.heap_setCell w ⟨g, j, none⟩ x g' ?_).trans h4, h5⟩
    rcases hf with hf | hf
    · cases hf
    · intro e
      exact hf (by show some g' = some g; rw [e])
theorem PlOwn.setct {w : World} {base g m c : Nat} {qs : List Pol} {p : Pol} (h : PlOwn w base (.slice (some ⟨g, 0, none⟩) m c) (qs ++ [p])) (ct : Int) : PlOwn (w.setCell ⟨g, qs.length * 6 + 3, none⟩ (.int .i64 ct)) base (.slice (some ⟨g, 0, none⟩) m c) (qs ++ [p.wct ct]) := by
  obtain ⟨L, h1, h2, h3, h4⟩ := h
  obtain ⟨M, z, rfl, hM, hz⟩ := map_snoc h1
  have hl : M.length = qs.length := by rw [← hM, List.length_map]
  refine ⟨M ++ [(p.wct ct, z.2)], by simp [hM], ?_, fun q hq => ?_, ?_⟩
  · have := ownsRow_set h2 (qs.length * 6 + 3) (.int .i64 ct) (by rw [flatV_len pcell_len, List.length_append]; simp; omega)
    rw [← hl, flat_set M z (p.wct ct, z.2) 3 (.int .i64 ct) (by omega) (by rw [← hz]; rfl)] at this
    rw [← hl]
    rw [List.length_append] at this ⊢
    exact this
  · rcases List.mem_append.1 hq with hq | hq
    · exact KOwn.setP (v := .slice none 0 0) h2 (h3 q (List.mem_append_left _ hq)) _ _
    · simp only [List.mem_singleton] at hq
      subst hq
      have := h3 z (List.mem_append_right _ (by simp))
      rw [hz] at this
      exact KOwn.setP (v := .slice none 0 0) h2 this _ _
  · obtain ⟨a1, a2, a3⟩ := List.pairwise_append.1 h4
    refine List.pairwise_append.2 ⟨a1, List.pairwise_singleton _ _, fun a ha b hb => ?_⟩
    simp only [List.mem_singleton] at hb
    subst hb
    exact a3 a ha z (by simp)
theorem ownsRow_cell {w : World} {base n : Nat} {g m c : Nat} {L : List (Pol × Value)} (h : w.ownsRow base 25 6 (.slice (some ⟨g, 0, none⟩) m c) n (flatV pcell L)) {i j : Nat} (hi : i < L.length) (hj : j < 6) : w.cell? ⟨g, i * 6 + j, none⟩ = (pcell L[i])[j]? := by
  rcases h.2 with ⟨h0, _⟩ | ⟨g', cap, cur, hv, hb, hg, h5, h6, h7, h8⟩
  · cases h0
  · injection hv with ha hm hc
    injection ha with ha
    injection ha with ha
    subst ha hm hc
    have hl := flatV_len pcell_len L
    have hlen : L.length * 6 = m * 6 := by rw [← hl]; exact h.1
    rw [cell_of_row w g _ cur _ _ hg, ← flatV_get pcell_len L i hi j hj, ← h8, List.getElem?_take_of_lt (by omega), Array.getElem?_toList]
theorem PlOwn.settg {w w' : World} {base g m c : Nat} {qs : List Pol} {p : Pol} {u u' : Value} {tg' : List Int} (h : PlOwn w base (.slice (some ⟨g, 0, none⟩) m c) (qs ++ [p])) (hc : w.cell? ⟨g, qs.length * 6 + 5, none⟩ = some u)
    (hk' : KOwn .i64 3 w' base u' tg') (hgr : w.grownBy w' u.ownBlock) (hnew : u'.ownBlock = some w.heap.size ∨ (u'.ownBlock = u.ownBlock ∧ u.ownBlock ≠ none)) :
    PlOwn (w'.setCell ⟨g, qs.length * 6 + 5, none⟩ u') base (.slice (some ⟨g, 0, none⟩) m c) (qs ++ [p.wtg tg']) := by
  obtain ⟨L, h1, h2, h3, h4⟩ := h
  obtain ⟨M, z, rfl, hM, hz⟩ := map_snoc h1
  have hl : M.length = qs.length := by rw [← hM, List.length_map]
  obtain ⟨a1, a2, a3⟩ := List.pairwise_append.1 h4
  have hzu : z.2 = u := by
    have := ownsRow_cell h2 (i := M.length) (j := 5) (by simp) (by omega)
    have e : (M ++ [z])[M.length]'(by simp) = z := by simp
    rw [e, hl, hc] at this
    simpa [pcell] using this.symm
  have hzk := h3 z (List.mem_append_right _ (by simp))
  rw [hzu] at hzk
  have hpf := pol_far h2 hzk
  have hvf : (Value.slice (some ⟨g, 0, none⟩) m c).ownBlock = none ∨ (Value.slice (some ⟨g, 0, none⟩) m c).ownBlock ≠ u.ownBlock := by
    right
    rcases hpf with e | e
    · rw [e]; simp [Value.ownBlock]
    · exact fun e' => e e'.symm
  have k2 := h2.kept hgr hvf
  refine ⟨M ++ [(p.wtg tg', u')], by simp [hM], ?_, fun q hq => ?_, ?_⟩
  · have := ownsRow_set k2 (qs.length * 6 + 5) u' (by rw [flatV_len pcell_len, List.length_append]; simp; omega)
    rw [← hl, flat_set M z (p.wtg tg', u') 5 u' (by omega) (by rw [← hz]; rfl)] at this
    rw [← hl]
    rw [List.length_append] at this ⊢
    exact this
  · rcases List.mem_append.1 hq with hq | hq
    · have hfq := a3 q hq z (by simp)
      rw [hzu] at hfq
      exact KOwn.setP (v := .slice none 0 0) k2 ((h3 q (List.mem_append_left _ hq)).kept hgr hfq) _ _
    · simp only [List.mem_singleton] at hq
      subst hq
      exact KOwn.setP (v := .slice none 0 0) k2 hk' _ _
  · refine List.pairwise_append.2 ⟨a1, List.pairwise_singleton _ _, fun a ha b hb => ?_⟩
    simp only [List.mem_singleton] at hb
    subst hb
    have hfq := a3 a ha z (by simp)
    rw [hzu] at hfq
    show FarV a.2 u'
    rcases hnew with e | ⟨e, _⟩
    · unfold FarV
      cases hv : a.2.ownBlock with
      | none => exact .inl rfl
      | some q =>
        have := (h3 a (List.mem_append_left _ ha)).block q hv
        refine .inr ?_
        rw [e]
        intro e'
        injection e' with e'
        omega
    · unfold FarV at hfq ⊢
      rw [e]; exact hfq
end Go.Proofs.YtcmbdhmhkfhjfaaGreat
