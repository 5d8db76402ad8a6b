/-
  Texts of the proof of PlanKnown, joined.
-/
import Derived.Test.YtcmbdhmhkfhjfaaGreatJPlanKnownI
import Derived.Test.YtcmbdhmhkfhjfaaGreatJPlanKnownK
import Derived.BigQuiet
import Derived.Deep.RegionHeld3
import Derived.Deep.RegionWith
import Derived.Deep.CutRange
import Derived.Test.YtcmbdhmhkfhjfaaGreatJPlanKnownF
import Derived.Laws.AppendOwn
import Derived.Test.YtcmbdhmhkfhjfaaGreatJPlanKnownA
import Derived.Test.YtcmbdhmhkfhjfaaGreatProg
import Derived.OpenShut
namespace Go.Proofs.YtcmbdhmhkfhjfaaGreat
open Go.RowKit
set_option linter.unusedVariables false
set_option maxRecDepth 100000
attribute [local go_sem ↓] ldTag_fold stTag_fold bxTag_fold
attribute [local go_sem] bxTag_run

def GivesP (w : World) (ps : List Pol) (E : Int) (e : Ending) (w' : World) : Prop := ∃ v, e = .returned (.tuple #[v, .int .i64 E]) ∧ PlOwn w' w.heap.size v ps ∧ Below w.heap.size w w'
theorem box_news (w : World) (vs : List Value) (t : TypeId) (g : Nat) (hg : w.heap.size = g) : ∀ j y, vs[j]? = some y → (w.alloc (.cells vs.toArray t)).cell? ((⟨g, 0, none⟩ : Addr).add j) = some y := by
  intro j y hy
  subst hg
  rw [Go.WideShapes.add_plain, Nat.zero_add, World.cell?_alloc_at _ _ _ _ rfl]
  simpa using hy
theorem addP_new2 {ps : List Pol} {t : Tg} {k : Nat} (h : ps = [] ∨ ∃ qs p, ps = qs ++ [p] ∧ joinB p t = false) : addP ps t k = ps ++ [newP t k] := by
  rcases h with rfl | ⟨qs, p, rfl, h⟩
  · rfl
  · rw [addP_new h]; simp
structure TagH (w2 w9 : World) (g : Nat) (t : Tg) : Prop where
  bel : Below w2.heap.size w2 w9
  bx : w9.heap[g]? = some (.cells (tgC t).toArray 51 (0, 0))
theorem TagH.below {w2 w9 w' : World} {g : Nat} {t : Tg} (h : TagH w2 w9 g t) (hb : Below w9.heap.size w9 w') : TagH w2 w' g t := ⟨h.bel.trans (hb.mono h.bel.size), keepB hb h.bx⟩
theorem TagH.drew {w2 w9 : World} {g : Nat} {t : Tg} (h : TagH w2 w9 g t) : TagH w2 w9.drew g t := h.below ⟨rfl, rfl, rfl, Nat.le_refl _, fun _ _ => rfl⟩
theorem TagH.drewN {w2 w9 : World} {g : Nat} {t : Tg} (h : TagH w2 w9 g t) (n : Nat) : TagH w2 (w9.drewN n) g t := h.below (bel_drewN w9 n)
theorem TagH.alloc {w2 w9 : World} {g : Nat} {t : Tg} (h : TagH w2 w9 g t) (o : Obj) : TagH w2 (w9.alloc o) g t := h.below (bel_alloc w9 o)
theorem TagH.grown {w2 w9 w' : World} {g : Nat} {t : Tg} (h : TagH w2 w9 g t) {v : Option Nat} (hg : w9.grownBy w' v) (hv : ∀ q, v = some q → w2.heap.size ≤ q ∧ q ≠ g) : TagH w2 w' g t :=
  ⟨h.bel.grown hg h.bel.size (fun q e => (hv q e).1), (hg.block g (block_lt h.bx) (fun e => (hv g e.symm).2 rfl)).trans h.bx⟩
theorem way2 {w9 w5 : World} {o : Obj} (b5 : Below (w9.alloc o).drew.heap.size (w9.alloc o).drew w5) : Below w9.heap.size w9 w5 ∧ w9.heap.size < w5.heap.size ∧ w5.heap[w9.heap.size]? = some o := by
  have hz : (w9.alloc o).drew.heap.size = w9.heap.size + 1 := World.size_alloc w9 o
  have h1 : Below w9.heap.size w9 (w9.alloc o).drew := below_drew (bel_alloc w9 o)
  have h2 := b5.size
  refine ⟨h1.trans (b5.mono (by omega)), by omega, (b5.block _ (by omega)).trans ?_⟩
  exact heap_alloc_new w9 o
theorem wf_small {x : Int} (h : 0 ≤ x) (h2 : x < 1000000000) : (Lit.int .i64 x).wf = true := by
  simp [Lit.wf, IntKind.min, IntKind.max, IntKind.signed, IntKind.bits]; omega

theorem PlOwn.thaw {w : World} {base g m c : Nat} {ps : List Pol} (h : PlOwn w base (.slice (some ⟨g, 0, none⟩) m c) ps) (i : Nat) : w.frozen? ⟨g, i, none⟩ = false := by
  obtain ⟨L, rfl, h2, h3, h4⟩ := h
  rcases h2.2 with ⟨h0, _⟩ | ⟨g', cap, cur, hv, hb, hg, _⟩
  · cases h0
  · injection hv with ha hm hc
    injection ha with ha
    injection ha with ha
    subst ha
    exact block_frozen w g i _ _ hg
theorem PlOwn.stays {w w' : World} {base base' g m c : Nat} {ps : List Pol} {u : Value} {ys : List Int} (h : PlOwn w base (.slice (some ⟨g, 0, none⟩) m c) ps) (k : KOwn .i64 3 w base' u ys) (hg : w.grownBy w' u.ownBlock) : w'.heap[g]? = w.heap[g]? := by
  have hb := (h.block g rfl).2
  obtain ⟨L, rfl, h2, h3, h4⟩ := h
  refine hg.block g hb fun e => ?_
  rcases pol_far h2 k with e' | e'
  · rw [e'] at e; cases e
  · exact e' e.symm
theorem PlOwn.last {w : World} {base g m c z : Nat} {qs : List Pol} {p : Pol} (h : PlOwn w base (.slice (some ⟨g, 0, none⟩) m c) (qs ++ [p])) (hz : qs.length = z) :
    ∃ A m' cc, g < w.heap.size ∧ w.cell? ⟨g, z * 6 + 3, none⟩ = some (.int .i64 p.ct) ∧ w.cell? ⟨g, z * 6 + 5, none⟩ = some (.slice A m' cc) ∧ KOwn .i64 3 w base (.slice A m' cc) p.tg := by
  subst hz
  obtain ⟨g', cg, At, mt, ctt, hv9, hgb, hgl, hgc, ⟨e0, e1, e2, e3, e4, e5⟩, hkt⟩ := h.at_ (i := qs.length) (by simp)
  injection hv9 with i1 i2 i3
  injection i1 with i1
  injection i1 with i1
  subst i1
  have hpi : (qs ++ [p])[qs.length]'(by simp) = p := by simp
  rw [hpi] at e3 hkt
  exact ⟨At, mt, ctt, hgl, e3, e5, hkt⟩
theorem grown_undrew {w w' : World} {r : Option Nat} (h : w.drew.grownBy w' r) : w.grownBy w' r := ⟨h.os, h.tape, h.output, h.size, h.block⟩
theorem PlOwn.joined {ws w7 : World} {base g m c z : Nat} {qs : List Pol} {p : Pol} {O : Obj} {u u' : Value} {tg' : List Int} (h : PlOwn ws base (.slice (some ⟨g, 0, none⟩) m c) (qs ++ [p])) (hz : qs.length = z) (hc : ws.cell? ⟨g, z * 6 + 5, none⟩ = some u)
    (hk7 : KOwn .i64 3 w7 base u' tg') (hgr : (ws.alloc O).grownBy w7 u.ownBlock) (hnew : u'.ownBlock = some (ws.alloc O).heap.size ∨ (u'.ownBlock = u.ownBlock ∧ u.ownBlock ≠ none)) :
    PlOwn (w7.setCell ⟨g, z * 6 + 5, none⟩ u') base (.slice (some ⟨g, 0, none⟩) m c) (qs ++ [p.wtg tg']) := by
  subst hz
  exact (h.alloc O).settg (cellB (bel_alloc ws O) (h.block g rfl).2 hc) hk7 hgr hnew
set_option maxHeartbeats 8000000 in
theorem refPlan10_any (A : Option Addr) (n c : Nat) (l : List Tg) (w : World) (hr : VRow w w.heap.size A (flatV tgC l)) (hn : l.length = n) (hnb : n ≤ 4611686018427387904) (hok : ∀ t ∈ l, Tg.Ok t) :
    Calls Tryz.prog 39 #[.slice A n c] w (GivesP w (planL l) (chkAll l).1) := by
  obtain ⟨E1, hE1⟩ : ∃ E, (chkAll l).1 = E := ⟨_, rfl⟩
  have HE1 := Lib.hid hE1
  have HCA : Hid (Calls Tryz.prog 28 #[.slice A n c] w fun e w' => e = .returned (.tuple #[.int .i64 E1, .int .i64 (chkAll l).2]) ∧ Below w.heap.size w w') := Lib.hid (by
    have h := refCheckAll_any A n c l w hr hn hnb hok
    rw [hE1] at h
    exact h)
  have HVR := Lib.hid hr
  have hn' := Lib.hid hn
  rw [hE1]
  by_cases h1 : E1 = 0
  case neg =>
    obtain ⟨f1, f2⟩ := fold_ne h1
    have HF : Hid (∀ w', Below w.heap.size w w' → GivesP w (planL l) E1 (.returned (.tuple #[.slice none 0 0, .int .i64 E1])) w') := Lib.hid (fun w' hb => by
      rw [plan_bad (by rw [hE1]; exact h1)]
      exact ⟨_, rfl, PlOwn.nil _ _, hb⟩)
    clear h1 hr hE1 hn
    go_enter Tryz.func39, Tryz.ntmps39
    go_wp2_with fail
    refine HCA.out.mono ?_
    rintro e w1 ⟨rfl, b1⟩
    go_wp2
    (try simp only [Exit.inBlock, Exit.then])
    refine bodyPost_ret (v := .tuple #[.slice none 0 0, .int .i64 E1]) (by simp [results, Tryz.results39, go_sem]) rfl ?_
    exact HF.out _ b1
  subst h1
  have HT := Lib.hid (tag_tab hE1)
  have h64 : n ≤ 64 := by have := HT.out.1; omega
  have HPL : Hid (planL l = pollsO l (ordT l)) := Lib.hid (by unfold planL; rw [if_pos hE1])
  have HOL : Hid ((intL (ordT l)).length = n) := Lib.hid (by rw [intL_len, ordT_len]; exact hn)
  have HOW : Hid (∀ x ∈ intL (ordT l), (Lit.int .i64 x).wf = true) := Lib.hid (fun x hx => by
    obtain ⟨k, hk, rfl⟩ := List.mem_map.1 hx
    have := ordT_lt hk
    exact wf_small (by omega) (by omega))
  clear hE1 hr hn
  go_enter Tryz.func39, Tryz.ntmps39
  go_wp2_with fail
  refine HCA.out.mono ?_
  rintro e w1 ⟨rfl, b1⟩
  clear HCA
  go_wp2_with fail
  refine (refOrder_any A n c l w1 ((HVR.out.below b1).more b1.size) hn'.out h64).mono ?_
  rintro e w2 ⟨v2, rfl, own2, b2⟩
  obtain ⟨A2, c2, rfl, row2, _, _⟩ := own2.row HOW.out
  have ROW := Lib.hid row2
  have BEL := Lib.hid (b1.trans (b2.mono b1.size))
  rw [HOL.out]
  clear own2 row2 b1 b2
  go_wp2
  go_loopw [6, 8] (fun v i wr => ∃ (k : Nat) (ps : List Pol), k ≤ n ∧ i = .int .i64 k ∧ Hid (ps = pollsO l ((ordT l).take k)) ∧ Hid (ps.length ≤ k) ∧ (∃ A' c', v = .slice A' ps.length c') ∧ Hid (PlOwn wr w2.heap.size v ps) ∧ Hid (Below w2.heap.size w2 wr)) (fun _ i _ => n - (intOf i).toNat)
  case atStart => exact ⟨0, [], by omega, rfl, Lib.hid (by rw [List.take_zero]; rfl), Lib.hid (Nat.le_refl _), ⟨none, 0, rfl⟩, Lib.hid (PlOwn.nil _ _), Lib.hid (Below.refl _ _)⟩
  case round =>
    obtain ⟨k, ps, hk, rfl, hps, hpl, ⟨Av, cv, rfl⟩, hown, hbel⟩ := hrel
    by_cases hlt : k < n
    · have hko : k < (ordT l).length := by rw [ordT_len]; have := hn'.out; omega
      obtain ⟨q, hq⟩ : ∃ q, (ordT l)[k] = q := ⟨_, rfl⟩
      have hql : q < l.length := by rw [← hq]; exact ordT_lt (List.getElem_mem hko)
      have HTK : Hid ((ordT l).take (k + 1) = (ordT l).take k ++ [q]) := Lib.hid (by rw [List.take_succ_eq_append_getElem hko, hq])
      have hnq : nth (intL (ordT l)) k = (q : Int) := by
        rw [nth_eq _ _ (by rw [HOL.out]; exact hlt)]
        simp [intL, hq]
      obtain ⟨b, o, rfl, hb1, hc1⟩ := (ROW.out.below hbel.out).at_ (i := k) (by rw [HOL.out]; exact hlt)
      rw [hnq] at hc1
      have HCQ : Hid (∀ w9 : World, Below w2.heap.size w2 w9 → w9.cell? ⟨b, o + k, none⟩ = some (.int .i64 (q : Int))) := Lib.hid (fun w9 hb => by
        obtain ⟨b9, o9, e9, _, h9⟩ := (ROW.out.below hb).at_ (i := k) (by rw [HOL.out]; exact hlt)
        injection e9 with e9
        injection e9 with e9 e9'
        subst e9 e9'
        rw [h9, hnq])
      have HNX : Hid (∀ r, r = addP ps (tgAt l q) q → r = pollsO l ((ordT l).take (k + 1))) := Lib.hid (fun r hr => by rw [hr, HTK.out, pollsO_snoc, hps.out])
      have hqn : (q : Int) < n := by have := hn'.out; omega
      have hq0 : (0 : Int) ≤ q := by omega
      have hqw := wf_small hq0 (by have := hn'.out; omega)
      have hlt' : (k : Int) < (n : Int) := by omega
      have hk0 : (0 : Int) ≤ k := by omega
      obtain ⟨bl, ol, hAl, hbl, hld0⟩ := (HVR.out.below (BEL.out.trans (hbel.out.mono BEL.out.size))).five hql
      subst hAl
      have HCT : Hid (chkT (tgAt l q) = 0) := Lib.hid (tag_right HE1.out hql)
      have hta : 0 ≤ (tgAt l q).ad ∧ (tgAt l q).ad ≤ 65536 := by
        have h := (chkT_zero HCT.out).2.2.2.1
        have := widT_le (tgAt l q)
        omega
      have HGOOD : Hid (∀ p ∈ ps, PGood l p) := Lib.hid (by
        rw [hps.out]
        exact (pinv_all (fun k hk => tag_right HE1.out hk) _ (fun k hk => ordT_lt (List.mem_of_mem_take hk)) ((ordT_sorted l).sublist (List.take_sublist _ _))).each)
      generalize tgAt l q = t at *
      have hst := made_tag wr t
      have hx := heap_alloc_new wr (.cells (tgC t).toArray 51)
      have HW : Hid (∀ W : World, Calls Tryz.prog 61 #[tgV t] W fun e w' => e = .returned (.int .i64 (widT t)) ∧ Below W.heap.size W w') := Lib.hid fun W => refWidth_t t W
      have belA := Lib.hid (hbel.out.alloc hbel.out.size (.cells (tgC t).toArray 51))
      have ownA := Lib.hid (hown.out.alloc (.cells (tgC t).toArray 51))
      clear hnq HTK hq
      have HVB : Hid (∀ q, (Value.slice Av ps.length cv).ownBlock = some q → w2.heap.size ≤ q ∧ q ≠ wr.heap.size) := Lib.hid (fun q e => by have := hown.out.block q e; omega)
      rcases snoc_cases ps with rfl | ⟨qs, p, rfl⟩
      · have hneg : IntKind.i64.wrap (-1) = -1 := by decide
        go_wp2
        generalize hW : wr.alloc (.cells (tgC t).toArray 51) = wa at *
        have bel9 := belA
        have own9 := ownA
        have HPK := hpl
        have th9 : TagH w2 wa wr.heap.size t := ⟨bel9.out, hx⟩
        have hvb : ∀ q, (Value.slice Av 0 cv).ownBlock = some q → w2.heap.size ≤ q ∧ q ≠ wr.heap.size := HVB.out
        have HK : Hid (∀ w9 : World, TagH w2 w9 wr.heap.size t → (TagH w2 w9 wr.heap.size t ∧ (w9.cell? ⟨wr.heap.size, 1, none⟩ = some (.int .i64 t.un) ∧ w9.cell? ⟨wr.heap.size, 2, none⟩ = some (.int .i64 t.ki) ∧ w9.cell? ⟨wr.heap.size, 3, none⟩ = some (.int .i64 t.ad) ∧ w9.cell? ⟨wr.heap.size, 4, none⟩ = some (.int .i64 t.ev)) ∧ (ldTag (.pointer (some ⟨wr.heap.size, 0, none⟩))).run Tryz.prog w9 = .ok (tgV t) w9 ∧ w9.cell? ⟨b, o + k, none⟩ = some (.int .i64 (q : Int)))) := Lib.hid fun w9 hw => ⟨hw, (tgBox hw.bx).2, tgBox_ld hw.bx, HCQ.out _ hw.bel⟩
        have belh : ∀ w9 : World, (TagH w2 w9 wr.heap.size t ∧ (w9.cell? ⟨wr.heap.size, 1, none⟩ = some (.int .i64 t.un) ∧ w9.cell? ⟨wr.heap.size, 2, none⟩ = some (.int .i64 t.ki) ∧ w9.cell? ⟨wr.heap.size, 3, none⟩ = some (.int .i64 t.ad) ∧ w9.cell? ⟨wr.heap.size, 4, none⟩ = some (.int .i64 t.ev)) ∧ (ldTag (.pointer (some ⟨wr.heap.size, 0, none⟩))).run Tryz.prog w9 = .ok (tgV t) w9 ∧ w9.cell? ⟨b, o + k, none⟩ = some (.int .i64 (q : Int))) → TagH w2 w9 wr.heap.size t := fun w9 h => h.1
        have hsz9 := bel9.out.size
        go_region_held3 (fun w9 => TagH w2 w9 wr.heap.size t ∧ (w9.cell? ⟨wr.heap.size, 1, none⟩ = some (.int .i64 t.un) ∧ w9.cell? ⟨wr.heap.size, 2, none⟩ = some (.int .i64 t.ki) ∧ w9.cell? ⟨wr.heap.size, 3, none⟩ = some (.int .i64 t.ad) ∧ w9.cell? ⟨wr.heap.size, 4, none⟩ = some (.int .i64 t.ev)) ∧ (ldTag (.pointer (some ⟨wr.heap.size, 0, none⟩))).run Tryz.prog w9 = .ok (tgV t) w9 ∧ w9.cell? ⟨b, o + k, none⟩ = some (.int .i64 (q : Int)))
          ((refine HK.out _ ?_
            repeat' (first
              | with_reducible exact th7
              | with_reducible exact th5
              | with_reducible exact th9
              | with_reducible exact belh _ (by assumption)
              | with_reducible apply TagH.drew
              | with_reducible apply TagH.drewN
              | with_reducible apply TagH.alloc
              | fail)))
          (first
            | (go_at_call 61; have bh := belh _ (by assumption); refine (HW.out _).mono ?_; rintro e w5 ⟨rfl, b5⟩; have th5 := bh.below b5; have bel5 : Below wa.heap.size wa w5 := (by first | exact b5 | exact Below.trans (below_drew (Below.refl _ _)) b5); have bs5 := bel5.size; have belX := Lib.hid ((bel5.alloc bs5 (.cells #[.int .i64 (q : Int)] 3)).alloc (by have hz1 := World.size_alloc w5 (.cells #[.int .i64 (q : Int)] 3); omega) (.cells #[.int .i64 t.un, .int .i64 t.ki, .int .i64 t.ad, .int .i64 (widT t), .int .i64 t.ev, .slice (some ⟨w5.heap.size, 0, none⟩) 1 1] 25)); have huX := Lib.hid (two_fst w5 (.cells #[.int .i64 (q : Int)] 3) (.cells #[.int .i64 t.un, .int .i64 t.ki, .int .i64 t.ad, .int .i64 (widT t), .int .i64 t.ev, .slice (some ⟨w5.heap.size, 0, none⟩) 1 1] 25)); have hnX := Lib.hid (box_news (w5.alloc (.cells #[.int .i64 (q : Int)] 3)) [.int .i64 t.un, .int .i64 t.ki, .int .i64 t.ad, .int .i64 (widT t), .int .i64 t.ev, .slice (some ⟨w5.heap.size, 0, none⟩) 1 1] 25 (w5.heap.size + 1) (by simp)))
            | (refine step_append_poll wa ((w5.alloc (.cells #[.int .i64 (q : Int)] 3)).alloc (.cells #[.int .i64 t.un, .int .i64 t.ki, .int .i64 t.ad, .int .i64 (widT t), .int .i64 t.ev, .slice (some ⟨w5.heap.size, 0, none⟩) 1 1] 25)) rfl _ _ 55 rfl Tryz.underlying55 info_poll w2.heap.size _ ([] : List Pol) rfl own9.out belX.out w5.heap.size bs5 (by omega) t.un t.ki t.ad (widT t) t.ev (q : Int) hqw huX.out ⟨w5.heap.size + 1, 0, none⟩ 1 rfl hnX.out (by have := HPK.out; omega) (by have hz1 := World.size_alloc w5 (.cells #[.int .i64 (q : Int)] 3); have hz2 := World.size_alloc (w5.alloc (.cells #[.int .i64 (q : Int)] 3)) (.cells #[.int .i64 t.un, .int .i64 t.ki, .int .i64 t.ad, .int .i64 (widT t), .int .i64 t.ev, .slice (some ⟨w5.heap.size, 0, none⟩) 1 1] 25); omega) ?_; intro v7 w7 own7 g7; have th7 := ((th5.alloc (.cells #[.int .i64 (q : Int)] 3)).alloc (.cells #[.int .i64 t.un, .int .i64 t.ki, .int .i64 t.ad, .int .i64 (widT t), .int .i64 t.ev, .slice (some ⟨w5.heap.size, 0, none⟩) 1 1] 25)).grown g7 hvb)
            | (go_at_call 61; have bh := belh _ (by assumption); refine (HW.out _).mono ?_; rintro e w5 ⟨rfl, b5⟩; have th5 := bh.below b5; obtain ⟨bel5, bs6, hu5⟩ := way2 b5; have bs5 := bel5.size; have belX := Lib.hid (bel5.alloc bs5 (.cells #[.int .i64 t.un, .int .i64 t.ki, .int .i64 t.ad, .int .i64 (widT t), .int .i64 t.ev, .slice (some ⟨wa.heap.size, 0, none⟩) 1 1] 25)); have huX := Lib.hid ((heap_alloc_old w5 (.cells #[.int .i64 t.un, .int .i64 t.ki, .int .i64 t.ad, .int .i64 (widT t), .int .i64 t.ev, .slice (some ⟨wa.heap.size, 0, none⟩) 1 1] 25) bs6).trans hu5); have hnX := Lib.hid (box_news w5 [.int .i64 t.un, .int .i64 t.ki, .int .i64 t.ad, .int .i64 (widT t), .int .i64 t.ev, .slice (some ⟨wa.heap.size, 0, none⟩) 1 1] 25 w5.heap.size rfl))
            | (refine step_append_poll wa (w5.alloc (.cells #[.int .i64 t.un, .int .i64 t.ki, .int .i64 t.ad, .int .i64 (widT t), .int .i64 t.ev, .slice (some ⟨wa.heap.size, 0, none⟩) 1 1] 25)) rfl _ _ 55 rfl Tryz.underlying55 info_poll w2.heap.size _ ([] : List Pol) rfl own9.out belX.out wa.heap.size (Nat.le_refl _) (by omega) t.un t.ki t.ad (widT t) t.ev (q : Int) hqw huX.out ⟨w5.heap.size, 0, none⟩ 1 rfl hnX.out (by have := HPK.out; omega) (by have hz2 := World.size_alloc w5 (.cells #[.int .i64 t.un, .int .i64 t.ki, .int .i64 t.ad, .int .i64 (widT t), .int .i64 t.ev, .slice (some ⟨wa.heap.size, 0, none⟩) 1 1] 25); omega) ?_; intro v7 w7 own7 g7; have th7 := (th5.alloc (.cells #[.int .i64 t.un, .int .i64 t.ki, .int .i64 t.ad, .int .i64 (widT t), .int .i64 t.ev, .slice (some ⟨wa.heap.size, 0, none⟩) 1 1] 25)).grown g7 hvb)
            | fail)
        all_goals
          obtain ⟨A7, c7, rfl, _⟩ := own7.len
          have own8 := Lib.hid own7
          have th8 := Lib.hid th7.bel
          have hps8 := Lib.hid (HNX.out (([] : List Pol) ++ [newP t q]) (addP_new2 (.inl rfl)).symm)
          have hpl8 : Hid ((([] : List Pol) ++ [newP t q]).length ≤ k + 1) := Lib.hid (by have h9 := HPK.out; rw [List.length_append, List.length_singleton]; exact Nat.succ_le_succ h9)
          clear own7 g7 th7 th5 bel5 bs5 belX huX hnX HK belh b5 hvb
          go_wp2
          go_roundw
          case rel => exact ⟨k + 1, ([] : List Pol) ++ [newP t q], by omega, by go_num, hps8, hpl8, ⟨A7, c7, rfl⟩, own8, th8⟩
          case measure => simp [intOf]; omega
      · obtain ⟨g, cg, At, mt, ctt, hv9, hgb, hgl, hgc, ⟨e0, e1, e2, e3, e4, e5⟩, hkt⟩ := ownA.out.at_ (i := qs.length) (by simp)
        injection hv9 with i1 i2 i3
        subst i1 i3
        have hpi : (qs ++ [p])[qs.length]'(by simp) = p := by simp
        rw [hpi] at e0 e1 e2 e3 e4 hkt
        clear hpi
        have hpg := HGOOD.out p (by simp)
        have hpa := hpg.ad
        have hpc := hpg.ct
        have hlen : (qs ++ [p]).length = qs.length + 1 := by simp
        have hqk : qs.length < 64 := by have := hpl.out; omega
        have HPK2 : Hid (∀ x, (qs ++ [p]).length ≤ x → (qs ++ [p]).length ≤ x) := Lib.hid (fun x h => h)
        generalize hm9 : (qs ++ [p]).length = m9 at *
        have hm9' := Lib.hid hm9
        have HPK : Hid ((qs ++ [p]).length ≤ k) := Lib.hid (by rw [hm9'.out]; exact hpl.out)
        clear HPK2
        have hzl : Hid (∀ x, x = qs.length → x = qs.length) := Lib.hid (fun x h => h)
        generalize hz : qs.length = z at *
        have hz' := Lib.hid hz
        have hwl : IntKind.i64.wrap ((m9 : Int) - 1) = (z : Int) := by rw [IntKind.wrap_i64]; omega
        have hz0 : (0 : Int) ≤ z := by omega
        have hzm : (z : Int) < m9 := by omega
        have hzw := wf_small hz0 (by omega)
        clear i2 hzl hm9 hz hpg hlen
        obtain ⟨jb, hjb⟩ : ∃ jb, joinB p t = jb := ⟨_, rfl⟩
        have HJB := Lib.hid hjb
        have HJ : Hid (∀ W : World, Calls Tryz.prog 65 #[.agg #[.int .i64 p.un, .int .i64 p.ki, .int .i64 p.ad, .int .i64 p.ct, .int .i64 p.ev, .slice At mt ctt], tgV t] W fun e w' => e = .returned (.tuple #[.int .i64 (bif jb then cntJ p t else 0), .bool jb]) ∧ Below W.heap.size W w') := Lib.hid fun W => by
          have h := refJoined_any p.un p.ki p.ad p.ct p.ev At mt ctt p.tg t W (by omega) (by omega) hta
          rw [← hjb]
          exact h
        clear hjb
        have HK0 : Hid (∀ w9 : World, Below (wr.alloc (.cells (tgC t).toArray 51)).heap.size (wr.alloc (.cells (tgC t).toArray 51)) w9 → (Below (wr.alloc (.cells (tgC t).toArray 51)).heap.size (wr.alloc (.cells (tgC t).toArray 51)) w9 ∧ (ldTag (.pointer (some ⟨wr.heap.size, 0, none⟩))).run Tryz.prog w9 = .ok (tgV t) w9 ∧ (w9.cell? ⟨g, z * 6, none⟩ = some (.int .i64 p.un) ∧ w9.cell? ⟨g, z * 6 + 1, none⟩ = some (.int .i64 p.ki) ∧ w9.cell? ⟨g, z * 6 + 2, none⟩ = some (.int .i64 p.ad) ∧ w9.cell? ⟨g, z * 6 + 3, none⟩ = some (.int .i64 p.ct) ∧ w9.cell? ⟨g, z * 6 + 4, none⟩ = some (.int .i64 p.ev) ∧ w9.cell? ⟨g, z * 6 + 5, none⟩ = some (.slice At mt ctt)))) := Lib.hid fun w9 hw => ⟨hw, tgBox_ld (keepB hw hx), (cellB hw hgl e0), (cellB hw hgl e1), (cellB hw hgl e2), (cellB hw hgl e3), (cellB hw hgl e4), (cellB hw hgl e5)⟩
        go_wp2
        generalize hW : wr.alloc (.cells (tgC t).toArray 51) = wa at *
        have HK := HK0
        clear HK0
        have belh : ∀ w9 : World, (Below wa.heap.size wa w9 ∧ (ldTag (.pointer (some ⟨wr.heap.size, 0, none⟩))).run Tryz.prog w9 = .ok (tgV t) w9 ∧ (w9.cell? ⟨g, z * 6, none⟩ = some (.int .i64 p.un) ∧ w9.cell? ⟨g, z * 6 + 1, none⟩ = some (.int .i64 p.ki) ∧ w9.cell? ⟨g, z * 6 + 2, none⟩ = some (.int .i64 p.ad) ∧ w9.cell? ⟨g, z * 6 + 3, none⟩ = some (.int .i64 p.ct) ∧ w9.cell? ⟨g, z * 6 + 4, none⟩ = some (.int .i64 p.ev) ∧ w9.cell? ⟨g, z * 6 + 5, none⟩ = some (.slice At mt ctt))) → Below wa.heap.size wa w9 := fun w9 h => h.1
        go_region_held3 (fun w9 => Below wa.heap.size wa w9 ∧ (ldTag (.pointer (some ⟨wr.heap.size, 0, none⟩))).run Tryz.prog w9 = .ok (tgV t) w9 ∧ (w9.cell? ⟨g, z * 6, none⟩ = some (.int .i64 p.un) ∧ w9.cell? ⟨g, z * 6 + 1, none⟩ = some (.int .i64 p.ki) ∧ w9.cell? ⟨g, z * 6 + 2, none⟩ = some (.int .i64 p.ad) ∧ w9.cell? ⟨g, z * 6 + 3, none⟩ = some (.int .i64 p.ct) ∧ w9.cell? ⟨g, z * 6 + 4, none⟩ = some (.int .i64 p.ev) ∧ w9.cell? ⟨g, z * 6 + 5, none⟩ = some (.slice At mt ctt)))
          ((refine HK.out _ ?_
            repeat' (first
              | with_reducible exact Below.refl _ _
              | with_reducible exact bel5
              | with_reducible exact belh _ (by assumption)
              | with_reducible apply below_drew
              | with_reducible apply below_drewN
              | fail)))
          (first
            | (go_at_call 65; have bh := belh _ (by assumption); refine (HJ.out _).mono ?_; rintro e w5 ⟨rfl, b5⟩; have bel5 : Below wa.heap.size wa w5 := Below.trans bh (b5.mono bh.size))
            | fail)
        have bel9 := Lib.hid (belA.out.trans (bel5.mono belA.out.size))
        have own9 := Lib.hid (ownA.out.below bel5 (Nat.le_refl _))
        have hx5 := keepB bel5 hx
        clear HK belh hkt b5 e0 e1 e2 e3 e4 e5 HJ hst
        cases jb
        case true =>
          obtain ⟨_, _, _, _, c3, _, _⟩ := own9.out.last hz'.out
          have f3 := own9.out.thaw (z * 6 + 3)
          have ownS := own9.out.setct (cntJ p t)
          rw [hz'.out] at ownS
          have belS := Lib.hid (below_setCell bel9.out hgb (z * 6 + 3) (.int .i64 (cntJ p t)))
          have hcj : Hid (p.wct (cntJ p t) = p.wct (cntJ p t)) := Lib.hid rfl
          have htl : Hid (p.tg.length ≤ 1000000) := Lib.hid (by
            have h1 := (pinv_all (fun k hk => tag_right HE1.out hk) ((ordT l).take k) (fun k hk => ordT_lt (List.mem_of_mem_take hk)) ((ordT_sorted l).sublist (List.take_sublist _ _))).flat
            rw [← hps.out, List.flatMap_append] at h1
            have h2 := congrArg List.length h1
            rw [List.length_append, List.length_map, List.length_take] at h2
            simp at h2
            omega)
          generalize hcc : cntJ p t = cnt at *
          have hcc' := Lib.hid hcc
          clear hcc hcj
          go_wp2
          generalize hWS : w5.setCell ⟨g, z * 6 + 3, none⟩ (.int .i64 cnt) = ws at *
          obtain ⟨A3, m3, cc3, hgs, _, c5, k5⟩ := ownS.last hz'.out
          have k5 : KOwn .i64 3 ws w2.heap.size (.slice A3 m3 cc3) p.tg := k5
          have hcq := HCQ.out ws belS.out
          clear c3 f3
          go_region_law (first
            | (refine step_append_K (World.drew (ws.alloc (.cells #[.int .i64 (q : Int)] 3))) rfl _ _ 23 rfl w2.heap.size .i64 3 8 Tryz.underlying23 I.info_i64 _ p.tg rfl (k5.alloc (.cells #[.int .i64 (q : Int)] 3)) (ws.heap.size + 1) (some ⟨ws.heap.size, 0, none⟩) 1 1 [(q : Int)] rfl (Row.one .i64 ws 3 (q : Int) hqw) rfl (Nat.le_refl _) (by have := htl.out; omega) (by have := htl.out; simp only [maxLen]; omega) (by have hz1 := World.size_alloc ws (.cells #[.int .i64 (q : Int)] 3); show _ ≤ (ws.alloc _).heap.size; have := belS.out.size; omega) ?_; intro v7 w7 own7 g7 nw7 sl7; obtain ⟨A7, n7, c7, rfl⟩ := sl7; have g9 : (ws.alloc (.cells #[.int .i64 (q : Int)] 3)).grownBy w7 _ := grown_undrew g7; have hst7 := (ownS.alloc (.cells #[.int .i64 (q : Int)] 3)).stays (k5.alloc (.cells #[.int .i64 (q : Int)] 3)) g9; have c7' := (World.cell?_of_block (a := ⟨g, z * 6 + 5, none⟩) hst7).trans (cellB (bel_alloc ws (.cells #[.int .i64 (q : Int)] 3)) hgs c5); have f7 := (World.frozen?_of_block (a := ⟨g, z * 6 + 5, none⟩) hst7).trans ((ownS.alloc (.cells #[.int .i64 (q : Int)] 3)).thaw (z * 6 + 5)))
            | (refine step_append_K (ws.alloc (.cells #[.int .i64 (q : Int)] 3)) rfl _ _ 23 rfl w2.heap.size .i64 3 8 Tryz.underlying23 I.info_i64 _ p.tg rfl (k5.alloc (.cells #[.int .i64 (q : Int)] 3)) (ws.heap.size + 1) (some ⟨ws.heap.size, 0, none⟩) 1 1 [(q : Int)] rfl (Row.one .i64 ws 3 (q : Int) hqw) rfl (Nat.le_refl _) (by have := htl.out; omega) (by have := htl.out; simp only [maxLen]; omega) (by have hz1 := World.size_alloc ws (.cells #[.int .i64 (q : Int)] 3); show _ ≤ (ws.alloc _).heap.size; have := belS.out.size; omega) ?_; intro v7 w7 own7 g7 nw7 sl7; obtain ⟨A7, n7, c7, rfl⟩ := sl7; have g9 : (ws.alloc (.cells #[.int .i64 (q : Int)] 3)).grownBy w7 _ := g7; have hst7 := (ownS.alloc (.cells #[.int .i64 (q : Int)] 3)).stays (k5.alloc (.cells #[.int .i64 (q : Int)] 3)) g9; have c7' := (World.cell?_of_block (a := ⟨g, z * 6 + 5, none⟩) hst7).trans (cellB (bel_alloc ws (.cells #[.int .i64 (q : Int)] 3)) hgs c5); have f7 := (World.frozen?_of_block (a := ⟨g, z * 6 + 5, none⟩) hst7).trans ((ownS.alloc (.cells #[.int .i64 (q : Int)] 3)).thaw (z * 6 + 5)))
            | (refine step_append_K (World.drew (World.drew (ws.alloc (.cells #[.int .i64 (q : Int)] 3)))) rfl _ _ 23 rfl w2.heap.size .i64 3 8 Tryz.underlying23 I.info_i64 _ p.tg rfl (k5.alloc (.cells #[.int .i64 (q : Int)] 3)) (ws.heap.size + 1) (some ⟨ws.heap.size, 0, none⟩) 1 1 [(q : Int)] rfl (Row.one .i64 ws 3 (q : Int) hqw) rfl (Nat.le_refl _) (by have := htl.out; omega) (by have := htl.out; simp only [maxLen]; omega) (by have hz1 := World.size_alloc ws (.cells #[.int .i64 (q : Int)] 3); show _ ≤ (ws.alloc _).heap.size; have := belS.out.size; omega) ?_; intro v7 w7 own7 g7 nw7 sl7; obtain ⟨A7, n7, c7, rfl⟩ := sl7; have g9 : (ws.alloc (.cells #[.int .i64 (q : Int)] 3)).grownBy w7 _ := grown_undrew (grown_undrew g7); have hst7 := (ownS.alloc (.cells #[.int .i64 (q : Int)] 3)).stays (k5.alloc (.cells #[.int .i64 (q : Int)] 3)) g9; have c7' := (World.cell?_of_block (a := ⟨g, z * 6 + 5, none⟩) hst7).trans (cellB (bel_alloc ws (.cells #[.int .i64 (q : Int)] 3)) hgs c5); have f7 := (World.frozen?_of_block (a := ⟨g, z * 6 + 5, none⟩) hst7).trans ((ownS.alloc (.cells #[.int .i64 (q : Int)] 3)).thaw (z * 6 + 5)))
            | fail)
          all_goals
            have ownF := Lib.hid (ownS.joined hz'.out c5 own7 g9 nw7)
            have belF := Lib.hid (below_setCell ((belS.out.alloc belS.out.size (.cells #[.int .i64 (q : Int)] 3)).grown g9 (by have hz1 := World.size_alloc ws (.cells #[.int .i64 (q : Int)] 3); have := belS.out.size; omega) (fun x e => (k5.block x e).1)) hgb (z * 6 + 5) (.slice A7 n7 c7))
            have hfin : Hid (qs ++ [(p.wct cnt).wtg (p.tg ++ [(q : Int)])] = pollsO l ((ordT l).take (k + 1))) := Lib.hid (HNX.out _ (by rw [addP_join HJB.out, ← hcc'.out]; rfl))
            have hlf : Hid ((qs ++ [(p.wct cnt).wtg (p.tg ++ [(q : Int)])]).length = m9) := Lib.hid (by have := hm9'.out; simp at this ⊢; omega)
            clear own7 g9 g7 nw7 hst7 ownS c5 k5 hcq
            (try go_wp2)
            go_roundw
            case rel => exact ⟨k + 1, qs ++ [(p.wct cnt).wtg (p.tg ++ [(q : Int)])], by omega, by go_num, hfin, Lib.hid (by rw [hlf.out]; have := hpl.out; omega), ⟨some ⟨g, 0, none⟩, cv, by rw [hlf.out]⟩, ownF, belF⟩
            case measure => simp [intOf]; omega
        case false =>
          go_wp2
          generalize w5 = wj at *
          have th9 : TagH w2 wj wr.heap.size t := ⟨bel9.out, hx5⟩
          have hvb : ∀ q, (Value.slice (some ⟨g, 0, none⟩) m9 cv).ownBlock = some q → w2.heap.size ≤ q ∧ q ≠ wr.heap.size := HVB.out
          have HK : Hid (∀ w9 : World, TagH w2 w9 wr.heap.size t → (TagH w2 w9 wr.heap.size t ∧ (w9.cell? ⟨wr.heap.size, 1, none⟩ = some (.int .i64 t.un) ∧ w9.cell? ⟨wr.heap.size, 2, none⟩ = some (.int .i64 t.ki) ∧ w9.cell? ⟨wr.heap.size, 3, none⟩ = some (.int .i64 t.ad) ∧ w9.cell? ⟨wr.heap.size, 4, none⟩ = some (.int .i64 t.ev)) ∧ (ldTag (.pointer (some ⟨wr.heap.size, 0, none⟩))).run Tryz.prog w9 = .ok (tgV t) w9 ∧ w9.cell? ⟨b, o + k, none⟩ = some (.int .i64 (q : Int)))) := Lib.hid fun w9 hw => ⟨hw, (tgBox hw.bx).2, tgBox_ld hw.bx, HCQ.out _ hw.bel⟩
          have belh : ∀ w9 : World, (TagH w2 w9 wr.heap.size t ∧ (w9.cell? ⟨wr.heap.size, 1, none⟩ = some (.int .i64 t.un) ∧ w9.cell? ⟨wr.heap.size, 2, none⟩ = some (.int .i64 t.ki) ∧ w9.cell? ⟨wr.heap.size, 3, none⟩ = some (.int .i64 t.ad) ∧ w9.cell? ⟨wr.heap.size, 4, none⟩ = some (.int .i64 t.ev)) ∧ (ldTag (.pointer (some ⟨wr.heap.size, 0, none⟩))).run Tryz.prog w9 = .ok (tgV t) w9 ∧ w9.cell? ⟨b, o + k, none⟩ = some (.int .i64 (q : Int))) → TagH w2 w9 wr.heap.size t := fun w9 h => h.1
          have hsz9 := bel9.out.size
          go_region_held3 (fun w9 => TagH w2 w9 wr.heap.size t ∧ (w9.cell? ⟨wr.heap.size, 1, none⟩ = some (.int .i64 t.un) ∧ w9.cell? ⟨wr.heap.size, 2, none⟩ = some (.int .i64 t.ki) ∧ w9.cell? ⟨wr.heap.size, 3, none⟩ = some (.int .i64 t.ad) ∧ w9.cell? ⟨wr.heap.size, 4, none⟩ = some (.int .i64 t.ev)) ∧ (ldTag (.pointer (some ⟨wr.heap.size, 0, none⟩))).run Tryz.prog w9 = .ok (tgV t) w9 ∧ w9.cell? ⟨b, o + k, none⟩ = some (.int .i64 (q : Int)))
            ((refine HK.out _ ?_
              repeat' (first
                | with_reducible exact th7
                | with_reducible exact th5
                | with_reducible exact th9
                | with_reducible exact belh _ (by assumption)
                | with_reducible apply TagH.drew
                | with_reducible apply TagH.drewN
                | with_reducible apply TagH.alloc
                | fail)))
            (first
              | (go_at_call 61; have bh := belh _ (by assumption); refine (HW.out _).mono ?_; rintro e w5 ⟨rfl, b5⟩; have th5 := bh.below b5; have bel5 : Below wj.heap.size wj w5 := (by first | exact b5 | exact Below.trans (below_drew (Below.refl _ _)) b5); have bs5 := bel5.size; have belX := Lib.hid ((bel5.alloc bs5 (.cells #[.int .i64 (q : Int)] 3)).alloc (by have hz1 := World.size_alloc w5 (.cells #[.int .i64 (q : Int)] 3); omega) (.cells #[.int .i64 t.un, .int .i64 t.ki, .int .i64 t.ad, .int .i64 (widT t), .int .i64 t.ev, .slice (some ⟨w5.heap.size, 0, none⟩) 1 1] 25)); have huX := Lib.hid (two_fst w5 (.cells #[.int .i64 (q : Int)] 3) (.cells #[.int .i64 t.un, .int .i64 t.ki, .int .i64 t.ad, .int .i64 (widT t), .int .i64 t.ev, .slice (some ⟨w5.heap.size, 0, none⟩) 1 1] 25)); have hnX := Lib.hid (box_news (w5.alloc (.cells #[.int .i64 (q : Int)] 3)) [.int .i64 t.un, .int .i64 t.ki, .int .i64 t.ad, .int .i64 (widT t), .int .i64 t.ev, .slice (some ⟨w5.heap.size, 0, none⟩) 1 1] 25 (w5.heap.size + 1) (by simp)))
              | (refine step_append_poll wj ((w5.alloc (.cells #[.int .i64 (q : Int)] 3)).alloc (.cells #[.int .i64 t.un, .int .i64 t.ki, .int .i64 t.ad, .int .i64 (widT t), .int .i64 t.ev, .slice (some ⟨w5.heap.size, 0, none⟩) 1 1] 25)) rfl _ _ 55 rfl Tryz.underlying55 info_poll w2.heap.size _ (qs ++ [p]) rfl own9.out belX.out w5.heap.size bs5 (by omega) t.un t.ki t.ad (widT t) t.ev (q : Int) hqw huX.out ⟨w5.heap.size + 1, 0, none⟩ 1 rfl hnX.out (by have := HPK.out; omega) (by have hz1 := World.size_alloc w5 (.cells #[.int .i64 (q : Int)] 3); have hz2 := World.size_alloc (w5.alloc (.cells #[.int .i64 (q : Int)] 3)) (.cells #[.int .i64 t.un, .int .i64 t.ki, .int .i64 t.ad, .int .i64 (widT t), .int .i64 t.ev, .slice (some ⟨w5.heap.size, 0, none⟩) 1 1] 25); omega) ?_; intro v7 w7 own7 g7; have th7 := ((th5.alloc (.cells #[.int .i64 (q : Int)] 3)).alloc (.cells #[.int .i64 t.un, .int .i64 t.ki, .int .i64 t.ad, .int .i64 (widT t), .int .i64 t.ev, .slice (some ⟨w5.heap.size, 0, none⟩) 1 1] 25)).grown g7 hvb)
              | (go_at_call 61; have bh := belh _ (by assumption); refine (HW.out _).mono ?_; rintro e w5 ⟨rfl, b5⟩; have th5 := bh.below b5; obtain ⟨bel5, bs6, hu5⟩ := way2 b5; have bs5 := bel5.size; have belX := Lib.hid (bel5.alloc bs5 (.cells #[.int .i64 t.un, .int .i64 t.ki, .int .i64 t.ad, .int .i64 (widT t), .int .i64 t.ev, .slice (some ⟨wj.heap.size, 0, none⟩) 1 1] 25)); have huX := Lib.hid ((heap_alloc_old w5 (.cells #[.int .i64 t.un, .int .i64 t.ki, .int .i64 t.ad, .int .i64 (widT t), .int .i64 t.ev, .slice (some ⟨wj.heap.size, 0, none⟩) 1 1] 25) bs6).trans hu5); have hnX := Lib.hid (box_news w5 [.int .i64 t.un, .int .i64 t.ki, .int .i64 t.ad, .int .i64 (widT t), .int .i64 t.ev, .slice (some ⟨wj.heap.size, 0, none⟩) 1 1] 25 w5.heap.size rfl))
              | (refine step_append_poll wj (w5.alloc (.cells #[.int .i64 t.un, .int .i64 t.ki, .int .i64 t.ad, .int .i64 (widT t), .int .i64 t.ev, .slice (some ⟨wj.heap.size, 0, none⟩) 1 1] 25)) rfl _ _ 55 rfl Tryz.underlying55 info_poll w2.heap.size _ (qs ++ [p]) rfl own9.out belX.out wj.heap.size (Nat.le_refl _) (by omega) t.un t.ki t.ad (widT t) t.ev (q : Int) hqw huX.out ⟨w5.heap.size, 0, none⟩ 1 rfl hnX.out (by have := HPK.out; omega) (by have hz2 := World.size_alloc w5 (.cells #[.int .i64 t.un, .int .i64 t.ki, .int .i64 t.ad, .int .i64 (widT t), .int .i64 t.ev, .slice (some ⟨wj.heap.size, 0, none⟩) 1 1] 25); omega) ?_; intro v7 w7 own7 g7; have th7 := (th5.alloc (.cells #[.int .i64 t.un, .int .i64 t.ki, .int .i64 t.ad, .int .i64 (widT t), .int .i64 t.ev, .slice (some ⟨wj.heap.size, 0, none⟩) 1 1] 25)).grown g7 hvb)
              | fail)
          all_goals
            obtain ⟨A7, c7, rfl, _⟩ := own7.len
            have own8 := Lib.hid own7
            have th8 := Lib.hid th7.bel
            have hps8 := Lib.hid (HNX.out ((qs ++ [p]) ++ [newP t q]) (addP_new2 (.inr ⟨qs, p, rfl, HJB.out⟩)).symm)
            have hpl8 : Hid (((qs ++ [p]) ++ [newP t q]).length ≤ k + 1) := Lib.hid (by have h9 := HPK.out; rw [List.length_append, List.length_singleton]; exact Nat.succ_le_succ h9)
            clear own7 g7 th7 th5 bel5 bs5 belX huX hnX HK belh b5 hvb
            go_wp2
            go_roundw
            case rel => exact ⟨k + 1, (qs ++ [p]) ++ [newP t q], by omega, by go_num, hps8, hpl8, ⟨A7, c7, rfl⟩, own8, th8⟩
            case measure => simp [intOf]; omega
    · obtain rfl : k = n := by omega
      have hfin : Hid (ps = planL l) := Lib.hid (by rw [hps.out, HPL.out, List.take_of_length_le (by rw [ordT_len]; have := hn'.out; omega)])
      have HO : Hid (PlOwn wr w.heap.size (.slice Av ps.length cv) (planL l)) := Lib.hid (by rw [← hfin.out]; exact hown.out.mono BEL.out.size)
      have HBE := Lib.hid (BEL.out.trans (hbel.out.mono BEL.out.size))
      generalize ps.length = m9 at *
      go_wp2
      (try simp only [Exit.inBlock, Exit.then])
      refine bodyPost_ret (v := .tuple #[.slice Av m9 cv, .int .i64 0]) (by simp [results, Tryz.results39, go_sem]) rfl ?_
      exact ⟨_, rfl, HO.out, HBE.out⟩
end Go.Proofs.YtcmbdhmhkfhjfaaGreat
namespace Go.Proofs.YtcmbdhmhkfhjfaaGreat
open Go.RowKit
set_option linter.unusedVariables false
set_option maxRecDepth 100000

section
variable {P : Program}
theorem run_append_pol0 (w : World) (t : TypeId) (ht : P.underlying t = some (.slice 25)) (hi : (P.info? 25).map (fun i => (i.zero, i.size, i.bytes)) = some (some (.agg #[.int .i64 0, .int .i64 0, .int .i64 0, .int .i64 0, .int .i64 0, .slice none 0 0]), 6, 64))
    (base : Nat) (v : Value) (ps : List Pol) (hown : PlOwn w base v ps) (un ki pa ct ev : Int) (ad : Addr) (c : Nat)
    (hnews : ∀ j y, [Value.int .i64 un, .int .i64 ki, .int .i64 pa, .int .i64 ct, .int .i64 ev, .slice none 0 0][j]? = some y → w.cell? (ad.add j) = some y) (hb : ps.length ≤ 1000000) (hbase : base ≤ w.heap.size) :
    ∃ v' w', (∀ ty, (Builtin.append_ #[t, t] ty #[v, .slice (some ad) 1 c]).run P w = .ok v' w') ∧ PlOwn w' base v' (ps ++ [⟨un, ki, pa, ct, ev, []⟩]) ∧ w.grownBy w' v.ownBlock := by
  obtain ⟨i, hi1, hz, hsz, hby⟩ := info_parts hi
  obtain ⟨L, rfl, k2, h3, h4⟩ := hown
  rw [List.length_map] at hb
  obtain ⟨v', w', hrun, g1, g2, _⟩ := run_append_own (P := P) w base t t 25 i _ 6 64 ht hi1 hz hsz hby rfl (by omega) v L.length (flatV pcell L) k2 ad 1 c [Value.int .i64 un, .int .i64 ki, .int .i64 pa, .int .i64 ct, .int .i64 ev, .slice none 0 0] rfl hnews (by simp [Value.oneCell']) (by simp only [maxLen]; omega) (by omega) hbase
  refine ⟨v', w', fun ty => ?_, ⟨L ++ [(⟨un, ki, pa, ct, ev, []⟩, .slice none 0 0)], by simp, ?_, fun p hp => ?_, ?_⟩, g2⟩
  · exact hrun
  · rw [flatV_append, flatV_one, List.length_append]
    exact g1
  · rcases List.mem_append.1 hp with hp | hp
    · exact (h3 p hp).kept g2 (pol_far k2 (h3 p hp))
    · simp only [List.mem_singleton] at hp
      subst hp
      exact KOwn.nil _ _ _ _
  · refine List.pairwise_append.2 ⟨h4, List.pairwise_singleton _ _, fun a ha b hb => ?_⟩
    simp only [List.mem_singleton] at hb
    subst hb
    exact FarV.symm (.inl rfl)
theorem wpList_append_pol0 {ops : Array Oper} {rest : List Oper} {o : Oper} {a : Act} {Q : Exit → Act → World → Prop} (w : World) (hgd : o.guard = none) (s x : Operand) (t : TypeId)
    (ho : o.op = .call { callee := .builtin .append, args := #[s, x], argTypes := #[t, t] }) (ht : P.underlying t = some (.slice 25)) (hi : (P.info? 25).map (fun i => (i.zero, i.size, i.bytes)) = some (some (.agg #[.int .i64 0, .int .i64 0, .int .i64 0, .int .i64 0, .int .i64 0, .slice none 0 0]), 6, 64))
    (base : Nat) (v : Value) (ps : List Pol) (hs : a.eval s = v) (hown : PlOwn w base v ps) (un ki pa ct ev : Int) (ad : Addr) (c : Nat) (hx : a.eval x = .slice (some ad) 1 c)
    (hnews : ∀ j y, [Value.int .i64 un, .int .i64 ki, .int .i64 pa, .int .i64 ct, .int .i64 ev, .slice none 0 0][j]? = some y → w.cell? (ad.add j) = some y) (hb : ps.length ≤ 1000000) (hbase : base ≤ w.heap.size)
    (h : ∀ v' w', PlOwn w' base v' (ps ++ [⟨un, ki, pa, ct, ev, []⟩]) → w.grownBy w' v.ownBlock → wpList P ops Q rest (a.put o.dst v') w') : wpList P ops Q (o :: rest) a w := by
  obtain ⟨v', w', hrun, g1, g2⟩ := run_append_pol0 (P := P) w t ht hi base v ps hown un ki pa ct ev ad c hnews hb hbase
  exact wpList_append_run w hgd s x t ho v (.slice (some ad) 1 c) v' w' hs hx hrun (h v' w' g1 g2)
end
theorem addP_last {ps qs : List Pol} {p : Pol} {t : Tg} {k : Nat} (h : (ps = qs ++ [p] ∧ joinB p t = true) ∨ (qs = ps ∧ p = ⟨t.un, t.ki, t.ad, 0, t.ev, []⟩ ∧ (ps = [] ∨ ∃ us u, ps = us ++ [u] ∧ joinB u t = false))) : qs ++ [(p.wct (cntJ p t)).wtg (p.tg ++ [(k : Int)])] = addP ps t k := by
  rcases h with ⟨rfl, hj⟩ | ⟨rfl, rfl, hj⟩
  · rw [addP_join hj]; rfl
  · rw [addP_new2 hj]
    have hw := widT_le t
    have hc : cntJ ⟨t.un, t.ki, t.ad, 0, t.ev, []⟩ t = widT t := by
      show (if t.ad + widT t - t.ad < 0 then 0 else t.ad + widT t - t.ad) = widT t
      rw [if_neg (by omega)]; omega
    rw [hc]; rfl
end Go.Proofs.YtcmbdhmhkfhjfaaGreat
namespace Go.Proofs.YtcmbdhmhkfhjfaaGreat
open Go.RowKit
set_option linter.unusedVariables false
set_option maxRecDepth 100000
attribute [local go_sem ↓] ldTag_fold stTag_fold bxTag_fold
attribute [local go_sem] bxTag_run

set_option maxHeartbeats 8000000 in
theorem Plan10_any (A : Option Addr) (n c : Nat) (l : List Tg) (w : World) (hr : VRow w w.heap.size A (flatV tgC l)) (hn : l.length = n) (hnb : n ≤ 4611686018427387904) (hok : ∀ t ∈ l, Tg.Ok t) :
    Calls Tryz.prog 22 #[.slice A n c] w (GivesP w (planL l) (chkAll l).1) := by
  obtain ⟨E1, hE1⟩ : ∃ E, (chkAll l).1 = E := ⟨_, rfl⟩
  have HE1 := Lib.hid hE1
  have HCA : Hid (Calls Tryz.prog 42 #[.slice A n c] w fun e w' => e = .returned (.tuple #[.int .i64 E1, .int .i64 (chkAll l).2]) ∧ Below w.heap.size w w') := Lib.hid (by
    have h := CheckAll9_any A n c l w hr hn hnb hok
    rw [hE1] at h
    exact h)
  have HVR := Lib.hid hr
  have hn' := Lib.hid hn
  rw [hE1]
  by_cases h1 : E1 = 0
  case neg =>
    obtain ⟨f1, f2⟩ := fold_ne h1
    have HF : Hid (∀ w', Below w.heap.size w w' → GivesP w (planL l) E1 (.returned (.tuple #[.slice none 0 0, .int .i64 E1])) w') := Lib.hid (fun w' hb => by
      rw [plan_bad (by rw [hE1]; exact h1)]
      exact ⟨_, rfl, PlOwn.nil _ _, hb⟩)
    clear h1 hr hE1 hn
    go_enter Tryz.func22, Tryz.ntmps22
    go_wp2_with fail
    refine HCA.out.mono ?_
    rintro e w1 ⟨rfl, b1⟩
    go_wp2
    (try simp only [Exit.inBlock, Exit.then])
    refine bodyPost_ret (v := .tuple #[.slice none 0 0, .int .i64 E1]) (by simp [results, Tryz.results22, go_sem]) rfl ?_
    exact HF.out _ b1
  subst h1
  have HT := Lib.hid (tag_tab hE1)
  have h64 : n ≤ 64 := by have := HT.out.1; omega
  have HPL : Hid (planL l = pollsO l (ordT l)) := Lib.hid (by unfold planL; rw [if_pos hE1])
  have HOL : Hid ((intL (ordT l)).length = n) := Lib.hid (by rw [intL_len, ordT_len]; exact hn)
  have HOW : Hid (∀ x ∈ intL (ordT l), (Lit.int .i64 x).wf = true) := Lib.hid (fun x hx => by
    obtain ⟨k, hk, rfl⟩ := List.mem_map.1 hx
    have := ordT_lt hk
    exact wf_small (by omega) (by omega))
  clear hE1 hr hn
  go_enter Tryz.func22, Tryz.ntmps22
  go_wp2_with fail
  refine HCA.out.mono ?_
  rintro e w1 ⟨rfl, b1⟩
  clear HCA
  go_wp2_with fail
  refine (order_any A n c l w1 ((HVR.out.below b1).more b1.size) hn'.out h64).mono ?_
  rintro e w2 ⟨A2, c2, rfl, row2, b2⟩
  have ROW := Lib.hid row2
  have BEL := Lib.hid (b1.trans (b2.mono b1.size))
  clear row2 b1 b2
  go_wp2
  go_loopw [6, 23] (fun v i wr => ∃ (k : Nat) (ps : List Pol), k ≤ n ∧ i = .int .i64 k ∧ Hid (ps = pollsO l ((ordT l).take k)) ∧ Hid (ps.length ≤ k) ∧ (∃ A' c', v = .slice A' ps.length c') ∧ Hid (PlOwn wr w2.heap.size v ps) ∧ Hid (Below w2.heap.size w2 wr)) (fun _ i _ => n - (intOf i).toNat)
  case atStart => exact ⟨0, [], by omega, rfl, Lib.hid (by rw [List.take_zero]; rfl), Lib.hid (Nat.le_refl _), ⟨none, 0, rfl⟩, Lib.hid (PlOwn.nil _ _), Lib.hid (Below.refl _ _)⟩
  case round =>
    obtain ⟨k, ps, hk, rfl, hps, hpl, ⟨Av, cv, rfl⟩, hown, hbel⟩ := hrel
    by_cases hlt : k < n
    · have hko : k < (ordT l).length := by rw [ordT_len]; have := hn'.out; omega
      obtain ⟨q, hq⟩ : ∃ q, (ordT l)[k] = q := ⟨_, rfl⟩
      have hql : q < l.length := by rw [← hq]; exact ordT_lt (List.getElem_mem hko)
      have HTK : Hid ((ordT l).take (k + 1) = (ordT l).take k ++ [q]) := Lib.hid (by rw [List.take_succ_eq_append_getElem hko, hq])
      have hnq : nth (intL (ordT l)) k = (q : Int) := by
        rw [nth_eq _ _ (by rw [HOL.out]; exact hlt)]
        simp [intL, hq]
      obtain ⟨b, o, rfl, hb1, hc1⟩ := (ROW.out.below hbel.out).at_ (i := k) (by rw [HOL.out]; exact hlt)
      rw [hnq] at hc1
      have HCQ : Hid (∀ w9 : World, Below w2.heap.size w2 w9 → w9.cell? ⟨b, o + k, none⟩ = some (.int .i64 (q : Int))) := Lib.hid (fun w9 hb => by
        obtain ⟨b9, o9, e9, _, h9⟩ := (ROW.out.below hb).at_ (i := k) (by rw [HOL.out]; exact hlt)
        injection e9 with e9
        injection e9 with e9 e9'
        subst e9 e9'
        rw [h9, hnq])
      have HNX : Hid (∀ r, r = addP ps (tgAt l q) q → r = pollsO l ((ordT l).take (k + 1))) := Lib.hid (fun r hr => by rw [hr, HTK.out, pollsO_snoc, hps.out])
      have hqn : (q : Int) < n := by have := hn'.out; omega
      have hq0 : (0 : Int) ≤ q := by omega
      have hqw := wf_small hq0 (by have := hn'.out; omega)
      have hlt' : (k : Int) < (n : Int) := by omega
      have hk0 : (0 : Int) ≤ k := by omega
      obtain ⟨bl, ol, hAl, hbl, hld0⟩ := (HVR.out.below (BEL.out.trans (hbel.out.mono BEL.out.size))).five hql
      subst hAl
      have HCT : Hid (chkT (tgAt l q) = 0) := Lib.hid (tag_right HE1.out hql)
      have hta : 0 ≤ (tgAt l q).ad ∧ (tgAt l q).ad ≤ 65536 := by
        have h := (chkT_zero HCT.out).2.2.2.1
        have := widT_le (tgAt l q)
        omega
      have HGOOD : Hid (∀ p ∈ ps, PGood l p) := Lib.hid (by
        rw [hps.out]
        exact (pinv_all (fun k hk => tag_right HE1.out hk) _ (fun k hk => ordT_lt (List.mem_of_mem_take hk)) ((ordT_sorted l).sublist (List.take_sublist _ _))).each)
      generalize tgAt l q = t at *
      have hst := made_tag wr t
      have hx := heap_alloc_new wr (.cells (tgC t).toArray 51)
      have belA := Lib.hid (hbel.out.alloc hbel.out.size (.cells (tgC t).toArray 51))
      have ownA := Lib.hid (hown.out.alloc (.cells (tgC t).toArray 51))
      have HVB : Hid (∀ q, (Value.slice Av ps.length cv).ownBlock = some q → w2.heap.size ≤ q ∧ q ≠ wr.heap.size) := Lib.hid (fun q e => by have := hown.out.block q e; omega)
      clear hnq HTK hq
      go_wp2
      generalize hW : wr.alloc (.cells (tgC t).toArray 51) = wa at *
      go_cut [44] from 24 to 80 (fun s wx => ∃ nb : Bool, s = .bool nb ∧ Hid (Below wa.heap.size wa wx) ∧ Hid ((nb = true ∧ (ps = [] ∨ ∃ us u, ps = us ++ [u] ∧ joinB u t = false)) ∨ (nb = false ∧ ∃ us u, ps = us ++ [u] ∧ joinB u t = true)))
      case first =>
        rcases snoc_cases ps with rfl | ⟨us, u, rfl⟩
        · have h00 : ((([] : List Pol).length : Int) == 0) = true := by simp
          go_quiet (fail)
          (try go_wp2)
          go_meet
          exact ⟨true, rfl, Lib.hid (by first | exact below_drewN (Below.refl _ _) nq | exact Below.refl _ _), Lib.hid (.inl ⟨rfl, by simp⟩)⟩
        · obtain ⟨g, cg, At, mt, ctt, hv9, hgb, hgl, hgc, ⟨e0, e1, e2, e3, e4, e5⟩, hkt⟩ := ownA.out.at_ (i := us.length) (by simp)
          injection hv9 with i1 i2 i3
          subst i1 i3
          have hpi : (us ++ [u])[us.length]'(by simp) = u := by simp
          rw [hpi] at e0 e1 e2 e3 e4 hkt
          clear hpi
          have hpg := HGOOD.out u (by simp)
          have hpa := hpg.ad
          have hpc := hpg.ct
          have hlen : (us ++ [u]).length = us.length + 1 := by simp
          have hqk : us.length + 1 ≤ k := by have := hpl.out; omega
          have htl : Hid (u.tg.length ≤ 1000000) := Lib.hid (by
            have h1 := (pinv_all (fun k hk => tag_right HE1.out hk) ((ordT l).take k) (fun k hk => ordT_lt (List.mem_of_mem_take hk)) ((ordT_sorted l).sublist (List.take_sublist _ _))).flat
            rw [← hps.out, List.flatMap_append] at h1
            have h2 := congrArg List.length h1
            rw [List.length_append, List.length_map, List.length_take] at h2
            simp at h2
            omega)
          have HPK : Hid ((us ++ [u]).length ≤ 1000000) := Lib.hid (by rw [hlen]; omega)
          generalize hm9 : (us ++ [u]).length = m9 at *
          have hm9' := Lib.hid hm9
          generalize hz : us.length = z at *
          have hz' := Lib.hid hz
          have hwl : IntKind.i64.wrap ((m9 : Int) - 1) = (z : Int) := by rw [IntKind.wrap_i64]; omega
          have hz0 : (0 : Int) ≤ z := by omega
          have hzm : (z : Int) < m9 := by omega
          have hzw := wf_small hz0 (by omega)
          have h00 : ((m9 : Int) == 0) = false := beq_false_of_ne (by omega)
          have hmz : Hid (m9 = z + 1) := Lib.hid (by omega)
          clear i2 hz hpg hlen hm9
          obtain ⟨jb, hjb⟩ : ∃ jb, joinB u t = jb := ⟨_, rfl⟩
          have HJB := Lib.hid hjb
          have HJ : Hid (∀ W : World, Calls Tryz.prog 48 #[tgV t, .agg #[.int .i64 u.un, .int .i64 u.ki, .int .i64 u.ad, .int .i64 u.ct, .int .i64 u.ev, .slice At mt ctt]] W fun e w' => e = .returned (.bool jb) ∧ Below W.heap.size W w') := Lib.hid fun W => by
            have h := joins_any u.un u.ki u.ad u.ct u.ev At mt ctt u.tg t W (by omega) (by omega) hta
            rw [← hjb]
            exact h
          clear hjb
          have HUB : Hid ((0 ≤ u.ad ∧ u.ad ≤ 65536) ∧ (0 ≤ u.ct ∧ u.ct ≤ 65536) ∧ u.tg.length ≤ 1000000) := Lib.hid ⟨by omega, by omega, htl.out⟩
          clear hpa hpc
          have HK : Hid (∀ w9 : World, Below wa.heap.size wa w9 → (Below wa.heap.size wa w9 ∧ (ldTag (.pointer (some ⟨wr.heap.size, 0, none⟩))).run Tryz.prog w9 = .ok (tgV t) w9 ∧ (w9.cell? ⟨g, z * 6, none⟩ = some (.int .i64 u.un) ∧ w9.cell? ⟨g, z * 6 + 1, none⟩ = some (.int .i64 u.ki) ∧ w9.cell? ⟨g, z * 6 + 2, none⟩ = some (.int .i64 u.ad) ∧ w9.cell? ⟨g, z * 6 + 3, none⟩ = some (.int .i64 u.ct) ∧ w9.cell? ⟨g, z * 6 + 4, none⟩ = some (.int .i64 u.ev) ∧ w9.cell? ⟨g, z * 6 + 5, none⟩ = some (.slice At mt ctt)))) := Lib.hid fun w9 hw => ⟨hw, tgBox_ld (keepB hw hx), (cellB hw hgl e0), (cellB hw hgl e1), (cellB hw hgl e2), (cellB hw hgl e3), (cellB hw hgl e4), (cellB hw hgl e5)⟩
          have belh : ∀ w9 : World, (Below wa.heap.size wa w9 ∧ (ldTag (.pointer (some ⟨wr.heap.size, 0, none⟩))).run Tryz.prog w9 = .ok (tgV t) w9 ∧ (w9.cell? ⟨g, z * 6, none⟩ = some (.int .i64 u.un) ∧ w9.cell? ⟨g, z * 6 + 1, none⟩ = some (.int .i64 u.ki) ∧ w9.cell? ⟨g, z * 6 + 2, none⟩ = some (.int .i64 u.ad) ∧ w9.cell? ⟨g, z * 6 + 3, none⟩ = some (.int .i64 u.ct) ∧ w9.cell? ⟨g, z * 6 + 4, none⟩ = some (.int .i64 u.ev) ∧ w9.cell? ⟨g, z * 6 + 5, none⟩ = some (.slice At mt ctt))) → Below wa.heap.size wa w9 := fun w9 h => h.1
          go_region_held3 (fun w9 => Below wa.heap.size wa w9 ∧ (ldTag (.pointer (some ⟨wr.heap.size, 0, none⟩))).run Tryz.prog w9 = .ok (tgV t) w9 ∧ (w9.cell? ⟨g, z * 6, none⟩ = some (.int .i64 u.un) ∧ w9.cell? ⟨g, z * 6 + 1, none⟩ = some (.int .i64 u.ki) ∧ w9.cell? ⟨g, z * 6 + 2, none⟩ = some (.int .i64 u.ad) ∧ w9.cell? ⟨g, z * 6 + 3, none⟩ = some (.int .i64 u.ct) ∧ w9.cell? ⟨g, z * 6 + 4, none⟩ = some (.int .i64 u.ev) ∧ w9.cell? ⟨g, z * 6 + 5, none⟩ = some (.slice At mt ctt)))
            ((refine HK.out _ ?_
              repeat' (first
                | with_reducible exact Below.refl _ _
                | with_reducible exact bel5
                | with_reducible exact belh _ (by assumption)
                | with_reducible apply below_drew
                | with_reducible apply below_drewN
                | fail)))
            (first
              | (go_at_call 48; have bh := belh _ (by assumption); refine (HJ.out _).mono ?_; rintro e w5 ⟨rfl, b5⟩; have bel5 : Below wa.heap.size wa w5 := Below.trans bh (b5.mono bh.size))
              | fail)
          have HBL := Lib.hid bel5
          clear HK belh hkt b5 e0 e1 e2 e3 e4 e5 HJ hst bel5
          cases jb
          case true =>
            (try go_wp2)
            go_meet
            exact ⟨false, rfl, HBL, Lib.hid (.inr ⟨rfl, us, u, rfl, HJB.out⟩)⟩
          case false =>
            (try go_wp2)
            go_meet
            exact ⟨true, rfl, HBL, Lib.hid (.inl ⟨rfl, .inr ⟨us, u, rfl, HJB.out⟩⟩)⟩
      case rest =>
      obtain ⟨nb, rfl, hbl1, hnb⟩ := hcut
      have own9 := Lib.hid (ownA.out.below hbl1.out (Nat.le_refl _))
      have th9 : Hid (TagH w2 wc wr.heap.size t) := Lib.hid (TagH.below ⟨belA.out, hx⟩ hbl1.out)
      have HGU : Hid (∀ us u, ps = us ++ [u] → (0 ≤ u.ad ∧ u.ad ≤ 65536) ∧ (0 ≤ u.ct ∧ u.ct ≤ 65536) ∧ u.tg.length ≤ 1000000) := Lib.hid (fun us u e => by
        have hpg := HGOOD.out u (by rw [e]; simp)
        have hpa := hpg.ad
        have hpc := hpg.ct
        refine ⟨by omega, by omega, ?_⟩
        have h1 := (pinv_all (fun k hk => tag_right HE1.out hk) ((ordT l).take k) (fun k hk => ordT_lt (List.mem_of_mem_take hk)) ((ordT_sorted l).sublist (List.take_sublist _ _))).flat
        rw [← hps.out, e, List.flatMap_append] at h1
        have h2 := congrArg List.length h1
        rw [List.length_append, List.length_map, List.length_take] at h2
        simp at h2
        omega)
      clear hst hx hbl1
      go_upto_if 44 with fail
      go_cut [6] from 45 to 80 (fun s wx => ∃ (us : List Pol) (p : Pol) (As : Option Addr) (cs z : Nat), s = .slice As (z + 1) cs ∧ Hid (us.length = z) ∧ Hid (z ≤ k) ∧ Hid (PlOwn wx w2.heap.size (.slice As (z + 1) cs) (us ++ [p])) ∧ Hid (TagH w2 wx wr.heap.size t) ∧ Hid (us ++ [(p.wct (cntJ p t)).wtg (p.tg ++ [(q : Int)])] = addP ps t q) ∧ Hid ((0 ≤ p.ad ∧ p.ad ≤ 65536) ∧ (0 ≤ p.ct ∧ p.ct ≤ 65536) ∧ p.tg.length ≤ 1000000))
      case first =>
        rcases hnb.out with ⟨rfl, hnew⟩ | ⟨rfl, us, u, rfl, hj⟩
        · have HNE := Lib.hid hnew
          obtain ⟨_, a1, a2, a3, a4⟩ := tgBox (w := wc) th9.out.bx
          have bs0 := th9.out.bel.size
          have hnX := Lib.hid (box_news wc [.int .i64 t.un, .int .i64 t.ki, .int .i64 t.ad, .int .i64 0, .int .i64 t.ev, .slice none 0 0] 25 _ rfl)
          clear hnew hnb
          go_wp2_with (at_builtin; refine wpList_append_pol0 _ rfl _ _ 55 rfl Tryz.underlying55 info_poll w2.heap.size _ ps rfl (own9.out.alloc _) t.un t.ki t.ad 0 t.ev ⟨wc.heap.size, 0, none⟩ 1 rfl hnX.out (by have := hpl.out; omega) (by rw [World.size_alloc]; omega) ?_; intro v7 w7 own7 g7)
          have th7 := (th9.out.alloc (.cells #[.int .i64 t.un, .int .i64 t.ki, .int .i64 t.ad, .int .i64 0, .int .i64 t.ev, .slice none 0 0] 25)).grown g7 HVB.out
          obtain ⟨A7, c7, rfl, _⟩ := own7.len
          have hl7 : Hid ((ps ++ [(⟨t.un, t.ki, t.ad, 0, t.ev, []⟩ : Pol)]).length = ps.length + 1) := Lib.hid (by rw [List.length_append]; rfl)
          (try go_wp2)
          go_meet
          exact ⟨ps, ⟨t.un, t.ki, t.ad, 0, t.ev, []⟩, A7, c7, ps.length, by rw [hl7.out], Lib.hid rfl, hpl, Lib.hid (by rw [← hl7.out]; exact own7), Lib.hid th7, Lib.hid (addP_last (.inr ⟨rfl, rfl, HNE.out⟩)), Lib.hid ⟨hta, ⟨Int.le_refl _, show (0 : Int) ≤ 65536 by omega⟩, by simp⟩⟩
        · have hl7 : Hid ((us ++ [u]).length = us.length + 1) := Lib.hid (by rw [List.length_append]; rfl)
          have HJ := Lib.hid hj
          clear hnb hj
          go_wp2
          go_meet
          exact ⟨us, u, Av, cv, us.length, by rw [hl7.out], Lib.hid rfl, Lib.hid (by have := hl7.out; have := hpl.out; omega), Lib.hid (by rw [← hl7.out]; exact own9.out), th9, Lib.hid (addP_last (.inl ⟨rfl, HJ.out⟩)), Lib.hid (HGU.out us u rfl)⟩
      case rest =>
      obtain ⟨us, p, As, cs, z, rfl, hz, hzk, hown9, hth, hadd, hpb⟩ := hcut
      obtain ⟨g, cg, At, mt, ctt, hv9, hgb, hgl, hgc, ⟨e0, e1, e2, e3, e4, e5⟩, hkt⟩ := hown9.out.at_ (i := us.length) (by simp)
      injection hv9 with i1 i2 i3
      subst i1 i3
      have hpi : (us ++ [p])[us.length]'(by simp) = p := by simp
      rw [hpi, hz.out] at e0 e1 e2 e3 e4
      rw [hz.out] at e5
      rw [hpi] at hkt
      clear hpi i2 hgc
      generalize hm9 : z + 1 = m9 at *
      have hm9' := Lib.hid hm9
      have hwl : IntKind.i64.wrap ((m9 : Int) - 1) = (z : Int) := by rw [IntKind.wrap_i64]; have := hzk.out; omega
      have hz0 : (0 : Int) ≤ z := by omega
      have hzm : (z : Int) < m9 := by omega
      have hzw := wf_small hz0 (by have := hzk.out; omega)
      have HC : Hid (∀ W : World, Calls Tryz.prog 49 #[tgV t, .agg #[.int .i64 p.un, .int .i64 p.ki, .int .i64 p.ad, .int .i64 p.ct, .int .i64 p.ev, .slice At mt ctt]] W fun e w' => e = .returned (.int .i64 (cntJ p t)) ∧ Below W.heap.size W w') := Lib.hid fun W => count10_any p.un p.ki p.ad p.ct p.ev At mt ctt p.tg t W hpb.out.1 hpb.out.2.1 hta
      have hld1 := tgBox_ld hth.out.bx
      have hld2 := tgBox_ld hth.out.drew.bx
      have hbx := Lib.hid hth.out.bx
      generalize cntJ p t = cnt at *
      clear hkt hnb th9 own9 hm9
      go_wp2
      go_region_with (go_at_call 49; refine (HC.out _).mono ?_; rintro e w5 ⟨rfl, b5d⟩; have b5 : Below wc.heap.size wc w5 := ⟨b5d.os, b5d.tape, b5d.output, b5d.size, b5d.block⟩; have c3 := cellB b5 hgl e3; have own5 := hown9.out.below b5 (Nat.le_refl _); have f3 := own5.thaw (z * 6 + 3))
      all_goals
        have bel9 := Lib.hid (hth.out.bel.trans (b5.mono hth.out.bel.size))
        have ownS := own5.setct cnt
        rw [hz.out] at ownS
        have belS := Lib.hid (below_setCell bel9.out hgb (z * 6 + 3) (.int .i64 cnt))
        clear own5 c3 f3 b5 b5d e0 e1 e2 e3 e4 e5 hld1 hld2
        generalize hWS : w5.setCell ⟨g, z * 6 + 3, none⟩ (.int .i64 cnt) = ws at *
        obtain ⟨A3, m3, cc3, hgs, _, c5, k5⟩ := ownS.last hz.out
        have k5 : KOwn .i64 3 ws w2.heap.size (.slice A3 m3 cc3) p.tg := k5
        have HBS : Hid (w2.heap.size ≤ (ws.alloc (.cells #[.int .i64 (q : Int)] 3)).heap.size) := Lib.hid (by have hz1 := World.size_alloc ws (.cells #[.int .i64 (q : Int)] 3); have := belS.out.size; omega)
        go_wp2_with (at_builtin; refine wpList_append_K _ rfl _ _ 23 rfl w2.heap.size .i64 3 8 Tryz.underlying23 I.info_i64 _ p.tg rfl (k5.alloc (.cells #[.int .i64 (q : Int)] 3)) (ws.heap.size + 1) (some ⟨ws.heap.size, 0, none⟩) 1 1 [(q : Int)] rfl (Row.one .i64 ws 3 (q : Int) hqw) rfl (Nat.le_refl _) (by have := hpb.out.2.2; omega) (by have := hpb.out.2.2; simp only [maxLen]; omega) HBS.out ?_; intro v7 w7 own7 g7 nw7 sl7; obtain ⟨A7, n7, c7, rfl⟩ := sl7; have hst7 := (ownS.alloc (.cells #[.int .i64 (q : Int)] 3)).stays (k5.alloc (.cells #[.int .i64 (q : Int)] 3)) g7; have c7' := (World.cell?_of_block (a := ⟨g, z * 6 + 5, none⟩) hst7).trans (cellB (bel_alloc ws (.cells #[.int .i64 (q : Int)] 3)) hgs c5); have f7 := (World.frozen?_of_block (a := ⟨g, z * 6 + 5, none⟩) hst7).trans ((ownS.alloc (.cells #[.int .i64 (q : Int)] 3)).thaw (z * 6 + 5)))
        have ownF := Lib.hid (ownS.joined hz.out c5 own7 g7 nw7)
        have belF := Lib.hid (below_setCell ((belS.out.alloc belS.out.size (.cells #[.int .i64 (q : Int)] 3)).grown g7 HBS.out (fun x e => (k5.block x e).1)) hgb (z * 6 + 5) (.slice A7 n7 c7))
        have hfin : Hid (us ++ [(p.wct cnt).wtg (p.tg ++ [(q : Int)])] = pollsO l ((ordT l).take (k + 1))) := Lib.hid (HNX.out _ hadd.out)
        have hlf : Hid ((us ++ [(p.wct cnt).wtg (p.tg ++ [(q : Int)])]).length = m9) := Lib.hid (by rw [List.length_append, hz.out]; exact hm9'.out)
        clear own7 g7 nw7 hst7 ownS c5 k5 hgs
        (try go_wp2)
        go_roundw
        case rel => exact ⟨k + 1, us ++ [(p.wct cnt).wtg (p.tg ++ [(q : Int)])], by omega, by go_num, hfin, Lib.hid (by rw [hlf.out]; have := hm9'.out; have := hzk.out; omega), ⟨some ⟨g, 0, none⟩, cs, by rw [hlf.out]⟩, ownF, belF⟩
        case measure => simp [intOf]; omega
    · obtain rfl : k = n := by omega
      have hfin : Hid (ps = planL l) := Lib.hid (by rw [hps.out, HPL.out, List.take_of_length_le (by rw [ordT_len]; have := hn'.out; omega)])
      have HO : Hid (PlOwn wr w.heap.size (.slice Av ps.length cv) (planL l)) := Lib.hid (by rw [← hfin.out]; exact hown.out.mono BEL.out.size)
      have HBE := Lib.hid (BEL.out.trans (hbel.out.mono BEL.out.size))
      generalize ps.length = m9 at *
      go_wp2
      (try simp only [Exit.inBlock, Exit.then])
      refine bodyPost_ret (v := .tuple #[.slice Av m9 cv, .int .i64 0]) (by simp [results, Tryz.results22, go_sem]) rfl ?_
      exact ⟨_, rfl, HO.out, HBE.out⟩
end Go.Proofs.YtcmbdhmhkfhjfaaGreat
namespace Go.Proofs.YtcmbdhmhkfhjfaaGreat
open Go.RowKit
set_option linter.unusedVariables false
set_option maxRecDepth 100000

def TgOwn (w : World) (base : Nat) (v : Value) (l : List Tg) : Prop := w.ownsRow base 51 19 v l.length (flatV tgC l)
theorem TgOwn.nil (w : World) (base : Nat) : TgOwn w base (.slice none 0 0) [] := World.ownsRow_nil w base _ 19
theorem TgOwn.row {w : World} {base : Nat} {v : Value} {l : List Tg} (h : TgOwn w base v l) : ∃ A c, v = .slice A l.length c ∧ VRow w w.heap.size A (flatV tgC l) ∧ l.length ≤ c ∧ c ≤ maxLen := VRow.of_own h
theorem TgOwn.below {w w' : World} {base B : Nat} {v : Value} {l : List Tg} (h : TgOwn w base v l) (hb : Below B w w') (hB : w.heap.size ≤ B) : TgOwn w' base v l := by
  refine ⟨h.1, ?_⟩
  rcases h.2 with hn | ⟨g, cap, cur, h1, h2, h3, h4⟩
  · exact .inl hn
  · exact .inr ⟨g, cap, cur, h1, h2, (hb.block g (by have := block_lt h3; omega)).trans h3, h4⟩
theorem TgOwn.alloc {w : World} {base : Nat} {v : Value} {l : List Tg} (h : TgOwn w base v l) (o : Obj) : TgOwn (w.alloc o) base v l := World.ownsRow.alloc h o
end Go.Proofs.YtcmbdhmhkfhjfaaGreat
namespace Go.Proofs.YtcmbdhmhkfhjfaaGreat.I
open Go.RowKit

def Makes (k : IntKind) (t : TypeId) (w : World) (xs : List Int) (e : Ending) (w' : World) : Prop := ∃ v, e = .returned v ∧ Own k t w' w.heap.size v xs ∧ Below w.heap.size w w'

def Lays (k : IntKind) (t : TypeId) (w : World) (xs : List Int) (m : Nat) (e : Ending) (w' : World) : Prop :=
  e = .returned (.slice (some ⟨w.heap.size, 0, none⟩) m m) ∧ w'.heap[w.heap.size]? = some (.cells (blk k xs) t (0, 0)) ∧ Below w.heap.size w w'

set_option maxHeartbeats 400000 in
theorem copy_i64 (A : Option Addr) (n c : Nat) (xs : List Int) (w : World) (hr : Row .i64 w w.heap.size A xs) (hn : xs.length = n) (hb : n ≤ 17592186044416) : 
    Calls Tryz.prog 33 #[.slice A n c] w (Makes .i64 3 w xs) := by
  go_enter Tryz.func33, Tryz.ntmps33
  go_wp2
  go_loopw [3, 4] (fun v i wr => ∃ k : Nat, k ≤ n ∧ i = .int .i64 k ∧ Own .i64 3 wr w.heap.size v (xs.take k) ∧ Below w.heap.size w wr) (fun _ i _ => n - (intOf i).toNat)
  case atStart => exact ⟨0, by omega, rfl, Own.nil _ _ _ _, Below.refl _ _⟩
  case round =>
    obtain ⟨k, hk, rfl, hown, hbel⟩ := hrel
    by_cases hlt : k < n
    · obtain ⟨b, o, rfl, hb1, hc1⟩ := (hr.below hbel).at_ (i := k) (by omega)
      have hl : Hid ((xs.take k).length = k) := by show _ = _; simp; omega
      have hone := Row.one .i64 wr 3 (nth xs k) (hr.wf_at (by omega))
      have hsz := hbel.size
      have HT := Lib.hid (take_step xs k (by omega))
      go_wp2_with (at_builtin; refine wpList_append_row _ rfl _ _ 23 rfl w.heap.size .i64 3 8 Tryz.underlying23 info_i64 _ (xs.take k) rfl (hown.alloc _) _ _ 1 1 [nth xs k] rfl hone rfl (by rw [hl.out]; omega) (by rw [hl.out]; simp only [maxLen]; omega) (by simp; omega) ?_; intro v1 w1 hown1 hg1)
      have hbel1 := Below.own1 hbel hsz hown hg1
      rw [← HT.out] at hown1
      clear hone hc1 hg1 hown
      go_wp2
      go_roundw
      case rel => exact ⟨k + 1, by omega, by go_num, hown1, hbel1⟩
      case measure => simp [intOf]; omega
    · have hx : xs.take k = xs := List.take_of_length_le (by omega)
      rw [hx] at hown
      clear hx
      go_wp2
      go_ret
      exact ⟨_, rfl, hown, hbel⟩
end Go.Proofs.YtcmbdhmhkfhjfaaGreat.I
namespace Go.Proofs.YtcmbdhmhkfhjfaaGreat.I
open Go.RowKit
set_option linter.unusedVariables false

theorem below_drewN {B : Nat} {a w : World} (h : Below B a w) (n : Nat) : Below B a (w.drewN n) := ⟨h.os, h.tape, h.output, h.size, h.block⟩
def Bk (w : World) (g : Nat) (l : List Int) : Prop := w.heap[g]? = some (.cells (blk .i64 l) 3 (0, 0))
theorem Bk.below {w w' : World} {g : Nat} {l : List Int} (h : Bk w g l) (hb : Below w.heap.size w w') : Bk w' g l := (hb.block g (block_lt h)).trans h
theorem Bk.lt {w : World} {g : Nat} {l : List Int} (h : Bk w g l) : g < w.heap.size := block_lt h
theorem Bk.drewN {w : World} {g : Nat} {l : List Int} (h : Bk w g l) (n : Nat) : Bk (w.drewN n) g l := h
theorem Bk.row {w : World} {g : Nat} {l : List Int} (h : Bk w g l) (xs : List Int) (hw : ∀ x ∈ xs, (Lit.int .i64 x).wf = true) (hp : xs <+: l) : Row .i64 w w.heap.size (some ⟨g, 0, none⟩) xs :=
  (Row.of_block h xs hw hp).more h.lt
def Li (w : World) (A : Option Addr) (m g : Nat) (l r : List Int) : Prop := A = none ∧ m = 0 ∨ A = some ⟨g, 0, none⟩ ∧ Bk w g (l ++ r)
theorem Li.below {w w' : World} {A : Option Addr} {m g : Nat} {l r : List Int} (h : Li w A m g l r) (hb : Below w.heap.size w w') : Li w' A m g l r := by
  rcases h with h | ⟨h1, h2⟩
  · exact .inl h
  · exact .inr ⟨h1, h2.below hb⟩
theorem Li.row {w : World} {A : Option Addr} {m g : Nat} {l r : List Int} (h : Li w A m g l r) (hm : l.length = m) (hw : ∀ x ∈ l, (Lit.int .i64 x).wf = true) : Row .i64 w w.heap.size A l := by
  rcases h with ⟨h1, h2⟩ | ⟨h1, h2⟩
  · have : l = [] := List.eq_nil_of_length_eq_zero (by omega)
    subst this
    exact Row.nil _ _ _ _
  · subst h1
    exact h2.row l hw (List.prefix_append _ _)
theorem bel_drewN (w : World) (n : Nat) : Below w.heap.size w (w.drewN n) := ⟨rfl, rfl, rfl, Nat.le_refl _, fun _ _ => rfl⟩

def Gives (w : World) (l : List Int) (err : Int) (e : Ending) (w' : World) : Prop :=
  ∃ A m, e = .returned (.tuple #[.slice A m m, .int .i64 err]) ∧ l.length = m ∧ Li w' A m w.heap.size l [] ∧ Below w.heap.size w w'
def GivesOwn (w : World) (l : List Int) (err : Int) (e : Ending) (w' : World) : Prop :=
  ∃ v, e = .returned (.tuple #[v, .int .i64 err]) ∧ Own .i64 3 w' w.heap.size v l ∧ Below w.heap.size w w'
theorem Li.lt {w : World} {A : Option Addr} {m g : Nat} {l r : List Int} (h : Li w A m g l r) : A = none ∨ g < w.heap.size := by
  rcases h with ⟨h1, _⟩ | ⟨_, h2⟩
  · exact .inl h1
  · exact .inr h2.lt
end Go.Proofs.YtcmbdhmhkfhjfaaGreat.I
namespace Go.Proofs.YtcmbdhmhkfhjfaaGreat
open Go.RowKit
set_option linter.unusedVariables false
set_option maxRecDepth 100000
attribute [local go_sem ↓] ldTag_fold stTag_fold bxTag_fold
attribute [local go_sem] bxTag_run

def bsTag (n : Nat) (ps : Array (Nat × Value)) : Sem Value := Instr.buildSlice 22 n ps
theorem bsTag_fold (n : Nat) (ps : Array (Nat × Value)) : Instr.buildSlice 22 n ps = bsTag n ps := rfl
theorem bsTag3 (x y z : Tg) (W : World) : (bsTag 3 #[(0, tgV x), (1, tgV y), (2, tgV z)]).run Tryz.prog W = .ok (.slice (some ⟨W.heap.size, 0, none⟩) 3 3) (W.alloc (.cells (flatV tgC [x, y, z]).toArray 51)) := by
  obtain ⟨x0, x1, x2, x3, x4, x5, x6, x7, x8, x9, x10, x11, x12, x13, x14, x15, x16, x17, x18⟩ := x
  obtain ⟨y0, y1, y2, y3, y4, y5, y6, y7, y8, y9, y10, y11, y12, y13, y14, y15, y16, y17, y18⟩ := y
  obtain ⟨z0, z1, z2, z3, z4, z5, z6, z7, z8, z9, z10, z11, z12, z13, z14, z15, z16, z17, z18⟩ := z
  kernel_rfl
attribute [local go_sem ↓] bsTag_fold
attribute [local go_sem] bsTag3

theorem results_cell2 {P : Program} {fn : Func} {tmps : Array Value} {k : Nat} {ty : TypeId} {a : Addr} {v : Value} {w : World} (hf : fn.results = #[.cell k ty]) (ht : tmps[k]?.getD undef = .pointer (some a)) (hl : (loadVar ty a).run P w = .ok v w) : (results fn tmps).run P w = .ok v w := by
  simp [results, hf, ht, asAddr, hl]
def regT (s : ByteArray) (a : Int) : Tg := ⟨s, 1, 3, a, 5, false, false, false, 1, 1, 0, 0, 0, false, false, false, 0, 0, 0⟩
theorem regT_ok {s : ByteArray} {a : Int} (h : s.size ≤ maxLen) (ha : (Lit.int .i64 a).wf = true) : Tg.Ok (regT s a) := by
  have := wf_i64 ha
  refine ⟨h, ?_, ?_, ?_, ?_⟩ <;> simp [regT] <;> omega
set_option maxHeartbeats 1000000 in
theorem reg_any (s : ByteArray) (a : Int) (w : World) : Calls Tryz.prog 16 #[.string s, .int .i64 a] w fun e w' => e = .returned (tgV (regT s a)) ∧ Below w.heap.size w w' := by
  have hst := made_tag w (regT s a)
  have hx := heap_alloc_new w (.cells (tgC (regT s a)).toArray 51)
  have bel := bel_alloc w (.cells (tgC (regT s a)).toArray 51)
  have hld := run_loadVar_mid (P := Tryz.prog) (w.alloc (.cells (tgC (regT s a)).toArray 51)) w.heap.size 0 51 (tgC (regT s a)) _ (rangeB hx) Tryz.underlying51 rfl size_tag
  have hv : tgV (regT s a) = .agg (tgC (regT s a)).toArray := rfl
  generalize hC : (w.alloc (.cells (tgC (regT s a)).toArray 51)) = wC at *
  have hst2 : (stTag (.pointer (some ⟨w.heap.size, 0, none⟩)) (.agg #[.string s, .int .i64 1, .int .i64 3, .int .i64 a, .int .i64 5, .bool false, .bool false, .bool false, .int .i64 1, .int .i64 1, .int .i64 0, .int .i64 0, .int .i64 0, .bool false, .bool false, .bool false, .int .i64 0, .int .i64 0, .int .i64 0])).run Tryz.prog _ = .ok () wC := hst
  clear hst hx
  go_enter Tryz.func16, Tryz.ntmps16
  go_wp2
  (try simp only [Exit.inBlock, Exit.then])
  refine bodyPost_ret (v := tgV (regT s a)) (results_cell2 Tryz.results16 rfl hld) rfl ?_
  exact ⟨rfl, bel⟩

def wA : ByteArray := ⟨#[97]⟩
def wB : ByteArray := ⟨#[98]⟩
def wC3 : ByteArray := ⟨#[99]⟩
def wkL : List Tg := [regT wA 0, regT wB 1, regT wC3 10]
def wkP : Pol := ⟨1, 3, 0, 11, 5, [0, 1, 2]⟩
def wkR : Rep := ⟨0, [], [7, 8, 0, 0, 0, 0, 0, 0, 0, 0, 9], []⟩
theorem wk_chk : (chkAll wkL).1 = 0 := by decide +kernel
theorem wk_plan : planL wkL = [wkP] := by
  unfold planL
  rw [if_pos wk_chk]
  rfl
theorem wk_valsE : valsE wkL wkP wkR = 0 := by decide +kernel
theorem wk_valsL : valsL wkL wkP wkR = [7, 8, 9] := by decide +kernel
theorem wk_ok : ∀ t ∈ wkL, Tg.Ok t := by
  intro t ht
  simp only [wkL, List.mem_cons, List.not_mem_nil, or_false] at ht
  rcases ht with rfl | rfl | rfl <;> exact regT_ok (by decide) (by decide)

theorem wkR_wf : ∀ u ∈ wkR.set, (Lit.int .u16 u).wf = true := by decide
set_option maxHeartbeats 4000000 in
theorem works10_yes (w : World) : Calls Tryz.prog 6 #[] w fun e w' => e = .returned (.bool true) ∧ Below w.heap.size w w' := by
  have H1 : ∀ (s : ByteArray) (a : Int), Hid (∀ W, Calls Tryz.prog 16 #[.string s, .int .i64 a] W fun e w' => e = .returned (tgV (regT s a)) ∧ Below W.heap.size W w') := fun s a => Lib.hid fun W => reg_any s a W
  go_enter Tryz.func6, Tryz.ntmps6
  go_wp2_with fail
  refine ((H1 _ _).out _).mono ?_
  rintro e w1 ⟨rfl, b1⟩
  go_wp2_with fail
  refine ((H1 _ _).out _).mono ?_
  rintro e w2 ⟨rfl, b2⟩
  have bel2 := b1.trans (b2.mono b1.size)
  clear b1 b2
  go_wp2_with fail
  refine ((H1 _ _).out _).mono ?_
  rintro e w3 ⟨rfl, b3⟩
  have bel3 := bel2.trans (b3.mono bel2.size)
  clear b3 bel2 H1
  have VR : Hid (VRow (w3.alloc (.cells (flatV tgC wkL).toArray 51)) (w3.alloc (.cells (flatV tgC wkL).toArray 51)).heap.size (some ⟨w3.heap.size, 0, none⟩) (flatV tgC wkL)) := Lib.hid (VRow.new w3 51 (flatV tgC wkL))
  have bel4 := Lib.hid (bel3.alloc bel3.size (.cells (flatV tgC wkL).toArray 51))
  clear bel3
  go_wp2_with fail
  generalize hW4 : w3.alloc (.cells (flatV tgC [regT ⟨#[97]⟩ 0, regT ⟨#[98]⟩ 1, regT ⟨#[99]⟩ 10]).toArray 51) = w4
  have hW4' : w3.alloc (.cells (flatV tgC wkL).toArray 51) = w4 := hW4
  rw [hW4'] at VR bel4
  refine (Plan10_any (some ⟨w3.heap.size, 0, none⟩) 3 3 wkL w4 VR.out rfl (by omega) wk_ok).mono ?_
  rintro e w5 ⟨v5, rfl, own5, b5⟩
  rw [wk_plan] at own5
  rw [wk_chk]
  obtain ⟨g, cg, At, mt, ct, rfl, hgb, hgl, hgc, ⟨e0, e1, e2, e3, e4, e5⟩, hkt⟩ := own5.at_ (i := 0) (by simp)
  simp only [Nat.zero_mul, Nat.zero_add, List.getElem_cons_zero, wkP] at e0 e1 e2 e3 e4 e5 hkt
  obtain ⟨A9, c9, hs9, rT, _, _⟩ := hkt.row (by decide)
  injection hs9 with q1 q2 q3
  subst q1 q3
  have hmt : mt = 3 := q2
  subst hmt
  have bel5 := Lib.hid (bel4.out.trans (b5.mono bel4.out.size))
  have VR5 := Lib.hid ((VR.out.below b5).more b5.size)
  have RT := Lib.hid rT
  have OW := Lib.hid own5
  clear own5 hkt b5 VR hW4 hW4' q2 rT bel4
  have RN := Row.new .i64 w5 3 [0, 1, 2] [0, 1, 2] (by decide) (List.prefix_refl _)
  have RA := RT.out.alloc (Nat.le_refl _) (.cells (blk .i64 [0, 1, 2]) 3)
  go_wp2_with fail
  refine (I.same_yes_i64 At (some ⟨w5.heap.size, 0, none⟩) 3 ct 3 [0, 1, 2] _ w5.heap.size (w5.heap.size + 1) RA RN rfl (by omega)).mono ?_
  rintro e w6 ⟨rfl, m6, hw6⟩
  have b6 : Below w5.heap.size w5 w6 := by
    rw [hw6]
    exact below_drewN (bel_alloc w5 _) _
  have f0 := cellB b6 hgl e0
  have f1 := cellB b6 hgl e1
  have f2 := cellB b6 hgl e2
  have f3 := cellB b6 hgl e3
  have f4 := cellB b6 hgl e4
  have f5 := cellB b6 hgl e5
  clear hw6 RN RA
  go_wp2_with fail
  have HRP : Hid (Repd (w6.alloc (.cells (blk .u16 wkR.set) 58)) (w6.alloc (.cells (blk .u16 wkR.set) 58)).heap.size wkR none (some ⟨w6.heap.size, 0, none⟩) none 0 11 0) := Lib.hid ⟨L.Row.nil _ _ _ _, (Row.new .u16 w6 58 wkR.set wkR.set wkR_wf (List.prefix_refl _)).more (by simp), FRow.nil _ _ _, rfl, rfl, rfl⟩
  have bel6 := Lib.hid (bel5.out.trans (b6.mono bel5.out.size))
  have RT6 := Lib.hid (((RT.out.below b6).more b6.size).alloc (Nat.le_refl _) (.cells (blk .u16 wkR.set) 58))
  have VR6 := Lib.hid (((VR5.out.below b6).more b6.size).alloc (Nat.le_refl _) (.cells (blk .u16 wkR.set) 58))
  clear b6 e0 e1 e2 e3 e4 e5
  generalize hW7 : w6.alloc (.cells (blk .u16 wkR.set) 58) = w7 at *
  have hW7' : w6.alloc (.cells #[.int .u16 7, .int .u16 8, .int .u16 0, .int .u16 0, .int .u16 0, .int .u16 0, .int .u16 0, .int .u16 0, .int .u16 0, .int .u16 0, .int .u16 9] 58) = w7 := hW7
  have bel7 : Hid (Below w.heap.size w w7) := Lib.hid (by rw [← hW7]; exact bel6.out.alloc bel6.out.size _)
  have hz7 : w6.heap.size + 1 = w7.heap.size := by rw [← hW7, World.size_alloc]
  rw [hW7']
  refine (Values10_any (some ⟨w3.heap.size, 0, none⟩) 3 3 wkL 1 3 0 11 5 At 3 ct [0, 1, 2] none (some ⟨w6.heap.size, 0, none⟩) none 0 11 0 0 11 0 wkR w7 (VR6.out.more (by omega)) rfl (by omega) wk_ok (RT6.out.more (by omega)) rfl (by omega) HRP.out (Nat.le_refl _) (by omega) (by decide)).mono ?_
  rintro e w8 ⟨v8, rfl, own8, b8⟩
  have hE : valsE wkL ⟨1, 3, 0, 11, 5, [0, 1, 2]⟩ wkR = 0 := wk_valsE
  have hL : valsL wkL ⟨1, 3, 0, 11, 5, [0, 1, 2]⟩ wkR = [7, 8, 9] := wk_valsL
  rw [hE]
  rw [hL] at own8
  obtain ⟨A8, c8, rfl, r8, _, _⟩ := own8.row (by decide)
  have bel8 := Lib.hid (bel7.out.trans (b8.mono bel7.out.size))
  have hl8 : ([7, 8, 9] : List Int).length = 3 := rfl
  rw [hl8]
  have RN := Row.new .i64 w8 3 [7, 8, 9] [7, 8, 9] (by decide) (List.prefix_refl _)
  have RA := r8.alloc (Nat.le_refl _) (.cells (blk .i64 [7, 8, 9]) 3)
  clear own8 b8 hE hL r8 hl8 hW7 hW7' hz7 HRP RT6 VR6 bel7 f0 f1 f2 f3 f4 f5
  go_wp2_with fail
  refine (I.same_yes_i64 A8 (some ⟨w8.heap.size, 0, none⟩) 3 c8 3 [7, 8, 9] _ w8.heap.size (w8.heap.size + 1) RA RN rfl (by omega)).mono ?_
  rintro e w9 ⟨rfl, m9, hw9⟩
  have bel9 := Lib.hid (bel8.out.trans ((below_drewN (bel_alloc w8 (.cells (blk .i64 [7, 8, 9]) 3)) m9).mono bel8.out.size))
  rw [hw9]
  clear hw9 RN RA
  go_wp2
  go_ret
  exact ⟨rfl, bel9.out⟩
end Go.Proofs.YtcmbdhmhkfhjfaaGreat
namespace Go.Proofs.YtcmbdhmhkfhjfaaGreat
open Go.RowKit
set_option linter.unusedVariables false
set_option maxRecDepth 100000

set_option maxHeartbeats 2000000 in
theorem same10_yes (pu pk pa pc pe : Int) (Pt Pt' : Option Addr) (pn pm pm' : Nat) (tg : List Int) (w : World) (h : Row .i64 w w.heap.size Pt tg) (h' : Row .i64 w w.heap.size Pt' tg) (hn : tg.length = pn) (hb : pn ≤ 17592186044416) :
    Calls Tryz.prog 41 #[.agg #[.int .i64 pu, .int .i64 pk, .int .i64 pa, .int .i64 pc, .int .i64 pe, .slice Pt pn pm], .agg #[.int .i64 pu, .int .i64 pk, .int .i64 pa, .int .i64 pc, .int .i64 pe, .slice Pt' pn pm']] w fun e w' => e = .returned (.bool true) ∧ Below w.heap.size w w' := by
  have x0 := two_fst w (.cells #[.int .i64 pu, .int .i64 pk, .int .i64 pa, .int .i64 pc, .int .i64 pe, .slice Pt pn pm] 25) (.cells #[.int .i64 pu, .int .i64 pk, .int .i64 pa, .int .i64 pc, .int .i64 pe, .slice Pt' pn pm'] 25)
  have x1 := heap_alloc_two w (.cells #[.int .i64 pu, .int .i64 pk, .int .i64 pa, .int .i64 pc, .int .i64 pe, .slice Pt pn pm] 25) (.cells #[.int .i64 pu, .int .i64 pk, .int .i64 pa, .int .i64 pc, .int .i64 pe, .slice Pt' pn pm'] 25)
  have bel := (bel_alloc w (.cells #[.int .i64 pu, .int .i64 pk, .int .i64 pa, .int .i64 pc, .int .i64 pe, .slice Pt pn pm] 25)).alloc (by simp) (.cells #[.int .i64 pu, .int .i64 pk, .int .i64 pa, .int .i64 pc, .int .i64 pe, .slice Pt' pn pm'] 25)
  have R1 := Lib.hid (h.below bel)
  have R2 := Lib.hid (h'.below bel)
  obtain ⟨p0, p1, p2, p3, p4, p5⟩ := of6 x0
  obtain ⟨q0, q1, q2, q3, q4, q5⟩ := of6 x1
  clear x0 x1 h h'
  go_enter Tryz.func41, Tryz.ntmps41
  go_wp2_with fail
  refine (I.same_yes_i64 Pt Pt' pn pm pm' tg _ w.heap.size w.heap.size R1.out R2.out hn hb).mono ?_
  rintro e w5 ⟨rfl, m, hw5⟩
  have bel5 := Lib.hid (below_drewN bel m)
  rw [hw5]
  clear p0 p1 p2 p3 p4 p5 q0 q1 q2 q3 q4 q5 bel
  go_wp2
  go_ret
  exact ⟨rfl, bel5.out⟩
def PlRow (w : World) (v : Value) (ps : List Pol) : Prop := (∃ A c, v = .slice A ps.length c) ∧ ∀ i (hi : i < ps.length), ∃ g c A cc, v = .slice (some ⟨g, 0, none⟩) ps.length c ∧ g < w.heap.size ∧ (w.cell? ⟨g, i * 6, none⟩ = some (.int .i64 ps[i].un) ∧ w.cell? ⟨g, i * 6 + 1, none⟩ = some (.int .i64 ps[i].ki) ∧ w.cell? ⟨g, i * 6 + 2, none⟩ = some (.int .i64 ps[i].ad) ∧ w.cell? ⟨g, i * 6 + 3, none⟩ = some (.int .i64 ps[i].ct) ∧ w.cell? ⟨g, i * 6 + 4, none⟩ = some (.int .i64 ps[i].ev) ∧ w.cell? ⟨g, i * 6 + 5, none⟩ = some (.slice A ps[i].tg.length cc)) ∧ Row .i64 w w.heap.size A ps[i].tg
theorem PlOwn.prow {w : World} {base : Nat} {v : Value} {ps : List Pol} (h : PlOwn w base v ps) (hw : ∀ p ∈ ps, ∀ x ∈ p.tg, (Lit.int .i64 x).wf = true) : PlRow w v ps := by
  obtain ⟨A, c, e, _⟩ := h.len
  refine ⟨⟨A, c, e⟩, fun i hi => ?_⟩
  obtain ⟨g, cg, At, mt, ct, hv, hgb, hgl, hgc, hc, hk⟩ := h.at_ hi
  obtain ⟨A9, c9, e9, r9, _, _⟩ := hk.row (hw _ (List.getElem_mem hi))
  injection e9 with i1 i2 i3
  subst i1 i2 i3
  exact ⟨g, cg, At, ct, hv, hgl, hc, r9⟩
theorem PlRow.below {w w' : World} {v : Value} {ps : List Pol} (h : PlRow w v ps) (hb : Below w.heap.size w w') : PlRow w' v ps := by
  refine ⟨h.1, fun i hi => ?_⟩
  obtain ⟨g, c, A, cc, e, hg, ⟨c0, c1, c2, c3, c4, c5⟩, hr⟩ := h.2 i hi
  exact ⟨g, c, A, cc, e, by have := hb.size; omega, ⟨cellB hb hg c0, cellB hb hg c1, cellB hb hg c2, cellB hb hg c3, cellB hb hg c4, cellB hb hg c5⟩, (hr.below hb).more hb.size⟩

set_option maxHeartbeats 4000000 in
theorem Same10_yes (A A' : Option Addr) (n c c' : Nat) (ps : List Pol) (w : World) (h : PlRow w (.slice A n c) ps) (h' : PlRow w (.slice A' n c') ps) (hn : ps.length = n) (hb : n ≤ 1000000) (ht : ∀ p ∈ ps, p.tg.length ≤ 1000000) :
    Calls Tryz.prog 40 #[.slice A n c, .slice A' n c'] w fun e w' => e = .returned (.bool true) ∧ Below w.heap.size w w' := by
  have hn' := Lib.hid hn
  clear hn
  go_enter Tryz.func40, Tryz.ntmps40
  go_wp2
  go_loopw [5] (fun i wr => ∃ k : Nat, k ≤ n ∧ i = .int .i64 k ∧ Hid (Below w.heap.size w wr)) (fun i _ => n - (intOf i).toNat)
  case atStart => exact ⟨0, by omega, rfl, Lib.hid (Below.refl _ _)⟩
  case round =>
    obtain ⟨k, hk, rfl, hbel⟩ := hrel
    by_cases hlt : k < n
    · have hkl : k < ps.length := by have := hn'.out; omega
      obtain ⟨g, c1, At, cc, e1, hg, hc1, hr1⟩ := (h.below hbel.out).2 k hkl
      obtain ⟨g', c2, At', cc', e2, hg', hc2, hr2⟩ := (h'.below hbel.out).2 k hkl
      injection e1 with i1 i2 i3
      injection e2 with j1 j2 j3
      subst i1 i3 j1 j3
      have htl := ht _ (List.getElem_mem hkl)
      have hlt' : (k : Int) < (n : Int) := by omega
      have hk0 : (0 : Int) ≤ k := by omega
      have HR1 := Lib.hid hr1
      have HR2 := Lib.hid hr2
      clear hr1 hr2 i2 j2
      generalize ps[k] = p at *
      have HL : Hid (p.tg.length = p.tg.length) := Lib.hid rfl
      have HS : Hid (∀ W : World, Below wr.heap.size wr W → Calls Tryz.prog 41 #[.agg #[.int .i64 p.un, .int .i64 p.ki, .int .i64 p.ad, .int .i64 p.ct, .int .i64 p.ev, .slice At p.tg.length cc], .agg #[.int .i64 p.un, .int .i64 p.ki, .int .i64 p.ad, .int .i64 p.ct, .int .i64 p.ev, .slice At' p.tg.length cc']] W fun e w' => e = .returned (.bool true) ∧ Below W.heap.size W w') := Lib.hid fun W hW =>
        same10_yes p.un p.ki p.ad p.ct p.ev At At' p.tg.length cc cc' p.tg W ((HR1.out.below hW).more hW.size) ((HR2.out.below hW).more hW.size) rfl (by omega)
      generalize p.tg.length = pl at *
      have HK : Hid (∀ w9 : World, Below wr.heap.size wr w9 → (Below wr.heap.size wr w9 ∧ (w9.cell? ⟨g, k * 6, none⟩ = some (.int .i64 p.un) ∧ w9.cell? ⟨g, k * 6 + 1, none⟩ = some (.int .i64 p.ki) ∧ w9.cell? ⟨g, k * 6 + 2, none⟩ = some (.int .i64 p.ad) ∧ w9.cell? ⟨g, k * 6 + 3, none⟩ = some (.int .i64 p.ct) ∧ w9.cell? ⟨g, k * 6 + 4, none⟩ = some (.int .i64 p.ev) ∧ w9.cell? ⟨g, k * 6 + 5, none⟩ = some (.slice At pl cc)) ∧ (w9.cell? ⟨g', k * 6, none⟩ = some (.int .i64 p.un) ∧ w9.cell? ⟨g', k * 6 + 1, none⟩ = some (.int .i64 p.ki) ∧ w9.cell? ⟨g', k * 6 + 2, none⟩ = some (.int .i64 p.ad) ∧ w9.cell? ⟨g', k * 6 + 3, none⟩ = some (.int .i64 p.ct) ∧ w9.cell? ⟨g', k * 6 + 4, none⟩ = some (.int .i64 p.ev) ∧ w9.cell? ⟨g', k * 6 + 5, none⟩ = some (.slice At' pl cc')))) := Lib.hid fun w9 hb => ⟨hb, ⟨cellB hb hg hc1.1, cellB hb hg hc1.2.1, cellB hb hg hc1.2.2.1, cellB hb hg hc1.2.2.2.1, cellB hb hg hc1.2.2.2.2.1, cellB hb hg hc1.2.2.2.2.2⟩, ⟨cellB hb hg' hc2.1, cellB hb hg' hc2.2.1, cellB hb hg' hc2.2.2.1, cellB hb hg' hc2.2.2.2.1, cellB hb hg' hc2.2.2.2.2.1, cellB hb hg' hc2.2.2.2.2.2⟩⟩
      have belh : ∀ w9 : World, (Below wr.heap.size wr w9 ∧ (w9.cell? ⟨g, k * 6, none⟩ = some (.int .i64 p.un) ∧ w9.cell? ⟨g, k * 6 + 1, none⟩ = some (.int .i64 p.ki) ∧ w9.cell? ⟨g, k * 6 + 2, none⟩ = some (.int .i64 p.ad) ∧ w9.cell? ⟨g, k * 6 + 3, none⟩ = some (.int .i64 p.ct) ∧ w9.cell? ⟨g, k * 6 + 4, none⟩ = some (.int .i64 p.ev) ∧ w9.cell? ⟨g, k * 6 + 5, none⟩ = some (.slice At pl cc)) ∧ (w9.cell? ⟨g', k * 6, none⟩ = some (.int .i64 p.un) ∧ w9.cell? ⟨g', k * 6 + 1, none⟩ = some (.int .i64 p.ki) ∧ w9.cell? ⟨g', k * 6 + 2, none⟩ = some (.int .i64 p.ad) ∧ w9.cell? ⟨g', k * 6 + 3, none⟩ = some (.int .i64 p.ct) ∧ w9.cell? ⟨g', k * 6 + 4, none⟩ = some (.int .i64 p.ev) ∧ w9.cell? ⟨g', k * 6 + 5, none⟩ = some (.slice At' pl cc'))) → Below wr.heap.size wr w9 := fun w9 h => h.1
      clear hc1 hc2
      go_wp2
      go_region_held3 (fun w9 => Below wr.heap.size wr w9 ∧ (w9.cell? ⟨g, k * 6, none⟩ = some (.int .i64 p.un) ∧ w9.cell? ⟨g, k * 6 + 1, none⟩ = some (.int .i64 p.ki) ∧ w9.cell? ⟨g, k * 6 + 2, none⟩ = some (.int .i64 p.ad) ∧ w9.cell? ⟨g, k * 6 + 3, none⟩ = some (.int .i64 p.ct) ∧ w9.cell? ⟨g, k * 6 + 4, none⟩ = some (.int .i64 p.ev) ∧ w9.cell? ⟨g, k * 6 + 5, none⟩ = some (.slice At pl cc)) ∧ (w9.cell? ⟨g', k * 6, none⟩ = some (.int .i64 p.un) ∧ w9.cell? ⟨g', k * 6 + 1, none⟩ = some (.int .i64 p.ki) ∧ w9.cell? ⟨g', k * 6 + 2, none⟩ = some (.int .i64 p.ad) ∧ w9.cell? ⟨g', k * 6 + 3, none⟩ = some (.int .i64 p.ct) ∧ w9.cell? ⟨g', k * 6 + 4, none⟩ = some (.int .i64 p.ev) ∧ w9.cell? ⟨g', k * 6 + 5, none⟩ = some (.slice At' pl cc')))
        ((refine HK.out _ ?_
          repeat' (first
            | with_reducible exact Below.refl _ _
            | with_reducible exact bel5
            | with_reducible exact belh _ (by assumption)
            | with_reducible apply below_drew
            | with_reducible apply below_drewN
            | fail)))
        (first
          | (go_at_call 41; have bh := belh _ (by assumption); refine (HS.out _ bh).mono ?_; rintro e w5 ⟨rfl, b5⟩; have bel5 : Below wr.heap.size wr w5 := Below.trans bh (b5.mono bh.size))
          | fail)
      have hbel5 := Lib.hid (hbel.out.trans (bel5.mono hbel.out.size))
      clear HK belh bel5 b5
      go_wp2
      go_roundw
      case rel => exact ⟨k + 1, by omega, by go_num, hbel5⟩
      case measure => simp [intOf]; omega
    · go_wp2
      go_ret
      exact ⟨rfl, hbel.out⟩
end Go.Proofs.YtcmbdhmhkfhjfaaGreat
namespace Go.Proofs.YtcmbdhmhkfhjfaaGreat.I
open Go.RowKit
set_option linter.unusedVariables false
def spoilI (k : Nat) (l : List Int) : List Int := (l.take k).map (bits .xor .i64 · 77) ++ l.drop k
theorem spoilI_length (k : Nat) (l : List Int) : (spoilI k l).length = l.length := by simp [spoilI]; omega
theorem xor90_wf (x : Int) (h : (Lit.int .i64 x).wf = true) : (Lit.int .i64 (bits .xor .i64 x 77)).wf = true := wf_bits _ _ _ _
theorem spoilI_wf (k : Nat) (l : List Int) (h : ∀ x ∈ l, (Lit.int .i64 x).wf = true) : ∀ x ∈ spoilI k l, (Lit.int .i64 x).wf = true := by
  intro x hx
  rcases List.mem_append.1 hx with hx | hx
  · obtain ⟨y, hy, rfl⟩ := List.mem_map.1 hx
    exact xor90_wf y (h y (List.mem_of_mem_take hy))
  · exact h x (List.mem_of_mem_drop hx)
theorem spoilI_at (k : Nat) (l : List Int) (hk : k < l.length) : nth (spoilI k l) k = nth l k := by
  have hl : ((l.take k).map (bits .xor .i64 · 77)).length = k := by simp; omega
  have := nth_right ((l.take k).map (bits .xor .i64 · 77)) (l.drop k) 0
  rw [hl, Nat.add_zero] at this
  rw [spoilI, this, nth, nth, List.getD_eq_getElem?_getD, List.getD_eq_getElem?_getD, List.getElem?_drop, Nat.add_zero]
theorem spoilI_set (k : Nat) (l : List Int) (hk : k < l.length) : (spoilI k l).set k (bits .xor .i64 (nth l k) 77) = spoilI (k + 1) l := by
  have hl : ((l.take k).map (bits .xor .i64 · 77)).length = k := by simp; omega
  have hd := List.drop_eq_getElem_cons hk
  rw [spoilI, List.set_append_right _ _ (by omega), hl, Nat.sub_self, spoilI, take_step l k hk]
  simp
  rw [hd]
  rfl
theorem spoilI_zero (l : List Int) : spoilI 0 l = l := by simp [spoilI]

theorem spoil_nil (w : World) :
    Calls Tryz.prog 34 #[.slice none 0 0] w fun e w' => e = .returned (.tuple #[]) ∧ w = w' := by
  go_enter Tryz.func34, Tryz.ntmps34
  go_wp2
  go_loop [3] (fun i => i = .int .i64 0) (fun _ => 0)
  case atStart => rfl
  case round =>
    subst hrel
    go_wp2
    go_end0
    exact ⟨rfl, rfl⟩

end Go.Proofs.YtcmbdhmhkfhjfaaGreat.I
namespace Go.Proofs.YtcmbdhmhkfhjfaaGreat.I
open Go.RowKit
set_option linter.unusedVariables false
structure Parts (w : World) (B gl m : Nat) (A : Nat → Option Addr) (n c : Nat → Nat) (l r : Nat → List Int) : Prop where
  at_ : ∀ k, k < m → w.cell? ⟨gl, k, none⟩ = some (.slice (A k) (n k) (c k))
  size : ∀ k, k < m → n k ≤ c k ∧ c k ≤ 17592186044416 ∧ (l k).length = c k
  wf : ∀ k, k < m → ∀ x ∈ l k, (Lit.int .i64 x).wf = true
  lies : ∀ k, k < m → (A k = none ∧ n k = 0 ∧ c k = 0) ∨ ∃ g, A k = some ⟨g, 0, none⟩ ∧ B ≤ g ∧ g ≠ gl ∧ w.heap[g]? = some (.cells (blk .i64 (l k ++ r k)) 3 (0, 0))
  apart : ∀ i k, i < m → k < m → i ≠ k → ∀ g, A i = some ⟨g, 0, none⟩ → A k ≠ some ⟨g, 0, none⟩
  gl_lt : gl < w.heap.size

theorem Parts.row {w : World} {B gl m : Nat} {A : Nat → Option Addr} {n c : Nat → Nat} {l r : Nat → List Int} (h : Parts w B gl m A n c l r) {k : Nat} (hk : k < m) :
    Row .i64 w w.heap.size (A k) ((l k).take (n k)) ∧ ((l k).take (n k)).length = n k := by
  have hs := h.size k hk
  refine ⟨?_, by simp; omega⟩
  rcases h.lies k hk with ⟨ha, hn, hc⟩ | ⟨g, ha, _, _, hg⟩
  · rw [hn, List.take_zero]; exact Row.nil _ _ _ _
  · rw [ha]
    exact (Row.of_block hg _ (fun x hx => h.wf k hk x (List.mem_of_mem_take hx)) ((List.take_prefix _ _).trans (List.prefix_append _ _))).more (block_lt hg)
theorem Parts.below {w w' : World} {B gl m : Nat} {A : Nat → Option Addr} {n c : Nat → Nat} {l r : Nat → List Int} (h : Parts w B gl m A n c l r) (hb : Below w.heap.size w w') : Parts w' B gl m A n c l r where
  at_ := fun k hk => (hb.cell (p := ⟨gl, k, none⟩) h.gl_lt).trans (h.at_ k hk)
  size := h.size
  wf := h.wf
  lies := fun k hk => by
    rcases h.lies k hk with h0 | ⟨g, ha, hB, hne, hg⟩
    · exact .inl h0
    · exact .inr ⟨g, ha, hB, hne, (hb.block g (block_lt hg)).trans hg⟩
  apart := h.apart
  gl_lt := Nat.lt_of_lt_of_le h.gl_lt hb.size
theorem Parts.spoil {w w' : World} {B gl m : Nat} {A : Nat → Option Addr} {n c : Nat → Nat} {l r : Nat → List Int} (h : Parts w B gl m A n c l r) {i g : Nat} (hi : i < m) (ha : A i = some ⟨g, 0, none⟩)
    (hg : w'.heap[g]? = some (.cells (blk .i64 (spoilI (c i) (l i) ++ r i)) 3 (0, 0))) (hgr : w.grownBy w' (some g)) : Parts w' B gl m A n c (fun k => if k = i then spoilI (c i) (l i) else l k) r where
  at_ := fun k hk => by
    rcases h.lies i hi with ⟨h0, _⟩ | ⟨g', ha', _, hne, _⟩
    · rw [ha] at h0; cases h0
    · rw [ha] at ha'
      injection ha' with ha'
      injection ha' with ha'
      subst ha'
      exact (World.cell?_of_block (hgr.block gl h.gl_lt (fun e => hne (by injection e with e; exact e.symm)))).trans (h.at_ k hk)
  size := fun k hk => by
    have := h.size k hk
    refine ⟨this.1, this.2.1, ?_⟩
    split
    · rename_i e; subst e; rw [spoilI_length]; exact this.2.2
    · exact this.2.2
  wf := fun k hk => by
    show ∀ x ∈ (if k = i then spoilI (c i) (l i) else l k), _
    split
    · exact spoilI_wf _ _ (h.wf i hi)
    · exact h.wf k hk
  lies := fun k hk => by
    by_cases e : k = i
    · subst e
      rcases h.lies k hi with ⟨h0, _⟩ | ⟨g', ha', hB, hne, _⟩
      · rw [ha] at h0; cases h0
      · rw [ha] at ha'
        injection ha' with ha'
        injection ha' with ha'
        subst ha'
        exact .inr ⟨g, ha, hB, hne, by rw [if_pos rfl]; exact hg⟩
    · rcases h.lies k hk with h0 | ⟨g', ha', hB, hne, hg'⟩
      · exact .inl h0
      · refine .inr ⟨g', ha', hB, hne, ?_⟩
        rw [if_neg e, hgr.block g' (block_lt hg') (fun e' => ?_)]
        · exact hg'
        · injection e' with e'
          subst e'
          exact h.apart k i hk hi e _ ha' ha
  apart := h.apart
  gl_lt := Nat.lt_of_lt_of_le h.gl_lt hgr.size

structure Ent where
  a : Option Nat
  n : Nat
  c : Nat
  l : List Int
  r : List Int
def Ent.none_ : Ent := ⟨none, 0, 0, [], []⟩
def Ent.adr (e : Ent) : Option Addr := e.a.map fun g => ⟨g, 0, none⟩
def Ent.val (e : Ent) : Value := .slice e.adr e.n e.c
structure Ent.Ok (w : World) (B : Nat) (e : Ent) : Prop where
  size : e.n ≤ e.c ∧ e.c ≤ 17592186044416 ∧ e.l.length = e.c
  wf : ∀ x ∈ e.l, (Lit.int .i64 x).wf = true
  lies : (e.a = none ∧ e.n = 0 ∧ e.c = 0) ∨ ∃ g, e.a = some g ∧ B ≤ g ∧ w.heap[g]? = some (.cells (blk .i64 (e.l ++ e.r)) 3 (0, 0))
def Ent.Far (e e' : Ent) : Prop := ∀ g, e.a = some g → e'.a ≠ some g
theorem Ent.adr_some {e : Ent} {g : Nat} (h : e.adr = some ⟨g, 0, none⟩) : e.a = some g := by
  unfold Ent.adr at h
  cases ha : e.a with
  | none => rw [ha] at h; cases h
  | some q => rw [ha] at h; simp at h; rw [h]

theorem parts_of_list (w : World) (B : Nat) (L : List Ent) (t : TypeId) (hok : ∀ e ∈ L, e.Ok w B) (hfar : L.Pairwise Ent.Far) :
    Parts (w.alloc (.cells (L.map Ent.val).toArray t)) B w.heap.size L.length (fun k => (L.getD k Ent.none_).adr) (fun k => (L.getD k Ent.none_).n) (fun k => (L.getD k Ent.none_).c) (fun k => (L.getD k Ent.none_).l) (fun k => (L.getD k Ent.none_).r) where
  at_ := fun k hk => by
    rw [World.cell?_alloc_at _ _ _ _ rfl]
    simp [List.getElem?_eq_getElem hk, List.getD_eq_getElem?_getD, Ent.val]
  size := fun k hk => by
    simp only [List.getD_eq_getElem?_getD, List.getElem?_eq_getElem hk, Option.getD_some]
    exact (hok _ (List.getElem_mem hk)).size
  wf := fun k hk => by
    simp only [List.getD_eq_getElem?_getD, List.getElem?_eq_getElem hk, Option.getD_some]
    exact (hok _ (List.getElem_mem hk)).wf
  lies := fun k hk => by
    simp only [List.getD_eq_getElem?_getD, List.getElem?_eq_getElem hk, Option.getD_some]
    rcases (hok _ (List.getElem_mem hk)).lies with ⟨h1, h2⟩ | ⟨g, h1, h2, h3⟩
    · exact .inl ⟨by rw [Ent.adr, h1]; rfl, h2⟩
    · have := block_lt h3
      exact .inr ⟨g, by rw [Ent.adr, h1]; rfl, h2, by omega, (Below.heap_alloc w _ g this).trans h3⟩
  apart := fun i k hi hk hne g h1 h2 => by
    simp only [List.getD_eq_getElem?_getD, List.getElem?_eq_getElem hi, List.getElem?_eq_getElem hk, Option.getD_some] at h1 h2
    have h1 := Ent.adr_some h1
    have h2 := Ent.adr_some h2
    rcases Nat.lt_or_gt_of_ne hne with h | h
    · exact List.pairwise_iff_getElem.1 hfar i k hi hk h g h1 h2
    · exact List.pairwise_iff_getElem.1 hfar k i hk hi h g h2 h1
  gl_lt := by simp

end Go.Proofs.YtcmbdhmhkfhjfaaGreat.I
