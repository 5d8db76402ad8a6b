/-
  Texts of the proof of PlanValues, joined.
-/
import Derived.Test.YtcmbdhmhkfhjfaaGreatJPlanValuesE
import Derived.Test.YtcmbdhmhkfhjfaaGreatJPlanValuesF
import Derived.Test.YtcmbdhmhkfhjfaaGreatJPlanValuesB
import Derived.Deep.RegionHeld3
import Derived.Test.YtcmbdhmhkfhjfaaGreatJPlanValuesC
import Derived.BigQuiet
namespace Go.Proofs.YtcmbdhmhkfhjfaaGreat
open Go.RowKit
set_option linter.unusedVariables false
set_option maxRecDepth 100000
attribute [local go_sem ↓] ldTag_fold stTag_fold

/-- The first cells of a tag's box. -/
theorem tgBox {w : World} {g : Nat} {t : Tg} {T : TypeId} (h : w.heap[g]? = some (.cells (tgC t).toArray T (0, 0))) :
    w.cell? ⟨g, 0, none⟩ = some (.string t.nm) ∧ w.cell? ⟨g, 1, none⟩ = some (.int .i64 t.un) ∧ w.cell? ⟨g, 2, none⟩ = some (.int .i64 t.ki) ∧ w.cell? ⟨g, 3, none⟩ = some (.int .i64 t.ad) ∧ w.cell? ⟨g, 4, none⟩ = some (.int .i64 t.ev) := by
  obtain ⟨nm, un, ki, ad, ev, we, sg, sw, mu, di, aa, de, qu, ul, uh, la, lo, hi, hy⟩ := t
  exact ⟨cell_of_row _ _ 0 _ _ _ h, cell_of_row _ _ 1 _ _ _ h, cell_of_row _ _ 2 _ _ _ h, cell_of_row _ _ 3 _ _ _ h, cell_of_row _ _ 4 _ _ _ h⟩
theorem tgBox_ld {w : World} {g : Nat} {t : Tg} {T : TypeId} (h : w.heap[g]? = some (.cells (tgC t).toArray T (0, 0))) : (ldTag (.pointer (some ⟨g, 0, none⟩))).run Tryz.prog w = .ok (tgV t) w := ldTag_run (tgC_len t) (rangeB h)
/-- A tag's fields in memory. -/
theorem VRow.five {w : World} {B : Nat} {A : Option Addr} {l : List Tg} (h : VRow w B A (flatV tgC l)) {i : Nat} (hi : i < l.length) :
    ∃ b o, A = some ⟨b, o, none⟩ ∧ b < B ∧ (ldTag (.pointer (some ⟨b, o + i * 19, none⟩))).run Tryz.prog w = .ok (tgV (tgAt l i)) w := by
  obtain ⟨b, o, e, hb, hl, _⟩ := h.load hi
  exact ⟨b, o, e, hb, by rw [tgAt_eq hi]; exact hl⟩

def aheadV (a b : Tg) (i k : Nat) : Bool := if a.un = b.un then (if a.ev = b.ev then (if a.ki = b.ki then (if a.ad = b.ad then decide ((i : Int) < k) else decide (a.ad < b.ad)) else decide (a.ki < b.ki)) else decide (a.ev < b.ev)) else decide (a.un < b.un)
theorem aheadV_eq (l : List Tg) (i k : Nat) : aheadB l i k = aheadV (tgAt l i) (tgAt l k) i k := by
  generalize hb : aheadV (tgAt l i) (tgAt l k) i k = b
  have key : aheadB l i k = true ↔ aheadV (tgAt l i) (tgAt l k) i k = true := by
    rw [ahead_iff]
    unfold aheadV aheadP
    split
    · split
      · split
        · split
          · rw [decide_eq_true_eq]; omega
          · rw [decide_eq_true_eq]; omega
        · rw [decide_eq_true_eq]; omega
      · rw [decide_eq_true_eq]; omega
    · rw [decide_eq_true_eq]; omega
  rw [hb] at key
  cases b <;> cases h : aheadB l i k <;> simp_all

set_option maxHeartbeats 1000000 in
theorem refAhead_any (A : Option Addr) (n c : Nat) (l : List Tg) (i k : Nat) (w : World) (hr : VRow w w.heap.size A (flatV tgC l)) (hn : l.length = n) (hb : n ≤ 4611686018427387904) (hi : i < n) (hk : k < n) :
    Calls Tryz.prog 98 #[.slice A n c, .int .i64 (i : Int), .int .i64 (k : Int)] w fun e w' => e = .returned (.bool (aheadB l i k)) ∧ Below w.heap.size w w' := by
  have HB := Lib.hid (aheadV_eq l i k)
  rw [HB.out]
  clear HB
  obtain ⟨b, o, rfl, hb1, hl1⟩ := hr.five (i := i) (by omega)
  obtain ⟨b', o', e2, _, hl2⟩ := (hr.alloc (Nat.le_refl _) (.cells (tgC (tgAt l i)).toArray 51)).five (i := k) (by omega)
  injection e2 with e2
  injection e2 with e2 e3
  subst e2 e3
  generalize tgAt l i = a at *
  generalize tgAt l k = d at *
  have hst1 := made_tag w a
  have hst2 := made_tag (w.alloc (.cells (tgC a).toArray 51)) d
  have hsu : (w.alloc (.cells (tgC a).toArray 51)).heap.size = w.heap.size + 1 := by simp
  rw [hsu] at hst2
  have hbx1 := two_fst w (.cells (tgC a).toArray 51) (.cells (tgC d).toArray 51)
  have hbx2 := heap_alloc_two w (.cells (tgC a).toArray 51) (.cells (tgC d).toArray 51)
  obtain ⟨a0, a1, a2, a3, a4⟩ := tgBox hbx1
  obtain ⟨d0, d1, d2, d3, d4⟩ := tgBox hbx2
  have bel := (bel_alloc w (.cells (tgC a).toArray 51)).alloc (by simp) (.cells (tgC d).toArray 51)
  have hi' : (i : Int) < n := by omega
  have hk' : (k : Int) < n := by omega
  have hi0 : (0 : Int) ≤ i := by omega
  have hk0 : (0 : Int) ≤ k := by omega
  clear hbx1 hbx2 hr hsu
  unfold aheadV
  by_cases h1 : a.un = d.un
  · rw [if_pos h1]
    by_cases h2 : a.ev = d.ev
    · rw [if_pos h2]
      by_cases h3 : a.ki = d.ki
      · rw [if_pos h3]
        by_cases h4 : a.ad = d.ad
        · rw [if_pos h4]
          go_enter Tryz.func98, Tryz.ntmps98
          go_wp2
          go_ret
          exact ⟨rfl, bel⟩
        · rw [if_neg h4]
          have e4 : (a.ad == d.ad) = false := beq_false_of_ne h4
          go_enter Tryz.func98, Tryz.ntmps98
          go_wp2
          go_ret
          exact ⟨rfl, bel⟩
      · rw [if_neg h3]
        have e3 : (a.ki == d.ki) = false := beq_false_of_ne h3
        go_enter Tryz.func98, Tryz.ntmps98
        go_wp2
        go_ret
        exact ⟨rfl, bel⟩
    · rw [if_neg h2]
      have e2 : (a.ev == d.ev) = false := beq_false_of_ne h2
      go_enter Tryz.func98, Tryz.ntmps98
      go_wp2
      go_ret
      exact ⟨rfl, bel⟩
  · rw [if_neg h1]
    have e1 : (a.un == d.un) = false := beq_false_of_ne h1
    go_enter Tryz.func98, Tryz.ntmps98
    go_wp2
    go_ret
    exact ⟨rfl, bel⟩

theorem asked_none (w : World) (B : Nat) (k a c : Int) : Asked w B (reqK k a c) none none none 0 0 0 := ⟨L.Row.nil _ _ _ _, Row.nil _ _ _ _, Row.nil _ _ _ _, rfl, rfl, rfl⟩
theorem chk_req (k a c : Int) : chk (reqK k a c).c (reqK k a c).a (reqK k a c).n 0 0 0 (reqK k a c).fl = chkQ (reqK k a c) := by simp [chkQ, reqK]
/-- A poll's box. -/
theorem poBox {w : World} {g : Nat} {v0 v1 v2 v3 v4 v5 : Value} {T : TypeId} (h : w.heap[g]? = some (.cells #[v0, v1, v2, v3, v4, v5] T (0, 0))) :
    w.cell? ⟨g, 0, none⟩ = some v0 ∧ w.cell? ⟨g, 1, none⟩ = some v1 ∧ w.cell? ⟨g, 2, none⟩ = some v2 ∧ w.cell? ⟨g, 3, none⟩ = some v3 ∧ w.cell? ⟨g, 4, none⟩ = some v4 ∧ w.cell? ⟨g, 5, none⟩ = some v5 := of6 h

/-- What Ask answers. -/
def AskedK (w : World) (k a c : Int) (e : Ending) (w' : World) : Prop :=
  e = .returned (.tuple #[.agg #[.int .i64 (askN k a c k), .int .i64 (askN k a c a), .int .i64 (askN k a c c), .slice none 0 0, .slice none 0 0, .slice none 0 0], .int .i64 (askE k a c)]) ∧ Below w.heap.size w w'
set_option maxHeartbeats 1000000 in
theorem refAsk10_any (pu pk pa pc pe : Int) (Pt : Option Addr) (pn pm : Nat) (w : World) : Calls Tryz.prog 29 #[.agg #[.int .i64 pu, .int .i64 pk, .int .i64 pa, .int .i64 pc, .int .i64 pe, .slice Pt pn pm]] w (AskedK w pk pa pc) := by
  have HP : Hid (∀ E k' a' c', askE pk pa pc = E → askN pk pa pc pk = k' → askN pk pa pc pa = a' → askN pk pa pc pc = c' → ∀ w', Below w.heap.size w w' → AskedK w pk pa pc (.returned (.tuple #[.agg #[.int .i64 k', .int .i64 a', .int .i64 c', .slice none 0 0, .slice none 0 0, .slice none 0 0], .int .i64 E])) w') :=
    Lib.hid (fun E k' a' c' e1 e2 e3 e4 w' hb => ⟨by rw [e1, e2, e3, e4], hb⟩)
  have bel2 := (bel_alloc w (.cells #[.int .i64 pu, .int .i64 pk, .int .i64 pa, .int .i64 pc, .int .i64 pe, .slice Pt pn pm] 25)).alloc (by simp) (.cells #[.int .i64 0, .int .i64 0, .int .i64 0, .slice none 0 0, .slice none 0 0, .slice none 0 0] 68)
  by_cases h1 : pk < 1
  · have HE : Hid (askE pk pa pc = 28) := Lib.hid (by unfold askE; rw [if_pos (.inl h1)])
    have HN : Hid (∀ x, askN pk pa pc x = 0) := Lib.hid (fun x => by unfold askN; rw [HE.out]; rfl)
    go_enter Tryz.func29, Tryz.ntmps29
    go_wp2
    (try simp only [Exit.inBlock, Exit.then])
    refine bodyPost_ret (v := .tuple #[.agg #[.int .i64 0, .int .i64 0, .int .i64 0, .slice none 0 0, .slice none 0 0, .slice none 0 0], .int .i64 28]) (by simp [results, Tryz.results29, go_sem, *]) rfl ?_
    exact HP.out _ _ _ _ HE.out (HN.out _) (HN.out _) (HN.out _) _ bel2
  by_cases h2 : pk > 4
  · have HE : Hid (askE pk pa pc = 28) := Lib.hid (by unfold askE; rw [if_pos (.inr h2)])
    have HN : Hid (∀ x, askN pk pa pc x = 0) := Lib.hid (fun x => by unfold askN; rw [HE.out]; rfl)
    go_enter Tryz.func29, Tryz.ntmps29
    go_wp2
    (try simp only [Exit.inBlock, Exit.then])
    refine bodyPost_ret (v := .tuple #[.agg #[.int .i64 0, .int .i64 0, .int .i64 0, .slice none 0 0, .slice none 0 0, .slice none 0 0], .int .i64 28]) (by simp [results, Tryz.results29, go_sem, *]) rfl ?_
    exact HP.out _ _ _ _ HE.out (HN.out _) (HN.out _) (HN.out _) _ bel2
  obtain ⟨E, hE⟩ : ∃ E, chkQ (reqK pk pa pc) = E := ⟨_, rfl⟩
  have HE : Hid (askE pk pa pc = E) := Lib.hid (by unfold askE; rw [if_neg (by omega)]; exact hE)
  have HC : Hid (∀ W : World, Calls Tryz.prog 57 #[.agg #[.int .i64 pk, .int .i64 pa, .int .i64 pc, .slice none 0 0, .slice none 0 0, .slice none 0 0]] W fun e w' => e = .returned (.int .i64 E) ∧ Below W.heap.size W w') := Lib.hid fun W =>
    (refCheck_any (reqK pk pa pc) none none none 0 0 0 0 0 0 W (asked_none _ _ _ _ _)).mono fun e w' h => ⟨by rw [h.1, chk_req, hE], h.2⟩
  clear hE
  have t3 := Box3.new w (.cells #[.int .i64 pu, .int .i64 pk, .int .i64 pa, .int .i64 pc, .int .i64 pe, .slice Pt pn pm] 25) (.cells #[.int .i64 0, .int .i64 0, .int .i64 0, .slice none 0 0, .slice none 0 0, .slice none 0 0] 68) (.cells #[.int .i64 pk, .int .i64 pa, .int .i64 pc, .slice none 0 0, .slice none 0 0, .slice none 0 0] 68)
  have hsu : (w.alloc (.cells #[.int .i64 pu, .int .i64 pk, .int .i64 pa, .int .i64 pc, .int .i64 pe, .slice Pt pn pm] 25)).heap.size = w.heap.size + 1 := by simp
  by_cases h0 : E = 0
  · subst h0
    have HN : Hid (∀ x, askN pk pa pc x = x) := Lib.hid (fun x => by unfold askN; rw [HE.out]; rfl)
    go_enter Tryz.func29, Tryz.ntmps29
    go_wp2_with fail
    refine (HC.out _).mono ?_
    rintro e w1 ⟨rfl, b1⟩
    have t4 := t3.below b1
    obtain ⟨c0, c1, c2, c3, c4, c5⟩ := of6 t4.2.1
    obtain ⟨d0, d1, d2, d3, d4, d5⟩ := of6 t4.2.2.1
    have hfz := fun i => block_frozen _ _ i _ _ t4.2.1
    have P4 := Lib.hid (below_put6 t4.bel (g := w.heap.size + 1) (by omega) (.int .i64 pk) (.int .i64 pa) (.int .i64 pc) (.slice none 0 0) (.slice none 0 0) (.slice none 0 0))
    have P5 := Lib.hid (put6_heap t4.2.1 (.int .i64 pk) (.int .i64 pa) (.int .i64 pc) (.slice none 0 0) (.slice none 0 0) (.slice none 0 0))
    clear t3 t4 b1 bel2
    go_wp2
    (try simp only [Exit.inBlock, Exit.then])
    show bodyPost _ _ _ _ _ (put6 w1 (w.heap.size + 1) (.int .i64 pk) (.int .i64 pa) (.int .i64 pc) (.slice none 0 0) (.slice none 0 0) (.slice none 0 0))
    generalize put6 w1 (w.heap.size + 1) (.int .i64 pk) (.int .i64 pa) (.int .i64 pc) (.slice none 0 0) (.slice none 0 0) (.slice none 0 0) = w6 at *
    clear c0 c1 c2 c3 c4 c5 hfz
    obtain ⟨g0, g1, g2, g3, g4, g5⟩ := of6 P5.out
    refine bodyPost_ret (v := .tuple #[.agg #[.int .i64 pk, .int .i64 pa, .int .i64 pc, .slice none 0 0, .slice none 0 0, .slice none 0 0], .int .i64 0]) (by simp [results, Tryz.results29, go_sem, g0, g1, g2, g3, g4, g5]) rfl ?_
    exact HP.out _ _ _ _ HE.out (HN.out _) (HN.out _) (HN.out _) _ P4.out
  · have HN : Hid (∀ x, askN pk pa pc x = 0) := Lib.hid (fun x => by unfold askN; rw [HE.out, if_neg h0])
    have e0 : (E == 0) = false := beq_false_of_ne h0
    have e0' : (E != 0) = true := by simpa using h0
    clear h0
    go_enter Tryz.func29, Tryz.ntmps29
    go_wp2_with fail
    refine (HC.out _).mono ?_
    rintro e w1 ⟨rfl, b1⟩
    have t4 := t3.below b1
    obtain ⟨c0, c1, c2, c3, c4, c5⟩ := of6 t4.2.1
    have hfz := fun i => block_frozen _ _ i _ _ t4.2.1
    have P4 := Lib.hid (below_put6 t4.bel (g := w.heap.size + 1) (by omega) (.int .i64 0) (.int .i64 0) (.int .i64 0) (.slice none 0 0) (.slice none 0 0) (.slice none 0 0))
    have P5 := Lib.hid (put6_heap t4.2.1 (.int .i64 0) (.int .i64 0) (.int .i64 0) (.slice none 0 0) (.slice none 0 0) (.slice none 0 0))
    clear t3 t4 b1 bel2
    go_wp2
    (try simp only [Exit.inBlock, Exit.then])
    show bodyPost _ _ _ _ _ (put6 w1 (w.heap.size + 1) (.int .i64 0) (.int .i64 0) (.int .i64 0) (.slice none 0 0) (.slice none 0 0) (.slice none 0 0))
    generalize put6 w1 (w.heap.size + 1) (.int .i64 0) (.int .i64 0) (.int .i64 0) (.slice none 0 0) (.slice none 0 0) (.slice none 0 0) = w6 at *
    clear c0 c1 c2 c3 c4 c5 hfz
    obtain ⟨g0, g1, g2, g3, g4, g5⟩ := of6 P5.out
    refine bodyPost_ret (v := .tuple #[.agg #[.int .i64 0, .int .i64 0, .int .i64 0, .slice none 0 0, .slice none 0 0, .slice none 0 0], .int .i64 E]) (by simp [results, Tryz.results29, go_sem, g0, g1, g2, g3, g4, g5]) rfl ?_
    exact HP.out _ _ _ _ HE.out (HN.out _) (HN.out _) (HN.out _) _ P4.out
end Go.Proofs.YtcmbdhmhkfhjfaaGreat
namespace Go.Proofs.YtcmbdhmhkfhjfaaGreat
open Go.RowKit
set_option linter.unusedVariables false
set_option maxRecDepth 100000
attribute [local go_sem ↓] ldTag_fold stTag_fold

theorem refWidth_t (t : Tg) (w : World) : Calls Tryz.prog 61 #[tgV t] w fun e w' => e = .returned (.int .i64 (widT t)) ∧ Below w.heap.size w w' := by
  obtain ⟨nm, un, ki, ad, ev, we, sg, sw, mu, di, aa, de, qu, ul, uh, la, lo, hi, hy⟩ := t
  exact refWidth_any nm un ki ad ev we sg sw mu di aa de qu ul uh la lo hi hy w
/-- A tag is boxed in one step. -/
def bxTag (v : Value) : Sem Value := Instr.box 51 v
theorem bxTag_fold (v : Value) : Instr.box 51 v = bxTag v := rfl
theorem bxTag_run (w : World) (t : Tg) : (bxTag (tgV t)).run Tryz.prog w = .ok (.pointer (some ⟨w.heap.size, 0, none⟩)) (w.alloc (.cells (tgC t).toArray 51)) := by
  obtain ⟨nm, un, ki, ad, ev, we, sg, sw, mu, di, aa, de, qu, ul, uh, la, lo, hi, hy⟩ := t
  unfold bxTag tgV tgC
  simp [go_sem]
attribute [local go_sem ↓] bxTag_fold
attribute [local go_sem] bxTag_run


theorem joinB_iff (pu pk pa pc pe : Int) (tg : List Int) (t : Tg) : joinB ⟨pu, pk, pa, pc, pe, tg⟩ t = true ↔ pu = t.un ∧ pe = t.ev ∧ pk = t.ki ∧ t.ad - 8 ≤ pa + pc ∧ cntJ ⟨pu, pk, pa, pc, pe, tg⟩ t ≤ mostK t.ki := decide_eq_true_iff
theorem joinB_no {pu pk pa pc pe : Int} {tg : List Int} {t : Tg} (h : ¬ (pu = t.un ∧ pe = t.ev ∧ pk = t.ki ∧ t.ad - 8 ≤ pa + pc ∧ cntJ ⟨pu, pk, pa, pc, pe, tg⟩ t ≤ mostK t.ki)) : joinB ⟨pu, pk, pa, pc, pe, tg⟩ t = false := decide_eq_false h
set_option maxHeartbeats 8000000 in
theorem refJoined_any (pu pk pa pc pe : Int) (Pt : Option Addr) (pn pm : Nat) (tg : List Int) (t : Tg) (w : World) (hpa : 0 ≤ pa ∧ pa ≤ 65536) (hpc : 0 ≤ pc ∧ pc ≤ 65536) (hta : 0 ≤ t.ad ∧ t.ad ≤ 65536) :
    Calls Tryz.prog 65 #[.agg #[.int .i64 pu, .int .i64 pk, .int .i64 pa, .int .i64 pc, .int .i64 pe, .slice Pt pn pm], tgV t] w fun e w' => e = .returned (.tuple #[.int .i64 (bif joinB ⟨pu, pk, pa, pc, pe, tg⟩ t then cntJ ⟨pu, pk, pa, pc, pe, tg⟩ t else 0), .bool (joinB ⟨pu, pk, pa, pc, pe, tg⟩ t)]) ∧ Below w.heap.size w w' := by
  have hw := widT_le t
  have hx0 := two_fst w (.cells #[.int .i64 pu, .int .i64 pk, .int .i64 pa, .int .i64 pc, .int .i64 pe, .slice Pt pn pm] 25) (.cells (tgC t).toArray 51)
  have hx1 := heap_alloc_two w (.cells #[.int .i64 pu, .int .i64 pk, .int .i64 pa, .int .i64 pc, .int .i64 pe, .slice Pt pn pm] 25) (.cells (tgC t).toArray 51)
  have bel0 := (bel_alloc w (.cells #[.int .i64 pu, .int .i64 pk, .int .i64 pa, .int .i64 pc, .int .i64 pe, .slice Pt pn pm] 25)).alloc (by simp) (.cells (tgC t).toArray 51)
  have HW : Hid (∀ W : World, Calls Tryz.prog 61 #[tgV t] W fun e w' => e = .returned (.int .i64 (widT t)) ∧ Below W.heap.size W w') := Lib.hid fun W => refWidth_t t W
  have hcj : Hid (∀ x, (t.ad + widT t - pa < pc ∧ x = pc) ∨ (¬ t.ad + widT t - pa < pc ∧ x = t.ad + widT t - pa) → cntJ ⟨pu, pk, pa, pc, pe, tg⟩ t = x) := Lib.hid (by
    intro x hx
    show (if t.ad + widT t - pa < pc then pc else t.ad + widT t - pa) = x
    rcases hx with ⟨h, rfl⟩ | ⟨h, rfl⟩
    · exact if_pos h
    · exact if_neg h)
  generalize widT t = wd at *
  have hwr1 : IntKind.i64.wrap (t.ad + wd) = t.ad + wd := by rw [IntKind.wrap_i64]; omega
  have hwr2 : IntKind.i64.wrap (t.ad + wd - pa) = t.ad + wd - pa := by rw [IntKind.wrap_i64]; omega
  have hwr3 : IntKind.i64.wrap (t.ad - 8) = t.ad - 8 := by rw [IntKind.wrap_i64]; omega
  have hwr4 : IntKind.i64.wrap (pa + pc) = pa + pc := by rw [IntKind.wrap_i64]; omega
  obtain ⟨mo, hm⟩ : ∃ mo, mostK t.ki = mo := ⟨_, rfl⟩
  have hmo : ((t.ki == 1) = true ∧ mo = 2000) ∨ ((t.ki == 1) = false ∧ (t.ki == 2) = true ∧ mo = 2000) ∨ ((t.ki == 1) = false ∧ (t.ki == 2) = false ∧ mo = 125) := by
    rw [← hm]
    unfold mostK
    by_cases h1 : t.ki = 1
    · exact .inl ⟨by simp [h1], if_pos (.inl h1)⟩
    · by_cases h2 : t.ki = 2
      · exact .inr (.inl ⟨beq_false_of_ne h1, by simp [h2], if_pos (.inr h2)⟩)
      · exact .inr (.inr ⟨beq_false_of_ne h1, beq_false_of_ne h2, if_neg (by omega)⟩)
  have HM := Lib.hid hm
  clear hm
  obtain ⟨a0, a1, a2, a3, a4⟩ := tgBox hx1
  obtain ⟨p0, p1, p2, p3, p4, p5⟩ := of6 hx0
  have HK0 : Hid (∀ w9 : World, Below ((w.alloc (.cells #[.int .i64 pu, .int .i64 pk, .int .i64 pa, .int .i64 pc, .int .i64 pe, .slice Pt pn pm] 25)).alloc (.cells (tgC t).toArray 51)).heap.size ((w.alloc (.cells #[.int .i64 pu, .int .i64 pk, .int .i64 pa, .int .i64 pc, .int .i64 pe, .slice Pt pn pm] 25)).alloc (.cells (tgC t).toArray 51)) w9 → (Below ((w.alloc (.cells #[.int .i64 pu, .int .i64 pk, .int .i64 pa, .int .i64 pc, .int .i64 pe, .slice Pt pn pm] 25)).alloc (.cells (tgC t).toArray 51)).heap.size ((w.alloc (.cells #[.int .i64 pu, .int .i64 pk, .int .i64 pa, .int .i64 pc, .int .i64 pe, .slice Pt pn pm] 25)).alloc (.cells (tgC t).toArray 51)) w9 ∧ w9.cell? ⟨w.heap.size + 1, 3, none⟩ = some (.int .i64 t.ad) ∧ (ldTag (.pointer (some ⟨w.heap.size + 1, 0, none⟩))).run Tryz.prog w9 = .ok (tgV t) w9 ∧ w9.cell? ⟨w.heap.size, 2, none⟩ = some (.int .i64 pa))) := Lib.hid fun w9 hw => ⟨hw, (tgBox (keepB hw hx1)).2.2.2.1, tgBox_ld (keepB hw hx1), (of6 (keepB hw hx0)).2.2.1⟩
  rcases hmo with ⟨hk1, rfl⟩ | ⟨hk1, hk2, rfl⟩ | ⟨hk1, hk2, rfl⟩
  · go_enter Tryz.func65, Tryz.ntmps65
    go_wp2
    clear a0 a1 a2 a3 a4 p0 p1 p2 p3 p4 p5
    have HK := HK0
    clear HK0
    generalize (w.alloc (.cells #[.int .i64 pu, .int .i64 pk, .int .i64 pa, .int .i64 pc, .int .i64 pe, .slice Pt pn pm] 25)).alloc (.cells (tgC t).toArray 51) = w0 at *
    have belh : ∀ w9 : World, (Below w0.heap.size w0 w9 ∧ w9.cell? ⟨w.heap.size + 1, 3, none⟩ = some (.int .i64 t.ad) ∧ (ldTag (.pointer (some ⟨w.heap.size + 1, 0, none⟩))).run Tryz.prog w9 = .ok (tgV t) w9 ∧ w9.cell? ⟨w.heap.size, 2, none⟩ = some (.int .i64 pa)) → Below w0.heap.size w0 w9 := fun w9 h => h.1
    go_region_held3 (fun w9 => Below w0.heap.size w0 w9 ∧ w9.cell? ⟨w.heap.size + 1, 3, none⟩ = some (.int .i64 t.ad) ∧ (ldTag (.pointer (some ⟨w.heap.size + 1, 0, none⟩))).run Tryz.prog w9 = .ok (tgV t) w9 ∧ w9.cell? ⟨w.heap.size, 2, none⟩ = some (.int .i64 pa))
      ((refine HK.out _ ?_
        repeat' (first
          | with_reducible exact Below.refl _ _
          | with_reducible exact bel5
          | with_reducible exact belh _ (by assumption)
          | with_reducible apply below_drew
          | with_reducible apply below_drewN
          | fail)))
      (first
        | (go_at_call 61; refine (HW.out _).mono ?_; rintro e w5 ⟨rfl, b5⟩; have bel5 : Below w0.heap.size w0 w5 := Below.trans (belh _ (by assumption)) (b5.mono (Below.size (belh _ (by assumption)))))
        | fail)
    have h5 := keepB bel5 hx1
    have h6 := keepB bel5 hx0
    have BEL := Lib.hid (bel0.trans (bel5.mono bel0.size))
    clear HK belh bel5 hx0 hx1 bel0 HW
    obtain ⟨a0, a1, a2, a3, a4⟩ := tgBox h5
    obtain ⟨p0, p1, p2, p3, p4, p5⟩ := of6 h6
    clear h5 h6
    by_cases hc : t.ad + wd - pa < pc
    · have HC : Hid (cntJ ⟨pu, pk, pa, pc, pe, tg⟩ t = pc) := Lib.hid (hcj.out _ (.inl ⟨by omega, rfl⟩))
      clear hcj
      by_cases h1 : pu = t.un
      case neg =>
        have HJ : Hid (joinB ⟨pu, pk, pa, pc, pe, tg⟩ t = false) := Lib.hid (joinB_no (fun h => h1 h.1))
        have f0 : (pu == t.un) = false := beq_false_of_ne h1
        have g0 : (pu != t.un) = true := by simpa using h1
        clear h1
        go_wp2
        (try simp only [Exit.inBlock, Exit.then])
        refine bodyPost_ret (v := .tuple #[.int .i64 (0), .bool false]) (by simp [results, Tryz.results65, go_sem]) rfl ?_
        exact ⟨by rw [HJ.out]; rfl, BEL.out⟩
      have f0 : (pu == t.un) = true := by simp [h1]
      have g0 : (pu != t.un) = false := by simp [h1]
      by_cases h2 : pe = t.ev
      case neg =>
        have HJ : Hid (joinB ⟨pu, pk, pa, pc, pe, tg⟩ t = false) := Lib.hid (joinB_no (fun h => h2 h.2.1))
        have f1 : (pe == t.ev) = false := beq_false_of_ne h2
        have g1 : (pe != t.ev) = true := by simpa using h2
        clear h1 h2
        go_wp2
        (try simp only [Exit.inBlock, Exit.then])
        refine bodyPost_ret (v := .tuple #[.int .i64 (0), .bool false]) (by simp [results, Tryz.results65, go_sem]) rfl ?_
        exact ⟨by rw [HJ.out]; rfl, BEL.out⟩
      have f1 : (pe == t.ev) = true := by simp [h2]
      have g1 : (pe != t.ev) = false := by simp [h2]
      by_cases h3 : pk = t.ki
      case neg =>
        have HJ : Hid (joinB ⟨pu, pk, pa, pc, pe, tg⟩ t = false) := Lib.hid (joinB_no (fun h => h3 h.2.2.1))
        have f2 : (pk == t.ki) = false := beq_false_of_ne h3
        have g2 : (pk != t.ki) = true := by simpa using h3
        clear h1 h2 h3
        go_wp2
        (try simp only [Exit.inBlock, Exit.then])
        refine bodyPost_ret (v := .tuple #[.int .i64 (0), .bool false]) (by simp [results, Tryz.results65, go_sem]) rfl ?_
        exact ⟨by rw [HJ.out]; rfl, BEL.out⟩
      have f2 : (pk == t.ki) = true := by simp [h3]
      have g2 : (pk != t.ki) = false := by simp [h3]
      have h4 : ¬ t.ad - 8 > pa + pc := by omega
      by_cases h5 : pc > 2000
      case pos =>
        have HJ : Hid (joinB ⟨pu, pk, pa, pc, pe, tg⟩ t = false) := Lib.hid (joinB_no (fun h => by have := h.2.2.2.2; rw [HC.out, HM.out] at this; omega))
        clear h1 h2 h3
        go_wp2
        (try simp only [Exit.inBlock, Exit.then])
        refine bodyPost_ret (v := .tuple #[.int .i64 (0), .bool false]) (by simp [results, Tryz.results65, go_sem]) rfl ?_
        exact ⟨by rw [HJ.out]; rfl, BEL.out⟩
      have HJ : Hid (joinB ⟨pu, pk, pa, pc, pe, tg⟩ t = true) := Lib.hid ((joinB_iff pu pk pa pc pe tg t).2 ⟨h1, h2, h3, by omega, by rw [HC.out, HM.out]; omega⟩)
      clear h1 h2 h3
      go_wp2
      (try simp only [Exit.inBlock, Exit.then])
      refine bodyPost_ret (v := .tuple #[.int .i64 (pc), .bool true]) (by simp [results, Tryz.results65, go_sem]) rfl ?_
      exact ⟨by rw [HJ.out, HC.out]; rfl, BEL.out⟩
    · have HC : Hid (cntJ ⟨pu, pk, pa, pc, pe, tg⟩ t = t.ad + wd - pa) := Lib.hid (hcj.out _ (.inr ⟨by omega, rfl⟩))
      clear hcj
      by_cases h1 : pu = t.un
      case neg =>
        have HJ : Hid (joinB ⟨pu, pk, pa, pc, pe, tg⟩ t = false) := Lib.hid (joinB_no (fun h => h1 h.1))
        have f0 : (pu == t.un) = false := beq_false_of_ne h1
        have g0 : (pu != t.un) = true := by simpa using h1
        clear h1
        go_wp2
        (try simp only [Exit.inBlock, Exit.then])
        refine bodyPost_ret (v := .tuple #[.int .i64 (0), .bool false]) (by simp [results, Tryz.results65, go_sem]) rfl ?_
        exact ⟨by rw [HJ.out]; rfl, BEL.out⟩
      have f0 : (pu == t.un) = true := by simp [h1]
      have g0 : (pu != t.un) = false := by simp [h1]
      by_cases h2 : pe = t.ev
      case neg =>
        have HJ : Hid (joinB ⟨pu, pk, pa, pc, pe, tg⟩ t = false) := Lib.hid (joinB_no (fun h => h2 h.2.1))
        have f1 : (pe == t.ev) = false := beq_false_of_ne h2
        have g1 : (pe != t.ev) = true := by simpa using h2
        clear h1 h2
        go_wp2
        (try simp only [Exit.inBlock, Exit.then])
        refine bodyPost_ret (v := .tuple #[.int .i64 (0), .bool false]) (by simp [results, Tryz.results65, go_sem]) rfl ?_
        exact ⟨by rw [HJ.out]; rfl, BEL.out⟩
      have f1 : (pe == t.ev) = true := by simp [h2]
      have g1 : (pe != t.ev) = false := by simp [h2]
      by_cases h3 : pk = t.ki
      case neg =>
        have HJ : Hid (joinB ⟨pu, pk, pa, pc, pe, tg⟩ t = false) := Lib.hid (joinB_no (fun h => h3 h.2.2.1))
        have f2 : (pk == t.ki) = false := beq_false_of_ne h3
        have g2 : (pk != t.ki) = true := by simpa using h3
        clear h1 h2 h3
        go_wp2
        (try simp only [Exit.inBlock, Exit.then])
        refine bodyPost_ret (v := .tuple #[.int .i64 (0), .bool false]) (by simp [results, Tryz.results65, go_sem]) rfl ?_
        exact ⟨by rw [HJ.out]; rfl, BEL.out⟩
      have f2 : (pk == t.ki) = true := by simp [h3]
      have g2 : (pk != t.ki) = false := by simp [h3]
      by_cases h4 : t.ad - 8 > pa + pc
      case pos =>
        have HJ : Hid (joinB ⟨pu, pk, pa, pc, pe, tg⟩ t = false) := Lib.hid (joinB_no (fun h => by have := h.2.2.2.1; omega))
        clear h1 h2 h3
        go_wp2
        (try simp only [Exit.inBlock, Exit.then])
        refine bodyPost_ret (v := .tuple #[.int .i64 (0), .bool false]) (by simp [results, Tryz.results65, go_sem]) rfl ?_
        exact ⟨by rw [HJ.out]; rfl, BEL.out⟩
      by_cases h5 : t.ad + wd - pa > 2000
      case pos =>
        have HJ : Hid (joinB ⟨pu, pk, pa, pc, pe, tg⟩ t = false) := Lib.hid (joinB_no (fun h => by have := h.2.2.2.2; rw [HC.out, HM.out] at this; omega))
        clear h1 h2 h3
        go_wp2
        (try simp only [Exit.inBlock, Exit.then])
        refine bodyPost_ret (v := .tuple #[.int .i64 (0), .bool false]) (by simp [results, Tryz.results65, go_sem]) rfl ?_
        exact ⟨by rw [HJ.out]; rfl, BEL.out⟩
      have HJ : Hid (joinB ⟨pu, pk, pa, pc, pe, tg⟩ t = true) := Lib.hid ((joinB_iff pu pk pa pc pe tg t).2 ⟨h1, h2, h3, by omega, by rw [HC.out, HM.out]; omega⟩)
      clear h1 h2 h3
      go_wp2
      (try simp only [Exit.inBlock, Exit.then])
      refine bodyPost_ret (v := .tuple #[.int .i64 (t.ad + wd - pa), .bool true]) (by simp [results, Tryz.results65, go_sem]) rfl ?_
      exact ⟨by rw [HJ.out, HC.out]; rfl, BEL.out⟩
  · go_enter Tryz.func65, Tryz.ntmps65
    go_wp2
    clear a0 a1 a2 a3 a4 p0 p1 p2 p3 p4 p5
    have HK := HK0
    clear HK0
    generalize (w.alloc (.cells #[.int .i64 pu, .int .i64 pk, .int .i64 pa, .int .i64 pc, .int .i64 pe, .slice Pt pn pm] 25)).alloc (.cells (tgC t).toArray 51) = w0 at *
    have belh : ∀ w9 : World, (Below w0.heap.size w0 w9 ∧ w9.cell? ⟨w.heap.size + 1, 3, none⟩ = some (.int .i64 t.ad) ∧ (ldTag (.pointer (some ⟨w.heap.size + 1, 0, none⟩))).run Tryz.prog w9 = .ok (tgV t) w9 ∧ w9.cell? ⟨w.heap.size, 2, none⟩ = some (.int .i64 pa)) → Below w0.heap.size w0 w9 := fun w9 h => h.1
    go_region_held3 (fun w9 => Below w0.heap.size w0 w9 ∧ w9.cell? ⟨w.heap.size + 1, 3, none⟩ = some (.int .i64 t.ad) ∧ (ldTag (.pointer (some ⟨w.heap.size + 1, 0, none⟩))).run Tryz.prog w9 = .ok (tgV t) w9 ∧ w9.cell? ⟨w.heap.size, 2, none⟩ = some (.int .i64 pa))
      ((refine HK.out _ ?_
        repeat' (first
          | with_reducible exact Below.refl _ _
          | with_reducible exact bel5
          | with_reducible exact belh _ (by assumption)
          | with_reducible apply below_drew
          | with_reducible apply below_drewN
          | fail)))
      (first
        | (go_at_call 61; refine (HW.out _).mono ?_; rintro e w5 ⟨rfl, b5⟩; have bel5 : Below w0.heap.size w0 w5 := Below.trans (belh _ (by assumption)) (b5.mono (Below.size (belh _ (by assumption)))))
        | fail)
    have h5 := keepB bel5 hx1
    have h6 := keepB bel5 hx0
    have BEL := Lib.hid (bel0.trans (bel5.mono bel0.size))
    clear HK belh bel5 hx0 hx1 bel0 HW
    obtain ⟨a0, a1, a2, a3, a4⟩ := tgBox h5
    obtain ⟨p0, p1, p2, p3, p4, p5⟩ := of6 h6
    clear h5 h6
    by_cases hc : t.ad + wd - pa < pc
    · have HC : Hid (cntJ ⟨pu, pk, pa, pc, pe, tg⟩ t = pc) := Lib.hid (hcj.out _ (.inl ⟨by omega, rfl⟩))
      clear hcj
      by_cases h1 : pu = t.un
      case neg =>
        have HJ : Hid (joinB ⟨pu, pk, pa, pc, pe, tg⟩ t = false) := Lib.hid (joinB_no (fun h => h1 h.1))
        have f0 : (pu == t.un) = false := beq_false_of_ne h1
        have g0 : (pu != t.un) = true := by simpa using h1
        clear h1
        go_wp2
        (try simp only [Exit.inBlock, Exit.then])
        refine bodyPost_ret (v := .tuple #[.int .i64 (0), .bool false]) (by simp [results, Tryz.results65, go_sem]) rfl ?_
        exact ⟨by rw [HJ.out]; rfl, BEL.out⟩
      have f0 : (pu == t.un) = true := by simp [h1]
      have g0 : (pu != t.un) = false := by simp [h1]
      by_cases h2 : pe = t.ev
      case neg =>
        have HJ : Hid (joinB ⟨pu, pk, pa, pc, pe, tg⟩ t = false) := Lib.hid (joinB_no (fun h => h2 h.2.1))
        have f1 : (pe == t.ev) = false := beq_false_of_ne h2
        have g1 : (pe != t.ev) = true := by simpa using h2
        clear h1 h2
        go_wp2
        (try simp only [Exit.inBlock, Exit.then])
        refine bodyPost_ret (v := .tuple #[.int .i64 (0), .bool false]) (by simp [results, Tryz.results65, go_sem]) rfl ?_
        exact ⟨by rw [HJ.out]; rfl, BEL.out⟩
      have f1 : (pe == t.ev) = true := by simp [h2]
      have g1 : (pe != t.ev) = false := by simp [h2]
      by_cases h3 : pk = t.ki
      case neg =>
        have HJ : Hid (joinB ⟨pu, pk, pa, pc, pe, tg⟩ t = false) := Lib.hid (joinB_no (fun h => h3 h.2.2.1))
        have f2 : (pk == t.ki) = false := beq_false_of_ne h3
        have g2 : (pk != t.ki) = true := by simpa using h3
        clear h1 h2 h3
        go_wp2
        (try simp only [Exit.inBlock, Exit.then])
        refine bodyPost_ret (v := .tuple #[.int .i64 (0), .bool false]) (by simp [results, Tryz.results65, go_sem]) rfl ?_
        exact ⟨by rw [HJ.out]; rfl, BEL.out⟩
      have f2 : (pk == t.ki) = true := by simp [h3]
      have g2 : (pk != t.ki) = false := by simp [h3]
      have h4 : ¬ t.ad - 8 > pa + pc := by omega
      by_cases h5 : pc > 2000
      case pos =>
        have HJ : Hid (joinB ⟨pu, pk, pa, pc, pe, tg⟩ t = false) := Lib.hid (joinB_no (fun h => by have := h.2.2.2.2; rw [HC.out, HM.out] at this; omega))
        clear h1 h2 h3
        go_wp2
        (try simp only [Exit.inBlock, Exit.then])
        refine bodyPost_ret (v := .tuple #[.int .i64 (0), .bool false]) (by simp [results, Tryz.results65, go_sem]) rfl ?_
        exact ⟨by rw [HJ.out]; rfl, BEL.out⟩
      have HJ : Hid (joinB ⟨pu, pk, pa, pc, pe, tg⟩ t = true) := Lib.hid ((joinB_iff pu pk pa pc pe tg t).2 ⟨h1, h2, h3, by omega, by rw [HC.out, HM.out]; omega⟩)
      clear h1 h2 h3
      go_wp2
      (try simp only [Exit.inBlock, Exit.then])
      refine bodyPost_ret (v := .tuple #[.int .i64 (pc), .bool true]) (by simp [results, Tryz.results65, go_sem]) rfl ?_
      exact ⟨by rw [HJ.out, HC.out]; rfl, BEL.out⟩
    · have HC : Hid (cntJ ⟨pu, pk, pa, pc, pe, tg⟩ t = t.ad + wd - pa) := Lib.hid (hcj.out _ (.inr ⟨by omega, rfl⟩))
      clear hcj
      by_cases h1 : pu = t.un
      case neg =>
        have HJ : Hid (joinB ⟨pu, pk, pa, pc, pe, tg⟩ t = false) := Lib.hid (joinB_no (fun h => h1 h.1))
        have f0 : (pu == t.un) = false := beq_false_of_ne h1
        have g0 : (pu != t.un) = true := by simpa using h1
        clear h1
        go_wp2
        (try simp only [Exit.inBlock, Exit.then])
        refine bodyPost_ret (v := .tuple #[.int .i64 (0), .bool false]) (by simp [results, Tryz.results65, go_sem]) rfl ?_
        exact ⟨by rw [HJ.out]; rfl, BEL.out⟩
      have f0 : (pu == t.un) = true := by simp [h1]
      have g0 : (pu != t.un) = false := by simp [h1]
      by_cases h2 : pe = t.ev
      case neg =>
        have HJ : Hid (joinB ⟨pu, pk, pa, pc, pe, tg⟩ t = false) := Lib.hid (joinB_no (fun h => h2 h.2.1))
        have f1 : (pe == t.ev) = false := beq_false_of_ne h2
        have g1 : (pe != t.ev) = true := by simpa using h2
        clear h1 h2
        go_wp2
        (try simp only [Exit.inBlock, Exit.then])
        refine bodyPost_ret (v := .tuple #[.int .i64 (0), .bool false]) (by simp [results, Tryz.results65, go_sem]) rfl ?_
        exact ⟨by rw [HJ.out]; rfl, BEL.out⟩
      have f1 : (pe == t.ev) = true := by simp [h2]
      have g1 : (pe != t.ev) = false := by simp [h2]
      by_cases h3 : pk = t.ki
      case neg =>
        have HJ : Hid (joinB ⟨pu, pk, pa, pc, pe, tg⟩ t = false) := Lib.hid (joinB_no (fun h => h3 h.2.2.1))
        have f2 : (pk == t.ki) = false := beq_false_of_ne h3
        have g2 : (pk != t.ki) = true := by simpa using h3
        clear h1 h2 h3
        go_wp2
        (try simp only [Exit.inBlock, Exit.then])
        refine bodyPost_ret (v := .tuple #[.int .i64 (0), .bool false]) (by simp [results, Tryz.results65, go_sem]) rfl ?_
        exact ⟨by rw [HJ.out]; rfl, BEL.out⟩
      have f2 : (pk == t.ki) = true := by simp [h3]
      have g2 : (pk != t.ki) = false := by simp [h3]
      by_cases h4 : t.ad - 8 > pa + pc
      case pos =>
        have HJ : Hid (joinB ⟨pu, pk, pa, pc, pe, tg⟩ t = false) := Lib.hid (joinB_no (fun h => by have := h.2.2.2.1; omega))
        clear h1 h2 h3
        go_wp2
        (try simp only [Exit.inBlock, Exit.then])
        refine bodyPost_ret (v := .tuple #[.int .i64 (0), .bool false]) (by simp [results, Tryz.results65, go_sem]) rfl ?_
        exact ⟨by rw [HJ.out]; rfl, BEL.out⟩
      by_cases h5 : t.ad + wd - pa > 2000
      case pos =>
        have HJ : Hid (joinB ⟨pu, pk, pa, pc, pe, tg⟩ t = false) := Lib.hid (joinB_no (fun h => by have := h.2.2.2.2; rw [HC.out, HM.out] at this; omega))
        clear h1 h2 h3
        go_wp2
        (try simp only [Exit.inBlock, Exit.then])
        refine bodyPost_ret (v := .tuple #[.int .i64 (0), .bool false]) (by simp [results, Tryz.results65, go_sem]) rfl ?_
        exact ⟨by rw [HJ.out]; rfl, BEL.out⟩
      have HJ : Hid (joinB ⟨pu, pk, pa, pc, pe, tg⟩ t = true) := Lib.hid ((joinB_iff pu pk pa pc pe tg t).2 ⟨h1, h2, h3, by omega, by rw [HC.out, HM.out]; omega⟩)
      clear h1 h2 h3
      go_wp2
      (try simp only [Exit.inBlock, Exit.then])
      refine bodyPost_ret (v := .tuple #[.int .i64 (t.ad + wd - pa), .bool true]) (by simp [results, Tryz.results65, go_sem]) rfl ?_
      exact ⟨by rw [HJ.out, HC.out]; rfl, BEL.out⟩
  · go_enter Tryz.func65, Tryz.ntmps65
    go_wp2
    clear a0 a1 a2 a3 a4 p0 p1 p2 p3 p4 p5
    have HK := HK0
    clear HK0
    generalize (w.alloc (.cells #[.int .i64 pu, .int .i64 pk, .int .i64 pa, .int .i64 pc, .int .i64 pe, .slice Pt pn pm] 25)).alloc (.cells (tgC t).toArray 51) = w0 at *
    have belh : ∀ w9 : World, (Below w0.heap.size w0 w9 ∧ w9.cell? ⟨w.heap.size + 1, 3, none⟩ = some (.int .i64 t.ad) ∧ (ldTag (.pointer (some ⟨w.heap.size + 1, 0, none⟩))).run Tryz.prog w9 = .ok (tgV t) w9 ∧ w9.cell? ⟨w.heap.size, 2, none⟩ = some (.int .i64 pa)) → Below w0.heap.size w0 w9 := fun w9 h => h.1
    go_region_held3 (fun w9 => Below w0.heap.size w0 w9 ∧ w9.cell? ⟨w.heap.size + 1, 3, none⟩ = some (.int .i64 t.ad) ∧ (ldTag (.pointer (some ⟨w.heap.size + 1, 0, none⟩))).run Tryz.prog w9 = .ok (tgV t) w9 ∧ w9.cell? ⟨w.heap.size, 2, none⟩ = some (.int .i64 pa))
      ((refine HK.out _ ?_
        repeat' (first
          | with_reducible exact Below.refl _ _
          | with_reducible exact bel5
          | with_reducible exact belh _ (by assumption)
          | with_reducible apply below_drew
          | with_reducible apply below_drewN
          | fail)))
      (first
        | (go_at_call 61; refine (HW.out _).mono ?_; rintro e w5 ⟨rfl, b5⟩; have bel5 : Below w0.heap.size w0 w5 := Below.trans (belh _ (by assumption)) (b5.mono (Below.size (belh _ (by assumption)))))
        | fail)
    have h5 := keepB bel5 hx1
    have h6 := keepB bel5 hx0
    have BEL := Lib.hid (bel0.trans (bel5.mono bel0.size))
    clear HK belh bel5 hx0 hx1 bel0 HW
    obtain ⟨a0, a1, a2, a3, a4⟩ := tgBox h5
    obtain ⟨p0, p1, p2, p3, p4, p5⟩ := of6 h6
    clear h5 h6
    by_cases hc : t.ad + wd - pa < pc
    · have HC : Hid (cntJ ⟨pu, pk, pa, pc, pe, tg⟩ t = pc) := Lib.hid (hcj.out _ (.inl ⟨by omega, rfl⟩))
      clear hcj
      by_cases h1 : pu = t.un
      case neg =>
        have HJ : Hid (joinB ⟨pu, pk, pa, pc, pe, tg⟩ t = false) := Lib.hid (joinB_no (fun h => h1 h.1))
        have f0 : (pu == t.un) = false := beq_false_of_ne h1
        have g0 : (pu != t.un) = true := by simpa using h1
        clear h1
        go_wp2
        (try simp only [Exit.inBlock, Exit.then])
        refine bodyPost_ret (v := .tuple #[.int .i64 (0), .bool false]) (by simp [results, Tryz.results65, go_sem]) rfl ?_
        exact ⟨by rw [HJ.out]; rfl, BEL.out⟩
      have f0 : (pu == t.un) = true := by simp [h1]
      have g0 : (pu != t.un) = false := by simp [h1]
      by_cases h2 : pe = t.ev
      case neg =>
        have HJ : Hid (joinB ⟨pu, pk, pa, pc, pe, tg⟩ t = false) := Lib.hid (joinB_no (fun h => h2 h.2.1))
        have f1 : (pe == t.ev) = false := beq_false_of_ne h2
        have g1 : (pe != t.ev) = true := by simpa using h2
        clear h1 h2
        go_wp2
        (try simp only [Exit.inBlock, Exit.then])
        refine bodyPost_ret (v := .tuple #[.int .i64 (0), .bool false]) (by simp [results, Tryz.results65, go_sem]) rfl ?_
        exact ⟨by rw [HJ.out]; rfl, BEL.out⟩
      have f1 : (pe == t.ev) = true := by simp [h2]
      have g1 : (pe != t.ev) = false := by simp [h2]
      by_cases h3 : pk = t.ki
      case neg =>
        have HJ : Hid (joinB ⟨pu, pk, pa, pc, pe, tg⟩ t = false) := Lib.hid (joinB_no (fun h => h3 h.2.2.1))
        have f2 : (pk == t.ki) = false := beq_false_of_ne h3
        have g2 : (pk != t.ki) = true := by simpa using h3
        clear h1 h2 h3
        go_wp2
        (try simp only [Exit.inBlock, Exit.then])
        refine bodyPost_ret (v := .tuple #[.int .i64 (0), .bool false]) (by simp [results, Tryz.results65, go_sem]) rfl ?_
        exact ⟨by rw [HJ.out]; rfl, BEL.out⟩
      have f2 : (pk == t.ki) = true := by simp [h3]
      have g2 : (pk != t.ki) = false := by simp [h3]
      have h4 : ¬ t.ad - 8 > pa + pc := by omega
      by_cases h5 : pc > 125
      case pos =>
        have HJ : Hid (joinB ⟨pu, pk, pa, pc, pe, tg⟩ t = false) := Lib.hid (joinB_no (fun h => by have := h.2.2.2.2; rw [HC.out, HM.out] at this; omega))
        clear h1 h2 h3
        go_wp2
        (try simp only [Exit.inBlock, Exit.then])
        refine bodyPost_ret (v := .tuple #[.int .i64 (0), .bool false]) (by simp [results, Tryz.results65, go_sem]) rfl ?_
        exact ⟨by rw [HJ.out]; rfl, BEL.out⟩
      have HJ : Hid (joinB ⟨pu, pk, pa, pc, pe, tg⟩ t = true) := Lib.hid ((joinB_iff pu pk pa pc pe tg t).2 ⟨h1, h2, h3, by omega, by rw [HC.out, HM.out]; omega⟩)
      clear h1 h2 h3
      go_wp2
      (try simp only [Exit.inBlock, Exit.then])
      refine bodyPost_ret (v := .tuple #[.int .i64 (pc), .bool true]) (by simp [results, Tryz.results65, go_sem]) rfl ?_
      exact ⟨by rw [HJ.out, HC.out]; rfl, BEL.out⟩
    · have HC : Hid (cntJ ⟨pu, pk, pa, pc, pe, tg⟩ t = t.ad + wd - pa) := Lib.hid (hcj.out _ (.inr ⟨by omega, rfl⟩))
      clear hcj
      by_cases h1 : pu = t.un
      case neg =>
        have HJ : Hid (joinB ⟨pu, pk, pa, pc, pe, tg⟩ t = false) := Lib.hid (joinB_no (fun h => h1 h.1))
        have f0 : (pu == t.un) = false := beq_false_of_ne h1
        have g0 : (pu != t.un) = true := by simpa using h1
        clear h1
        go_wp2
        (try simp only [Exit.inBlock, Exit.then])
        refine bodyPost_ret (v := .tuple #[.int .i64 (0), .bool false]) (by simp [results, Tryz.results65, go_sem]) rfl ?_
        exact ⟨by rw [HJ.out]; rfl, BEL.out⟩
      have f0 : (pu == t.un) = true := by simp [h1]
      have g0 : (pu != t.un) = false := by simp [h1]
      by_cases h2 : pe = t.ev
      case neg =>
        have HJ : Hid (joinB ⟨pu, pk, pa, pc, pe, tg⟩ t = false) := Lib.hid (joinB_no (fun h => h2 h.2.1))
        have f1 : (pe == t.ev) = false := beq_false_of_ne h2
        have g1 : (pe != t.ev) = true := by simpa using h2
        clear h1 h2
        go_wp2
        (try simp only [Exit.inBlock, Exit.then])
        refine bodyPost_ret (v := .tuple #[.int .i64 (0), .bool false]) (by simp [results, Tryz.results65, go_sem]) rfl ?_
        exact ⟨by rw [HJ.out]; rfl, BEL.out⟩
      have f1 : (pe == t.ev) = true := by simp [h2]
      have g1 : (pe != t.ev) = false := by simp [h2]
      by_cases h3 : pk = t.ki
      case neg =>
        have HJ : Hid (joinB ⟨pu, pk, pa, pc, pe, tg⟩ t = false) := Lib.hid (joinB_no (fun h => h3 h.2.2.1))
        have f2 : (pk == t.ki) = false := beq_false_of_ne h3
        have g2 : (pk != t.ki) = true := by simpa using h3
        clear h1 h2 h3
        go_wp2
        (try simp only [Exit.inBlock, Exit.then])
        refine bodyPost_ret (v := .tuple #[.int .i64 (0), .bool false]) (by simp [results, Tryz.results65, go_sem]) rfl ?_
        exact ⟨by rw [HJ.out]; rfl, BEL.out⟩
      have f2 : (pk == t.ki) = true := by simp [h3]
      have g2 : (pk != t.ki) = false := by simp [h3]
      by_cases h4 : t.ad - 8 > pa + pc
      case pos =>
        have HJ : Hid (joinB ⟨pu, pk, pa, pc, pe, tg⟩ t = false) := Lib.hid (joinB_no (fun h => by have := h.2.2.2.1; omega))
        clear h1 h2 h3
        go_wp2
        (try simp only [Exit.inBlock, Exit.then])
        refine bodyPost_ret (v := .tuple #[.int .i64 (0), .bool false]) (by simp [results, Tryz.results65, go_sem]) rfl ?_
        exact ⟨by rw [HJ.out]; rfl, BEL.out⟩
      by_cases h5 : t.ad + wd - pa > 125
      case pos =>
        have HJ : Hid (joinB ⟨pu, pk, pa, pc, pe, tg⟩ t = false) := Lib.hid (joinB_no (fun h => by have := h.2.2.2.2; rw [HC.out, HM.out] at this; omega))
        clear h1 h2 h3
        go_wp2
        (try simp only [Exit.inBlock, Exit.then])
        refine bodyPost_ret (v := .tuple #[.int .i64 (0), .bool false]) (by simp [results, Tryz.results65, go_sem]) rfl ?_
        exact ⟨by rw [HJ.out]; rfl, BEL.out⟩
      have HJ : Hid (joinB ⟨pu, pk, pa, pc, pe, tg⟩ t = true) := Lib.hid ((joinB_iff pu pk pa pc pe tg t).2 ⟨h1, h2, h3, by omega, by rw [HC.out, HM.out]; omega⟩)
      clear h1 h2 h3
      go_wp2
      (try simp only [Exit.inBlock, Exit.then])
      refine bodyPost_ret (v := .tuple #[.int .i64 (t.ad + wd - pa), .bool true]) (by simp [results, Tryz.results65, go_sem]) rfl ?_
      exact ⟨by rw [HJ.out, HC.out]; rfl, BEL.out⟩
end Go.Proofs.YtcmbdhmhkfhjfaaGreat
namespace Go.Proofs.YtcmbdhmhkfhjfaaGreat
open Go.RowKit
set_option linter.unusedVariables false

theorem nearest_pos (a b : Int) (h0 : 0 ≤ a) (ha : a ≤ 4294967295000000) (hb : 1 ≤ b) (hb2 : b ≤ 1000000) (w : World) : Calls Tryz.prog 85 #[.int .i64 a, .int .i64 b] w fun e w' => e = .returned (.int .i64 (near a b)) ∧ w' = w := by
  have hn : Hid (near a b = (2 * a + b) / (2 * b)) := Lib.hid (by unfold near; rw [if_neg (by omega)])
  have hq : Hid ((2 * a + b).tdiv (2 * b) = (2 * a + b) / (2 * b)) := Lib.hid (Int.tdiv_eq_ediv_of_nonneg (by omega))
  have hlt : ¬ a < 0 := by omega
  go_enter Tryz.func85, Tryz.ntmps85
  go_wp2
  go_ret
  exact ⟨by rw [hn.out]; rfl, rfl⟩
theorem nearest_any (a b : Int) (ha : -4294967295000000 ≤ a ∧ a ≤ 4294967295000000) (hb : 1 ≤ b) (hb2 : b ≤ 1000000) (w : World) : Calls Tryz.prog 85 #[.int .i64 a, .int .i64 b] w fun e w' => e = .returned (.int .i64 (near a b)) ∧ w' = w := by
  by_cases hlt : a < 0
  · have hn : Hid (near a b = -near (-a) b) := Lib.hid (by rw [near_neg a b (by omega), Int.neg_neg])
    have hbd := near_bound (a := -a) (b := b) (by omega) (by omega)
    go_enter Tryz.func85, Tryz.ntmps85
    go_wp2_with (go_at_call 85; refine (nearest_pos (-a) b (by omega) (by omega) hb hb2 _).mono ?_; rintro e w' ⟨rfl, rfl⟩)
    go_ret
    exact ⟨by rw [hn.out]; rfl, rfl⟩
  · exact nearest_pos a b (by omega) ha.2 hb hb2 w
theorem refNearest_any (a b : Int) (ha : -4294967295000000 ≤ a ∧ a ≤ 4294967295000000) (hb : 1 ≤ b) (hb2 : b ≤ 1000000) (w : World) : Calls Tryz.prog 97 #[.int .i64 a, .int .i64 b] w fun e w' => e = .returned (.int .i64 (near a b)) ∧ w' = w := by
  have hn := Lib.hid (near_ref a b (by omega))
  have hr1 := Int.tmod_lt_of_pos a (by omega : 0 < b)
  have hr2 : -b < a.tmod b := by
    have := Int.tmod_lt_of_pos (-a) (by omega : 0 < b)
    rw [Int.neg_tmod] at this; omega
  have hq : -4294967295000000 ≤ a.tdiv b ∧ a.tdiv b ≤ 4294967295000000 := by
    have h1 := Int.natAbs_tdiv_le_natAbs a b
    omega
  obtain ⟨q, hqq⟩ : ∃ q, Hid (a.tdiv b = q) := ⟨_, Lib.hid rfl⟩
  obtain ⟨r, hrr⟩ : ∃ r, Hid (a.tmod b = r) := ⟨_, Lib.hid rfl⟩
  have eq1 := hqq.out
  have er1 := hrr.out
  rw [hqq.out] at hq
  rw [hrr.out] at hr1 hr2
  have hn2 : Hid (near a b = if b ≤ 2 * r then q + 1 else if 2 * r ≤ -b then q - 1 else q) := Lib.hid (by rw [hn.out, hqq.out, hrr.out])
  clear hn
  by_cases h1 : b ≤ 2 * r
  · have hn3 : Hid (near a b = q + 1) := Lib.hid (by rw [hn2.out, if_pos h1])
    go_enter Tryz.func97, Tryz.ntmps97
    go_wp2
    go_ret
    exact ⟨by rw [hn3.out]; rfl, rfl⟩
  by_cases h2 : 2 * r ≤ -b
  · have hn3 : Hid (near a b = q - 1) := Lib.hid (by rw [hn2.out, if_neg h1, if_pos h2])
    go_enter Tryz.func97, Tryz.ntmps97
    go_wp2
    go_ret
    exact ⟨by rw [hn3.out]; rfl, rfl⟩
  · have hn3 : Hid (near a b = q) := Lib.hid (by rw [hn2.out, if_neg h1, if_neg h2])
    go_enter Tryz.func97, Tryz.ntmps97
    go_wp2
    go_ret
    exact ⟨by rw [hn3.out]; rfl, rfl⟩
theorem refNearest_q {a b q : Int} (ha : -4294967295000000 ≤ a ∧ a ≤ 4294967295000000) (hb : 1 ≤ b ∧ b ≤ 1000000) (hq : Hid (near a b = q)) (w : World) : Calls Tryz.prog 97 #[.int .i64 a, .int .i64 b] w fun e w' => e = .returned (.int .i64 q) ∧ w' = w := by
  rw [← hq.out]; exact refNearest_any a b ha hb.1 hb.2 w

set_option maxHeartbeats 1000000 in
theorem Value_any (wd sg sw : Bool) (mu di ad : Int) (n : Int) (w : World) : Calls Tryz.prog 55 #[.agg #[.bool wd, .bool sg, .bool sw, .int .i64 mu, .int .i64 di, .int .i64 ad], .int .i64 n] w fun e w' => e = .returned (.tuple #[.int .i64 (valN (⟨wd, sg, sw, mu, di, ad⟩ : Sc) n), .int .i64 (valE (⟨wd, sg, sw, mu, di, ad⟩ : Sc) n)]) ∧ Below w.heap.size w w' := by
  have bx0 := Bx.new w (.cells #[.bool wd, .bool sg, .bool sw, .int .i64 mu, .int .i64 di, .int .i64 ad] 45)
  by_cases hok : Sc.Ok (⟨wd, sg, sw, mu, di, ad⟩ : Sc)
  · have HC := Lib.hid (chkS_yes hok)
    obtain ⟨g0, g1, g2, g3, g4⟩ := hok
    simp only at g0 g1 g2 g3
    by_cases hin : -2147483648 ≤ n ∧ n ≤ 4294967295
    · have HE : Hid (valE (⟨wd, sg, sw, mu, di, ad⟩ : Sc) n = 0) := Lib.hid (by unfold valE; rw [if_pos ⟨g0, g1, g2, g3, g4⟩, if_pos hin])
      have HV : Hid (valN (⟨wd, sg, sw, mu, di, ad⟩ : Sc) n = cut (near (n * mu) di + ad)) := Lib.hid (by unfold valN; rw [if_pos HE.out])
      have HB : Hid (liesB n (-2147483648) 4294967295 = true) := Lib.hid (decide_eq_true hin)
      have pb := prod_bound hin g1
      obtain ⟨p, hp⟩ : ∃ p, Hid (n * mu = p) := ⟨_, Lib.hid rfl⟩
      rw [hp.out] at pb HV
      have ep := hp.out
      have nb := near_bound (a := p) (b := di) (by omega) pb
      have hw1 : IntKind.i64.wrap (n * mu) = p := by rw [ep]; exact IntWalk.i64_in _ (by omega)
      clear g0
      go_enter Tryz.func55, Tryz.ntmps55
      go_wp2_with fail
      refine (Check6_any wd sg sw mu di ad _).mono ?_
      rintro e w1 ⟨rfl, b1⟩
      rw [HC.out]
      have bx1 := bx0.below b1
      obtain ⟨d0, d1, d2, d3, d4, d5⟩ := bx1.six
      have bel1 := bx1.2
      go_wp2_with fail
      refine (lies_at (by omega) HB _).mono ?_
      rintro e w2 ⟨rfl, rfl⟩
      go_wp2
      go_quiet ((go_at_call 85; refine Calls.quiet_of_same (nearest_any p di pb (by omega) (by omega) _)))
      go_wp2_with fail
      refine (bring_any _ _ _ _).mono ?_
      rintro e w3 ⟨rfl, rfl⟩
      go_wp2
      go_ret2
      exact ⟨by rw [HV.out, HE.out]; rfl, below_drewN bel1 _⟩
    · have HE : Hid (valE (⟨wd, sg, sw, mu, di, ad⟩ : Sc) n = 3) := Lib.hid (by unfold valE; rw [if_pos ⟨g0, g1, g2, g3, g4⟩, if_neg hin])
      have HV : Hid (valN (⟨wd, sg, sw, mu, di, ad⟩ : Sc) n = 0) := Lib.hid (by unfold valN; rw [if_neg (by rw [HE.out]; omega)])
      have HB : Hid (liesB n (-2147483648) 4294967295 = false) := Lib.hid (decide_eq_false hin)
      clear hin
      go_enter Tryz.func55, Tryz.ntmps55
      go_wp2_with fail
      refine (Check6_any wd sg sw mu di ad _).mono ?_
      rintro e w1 ⟨rfl, b1⟩
      rw [HC.out]
      have bx1 := bx0.below b1
      have bel1 := bx1.2
      go_wp2_with fail
      refine (lies_at (by omega) HB _).mono ?_
      rintro e w2 ⟨rfl, rfl⟩
      go_wp2
      go_ret2
      exact ⟨by rw [HV.out, HE.out]; rfl, bel1⟩
  · have HC := Lib.hid (chkS_no hok)
    have HE : Hid (valE (⟨wd, sg, sw, mu, di, ad⟩ : Sc) n = 25) := Lib.hid (by unfold valE; rw [if_neg hok])
    have HV : Hid (valN (⟨wd, sg, sw, mu, di, ad⟩ : Sc) n = 0) := Lib.hid (by unfold valN; rw [if_neg (by rw [HE.out]; omega)])
    clear hok
    go_enter Tryz.func55, Tryz.ntmps55
    go_wp2_with fail
    refine (Check6_any wd sg sw mu di ad _).mono ?_
    rintro e w1 ⟨rfl, b1⟩
    rw [HC.out]
    have bel1 := (bx0.below b1).2
    go_wp2
    go_ret2
    exact ⟨by rw [HV.out, HE.out]; rfl, bel1⟩

set_option maxHeartbeats 1000000 in
theorem refValue_any (wd sg sw : Bool) (mu di ad : Int) (n : Int) (w : World) : Calls Tryz.prog 63 #[.agg #[.bool wd, .bool sg, .bool sw, .int .i64 mu, .int .i64 di, .int .i64 ad], .int .i64 n] w fun e w' => e = .returned (.tuple #[.int .i64 (valN (⟨wd, sg, sw, mu, di, ad⟩ : Sc) n), .int .i64 (valE (⟨wd, sg, sw, mu, di, ad⟩ : Sc) n)]) ∧ Below w.heap.size w w' := by
  have bx0 := Bx.new w (.cells #[.bool wd, .bool sg, .bool sw, .int .i64 mu, .int .i64 di, .int .i64 ad] 45)
  by_cases hok : Sc.Ok (⟨wd, sg, sw, mu, di, ad⟩ : Sc)
  · have HC := Lib.hid (chkS_yes hok)
    obtain ⟨g0, g1, g2, g3, g4⟩ := hok
    simp only at g0 g1 g2 g3
    by_cases hlo : n < -2147483648
    · have HE : Hid (valE (⟨wd, sg, sw, mu, di, ad⟩ : Sc) n = 3) := Lib.hid (by unfold valE; rw [if_pos ⟨g0, g1, g2, g3, g4⟩, if_neg (by omega)])
      have HV : Hid (valN (⟨wd, sg, sw, mu, di, ad⟩ : Sc) n = 0) := Lib.hid (by unfold valN; rw [if_neg (by rw [HE.out]; omega)])
      go_enter Tryz.func63, Tryz.ntmps63
      go_wp2_with fail
      refine (refCheck6_any wd sg sw mu di ad _).mono ?_
      rintro e w1 ⟨rfl, b1⟩
      rw [HC.out]
      have bel1 := (bx0.below b1).2
      go_wp2
      go_ret2
      exact ⟨by rw [HV.out, HE.out]; rfl, bel1⟩
    by_cases hhi : 4294967295 < n
    · have HE : Hid (valE (⟨wd, sg, sw, mu, di, ad⟩ : Sc) n = 3) := Lib.hid (by unfold valE; rw [if_pos ⟨g0, g1, g2, g3, g4⟩, if_neg (by omega)])
      have HV : Hid (valN (⟨wd, sg, sw, mu, di, ad⟩ : Sc) n = 0) := Lib.hid (by unfold valN; rw [if_neg (by rw [HE.out]; omega)])
      go_enter Tryz.func63, Tryz.ntmps63
      go_wp2_with fail
      refine (refCheck6_any wd sg sw mu di ad _).mono ?_
      rintro e w1 ⟨rfl, b1⟩
      rw [HC.out]
      have bel1 := (bx0.below b1).2
      go_wp2
      go_ret2
      exact ⟨by rw [HV.out, HE.out]; rfl, bel1⟩
    have hin : -2147483648 ≤ n ∧ n ≤ 4294967295 := ⟨by omega, by omega⟩
    have HE : Hid (valE (⟨wd, sg, sw, mu, di, ad⟩ : Sc) n = 0) := Lib.hid (by unfold valE; rw [if_pos ⟨g0, g1, g2, g3, g4⟩, if_pos hin])
    have HV : Hid (valN (⟨wd, sg, sw, mu, di, ad⟩ : Sc) n = cut (near (n * mu) di + ad)) := Lib.hid (by unfold valN; rw [if_pos HE.out])
    have pb := prod_bound hin g1
    obtain ⟨p, hp⟩ : ∃ p, Hid (n * mu = p) := ⟨_, Lib.hid rfl⟩
    rw [hp.out] at pb HV
    have ep := hp.out
    have nb := near_bound (a := p) (b := di) (by omega) pb
    have hw1 : IntKind.i64.wrap (n * mu) = p := by rw [ep]; exact IntWalk.i64_in _ (by omega)
    obtain ⟨q, hq⟩ : ∃ q, Hid (near p di = q) := ⟨_, Lib.hid rfl⟩
    rw [hq.out] at nb HV
    clear g0 hp
    have common : ∀ z : Int, cut (q + ad) = z → Hid (valN (⟨wd, sg, sw, mu, di, ad⟩ : Sc) n = z) := fun z h => Lib.hid (HV.out.trans h)
    by_cases c1 : q + ad < -1099511627776
    · have HZ := common (-1099511627776) (by unfold cut; omega)
      clear common HV
      go_enter Tryz.func63, Tryz.ntmps63
      go_wp2_with fail
      refine (refCheck6_any wd sg sw mu di ad _).mono ?_
      rintro e w1 ⟨rfl, b1⟩
      rw [HC.out]
      have bx1 := bx0.below b1
      obtain ⟨d0, d1, d2, d3, d4, d5⟩ := bx1.six
      have bel1 := bx1.2
      go_wp2_with fail
      go_quiet ((go_at_call 97; refine Calls.quiet_of_same (refNearest_q pb g2 hq _)))
      go_wp2
      go_ret2
      exact ⟨by rw [HZ.out, HE.out]; rfl, below_drewN bel1 _⟩
    by_cases c2 : 1099511627776 < q + ad
    · have HZ := common 1099511627776 (by unfold cut; omega)
      clear common HV
      go_enter Tryz.func63, Tryz.ntmps63
      go_wp2_with fail
      refine (refCheck6_any wd sg sw mu di ad _).mono ?_
      rintro e w1 ⟨rfl, b1⟩
      rw [HC.out]
      have bx1 := bx0.below b1
      obtain ⟨d0, d1, d2, d3, d4, d5⟩ := bx1.six
      have bel1 := bx1.2
      go_wp2_with fail
      go_quiet ((go_at_call 97; refine Calls.quiet_of_same (refNearest_q pb g2 hq _)))
      go_wp2
      go_ret2
      exact ⟨by rw [HZ.out, HE.out]; rfl, below_drewN bel1 _⟩
    · have HZ := common (q + ad) (by unfold cut; omega)
      clear common HV
      go_enter Tryz.func63, Tryz.ntmps63
      go_wp2_with fail
      refine (refCheck6_any wd sg sw mu di ad _).mono ?_
      rintro e w1 ⟨rfl, b1⟩
      rw [HC.out]
      have bx1 := bx0.below b1
      obtain ⟨d0, d1, d2, d3, d4, d5⟩ := bx1.six
      have bel1 := bx1.2
      go_wp2_with fail
      go_quiet ((go_at_call 97; refine Calls.quiet_of_same (refNearest_q pb g2 hq _)))
      go_wp2
      go_ret2
      exact ⟨by rw [HZ.out, HE.out]; rfl, below_drewN bel1 _⟩
  · have HC := Lib.hid (chkS_no hok)
    have HE : Hid (valE (⟨wd, sg, sw, mu, di, ad⟩ : Sc) n = 25) := Lib.hid (by unfold valE; rw [if_neg hok])
    have HV : Hid (valN (⟨wd, sg, sw, mu, di, ad⟩ : Sc) n = 0) := Lib.hid (by unfold valN; rw [if_neg (by rw [HE.out]; omega)])
    clear hok
    go_enter Tryz.func63, Tryz.ntmps63
    go_wp2_with fail
    refine (refCheck6_any wd sg sw mu di ad _).mono ?_
    rintro e w1 ⟨rfl, b1⟩
    rw [HC.out]
    have bel1 := (bx0.below b1).2
    go_wp2
    go_ret2
    exact ⟨by rw [HV.out, HE.out]; rfl, bel1⟩
end Go.Proofs.YtcmbdhmhkfhjfaaGreat
namespace Go.Proofs.YtcmbdhmhkfhjfaaGreat
open Go.RowKit
set_option linter.unusedVariables false

theorem count_any (wd sg sw : Bool) (mu di ad : Int) (w : World) : Calls Tryz.prog 80 #[.agg #[.bool wd, .bool sg, .bool sw, .int .i64 mu, .int .i64 di, .int .i64 ad]] w fun e w' => e = .returned (.int .i64 (cntS (⟨wd, sg, sw, mu, di, ad⟩ : Sc) : Nat)) ∧ Below w.heap.size w w' := by
  have bel := bel_alloc w (.cells #[.bool wd, .bool sg, .bool sw, .int .i64 mu, .int .i64 di, .int .i64 ad] 45)
  cases wd
  all_goals
    go_enter Tryz.func80, Tryz.ntmps80
    go_wp2
    go_ret
    exact ⟨rfl, bel⟩
theorem span_any (wd sg sw : Bool) (mu di ad : Int) (w : World) : Calls Tryz.prog 83 #[.agg #[.bool wd, .bool sg, .bool sw, .int .i64 mu, .int .i64 di, .int .i64 ad]] w fun e w' => e = .returned (.int .i64 (many6 (⟨wd, sg, sw, mu, di, ad⟩ : Sc))) ∧ Below w.heap.size w w' := by
  have bx := Bx.new w (.cells #[.bool wd, .bool sg, .bool sw, .int .i64 mu, .int .i64 di, .int .i64 ad] 45)
  cases wd
  all_goals
    go_enter Tryz.func83, Tryz.ntmps83
    go_wp2_with fail
    refine (count_any _ _ _ _ _ _ _).mono ?_
    rintro e w1 ⟨rfl, b1⟩
    have bel := (bx.below b1).2
    simp only [cntS, if_true, Bool.false_eq_true, if_false]
    go_wp2
    go_ret
    exact ⟨rfl, bel⟩
theorem lowest_any (wd sg sw : Bool) (mu di ad : Int) (w : World) : Calls Tryz.prog 111 #[.agg #[.bool wd, .bool sg, .bool sw, .int .i64 mu, .int .i64 di, .int .i64 ad]] w fun e w' => e = .returned (.int .i64 (lowS (⟨wd, sg, sw, mu, di, ad⟩ : Sc))) ∧ Below w.heap.size w w' := by
  have bx := Bx.new w (.cells #[.bool wd, .bool sg, .bool sw, .int .i64 mu, .int .i64 di, .int .i64 ad] 45)
  cases sg
  · have bel := bx.2
    go_enter Tryz.func111, Tryz.ntmps111
    go_wp2
    go_ret
    exact ⟨rfl, bel⟩
  · cases wd
    all_goals
      go_enter Tryz.func111, Tryz.ntmps111
      go_wp2_with fail
      refine (span_any _ _ _ _ _ _ _).mono ?_
      rintro e w1 ⟨rfl, b1⟩
      have bel := (bx.below b1).2
      simp only [many6, if_true, Bool.false_eq_true, if_false]
      go_wp2
      go_ret
      exact ⟨rfl, bel⟩
theorem low_bound (wd sg sw : Bool) (mu di ad : Int) : -2147483648 ≤ lowS (⟨wd, sg, sw, mu, di, ad⟩ : Sc) ∧ lowS (⟨wd, sg, sw, mu, di, ad⟩ : Sc) ≤ 0 ∧ 65536 ≤ many6 (⟨wd, sg, sw, mu, di, ad⟩ : Sc) ∧ many6 (⟨wd, sg, sw, mu, di, ad⟩ : Sc) ≤ 4294967296 ∧ -lowS (⟨wd, sg, sw, mu, di, ad⟩ : Sc) ≤ many6 (⟨wd, sg, sw, mu, di, ad⟩ : Sc) := by
  cases wd <;> cases sg <;> simp [lowS, many6]
set_option maxHeartbeats 1000000 in
theorem highest_any (wd sg sw : Bool) (mu di ad : Int) (w : World) : Calls Tryz.prog 82 #[.agg #[.bool wd, .bool sg, .bool sw, .int .i64 mu, .int .i64 di, .int .i64 ad]] w fun e w' => e = .returned (.int .i64 (lowS (⟨wd, sg, sw, mu, di, ad⟩ : Sc) + many6 (⟨wd, sg, sw, mu, di, ad⟩ : Sc) - 1)) ∧ Below w.heap.size w w' := by
  have hx0 := Bx.new w (.cells #[.bool wd, .bool sg, .bool sw, .int .i64 mu, .int .i64 di, .int .i64 ad] 45)
  have hb := low_bound wd sg sw mu di ad
  obtain ⟨l, hl⟩ : ∃ l, Hid (lowS (⟨wd, sg, sw, mu, di, ad⟩ : Sc) = l) := ⟨_, Lib.hid rfl⟩
  obtain ⟨m, hm⟩ : ∃ m, Hid (many6 (⟨wd, sg, sw, mu, di, ad⟩ : Sc) = m) := ⟨_, Lib.hid rfl⟩
  rw [hl.out, hm.out] at hb ⊢
  have e1 : IntKind.i64.wrap (l + m) = l + m := IntWalk.i64_in _ (by omega)
  have e2 : IntKind.i64.wrap (l + m - 1) = l + m - 1 := IntWalk.i64_in _ (by omega)
  go_enter Tryz.func82, Tryz.ntmps82
  go_wp2_with fail
  go_region_held3 (fun w' => Bx w w.heap.size (.cells #[.bool wd, .bool sg, .bool sw, .int .i64 mu, .int .i64 di, .int .i64 ad] 45 (0, 0)) w' ∧ w'.cell? ⟨w.heap.size, 0, none⟩ = some (.bool wd) ∧ w'.cell? ⟨w.heap.size, 1, none⟩ = some (.bool sg) ∧ w'.cell? ⟨w.heap.size, 2, none⟩ = some (.bool sw) ∧ w'.cell? ⟨w.heap.size, 3, none⟩ = some (.int .i64 mu) ∧ w'.cell? ⟨w.heap.size, 4, none⟩ = some (.int .i64 di) ∧ w'.cell? ⟨w.heap.size, 5, none⟩ = some (.int .i64 ad))
    (with_reducible first
      | exact ⟨hx0.drew, hx0.drew.six⟩
      | exact ⟨h9, h9.six⟩
      | exact ⟨h10, h10.six⟩)
    (first
      | (go_at_call 111; refine (lowest_any wd sg sw mu di ad _).mono ?_; rintro e w1 ⟨rfl, b1⟩; rw [hl.out]; have h9 := hx0.drew.below b1)
      | (go_at_call 83; refine (span_any wd sg sw mu di ad _).mono ?_; rintro e w2 ⟨rfl, b2⟩; rw [hm.out]; have h10 := h9.below b2))
  have bel := h10.2
  go_wp2
  go_ret
  exact ⟨rfl, bel⟩
/-- How many6 bits of a number stand below those of a word. -/
def shfS (wd sw : Bool) (k : Nat) : Nat := if sw then 16 * k else if wd then 16 * (1 - k) else 0
theorem shift_any (wd sg sw : Bool) (mu di ad : Int) (k : Nat) (hk : k < cntS (⟨wd, sg, sw, mu, di, ad⟩ : Sc)) (w : World) : Calls Tryz.prog 81 #[.agg #[.bool wd, .bool sg, .bool sw, .int .i64 mu, .int .i64 di, .int .i64 ad], .int .i64 k] w fun e w' => e = .returned (.int .i64 (shfS wd sw k : Nat)) ∧ Below w.heap.size w w' := by
  have bx := Bx.new w (.cells #[.bool wd, .bool sg, .bool sw, .int .i64 mu, .int .i64 di, .int .i64 ad] 45)
  have hk2 : k < 2 := by cases wd <;> simp [cntS] at hk <;> omega
  cases sw
  · have hk1 : wd = false → k = 0 := fun h => by subst h; simp [cntS] at hk; omega
    obtain ⟨c, hc⟩ : ∃ c, Hid (cntS ⟨wd, sg, false, mu, di, ad⟩ = c) := ⟨_, Lib.hid rfl⟩
    have hs : Hid (shfS wd false k = 16 * (c - 1 - k) ∧ k < c ∧ c ≤ 2) := Lib.hid (by rw [← hc.out]; cases wd <;> simp [shfS, cntS, hk1] <;> omega)
    clear hk hk1
    have h1 := hs.out.2
    go_enter Tryz.func81, Tryz.ntmps81
    go_wp2_with fail
    refine (count_any _ _ _ _ _ _ _).mono ?_
    rintro e w1 ⟨rfl, b1⟩
    rw [hc.out]
    have bel := (bx.below b1).2
    go_wp2
    go_ret
    refine ⟨?_, bel⟩
    rw [hs.out.1]
    show Ending.returned (Value.int .i64 _) = Ending.returned (Value.int .i64 _)
    congr 2
    omega
  · have hs : Hid (shfS wd true k = 16 * k) := Lib.hid (if_pos rfl)
    have bel := bx.2
    clear hk
    go_enter Tryz.func81, Tryz.ntmps81
    go_wp2
    go_ret
    refine ⟨?_, bel⟩
    rw [hs.out]
    rfl
end Go.Proofs.YtcmbdhmhkfhjfaaGreat
namespace Go.Proofs.YtcmbdhmhkfhjfaaGreat
open Go.RowKit
set_option linter.unusedVariables false

theorem or_far (x y : Nat) (hy : y < 65536) : (x * 65536) ||| y = x * 65536 + y := by
  have h := Nat.two_pow_add_eq_or_of_lt (i := 16) (b := y) (by omega) x
  rw [Nat.mul_comm x 65536]
  exact h.symm
theorem or_words (x y : Int) (hx : 0 ≤ x ∧ x < 65536) (hy : 0 ≤ y ∧ y < 65536) : bits .or .i64 (x * 65536) y = x * 65536 + y ∧ bits .or .i64 y (x * 65536) = x * 65536 + y := by
  obtain ⟨a, rfl⟩ := Int.eq_ofNat_of_zero_le hx.1
  obtain ⟨b, rfl⟩ := Int.eq_ofNat_of_zero_le hy.1
  have e1 : (a : Int) * 65536 = ((a * 65536 : Nat) : Int) := by omega
  have f1 : (BitVec.ofInt 64 ((a * 65536 : Nat) : Int)).toNat = a * 65536 := by rw [BitVec.ofInt_natCast, BitVec.toNat_ofNat]; exact Nat.mod_eq_of_lt (by omega)
  have f2 : (BitVec.ofInt 64 ((b : Nat) : Int)).toNat = b := by rw [BitVec.ofInt_natCast, BitVec.toNat_ofNat]; exact Nat.mod_eq_of_lt (by omega)
  constructor
  · show IntKind.i64.wrap ((BitVec.ofInt 64 ((a : Int) * 65536) ||| BitVec.ofInt 64 (b : Int)).toNat : Int) = _
    rw [e1, BitVec.toNat_or, f1, f2, or_far a b (by omega)]
    exact IntWalk.i64_in _ (by omega)
  · show IntKind.i64.wrap ((BitVec.ofInt 64 (b : Int) ||| BitVec.ofInt 64 ((a : Int) * 65536)).toNat : Int) = _
    rw [e1, BitVec.toNat_or, f1, f2, Nat.or_comm, or_far a b (by omega)]
    exact IntWalk.i64_in _ (by omega)
theorem or_zero (x : Int) (hx : 0 ≤ x ∧ x < 4294967296) : bits .or .i64 0 x = x := by
  obtain ⟨a, rfl⟩ := Int.eq_ofNat_of_zero_le hx.1
  have f1 : (BitVec.ofInt 64 ((a : Nat) : Int)).toNat = a := by rw [BitVec.ofInt_natCast, BitVec.toNat_ofNat]; exact Nat.mod_eq_of_lt (by omega)
  have f0 : (BitVec.ofInt 64 (0 : Int)).toNat = 0 := rfl
  show IntKind.i64.wrap ((BitVec.ofInt 64 (0 : Int) ||| BitVec.ofInt 64 (a : Int)).toNat : Int) = _
  rw [BitVec.toNat_or, f1, f0, Nat.zero_or]
  exact IntWalk.i64_in _ (by omega)

theorem nth_wf (xs : List Int) (h : ∀ x ∈ xs, (Lit.int .u16 x).wf = true) (i : Nat) : 0 ≤ nth xs i ∧ nth xs i < 65536 := by
  by_cases hi : i < xs.length
  · exact wf_u16 (h _ (nth_mem xs i hi))
  · simp [nth, List.getD_eq_getElem?_getD, List.getElem?_eq_none (Nat.le_of_not_lt hi)]
/-- What Raw has gathered ahead of a word. -/
def accS (wd sw : Bool) (x y : Int) (k : Nat) : Int := if k = 0 then 0 else if wd then (if sw then (if k = 1 then x else y * 65536 + x) else (if k = 1 then x * 65536 else x * 65536 + y)) else x

theorem acc_step (wd sg sw : Bool) (mu di ad : Int) (x y : Int) (hx : 0 ≤ x ∧ x < 65536) (hy : 0 ≤ y ∧ y < 65536) (k : Nat) (hk : k < cntS (⟨wd, sg, sw, mu, di, ad⟩ : Sc)) (hsw : sw = true → wd = true) (z : Int) (hz : z = if k = 0 then x else y) :
    bits .or .i64 (accS wd sw x y k) (IntKind.i64.wrap (z * 2 ^ shfS wd sw k)) = accS wd sw x y (k + 1) := by
  have hk2 : k = 0 ∨ (k = 1 ∧ wd = true) := by cases wd <;> simp [cntS] at hk <;> simp <;> omega
  have w0 : ∀ v : Int, 0 ≤ v → v < 4294967296 → IntKind.i64.wrap v = v := fun v h1 h2 => IntWalk.i64_in _ (by omega)
  rcases hk2 with rfl | ⟨rfl, rfl⟩
  · have e0 : z = x := hz
    subst e0
    cases wd
    · cases sw
      · simp only [accS, shfS, if_true, Bool.false_eq_true, if_false, Nat.zero_add, Int.pow_zero, Int.mul_one, Nat.one_ne_zero]
        rw [w0 z hx.1 (by omega), or_zero z (by omega)]
      · cases hsw rfl
    · cases sw
      · simp only [accS, shfS, if_true, Bool.false_eq_true, if_false, Nat.zero_add, Nat.one_ne_zero]
        rw [show (2 : Int) ^ (16 * (1 - 0)) = 65536 from rfl, w0 _ (by omega) (by omega), or_zero _ (by omega)]
      · simp only [accS, shfS, if_true, Nat.zero_add, Nat.mul_zero, Int.pow_zero, Int.mul_one, Nat.one_ne_zero, if_false]
        rw [w0 z hx.1 (by omega), or_zero z (by omega)]
  · have e0 : z = y := hz
    subst e0
    cases sw
    · simp only [accS, shfS, if_true, Bool.false_eq_true, if_false, Nat.one_ne_zero, show (1 + 1 : Nat) ≠ 0 by omega, show (1 + 1 : Nat) ≠ 1 by omega]
      rw [show (2 : Int) ^ (16 * (1 - 1)) = 1 from rfl, Int.mul_one, w0 z hy.1 (by omega), (or_words x z hx hy).1]
    · simp only [accS, shfS, if_true, if_false, Nat.one_ne_zero, show (1 + 1 : Nat) ≠ 0 by omega, show (1 + 1 : Nat) ≠ 1 by omega]
      rw [show (2 : Int) ^ (16 * 1) = 65536 from rfl, w0 _ (by omega) (by omega), (or_words z x hy hx).2]
set_option maxHeartbeats 1000000 in
theorem Raw_any (wd sg sw : Bool) (mu di ad : Int) (A : Option Addr) (n c : Nat) (xs : List Int) (w : World) (hr : Row .u16 w w.heap.size A xs) (hn : xs.length = n) (hb : n ≤ 1000000) : Calls Tryz.prog 54 #[.agg #[.bool wd, .bool sg, .bool sw, .int .i64 mu, .int .i64 di, .int .i64 ad], .slice A n c] w fun e w' => e = .returned (.tuple #[.int .i64 (rawN (⟨wd, sg, sw, mu, di, ad⟩ : Sc) xs), .int .i64 (rawE (⟨wd, sg, sw, mu, di, ad⟩ : Sc) xs)]) ∧ Below w.heap.size w w' := by
  have bx0 := Bx.new w (.cells #[.bool wd, .bool sg, .bool sw, .int .i64 mu, .int .i64 di, .int .i64 ad] 45)
  by_cases hok : Sc.Ok (⟨wd, sg, sw, mu, di, ad⟩ : Sc)
  · have HC := Lib.hid (chkS_yes hok)
    have HN := Lib.hid hn
    by_cases hlen : n = cntS (⟨wd, sg, sw, mu, di, ad⟩ : Sc)
    · have HE : Hid (rawE (⟨wd, sg, sw, mu, di, ad⟩ : Sc) xs = 0) := Lib.hid (by unfold rawE; rw [if_pos hok, if_pos (by rw [HN.out]; exact hlen)])
      have HR : Hid (rawN (⟨wd, sg, sw, mu, di, ad⟩ : Sc) xs = signS (⟨wd, sg, sw, mu, di, ad⟩ : Sc) (baseS (⟨wd, sg, sw, mu, di, ad⟩ : Sc) xs)) := Lib.hid (by unfold rawN; rw [if_pos HE.out])
      have hlb := low_bound wd sg sw mu di ad
      have hsw : sw = true → wd = true := hok.2.2.2.2
      have HK := Lib.hid hlen
      have hn2 : n ≤ 2 ∧ 1 ≤ n := by rw [hlen]; cases wd <;> simp [cntS]
      obtain ⟨X, hX⟩ : ∃ X, Hid (nth xs 0 = X) := ⟨_, Lib.hid rfl⟩
      obtain ⟨Y, hY⟩ : ∃ Y, Hid (nth xs 1 = Y) := ⟨_, Lib.hid rfl⟩
      have hXb : 0 ≤ X ∧ X < 65536 := by rw [← hX.out]; exact nth_wf xs hr.1 0
      have hYb : 0 ≤ Y ∧ Y < 65536 := by rw [← hY.out]; exact nth_wf xs hr.1 1
      have HA : Hid (baseS (⟨wd, sg, sw, mu, di, ad⟩ : Sc) xs = accS wd sw X Y n) := Lib.hid (by
        rw [← hX.out, ← hY.out, hlen]
        cases wd <;> cases sw <;> first | rfl | (cases hsw rfl))
      obtain ⟨B, hB⟩ : ∃ B, Hid (accS wd sw X Y n = B) := ⟨_, Lib.hid rfl⟩
      have hBb : 0 ≤ B ∧ B < 4294967296 := by
        rw [← hB.out, hlen]; cases wd <;> cases sw <;> simp [accS, cntS] <;> omega
      have HS := Lib.hid (fun k (hk : k < n) z hz => acc_step wd sg sw mu di ad X Y hXb hYb k (by rw [← HK.out]; exact hk) hsw z hz)
      rw [HA.out, hB.out] at HR
      obtain ⟨lo, hlo⟩ : ∃ l, Hid (lowS (⟨wd, sg, sw, mu, di, ad⟩ : Sc) = l) := ⟨_, Lib.hid rfl⟩
      obtain ⟨m, hm⟩ : ∃ m, Hid (many6 (⟨wd, sg, sw, mu, di, ad⟩ : Sc) = m) := ⟨_, Lib.hid rfl⟩
      rw [hlo.out, hm.out] at hlb
      have HR2 : Hid (rawN (⟨wd, sg, sw, mu, di, ad⟩ : Sc) xs = if lo + m - 1 < B then B - m else B) := Lib.hid (by rw [HR.out, signS, hlo.out, hm.out])
      have t0 : ((n : Int) != ((cntS (⟨wd, sg, sw, mu, di, ad⟩ : Sc) : Nat) : Int)) = false := by rw [← HK.out]; simp
      obtain ⟨r1, r2, r3, r4, r5⟩ := hlb
      obtain ⟨k0, hk0⟩ : ∃ k, Hid (cntS (⟨wd, sg, sw, mu, di, ad⟩ : Sc) = k) := ⟨_, Lib.hid rfl⟩
      rw [hk0.out] at t0
      clear hok hn hlen HR HA
      have HROW := Lib.hid hr
      clear hr
      go_enter Tryz.func54, Tryz.ntmps54
      go_wp2_with fail
      refine (Check6_any wd sg sw mu di ad _).mono ?_
      rintro e w1 ⟨rfl, b1⟩
      rw [HC.out]
      have bx1 := bx0.below b1
      obtain ⟨d0, d1, d2, d3, d4, d5⟩ := bx1.six
      go_wp2_with fail
      refine (count_any wd sg sw mu di ad _).mono ?_
      rintro e w2 ⟨rfl, b2⟩
      rw [hk0.out]
      have bx2 := bx1.below b2
      clear d0 d1 d2 d3 d4 d5 b1 b2 bx0 bx1
      go_wp2
      go_loopw [7, 8, 9, 22] (fun a _ _ i wr => ∃ k : Nat, k ≤ n ∧ i = .int .i64 k ∧ a = .int .i64 (accS wd sw X Y k) ∧ Bx w w.heap.size (.cells #[.bool wd, .bool sg, .bool sw, .int .i64 mu, .int .i64 di, .int .i64 ad] 45 (0, 0)) wr) (fun _ _ _ i _ => n - (intOf i).toNat)
      case atStart => exact ⟨0, by omega, rfl, rfl, bx2⟩
      case round =>
        clear bx2
        obtain ⟨k, hk, rfl, rfl, bx3⟩ := hrel
        obtain ⟨d0, d1, d2, d3, d4, d5⟩ := bx3.six
        by_cases hlt : k < n
        · obtain ⟨b, o, rfl, hb1, hc1⟩ := (HROW.out.below bx3.2).at_ (i := k) (by rw [HN.out]; exact hlt)
          have hz : nth xs k = if k = 0 then X else Y := by rw [← hX.out, ← hY.out]; rcases (show k = 0 ∨ k = 1 by omega) with rfl | rfl <;> rfl
          obtain ⟨z, hzz⟩ : ∃ z, Hid (nth xs k = z) := ⟨_, Lib.hid rfl⟩
          have zb : 0 ≤ z ∧ z < 65536 := by rw [← hzz.out]; exact nth_wf xs HROW.out.1 k
          have HST := Lib.hid (HS.out k hlt z (by rw [← hzz.out]; exact hz))
          rw [hzz.out] at hc1
          clear hz
          obtain ⟨q, hq⟩ : ∃ q, Hid (accS wd sw X Y k = q) := ⟨_, Lib.hid rfl⟩
          rw [hq.out]
          go_wp2_with fail
          refine (shift_any wd sg sw mu di ad k (by rw [← HK.out]; exact hlt) _).mono ?_
          rintro e w3 ⟨rfl, b3⟩
          have bx4 := bx3.below b3
          obtain ⟨sh, hsh⟩ : ∃ sh, Hid (shfS wd sw k = sh) := ⟨_, Lib.hid rfl⟩
          have hsb : sh < 64 := by
            rw [← hsh.out]; rcases (show k = 0 ∨ k = 1 by omega) with rfl | rfl <;> cases sw <;> cases wd <;> decide
          have hst := HST.out
          rw [hq.out, hsh.out] at hst
          rw [hsh.out]
          clear d0 d1 d2 d3 d4 d5 b3 bx3 hc1 hb1
          go_wp2
          go_roundw
          case rel => exact ⟨k + 1, by omega, by go_num, by rw [← hst]; rw [IntWalk.i64_left], bx4⟩
          case measure => simp [intOf]; omega
        · obtain rfl : k = n := by omega
          rw [hB.out]
          go_wp2_with fail
          refine (highest_any wd sg sw mu di ad _).mono ?_
          rintro e w4 ⟨rfl, b4⟩
          rw [hlo.out, hm.out]
          have bx4 := bx3.below b4
          obtain ⟨d0, d1, d2, d3, d4, d5⟩ := bx4.six
          by_cases hneg : lo + m - 1 < B
          · have HR3 : Hid (rawN (⟨wd, sg, sw, mu, di, ad⟩ : Sc) xs = B - m) := Lib.hid (by rw [HR2.out, if_pos hneg])
            have hneg2 : B > lo + m - 1 := hneg
            go_wp2_with fail
            refine (span_any wd sg sw mu di ad _).mono ?_
            rintro e w5 ⟨rfl, b5⟩
            rw [hm.out]
            have bel5 := (bx4.below b5).2
            go_wp2
            go_ret2
            exact ⟨by rw [HR3.out, HE.out]; rfl, bel5⟩
          · have HR3 : Hid (rawN (⟨wd, sg, sw, mu, di, ad⟩ : Sc) xs = B) := Lib.hid (by rw [HR2.out, if_neg hneg])
            have bel4 := bx4.2
            go_wp2
            go_ret2
            exact ⟨by rw [HR3.out, HE.out]; rfl, bel4⟩
    · have HE : Hid (rawE (⟨wd, sg, sw, mu, di, ad⟩ : Sc) xs = 22) := Lib.hid (by unfold rawE; rw [if_pos hok, if_neg (by rw [HN.out]; exact hlen)])
      have HR : Hid (rawN (⟨wd, sg, sw, mu, di, ad⟩ : Sc) xs = 0) := Lib.hid (by unfold rawN; rw [if_neg (by rw [HE.out]; omega)])
      obtain ⟨k, hk⟩ : ∃ k, Hid (cntS (⟨wd, sg, sw, mu, di, ad⟩ : Sc) = k) := ⟨_, Lib.hid rfl⟩
      rw [hk.out] at hlen
      have t0 : ((n : Int) != (k : Int)) = true := by simp; omega
      clear hok hn hr hlen
      go_enter Tryz.func54, Tryz.ntmps54
      go_wp2_with fail
      refine (Check6_any wd sg sw mu di ad _).mono ?_
      rintro e w1 ⟨rfl, b1⟩
      rw [HC.out]
      have bx1 := bx0.below b1
      obtain ⟨d0, d1, d2, d3, d4, d5⟩ := bx1.six
      go_wp2_with fail
      refine (count_any wd sg sw mu di ad _).mono ?_
      rintro e w2 ⟨rfl, b2⟩
      rw [hk.out]
      have bel2 := (bx1.below b2).2
      go_wp2
      go_ret2
      exact ⟨by rw [HR.out, HE.out]; rfl, bel2⟩
  · have HC := Lib.hid (chkS_no hok)
    have HE : Hid (rawE (⟨wd, sg, sw, mu, di, ad⟩ : Sc) xs = 25) := Lib.hid (by unfold rawE; rw [if_neg hok])
    have HR : Hid (rawN (⟨wd, sg, sw, mu, di, ad⟩ : Sc) xs = 0) := Lib.hid (by unfold rawN; rw [if_neg (by rw [HE.out]; omega)])
    clear hok hn hr
    go_enter Tryz.func54, Tryz.ntmps54
    go_wp2_with fail
    refine (Check6_any wd sg sw mu di ad _).mono ?_
    rintro e w1 ⟨rfl, b1⟩
    rw [HC.out]
    have bel1 := (bx0.below b1).2
    go_wp2
    go_ret2
    exact ⟨by rw [HR.out, HE.out]; rfl, bel1⟩
end Go.Proofs.YtcmbdhmhkfhjfaaGreat
namespace Go.Proofs.YtcmbdhmhkfhjfaaGreat
open Go.RowKit
set_option linter.unusedVariables false

set_option maxHeartbeats 2000000 in
theorem refRaw_any (wd sg sw : Bool) (mu di ad : Int) (A : Option Addr) (n c : Nat) (xs : List Int) (w : World) (hr : Row .u16 w w.heap.size A xs) (hn : xs.length = n) (hb : n ≤ 1000000) : Calls Tryz.prog 62 #[.agg #[.bool wd, .bool sg, .bool sw, .int .i64 mu, .int .i64 di, .int .i64 ad], .slice A n c] w fun e w' => e = .returned (.tuple #[.int .i64 (rawN (⟨wd, sg, sw, mu, di, ad⟩ : Sc) xs), .int .i64 (rawE (⟨wd, sg, sw, mu, di, ad⟩ : Sc) xs)]) ∧ Below w.heap.size w w' := by
  have bx0 := Bx.new w (.cells #[.bool wd, .bool sg, .bool sw, .int .i64 mu, .int .i64 di, .int .i64 ad] 45)
  by_cases hok : Sc.Ok (⟨wd, sg, sw, mu, di, ad⟩ : Sc)
  · have HC := Lib.hid (chkS_yes hok)
    have HN := Lib.hid hn
    by_cases hlen : n = cntS (⟨wd, sg, sw, mu, di, ad⟩ : Sc)
    · have HE : Hid (rawE (⟨wd, sg, sw, mu, di, ad⟩ : Sc) xs = 0) := Lib.hid (by unfold rawE; rw [if_pos hok, if_pos (by rw [HN.out]; exact hlen)])
      have HR : Hid (rawN (⟨wd, sg, sw, mu, di, ad⟩ : Sc) xs = signS (⟨wd, sg, sw, mu, di, ad⟩ : Sc) (baseS (⟨wd, sg, sw, mu, di, ad⟩ : Sc) xs)) := Lib.hid (by unfold rawN; rw [if_pos HE.out])
      have hsw : sw = true → wd = true := hok.2.2.2.2
      obtain ⟨X, hX⟩ : ∃ X, Hid (nth xs 0 = X) := ⟨_, Lib.hid rfl⟩
      obtain ⟨Y, hY⟩ : ∃ Y, Hid (nth xs 1 = Y) := ⟨_, Lib.hid rfl⟩
      have hXb : 0 ≤ X ∧ X < 65536 := by rw [← hX.out]; exact nth_wf xs hr.1 0
      have hYb : 0 ≤ Y ∧ Y < 65536 := by rw [← hY.out]; exact nth_wf xs hr.1 1
      obtain ⟨m, hm⟩ : ∃ m, Hid (many6 (⟨wd, sg, sw, mu, di, ad⟩ : Sc) = m) := ⟨_, Lib.hid rfl⟩
      obtain ⟨B, hB⟩ : ∃ B, Hid (baseS (⟨wd, sg, sw, mu, di, ad⟩ : Sc) xs = B) := ⟨_, Lib.hid rfl⟩
      have hBm : 0 ≤ B ∧ B < m ∧ m ≤ 4294967296 := by
        rw [← hB.out, ← hm.out]
        unfold baseS many6
        rw [hX.out, hY.out]
        cases wd <;> cases sw <;> simp only [if_true, Bool.false_eq_true, if_false] <;> first | (cases hsw rfl; done) | omega
      have HL : Hid (lowS (⟨wd, sg, sw, mu, di, ad⟩ : Sc) = if sg then -(m / 2) else 0) := Lib.hid (by unfold lowS; rw [hm.out])
      have HR2 : Hid (rawN (⟨wd, sg, sw, mu, di, ad⟩ : Sc) xs = if sg = true ∧ m ≤ 2 * B then B - m else B) := Lib.hid (by
        rw [HR.out, signS, HL.out, hm.out, hB.out]
        have hm2 : m % 2 = 0 := by rw [← hm.out]; unfold many6; split <;> rfl
        cases sg
        · simp only [Bool.false_eq_true, if_false, false_and]; rw [if_neg (by omega)]
        · simp only [if_true, true_and]
          by_cases h : m ≤ 2 * B
          · rw [if_pos (by omega), if_pos h]
          · rw [if_neg (by omega), if_neg h])
      have HBD : Hid (B = if wd then (if sw then Y * 65536 + X else X * 65536 + Y) else X) := Lib.hid (by rw [← hB.out, ← hX.out, ← hY.out]; rfl)
      have HROW := Lib.hid hr
      clear hok hr HR HL hB
      cases wd
      case false =>
        have hsw2 : sw = false := by cases sw; rfl; cases hsw rfl
        subst hsw2
        have hBX : X = B := HBD.out.symm
        have hn1 : n = 1 := hlen
        subst hn1
        clear hsw hn HBD hlen
        obtain ⟨b, o, rfl, hb1, hc1⟩ := HROW.out.at_ (i := 0) (by rw [HN.out]; omega)
        rw [hX.out, hBX, Nat.add_zero] at hc1
        subst hBX
        go_enter Tryz.func62, Tryz.ntmps62
        go_wp2_with fail
        refine (refCheck6_any _ _ _ _ _ _ _).mono ?_
        rintro e w1 ⟨rfl, b1⟩
        rw [HC.out]
        have bx1 := bx0.below b1
        obtain ⟨d0, d1, d2, d3, d4, d5⟩ := bx1.six
        have bel1 := bx1.2
        have hc2 := (bel1.cell (p := ⟨b, o, none⟩) hb1).trans hc1
        cases sg
        case false =>
          have HR3 : Hid (rawN ⟨false, false, false, mu, di, ad⟩ xs = X) := Lib.hid (by rw [HR2.out, if_neg (by simp)])
          go_wp2
          go_ret2
          exact ⟨by rw [HR3.out, HE.out]; rfl, bel1⟩
        case true =>
          go_wp2_with fail
          refine (Many_any _ _ _ _ _ _ _).mono ?_
          rintro e w2 ⟨rfl, b2⟩
          rw [hm.out]
          have bx2 := bx1.below b2
          obtain ⟨d0, d1, d2, d3, d4, d5⟩ := bx2.six
          have bel2 := bx2.2
          by_cases hge : m ≤ 2 * (X)
          · have HR3 : Hid (rawN ⟨false, true, false, mu, di, ad⟩ xs = X - m) := Lib.hid (by rw [HR2.out, if_pos ⟨by trivial, hge⟩])
            have hge2 : 2 * (X) ≥ m := hge
            go_wp2_with fail
            refine (Many_any _ _ _ _ _ _ _).mono ?_
            rintro e w3 ⟨rfl, b3⟩
            rw [hm.out]
            have bel3 := (bx2.below b3).2
            go_wp2
            go_ret2
            exact ⟨by rw [HR3.out, HE.out]; rfl, bel3⟩
          · have HR3 : Hid (rawN ⟨false, true, false, mu, di, ad⟩ xs = X) := Lib.hid (by rw [HR2.out, if_neg (fun h => hge h.2)])
            go_wp2
            go_ret2
            exact ⟨by rw [HR3.out, HE.out]; rfl, bel2⟩
      case true =>
        have hn2 : n = 2 := hlen
        subst hn2
        clear hn hlen
        obtain ⟨b, o, rfl, hb1, hc1⟩ := HROW.out.at_ (i := 0) (by rw [HN.out]; omega)
        obtain ⟨b', o', e2, _, hf1⟩ := HROW.out.at_ (i := 1) (by rw [HN.out]; omega)
        injection e2 with e2
        injection e2 with e2 e3
        subst e2 e3
        rw [hX.out, Nat.add_zero] at hc1
        rw [hY.out] at hf1
        cases sw
        case false =>
          have hBX : B = X * 65536 + Y := HBD.out
          subst hBX
          go_enter Tryz.func62, Tryz.ntmps62
          go_wp2_with fail
          refine (refCheck6_any _ _ _ _ _ _ _).mono ?_
          rintro e w1 ⟨rfl, b1⟩
          rw [HC.out]
          have bx1 := bx0.below b1
          obtain ⟨d0, d1, d2, d3, d4, d5⟩ := bx1.six
          have bel1 := bx1.2
          have hc2 := (bel1.cell (p := ⟨b, o, none⟩) hb1).trans hc1
          have hf2 := (bel1.cell (p := ⟨b, o + 1, none⟩) hb1).trans hf1
          cases sg
          case false =>
            have HR3 : Hid (rawN ⟨true, false, false, mu, di, ad⟩ xs = X * 65536 + Y) := Lib.hid (by rw [HR2.out, if_neg (by simp)])
            go_wp2
            go_ret2
            exact ⟨by rw [HR3.out, HE.out]; rfl, bel1⟩
          case true =>
            go_wp2_with fail
            refine (Many_any _ _ _ _ _ _ _).mono ?_
            rintro e w2 ⟨rfl, b2⟩
            rw [hm.out]
            have bx2 := bx1.below b2
            obtain ⟨d0, d1, d2, d3, d4, d5⟩ := bx2.six
            have bel2 := bx2.2
            by_cases hge : m ≤ 2 * (X * 65536 + Y)
            · have HR3 : Hid (rawN ⟨true, true, false, mu, di, ad⟩ xs = X * 65536 + Y - m) := Lib.hid (by rw [HR2.out, if_pos ⟨by trivial, hge⟩])
              have hge2 : 2 * (X * 65536 + Y) ≥ m := hge
              go_wp2_with fail
              refine (Many_any _ _ _ _ _ _ _).mono ?_
              rintro e w3 ⟨rfl, b3⟩
              rw [hm.out]
              have bel3 := (bx2.below b3).2
              go_wp2
              go_ret2
              exact ⟨by rw [HR3.out, HE.out]; rfl, bel3⟩
            · have HR3 : Hid (rawN ⟨true, true, false, mu, di, ad⟩ xs = X * 65536 + Y) := Lib.hid (by rw [HR2.out, if_neg (fun h => hge h.2)])
              go_wp2
              go_ret2
              exact ⟨by rw [HR3.out, HE.out]; rfl, bel2⟩
        case true =>
          have hBX : B = Y * 65536 + X := HBD.out
          subst hBX
          go_enter Tryz.func62, Tryz.ntmps62
          go_wp2_with fail
          refine (refCheck6_any _ _ _ _ _ _ _).mono ?_
          rintro e w1 ⟨rfl, b1⟩
          rw [HC.out]
          have bx1 := bx0.below b1
          obtain ⟨d0, d1, d2, d3, d4, d5⟩ := bx1.six
          have bel1 := bx1.2
          have hc2 := (bel1.cell (p := ⟨b, o, none⟩) hb1).trans hc1
          have hf2 := (bel1.cell (p := ⟨b, o + 1, none⟩) hb1).trans hf1
          cases sg
          case false =>
            have HR3 : Hid (rawN ⟨true, false, true, mu, di, ad⟩ xs = Y * 65536 + X) := Lib.hid (by rw [HR2.out, if_neg (by simp)])
            go_wp2
            go_ret2
            exact ⟨by rw [HR3.out, HE.out]; rfl, bel1⟩
          case true =>
            go_wp2_with fail
            refine (Many_any _ _ _ _ _ _ _).mono ?_
            rintro e w2 ⟨rfl, b2⟩
            rw [hm.out]
            have bx2 := bx1.below b2
            obtain ⟨d0, d1, d2, d3, d4, d5⟩ := bx2.six
            have bel2 := bx2.2
            by_cases hge : m ≤ 2 * (Y * 65536 + X)
            · have HR3 : Hid (rawN ⟨true, true, true, mu, di, ad⟩ xs = Y * 65536 + X - m) := Lib.hid (by rw [HR2.out, if_pos ⟨by trivial, hge⟩])
              have hge2 : 2 * (Y * 65536 + X) ≥ m := hge
              go_wp2_with fail
              refine (Many_any _ _ _ _ _ _ _).mono ?_
              rintro e w3 ⟨rfl, b3⟩
              rw [hm.out]
              have bel3 := (bx2.below b3).2
              go_wp2
              go_ret2
              exact ⟨by rw [HR3.out, HE.out]; rfl, bel3⟩
            · have HR3 : Hid (rawN ⟨true, true, true, mu, di, ad⟩ xs = Y * 65536 + X) := Lib.hid (by rw [HR2.out, if_neg (fun h => hge h.2)])
              go_wp2
              go_ret2
              exact ⟨by rw [HR3.out, HE.out]; rfl, bel2⟩
    · have HE : Hid (rawE (⟨wd, sg, sw, mu, di, ad⟩ : Sc) xs = 22) := Lib.hid (by unfold rawE; rw [if_pos hok, if_neg (by rw [HN.out]; exact hlen)])
      have HR : Hid (rawN (⟨wd, sg, sw, mu, di, ad⟩ : Sc) xs = 0) := Lib.hid (by unfold rawN; rw [if_neg (by rw [HE.out]; omega)])
      clear hok hn hr
      cases wd
      case false =>
        have hlen2 : n ≠ 1 := hlen
        have t0 : ((n : Int) != 1) = true := by simp; omega
        clear hlen hlen2
        go_enter Tryz.func62, Tryz.ntmps62
        go_wp2_with fail
        refine (refCheck6_any _ _ _ _ _ _ _).mono ?_
        rintro e w1 ⟨rfl, b1⟩
        rw [HC.out]
        have bx1 := bx0.below b1
        obtain ⟨d0, d1, d2, d3, d4, d5⟩ := bx1.six
        have bel1 := bx1.2
        go_wp2
        go_ret2
        exact ⟨by rw [HR.out, HE.out]; rfl, bel1⟩
      case true =>
        have hlen2 : n ≠ 2 := hlen
        have t0 : ((n : Int) != 2) = true := by simp; omega
        clear hlen hlen2
        go_enter Tryz.func62, Tryz.ntmps62
        go_wp2_with fail
        refine (refCheck6_any _ _ _ _ _ _ _).mono ?_
        rintro e w1 ⟨rfl, b1⟩
        rw [HC.out]
        have bx1 := bx0.below b1
        obtain ⟨d0, d1, d2, d3, d4, d5⟩ := bx1.six
        have bel1 := bx1.2
        go_wp2
        go_ret2
        exact ⟨by rw [HR.out, HE.out]; rfl, bel1⟩
  · have HC := Lib.hid (chkS_no hok)
    have HE : Hid (rawE (⟨wd, sg, sw, mu, di, ad⟩ : Sc) xs = 25) := Lib.hid (by unfold rawE; rw [if_neg hok])
    have HR : Hid (rawN (⟨wd, sg, sw, mu, di, ad⟩ : Sc) xs = 0) := Lib.hid (by unfold rawN; rw [if_neg (by rw [HE.out]; omega)])
    clear hok hn hr
    go_enter Tryz.func62, Tryz.ntmps62
    go_wp2_with fail
    refine (refCheck6_any wd sg sw mu di ad _).mono ?_
    rintro e w1 ⟨rfl, b1⟩
    rw [HC.out]
    have bel1 := (bx0.below b1).2
    go_wp2
    go_ret2
    exact ⟨by rw [HR.out, HE.out]; rfl, bel1⟩
end Go.Proofs.YtcmbdhmhkfhjfaaGreat
namespace Go.Proofs.YtcmbdhmhkfhjfaaGreat
open Go.RowKit
set_option linter.unusedVariables false

/-- Four stores, field by field. -/
def put4 (w : World) (g : Nat) (v0 v1 v2 v3 : Value) : World := (((w.setCell ⟨g, 0, none⟩ v0).setCell ⟨g, 1, none⟩ v1).setCell ⟨g, 2, none⟩ v2).setCell ⟨g, 3, none⟩ v3
theorem put4_heap {w : World} {g : Nat} {t : TypeId} {u0 u1 u2 u3 : Value} (h : w.heap[g]? = some (.cells #[u0, u1, u2, u3] t (0, 0))) (v0 v1 v2 v3 : Value) :
    (put4 w g v0 v1 v2 v3).heap[g]? = some (.cells #[v0, v1, v2, v3] t (0, 0)) := box_set (box_set (box_set (box_set h 0 v0) 1 v1) 2 v2) 3 v3
theorem below_put4 {B : Nat} {a w : World} {g : Nat} (h : Below B a w) (hg : B ≤ g) (v0 v1 v2 v3 : Value) : Below B a (put4 w g v0 v1 v2 v3) :=
  below_setCell (below_setCell (below_setCell (below_setCell h hg 0 v0) hg 1 v1) hg 2 v2) hg 3 v3
theorem cells4 {w : World} {g : Nat} {t : TypeId} {v0 v1 v2 v3 : Value} (h : w.heap[g]? = some (.cells #[v0, v1, v2, v3] t (0, 0))) :
    w.cell? ⟨g, 0, none⟩ = some v0 ∧ w.cell? ⟨g, 1, none⟩ = some v1 ∧ w.cell? ⟨g, 2, none⟩ = some v2 ∧ w.cell? ⟨g, 3, none⟩ = some v3 :=
  ⟨cell_of_row w g 0 _ _ _ h, cell_of_row w g 1 _ _ _ h, cell_of_row w g 2 _ _ _ h, cell_of_row w g 3 _ _ _ h⟩
theorem TB.put4 {w0 w : World} {B : Nat} {o1 : Obj} {t : TypeId} {u0 u1 u2 u3 : Value} (h : TB w0 B o1 (.cells #[u0, u1, u2, u3] t (0, 0)) w) (v0 v1 v2 v3 : Value) :
    (put4 w (B + 1) v0 v1 v2 v3).heap[B + 1]? = some (.cells #[v0, v1, v2, v3] t (0, 0)) ∧ Below B w0 (put4 w (B + 1) v0 v1 v2 v3) :=
  ⟨put4_heap h.box v0 v1 v2 v3, below_put4 h.bel (Nat.le_succ _) v0 v1 v2 v3⟩

/-- An answer and a number. -/
def RpGot (w : World) (r : Rep) (E : Int) (e : Ending) (w' : World) : Prop :=
  ∃ (Bo Bs Bf : Option Addr) (mo ms mf eo es ef : Nat), e = .returned (.tuple #[.agg #[.int .i64 r.x, .slice Bo mo eo, .slice Bs ms es, .slice Bf mf ef], .int .i64 E]) ∧ Repd w' w'.heap.size r Bo Bs Bf mo ms mf ∧ Below w.heap.size w w'
theorem RpGot.exc {w w' : World} {x err : Int} {e : Ending} (h : e = .returned (.tuple #[.agg #[.int .i64 x, .slice none 0 0, .slice none 0 0, .slice none 0 0], .int .i64 err])) (hb : Below w.heap.size w w') : RpGot w ⟨x, [], [], []⟩ err e w' :=
  ⟨none, none, none, 0, 0, 0, 0, 0, 0, h, Repd.zero _ _ x, hb⟩

/-- A right request has a code. -/
theorem chk_code {q : Req} (h : chkQ q = 0) : 0 < mm q.c := by
  unfold chkQ chk at h
  by_cases hm : mm q.c ≤ 0
  · rw [if_pos hm] at h; omega
  · omega
theorem mm_le (c : Int) (h : 0 < mm c) : 1 ≤ c ∧ c ≤ 20 := by rcases mm_pos h with h | h | h | h | h | h | h | h | h <;> omega

end Go.Proofs.YtcmbdhmhkfhjfaaGreat
namespace Go.Proofs.YtcmbdhmhkfhjfaaGreat
open Go.RowKit
set_option linter.unusedVariables false
theorem TB.below2 {w0 w w' : World} {B z : Nat} {o1 o2 : Obj} (h : TB w0 B o1 o2 w) (hb : Below z w w') (hz : B + 1 < z) : TB w0 B o1 o2 w' :=
  ⟨(hb.block B (by omega)).trans h.ret, (hb.block (B + 1) hz).trans h.box, h.bel.trans (hb.mono (by omega))⟩

end Go.Proofs.YtcmbdhmhkfhjfaaGreat
namespace Go.Proofs.YtcmbdhmhkfhjfaaGreat
open Go.RowKit
set_option linter.unusedVariables false
theorem TB.far {w0 w : World} {B g : Nat} {o1 o2 : Obj} (h : TB w0 B o1 o2 w) (hg : B + 1 < g) (i : Nat) (v : Value) : TB w0 B o1 o2 (w.setCell ⟨g, i, none⟩ v) :=
  ⟨(Below.heap_setCell w ⟨g, i, none⟩ v B (by simp; omega)).trans h.ret, (Below.heap_setCell w ⟨g, i, none⟩ v (B + 1) (by simp; omega)).trans h.box, below_setCell h.bel (by omega) i v⟩
theorem put4_other {w : World} {g j : Nat} (h : j ≠ g) (v0 v1 v2 v3 : Value) : (put4 w g v0 v1 v2 v3).heap[j]? = w.heap[j]? := by
  unfold put4
  rw [Below.heap_setCell _ ⟨g, 3, none⟩ v3 j (by simpa using h), Below.heap_setCell _ ⟨g, 2, none⟩ v2 j (by simpa using h), Below.heap_setCell _ ⟨g, 1, none⟩ v1 j (by simpa using h), Below.heap_setCell _ ⟨g, 0, none⟩ v0 j (by simpa using h)]

end Go.Proofs.YtcmbdhmhkfhjfaaGreat
namespace Go.Proofs.YtcmbdhmhkfhjfaaGreat
open Go.RowKit
set_option linter.unusedVariables false

end Go.Proofs.YtcmbdhmhkfhjfaaGreat
namespace Go.Proofs.YtcmbdhmhkfhjfaaGreat
open Go.RowKit
set_option linter.unusedVariables false

theorem Bx.four {w0 w : World} {g : Nat} {t : TypeId} {v0 v1 v2 v3 : Value} (h : Bx w0 g (.cells #[v0, v1, v2, v3] t (0, 0)) w) :
    w.cell? ⟨g, 0, none⟩ = some v0 ∧ w.cell? ⟨g, 1, none⟩ = some v1 ∧ w.cell? ⟨g, 2, none⟩ = some v2 ∧ w.cell? ⟨g, 3, none⟩ = some v3 :=
  ⟨cell_of_row w g 0 _ _ _ h.1, cell_of_row w g 1 _ _ _ h.1, cell_of_row w g 2 _ _ _ h.1, cell_of_row w g 3 _ _ _ h.1⟩

theorem TB.ten {w0 w : World} {B : Nat} {t t' : TypeId} {u0 u1 u2 u3 u4 u5 v0 v1 v2 v3 : Value} (h : TB w0 B (.cells #[u0, u1, u2, u3, u4, u5] t (0, 0)) (.cells #[v0, v1, v2, v3] t' (0, 0)) w) :
    w.cell? ⟨B, 0, none⟩ = some u0 ∧ w.cell? ⟨B, 1, none⟩ = some u1 ∧ w.cell? ⟨B, 2, none⟩ = some u2 ∧ w.cell? ⟨B, 3, none⟩ = some u3 ∧ w.cell? ⟨B, 4, none⟩ = some u4 ∧ w.cell? ⟨B, 5, none⟩ = some u5 ∧
    w.cell? ⟨B + 1, 0, none⟩ = some v0 ∧ w.cell? ⟨B + 1, 1, none⟩ = some v1 ∧ w.cell? ⟨B + 1, 2, none⟩ = some v2 ∧ w.cell? ⟨B + 1, 3, none⟩ = some v3 :=
  ⟨h.r6.1, h.r6.2.1, h.r6.2.2.1, h.r6.2.2.2.1, h.r6.2.2.2.2.1, h.r6.2.2.2.2.2.1, h.c4.1, h.c4.2.1, h.c4.2.2.1, h.c4.2.2.2.1⟩

/-- The lengths of the first k lists, each as 70000 at most. -/
def sumMin (fs : List (List Int)) : Nat → Nat
  | 0 => 0
  | k + 1 => sumMin fs k + min (nthF fs k).length 70000
theorem sumMin_le (fs : List (List Int)) (k j : Nat) : sumMin fs k ≤ sumMin fs (k + j) := by
  induction j with
  | zero => exact Nat.le_refl _
  | succ j ih => exact Nat.le_trans ih (by rw [Nat.add_succ, sumMin]; omega)
/-- Has an answer longer lists than a statement goes through? -/
def longR (mo ms mf : Nat) (fs : List (List Int)) : Bool := decide (70000 < mo ∨ 70000 < ms ∨ 1000 < mf ∨ 70000 < sumMin fs mf)
def longA (lo ls lp : Nat) : Bool := decide (70000 < lo ∨ 70000 < ls ∨ 70000 < lp)

set_option maxHeartbeats 1000000 in
theorem LongReply_any (r : Rep) (Bo Bs Bf : Option Addr) (mo ms mf eo es ef : Nat) (w : World) (hr : Repd w w.heap.size r Bo Bs Bf mo ms mf) :
    Calls Tryz.prog 5 #[.agg #[.int .i64 r.x, .slice Bo mo eo, .slice Bs ms es, .slice Bf mf ef]] w fun e w' => e = .returned (.bool (longR mo ms mf r.fs)) ∧ Below w.heap.size w w' := by
  have bx := Bx.new w (.cells #[.int .i64 r.x, .slice Bo mo eo, .slice Bs ms es, .slice Bf mf ef] 30)
  have HF := Lib.hid hr.fs
  have HMF := Lib.hid hr.mf
  clear hr
  obtain ⟨v, hv⟩ : ∃ v, Hid (longR mo ms mf r.fs = v) := ⟨_, Lib.hid rfl⟩
  rw [hv.out]
  by_cases h1 : 70000 < mo
  · have h1' : (70000 : Int) < (mo : Int) := by omega
    have HVT : Hid (v = true) := Lib.hid (by rw [← hv.out]; exact decide_eq_true (by omega))
    go_enter Tryz.func5, Tryz.ntmps5
    go_wp2
    go_ret
    exact ⟨by rw [HVT.out]; rfl, bx.2⟩
  have h1' : ¬ (70000 : Int) < (mo : Int) := by omega
  by_cases h2 : 70000 < ms
  · have h2' : (70000 : Int) < (ms : Int) := by omega
    have HVT : Hid (v = true) := Lib.hid (by rw [← hv.out]; exact decide_eq_true (by omega))
    go_enter Tryz.func5, Tryz.ntmps5
    go_wp2
    go_ret
    exact ⟨by rw [HVT.out]; rfl, bx.2⟩
  have h2' : ¬ (70000 : Int) < (ms : Int) := by omega
  by_cases h3 : 1000 < mf
  · have h3' : (1000 : Int) < (mf : Int) := by omega
    have HVT : Hid (v = true) := Lib.hid (by rw [← hv.out]; exact decide_eq_true (by omega))
    go_enter Tryz.func5, Tryz.ntmps5
    go_wp2
    go_ret
    exact ⟨by rw [HVT.out]; rfl, bx.2⟩
  have h3' : ¬ (1000 : Int) < (mf : Int) := by omega
  have HVS : Hid (v = decide (70000 < sumMin r.fs mf)) := Lib.hid (by rw [← hv.out]; unfold longR; congr 1; rw [eq_iff_iff]; omega)
  go_enter Tryz.func5, Tryz.ntmps5
  go_wp2
  go_loopw [3, 4] (fun n i wr => ∃ k s : Nat, k ≤ mf ∧ i = .int .i64 k ∧ n = .int .i64 s ∧ s ≤ 70000 ∧ Hid (sumMin r.fs k = s) ∧ Bx w w.heap.size (.cells #[.int .i64 r.x, .slice Bo mo eo, .slice Bs ms es, .slice Bf mf ef] 30 (0, 0)) wr) (fun _ i _ => mf - (intOf i).toNat)
  case atStart => exact ⟨0, 0, by omega, rfl, rfl, by omega, Lib.hid rfl, bx⟩
  case round =>
    clear bx
    obtain ⟨k, s, hk, rfl, rfl, hs, hsum, bx⟩ := hrel
    obtain ⟨d0, d1, d2, d3⟩ := bx.four
    by_cases hlt : k < mf
    · obtain ⟨b, o, hA, hb, hc⟩ := HF.out (by have := HMF.out; omega)
      obtain ⟨Ai, ci, hci, _, _⟩ := hc k (by have := HMF.out; omega)
      subst hA
      obtain ⟨z, hz⟩ : ∃ z, (nthF r.fs k).length = z := ⟨_, rfl⟩
      have HZ := Lib.hid hz
      rw [hz] at hci
      have hci2 := (bx.2.cell (p := ⟨b, o + k, none⟩) hb).trans hci
      clear hci hc hz
      by_cases hz7 : z ≤ 70000
      · have hz8 : (z : Int) ≤ 70000 := by omega
        have ea : IntKind.i64.wrap ((s : Int) + (z : Int)) = (s : Int) + (z : Int) := IntWalk.i64_in _ (by omega)
        by_cases hgt : 70000 < s + z
        · have hgt' : (70000 : Int) < (s : Int) + (z : Int) := by omega
          have HVT : Hid (v = true) := Lib.hid (by
            rw [HVS.out]
            refine decide_eq_true ?_
            have h5 := sumMin_le r.fs (k + 1) (mf - (k + 1))
            rw [show k + 1 + (mf - (k + 1)) = mf by omega, sumMin, hsum.out, HZ.out] at h5
            omega)
          go_wp2
          go_ret
          exact ⟨by rw [HVT.out]; rfl, bx.2⟩
        · have hgt' : ¬ (70000 : Int) < (s : Int) + (z : Int) := by omega
          go_wp2
          go_roundw
          case rel => exact ⟨k + 1, s + z, by omega, by go_num, by first | rfl | go_num | (congr 1; omega), by omega, Lib.hid (by rw [sumMin, hsum.out, HZ.out]; omega), bx⟩
          case measure => simp [intOf]; omega
      · have hz8 : ¬ (z : Int) ≤ 70000 := by omega
        have ea : IntKind.i64.wrap ((s : Int) + 70000) = (s : Int) + 70000 := IntWalk.i64_in _ (by omega)
        by_cases hgt : 70000 < s + 70000
        · have hgt' : (70000 : Int) < (s : Int) + 70000 := by omega
          have HVT : Hid (v = true) := Lib.hid (by
            rw [HVS.out]
            refine decide_eq_true ?_
            have h5 := sumMin_le r.fs (k + 1) (mf - (k + 1))
            rw [show k + 1 + (mf - (k + 1)) = mf by omega, sumMin, hsum.out, HZ.out] at h5
            omega)
          go_wp2
          go_ret
          exact ⟨by rw [HVT.out]; rfl, bx.2⟩
        · have hgt' : ¬ (70000 : Int) < (s : Int) + 70000 := by omega
          go_wp2
          go_roundw
          case rel => exact ⟨k + 1, s + 70000, by omega, by go_num, by first | rfl | go_num | (congr 1; omega), by omega, Lib.hid (by rw [sumMin, hsum.out, HZ.out]; omega), bx⟩
          case measure => simp [intOf]; omega
    · obtain rfl : k = mf := by omega
      have HVF : Hid (v = false) := Lib.hid (by rw [HVS.out, hsum.out]; exact decide_eq_false (by omega))
      go_wp2
      go_ret
      exact ⟨by rw [HVF.out]; rfl, bx.2⟩

end Go.Proofs.YtcmbdhmhkfhjfaaGreat
namespace Go.Proofs.YtcmbdhmhkfhjfaaGreat
open Go.RowKit
set_option linter.unusedVariables false

theorem FRow.at_ {w : World} {B : Nat} {A : Option Addr} {fs : List (List Int)} (h : FRow w B A fs) {i : Nat} (hi : i < fs.length) :
    ∃ b o Ai ci, A = some ⟨b, o, none⟩ ∧ b < B ∧ w.cell? ⟨b, o + i, none⟩ = some (.slice Ai (nthF fs i).length ci) ∧ Row .u16 w B Ai (nthF fs i) ∧ (nthF fs i).length ≤ ci := by
  obtain ⟨b, o, hA, hb, hc⟩ := h (by omega)
  obtain ⟨Ai, ci, h1, h2, h3⟩ := hc i hi
  exact ⟨b, o, Ai, ci, hA, hb, h1, h2, h3⟩
theorem FRow.drewN {w : World} {B : Nat} {A : Option Addr} {fs : List (List Int)} (h : FRow w B A fs) (n : Nat) : FRow (w.drewN n) B A fs := h

set_option maxHeartbeats 1000000 in
theorem SameFiles_yes (A A' : Option Addr) (n c c' : Nat) (fs : List (List Int)) (w : World) (B B' : Nat) (hr : FRow w B A fs) (hr' : FRow w B' A' fs) (hn : fs.length = n) (hb : n ≤ 1000000) (hl : ∀ i, i < n → (nthF fs i).length ≤ 70368744177664) :
    Calls Tryz.prog 38 #[.slice A n c, .slice A' n c'] w fun e w' => e = .returned (.bool true) ∧ ∃ m, w' = w.drewN m := by
  have HR := Lib.hid hr
  have HR' := Lib.hid hr'
  have HN := Lib.hid hn
  have HL := Lib.hid hl
  have t0 : ((n : Int) != (n : Int)) = false := by simp
  clear hr hr' hn hl
  go_enter Tryz.func38, Tryz.ntmps38
  go_wp2
  go_loopw [5] (fun i wr => ∃ k m : Nat, k ≤ n ∧ i = .int .i64 k ∧ wr = w.drewN m) (fun i _ => n - (intOf i).toNat)
  case atStart => exact ⟨0, 0, by omega, rfl, rfl⟩
  case round =>
    obtain ⟨k, m, hk, rfl, hw0⟩ := hrel
    have HW := Lib.hid hw0
    have HRw := Lib.hid (show FRow wr B A fs by rw [hw0]; exact HR.out.drewN m)
    have HRw' := Lib.hid (show FRow wr B' A' fs by rw [hw0]; exact HR'.out.drewN m)
    clear hw0
    by_cases hlt : k < n
    · obtain ⟨b, o, Ai, ci, rfl, hb1, hc1, r1, _⟩ := HRw.out.at_ (i := k) (by have := HN.out; omega)
      obtain ⟨b', o', Ai', ci', rfl, hb1', hc1', r1', _⟩ := HRw'.out.at_ (i := k) (by have := HN.out; omega)
      have hlen := HL.out k hlt
      obtain ⟨xs, hxs⟩ : ∃ xs, nthF fs k = xs := ⟨_, rfl⟩
      rw [hxs] at hc1 hc1' r1 r1' hlen
      obtain ⟨z, hz⟩ : ∃ z, Hid (xs.length = z) := ⟨_, Lib.hid rfl⟩
      rw [hz.out] at hc1 hc1' hlen
      clear hxs
      have HS : Hid (∀ p, Calls Tryz.prog 37 #[.slice Ai z ci, .slice Ai' z ci'] (wr.drewN p) fun e w' => e = .returned (.bool true) ∧ ∃ n, w' = (wr.drewN p).drewN n) := Lib.hid (fun p => W.same_yes_u16 _ _ _ _ _ xs _ _ _ (r1.drewN p) (r1'.drewN p) hz.out hlen)
      go_wp2_with fail
      go_quiet ((go_at_call 37; refine Calls.quiet_of (HS.out _)))
      go_wp2
      go_roundw
      case rel => exact ⟨k + 1, m + nq, by omega, by go_num, by rw [HW.out, World.drewN_drewN]⟩
      case measure => simp [intOf]; omega
    · obtain rfl : k = n := by omega
      go_wp2
      go_ret
      exact ⟨rfl, m, HW.out⟩
end Go.Proofs.YtcmbdhmhkfhjfaaGreat
namespace Go.Proofs.YtcmbdhmhkfhjfaaGreat
open Go.RowKit
set_option linter.unusedVariables false

theorem Own.front {k : IntKind} {e : TypeId} {w : World} {base n c m : Nat} {A : Option Addr} {xs : List Int} (h : Own k e w base (.slice A n c) xs) (hm : m ≤ xs.length) : Own k e w base (.slice A m c) (xs.take m) := by
  rcases h with ⟨h0, ⟨hv, hl⟩ | ⟨g, cap, cur, hv, h1, h2, h3, h4, h5, h6⟩⟩
  · have hx : xs = [] := List.eq_nil_of_length_eq_zero hl
    subst hx
    obtain rfl : m = 0 := by simpa using hm
    injection hv with a b c'
    subst a c'
    exact ⟨by simp, .inl ⟨rfl, rfl⟩⟩
  · injection hv with a b c'
    subst a c'
    refine ⟨by simp, .inr ⟨g, c, cur, ?_, h1, h2, ?_, h4, h5, ?_⟩⟩
    · simp [Nat.min_eq_left hm]
    · simp [Nat.min_eq_left hm]; omega
    · simp only [Nat.mul_one] at h6 ⊢
      have hlen : (xs.take m).length = m := by simp [Nat.min_eq_left hm]
      rw [hlen, List.map_take, ← h6, List.take_take, Nat.min_eq_left hm]

end Go.Proofs.YtcmbdhmhkfhjfaaGreat
namespace Go.Proofs.YtcmbdhmhkfhjfaaGreat
open Go.RowKit
set_option linter.unusedVariables false
theorem own_form {k : IntKind} {e : TypeId} {w : World} {base : Nat} {v : Value} {xs : List Int} (h : Own k e w base v xs) : ∃ A n c, v = .slice A n c := by
  rcases h.2 with ⟨rfl, _⟩ | ⟨g, cap, cur, rfl, _⟩
  · exact ⟨_, _, _, rfl⟩
  · exact ⟨_, _, _, rfl⟩

end Go.Proofs.YtcmbdhmhkfhjfaaGreat
namespace Go.Proofs.YtcmbdhmhkfhjfaaGreat
open Go.RowKit
set_option linter.unusedVariables false

/-- The first k files as bytes, each behind its head. -/
def fbytes (fs : List (List Int)) : Nat → List Int
  | 0 => []
  | k + 1 => fbytes fs k ++ [((1 + 2 * (nthF fs k).length : Nat) : Int), 6] ++ wbytes (nthF fs k)
theorem fbytes_length (fs : List (List Int)) (k : Nat) (h : ∀ i, i < k → (nthF fs i).length ≤ 127) : (fbytes fs k).length ≤ 256 * k := by
  induction k with
  | zero => simp [fbytes]
  | succ k ih =>
    rw [fbytes, List.length_append, List.length_append, wbytes_length]
    have h1 := ih (fun i hi => h i (by omega))
    have h2 := h k (by omega)
    simp only [List.length_cons, List.length_nil]
    omega

end Go.Proofs.YtcmbdhmhkfhjfaaGreat
namespace Go.Proofs.YtcmbdhmhkfhjfaaGreat
open Go.RowKit
set_option linter.unusedVariables false

theorem fbytes_wf (fs : List (List Int)) (k : Nat) (h : ∀ i, i < k → (nthF fs i).length ≤ 127) : ∀ x ∈ fbytes fs k, (Lit.int .u8 x).wf = true := by
  induction k with
  | zero => simp [fbytes]
  | succ k ih =>
    intro x hx
    rw [fbytes] at hx
    rcases List.mem_append.1 hx with hx | hx
    · rcases List.mem_append.1 hx with hx | hx
      · exact ih (fun i hi => h i (by omega)) x hx
      · simp only [List.mem_cons, List.not_mem_nil, or_false] at hx
        rcases hx with rfl | rfl
        · exact wf_byte _ (by have := h k (by omega); omega)
        · decide
    · exact wbytes_wf _ x hx

end Go.Proofs.YtcmbdhmhkfhjfaaGreat
namespace Go.Proofs.YtcmbdhmhkfhjfaaGreat
open Go.RowKit
set_option linter.unusedVariables false

/-- The form of an answer that is right and no exception. -/
def formR (q : Req) (r : Rep) : List Int :=
  if q.c = 1 ∨ q.c = 2 then q.c :: ((need r.on.length : Nat) : Int) :: pk r.on (need r.on.length)
  else if q.c = 3 ∨ q.c = 4 then q.c :: 2 * (r.set.length : Int) :: wbytes r.set
  else if q.c = 20 then 20 :: (((fbytes r.fs r.fs.length).length : Nat) : Int) :: fbytes r.fs r.fs.length
  else (putL q).take 5
/-- An answer as a PDU. -/
def putR (q : Req) (r : Rep) : List Int := if chkR q r ≠ 0 then [] else if r.x ≠ 0 then [q.c + 128, r.x] else formR q r

theorem fits_true {fl : List Int} {fs : List (List Int)} (h : fitsB fl fs = true) : fl.length = 3 * fs.length ∧ ∀ i, i < fs.length → ((nthF fs i).length : Int) = nth fl (3 * i + 2) := by
  rw [fitsB, Bool.and_eq_true, decide_eq_true_eq, List.all_eq_true] at h
  exact ⟨h.1, fun i hi => of_decide_eq_true (h.2 i (List.mem_range.2 hi))⟩
theorem fbytes_sum (fl : List Int) (fs : List (List Int)) (k : Nat) (h : ∀ i, i < k → ((nthF fs i).length : Int) = nth fl (3 * i + 2)) : (((fbytes fs k).length : Nat) : Int) = sumTo fl k := by
  induction k with
  | zero => rfl
  | succ k ih =>
    rw [fbytes, sumTo, ← ih (fun i hi => h i (by omega)), ← h k (by omega), List.length_append, List.length_append, wbytes_length]
    simp only [List.length_cons, List.length_nil]
    omega
theorem sumTo_part (fl : List Int) (k : Nat) (h : ∀ i, i < k → 0 ≤ nth fl (3 * i + 2)) : (0 ≤ sumTo fl k) ∧ ∀ i, i < k → 2 + 2 * nth fl (3 * i + 2) ≤ sumTo fl k := by
  induction k with
  | zero => exact ⟨Int.le_refl _, fun i hi => absurd hi (by omega)⟩
  | succ k ih =>
    obtain ⟨h1, h2⟩ := ih (fun i hi => h i (by omega))
    have h3 := h k (by omega)
    rw [sumTo]
    refine ⟨by omega, fun i hi => ?_⟩
    rcases Nat.lt_succ_iff_lt_or_eq.1 hi with h4 | h4
    · have := h2 i h4; omega
    · subst h4; omega
/-- What a right answer that is no exception holds. -/
theorem chkR_zero {q : Req} {r : Rep} (h : chkR q r = 0) (hx : r.x = 0) : chkQ q = 0 ∧ manyB q r = true := by
  unfold chkR at h
  by_cases hk : chkQ q ≠ 0
  · rw [if_pos hk] at h; exact absurd h hk
  · rw [if_neg hk, if_neg (show ¬ r.x ≠ 0 by simp [hx])] at h
    refine ⟨by simpa using hk, ?_⟩
    split at h
    · cases h
    · split at h
      · cases h
      · rename_i h2; simpa using h2
theorem rep_bits {q : Req} {r : Rep} (h : chkR q r = 0) (hx : r.x = 0) (hc : q.c = 1 ∨ q.c = 2) : r.on.length ≤ 2000 := by
  obtain ⟨h1, h2⟩ := chkR_zero h hx
  have hz := (chk_zero h1).2.2.2.1
  unfold manyB at h2
  rw [if_pos hc] at h2
  have h2 := of_decide_eq_true h2
  rcases hc with hc | hc <;> rw [hc] at hz <;> simp [many, mm] at hz <;> omega
theorem rep_words {q : Req} {r : Rep} (h : chkR q r = 0) (hx : r.x = 0) (hc : q.c = 3 ∨ q.c = 4) : r.set.length ≤ 125 := by
  obtain ⟨h1, h2⟩ := chkR_zero h hx
  have hz := (chk_zero h1).2.2.2.1
  unfold manyB at h2
  rw [if_neg (show ¬ (q.c = 1 ∨ q.c = 2) by omega), if_pos hc] at h2
  have h2 := of_decide_eq_true h2
  rcases hc with hc | hc <;> rw [hc] at hz <;> simp [many, mm] at hz <;> omega
theorem rep_files {q : Req} {r : Rep} (h : chkR q r = 0) (hx : r.x = 0) (hc : q.c = 20) : r.fs.length ≤ 35 ∧ (∀ i, i < r.fs.length → (nthF r.fs i).length ≤ 127) ∧ (fbytes r.fs r.fs.length).length ≤ 255 := by
  obtain ⟨h1, h2⟩ := chkR_zero h hx
  have hz := chk_zero h1
  unfold manyB at h2
  rw [if_neg (show ¬ (q.c = 1 ∨ q.c = 2) by omega), if_neg (show ¬ (q.c = 3 ∨ q.c = 4) by omega), if_pos hc] at h2
  obtain ⟨hl, hi⟩ := fits_true h2
  obtain ⟨hok, hs⟩ := hz.2.2.2.2.1 hc
  have hm := hz.2.2.2.1
  rw [hc] at hm
  rw [show q.fl.length / 3 = r.fs.length by omega] at hok hs hm
  have hm2 : r.fs.length ≤ 35 := by simp [many, mm] at hm; omega
  have hp := sumTo_part q.fl r.fs.length (fun i h => by rw [← hi i h]; omega)
  have hsum := fbytes_sum q.fl r.fs r.fs.length hi
  exact ⟨hm2, fun i h => by have h3 := hp.2 i h; rw [← hi i h] at h3; omega, by omega⟩
theorem putL_five {q : Req} (h : chkQ q = 0) (n1 : q.c ≠ 20) : 5 ≤ (putL q).length := by
  have hm := (chk_zero h).1
  rw [putL, if_pos h, pduQ]
  unfold pduOf tl
  rcases mm_pos hm with h | h | h | h | h | h | h | h | h
  all_goals first | (exact absurd h n1) | (rw [h]; simp [wbytes_length]; done) | (simp [h, wbytes_length]; omega) | (simp [h, wbytes_length])

end Go.Proofs.YtcmbdhmhkfhjfaaGreat
