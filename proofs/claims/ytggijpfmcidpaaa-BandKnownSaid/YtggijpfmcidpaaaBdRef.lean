/-
  Contracts of Check of package band, and of the document's answers of layer 7: Check, Distance, Told, Step.
-/
import Derived.Test.YtggijpfmcidpaaaBdStepAny
namespace Go.Proofs.Ytggijpfmcidpaaa
open Go.RowKit
set_option linter.unusedVariables false

theorem chkB_ok {d q : Int} (h1 : ¬ d < 0) (h2 : ¬ d > 1099511627776) (h3 : ¬ q < 0) (h4 : ¬ q > 1099511627776) : chkB d q = 0 := by unfold chkB; rw [if_pos (by omega)]
theorem chkB_no {d q : Int} (h : d < 0 ∨ d > 1099511627776 ∨ q < 0 ∨ q > 1099511627776) : chkB d q = 26 := by unfold chkB; rw [if_neg (by omega)]
theorem chk_split (d q : Int) : (d < 0) ∨ (¬ d < 0 ∧ d > 1099511627776) ∨ (¬ d < 0 ∧ ¬ d > 1099511627776 ∧ q < 0) ∨ (¬ d < 0 ∧ ¬ d > 1099511627776 ∧ ¬ q < 0 ∧ q > 1099511627776) ∨ (¬ d < 0 ∧ ¬ d > 1099511627776 ∧ ¬ q < 0 ∧ ¬ q > 1099511627776) := by omega
theorem Check_any (d q : Int) (w : World) : Calls Try.prog 11 #[.agg #[.int .i64 d, .int .i64 q]] w fun e w' => e = .returned (.int .i64 (chkB d q)) ∧ Below w.heap.size w w' := by
  rcases chk_split d q with h | ⟨h1, h⟩ | ⟨h1, h2, h⟩ | ⟨h1, h2, h3, h⟩ | ⟨h1, h2, h3, h4⟩
  case' inr.inr.inr.inr => have HC := Lib.hid (chkB_ok h1 h2 h3 h4)
  case' inr.inr.inr.inl => have HC := Lib.hid (chkB_no (d := d) (q := q) (.inr (.inr (.inr h))))
  case' inr.inr.inl => have HC := Lib.hid (chkB_no (d := d) (q := q) (.inr (.inr (.inl h))))
  case' inr.inl => have HC := Lib.hid (chkB_no (d := d) (q := q) (.inr (.inl h)))
  case' inl => have HC := Lib.hid (chkB_no (d := d) (q := q) (.inl h))
  all_goals
    rw [HC.out]
    go_enter Try.func11, Try.ntmps11
    go_wp2
    go_ret
    exact ⟨rfl, bel_alloc _ _⟩
theorem refCheck_any (d q : Int) (w : World) : Calls Try.prog 12 #[.agg #[.int .i64 d, .int .i64 q]] w fun e w' => e = .returned (.int .i64 (chkB d q)) ∧ Below w.heap.size w w' := by
  rcases chk_split d q with h | ⟨h1, h⟩ | ⟨h1, h2, h⟩ | ⟨h1, h2, h3, h⟩ | ⟨h1, h2, h3, h4⟩
  case' inr.inr.inr.inr => have HC := Lib.hid (chkB_ok h1 h2 h3 h4)
  case' inr.inr.inr.inl => have HC := Lib.hid (chkB_no (d := d) (q := q) (.inr (.inr (.inr h))))
  case' inr.inr.inl => have HC := Lib.hid (chkB_no (d := d) (q := q) (.inr (.inr (.inl h))))
  case' inr.inl => have HC := Lib.hid (chkB_no (d := d) (q := q) (.inr (.inl h)))
  case' inl => have HC := Lib.hid (chkB_no (d := d) (q := q) (.inl h))
  all_goals
    rw [HC.out]
    go_enter Try.func12, Try.ntmps12
    go_wp2
    go_ret
    exact ⟨rfl, bel_alloc _ _⟩

theorem refDistance_any (a b : Int) (ha : (-9223372036854775808 ≤ a ∧ a < 9223372036854775808)) (hb : (-9223372036854775808 ≤ b ∧ b < 9223372036854775808)) (w : World) : Calls Try.prog 29 #[.int .i64 a, .int .i64 b] w fun e w' => e = .returned (.int .u64 (distI a b)) ∧ w' = w := by
  by_cases h : a < b
  · have e3 := sub_uint b a hb ha (by omega)
    rw [distI_lo (by omega)]
    go_enter Try.func29, Try.ntmps29
    go_wp2
    go_ret
    refine ⟨congrArg (fun z => Ending.returned (Value.int .u64 z)) ?_, rfl⟩
    show _ = _
    omega
  · have e3 := sub_uint a b ha hb (by omega)
    rw [distI_hi (by omega)]
    go_enter Try.func29, Try.ntmps29
    go_wp2
    go_ret
    refine ⟨congrArg (fun z => Ending.returned (Value.int .u64 z)) ?_, rfl⟩
    show _ = _
    omega

/-- The document's Told, behind its first test. -/
theorem told_hs {d q hv ht x y : Int} : toldB d q ⟨true, hv, ht⟩ (x, y) = (farB d x hv || dueB q ht y) := rfl
theorem farB_le {d : Int} (a b : Int) (h : d ≤ 0) : farB d a b = decide (0 < distI a b) := by unfold farB; rw [show max d 0 = 0 by omega]
/-- Three boxes. -/
def Three (w0 : World) (a b c : Obj) (w : World) : Prop := w.heap[w0.heap.size]? = some a ∧ w.heap[w0.heap.size + 1]? = some b ∧ w.heap[w0.heap.size + 1 + 1]? = some c ∧ Below w0.heap.size w0 w
theorem Three.new (w : World) (a b c : Obj) : Three w a b c (((w.alloc a).alloc b).alloc c) := by
  have s1 : (w.alloc a).heap.size = w.heap.size + 1 := by simp
  have s2 : ((w.alloc a).alloc b).heap.size = w.heap.size + 1 + 1 := by simp
  refine ⟨?_, ?_, ?_, ((bel_alloc w a).alloc (by simp) b).alloc (by simp; omega) c⟩
  · exact (heap_alloc_old _ _ (by omega)).trans ((heap_alloc_old _ _ (by omega)).trans (heap_alloc_new _ _))
  · rw [← s1]; exact (heap_alloc_old _ _ (by omega)).trans (heap_alloc_new _ _)
  · rw [← s2]; exact heap_alloc_new _ _

set_option maxHeartbeats 1000000 in
theorem Told_any (d q hv ht x y : Int) (hs : Bool) (hd : (-9223372036854775808 ≤ d ∧ d < 9223372036854775808)) (hq : (-9223372036854775808 ≤ q ∧ q < 9223372036854775808)) (hhv : (-9223372036854775808 ≤ hv ∧ hv < 9223372036854775808)) (hht : (-9223372036854775808 ≤ ht ∧ ht < 9223372036854775808)) (hx : (-9223372036854775808 ≤ x ∧ x < 9223372036854775808)) (hy : (-9223372036854775808 ≤ y ∧ y < 9223372036854775808)) (w : World) : Calls Try.prog 24 #[.agg #[.int .i64 d, .int .i64 q], .agg #[.bool hs, .int .i64 hv, .int .i64 ht], .agg #[.int .i64 x, .int .i64 y]] w fun e w' => e = .returned (.bool (toldB d q ⟨hs, hv, ht⟩ (x, y))) ∧ Below w.heap.size w w' := by
  have fr := Three.new w (.cells #[.int .i64 d, .int .i64 q] 23) (.cells #[.bool hs, .int .i64 hv, .int .i64 ht] 25) (.cells #[.int .i64 x, .int .i64 y] 27)
  have hwd : ∀ h : 0 < d, IntKind.u64.wrap d = d := fun h => by rw [IntKind.wrap_u64]; omega
  cases hs with
  | false =>
    have HT : Hid (toldB d q ⟨false, hv, ht⟩ (x, y) = true) := Lib.hid rfl
    rw [HT.out]
    rcases Int.lt_or_le 0 d with h | h
    · have hwd := hwd h
      go_enter Try.func24, Try.ntmps24
      go_wp2
      go_ret
      exact ⟨rfl, fr.2.2.2⟩
    · have hn : ¬ 0 < d := by omega
      clear hwd
      go_enter Try.func24, Try.ntmps24
      go_wp2
      go_ret
      exact ⟨rfl, fr.2.2.2⟩
  | true =>
  rcases Int.lt_or_le 0 d with h | h
  · have hwd := hwd h
    have hd2 : d < distI x hv ∨ ¬ d < distI x hv := Decidable.em _
    rcases hd2 with hd2 | hd2
    · have HT : Hid (toldB d q ⟨true, hv, ht⟩ (x, y) = true) := Lib.hid (by rw [told_hs, farB_pos x hv (by omega), decide_eq_true hd2]; rfl)
      rw [HT.out]
      go_enter Try.func24, Try.ntmps24
      go_wp2_with fail
      refine (refDistance_any x hv hx hhv _).mono ?_
      rintro e w' ⟨rfl, rfl⟩
      go_wp2
      go_ret
      exact ⟨rfl, fr.2.2.2⟩
    · have HT : Hid (toldB d q ⟨true, hv, ht⟩ (x, y) = dueB q ht y) := Lib.hid (by rw [told_hs, farB_pos x hv (by omega), decide_eq_false hd2]; rfl)
      rw [HT.out]
      by_cases h1 : 0 < q
      · by_cases h2 : ht ≤ y
        · have hf : Hid (dueB q ht y = decide (q ≤ distI y ht)) := Lib.hid (by unfold dueB; simp [h1, h2])
          have hw : IntKind.u64.wrap q = q := by rw [IntKind.wrap_u64]; omega
          go_enter Try.func24, Try.ntmps24
          go_wp2_with fail
          refine (refDistance_any x hv hx hhv _).mono ?_
          rintro e w' ⟨rfl, rfl⟩
          go_wp2
          go_quiet ((go_at_call 29; refine Calls.quiet_of_same (refDistance_any y ht hy hht _)))
          go_wp2
          go_ret
          exact ⟨by rw [hf.out]; rfl, below_drewN fr.2.2.2 _⟩
        · have hf : Hid (dueB q ht y = false) := Lib.hid (by unfold dueB; simp [h2])
          have t2 : decide (ht ≤ y) = false := decide_eq_false h2
          clear h2
          go_enter Try.func24, Try.ntmps24
          go_wp2_with fail
          refine (refDistance_any x hv hx hhv _).mono ?_
          rintro e w' ⟨rfl, rfl⟩
          go_wp2
          go_quiet (fail)
          go_wp2
          go_ret
          exact ⟨by rw [hf.out]; rfl, below_drewN fr.2.2.2 _⟩
      · have hf : Hid (dueB q ht y = false) := Lib.hid (by unfold dueB; simp [h1])
        have t1 : decide (0 < q) = false := decide_eq_false h1
        clear h1
        go_enter Try.func24, Try.ntmps24
        go_wp2_with fail
        refine (refDistance_any x hv hx hhv _).mono ?_
        rintro e w' ⟨rfl, rfl⟩
        go_wp2
        go_quiet (fail)
        go_wp2
        go_ret
        exact ⟨by rw [hf.out]; rfl, below_drewN fr.2.2.2 _⟩
  · have hn : ¬ 0 < d := by omega
    clear hwd
    have hd2 : (0 : Int) < distI x hv ∨ ¬ (0 : Int) < distI x hv := Decidable.em _
    rcases hd2 with hd2 | hd2
    · have HT : Hid (toldB d q ⟨true, hv, ht⟩ (x, y) = true) := Lib.hid (by rw [told_hs, farB_le x hv (by omega), decide_eq_true hd2]; rfl)
      rw [HT.out]
      go_enter Try.func24, Try.ntmps24
      go_wp2_with fail
      refine (refDistance_any x hv hx hhv _).mono ?_
      rintro e w' ⟨rfl, rfl⟩
      go_wp2
      go_ret
      exact ⟨rfl, fr.2.2.2⟩
    · have HT : Hid (toldB d q ⟨true, hv, ht⟩ (x, y) = dueB q ht y) := Lib.hid (by rw [told_hs, farB_le x hv (by omega), decide_eq_false hd2]; rfl)
      rw [HT.out]
      by_cases h1 : 0 < q
      · by_cases h2 : ht ≤ y
        · have hf : Hid (dueB q ht y = decide (q ≤ distI y ht)) := Lib.hid (by unfold dueB; simp [h1, h2])
          have hw : IntKind.u64.wrap q = q := by rw [IntKind.wrap_u64]; omega
          go_enter Try.func24, Try.ntmps24
          go_wp2_with fail
          refine (refDistance_any x hv hx hhv _).mono ?_
          rintro e w' ⟨rfl, rfl⟩
          go_wp2
          go_quiet ((go_at_call 29; refine Calls.quiet_of_same (refDistance_any y ht hy hht _)))
          go_wp2
          go_ret
          exact ⟨by rw [hf.out]; rfl, below_drewN fr.2.2.2 _⟩
        · have hf : Hid (dueB q ht y = false) := Lib.hid (by unfold dueB; simp [h2])
          have t2 : decide (ht ≤ y) = false := decide_eq_false h2
          clear h2
          go_enter Try.func24, Try.ntmps24
          go_wp2_with fail
          refine (refDistance_any x hv hx hhv _).mono ?_
          rintro e w' ⟨rfl, rfl⟩
          go_wp2
          go_quiet (fail)
          go_wp2
          go_ret
          exact ⟨by rw [hf.out]; rfl, below_drewN fr.2.2.2 _⟩
      · have hf : Hid (dueB q ht y = false) := Lib.hid (by unfold dueB; simp [h1])
        have t1 : decide (0 < q) = false := decide_eq_false h1
        clear h1
        go_enter Try.func24, Try.ntmps24
        go_wp2_with fail
        refine (refDistance_any x hv hx hhv _).mono ?_
        rintro e w' ⟨rfl, rfl⟩
        go_wp2
        go_quiet (fail)
        go_wp2
        go_ret
        exact ⟨by rw [hf.out]; rfl, below_drewN fr.2.2.2 _⟩
end Go.Proofs.Ytggijpfmcidpaaa
