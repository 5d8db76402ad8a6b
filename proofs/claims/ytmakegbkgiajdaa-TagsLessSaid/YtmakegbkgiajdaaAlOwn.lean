/-
  Contracts of the program's own small functions of layer 8: fits, known, Check, the sides and what they hold, raise, settle, Ack.
-/
import Derived.Test.YtmakegbkgiajdaaAlRefAck
import Derived.Laws.EntriesVeiled
namespace Go.Proofs.Ytmakegbkgiajdaa
open Go.RowKit
set_option linter.unusedVariables false

def fitsB (use : Bool) (v : Int) : Bool := bif use then decide (v ≥ -1099511627776) && decide (v ≤ 1099511627776) else decide (v = 0)
theorem fits_any (use : Bool) (v : Int) (w : World) : Calls Try.prog 38 #[.bool use, .int .i64 v] w fun e w' => e = .returned (.bool (fitsB use v)) ∧ w' = w := by
  cases use
  · have HB : Hid (fitsB false v = (v == 0)) := Lib.hid (by unfold fitsB; rw [cond_false]; by_cases h : v = 0 <;> simp [h])
    rw [HB.out]
    go_enter Try.func38, Try.ntmps38
    go_wp2
    go_ret
    exact ⟨rfl, rfl⟩
  · by_cases h : v ≥ -1099511627776
    · have HB : Hid (fitsB true v = decide (v ≤ 1099511627776)) := Lib.hid (by unfold fitsB; rw [cond_true, decide_eq_true h, Bool.true_and])
      rw [HB.out]
      go_enter Try.func38, Try.ntmps38
      go_wp2
      go_ret
      exact ⟨rfl, rfl⟩
    · have HB : Hid (fitsB true v = false) := Lib.hid (by unfold fitsB; rw [cond_true, decide_eq_false h, Bool.false_and])
      rw [HB.out]
      go_enter Try.func38, Try.ntmps38
      go_wp2
      go_ret
      exact ⟨rfl, rfl⟩

theorem fits_false {use : Bool} {v : Int} (h : fitsB use v = false) : (beyB v = true) ∨ (use = false ∧ v ≠ 0) := by
  cases use
  · right
    refine ⟨rfl, ?_⟩
    simpa [fitsB] using h
  · left
    simp only [fitsB, cond_true, Bool.and_eq_false_iff, decide_eq_false_iff_not] at h
    simp only [beyB, Bool.or_eq_true, decide_eq_true_eq]
    omega
theorem fits_true {use : Bool} {v : Int} (h : fitsB use v = true) : beyB v = false ∧ (use = true ∨ v = 0) := by
  cases use
  · have h0 : v = 0 := by simpa [fitsB] using h
    subst h0
    exact ⟨rfl, .inr rfl⟩
  · simp only [fitsB, cond_true, Bool.and_eq_true, decide_eq_true_eq] at h
    refine ⟨?_, .inl rfl⟩
    simp only [beyB, Bool.or_eq_false_iff, decide_eq_false_iff_not]
    omega

theorem pchk_cases (l : Lim) (P : Prop)
    (c1 : l.hy < 0 → chkL l = 27 → P)
    (c2 : ¬ l.hy < 0 → l.hy > 1099511627776 → chkL l = 27 → P)
    (c3 : ¬ l.hy < 0 → ¬ l.hy > 1099511627776 → fitsB l.ul l.lo = false → chkL l = 27 → P)
    (c4 : ¬ l.hy < 0 → ¬ l.hy > 1099511627776 → fitsB l.ul l.lo = true → fitsB l.uh l.hi = false → chkL l = 27 → P)
    (c5 : ¬ l.hy < 0 → ¬ l.hy > 1099511627776 → fitsB l.ul l.lo = true → fitsB l.uh l.hi = true → l.ul = false → chkL l = 0 → P)
    (c6 : ¬ l.hy < 0 → ¬ l.hy > 1099511627776 → fitsB l.ul l.lo = true → fitsB l.uh l.hi = true → l.ul = true → l.uh = false → chkL l = 0 → P)
    (c7 : ¬ l.hy < 0 → ¬ l.hy > 1099511627776 → fitsB l.ul l.lo = true → fitsB l.uh l.hi = true → l.ul = true → l.uh = true → l.hy ≥ l.hi - l.lo → chkL l = 27 → P)
    (c8 : ¬ l.hy < 0 → ¬ l.hy > 1099511627776 → fitsB l.ul l.lo = true → fitsB l.uh l.hi = true → l.ul = true → l.uh = true → ¬ l.hy ≥ l.hi - l.lo → chkL l = 0 → P) : P := by
  cases h3 : fitsB l.ul l.lo
  case false =>
    refine chk_cases l P c1 c2 ?_ ?_ ?_ ?_ ?_ ?_ ?_ ?_ ?_ ?_
    all_goals intro h1 h2
    · intro _; exact c3 h1 h2 h3
    · intro _ _; exact c3 h1 h2 h3
    · intro _ _ _ _; exact c3 h1 h2 h3
    · intro _ _ _ _ _ _; exact c3 h1 h2 h3
    · intro _ _ _ _ _; exact c3 h1 h2 h3
    all_goals
      intros
      rcases fits_false h3 with h | ⟨h, h'⟩
      · simp_all
      · simp_all
  case true =>
  obtain ⟨t1, t2⟩ := fits_true h3
  cases h4 : fitsB l.uh l.hi
  case false =>
    refine chk_cases l P c1 c2 ?_ ?_ ?_ ?_ ?_ ?_ ?_ ?_ ?_ ?_
    all_goals intro h1 h2
    · intro h; rw [t1] at h; cases h
    · intro _ _; exact c4 h1 h2 h3 h4
    · intro _ _ h h'; rw [h] at t2; rcases t2 with t2 | t2
      · cases t2
      · exact absurd t2 h'
    · intro _ _ _ _ _ _; exact c4 h1 h2 h3 h4
    · intro _ _ _ _ _; exact c4 h1 h2 h3 h4
    all_goals
      intros
      rcases fits_false h4 with h | ⟨h, h'⟩
      · simp_all
      · simp_all
  case true =>
  obtain ⟨u1, u2⟩ := fits_true h4
  refine chk_cases l P c1 c2 ?_ ?_ ?_ ?_ ?_ ?_ ?_ ?_ ?_ ?_
  all_goals intro h1 h2
  · intro h; rw [t1] at h; cases h
  · intro _ h; rw [u1] at h; cases h
  · intro _ _ h h'; rw [h] at t2; rcases t2 with t2 | t2
    · cases t2
    · exact absurd t2 h'
  · intro _ _ _ _ h h'; rw [h] at u2; rcases u2 with u2 | u2
    · cases u2
    · exact absurd u2 h'
  · intro _ _ _ h h'; rw [h] at u2; rcases u2 with u2 | u2
    · cases u2
    · exact absurd u2 h'
  · intro _ _ h _ _ _; exact c5 h1 h2 h3 h4 h
  · intro _ _ h _ _; exact c5 h1 h2 h3 h4 h
  · intro _ _ h h' _; exact c6 h1 h2 h3 h4 h h'
  · intro _ _ h h' h9; exact c7 h1 h2 h3 h4 h h' h9
  · intro _ _ h h' h9; exact c8 h1 h2 h3 h4 h h' h9

set_option maxHeartbeats 2000000 in
theorem Check8_any (ul uh la : Bool) (lo hi hy : Int) (w : World) : Calls Try.prog 35 #[.agg #[.bool ul, .bool uh, .bool la, .int .i64 lo, .int .i64 hi, .int .i64 hy]] w fun e w' => e = .returned (.int .i64 (chkL ⟨ul, uh, la, lo, hi, hy⟩)) ∧ Below w.heap.size w w' := by
  have bel := bel_alloc w (.cells #[.bool ul, .bool uh, .bool la, .int .i64 lo, .int .i64 hi, .int .i64 hy] 27)
  refine pchk_cases ⟨ul, uh, la, lo, hi, hy⟩ _ ?_ ?_ ?_ ?_ ?_ ?_ ?_ ?_ <;> simp only
  · intro h1 HC
    rw [HC]
    clear HC
    go_enter Try.func35, Try.ntmps35
    go_wp2
    go_ret
    exact ⟨rfl, bel⟩
  · intro h1 h2 HC
    rw [HC]
    clear HC
    go_enter Try.func35, Try.ntmps35
    go_wp2
    go_ret
    exact ⟨rfl, bel⟩
  · intro h1 h2 h3 HC
    rw [HC]
    clear HC
    go_enter Try.func35, Try.ntmps35
    go_wp2_with fail
    refine (fits_any ul lo _).mono ?_
    rintro e w' ⟨rfl, rfl⟩
    rw [h3]
    go_wp2
    go_ret
    exact ⟨rfl, bel⟩
  · intro h1 h2 h3 h4 HC
    rw [HC]
    clear HC
    go_enter Try.func35, Try.ntmps35
    go_wp2_with fail
    refine (fits_any ul lo _).mono ?_
    rintro e w' ⟨rfl, rfl⟩
    rw [h3]
    go_wp2_with fail
    refine (fits_any uh hi _).mono ?_
    rintro e w' ⟨rfl, rfl⟩
    rw [h4]
    go_wp2
    go_ret
    exact ⟨rfl, bel⟩
  · intro h1 h2 h3 h4 h5 HC
    rw [HC]
    clear HC
    subst h5
    go_enter Try.func35, Try.ntmps35
    go_wp2_with fail
    refine (fits_any false lo _).mono ?_
    rintro e w' ⟨rfl, rfl⟩
    rw [h3]
    go_wp2_with fail
    refine (fits_any uh hi _).mono ?_
    rintro e w' ⟨rfl, rfl⟩
    rw [h4]
    go_wp2
    go_ret
    exact ⟨rfl, bel⟩
  · intro h1 h2 h3 h4 h5 h6 HC
    rw [HC]
    clear HC
    subst h5 h6
    go_enter Try.func35, Try.ntmps35
    go_wp2_with fail
    refine (fits_any true lo _).mono ?_
    rintro e w' ⟨rfl, rfl⟩
    rw [h3]
    go_wp2_with fail
    refine (fits_any false hi _).mono ?_
    rintro e w' ⟨rfl, rfl⟩
    rw [h4]
    go_wp2
    go_ret
    exact ⟨rfl, bel⟩
  all_goals
    intro h1 h2 h3 h4 h5 h6 h9 HC
    rw [HC]
    clear HC
    subst h5 h6
    have hw : IntKind.i64.wrap (hi - lo) = hi - lo := by
      have := bey_false (fits_true h3).1
      have := bey_false (fits_true h4).1
      rw [IntKind.wrap_i64]; omega
    go_enter Try.func35, Try.ntmps35
    go_wp2_with fail
    refine (fits_any true lo _).mono ?_
    rintro e w' ⟨rfl, rfl⟩
    rw [h3]
    go_wp2_with fail
    refine (fits_any true hi _).mono ?_
    rintro e w' ⟨rfl, rfl⟩
    rw [h4]
    go_wp2
    go_ret
    exact ⟨rfl, bel⟩

/-- What the sides' functions say; g: the box of the limits. -/
def leftLow (l : Lim) (v : Int) : Bool := !l.ul || decide (v > l.lo + l.hy)
def leftHigh (l : Lim) (v : Int) : Bool := !l.uh || decide (v < l.hi - l.hy)
end Go.Proofs.Ytmakegbkgiajdaa
