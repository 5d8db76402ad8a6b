/-
  Contracts of the program's own small functions of layer 8: fits, known, Check, the sides and what they hold, raise, settle, Ack.
-/
import Derived.Test.YtlbblddpfijciaaAlRefAck
import Derived.Laws.EntriesVeiled
namespace Go.Proofs.Ytlbblddpfijciaa
open Go.RowKit
set_option linter.unusedVariables false

def fitsB (use : Bool) (v : Int) : Bool := bif use then decide (v ≥ -1099511627776) && decide (v ≤ 1099511627776) else decide (v = 0)
theorem fits_any (use : Bool) (v : Int) (w : World) : Calls Try.prog 26 #[.bool use, .int .i64 v] w fun e w' => e = .returned (.bool (fitsB use v)) ∧ w' = w := by
  cases use
  · have HB : Hid (fitsB false v = (v == 0)) := Lib.hid (by unfold fitsB; rw [cond_false]; by_cases h : v = 0 <;> simp [h])
    rw [HB.out]
    go_enter Try.func26, Try.ntmps26
    go_wp2
    go_ret
    exact ⟨rfl, rfl⟩
  · by_cases h : v ≥ -1099511627776
    · have HB : Hid (fitsB true v = decide (v ≤ 1099511627776)) := Lib.hid (by unfold fitsB; rw [cond_true, decide_eq_true h, Bool.true_and])
      rw [HB.out]
      go_enter Try.func26, Try.ntmps26
      go_wp2
      go_ret
      exact ⟨rfl, rfl⟩
    · have HB : Hid (fitsB true v = false) := Lib.hid (by unfold fitsB; rw [cond_true, decide_eq_false h, Bool.false_and])
      rw [HB.out]
      go_enter Try.func26, Try.ntmps26
      go_wp2
      go_ret
      exact ⟨rfl, rfl⟩

theorem fits_false {use : Bool} {v : Int} (h : fitsB use v = false) : (beyB v = true) ∨ (use = false ∧ v ≠ 0) := by
  cases use
  · right
    refine ⟨rfl, ?_⟩
    simpa [fitsB] using h
  · left
    simp only [fitsB, cond_true, Bool.and_eq_false_iff, decide_eq_false_iff_not] at h
    simp only [beyB, Bool.or_eq_true, decide_eq_true_eq]
    omega
theorem fits_true {use : Bool} {v : Int} (h : fitsB use v = true) : beyB v = false ∧ (use = true ∨ v = 0) := by
  cases use
  · have h0 : v = 0 := by simpa [fitsB] using h
    subst h0
    exact ⟨rfl, .inr rfl⟩
  · simp only [fitsB, cond_true, Bool.and_eq_true, decide_eq_true_eq] at h
    refine ⟨?_, .inl rfl⟩
    simp only [beyB, Bool.or_eq_false_iff, decide_eq_false_iff_not]
    omega

theorem pchk_cases (l : Lim) (P : Prop)
    (c1 : l.hy < 0 → chkL l = 27 → P)
    (c2 : ¬ l.hy < 0 → l.hy > 1099511627776 → chkL l = 27 → P)
    (c3 : ¬ l.hy < 0 → ¬ l.hy > 1099511627776 → fitsB l.ul l.lo = false → chkL l = 27 → P)
    (c4 : ¬ l.hy < 0 → ¬ l.hy > 1099511627776 → fitsB l.ul l.lo = true → fitsB l.uh l.hi = false → chkL l = 27 → P)
    (c5 : ¬ l.hy < 0 → ¬ l.hy > 1099511627776 → fitsB l.ul l.lo = true → fitsB l.uh l.hi = true → l.ul = false → chkL l = 0 → P)
    (c6 : ¬ l.hy < 0 → ¬ l.hy > 1099511627776 → fitsB l.ul l.lo = true → fitsB l.uh l.hi = true → l.ul = true → l.uh = false → chkL l = 0 → P)
    (c7 : ¬ l.hy < 0 → ¬ l.hy > 1099511627776 → fitsB l.ul l.lo = true → fitsB l.uh l.hi = true → l.ul = true → l.uh = true → l.hy ≥ l.hi - l.lo → chkL l = 27 → P)
    (c8 : ¬ l.hy < 0 → ¬ l.hy > 1099511627776 → fitsB l.ul l.lo = true → fitsB l.uh l.hi = true → l.ul = true → l.uh = true → ¬ l.hy ≥ l.hi - l.lo → chkL l = 0 → P) : P := by
  cases h3 : fitsB l.ul l.lo
  case false =>
    refine chk_cases l P c1 c2 ?_ ?_ ?_ ?_ ?_ ?_ ?_ ?_ ?_ ?_
    all_goals intro h1 h2
    · intro _; exact c3 h1 h2 h3
    · intro _ _; exact c3 h1 h2 h3
    · intro _ _ _ _; exact c3 h1 h2 h3
    · intro _ _ _ _ _ _; exact c3 h1 h2 h3
    · intro _ _ _ _ _; exact c3 h1 h2 h3
    all_goals
      intros
      rcases fits_false h3 with h | ⟨h, h'⟩
      · simp_all
      · simp_all
  case true =>
  obtain ⟨t1, t2⟩ := fits_true h3
  cases h4 : fitsB l.uh l.hi
  case false =>
    refine chk_cases l P c1 c2 ?_ ?_ ?_ ?_ ?_ ?_ ?_ ?_ ?_ ?_
    all_goals intro h1 h2
    · intro h; rw [t1] at h; cases h
    · intro _ _; exact c4 h1 h2 h3 h4
    · intro _ _ h h'; rw [h] at t2; rcases t2 with t2 | t2
      · cases t2
      · exact absurd t2 h'
    · intro _ _ _ _ _ _; exact c4 h1 h2 h3 h4
    · intro _ _ _ _ _; exact c4 h1 h2 h3 h4
    all_goals
      intros
      rcases fits_false h4 with h | ⟨h, h'⟩
      · simp_all
      · simp_all
  case true =>
  obtain ⟨u1, u2⟩ := fits_true h4
  refine chk_cases l P c1 c2 ?_ ?_ ?_ ?_ ?_ ?_ ?_ ?_ ?_ ?_
  all_goals intro h1 h2
  · intro h; rw [t1] at h; cases h
  · intro _ h; rw [u1] at h; cases h
  · intro _ _ h h'; rw [h] at t2; rcases t2 with t2 | t2
    · cases t2
    · exact absurd t2 h'
  · intro _ _ _ _ h h'; rw [h] at u2; rcases u2 with u2 | u2
    · cases u2
    · exact absurd u2 h'
  · intro _ _ _ h h'; rw [h] at u2; rcases u2 with u2 | u2
    · cases u2
    · exact absurd u2 h'
  · intro _ _ h _ _ _; exact c5 h1 h2 h3 h4 h
  · intro _ _ h _ _; exact c5 h1 h2 h3 h4 h
  · intro _ _ h h' _; exact c6 h1 h2 h3 h4 h h'
  · intro _ _ h h' h9; exact c7 h1 h2 h3 h4 h h' h9
  · intro _ _ h h' h9; exact c8 h1 h2 h3 h4 h h' h9

set_option maxHeartbeats 2000000 in
theorem Check8_any (ul uh la : Bool) (lo hi hy : Int) (w : World) : Calls Try.prog 14 #[.agg #[.bool ul, .bool uh, .bool la, .int .i64 lo, .int .i64 hi, .int .i64 hy]] w fun e w' => e = .returned (.int .i64 (chkL ⟨ul, uh, la, lo, hi, hy⟩)) ∧ Below w.heap.size w w' := by
  have bel := bel_alloc w (.cells #[.bool ul, .bool uh, .bool la, .int .i64 lo, .int .i64 hi, .int .i64 hy] 23)
  refine pchk_cases ⟨ul, uh, la, lo, hi, hy⟩ _ ?_ ?_ ?_ ?_ ?_ ?_ ?_ ?_ <;> simp only
  · intro h1 HC
    rw [HC]
    clear HC
    go_enter Try.func14, Try.ntmps14
    go_wp2
    go_ret
    exact ⟨rfl, bel⟩
  · intro h1 h2 HC
    rw [HC]
    clear HC
    go_enter Try.func14, Try.ntmps14
    go_wp2
    go_ret
    exact ⟨rfl, bel⟩
  · intro h1 h2 h3 HC
    rw [HC]
    clear HC
    go_enter Try.func14, Try.ntmps14
    go_wp2_with fail
    refine (fits_any ul lo _).mono ?_
    rintro e w' ⟨rfl, rfl⟩
    rw [h3]
    go_wp2
    go_ret
    exact ⟨rfl, bel⟩
  · intro h1 h2 h3 h4 HC
    rw [HC]
    clear HC
    go_enter Try.func14, Try.ntmps14
    go_wp2_with fail
    refine (fits_any ul lo _).mono ?_
    rintro e w' ⟨rfl, rfl⟩
    rw [h3]
    go_wp2_with fail
    refine (fits_any uh hi _).mono ?_
    rintro e w' ⟨rfl, rfl⟩
    rw [h4]
    go_wp2
    go_ret
    exact ⟨rfl, bel⟩
  · intro h1 h2 h3 h4 h5 HC
    rw [HC]
    clear HC
    subst h5
    go_enter Try.func14, Try.ntmps14
    go_wp2_with fail
    refine (fits_any false lo _).mono ?_
    rintro e w' ⟨rfl, rfl⟩
    rw [h3]
    go_wp2_with fail
    refine (fits_any uh hi _).mono ?_
    rintro e w' ⟨rfl, rfl⟩
    rw [h4]
    go_wp2
    go_ret
    exact ⟨rfl, bel⟩
  · intro h1 h2 h3 h4 h5 h6 HC
    rw [HC]
    clear HC
    subst h5 h6
    go_enter Try.func14, Try.ntmps14
    go_wp2_with fail
    refine (fits_any true lo _).mono ?_
    rintro e w' ⟨rfl, rfl⟩
    rw [h3]
    go_wp2_with fail
    refine (fits_any false hi _).mono ?_
    rintro e w' ⟨rfl, rfl⟩
    rw [h4]
    go_wp2
    go_ret
    exact ⟨rfl, bel⟩
  all_goals
    intro h1 h2 h3 h4 h5 h6 h9 HC
    rw [HC]
    clear HC
    subst h5 h6
    have hw : IntKind.i64.wrap (hi - lo) = hi - lo := by
      have := bey_false (fits_true h3).1
      have := bey_false (fits_true h4).1
      rw [IntKind.wrap_i64]; omega
    go_enter Try.func14, Try.ntmps14
    go_wp2_with fail
    refine (fits_any true lo _).mono ?_
    rintro e w' ⟨rfl, rfl⟩
    rw [h3]
    go_wp2_with fail
    refine (fits_any true hi _).mono ?_
    rintro e w' ⟨rfl, rfl⟩
    rw [h4]
    go_wp2
    go_ret
    exact ⟨rfl, bel⟩

theorem known_any8 (st : Int) (w : World) : Calls Try.prog 19 #[.int .i64 st] w fun e w' => e = .returned (.bool (isSt st)) ∧ w' = w := by
  by_cases h0 : st = 0
  · subst h0
    rw [show isSt 0 = true from rfl]
    go_enter Try.func19, Try.ntmps19
    go_wp2
    go_ret
    exact ⟨rfl, rfl⟩
  · have e0 : (st == 0) = false := by simp [h0]
    by_cases h1 : st = 1
    · subst h1
      rw [show isSt 1 = true from rfl]
      go_enter Try.func19, Try.ntmps19
      go_wp2
      go_ret
      exact ⟨rfl, rfl⟩
    · have e1 : (st == 1) = false := by simp [h1]
      have HB : Hid (isSt st = (st == 2)) := Lib.hid (by unfold isSt; rw [decide_eq_false h0, decide_eq_false h1, Bool.false_or, Bool.false_or]; by_cases h : st = 2 <;> simp [h])
      rw [HB.out]
      go_enter Try.func19, Try.ntmps19
      go_wp2
      go_ret
      exact ⟨rfl, rfl⟩

theorem raise_same (s ev : Int) (f1 f2 : Value) (wt : Bool) (w : World) : Calls Try.prog 21 #[.agg #[.int .i64 s, .int .i64 ev, f1, f2], .agg #[.int .i64 s, .bool wt]] w fun e w' => e = .returned (stepR (⟨s, wt⟩, 0)) ∧ Below w.heap.size w w' := by
  have bel := ((bel_two w (.cells #[.int .i64 s, .int .i64 ev, f1, f2] 43) (.cells #[.int .i64 s, .bool wt] 25)).alloc (by simp; omega) (.cells #[.int .i64 s, .bool wt] 25))
  have e0 : (s == s) = true := by simp
  simp only [stepR, almV]
  go_enter Try.func21, Try.ntmps21
  go_wp2
  (try simp only [Exit.inBlock, Exit.then])
  refine bodyPost_ret (v := .tuple #[.agg #[.int .i64 s, .bool wt], .int .i64 0]) (by simp [results, Try.results21, go_sem, *]) rfl ?_
  exact ⟨rfl, bel⟩
theorem raise_new (s ev st : Int) (f1 f2 : Value) (wt : Bool) (w : World) (h : ¬ st = s) : Calls Try.prog 21 #[.agg #[.int .i64 s, .int .i64 ev, f1, f2], .agg #[.int .i64 st, .bool wt]] w fun e w' => e = .returned (stepR (⟨s, true⟩, ev)) ∧ Below w.heap.size w w' := by
  have bel := ((bel_two w (.cells #[.int .i64 s, .int .i64 ev, f1, f2] 43) (.cells #[.int .i64 st, .bool wt] 25)).alloc (by simp; omega) (.cells #[.int .i64 s, .bool true] 25))
  have e0 : (st == s) = false := by simp [h]
  simp only [stepR, almV]
  go_enter Try.func21, Try.ntmps21
  go_wp2
  go_region
  go_wp2
  (try simp only [Exit.inBlock, Exit.then])
  refine bodyPost_ret (v := .tuple #[.agg #[.int .i64 s, .bool true], .int .i64 ev]) (by simp [results, Try.results21, go_sem, *]) rfl ?_
  exact ⟨rfl, below_drew bel⟩
theorem settle_any (ul uh la : Bool) (lo hi hy : Int) (st : Int) (wt : Bool) (w : World) : Calls Try.prog 22 #[.agg #[.bool ul, .bool uh, .bool la, .int .i64 lo, .int .i64 hi, .int .i64 hy], .agg #[.int .i64 st, .bool wt]] w fun e w' => e = .returned (stepR (bif la && wt then (⟨st, wt⟩, 0) else (⟨0, wt⟩, 3))) ∧ Below w.heap.size w w' := by
  cases la <;> cases wt
  case true.true =>
    have bel := ((bel_two w (.cells #[.bool ul, .bool uh, .bool true, .int .i64 lo, .int .i64 hi, .int .i64 hy] 23) (.cells #[.int .i64 st, .bool true] 25)).alloc (by simp; omega) (.cells #[.int .i64 st, .bool true] 25))
    rw [show stepR (bif true && true then (⟨st, true⟩, 0) else (⟨0, true⟩, 3)) = .tuple #[.agg #[.int .i64 st, .bool true], .int .i64 0] from rfl]
    go_enter Try.func22, Try.ntmps22
    go_wp2
    (try simp only [Exit.inBlock, Exit.then])
    refine bodyPost_ret (v := .tuple #[.agg #[.int .i64 st, .bool true], .int .i64 0]) (by simp [results, Try.results22, go_sem, *]) rfl ?_
    exact ⟨rfl, bel⟩
  case false.false =>
    have bel := ((bel_two w (.cells #[.bool ul, .bool uh, .bool false, .int .i64 lo, .int .i64 hi, .int .i64 hy] 23) (.cells #[.int .i64 st, .bool false] 25)).alloc (by simp; omega) (.cells #[.int .i64 0, .bool false] 25))
    rw [show stepR (bif false && false then (⟨st, false⟩, 0) else (⟨0, false⟩, 3)) = .tuple #[.agg #[.int .i64 0, .bool false], .int .i64 3] from rfl]
    go_enter Try.func22, Try.ntmps22
    go_wp2
    (try simp only [Exit.inBlock, Exit.then])
    refine bodyPost_ret (v := .tuple #[.agg #[.int .i64 0, .bool false], .int .i64 3]) (by simp [results, Try.results22, go_sem, *]) rfl ?_
    exact ⟨rfl, bel⟩
  case false.true =>
    have bel := ((bel_two w (.cells #[.bool ul, .bool uh, .bool false, .int .i64 lo, .int .i64 hi, .int .i64 hy] 23) (.cells #[.int .i64 st, .bool true] 25)).alloc (by simp; omega) (.cells #[.int .i64 0, .bool true] 25))
    rw [show stepR (bif false && true then (⟨st, true⟩, 0) else (⟨0, true⟩, 3)) = .tuple #[.agg #[.int .i64 0, .bool true], .int .i64 3] from rfl]
    go_enter Try.func22, Try.ntmps22
    go_wp2
    (try simp only [Exit.inBlock, Exit.then])
    refine bodyPost_ret (v := .tuple #[.agg #[.int .i64 0, .bool true], .int .i64 3]) (by simp [results, Try.results22, go_sem, *]) rfl ?_
    exact ⟨rfl, bel⟩
  case true.false =>
    have bel := ((bel_two w (.cells #[.bool ul, .bool uh, .bool true, .int .i64 lo, .int .i64 hi, .int .i64 hy] 23) (.cells #[.int .i64 st, .bool false] 25)).alloc (by simp; omega) (.cells #[.int .i64 0, .bool false] 25))
    rw [show stepR (bif true && false then (⟨st, false⟩, 0) else (⟨0, false⟩, 3)) = .tuple #[.agg #[.int .i64 0, .bool false], .int .i64 3] from rfl]
    go_enter Try.func22, Try.ntmps22
    go_wp2
    (try simp only [Exit.inBlock, Exit.then])
    refine bodyPost_ret (v := .tuple #[.agg #[.int .i64 0, .bool false], .int .i64 3]) (by simp [results, Try.results22, go_sem, *]) rfl ?_
    exact ⟨rfl, bel⟩
theorem Ack8_any (st : Int) (wt : Bool) (w : World) : Calls Try.prog 12 #[.agg #[.int .i64 st, .bool wt]] w fun e w' => e = .returned (ackR (ackA ⟨st, wt⟩)) ∧ Below w.heap.size w w' := by
  have bel := bel_two w (.cells #[.int .i64 st, .bool wt] 25) (.cells #[.int .i64 st, .bool false] 25)
  have HS : Hid (ackR (ackA ⟨st, wt⟩) = .tuple #[.agg #[.int .i64 st, .bool false], .bool wt]) := Lib.hid (by cases wt <;> rfl)
  rw [HS.out]
  go_enter Try.func12, Try.ntmps12
  go_wp2
  go_region
  go_wp2
  (try simp only [Exit.inBlock, Exit.then])
  refine bodyPost_ret (v := .tuple #[.agg #[.int .i64 st, .bool false], .bool wt]) (by simp [results, Try.results12, go_sem, *]) rfl ?_
  exact ⟨rfl, below_drew bel⟩
/-- What the sides' functions say; g: the box of the limits. -/
def leftLow (l : Lim) (v : Int) : Bool := !l.ul || decide (v > l.lo + l.hy)
def leftHigh (l : Lim) (v : Int) : Bool := !l.uh || decide (v < l.hi - l.hy)
theorem lows_any (ul uh la : Bool) (lo hi hy : Int) (v : Int) (g : Nat) (w : World) (hg : w.heap[g]? = some (.cells #[.bool ul, .bool uh, .bool la, .int .i64 lo, .int .i64 hi, .int .i64 hy] 23 (0, 0))) : Calls Try.prog 28 #[.int .i64 v, .pointer (some ⟨g, 0, none⟩)] w fun e w' => e = .returned (.bool (lowB ⟨ul, uh, la, lo, hi, hy⟩ v)) ∧ w' = w := by
  obtain ⟨c1, c2, c3, c4, c5, c6⟩ := of6 hg
  cases ul
  · have HB : Hid (lowB ⟨false, uh, la, lo, hi, hy⟩ v = false) := Lib.hid rfl
    rw [HB.out]
    go_enter Try.func28, Try.ntmps28
    go_wp2
    go_ret
    exact ⟨rfl, rfl⟩
  · have HB : Hid (lowB ⟨true, uh, la, lo, hi, hy⟩ v = decide (v ≤ lo)) := Lib.hid rfl
    rw [HB.out]
    go_enter Try.func28, Try.ntmps28
    go_wp2
    go_ret
    exact ⟨rfl, rfl⟩
theorem highs_any (ul uh la : Bool) (lo hi hy : Int) (v : Int) (g : Nat) (w : World) (hg : w.heap[g]? = some (.cells #[.bool ul, .bool uh, .bool la, .int .i64 lo, .int .i64 hi, .int .i64 hy] 23 (0, 0))) : Calls Try.prog 30 #[.int .i64 v, .pointer (some ⟨g, 0, none⟩)] w fun e w' => e = .returned (.bool (highB ⟨ul, uh, la, lo, hi, hy⟩ v)) ∧ w' = w := by
  obtain ⟨c1, c2, c3, c4, c5, c6⟩ := of6 hg
  cases uh
  · have HB : Hid (highB ⟨ul, false, la, lo, hi, hy⟩ v = false) := Lib.hid rfl
    rw [HB.out]
    go_enter Try.func30, Try.ntmps30
    go_wp2
    go_ret
    exact ⟨rfl, rfl⟩
  · have HB : Hid (highB ⟨ul, true, la, lo, hi, hy⟩ v = decide (v ≥ hi)) := Lib.hid rfl
    rw [HB.out]
    go_enter Try.func30, Try.ntmps30
    go_wp2
    go_ret
    exact ⟨rfl, rfl⟩
theorem leftl_any (ul uh la : Bool) (lo hi hy : Int) (v : Int) (g : Nat) (w : World) (hok : okL ⟨ul, uh, la, lo, hi, hy⟩ = true) (hg : w.heap[g]? = some (.cells #[.bool ul, .bool uh, .bool la, .int .i64 lo, .int .i64 hi, .int .i64 hy] 23 (0, 0))) : Calls Try.prog 29 #[.int .i64 v, .pointer (some ⟨g, 0, none⟩)] w fun e w' => e = .returned (.bool (leftLow ⟨ul, uh, la, lo, hi, hy⟩ v)) ∧ w' = w := by
  obtain ⟨c1, c2, c3, c4, c5, c6⟩ := of6 hg
  obtain ⟨k1, k2, k3, k4, k5, k6, _⟩ := okL_of hok
  simp only at k1 k2 k3 k4 k5 k6
  have w1 : IntKind.i64.wrap (lo + hy) = lo + hy := by rw [IntKind.wrap_i64]; omega
  clear hok k1 k2 k3 k4 k5 k6
  cases ul
  · have HB : Hid (leftLow ⟨false, uh, la, lo, hi, hy⟩ v = true) := Lib.hid rfl
    rw [HB.out]
    go_enter Try.func29, Try.ntmps29
    go_wp2
    go_ret
    exact ⟨rfl, rfl⟩
  · have HB : Hid (leftLow ⟨true, uh, la, lo, hi, hy⟩ v = decide (v > lo + hy)) := Lib.hid rfl
    rw [HB.out]
    go_enter Try.func29, Try.ntmps29
    go_wp2
    go_ret
    exact ⟨rfl, rfl⟩
theorem lefth_any (ul uh la : Bool) (lo hi hy : Int) (v : Int) (g : Nat) (w : World) (hok : okL ⟨ul, uh, la, lo, hi, hy⟩ = true) (hg : w.heap[g]? = some (.cells #[.bool ul, .bool uh, .bool la, .int .i64 lo, .int .i64 hi, .int .i64 hy] 23 (0, 0))) : Calls Try.prog 31 #[.int .i64 v, .pointer (some ⟨g, 0, none⟩)] w fun e w' => e = .returned (.bool (leftHigh ⟨ul, uh, la, lo, hi, hy⟩ v)) ∧ w' = w := by
  obtain ⟨c1, c2, c3, c4, c5, c6⟩ := of6 hg
  obtain ⟨k1, k2, k3, k4, k5, k6, _⟩ := okL_of hok
  simp only at k1 k2 k3 k4 k5 k6
  have w1 : IntKind.i64.wrap (hi - hy) = hi - hy := by rw [IntKind.wrap_i64]; omega
  clear hok k1 k2 k3 k4 k5 k6
  cases uh
  · have HB : Hid (leftHigh ⟨ul, false, la, lo, hi, hy⟩ v = true) := Lib.hid rfl
    rw [HB.out]
    go_enter Try.func31, Try.ntmps31
    go_wp2
    go_ret
    exact ⟨rfl, rfl⟩
  · have HB : Hid (leftHigh ⟨ul, true, la, lo, hi, hy⟩ v = decide (v < hi - hy)) := Lib.hid rfl
    rw [HB.out]
    go_enter Try.func31, Try.ntmps31
    go_wp2
    go_ret
    exact ⟨rfl, rfl⟩
/-- The two sides, as values; g: the box of the limits. -/
def loF (g : Nat) : Value := .func (.func 28) #[] #[.pointer (some ⟨g, 0, none⟩)]
def loB (g : Nat) : Value := .func (.func 29) #[] #[.pointer (some ⟨g, 0, none⟩)]
def hiF (g : Nat) : Value := .func (.func 30) #[] #[.pointer (some ⟨g, 0, none⟩)]
def hiB (g : Nat) : Value := .func (.func 31) #[] #[.pointer (some ⟨g, 0, none⟩)]
theorem sides_any (ul uh la : Bool) (lo hi hy : Int) (w : World) : Calls Try.prog 20 #[.agg #[.bool ul, .bool uh, .bool la, .int .i64 lo, .int .i64 hi, .int .i64 hy]] w fun e w' => e = .returned (.agg #[.int .i64 1, .int .i64 1, loF w.heap.size, loB w.heap.size, .int .i64 2, .int .i64 2, hiF w.heap.size, hiB w.heap.size]) ∧ Below w.heap.size w w' ∧ w'.heap[w.heap.size]? = some (.cells #[.bool ul, .bool uh, .bool la, .int .i64 lo, .int .i64 hi, .int .i64 hy] 23) := by
  have bel := bel_two w (.cells #[.bool ul, .bool uh, .bool la, .int .i64 lo, .int .i64 hi, .int .i64 hy] 23) (.cells #[.int .i64 1, .int .i64 1, loF w.heap.size, loB w.heap.size, .int .i64 2, .int .i64 2, hiF w.heap.size, hiB w.heap.size] 44)
  have fst := two_fst w (.cells #[.bool ul, .bool uh, .bool la, .int .i64 lo, .int .i64 hi, .int .i64 hy] 23) (.cells #[.int .i64 1, .int .i64 1, loF w.heap.size, loB w.heap.size, .int .i64 2, .int .i64 2, hiF w.heap.size, hiB w.heap.size] 44)
  go_enter Try.func20, Try.ntmps20
  go_wp2
  (try simp only [Exit.inBlock, Exit.then])
  refine bodyPost_ret (v := .agg #[.int .i64 1, .int .i64 1, loF w.heap.size, loB w.heap.size, .int .i64 2, .int .i64 2, hiF w.heap.size, hiB w.heap.size]) (by simp [results, Try.results20, go_sem, loF, loB, hiF, hiB, *]) rfl ?_
  exact ⟨rfl, bel, fst⟩
end Go.Proofs.Ytlbblddpfijciaa
