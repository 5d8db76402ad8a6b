/-
  Contracts of the document's answers of layer 8: Check, IsLow, IsHigh, Back, Step, Ack.
-/
import Derived.Test.YtmakegbkgiajdaaAlMath
import Derived.Test.YtmakegbkgiajdaaBoxes
import Derived.IntWalk
import Derived.BigQuiet
import Derived.Deep.RegionHeld3
namespace Go.Proofs.Ytmakegbkgiajdaa
open Go.RowKit
set_option linter.unusedVariables false

theorem refBeyond_any (v : Int) (w : World) : Calls Try.prog 36 #[.int .i64 v] w fun e w' => e = .returned (.bool (beyB v)) ∧ w' = w := by
  by_cases h : v < -1099511627776
  · have HB : Hid (beyB v = true) := Lib.hid (by unfold beyB; simp [h])
    rw [HB.out]
    go_enter Try.func36, Try.ntmps36
    go_wp2
    go_ret
    exact ⟨rfl, rfl⟩
  · have HB : Hid (beyB v = decide (v > 1099511627776)) := Lib.hid (by unfold beyB; simp [h])
    rw [HB.out]
    go_enter Try.func36, Try.ntmps36
    go_wp2
    go_ret
    exact ⟨rfl, rfl⟩

theorem chk_cases (l : Lim) (P : Prop)
    (c1 : l.hy < 0 → chkL l = 27 → P)
    (c2 : ¬ l.hy < 0 → l.hy > 1099511627776 → chkL l = 27 → P)
    (c3 : ¬ l.hy < 0 → ¬ l.hy > 1099511627776 → beyB l.lo = true → chkL l = 27 → P)
    (c4 : ¬ l.hy < 0 → ¬ l.hy > 1099511627776 → beyB l.lo = false → beyB l.hi = true → chkL l = 27 → P)
    (c5 : ¬ l.hy < 0 → ¬ l.hy > 1099511627776 → beyB l.lo = false → beyB l.hi = false → l.ul = false → l.lo ≠ 0 → chkL l = 27 → P)
    (c6 : ¬ l.hy < 0 → ¬ l.hy > 1099511627776 → beyB l.lo = false → beyB l.hi = false → l.ul = false → l.lo = 0 → l.uh = false → l.hi ≠ 0 → chkL l = 27 → P)
    (c7 : ¬ l.hy < 0 → ¬ l.hy > 1099511627776 → beyB l.lo = false → beyB l.hi = false → l.ul = true → l.uh = false → l.hi ≠ 0 → chkL l = 27 → P)
    (c8 : ¬ l.hy < 0 → ¬ l.hy > 1099511627776 → beyB l.lo = false → beyB l.hi = false → l.ul = false → l.lo = 0 → l.uh = false → l.hi = 0 → chkL l = 0 → P)
    (c9 : ¬ l.hy < 0 → ¬ l.hy > 1099511627776 → beyB l.lo = false → beyB l.hi = false → l.ul = false → l.lo = 0 → l.uh = true → chkL l = 0 → P)
    (c10 : ¬ l.hy < 0 → ¬ l.hy > 1099511627776 → beyB l.lo = false → beyB l.hi = false → l.ul = true → l.uh = false → l.hi = 0 → chkL l = 0 → P)
    (c11 : ¬ l.hy < 0 → ¬ l.hy > 1099511627776 → beyB l.lo = false → beyB l.hi = false → l.ul = true → l.uh = true → l.hi - l.lo ≤ l.hy → chkL l = 27 → P)
    (c12 : ¬ l.hy < 0 → ¬ l.hy > 1099511627776 → beyB l.lo = false → beyB l.hi = false → l.ul = true → l.uh = true → ¬ l.hi - l.lo ≤ l.hy → chkL l = 0 → P) : P := by
  have bad : okL l = false → chkL l = 27 := fun h => by unfold chkL; rw [h]; rfl
  have good : okL l = true → chkL l = 0 := fun h => by unfold chkL; rw [h]; rfl
  by_cases h1 : l.hy < 0
  · exact c1 h1 (bad (by unfold okL; rw [decide_eq_false (show ¬ 0 ≤ l.hy by omega)]; simp))
  by_cases h2 : l.hy > 1099511627776
  · exact c2 h1 h2 (bad (by unfold okL; rw [decide_eq_false (show ¬ l.hy ≤ 1099511627776 by omega)]; simp))
  have e1 : decide (0 ≤ l.hy) = true := decide_eq_true (by omega)
  have e2 : decide (l.hy ≤ 1099511627776) = true := decide_eq_true (by omega)
  cases h3 : beyB l.lo
  case true => exact c3 h1 h2 h3 (bad (by unfold okL; rw [h3]; simp))
  cases h4 : beyB l.hi
  case true => exact c4 h1 h2 h3 h4 (bad (by unfold okL; rw [h4]; simp))
  cases h5 : l.ul <;> cases h6 : l.uh
  · by_cases h7 : l.lo = 0
    · by_cases h8 : l.hi = 0
      · exact c8 h1 h2 h3 h4 h5 h7 h6 h8 (good (by unfold okL; rw [h3, h4, h5, h6, e1, e2, h7, h8]; rfl))
      · exact c6 h1 h2 h3 h4 h5 h7 h6 h8 (bad (by unfold okL; rw [h6, decide_eq_false h8]; simp))
    · exact c5 h1 h2 h3 h4 h5 h7 (bad (by unfold okL; rw [h5, decide_eq_false h7]; simp))
  · by_cases h7 : l.lo = 0
    · exact c9 h1 h2 h3 h4 h5 h7 h6 (good (by unfold okL; rw [h3, h4, h5, h6, e1, e2, h7]; rfl))
    · exact c5 h1 h2 h3 h4 h5 h7 (bad (by unfold okL; rw [h5, decide_eq_false h7]; simp))
  · by_cases h8 : l.hi = 0
    · exact c10 h1 h2 h3 h4 h5 h6 h8 (good (by unfold okL; rw [h3, h4, h5, h6, e1, e2, h8]; rfl))
    · exact c7 h1 h2 h3 h4 h5 h6 h8 (bad (by unfold okL; rw [h6, decide_eq_false h8]; simp))
  · by_cases h9 : l.hi - l.lo ≤ l.hy
    · exact c11 h1 h2 h3 h4 h5 h6 h9 (bad (by unfold okL; rw [h5, h6, decide_eq_false (show ¬ l.hy < l.hi - l.lo by omega)]; simp))
    · exact c12 h1 h2 h3 h4 h5 h6 h9 (good (by unfold okL; rw [h3, h4, h5, h6, e1, e2, decide_eq_true (show l.hy < l.hi - l.lo by omega)]; rfl))
theorem bey_false {v : Int} (h : beyB v = false) : -1099511627776 ≤ v ∧ v ≤ 1099511627776 := by
  simp only [beyB, Bool.or_eq_false_iff, decide_eq_false_iff_not] at h; omega

set_option maxHeartbeats 4000000 in
theorem refCheck8_any (ul uh la : Bool) (lo hi hy : Int) (w : World) : Calls Try.prog 31 #[.agg #[.bool ul, .bool uh, .bool la, .int .i64 lo, .int .i64 hi, .int .i64 hy]] w fun e w' => e = .returned (.int .i64 (chkL ⟨ul, uh, la, lo, hi, hy⟩)) ∧ Below w.heap.size w w' := by
  have bel := bel_alloc w (.cells #[.bool ul, .bool uh, .bool la, .int .i64 lo, .int .i64 hi, .int .i64 hy] 27)
  refine chk_cases ⟨ul, uh, la, lo, hi, hy⟩ _ ?_ ?_ ?_ ?_ ?_ ?_ ?_ ?_ ?_ ?_ ?_ ?_ <;> simp only
  · intro h1 HC
    rw [HC]
    clear HC
    go_enter Try.func31, Try.ntmps31
    go_wp2
    go_ret
    exact ⟨rfl, bel⟩
  · intro h1 h2 HC
    rw [HC]
    clear HC
    go_enter Try.func31, Try.ntmps31
    go_wp2
    go_ret
    exact ⟨rfl, bel⟩
  · intro h1 h2 h3 HC
    rw [HC]
    clear HC
    go_enter Try.func31, Try.ntmps31
    go_wp2_with fail
    refine (refBeyond_any lo _).mono ?_
    rintro e w' ⟨rfl, rfl⟩
    rw [h3]
    go_wp2
    go_ret
    exact ⟨rfl, bel⟩
  · intro h1 h2 h3 h4 HC
    rw [HC]
    clear HC
    go_enter Try.func31, Try.ntmps31
    go_wp2_with fail
    refine (refBeyond_any lo _).mono ?_
    rintro e w' ⟨rfl, rfl⟩
    rw [h3]
    go_wp2_with fail
    refine (refBeyond_any hi _).mono ?_
    rintro e w' ⟨rfl, rfl⟩
    rw [h4]
    go_wp2
    go_ret
    exact ⟨rfl, bel⟩
  · intro h1 h2 h3 h4 h5 h6 HC
    rw [HC]
    clear HC
    subst h5
    go_enter Try.func31, Try.ntmps31
    go_wp2_with fail
    refine (refBeyond_any lo _).mono ?_
    rintro e w' ⟨rfl, rfl⟩
    rw [h3]
    go_wp2_with fail
    refine (refBeyond_any hi _).mono ?_
    rintro e w' ⟨rfl, rfl⟩
    rw [h4]
    go_wp2
    go_ret
    exact ⟨rfl, bel⟩
  · intro h1 h2 h3 h4 h5 h6 h7 h8 HC
    rw [HC]
    clear HC
    subst h5 h6 h7
    go_enter Try.func31, Try.ntmps31
    go_wp2_with fail
    refine (refBeyond_any 0 _).mono ?_
    rintro e w' ⟨rfl, rfl⟩
    rw [h3]
    go_wp2_with fail
    refine (refBeyond_any hi _).mono ?_
    rintro e w' ⟨rfl, rfl⟩
    rw [h4]
    go_wp2
    go_ret
    exact ⟨rfl, bel⟩
  · intro h1 h2 h3 h4 h5 h6 h7 HC
    rw [HC]
    clear HC
    subst h5 h6
    go_enter Try.func31, Try.ntmps31
    go_wp2_with fail
    refine (refBeyond_any lo _).mono ?_
    rintro e w' ⟨rfl, rfl⟩
    rw [h3]
    go_wp2_with fail
    refine (refBeyond_any hi _).mono ?_
    rintro e w' ⟨rfl, rfl⟩
    rw [h4]
    go_wp2
    go_ret
    exact ⟨rfl, bel⟩
  · intro h1 h2 h3 h4 h5 h6 h7 h8 HC
    rw [HC]
    clear HC
    subst h5 h6 h7 h8
    go_enter Try.func31, Try.ntmps31
    go_wp2_with fail
    refine (refBeyond_any 0 _).mono ?_
    rintro e w' ⟨rfl, rfl⟩
    rw [h3]
    go_wp2_with fail
    refine (refBeyond_any 0 _).mono ?_
    rintro e w' ⟨rfl, rfl⟩
    rw [h4]
    go_wp2
    go_ret
    exact ⟨rfl, bel⟩
  · intro h1 h2 h3 h4 h5 h6 h7 HC
    rw [HC]
    clear HC
    subst h5 h6 h7
    go_enter Try.func31, Try.ntmps31
    go_wp2_with fail
    refine (refBeyond_any 0 _).mono ?_
    rintro e w' ⟨rfl, rfl⟩
    rw [h3]
    go_wp2_with fail
    refine (refBeyond_any hi _).mono ?_
    rintro e w' ⟨rfl, rfl⟩
    rw [h4]
    go_wp2
    go_ret
    exact ⟨rfl, bel⟩
  · intro h1 h2 h3 h4 h5 h6 h7 HC
    rw [HC]
    clear HC
    subst h5 h6 h7
    go_enter Try.func31, Try.ntmps31
    go_wp2_with fail
    refine (refBeyond_any lo _).mono ?_
    rintro e w' ⟨rfl, rfl⟩
    rw [h3]
    go_wp2_with fail
    refine (refBeyond_any 0 _).mono ?_
    rintro e w' ⟨rfl, rfl⟩
    rw [h4]
    go_wp2
    go_ret
    exact ⟨rfl, bel⟩
  · intro h1 h2 h3 h4 h5 h6 h9 HC
    rw [HC]
    clear HC
    subst h5 h6
    have hw : IntKind.i64.wrap (hi - lo) = hi - lo := by
      have := bey_false h3
      have := bey_false h4
      rw [IntKind.wrap_i64]; omega
    go_enter Try.func31, Try.ntmps31
    go_wp2_with fail
    refine (refBeyond_any lo _).mono ?_
    rintro e w' ⟨rfl, rfl⟩
    rw [h3]
    go_wp2_with fail
    refine (refBeyond_any hi _).mono ?_
    rintro e w' ⟨rfl, rfl⟩
    rw [h4]
    go_wp2
    go_ret
    exact ⟨rfl, bel⟩
  · intro h1 h2 h3 h4 h5 h6 h9 HC
    rw [HC]
    clear HC
    subst h5 h6
    have hw : IntKind.i64.wrap (hi - lo) = hi - lo := by
      have := bey_false h3
      have := bey_false h4
      rw [IntKind.wrap_i64]; omega
    go_enter Try.func31, Try.ntmps31
    go_wp2_with fail
    refine (refBeyond_any lo _).mono ?_
    rintro e w' ⟨rfl, rfl⟩
    rw [h3]
    go_wp2_with fail
    refine (refBeyond_any hi _).mono ?_
    rintro e w' ⟨rfl, rfl⟩
    rw [h4]
    go_wp2
    go_ret
    exact ⟨rfl, bel⟩

end Go.Proofs.Ytmakegbkgiajdaa
