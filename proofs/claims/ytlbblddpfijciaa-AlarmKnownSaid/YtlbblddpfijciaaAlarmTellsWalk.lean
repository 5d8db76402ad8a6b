/-
  The walk of AlarmTells.
-/
import Derived.Test.YtlbblddpfijciaaAlWorks
import Derived.Test.YtlbblddpfijciaaAlTells
namespace Go.Proofs.Ytlbblddpfijciaa
open Go.RowKit
set_option linter.unusedVariables false

set_option maxHeartbeats 2000000 in
theorem tells0 (ul uh la : Bool) (lo hi hy : Int) (st : Int) (wt : Bool) (v : Int) (w : World) (h1 : stepA ⟨ul, uh, la, lo, hi, hy⟩ ⟨st, wt⟩ v = (⟨st, wt⟩, 0)) :
    Calls Try.prog 5 #[.agg #[.bool ul, .bool uh, .bool la, .int .i64 lo, .int .i64 hi, .int .i64 hy], .agg #[.int .i64 st, .bool wt], .int .i64 v] w fun e w' => e = .returned (.bool true) ∧ Below w.heap.size w w' := by
  have l0 := two_fst w (.cells #[.bool ul, .bool uh, .bool la, .int .i64 lo, .int .i64 hi, .int .i64 hy] 23) (.cells #[.int .i64 st, .bool wt] 25)
  have a0 := heap_alloc_two w (.cells #[.bool ul, .bool uh, .bool la, .int .i64 lo, .int .i64 hi, .int .i64 hy] 23) (.cells #[.int .i64 st, .bool wt] 25)
  have bel0 := bel_two w (.cells #[.bool ul, .bool uh, .bool la, .int .i64 lo, .int .i64 hi, .int .i64 hy] 23) (.cells #[.int .i64 st, .bool wt] 25)
  go_enter Try.func5, Try.ntmps5
  go_wp2_with fail
  refine (Step8_lit ul uh la lo hi hy st wt v st wt 0 _ h1).mono ?_
  rintro e w1 ⟨rfl, b1⟩
  have k1 := balB b1 (.cells #[.int .i64 st, .bool wt] 25)
  have l1 := keepB k1 l0
  have a1 := keepB k1 a0
  have x1 := heap_alloc_new w1 (.cells #[.int .i64 st, .bool wt] 25)
  have bel1 := bel0.trans (k1.mono bel0.size)
  clear b1 k1 bel0 l0 a0
  obtain ⟨c1, c2, c3, c4, c5, c6⟩ := of6 l1
  obtain ⟨d1, d2⟩ := of2 a1
  obtain ⟨e1, e2⟩ := of2 x1
  go_wp2_with fail
  refine (Step8_lit ul uh la lo hi hy st wt v st wt 0 _ h1).mono ?_
  rintro e w2 ⟨rfl, b2⟩
  clear c1 c2 c3 c4 c5 c6 d1 d2 e1 e2
  have k2 := balB b2 (.cells #[.int .i64 st, .bool wt] 25)
  have x2 := keepB k2 x1
  have y2 := heap_alloc_new w2 (.cells #[.int .i64 st, .bool wt] 25)
  have bel2 := bel1.trans (k2.mono bel1.size)
  clear b2 k2 bel1 x1 l1 a1
  obtain ⟨e1, e2⟩ := of2 x2
  obtain ⟨f1, f2⟩ := of2 y2
  go_wp2_with fail
  refine (works8_yes _).mono ?_
  rintro e w3 ⟨rfl, b3⟩
  go_wp2
  go_ret
  exact ⟨rfl, bel2.trans (b3.mono bel2.size)⟩

set_option maxHeartbeats 2000000 in
theorem tells1 (ul uh la : Bool) (lo hi hy : Int) (st : Int) (wt : Bool) (v : Int) (w : World) (h1 : stepA ⟨ul, uh, la, lo, hi, hy⟩ ⟨st, wt⟩ v = (⟨1, true⟩, 1)) (h2 : ¬ st = 1) (h3 : v ≤ lo) (h4 : stepA ⟨ul, uh, la, lo, hi, hy⟩ ⟨1, true⟩ v = (⟨1, true⟩, 0)) :
    Calls Try.prog 5 #[.agg #[.bool ul, .bool uh, .bool la, .int .i64 lo, .int .i64 hi, .int .i64 hy], .agg #[.int .i64 st, .bool wt], .int .i64 v] w fun e w' => e = .returned (.bool true) ∧ Below w.heap.size w w' := by
  have n1 : ¬ (1 : Int) = st := fun h => h2 h.symm
  have n2 : ¬ v > lo := by omega
  have l0 := two_fst w (.cells #[.bool ul, .bool uh, .bool la, .int .i64 lo, .int .i64 hi, .int .i64 hy] 23) (.cells #[.int .i64 st, .bool wt] 25)
  have a0 := heap_alloc_two w (.cells #[.bool ul, .bool uh, .bool la, .int .i64 lo, .int .i64 hi, .int .i64 hy] 23) (.cells #[.int .i64 st, .bool wt] 25)
  have bel0 := bel_two w (.cells #[.bool ul, .bool uh, .bool la, .int .i64 lo, .int .i64 hi, .int .i64 hy] 23) (.cells #[.int .i64 st, .bool wt] 25)
  go_enter Try.func5, Try.ntmps5
  go_wp2_with fail
  refine (Step8_lit ul uh la lo hi hy st wt v 1 true 1 _ h1).mono ?_
  rintro e w1 ⟨rfl, b1⟩
  have k1 := balB b1 (.cells #[.int .i64 1, .bool true] 25)
  have l1 := keepB k1 l0
  have a1 := keepB k1 a0
  have x1 := heap_alloc_new w1 (.cells #[.int .i64 1, .bool true] 25)
  have bel1 := bel0.trans (k1.mono bel0.size)
  clear b1 k1 bel0 l0 a0
  obtain ⟨c1, c2, c3, c4, c5, c6⟩ := of6 l1
  obtain ⟨d1, d2⟩ := of2 a1
  obtain ⟨e1, e2⟩ := of2 x1
  go_wp2_with fail
  refine (Step8_lit ul uh la lo hi hy 1 true v 1 true 0 _ h4).mono ?_
  rintro e w2 ⟨rfl, b2⟩
  clear c1 c2 c3 c4 c5 c6 d1 d2 e1 e2
  have k2 := balB b2 (.cells #[.int .i64 1, .bool true] 25)
  have x2 := keepB k2 x1
  have y2 := heap_alloc_new w2 (.cells #[.int .i64 1, .bool true] 25)
  have bel2 := bel1.trans (k2.mono bel1.size)
  clear b2 k2 bel1 x1 l1 a1
  obtain ⟨e1, e2⟩ := of2 x2
  obtain ⟨f1, f2⟩ := of2 y2
  go_wp2_with fail
  refine (works8_yes _).mono ?_
  rintro e w3 ⟨rfl, b3⟩
  go_wp2
  go_ret
  exact ⟨rfl, bel2.trans (b3.mono bel2.size)⟩

set_option maxHeartbeats 2000000 in
theorem tells2 (ul uh la : Bool) (lo hi hy : Int) (st : Int) (wt : Bool) (v : Int) (w : World) (h1 : stepA ⟨ul, uh, la, lo, hi, hy⟩ ⟨st, wt⟩ v = (⟨2, true⟩, 2)) (h2 : ¬ st = 2) (h3 : hi ≤ v) (h4 : stepA ⟨ul, uh, la, lo, hi, hy⟩ ⟨2, true⟩ v = (⟨2, true⟩, 0)) :
    Calls Try.prog 5 #[.agg #[.bool ul, .bool uh, .bool la, .int .i64 lo, .int .i64 hi, .int .i64 hy], .agg #[.int .i64 st, .bool wt], .int .i64 v] w fun e w' => e = .returned (.bool true) ∧ Below w.heap.size w w' := by
  have n1 : ¬ (2 : Int) = st := fun h => h2 h.symm
  have n2 : ¬ v < hi := by omega
  have l0 := two_fst w (.cells #[.bool ul, .bool uh, .bool la, .int .i64 lo, .int .i64 hi, .int .i64 hy] 23) (.cells #[.int .i64 st, .bool wt] 25)
  have a0 := heap_alloc_two w (.cells #[.bool ul, .bool uh, .bool la, .int .i64 lo, .int .i64 hi, .int .i64 hy] 23) (.cells #[.int .i64 st, .bool wt] 25)
  have bel0 := bel_two w (.cells #[.bool ul, .bool uh, .bool la, .int .i64 lo, .int .i64 hi, .int .i64 hy] 23) (.cells #[.int .i64 st, .bool wt] 25)
  go_enter Try.func5, Try.ntmps5
  go_wp2_with fail
  refine (Step8_lit ul uh la lo hi hy st wt v 2 true 2 _ h1).mono ?_
  rintro e w1 ⟨rfl, b1⟩
  have k1 := balB b1 (.cells #[.int .i64 2, .bool true] 25)
  have l1 := keepB k1 l0
  have a1 := keepB k1 a0
  have x1 := heap_alloc_new w1 (.cells #[.int .i64 2, .bool true] 25)
  have bel1 := bel0.trans (k1.mono bel0.size)
  clear b1 k1 bel0 l0 a0
  obtain ⟨c1, c2, c3, c4, c5, c6⟩ := of6 l1
  obtain ⟨d1, d2⟩ := of2 a1
  obtain ⟨e1, e2⟩ := of2 x1
  go_wp2_with fail
  refine (Step8_lit ul uh la lo hi hy 2 true v 2 true 0 _ h4).mono ?_
  rintro e w2 ⟨rfl, b2⟩
  clear c1 c2 c3 c4 c5 c6 d1 d2 e1 e2
  have k2 := balB b2 (.cells #[.int .i64 2, .bool true] 25)
  have x2 := keepB k2 x1
  have y2 := heap_alloc_new w2 (.cells #[.int .i64 2, .bool true] 25)
  have bel2 := bel1.trans (k2.mono bel1.size)
  clear b2 k2 bel1 x1 l1 a1
  obtain ⟨e1, e2⟩ := of2 x2
  obtain ⟨f1, f2⟩ := of2 y2
  go_wp2_with fail
  refine (works8_yes _).mono ?_
  rintro e w3 ⟨rfl, b3⟩
  go_wp2
  go_ret
  exact ⟨rfl, bel2.trans (b3.mono bel2.size)⟩

set_option maxHeartbeats 2000000 in
theorem tells3 (ul uh la : Bool) (lo hi hy : Int) (st : Int) (wt : Bool) (v : Int) (w : World) (h1 : stepA ⟨ul, uh, la, lo, hi, hy⟩ ⟨st, wt⟩ v = (⟨0, wt⟩, 3)) (h2 : ¬ st = 0) (h4 : stepA ⟨ul, uh, la, lo, hi, hy⟩ ⟨0, wt⟩ v = (⟨0, wt⟩, 0)) :
    Calls Try.prog 5 #[.agg #[.bool ul, .bool uh, .bool la, .int .i64 lo, .int .i64 hi, .int .i64 hy], .agg #[.int .i64 st, .bool wt], .int .i64 v] w fun e w' => e = .returned (.bool true) ∧ Below w.heap.size w w' := by
  have n1 : ¬ (0 : Int) = st := fun h => h2 h.symm
  have l0 := two_fst w (.cells #[.bool ul, .bool uh, .bool la, .int .i64 lo, .int .i64 hi, .int .i64 hy] 23) (.cells #[.int .i64 st, .bool wt] 25)
  have a0 := heap_alloc_two w (.cells #[.bool ul, .bool uh, .bool la, .int .i64 lo, .int .i64 hi, .int .i64 hy] 23) (.cells #[.int .i64 st, .bool wt] 25)
  have bel0 := bel_two w (.cells #[.bool ul, .bool uh, .bool la, .int .i64 lo, .int .i64 hi, .int .i64 hy] 23) (.cells #[.int .i64 st, .bool wt] 25)
  go_enter Try.func5, Try.ntmps5
  go_wp2_with fail
  refine (Step8_lit ul uh la lo hi hy st wt v 0 wt 3 _ h1).mono ?_
  rintro e w1 ⟨rfl, b1⟩
  have k1 := balB b1 (.cells #[.int .i64 0, .bool wt] 25)
  have l1 := keepB k1 l0
  have a1 := keepB k1 a0
  have x1 := heap_alloc_new w1 (.cells #[.int .i64 0, .bool wt] 25)
  have bel1 := bel0.trans (k1.mono bel0.size)
  clear b1 k1 bel0 l0 a0
  obtain ⟨c1, c2, c3, c4, c5, c6⟩ := of6 l1
  obtain ⟨d1, d2⟩ := of2 a1
  obtain ⟨e1, e2⟩ := of2 x1
  go_wp2_with fail
  refine (Step8_lit ul uh la lo hi hy 0 wt v 0 wt 0 _ h4).mono ?_
  rintro e w2 ⟨rfl, b2⟩
  clear c1 c2 c3 c4 c5 c6 d1 d2 e1 e2
  have k2 := balB b2 (.cells #[.int .i64 0, .bool wt] 25)
  have x2 := keepB k2 x1
  have y2 := heap_alloc_new w2 (.cells #[.int .i64 0, .bool wt] 25)
  have bel2 := bel1.trans (k2.mono bel1.size)
  clear b2 k2 bel1 x1 l1 a1
  obtain ⟨e1, e2⟩ := of2 x2
  obtain ⟨f1, f2⟩ := of2 y2
  go_wp2_with fail
  refine (works8_yes _).mono ?_
  rintro e w3 ⟨rfl, b3⟩
  go_wp2
  go_ret
  exact ⟨rfl, bel2.trans (b3.mono bel2.size)⟩

theorem tells8_any (ul uh la : Bool) (lo hi hy : Int) (st : Int) (wt : Bool) (v : Int) (w : World) :
    Calls Try.prog 5 #[.agg #[.bool ul, .bool uh, .bool la, .int .i64 lo, .int .i64 hi, .int .i64 hy], .agg #[.int .i64 st, .bool wt], .int .i64 v] w fun e w' => e = .returned (.bool true) ∧ Below w.heap.size w w' := by
  rcases step_tells ⟨ul, uh, la, lo, hi, hy⟩ st wt v with h | ⟨h1, h2, h3, h4⟩ | ⟨h1, h2, h3, h4⟩ | ⟨h1, h2, h3⟩
  · exact tells0 ul uh la lo hi hy st wt v w h
  · exact tells1 ul uh la lo hi hy st wt v w h1 h2 h3 h4
  · exact tells2 ul uh la lo hi hy st wt v w h1 h2 h3 h4
  · exact tells3 ul uh la lo hi hy st wt v w h1 (by omega) h3
theorem walk_AlarmTells (ul uh la : Bool) (lo hi hy : Int) (st : Int) (wt : Bool) (v : Int) (w : World) (wl : Lim.Ok ⟨ul, uh, la, lo, hi, hy⟩) (wa : Alm.Ok ⟨st, wt⟩) (wv : (Lit.int .i64 v).wf = true) :
    Calls Try.prog 5 #[.agg #[.bool ul, .bool uh, .bool la, .int .i64 lo, .int .i64 hi, .int .i64 hy], .agg #[.int .i64 st, .bool wt], .int .i64 v] w fun e w' => e = .returned (.bool true) ∧ Below w.heap.size w w' := tells8_any ul uh la lo hi hy st wt v w
end Go.Proofs.Ytlbblddpfijciaa
