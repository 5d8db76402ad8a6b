/-
  Texts of the proof of PlanValues, joined.
-/
import Derived.Test.YtcmbdhmhkfhjfaaGreatJPlanValuesC
import Derived.Test.YtcmbdhmhkfhjfaaGreatJPlanValuesA
import Derived.IntWalk
import Derived.BigQuiet
import Derived.Deep.RegionHeld3
import Derived.Deep.MidRow
namespace Go.Proofs.YtcmbdhmhkfhjfaaGreat
open Go.RowKit
set_option linter.unusedVariables false

/-- Four boxes that a call has made, one behind the other, known whole, and what was there as it was. -/
def Four (w0 : World) (a b c d : Obj) (w : World) : Prop :=
  w.heap[w0.heap.size]? = some a ∧ w.heap[w0.heap.size + 1]? = some b ∧ w.heap[w0.heap.size + 1 + 1]? = some c ∧ w.heap[w0.heap.size + 1 + 1 + 1]? = some d ∧ w0.heap.size + 4 ≤ w.heap.size ∧ Below w0.heap.size w0 w
theorem Four.new (w : World) (a b c d : Obj) : Four w a b c d ((((w.alloc a).alloc b).alloc c).alloc d) := by
  have s1 : (w.alloc a).heap.size = w.heap.size + 1 := by simp
  have s2 : ((w.alloc a).alloc b).heap.size = w.heap.size + 1 + 1 := by simp
  have s3 : (((w.alloc a).alloc b).alloc c).heap.size = w.heap.size + 1 + 1 + 1 := by simp
  refine ⟨?_, ?_, ?_, ?_, by simp, (((bel_alloc w a).alloc (by simp) b).alloc (by simp; omega) c).alloc (by simp; omega) d⟩
  · exact (heap_alloc_old _ _ (by omega)).trans ((heap_alloc_old _ _ (by omega)).trans ((heap_alloc_old _ _ (by omega)).trans (heap_alloc_new _ _)))
  · rw [← s1]; exact (heap_alloc_old _ _ (by omega)).trans ((heap_alloc_old _ _ (by omega)).trans (heap_alloc_new _ _))
  · rw [← s2]; exact (heap_alloc_old _ _ (by omega)).trans (heap_alloc_new _ _)
  · rw [← s3]; exact heap_alloc_new _ _
theorem Four.below {w0 w w' : World} {a b c d : Obj} (h : Four w0 a b c d w) (hb : Below w.heap.size w w') : Four w0 a b c d w' := by
  obtain ⟨h1, h2, h3, h4, h5, h6⟩ := h
  exact ⟨(hb.block _ (by omega)).trans h1, (hb.block _ (by omega)).trans h2, (hb.block _ (by omega)).trans h3, (hb.block _ (by omega)).trans h4, by have := hb.size; omega, h6.trans (hb.mono (by omega))⟩
theorem Four.bel {w0 w : World} {a b c d : Obj} (h : Four w0 a b c d w) : Below w0.heap.size w0 w := h.2.2.2.2.2
/-- A store into the fourth box. -/
theorem Four.set {w0 w : World} {a b c : Obj} {cs : Array Value} {t : TypeId} (h : Four w0 a b c (.cells cs t (0, 0)) w) (i : Nat) (v : Value) : Four w0 a b c (.cells (cs.setIfInBounds i v) t (0, 0)) (w.setCell ⟨w0.heap.size + 1 + 1 + 1, i, none⟩ v) := by
  obtain ⟨h1, h2, h3, h4, h5, h6⟩ := h
  refine ⟨(Below.heap_setCell w _ v _ (by simp only [ne_eq]; omega)).trans h1, (Below.heap_setCell w _ v _ (by simp only [ne_eq]; omega)).trans h2, (Below.heap_setCell w _ v _ (by simp only [ne_eq]; omega)).trans h3, box_set h4 i v, by simpa [World.setCell] using h5, below_setCell h6 (by omega) i v⟩
theorem cells2 {w : World} {g : Nat} {a b : Value} {t : TypeId} (h : w.heap[g]? = some (.cells #[a, b] t (0, 0))) : w.cell? ⟨g, 0, none⟩ = some a ∧ w.cell? ⟨g, 1, none⟩ = some b := ⟨cell_of_row _ _ 0 _ _ _ h, cell_of_row _ _ 1 _ _ _ h⟩
theorem cells3b {w : World} {g : Nat} {a b c : Value} {t : TypeId} (h : w.heap[g]? = some (.cells #[a, b, c] t (0, 0))) : w.cell? ⟨g, 0, none⟩ = some a ∧ w.cell? ⟨g, 1, none⟩ = some b ∧ w.cell? ⟨g, 2, none⟩ = some c := ⟨cell_of_row _ _ 0 _ _ _ h, cell_of_row _ _ 1 _ _ _ h, cell_of_row _ _ 2 _ _ _ h⟩
theorem froz3 {w : World} {g : Nat} {a : Array Value} {t : TypeId} (h : w.heap[g]? = some (.cells a t (0, 0))) : w.frozen? ⟨g, 0, none⟩ = false ∧ w.frozen? ⟨g, 1, none⟩ = false ∧ w.frozen? ⟨g, 2, none⟩ = false := ⟨block_frozen _ _ 0 _ _ h, block_frozen _ _ 1 _ _ h, block_frozen _ _ 2 _ _ h⟩

/-- Three stores into one box. -/
def putH (w : World) (g : Nat) (a b c : Value) : World := ((w.setCell ⟨g, 0, none⟩ a).setCell ⟨g, 1, none⟩ b).setCell ⟨g, 2, none⟩ c
theorem Four.put {w0 w : World} {a b c : Obj} {v0 v1 v2 : Value} {t : TypeId} (h : Four w0 a b c (.cells #[v0, v1, v2] t (0, 0)) w) (x y z : Value) : Four w0 a b c (.cells #[x, y, z] t (0, 0)) (putH w (w0.heap.size + 1 + 1 + 1) x y z) := ((h.set 0 x).set 1 y).set 2 z

def heldV (h : Hd) : Value := .agg #[.bool h.has, .int .i64 h.v, .int .i64 h.t]
theorem bel_four (w : World) (a b c d : Obj) : Below w.heap.size w ((((w.alloc a).alloc b).alloc c).alloc d) := (Four.new w a b c d).bel

end Go.Proofs.YtcmbdhmhkfhjfaaGreat
namespace Go.Proofs.YtcmbdhmhkfhjfaaGreat
open Go.RowKit
set_option linter.unusedVariables false

theorem told_ne {d q : Int} {hs : Bool} {hv ht x y : Int} (h : toldB d q ⟨hs, hv, ht⟩ (x, y) = true) : hs = false ∨ x ≠ hv ∨ y ≠ ht := by
  unfold toldB at h
  simp only [Bool.or_eq_true, Bool.not_eq_true'] at h
  rcases h with h | h | h
  · exact .inl h
  · refine .inr (.inl fun e => ?_)
    subst e
    unfold farB7 at h
    rw [distI_self] at h
    simp at h; omega
  · refine .inr (.inr fun e => ?_)
    subst e
    unfold dueB at h
    rw [distI_self] at h
    simp at h; omega
theorem told_false {d q : Int} {hs : Bool} {hv ht x y : Int} (h : toldB d q ⟨hs, hv, ht⟩ (x, y) = false) : hs = true := by
  unfold toldB at h
  cases hs
  · simp at h
  · rfl

/-- What Step gives: what is held, and whether the point is told. -/
def stepV (d q : Int) (h : Hd) (p : Pt) : Value := .tuple #[heldV (stepH d q h p), .bool (toldB d q h p)]
end Go.Proofs.YtcmbdhmhkfhjfaaGreat
namespace Go.Proofs.YtcmbdhmhkfhjfaaGreat
open Go.RowKit
set_option linter.unusedVariables false

theorem chkB_ok {d q : Int} (h1 : ¬ d < 0) (h2 : ¬ d > 1099511627776) (h3 : ¬ q < 0) (h4 : ¬ q > 1099511627776) : chkB d q = 0 := by unfold chkB; rw [if_pos (by omega)]
theorem chkB_no {d q : Int} (h : d < 0 ∨ d > 1099511627776 ∨ q < 0 ∨ q > 1099511627776) : chkB d q = 26 := by unfold chkB; rw [if_neg (by omega)]
theorem chk_split (d q : Int) : (d < 0) ∨ (¬ d < 0 ∧ d > 1099511627776) ∨ (¬ d < 0 ∧ ¬ d > 1099511627776 ∧ q < 0) ∨ (¬ d < 0 ∧ ¬ d > 1099511627776 ∧ ¬ q < 0 ∧ q > 1099511627776) ∨ (¬ d < 0 ∧ ¬ d > 1099511627776 ∧ ¬ q < 0 ∧ ¬ q > 1099511627776) := by omega
theorem Check7_any (d q : Int) (w : World) : Calls Tryz.prog 130 #[.agg #[.int .i64 d, .int .i64 q]] w fun e w' => e = .returned (.int .i64 (chkB d q)) ∧ Below w.heap.size w w' := by
  rcases chk_split d q with h | ⟨h1, h⟩ | ⟨h1, h2, h⟩ | ⟨h1, h2, h3, h⟩ | ⟨h1, h2, h3, h4⟩
  case' inr.inr.inr.inr => have HC := Lib.hid (chkB_ok h1 h2 h3 h4)
  case' inr.inr.inr.inl => have HC := Lib.hid (chkB_no (d := d) (q := q) (.inr (.inr (.inr h))))
  case' inr.inr.inl => have HC := Lib.hid (chkB_no (d := d) (q := q) (.inr (.inr (.inl h))))
  case' inr.inl => have HC := Lib.hid (chkB_no (d := d) (q := q) (.inr (.inl h)))
  case' inl => have HC := Lib.hid (chkB_no (d := d) (q := q) (.inl h))
  all_goals
    rw [HC.out]
    go_enter Tryz.func130, Tryz.ntmps130
    go_wp2
    go_ret
    exact ⟨rfl, bel_alloc _ _⟩
theorem refCheck7_any (d q : Int) (w : World) : Calls Tryz.prog 89 #[.agg #[.int .i64 d, .int .i64 q]] w fun e w' => e = .returned (.int .i64 (chkB d q)) ∧ Below w.heap.size w w' := by
  rcases chk_split d q with h | ⟨h1, h⟩ | ⟨h1, h2, h⟩ | ⟨h1, h2, h3, h⟩ | ⟨h1, h2, h3, h4⟩
  case' inr.inr.inr.inr => have HC := Lib.hid (chkB_ok h1 h2 h3 h4)
  case' inr.inr.inr.inl => have HC := Lib.hid (chkB_no (d := d) (q := q) (.inr (.inr (.inr h))))
  case' inr.inr.inl => have HC := Lib.hid (chkB_no (d := d) (q := q) (.inr (.inr (.inl h))))
  case' inr.inl => have HC := Lib.hid (chkB_no (d := d) (q := q) (.inr (.inl h)))
  case' inl => have HC := Lib.hid (chkB_no (d := d) (q := q) (.inl h))
  all_goals
    rw [HC.out]
    go_enter Tryz.func89, Tryz.ntmps89
    go_wp2
    go_ret
    exact ⟨rfl, bel_alloc _ _⟩

/-- The document's Told, behind its first test. -/
theorem told_hs {d q hv ht x y : Int} : toldB d q ⟨true, hv, ht⟩ (x, y) = (farB7 d x hv || dueB q ht y) := rfl
theorem farB_le {d : Int} (a b : Int) (h : d ≤ 0) : farB7 d a b = decide (0 < distI a b) := by unfold farB7; rw [show max d 0 = 0 by omega]
/-- Three boxes. -/
def Three (w0 : World) (a b c : Obj) (w : World) : Prop := w.heap[w0.heap.size]? = some a ∧ w.heap[w0.heap.size + 1]? = some b ∧ w.heap[w0.heap.size + 1 + 1]? = some c ∧ Below w0.heap.size w0 w
theorem Three.new (w : World) (a b c : Obj) : Three w a b c (((w.alloc a).alloc b).alloc c) := by
  have s1 : (w.alloc a).heap.size = w.heap.size + 1 := by simp
  have s2 : ((w.alloc a).alloc b).heap.size = w.heap.size + 1 + 1 := by simp
  refine ⟨?_, ?_, ?_, ((bel_alloc w a).alloc (by simp) b).alloc (by simp; omega) c⟩
  · exact (heap_alloc_old _ _ (by omega)).trans ((heap_alloc_old _ _ (by omega)).trans (heap_alloc_new _ _))
  · rw [← s1]; exact (heap_alloc_old _ _ (by omega)).trans (heap_alloc_new _ _)
  · rw [← s2]; exact heap_alloc_new _ _

end Go.Proofs.YtcmbdhmhkfhjfaaGreat
namespace Go.Proofs.YtcmbdhmhkfhjfaaGreat
open Go.RowKit
set_option linter.unusedVariables false

theorem refBeyond_any (v : Int) (w : World) : Calls Tryz.prog 113 #[.int .i64 v] w fun e w' => e = .returned (.bool (beyB v)) ∧ w' = w := by
  by_cases h : v < -1099511627776
  · have HB : Hid (beyB v = true) := Lib.hid (by unfold beyB; simp [h])
    rw [HB.out]
    go_enter Tryz.func113, Tryz.ntmps113
    go_wp2
    go_ret
    exact ⟨rfl, rfl⟩
  · have HB : Hid (beyB v = decide (v > 1099511627776)) := Lib.hid (by unfold beyB; simp [h])
    rw [HB.out]
    go_enter Tryz.func113, Tryz.ntmps113
    go_wp2
    go_ret
    exact ⟨rfl, rfl⟩

theorem chk_cases (l : Lim) (P : Prop)
    (c1 : l.hy < 0 → chkL l = 27 → P)
    (c2 : ¬ l.hy < 0 → l.hy > 1099511627776 → chkL l = 27 → P)
    (c3 : ¬ l.hy < 0 → ¬ l.hy > 1099511627776 → beyB l.lo = true → chkL l = 27 → P)
    (c4 : ¬ l.hy < 0 → ¬ l.hy > 1099511627776 → beyB l.lo = false → beyB l.hi = true → chkL l = 27 → P)
    (c5 : ¬ l.hy < 0 → ¬ l.hy > 1099511627776 → beyB l.lo = false → beyB l.hi = false → l.ul = false → l.lo ≠ 0 → chkL l = 27 → P)
    (c6 : ¬ l.hy < 0 → ¬ l.hy > 1099511627776 → beyB l.lo = false → beyB l.hi = false → l.ul = false → l.lo = 0 → l.uh = false → l.hi ≠ 0 → chkL l = 27 → P)
    (c7 : ¬ l.hy < 0 → ¬ l.hy > 1099511627776 → beyB l.lo = false → beyB l.hi = false → l.ul = true → l.uh = false → l.hi ≠ 0 → chkL l = 27 → P)
    (c8 : ¬ l.hy < 0 → ¬ l.hy > 1099511627776 → beyB l.lo = false → beyB l.hi = false → l.ul = false → l.lo = 0 → l.uh = false → l.hi = 0 → chkL l = 0 → P)
    (c9 : ¬ l.hy < 0 → ¬ l.hy > 1099511627776 → beyB l.lo = false → beyB l.hi = false → l.ul = false → l.lo = 0 → l.uh = true → chkL l = 0 → P)
    (c10 : ¬ l.hy < 0 → ¬ l.hy > 1099511627776 → beyB l.lo = false → beyB l.hi = false → l.ul = true → l.uh = false → l.hi = 0 → chkL l = 0 → P)
    (c11 : ¬ l.hy < 0 → ¬ l.hy > 1099511627776 → beyB l.lo = false → beyB l.hi = false → l.ul = true → l.uh = true → l.hi - l.lo ≤ l.hy → chkL l = 27 → P)
    (c12 : ¬ l.hy < 0 → ¬ l.hy > 1099511627776 → beyB l.lo = false → beyB l.hi = false → l.ul = true → l.uh = true → ¬ l.hi - l.lo ≤ l.hy → chkL l = 0 → P) : P := by
  have bad : okL l = false → chkL l = 27 := fun h => by unfold chkL; rw [h]; rfl
  have good : okL l = true → chkL l = 0 := fun h => by unfold chkL; rw [h]; rfl
  by_cases h1 : l.hy < 0
  · exact c1 h1 (bad (by unfold okL; rw [decide_eq_false (show ¬ 0 ≤ l.hy by omega)]; simp))
  by_cases h2 : l.hy > 1099511627776
  · exact c2 h1 h2 (bad (by unfold okL; rw [decide_eq_false (show ¬ l.hy ≤ 1099511627776 by omega)]; simp))
  have e1 : decide (0 ≤ l.hy) = true := decide_eq_true (by omega)
  have e2 : decide (l.hy ≤ 1099511627776) = true := decide_eq_true (by omega)
  cases h3 : beyB l.lo
  case true => exact c3 h1 h2 h3 (bad (by unfold okL; rw [h3]; simp))
  cases h4 : beyB l.hi
  case true => exact c4 h1 h2 h3 h4 (bad (by unfold okL; rw [h4]; simp))
  cases h5 : l.ul <;> cases h6 : l.uh
  · by_cases h7 : l.lo = 0
    · by_cases h8 : l.hi = 0
      · exact c8 h1 h2 h3 h4 h5 h7 h6 h8 (good (by unfold okL; rw [h3, h4, h5, h6, e1, e2, h7, h8]; rfl))
      · exact c6 h1 h2 h3 h4 h5 h7 h6 h8 (bad (by unfold okL; rw [h6, decide_eq_false h8]; simp))
    · exact c5 h1 h2 h3 h4 h5 h7 (bad (by unfold okL; rw [h5, decide_eq_false h7]; simp))
  · by_cases h7 : l.lo = 0
    · exact c9 h1 h2 h3 h4 h5 h7 h6 (good (by unfold okL; rw [h3, h4, h5, h6, e1, e2, h7]; rfl))
    · exact c5 h1 h2 h3 h4 h5 h7 (bad (by unfold okL; rw [h5, decide_eq_false h7]; simp))
  · by_cases h8 : l.hi = 0
    · exact c10 h1 h2 h3 h4 h5 h6 h8 (good (by unfold okL; rw [h3, h4, h5, h6, e1, e2, h8]; rfl))
    · exact c7 h1 h2 h3 h4 h5 h6 h8 (bad (by unfold okL; rw [h6, decide_eq_false h8]; simp))
  · by_cases h9 : l.hi - l.lo ≤ l.hy
    · exact c11 h1 h2 h3 h4 h5 h6 h9 (bad (by unfold okL; rw [h5, h6, decide_eq_false (show ¬ l.hy < l.hi - l.lo by omega)]; simp))
    · exact c12 h1 h2 h3 h4 h5 h6 h9 (good (by unfold okL; rw [h3, h4, h5, h6, e1, e2, decide_eq_true (show l.hy < l.hi - l.lo by omega)]; rfl))
theorem bey_false {v : Int} (h : beyB v = false) : -1099511627776 ≤ v ∧ v ≤ 1099511627776 := by
  simp only [beyB, Bool.or_eq_false_iff, decide_eq_false_iff_not] at h; omega

set_option maxHeartbeats 4000000 in
theorem refCheck8_any (ul uh la : Bool) (lo hi hy : Int) (w : World) : Calls Tryz.prog 90 #[.agg #[.bool ul, .bool uh, .bool la, .int .i64 lo, .int .i64 hi, .int .i64 hy]] w fun e w' => e = .returned (.int .i64 (chkL ⟨ul, uh, la, lo, hi, hy⟩)) ∧ Below w.heap.size w w' := by
  have bel := bel_alloc w (.cells #[.bool ul, .bool uh, .bool la, .int .i64 lo, .int .i64 hi, .int .i64 hy] 49)
  refine chk_cases ⟨ul, uh, la, lo, hi, hy⟩ _ ?_ ?_ ?_ ?_ ?_ ?_ ?_ ?_ ?_ ?_ ?_ ?_ <;> simp only
  · intro h1 HC
    rw [HC]
    clear HC
    go_enter Tryz.func90, Tryz.ntmps90
    go_wp2
    go_ret
    exact ⟨rfl, bel⟩
  · intro h1 h2 HC
    rw [HC]
    clear HC
    go_enter Tryz.func90, Tryz.ntmps90
    go_wp2
    go_ret
    exact ⟨rfl, bel⟩
  · intro h1 h2 h3 HC
    rw [HC]
    clear HC
    go_enter Tryz.func90, Tryz.ntmps90
    go_wp2_with fail
    refine (refBeyond_any lo _).mono ?_
    rintro e w' ⟨rfl, rfl⟩
    rw [h3]
    go_wp2
    go_ret
    exact ⟨rfl, bel⟩
  · intro h1 h2 h3 h4 HC
    rw [HC]
    clear HC
    go_enter Tryz.func90, Tryz.ntmps90
    go_wp2_with fail
    refine (refBeyond_any lo _).mono ?_
    rintro e w' ⟨rfl, rfl⟩
    rw [h3]
    go_wp2_with fail
    refine (refBeyond_any hi _).mono ?_
    rintro e w' ⟨rfl, rfl⟩
    rw [h4]
    go_wp2
    go_ret
    exact ⟨rfl, bel⟩
  · intro h1 h2 h3 h4 h5 h6 HC
    rw [HC]
    clear HC
    subst h5
    go_enter Tryz.func90, Tryz.ntmps90
    go_wp2_with fail
    refine (refBeyond_any lo _).mono ?_
    rintro e w' ⟨rfl, rfl⟩
    rw [h3]
    go_wp2_with fail
    refine (refBeyond_any hi _).mono ?_
    rintro e w' ⟨rfl, rfl⟩
    rw [h4]
    go_wp2
    go_ret
    exact ⟨rfl, bel⟩
  · intro h1 h2 h3 h4 h5 h6 h7 h8 HC
    rw [HC]
    clear HC
    subst h5 h6 h7
    go_enter Tryz.func90, Tryz.ntmps90
    go_wp2_with fail
    refine (refBeyond_any 0 _).mono ?_
    rintro e w' ⟨rfl, rfl⟩
    rw [h3]
    go_wp2_with fail
    refine (refBeyond_any hi _).mono ?_
    rintro e w' ⟨rfl, rfl⟩
    rw [h4]
    go_wp2
    go_ret
    exact ⟨rfl, bel⟩
  · intro h1 h2 h3 h4 h5 h6 h7 HC
    rw [HC]
    clear HC
    subst h5 h6
    go_enter Tryz.func90, Tryz.ntmps90
    go_wp2_with fail
    refine (refBeyond_any lo _).mono ?_
    rintro e w' ⟨rfl, rfl⟩
    rw [h3]
    go_wp2_with fail
    refine (refBeyond_any hi _).mono ?_
    rintro e w' ⟨rfl, rfl⟩
    rw [h4]
    go_wp2
    go_ret
    exact ⟨rfl, bel⟩
  · intro h1 h2 h3 h4 h5 h6 h7 h8 HC
    rw [HC]
    clear HC
    subst h5 h6 h7 h8
    go_enter Tryz.func90, Tryz.ntmps90
    go_wp2_with fail
    refine (refBeyond_any 0 _).mono ?_
    rintro e w' ⟨rfl, rfl⟩
    rw [h3]
    go_wp2_with fail
    refine (refBeyond_any 0 _).mono ?_
    rintro e w' ⟨rfl, rfl⟩
    rw [h4]
    go_wp2
    go_ret
    exact ⟨rfl, bel⟩
  · intro h1 h2 h3 h4 h5 h6 h7 HC
    rw [HC]
    clear HC
    subst h5 h6 h7
    go_enter Tryz.func90, Tryz.ntmps90
    go_wp2_with fail
    refine (refBeyond_any 0 _).mono ?_
    rintro e w' ⟨rfl, rfl⟩
    rw [h3]
    go_wp2_with fail
    refine (refBeyond_any hi _).mono ?_
    rintro e w' ⟨rfl, rfl⟩
    rw [h4]
    go_wp2
    go_ret
    exact ⟨rfl, bel⟩
  · intro h1 h2 h3 h4 h5 h6 h7 HC
    rw [HC]
    clear HC
    subst h5 h6 h7
    go_enter Tryz.func90, Tryz.ntmps90
    go_wp2_with fail
    refine (refBeyond_any lo _).mono ?_
    rintro e w' ⟨rfl, rfl⟩
    rw [h3]
    go_wp2_with fail
    refine (refBeyond_any 0 _).mono ?_
    rintro e w' ⟨rfl, rfl⟩
    rw [h4]
    go_wp2
    go_ret
    exact ⟨rfl, bel⟩
  · intro h1 h2 h3 h4 h5 h6 h9 HC
    rw [HC]
    clear HC
    subst h5 h6
    have hw : IntKind.i64.wrap (hi - lo) = hi - lo := by
      have := bey_false h3
      have := bey_false h4
      rw [IntKind.wrap_i64]; omega
    go_enter Tryz.func90, Tryz.ntmps90
    go_wp2_with fail
    refine (refBeyond_any lo _).mono ?_
    rintro e w' ⟨rfl, rfl⟩
    rw [h3]
    go_wp2_with fail
    refine (refBeyond_any hi _).mono ?_
    rintro e w' ⟨rfl, rfl⟩
    rw [h4]
    go_wp2
    go_ret
    exact ⟨rfl, bel⟩
  · intro h1 h2 h3 h4 h5 h6 h9 HC
    rw [HC]
    clear HC
    subst h5 h6
    have hw : IntKind.i64.wrap (hi - lo) = hi - lo := by
      have := bey_false h3
      have := bey_false h4
      rw [IntKind.wrap_i64]; omega
    go_enter Tryz.func90, Tryz.ntmps90
    go_wp2_with fail
    refine (refBeyond_any lo _).mono ?_
    rintro e w' ⟨rfl, rfl⟩
    rw [h3]
    go_wp2_with fail
    refine (refBeyond_any hi _).mono ?_
    rintro e w' ⟨rfl, rfl⟩
    rw [h4]
    go_wp2
    go_ret
    exact ⟨rfl, bel⟩

end Go.Proofs.YtcmbdhmhkfhjfaaGreat
namespace Go.Proofs.YtcmbdhmhkfhjfaaGreat
open Go.RowKit
set_option linter.unusedVariables false

/-- A tag is loaded in one step: its nineteen loads stay folded. -/
def ldTag (v : Value) : Sem Value := Instr.loadAt 51 v
theorem ldTag_fold (v : Value) : Instr.loadAt 51 v = ldTag v := rfl
theorem size_tag : (Tryz.prog.info? 51).map (·.size) = some 19 := by kernel_rfl
theorem ldTag_run {w : World} {b o : Nat} {cs : List Value} (hl : cs.length = 19) (h : w.rangeAt b o cs) : (ldTag (.pointer (some ⟨b, o, none⟩))).run Tryz.prog w = .ok (.agg cs.toArray) w :=
  run_loadAt_mid w b o _ cs _ h Tryz.underlying51 rfl (by rw [hl]; exact size_tag)

/-- The cells of a tag's box. -/
theorem of19 {w : World} {g : Nat} (nm : ByteArray) (un ki ad ev : Int) (we sg sw : Bool) (mu di aa de qu : Int) (ul uh la : Bool) (lo hi hy : Int) {t : TypeId} (h : w.heap[g]? = some (.cells #[.string nm, .int .i64 un, .int .i64 ki, .int .i64 ad, .int .i64 ev, .bool we, .bool sg, .bool sw, .int .i64 mu, .int .i64 di, .int .i64 aa, .int .i64 de, .int .i64 qu, .bool ul, .bool uh, .bool la, .int .i64 lo, .int .i64 hi, .int .i64 hy] t (0, 0))) : w.cell? ⟨g, 0, none⟩ = some (.string nm) ∧ w.cell? ⟨g, 1, none⟩ = some (.int .i64 un) ∧ w.cell? ⟨g, 2, none⟩ = some (.int .i64 ki) ∧ w.cell? ⟨g, 3, none⟩ = some (.int .i64 ad) ∧ w.cell? ⟨g, 4, none⟩ = some (.int .i64 ev) ∧ w.cell? ⟨g, 5, none⟩ = some (.bool we) ∧ w.cell? ⟨g, 6, none⟩ = some (.bool sg) ∧ w.cell? ⟨g, 7, none⟩ = some (.bool sw) ∧ w.cell? ⟨g, 8, none⟩ = some (.int .i64 mu) ∧ w.cell? ⟨g, 9, none⟩ = some (.int .i64 di) ∧ w.cell? ⟨g, 10, none⟩ = some (.int .i64 aa) ∧ w.cell? ⟨g, 11, none⟩ = some (.int .i64 de) ∧ w.cell? ⟨g, 12, none⟩ = some (.int .i64 qu) ∧ w.cell? ⟨g, 13, none⟩ = some (.bool ul) ∧ w.cell? ⟨g, 14, none⟩ = some (.bool uh) ∧ w.cell? ⟨g, 15, none⟩ = some (.bool la) ∧ w.cell? ⟨g, 16, none⟩ = some (.int .i64 lo) ∧ w.cell? ⟨g, 17, none⟩ = some (.int .i64 hi) ∧ w.cell? ⟨g, 18, none⟩ = some (.int .i64 hy) :=
  ⟨cell_of_row _ _ 0 _ _ _ h, cell_of_row _ _ 1 _ _ _ h, cell_of_row _ _ 2 _ _ _ h, cell_of_row _ _ 3 _ _ _ h, cell_of_row _ _ 4 _ _ _ h, cell_of_row _ _ 5 _ _ _ h, cell_of_row _ _ 6 _ _ _ h, cell_of_row _ _ 7 _ _ _ h, cell_of_row _ _ 8 _ _ _ h, cell_of_row _ _ 9 _ _ _ h, cell_of_row _ _ 10 _ _ _ h, cell_of_row _ _ 11 _ _ _ h, cell_of_row _ _ 12 _ _ _ h, cell_of_row _ _ 13 _ _ _ h, cell_of_row _ _ 14 _ _ _ h, cell_of_row _ _ 15 _ _ _ h, cell_of_row _ _ 16 _ _ _ h, cell_of_row _ _ 17 _ _ _ h, cell_of_row _ _ 18 _ _ _ h⟩

theorem refWidth_any (nm : ByteArray) (un ki ad ev : Int) (we sg sw : Bool) (mu di aa de qu : Int) (ul uh la : Bool) (lo hi hy : Int) (w : World) : Calls Tryz.prog 61 #[.agg #[.string nm, .int .i64 un, .int .i64 ki, .int .i64 ad, .int .i64 ev, .bool we, .bool sg, .bool sw, .int .i64 mu, .int .i64 di, .int .i64 aa, .int .i64 de, .int .i64 qu, .bool ul, .bool uh, .bool la, .int .i64 lo, .int .i64 hi, .int .i64 hy]] w fun e w' => e = .returned (.int .i64 (widT ⟨nm, un, ki, ad, ev, we, sg, sw, mu, di, aa, de, qu, ul, uh, la, lo, hi, hy⟩)) ∧ Below w.heap.size w w' := by
  have bel := bel_alloc w (.cells #[.string nm, .int .i64 un, .int .i64 ki, .int .i64 ad, .int .i64 ev, .bool we, .bool sg, .bool sw, .int .i64 mu, .int .i64 di, .int .i64 aa, .int .i64 de, .int .i64 qu, .bool ul, .bool uh, .bool la, .int .i64 lo, .int .i64 hi, .int .i64 hy] 51)
  by_cases h3 : ki = 3
  · subst h3
    cases we
    · have HW : Hid (widT ⟨nm, un, 3, ad, ev, false, sg, sw, mu, di, aa, de, qu, ul, uh, la, lo, hi, hy⟩ = 1) := Lib.hid rfl
      rw [HW.out]
      go_enter Tryz.func61, Tryz.ntmps61
      go_wp2
      go_ret
      exact ⟨rfl, bel⟩
    · have HW : Hid (widT ⟨nm, un, 3, ad, ev, true, sg, sw, mu, di, aa, de, qu, ul, uh, la, lo, hi, hy⟩ = 2) := Lib.hid rfl
      rw [HW.out]
      go_enter Tryz.func61, Tryz.ntmps61
      go_wp2
      go_ret
      exact ⟨rfl, bel⟩
  by_cases h4 : ki = 4
  · subst h4
    cases we
    · have HW : Hid (widT ⟨nm, un, 4, ad, ev, false, sg, sw, mu, di, aa, de, qu, ul, uh, la, lo, hi, hy⟩ = 1) := Lib.hid rfl
      rw [HW.out]
      go_enter Tryz.func61, Tryz.ntmps61
      go_wp2
      go_ret
      exact ⟨rfl, bel⟩
    · have HW : Hid (widT ⟨nm, un, 4, ad, ev, true, sg, sw, mu, di, aa, de, qu, ul, uh, la, lo, hi, hy⟩ = 2) := Lib.hid rfl
      rw [HW.out]
      go_enter Tryz.func61, Tryz.ntmps61
      go_wp2
      go_ret
      exact ⟨rfl, bel⟩
  · have HW : Hid (widT ⟨nm, un, ki, ad, ev, we, sg, sw, mu, di, aa, de, qu, ul, uh, la, lo, hi, hy⟩ = 1) := Lib.hid (by unfold widT; simp [h3, h4])
    rw [HW.out]
    have e3 : (ki == 3) = false := beq_false_of_ne h3
    have e4 : (ki == 4) = false := beq_false_of_ne h4
    go_enter Tryz.func61, Tryz.ntmps61
    go_wp2
    go_ret
    exact ⟨rfl, bel⟩
end Go.Proofs.YtcmbdhmhkfhjfaaGreat
namespace Go.Proofs.YtcmbdhmhkfhjfaaGreat
open Go.RowKit
set_option linter.unusedVariables false
attribute [local go_sem ↓] ldTag_fold

set_option maxHeartbeats 1000000 in
theorem rc9_1 (nm : ByteArray) (un ki ad ev : Int) (we sg sw : Bool) (mu di aa de qu : Int) (ul uh la : Bool) (lo hi hy : Int) (w : World) (hs : nm.size ≤ maxLen) (hn0 : nameB (bys nm) = false) : Calls Tryz.prog 56 #[.agg #[.string nm, .int .i64 un, .int .i64 ki, .int .i64 ad, .int .i64 ev, .bool we, .bool sg, .bool sw, .int .i64 mu, .int .i64 di, .int .i64 aa, .int .i64 de, .int .i64 qu, .bool ul, .bool uh, .bool la, .int .i64 lo, .int .i64 hi, .int .i64 hy]] w fun e w' => e = .returned (.int .i64 8) ∧ Below w.heap.size w w' := by
  have h0 := heap_alloc_new w (.cells #[.string nm, .int .i64 un, .int .i64 ki, .int .i64 ad, .int .i64 ev, .bool we, .bool sg, .bool sw, .int .i64 mu, .int .i64 di, .int .i64 aa, .int .i64 de, .int .i64 qu, .bool ul, .bool uh, .bool la, .int .i64 lo, .int .i64 hi, .int .i64 hy] 51)
  have bel0 := bel_alloc w (.cells #[.string nm, .int .i64 un, .int .i64 ki, .int .i64 ad, .int .i64 ev, .bool we, .bool sg, .bool sw, .int .i64 mu, .int .i64 di, .int .i64 aa, .int .i64 de, .int .i64 qu, .bool ul, .bool uh, .bool la, .int .i64 lo, .int .i64 hi, .int .i64 hy] 51)
  go_enter Tryz.func56, Tryz.ntmps56
  go_wp2_with fail
  refine (refName_any nm _ hs).mono ?_
  rintro e w' ⟨rfl, rfl⟩
  rw [hn0]
  clear hn0
  go_wp2
  go_ret
  exact ⟨rfl, bel0⟩

set_option maxHeartbeats 1000000 in
theorem rc9_2 (nm : ByteArray) (un ki ad ev : Int) (we sg sw : Bool) (mu di aa de qu : Int) (ul uh la : Bool) (lo hi hy : Int) (w : World) (hs : nm.size ≤ maxLen) (hn : nameB (bys nm) = true) (u1y : un < 1) : Calls Tryz.prog 56 #[.agg #[.string nm, .int .i64 un, .int .i64 ki, .int .i64 ad, .int .i64 ev, .bool we, .bool sg, .bool sw, .int .i64 mu, .int .i64 di, .int .i64 aa, .int .i64 de, .int .i64 qu, .bool ul, .bool uh, .bool la, .int .i64 lo, .int .i64 hi, .int .i64 hy]] w fun e w' => e = .returned (.int .i64 24) ∧ Below w.heap.size w w' := by
  have h0 := heap_alloc_new w (.cells #[.string nm, .int .i64 un, .int .i64 ki, .int .i64 ad, .int .i64 ev, .bool we, .bool sg, .bool sw, .int .i64 mu, .int .i64 di, .int .i64 aa, .int .i64 de, .int .i64 qu, .bool ul, .bool uh, .bool la, .int .i64 lo, .int .i64 hi, .int .i64 hy] 51)
  have bel0 := bel_alloc w (.cells #[.string nm, .int .i64 un, .int .i64 ki, .int .i64 ad, .int .i64 ev, .bool we, .bool sg, .bool sw, .int .i64 mu, .int .i64 di, .int .i64 aa, .int .i64 de, .int .i64 qu, .bool ul, .bool uh, .bool la, .int .i64 lo, .int .i64 hi, .int .i64 hy] 51)
  go_enter Tryz.func56, Tryz.ntmps56
  go_wp2_with fail
  refine (refName_any nm _ hs).mono ?_
  rintro e w' ⟨rfl, rfl⟩
  rw [hn]
  clear hn
  go_wp2
  go_ret
  exact ⟨rfl, bel0⟩

set_option maxHeartbeats 1000000 in
theorem rc9_3 (nm : ByteArray) (un ki ad ev : Int) (we sg sw : Bool) (mu di aa de qu : Int) (ul uh la : Bool) (lo hi hy : Int) (w : World) (hs : nm.size ≤ maxLen) (hn : nameB (bys nm) = true) (u1 : ¬ un < 1) (u2y : un > 247) : Calls Tryz.prog 56 #[.agg #[.string nm, .int .i64 un, .int .i64 ki, .int .i64 ad, .int .i64 ev, .bool we, .bool sg, .bool sw, .int .i64 mu, .int .i64 di, .int .i64 aa, .int .i64 de, .int .i64 qu, .bool ul, .bool uh, .bool la, .int .i64 lo, .int .i64 hi, .int .i64 hy]] w fun e w' => e = .returned (.int .i64 24) ∧ Below w.heap.size w w' := by
  have h0 := heap_alloc_new w (.cells #[.string nm, .int .i64 un, .int .i64 ki, .int .i64 ad, .int .i64 ev, .bool we, .bool sg, .bool sw, .int .i64 mu, .int .i64 di, .int .i64 aa, .int .i64 de, .int .i64 qu, .bool ul, .bool uh, .bool la, .int .i64 lo, .int .i64 hi, .int .i64 hy] 51)
  have bel0 := bel_alloc w (.cells #[.string nm, .int .i64 un, .int .i64 ki, .int .i64 ad, .int .i64 ev, .bool we, .bool sg, .bool sw, .int .i64 mu, .int .i64 di, .int .i64 aa, .int .i64 de, .int .i64 qu, .bool ul, .bool uh, .bool la, .int .i64 lo, .int .i64 hi, .int .i64 hy] 51)
  go_enter Tryz.func56, Tryz.ntmps56
  go_wp2_with fail
  refine (refName_any nm _ hs).mono ?_
  rintro e w' ⟨rfl, rfl⟩
  rw [hn]
  clear hn
  go_wp2
  go_ret
  exact ⟨rfl, bel0⟩

set_option maxHeartbeats 1000000 in
theorem rc9_4 (nm : ByteArray) (un ki ad ev : Int) (we sg sw : Bool) (mu di aa de qu : Int) (ul uh la : Bool) (lo hi hy : Int) (w : World) (hs : nm.size ≤ maxLen) (hn : nameB (bys nm) = true) (u1 : ¬ un < 1) (u2 : ¬ un > 247) (k1y : ki < 1) : Calls Tryz.prog 56 #[.agg #[.string nm, .int .i64 un, .int .i64 ki, .int .i64 ad, .int .i64 ev, .bool we, .bool sg, .bool sw, .int .i64 mu, .int .i64 di, .int .i64 aa, .int .i64 de, .int .i64 qu, .bool ul, .bool uh, .bool la, .int .i64 lo, .int .i64 hi, .int .i64 hy]] w fun e w' => e = .returned (.int .i64 28) ∧ Below w.heap.size w w' := by
  have h0 := heap_alloc_new w (.cells #[.string nm, .int .i64 un, .int .i64 ki, .int .i64 ad, .int .i64 ev, .bool we, .bool sg, .bool sw, .int .i64 mu, .int .i64 di, .int .i64 aa, .int .i64 de, .int .i64 qu, .bool ul, .bool uh, .bool la, .int .i64 lo, .int .i64 hi, .int .i64 hy] 51)
  have bel0 := bel_alloc w (.cells #[.string nm, .int .i64 un, .int .i64 ki, .int .i64 ad, .int .i64 ev, .bool we, .bool sg, .bool sw, .int .i64 mu, .int .i64 di, .int .i64 aa, .int .i64 de, .int .i64 qu, .bool ul, .bool uh, .bool la, .int .i64 lo, .int .i64 hi, .int .i64 hy] 51)
  go_enter Tryz.func56, Tryz.ntmps56
  go_wp2_with fail
  refine (refName_any nm _ hs).mono ?_
  rintro e w' ⟨rfl, rfl⟩
  rw [hn]
  clear hn
  go_wp2
  go_ret
  exact ⟨rfl, bel0⟩

set_option maxHeartbeats 1000000 in
theorem rc9_5 (nm : ByteArray) (un ki ad ev : Int) (we sg sw : Bool) (mu di aa de qu : Int) (ul uh la : Bool) (lo hi hy : Int) (w : World) (hs : nm.size ≤ maxLen) (hn : nameB (bys nm) = true) (u1 : ¬ un < 1) (u2 : ¬ un > 247) (k1 : ¬ ki < 1) (k2y : ki > 4) : Calls Tryz.prog 56 #[.agg #[.string nm, .int .i64 un, .int .i64 ki, .int .i64 ad, .int .i64 ev, .bool we, .bool sg, .bool sw, .int .i64 mu, .int .i64 di, .int .i64 aa, .int .i64 de, .int .i64 qu, .bool ul, .bool uh, .bool la, .int .i64 lo, .int .i64 hi, .int .i64 hy]] w fun e w' => e = .returned (.int .i64 28) ∧ Below w.heap.size w w' := by
  have h0 := heap_alloc_new w (.cells #[.string nm, .int .i64 un, .int .i64 ki, .int .i64 ad, .int .i64 ev, .bool we, .bool sg, .bool sw, .int .i64 mu, .int .i64 di, .int .i64 aa, .int .i64 de, .int .i64 qu, .bool ul, .bool uh, .bool la, .int .i64 lo, .int .i64 hi, .int .i64 hy] 51)
  have bel0 := bel_alloc w (.cells #[.string nm, .int .i64 un, .int .i64 ki, .int .i64 ad, .int .i64 ev, .bool we, .bool sg, .bool sw, .int .i64 mu, .int .i64 di, .int .i64 aa, .int .i64 de, .int .i64 qu, .bool ul, .bool uh, .bool la, .int .i64 lo, .int .i64 hi, .int .i64 hy] 51)
  go_enter Tryz.func56, Tryz.ntmps56
  go_wp2_with fail
  refine (refName_any nm _ hs).mono ?_
  rintro e w' ⟨rfl, rfl⟩
  rw [hn]
  clear hn
  go_wp2
  go_ret
  exact ⟨rfl, bel0⟩

set_option maxHeartbeats 1000000 in
theorem rc9_6 (nm : ByteArray) (un ki ad ev : Int) (we sg sw : Bool) (mu di aa de qu : Int) (ul uh la : Bool) (lo hi hy : Int) (w : World) (hs : nm.size ≤ maxLen) (hn : nameB (bys nm) = true) (u1 : ¬ un < 1) (u2 : ¬ un > 247) (k1 : ¬ ki < 1) (k2 : ¬ ki > 4) (d1y : ad < 0) : Calls Tryz.prog 56 #[.agg #[.string nm, .int .i64 un, .int .i64 ki, .int .i64 ad, .int .i64 ev, .bool we, .bool sg, .bool sw, .int .i64 mu, .int .i64 di, .int .i64 aa, .int .i64 de, .int .i64 qu, .bool ul, .bool uh, .bool la, .int .i64 lo, .int .i64 hi, .int .i64 hy]] w fun e w' => e = .returned (.int .i64 21) ∧ Below w.heap.size w w' := by
  have h0 := heap_alloc_new w (.cells #[.string nm, .int .i64 un, .int .i64 ki, .int .i64 ad, .int .i64 ev, .bool we, .bool sg, .bool sw, .int .i64 mu, .int .i64 di, .int .i64 aa, .int .i64 de, .int .i64 qu, .bool ul, .bool uh, .bool la, .int .i64 lo, .int .i64 hi, .int .i64 hy] 51)
  have bel0 := bel_alloc w (.cells #[.string nm, .int .i64 un, .int .i64 ki, .int .i64 ad, .int .i64 ev, .bool we, .bool sg, .bool sw, .int .i64 mu, .int .i64 di, .int .i64 aa, .int .i64 de, .int .i64 qu, .bool ul, .bool uh, .bool la, .int .i64 lo, .int .i64 hi, .int .i64 hy] 51)
  go_enter Tryz.func56, Tryz.ntmps56
  go_wp2_with fail
  refine (refName_any nm _ hs).mono ?_
  rintro e w' ⟨rfl, rfl⟩
  rw [hn]
  clear hn
  go_wp2
  go_quiet (fail)
  go_wp2
  go_ret
  exact ⟨rfl, below_drewN bel0 _⟩

set_option maxHeartbeats 1000000 in
theorem rc9_7 (nm : ByteArray) (un ki ad ev : Int) (we sg sw : Bool) (mu di aa de qu : Int) (ul uh la : Bool) (lo hi hy : Int) (w : World) (hs : nm.size ≤ maxLen) (hn : nameB (bys nm) = true) (u1 : ¬ un < 1) (u2 : ¬ un > 247) (k1 : ¬ ki < 1) (k2 : ¬ ki > 4) (d1 : ¬ ad < 0) (d2y : ad > 65536 - widT ⟨nm, un, ki, ad, ev, we, sg, sw, mu, di, aa, de, qu, ul, uh, la, lo, hi, hy⟩) : Calls Tryz.prog 56 #[.agg #[.string nm, .int .i64 un, .int .i64 ki, .int .i64 ad, .int .i64 ev, .bool we, .bool sg, .bool sw, .int .i64 mu, .int .i64 di, .int .i64 aa, .int .i64 de, .int .i64 qu, .bool ul, .bool uh, .bool la, .int .i64 lo, .int .i64 hi, .int .i64 hy]] w fun e w' => e = .returned (.int .i64 21) ∧ Below w.heap.size w w' := by
  have h0 := heap_alloc_new w (.cells #[.string nm, .int .i64 un, .int .i64 ki, .int .i64 ad, .int .i64 ev, .bool we, .bool sg, .bool sw, .int .i64 mu, .int .i64 di, .int .i64 aa, .int .i64 de, .int .i64 qu, .bool ul, .bool uh, .bool la, .int .i64 lo, .int .i64 hi, .int .i64 hy] 51)
  have bel0 := bel_alloc w (.cells #[.string nm, .int .i64 un, .int .i64 ki, .int .i64 ad, .int .i64 ev, .bool we, .bool sg, .bool sw, .int .i64 mu, .int .i64 di, .int .i64 aa, .int .i64 de, .int .i64 qu, .bool ul, .bool uh, .bool la, .int .i64 lo, .int .i64 hi, .int .i64 hy] 51)
  obtain ⟨wd, hwd⟩ : ∃ x, widT ⟨nm, un, ki, ad, ev, we, sg, sw, mu, di, aa, de, qu, ul, uh, la, lo, hi, hy⟩ = x := ⟨_, rfl⟩
  have hw12 := widT_le (⟨nm, un, ki, ad, ev, we, sg, sw, mu, di, aa, de, qu, ul, uh, la, lo, hi, hy⟩)
  have HW : Hid (∀ W : World, Calls Tryz.prog 61 #[.agg #[.string nm, .int .i64 un, .int .i64 ki, .int .i64 ad, .int .i64 ev, .bool we, .bool sg, .bool sw, .int .i64 mu, .int .i64 di, .int .i64 aa, .int .i64 de, .int .i64 qu, .bool ul, .bool uh, .bool la, .int .i64 lo, .int .i64 hi, .int .i64 hy]] W fun e w' => e = .returned (.int .i64 (widT ⟨nm, un, ki, ad, ev, we, sg, sw, mu, di, aa, de, qu, ul, uh, la, lo, hi, hy⟩)) ∧ Below W.heap.size W w') := Lib.hid fun W => refWidth_any nm un ki ad ev we sg sw mu di aa de qu ul uh la lo hi hy W
  rw [hwd] at d2y hw12 HW
  clear hwd
  have dd : decide (ad < 0) = false := decide_eq_false (by omega)
  have hwr : IntKind.i64.wrap (65536 - wd) = 65536 - wd := by rw [IntKind.wrap_i64]; omega
  go_enter Tryz.func56, Tryz.ntmps56
  go_wp2_with fail
  refine (refName_any nm _ hs).mono ?_
  rintro e w' ⟨rfl, rfl⟩
  rw [hn]
  clear hn
  go_wp2
  generalize w.alloc (.cells #[.string nm, .int .i64 un, .int .i64 ki, .int .i64 ad, .int .i64 ev, .bool we, .bool sg, .bool sw, .int .i64 mu, .int .i64 di, .int .i64 aa, .int .i64 de, .int .i64 qu, .bool ul, .bool uh, .bool la, .int .i64 lo, .int .i64 hi, .int .i64 hy] 51) = w0 at *
  have HK : Hid (∀ w9 : World, Below w0.heap.size w0 w9 → (Below w0.heap.size w0 w9 ∧ w9.cell? ⟨w.heap.size, 3, none⟩ = some (.int .i64 ad) ∧ (ldTag (.pointer (some ⟨w.heap.size, 0, none⟩))).run Tryz.prog w9 = .ok (.agg #[.string nm, .int .i64 un, .int .i64 ki, .int .i64 ad, .int .i64 ev, .bool we, .bool sg, .bool sw, .int .i64 mu, .int .i64 di, .int .i64 aa, .int .i64 de, .int .i64 qu, .bool ul, .bool uh, .bool la, .int .i64 lo, .int .i64 hi, .int .i64 hy]) w9)) := Lib.hid fun w9 hw => ⟨hw, (of19 nm un ki ad ev we sg sw mu di aa de qu ul uh la lo hi hy (keepB hw h0)).2.2.2.1, ldTag_run rfl (rangeB (cs := [.string nm, .int .i64 un, .int .i64 ki, .int .i64 ad, .int .i64 ev, .bool we, .bool sg, .bool sw, .int .i64 mu, .int .i64 di, .int .i64 aa, .int .i64 de, .int .i64 qu, .bool ul, .bool uh, .bool la, .int .i64 lo, .int .i64 hi, .int .i64 hy]) (keepB hw h0))⟩
  have belh : ∀ w9 : World, (Below w0.heap.size w0 w9 ∧ w9.cell? ⟨w.heap.size, 3, none⟩ = some (.int .i64 ad) ∧ (ldTag (.pointer (some ⟨w.heap.size, 0, none⟩))).run Tryz.prog w9 = .ok (.agg #[.string nm, .int .i64 un, .int .i64 ki, .int .i64 ad, .int .i64 ev, .bool we, .bool sg, .bool sw, .int .i64 mu, .int .i64 di, .int .i64 aa, .int .i64 de, .int .i64 qu, .bool ul, .bool uh, .bool la, .int .i64 lo, .int .i64 hi, .int .i64 hy]) w9) → Below w0.heap.size w0 w9 := fun w9 h => h.1
  go_region_held3 (fun w9 => Below w0.heap.size w0 w9 ∧ w9.cell? ⟨w.heap.size, 3, none⟩ = some (.int .i64 ad) ∧ (ldTag (.pointer (some ⟨w.heap.size, 0, none⟩))).run Tryz.prog w9 = .ok (.agg #[.string nm, .int .i64 un, .int .i64 ki, .int .i64 ad, .int .i64 ev, .bool we, .bool sg, .bool sw, .int .i64 mu, .int .i64 di, .int .i64 aa, .int .i64 de, .int .i64 qu, .bool ul, .bool uh, .bool la, .int .i64 lo, .int .i64 hi, .int .i64 hy]) w9)
    ((refine HK.out _ ?_
      repeat' (first
        | with_reducible exact Below.refl _ _
        | with_reducible exact bel5
        | with_reducible exact belh _ (by assumption)
        | with_reducible apply below_drew
        | with_reducible apply below_drewN
        | fail)))
    (first
      | (go_at_call 61; refine (HW.out _).mono ?_; rintro e w5 ⟨rfl, b5⟩; have bel5 : Below w0.heap.size w0 w5 := Below.trans (belh _ (by assumption)) (b5.mono (Below.size (belh _ (by assumption)))))
      | fail)
  have h5 := keepB bel5 h0
  have bel6 := bel0.trans (bel5.mono bel0.size)
  clear HK belh bel5 h0 bel0 HW
  obtain ⟨c0, c1, c2, c3, c4, c5, c6, c7, c8, c9, c10, c11, c12, c13, c14, c15, c16, c17, c18⟩ := of19 nm un ki ad ev we sg sw mu di aa de qu ul uh la lo hi hy h5
  go_wp2
  go_ret
  exact ⟨rfl, bel6⟩

set_option maxHeartbeats 1000000 in
theorem rc9_8 (nm : ByteArray) (un ki ad ev : Int) (we sg sw : Bool) (mu di aa de qu : Int) (ul uh la : Bool) (lo hi hy : Int) (w : World) (hs : nm.size ≤ maxLen) (hn : nameB (bys nm) = true) (u1 : ¬ un < 1) (u2 : ¬ un > 247) (k1 : ¬ ki < 1) (k2 : ¬ ki > 4) (d1 : ¬ ad < 0) (d2 : ¬ ad > 65536 - widT ⟨nm, un, ki, ad, ev, we, sg, sw, mu, di, aa, de, qu, ul, uh, la, lo, hi, hy⟩) (v1y : ev < 1) : Calls Tryz.prog 56 #[.agg #[.string nm, .int .i64 un, .int .i64 ki, .int .i64 ad, .int .i64 ev, .bool we, .bool sg, .bool sw, .int .i64 mu, .int .i64 di, .int .i64 aa, .int .i64 de, .int .i64 qu, .bool ul, .bool uh, .bool la, .int .i64 lo, .int .i64 hi, .int .i64 hy]] w fun e w' => e = .returned (.int .i64 3) ∧ Below w.heap.size w w' := by
  have h0 := heap_alloc_new w (.cells #[.string nm, .int .i64 un, .int .i64 ki, .int .i64 ad, .int .i64 ev, .bool we, .bool sg, .bool sw, .int .i64 mu, .int .i64 di, .int .i64 aa, .int .i64 de, .int .i64 qu, .bool ul, .bool uh, .bool la, .int .i64 lo, .int .i64 hi, .int .i64 hy] 51)
  have bel0 := bel_alloc w (.cells #[.string nm, .int .i64 un, .int .i64 ki, .int .i64 ad, .int .i64 ev, .bool we, .bool sg, .bool sw, .int .i64 mu, .int .i64 di, .int .i64 aa, .int .i64 de, .int .i64 qu, .bool ul, .bool uh, .bool la, .int .i64 lo, .int .i64 hi, .int .i64 hy] 51)
  obtain ⟨wd, hwd⟩ : ∃ x, widT ⟨nm, un, ki, ad, ev, we, sg, sw, mu, di, aa, de, qu, ul, uh, la, lo, hi, hy⟩ = x := ⟨_, rfl⟩
  have hw12 := widT_le (⟨nm, un, ki, ad, ev, we, sg, sw, mu, di, aa, de, qu, ul, uh, la, lo, hi, hy⟩)
  have HW : Hid (∀ W : World, Calls Tryz.prog 61 #[.agg #[.string nm, .int .i64 un, .int .i64 ki, .int .i64 ad, .int .i64 ev, .bool we, .bool sg, .bool sw, .int .i64 mu, .int .i64 di, .int .i64 aa, .int .i64 de, .int .i64 qu, .bool ul, .bool uh, .bool la, .int .i64 lo, .int .i64 hi, .int .i64 hy]] W fun e w' => e = .returned (.int .i64 (widT ⟨nm, un, ki, ad, ev, we, sg, sw, mu, di, aa, de, qu, ul, uh, la, lo, hi, hy⟩)) ∧ Below W.heap.size W w') := Lib.hid fun W => refWidth_any nm un ki ad ev we sg sw mu di aa de qu ul uh la lo hi hy W
  rw [hwd] at d2 hw12 HW
  clear hwd
  have dd : decide (ad < 0) = false := decide_eq_false (by omega)
  have hwr : IntKind.i64.wrap (65536 - wd) = 65536 - wd := by rw [IntKind.wrap_i64]; omega
  go_enter Tryz.func56, Tryz.ntmps56
  go_wp2_with fail
  refine (refName_any nm _ hs).mono ?_
  rintro e w' ⟨rfl, rfl⟩
  rw [hn]
  clear hn
  go_wp2
  generalize w.alloc (.cells #[.string nm, .int .i64 un, .int .i64 ki, .int .i64 ad, .int .i64 ev, .bool we, .bool sg, .bool sw, .int .i64 mu, .int .i64 di, .int .i64 aa, .int .i64 de, .int .i64 qu, .bool ul, .bool uh, .bool la, .int .i64 lo, .int .i64 hi, .int .i64 hy] 51) = w0 at *
  have HK : Hid (∀ w9 : World, Below w0.heap.size w0 w9 → (Below w0.heap.size w0 w9 ∧ w9.cell? ⟨w.heap.size, 3, none⟩ = some (.int .i64 ad) ∧ (ldTag (.pointer (some ⟨w.heap.size, 0, none⟩))).run Tryz.prog w9 = .ok (.agg #[.string nm, .int .i64 un, .int .i64 ki, .int .i64 ad, .int .i64 ev, .bool we, .bool sg, .bool sw, .int .i64 mu, .int .i64 di, .int .i64 aa, .int .i64 de, .int .i64 qu, .bool ul, .bool uh, .bool la, .int .i64 lo, .int .i64 hi, .int .i64 hy]) w9)) := Lib.hid fun w9 hw => ⟨hw, (of19 nm un ki ad ev we sg sw mu di aa de qu ul uh la lo hi hy (keepB hw h0)).2.2.2.1, ldTag_run rfl (rangeB (cs := [.string nm, .int .i64 un, .int .i64 ki, .int .i64 ad, .int .i64 ev, .bool we, .bool sg, .bool sw, .int .i64 mu, .int .i64 di, .int .i64 aa, .int .i64 de, .int .i64 qu, .bool ul, .bool uh, .bool la, .int .i64 lo, .int .i64 hi, .int .i64 hy]) (keepB hw h0))⟩
  have belh : ∀ w9 : World, (Below w0.heap.size w0 w9 ∧ w9.cell? ⟨w.heap.size, 3, none⟩ = some (.int .i64 ad) ∧ (ldTag (.pointer (some ⟨w.heap.size, 0, none⟩))).run Tryz.prog w9 = .ok (.agg #[.string nm, .int .i64 un, .int .i64 ki, .int .i64 ad, .int .i64 ev, .bool we, .bool sg, .bool sw, .int .i64 mu, .int .i64 di, .int .i64 aa, .int .i64 de, .int .i64 qu, .bool ul, .bool uh, .bool la, .int .i64 lo, .int .i64 hi, .int .i64 hy]) w9) → Below w0.heap.size w0 w9 := fun w9 h => h.1
  go_region_held3 (fun w9 => Below w0.heap.size w0 w9 ∧ w9.cell? ⟨w.heap.size, 3, none⟩ = some (.int .i64 ad) ∧ (ldTag (.pointer (some ⟨w.heap.size, 0, none⟩))).run Tryz.prog w9 = .ok (.agg #[.string nm, .int .i64 un, .int .i64 ki, .int .i64 ad, .int .i64 ev, .bool we, .bool sg, .bool sw, .int .i64 mu, .int .i64 di, .int .i64 aa, .int .i64 de, .int .i64 qu, .bool ul, .bool uh, .bool la, .int .i64 lo, .int .i64 hi, .int .i64 hy]) w9)
    ((refine HK.out _ ?_
      repeat' (first
        | with_reducible exact Below.refl _ _
        | with_reducible exact bel5
        | with_reducible exact belh _ (by assumption)
        | with_reducible apply below_drew
        | with_reducible apply below_drewN
        | fail)))
    (first
      | (go_at_call 61; refine (HW.out _).mono ?_; rintro e w5 ⟨rfl, b5⟩; have bel5 : Below w0.heap.size w0 w5 := Below.trans (belh _ (by assumption)) (b5.mono (Below.size (belh _ (by assumption)))))
      | fail)
  have h5 := keepB bel5 h0
  have bel6 := bel0.trans (bel5.mono bel0.size)
  clear HK belh bel5 h0 bel0 HW
  obtain ⟨c0, c1, c2, c3, c4, c5, c6, c7, c8, c9, c10, c11, c12, c13, c14, c15, c16, c17, c18⟩ := of19 nm un ki ad ev we sg sw mu di aa de qu ul uh la lo hi hy h5
  go_wp2
  go_ret
  exact ⟨rfl, bel6⟩

set_option maxHeartbeats 1000000 in
theorem rc9_9 (nm : ByteArray) (un ki ad ev : Int) (we sg sw : Bool) (mu di aa de qu : Int) (ul uh la : Bool) (lo hi hy : Int) (w : World) (hs : nm.size ≤ maxLen) (hn : nameB (bys nm) = true) (u1 : ¬ un < 1) (u2 : ¬ un > 247) (k1 : ¬ ki < 1) (k2 : ¬ ki > 4) (d1 : ¬ ad < 0) (d2 : ¬ ad > 65536 - widT ⟨nm, un, ki, ad, ev, we, sg, sw, mu, di, aa, de, qu, ul, uh, la, lo, hi, hy⟩) (v1 : ¬ ev < 1) (v2y : ev > 1048576) : Calls Tryz.prog 56 #[.agg #[.string nm, .int .i64 un, .int .i64 ki, .int .i64 ad, .int .i64 ev, .bool we, .bool sg, .bool sw, .int .i64 mu, .int .i64 di, .int .i64 aa, .int .i64 de, .int .i64 qu, .bool ul, .bool uh, .bool la, .int .i64 lo, .int .i64 hi, .int .i64 hy]] w fun e w' => e = .returned (.int .i64 3) ∧ Below w.heap.size w w' := by
  have h0 := heap_alloc_new w (.cells #[.string nm, .int .i64 un, .int .i64 ki, .int .i64 ad, .int .i64 ev, .bool we, .bool sg, .bool sw, .int .i64 mu, .int .i64 di, .int .i64 aa, .int .i64 de, .int .i64 qu, .bool ul, .bool uh, .bool la, .int .i64 lo, .int .i64 hi, .int .i64 hy] 51)
  have bel0 := bel_alloc w (.cells #[.string nm, .int .i64 un, .int .i64 ki, .int .i64 ad, .int .i64 ev, .bool we, .bool sg, .bool sw, .int .i64 mu, .int .i64 di, .int .i64 aa, .int .i64 de, .int .i64 qu, .bool ul, .bool uh, .bool la, .int .i64 lo, .int .i64 hi, .int .i64 hy] 51)
  obtain ⟨wd, hwd⟩ : ∃ x, widT ⟨nm, un, ki, ad, ev, we, sg, sw, mu, di, aa, de, qu, ul, uh, la, lo, hi, hy⟩ = x := ⟨_, rfl⟩
  have hw12 := widT_le (⟨nm, un, ki, ad, ev, we, sg, sw, mu, di, aa, de, qu, ul, uh, la, lo, hi, hy⟩)
  have HW : Hid (∀ W : World, Calls Tryz.prog 61 #[.agg #[.string nm, .int .i64 un, .int .i64 ki, .int .i64 ad, .int .i64 ev, .bool we, .bool sg, .bool sw, .int .i64 mu, .int .i64 di, .int .i64 aa, .int .i64 de, .int .i64 qu, .bool ul, .bool uh, .bool la, .int .i64 lo, .int .i64 hi, .int .i64 hy]] W fun e w' => e = .returned (.int .i64 (widT ⟨nm, un, ki, ad, ev, we, sg, sw, mu, di, aa, de, qu, ul, uh, la, lo, hi, hy⟩)) ∧ Below W.heap.size W w') := Lib.hid fun W => refWidth_any nm un ki ad ev we sg sw mu di aa de qu ul uh la lo hi hy W
  rw [hwd] at d2 hw12 HW
  clear hwd
  have dd : decide (ad < 0) = false := decide_eq_false (by omega)
  have hwr : IntKind.i64.wrap (65536 - wd) = 65536 - wd := by rw [IntKind.wrap_i64]; omega
  go_enter Tryz.func56, Tryz.ntmps56
  go_wp2_with fail
  refine (refName_any nm _ hs).mono ?_
  rintro e w' ⟨rfl, rfl⟩
  rw [hn]
  clear hn
  go_wp2
  generalize w.alloc (.cells #[.string nm, .int .i64 un, .int .i64 ki, .int .i64 ad, .int .i64 ev, .bool we, .bool sg, .bool sw, .int .i64 mu, .int .i64 di, .int .i64 aa, .int .i64 de, .int .i64 qu, .bool ul, .bool uh, .bool la, .int .i64 lo, .int .i64 hi, .int .i64 hy] 51) = w0 at *
  have HK : Hid (∀ w9 : World, Below w0.heap.size w0 w9 → (Below w0.heap.size w0 w9 ∧ w9.cell? ⟨w.heap.size, 3, none⟩ = some (.int .i64 ad) ∧ (ldTag (.pointer (some ⟨w.heap.size, 0, none⟩))).run Tryz.prog w9 = .ok (.agg #[.string nm, .int .i64 un, .int .i64 ki, .int .i64 ad, .int .i64 ev, .bool we, .bool sg, .bool sw, .int .i64 mu, .int .i64 di, .int .i64 aa, .int .i64 de, .int .i64 qu, .bool ul, .bool uh, .bool la, .int .i64 lo, .int .i64 hi, .int .i64 hy]) w9)) := Lib.hid fun w9 hw => ⟨hw, (of19 nm un ki ad ev we sg sw mu di aa de qu ul uh la lo hi hy (keepB hw h0)).2.2.2.1, ldTag_run rfl (rangeB (cs := [.string nm, .int .i64 un, .int .i64 ki, .int .i64 ad, .int .i64 ev, .bool we, .bool sg, .bool sw, .int .i64 mu, .int .i64 di, .int .i64 aa, .int .i64 de, .int .i64 qu, .bool ul, .bool uh, .bool la, .int .i64 lo, .int .i64 hi, .int .i64 hy]) (keepB hw h0))⟩
  have belh : ∀ w9 : World, (Below w0.heap.size w0 w9 ∧ w9.cell? ⟨w.heap.size, 3, none⟩ = some (.int .i64 ad) ∧ (ldTag (.pointer (some ⟨w.heap.size, 0, none⟩))).run Tryz.prog w9 = .ok (.agg #[.string nm, .int .i64 un, .int .i64 ki, .int .i64 ad, .int .i64 ev, .bool we, .bool sg, .bool sw, .int .i64 mu, .int .i64 di, .int .i64 aa, .int .i64 de, .int .i64 qu, .bool ul, .bool uh, .bool la, .int .i64 lo, .int .i64 hi, .int .i64 hy]) w9) → Below w0.heap.size w0 w9 := fun w9 h => h.1
  go_region_held3 (fun w9 => Below w0.heap.size w0 w9 ∧ w9.cell? ⟨w.heap.size, 3, none⟩ = some (.int .i64 ad) ∧ (ldTag (.pointer (some ⟨w.heap.size, 0, none⟩))).run Tryz.prog w9 = .ok (.agg #[.string nm, .int .i64 un, .int .i64 ki, .int .i64 ad, .int .i64 ev, .bool we, .bool sg, .bool sw, .int .i64 mu, .int .i64 di, .int .i64 aa, .int .i64 de, .int .i64 qu, .bool ul, .bool uh, .bool la, .int .i64 lo, .int .i64 hi, .int .i64 hy]) w9)
    ((refine HK.out _ ?_
      repeat' (first
        | with_reducible exact Below.refl _ _
        | with_reducible exact bel5
        | with_reducible exact belh _ (by assumption)
        | with_reducible apply below_drew
        | with_reducible apply below_drewN
        | fail)))
    (first
      | (go_at_call 61; refine (HW.out _).mono ?_; rintro e w5 ⟨rfl, b5⟩; have bel5 : Below w0.heap.size w0 w5 := Below.trans (belh _ (by assumption)) (b5.mono (Below.size (belh _ (by assumption)))))
      | fail)
  have h5 := keepB bel5 h0
  have bel6 := bel0.trans (bel5.mono bel0.size)
  clear HK belh bel5 h0 bel0 HW
  obtain ⟨c0, c1, c2, c3, c4, c5, c6, c7, c8, c9, c10, c11, c12, c13, c14, c15, c16, c17, c18⟩ := of19 nm un ki ad ev we sg sw mu di aa de qu ul uh la lo hi hy h5
  go_wp2
  go_ret
  exact ⟨rfl, bel6⟩
end Go.Proofs.YtcmbdhmhkfhjfaaGreat
namespace Go.Proofs.YtcmbdhmhkfhjfaaGreat
open Go.RowKit
set_option linter.unusedVariables false
attribute [local go_sem ↓] ldTag_fold

set_option maxHeartbeats 1000000 in
theorem rc9_10 (nm : ByteArray) (un ki ad ev : Int) (we sg sw : Bool) (mu di aa de qu : Int) (ul uh la : Bool) (lo hi hy : Int) (w : World) (hs : nm.size ≤ maxLen) (hn : nameB (bys nm) = true) (u1 : ¬ un < 1) (u2 : ¬ un > 247) (k1 : ¬ ki < 1) (k2 : ¬ ki > 4) (d1 : ¬ ad < 0) (d2 : ¬ ad > 65536 - widT ⟨nm, un, ki, ad, ev, we, sg, sw, mu, di, aa, de, qu, ul, uh, la, lo, hi, hy⟩) (v1 : ¬ ev < 1) (v2 : ¬ ev > 1048576) (S0 : chkS ⟨we, sg, sw, mu, di, aa⟩ = 25) : Calls Tryz.prog 56 #[.agg #[.string nm, .int .i64 un, .int .i64 ki, .int .i64 ad, .int .i64 ev, .bool we, .bool sg, .bool sw, .int .i64 mu, .int .i64 di, .int .i64 aa, .int .i64 de, .int .i64 qu, .bool ul, .bool uh, .bool la, .int .i64 lo, .int .i64 hi, .int .i64 hy]] w fun e w' => e = .returned (.int .i64 25) ∧ Below w.heap.size w w' := by
  have h0 := heap_alloc_new w (.cells #[.string nm, .int .i64 un, .int .i64 ki, .int .i64 ad, .int .i64 ev, .bool we, .bool sg, .bool sw, .int .i64 mu, .int .i64 di, .int .i64 aa, .int .i64 de, .int .i64 qu, .bool ul, .bool uh, .bool la, .int .i64 lo, .int .i64 hi, .int .i64 hy] 51)
  have bel0 := bel_alloc w (.cells #[.string nm, .int .i64 un, .int .i64 ki, .int .i64 ad, .int .i64 ev, .bool we, .bool sg, .bool sw, .int .i64 mu, .int .i64 di, .int .i64 aa, .int .i64 de, .int .i64 qu, .bool ul, .bool uh, .bool la, .int .i64 lo, .int .i64 hi, .int .i64 hy] 51)
  obtain ⟨wd, hwd⟩ : ∃ x, widT ⟨nm, un, ki, ad, ev, we, sg, sw, mu, di, aa, de, qu, ul, uh, la, lo, hi, hy⟩ = x := ⟨_, rfl⟩
  have hw12 := widT_le (⟨nm, un, ki, ad, ev, we, sg, sw, mu, di, aa, de, qu, ul, uh, la, lo, hi, hy⟩)
  have HW : Hid (∀ W : World, Calls Tryz.prog 61 #[.agg #[.string nm, .int .i64 un, .int .i64 ki, .int .i64 ad, .int .i64 ev, .bool we, .bool sg, .bool sw, .int .i64 mu, .int .i64 di, .int .i64 aa, .int .i64 de, .int .i64 qu, .bool ul, .bool uh, .bool la, .int .i64 lo, .int .i64 hi, .int .i64 hy]] W fun e w' => e = .returned (.int .i64 (widT ⟨nm, un, ki, ad, ev, we, sg, sw, mu, di, aa, de, qu, ul, uh, la, lo, hi, hy⟩)) ∧ Below W.heap.size W w') := Lib.hid fun W => refWidth_any nm un ki ad ev we sg sw mu di aa de qu ul uh la lo hi hy W
  rw [hwd] at d2 hw12 HW
  clear hwd
  have dd : decide (ad < 0) = false := decide_eq_false (by omega)
  have hwr : IntKind.i64.wrap (65536 - wd) = 65536 - wd := by rw [IntKind.wrap_i64]; omega
  go_enter Tryz.func56, Tryz.ntmps56
  go_wp2_with fail
  refine (refName_any nm _ hs).mono ?_
  rintro e w' ⟨rfl, rfl⟩
  rw [hn]
  clear hn
  go_wp2
  generalize w.alloc (.cells #[.string nm, .int .i64 un, .int .i64 ki, .int .i64 ad, .int .i64 ev, .bool we, .bool sg, .bool sw, .int .i64 mu, .int .i64 di, .int .i64 aa, .int .i64 de, .int .i64 qu, .bool ul, .bool uh, .bool la, .int .i64 lo, .int .i64 hi, .int .i64 hy] 51) = w0 at *
  have HK : Hid (∀ w9 : World, Below w0.heap.size w0 w9 → (Below w0.heap.size w0 w9 ∧ w9.cell? ⟨w.heap.size, 3, none⟩ = some (.int .i64 ad) ∧ (ldTag (.pointer (some ⟨w.heap.size, 0, none⟩))).run Tryz.prog w9 = .ok (.agg #[.string nm, .int .i64 un, .int .i64 ki, .int .i64 ad, .int .i64 ev, .bool we, .bool sg, .bool sw, .int .i64 mu, .int .i64 di, .int .i64 aa, .int .i64 de, .int .i64 qu, .bool ul, .bool uh, .bool la, .int .i64 lo, .int .i64 hi, .int .i64 hy]) w9)) := Lib.hid fun w9 hw => ⟨hw, (of19 nm un ki ad ev we sg sw mu di aa de qu ul uh la lo hi hy (keepB hw h0)).2.2.2.1, ldTag_run rfl (rangeB (cs := [.string nm, .int .i64 un, .int .i64 ki, .int .i64 ad, .int .i64 ev, .bool we, .bool sg, .bool sw, .int .i64 mu, .int .i64 di, .int .i64 aa, .int .i64 de, .int .i64 qu, .bool ul, .bool uh, .bool la, .int .i64 lo, .int .i64 hi, .int .i64 hy]) (keepB hw h0))⟩
  have belh : ∀ w9 : World, (Below w0.heap.size w0 w9 ∧ w9.cell? ⟨w.heap.size, 3, none⟩ = some (.int .i64 ad) ∧ (ldTag (.pointer (some ⟨w.heap.size, 0, none⟩))).run Tryz.prog w9 = .ok (.agg #[.string nm, .int .i64 un, .int .i64 ki, .int .i64 ad, .int .i64 ev, .bool we, .bool sg, .bool sw, .int .i64 mu, .int .i64 di, .int .i64 aa, .int .i64 de, .int .i64 qu, .bool ul, .bool uh, .bool la, .int .i64 lo, .int .i64 hi, .int .i64 hy]) w9) → Below w0.heap.size w0 w9 := fun w9 h => h.1
  go_region_held3 (fun w9 => Below w0.heap.size w0 w9 ∧ w9.cell? ⟨w.heap.size, 3, none⟩ = some (.int .i64 ad) ∧ (ldTag (.pointer (some ⟨w.heap.size, 0, none⟩))).run Tryz.prog w9 = .ok (.agg #[.string nm, .int .i64 un, .int .i64 ki, .int .i64 ad, .int .i64 ev, .bool we, .bool sg, .bool sw, .int .i64 mu, .int .i64 di, .int .i64 aa, .int .i64 de, .int .i64 qu, .bool ul, .bool uh, .bool la, .int .i64 lo, .int .i64 hi, .int .i64 hy]) w9)
    ((refine HK.out _ ?_
      repeat' (first
        | with_reducible exact Below.refl _ _
        | with_reducible exact bel5
        | with_reducible exact belh _ (by assumption)
        | with_reducible apply below_drew
        | with_reducible apply below_drewN
        | fail)))
    (first
      | (go_at_call 61; refine (HW.out _).mono ?_; rintro e w5 ⟨rfl, b5⟩; have bel5 : Below w0.heap.size w0 w5 := Below.trans (belh _ (by assumption)) (b5.mono (Below.size (belh _ (by assumption)))))
      | fail)
  have h5 := keepB bel5 h0
  have bel6 := bel0.trans (bel5.mono bel0.size)
  clear HK belh bel5 h0 bel0 HW
  obtain ⟨c0, c1, c2, c3, c4, c5, c6, c7, c8, c9, c10, c11, c12, c13, c14, c15, c16, c17, c18⟩ := of19 nm un ki ad ev we sg sw mu di aa de qu ul uh la lo hi hy h5
  go_wp2_with fail
  refine (refCheck6_any we sg sw mu di aa _).mono ?_
  rintro e w6 ⟨rfl, b6⟩
  rw [S0]
  have h6 := keepB b6 h5
  have bel7 := bel6.trans (b6.mono bel6.size)
  clear c0 c1 c2 c3 c4 c5 c6 c7 c8 c9 c10 c11 c12 c13 c14 c15 c16 c17 c18 b6 h5 bel6
  obtain ⟨c0, c1, c2, c3, c4, c5, c6, c7, c8, c9, c10, c11, c12, c13, c14, c15, c16, c17, c18⟩ := of19 nm un ki ad ev we sg sw mu di aa de qu ul uh la lo hi hy h6
  go_wp2
  go_ret
  exact ⟨rfl, bel7⟩

set_option maxHeartbeats 1000000 in
theorem rc9_11we (nm : ByteArray) (un ki ad ev : Int) (we sg sw : Bool) (mu di aa de qu : Int) (ul uh la : Bool) (lo hi hy : Int) (w : World) (hs : nm.size ≤ maxLen) (hn : nameB (bys nm) = true) (u1 : ¬ un < 1) (u2 : ¬ un > 247) (k1 : ¬ ki < 1) (k2 : ¬ ki > 4) (d1 : ¬ ad < 0) (d2 : ¬ ad > 65536 - widT ⟨nm, un, ki, ad, ev, we, sg, sw, mu, di, aa, de, qu, ul, uh, la, lo, hi, hy⟩) (v1 : ¬ ev < 1) (v2 : ¬ ev > 1048576) (S : chkS ⟨we, sg, sw, mu, di, aa⟩ = 0) (kb : ki ≤ 2) (hx : we = true) : Calls Tryz.prog 56 #[.agg #[.string nm, .int .i64 un, .int .i64 ki, .int .i64 ad, .int .i64 ev, .bool we, .bool sg, .bool sw, .int .i64 mu, .int .i64 di, .int .i64 aa, .int .i64 de, .int .i64 qu, .bool ul, .bool uh, .bool la, .int .i64 lo, .int .i64 hi, .int .i64 hy]] w fun e w' => e = .returned (.int .i64 25) ∧ Below w.heap.size w w' := by
  have HX := Lib.hid hx
  clear hx
  have h0 := heap_alloc_new w (.cells #[.string nm, .int .i64 un, .int .i64 ki, .int .i64 ad, .int .i64 ev, .bool we, .bool sg, .bool sw, .int .i64 mu, .int .i64 di, .int .i64 aa, .int .i64 de, .int .i64 qu, .bool ul, .bool uh, .bool la, .int .i64 lo, .int .i64 hi, .int .i64 hy] 51)
  have bel0 := bel_alloc w (.cells #[.string nm, .int .i64 un, .int .i64 ki, .int .i64 ad, .int .i64 ev, .bool we, .bool sg, .bool sw, .int .i64 mu, .int .i64 di, .int .i64 aa, .int .i64 de, .int .i64 qu, .bool ul, .bool uh, .bool la, .int .i64 lo, .int .i64 hi, .int .i64 hy] 51)
  obtain ⟨wd, hwd⟩ : ∃ x, widT ⟨nm, un, ki, ad, ev, we, sg, sw, mu, di, aa, de, qu, ul, uh, la, lo, hi, hy⟩ = x := ⟨_, rfl⟩
  have hw12 := widT_le (⟨nm, un, ki, ad, ev, we, sg, sw, mu, di, aa, de, qu, ul, uh, la, lo, hi, hy⟩)
  have HW : Hid (∀ W : World, Calls Tryz.prog 61 #[.agg #[.string nm, .int .i64 un, .int .i64 ki, .int .i64 ad, .int .i64 ev, .bool we, .bool sg, .bool sw, .int .i64 mu, .int .i64 di, .int .i64 aa, .int .i64 de, .int .i64 qu, .bool ul, .bool uh, .bool la, .int .i64 lo, .int .i64 hi, .int .i64 hy]] W fun e w' => e = .returned (.int .i64 (widT ⟨nm, un, ki, ad, ev, we, sg, sw, mu, di, aa, de, qu, ul, uh, la, lo, hi, hy⟩)) ∧ Below W.heap.size W w') := Lib.hid fun W => refWidth_any nm un ki ad ev we sg sw mu di aa de qu ul uh la lo hi hy W
  rw [hwd] at d2 hw12 HW
  clear hwd
  have dd : decide (ad < 0) = false := decide_eq_false (by omega)
  have hwr : IntKind.i64.wrap (65536 - wd) = 65536 - wd := by rw [IntKind.wrap_i64]; omega
  go_enter Tryz.func56, Tryz.ntmps56
  go_wp2_with fail
  refine (refName_any nm _ hs).mono ?_
  rintro e w' ⟨rfl, rfl⟩
  rw [hn]
  clear hn
  go_wp2
  generalize w.alloc (.cells #[.string nm, .int .i64 un, .int .i64 ki, .int .i64 ad, .int .i64 ev, .bool we, .bool sg, .bool sw, .int .i64 mu, .int .i64 di, .int .i64 aa, .int .i64 de, .int .i64 qu, .bool ul, .bool uh, .bool la, .int .i64 lo, .int .i64 hi, .int .i64 hy] 51) = w0 at *
  have HK : Hid (∀ w9 : World, Below w0.heap.size w0 w9 → (Below w0.heap.size w0 w9 ∧ w9.cell? ⟨w.heap.size, 3, none⟩ = some (.int .i64 ad) ∧ (ldTag (.pointer (some ⟨w.heap.size, 0, none⟩))).run Tryz.prog w9 = .ok (.agg #[.string nm, .int .i64 un, .int .i64 ki, .int .i64 ad, .int .i64 ev, .bool we, .bool sg, .bool sw, .int .i64 mu, .int .i64 di, .int .i64 aa, .int .i64 de, .int .i64 qu, .bool ul, .bool uh, .bool la, .int .i64 lo, .int .i64 hi, .int .i64 hy]) w9)) := Lib.hid fun w9 hw => ⟨hw, (of19 nm un ki ad ev we sg sw mu di aa de qu ul uh la lo hi hy (keepB hw h0)).2.2.2.1, ldTag_run rfl (rangeB (cs := [.string nm, .int .i64 un, .int .i64 ki, .int .i64 ad, .int .i64 ev, .bool we, .bool sg, .bool sw, .int .i64 mu, .int .i64 di, .int .i64 aa, .int .i64 de, .int .i64 qu, .bool ul, .bool uh, .bool la, .int .i64 lo, .int .i64 hi, .int .i64 hy]) (keepB hw h0))⟩
  have belh : ∀ w9 : World, (Below w0.heap.size w0 w9 ∧ w9.cell? ⟨w.heap.size, 3, none⟩ = some (.int .i64 ad) ∧ (ldTag (.pointer (some ⟨w.heap.size, 0, none⟩))).run Tryz.prog w9 = .ok (.agg #[.string nm, .int .i64 un, .int .i64 ki, .int .i64 ad, .int .i64 ev, .bool we, .bool sg, .bool sw, .int .i64 mu, .int .i64 di, .int .i64 aa, .int .i64 de, .int .i64 qu, .bool ul, .bool uh, .bool la, .int .i64 lo, .int .i64 hi, .int .i64 hy]) w9) → Below w0.heap.size w0 w9 := fun w9 h => h.1
  go_region_held3 (fun w9 => Below w0.heap.size w0 w9 ∧ w9.cell? ⟨w.heap.size, 3, none⟩ = some (.int .i64 ad) ∧ (ldTag (.pointer (some ⟨w.heap.size, 0, none⟩))).run Tryz.prog w9 = .ok (.agg #[.string nm, .int .i64 un, .int .i64 ki, .int .i64 ad, .int .i64 ev, .bool we, .bool sg, .bool sw, .int .i64 mu, .int .i64 di, .int .i64 aa, .int .i64 de, .int .i64 qu, .bool ul, .bool uh, .bool la, .int .i64 lo, .int .i64 hi, .int .i64 hy]) w9)
    ((refine HK.out _ ?_
      repeat' (first
        | with_reducible exact Below.refl _ _
        | with_reducible exact bel5
        | with_reducible exact belh _ (by assumption)
        | with_reducible apply below_drew
        | with_reducible apply below_drewN
        | fail)))
    (first
      | (go_at_call 61; refine (HW.out _).mono ?_; rintro e w5 ⟨rfl, b5⟩; have bel5 : Below w0.heap.size w0 w5 := Below.trans (belh _ (by assumption)) (b5.mono (Below.size (belh _ (by assumption)))))
      | fail)
  have h5 := keepB bel5 h0
  have bel6 := bel0.trans (bel5.mono bel0.size)
  clear HK belh bel5 h0 bel0 HW
  obtain ⟨c0, c1, c2, c3, c4, c5, c6, c7, c8, c9, c10, c11, c12, c13, c14, c15, c16, c17, c18⟩ := of19 nm un ki ad ev we sg sw mu di aa de qu ul uh la lo hi hy h5
  go_wp2_with fail
  refine (refCheck6_any we sg sw mu di aa _).mono ?_
  rintro e w6 ⟨rfl, b6⟩
  rw [S]
  have h6 := keepB b6 h5
  have bel7 := bel6.trans (b6.mono bel6.size)
  clear c0 c1 c2 c3 c4 c5 c6 c7 c8 c9 c10 c11 c12 c13 c14 c15 c16 c17 c18 b6 h5 bel6
  obtain ⟨c0, c1, c2, c3, c4, c5, c6, c7, c8, c9, c10, c11, c12, c13, c14, c15, c16, c17, c18⟩ := of19 nm un ki ad ev we sg sw mu di aa de qu ul uh la lo hi hy h6
  have hx := HX.out
  go_wp2
  go_ret
  exact ⟨rfl, bel7⟩

set_option maxHeartbeats 1000000 in
theorem rc9_11sg (nm : ByteArray) (un ki ad ev : Int) (we sg sw : Bool) (mu di aa de qu : Int) (ul uh la : Bool) (lo hi hy : Int) (w : World) (hs : nm.size ≤ maxLen) (hn : nameB (bys nm) = true) (u1 : ¬ un < 1) (u2 : ¬ un > 247) (k1 : ¬ ki < 1) (k2 : ¬ ki > 4) (d1 : ¬ ad < 0) (d2 : ¬ ad > 65536 - widT ⟨nm, un, ki, ad, ev, we, sg, sw, mu, di, aa, de, qu, ul, uh, la, lo, hi, hy⟩) (v1 : ¬ ev < 1) (v2 : ¬ ev > 1048576) (S : chkS ⟨we, sg, sw, mu, di, aa⟩ = 0) (kb : ki ≤ 2) (hx : sg = true) : Calls Tryz.prog 56 #[.agg #[.string nm, .int .i64 un, .int .i64 ki, .int .i64 ad, .int .i64 ev, .bool we, .bool sg, .bool sw, .int .i64 mu, .int .i64 di, .int .i64 aa, .int .i64 de, .int .i64 qu, .bool ul, .bool uh, .bool la, .int .i64 lo, .int .i64 hi, .int .i64 hy]] w fun e w' => e = .returned (.int .i64 25) ∧ Below w.heap.size w w' := by
  have HX := Lib.hid hx
  clear hx
  have h0 := heap_alloc_new w (.cells #[.string nm, .int .i64 un, .int .i64 ki, .int .i64 ad, .int .i64 ev, .bool we, .bool sg, .bool sw, .int .i64 mu, .int .i64 di, .int .i64 aa, .int .i64 de, .int .i64 qu, .bool ul, .bool uh, .bool la, .int .i64 lo, .int .i64 hi, .int .i64 hy] 51)
  have bel0 := bel_alloc w (.cells #[.string nm, .int .i64 un, .int .i64 ki, .int .i64 ad, .int .i64 ev, .bool we, .bool sg, .bool sw, .int .i64 mu, .int .i64 di, .int .i64 aa, .int .i64 de, .int .i64 qu, .bool ul, .bool uh, .bool la, .int .i64 lo, .int .i64 hi, .int .i64 hy] 51)
  obtain ⟨wd, hwd⟩ : ∃ x, widT ⟨nm, un, ki, ad, ev, we, sg, sw, mu, di, aa, de, qu, ul, uh, la, lo, hi, hy⟩ = x := ⟨_, rfl⟩
  have hw12 := widT_le (⟨nm, un, ki, ad, ev, we, sg, sw, mu, di, aa, de, qu, ul, uh, la, lo, hi, hy⟩)
  have HW : Hid (∀ W : World, Calls Tryz.prog 61 #[.agg #[.string nm, .int .i64 un, .int .i64 ki, .int .i64 ad, .int .i64 ev, .bool we, .bool sg, .bool sw, .int .i64 mu, .int .i64 di, .int .i64 aa, .int .i64 de, .int .i64 qu, .bool ul, .bool uh, .bool la, .int .i64 lo, .int .i64 hi, .int .i64 hy]] W fun e w' => e = .returned (.int .i64 (widT ⟨nm, un, ki, ad, ev, we, sg, sw, mu, di, aa, de, qu, ul, uh, la, lo, hi, hy⟩)) ∧ Below W.heap.size W w') := Lib.hid fun W => refWidth_any nm un ki ad ev we sg sw mu di aa de qu ul uh la lo hi hy W
  rw [hwd] at d2 hw12 HW
  clear hwd
  have dd : decide (ad < 0) = false := decide_eq_false (by omega)
  have hwr : IntKind.i64.wrap (65536 - wd) = 65536 - wd := by rw [IntKind.wrap_i64]; omega
  go_enter Tryz.func56, Tryz.ntmps56
  go_wp2_with fail
  refine (refName_any nm _ hs).mono ?_
  rintro e w' ⟨rfl, rfl⟩
  rw [hn]
  clear hn
  go_wp2
  generalize w.alloc (.cells #[.string nm, .int .i64 un, .int .i64 ki, .int .i64 ad, .int .i64 ev, .bool we, .bool sg, .bool sw, .int .i64 mu, .int .i64 di, .int .i64 aa, .int .i64 de, .int .i64 qu, .bool ul, .bool uh, .bool la, .int .i64 lo, .int .i64 hi, .int .i64 hy] 51) = w0 at *
  have HK : Hid (∀ w9 : World, Below w0.heap.size w0 w9 → (Below w0.heap.size w0 w9 ∧ w9.cell? ⟨w.heap.size, 3, none⟩ = some (.int .i64 ad) ∧ (ldTag (.pointer (some ⟨w.heap.size, 0, none⟩))).run Tryz.prog w9 = .ok (.agg #[.string nm, .int .i64 un, .int .i64 ki, .int .i64 ad, .int .i64 ev, .bool we, .bool sg, .bool sw, .int .i64 mu, .int .i64 di, .int .i64 aa, .int .i64 de, .int .i64 qu, .bool ul, .bool uh, .bool la, .int .i64 lo, .int .i64 hi, .int .i64 hy]) w9)) := Lib.hid fun w9 hw => ⟨hw, (of19 nm un ki ad ev we sg sw mu di aa de qu ul uh la lo hi hy (keepB hw h0)).2.2.2.1, ldTag_run rfl (rangeB (cs := [.string nm, .int .i64 un, .int .i64 ki, .int .i64 ad, .int .i64 ev, .bool we, .bool sg, .bool sw, .int .i64 mu, .int .i64 di, .int .i64 aa, .int .i64 de, .int .i64 qu, .bool ul, .bool uh, .bool la, .int .i64 lo, .int .i64 hi, .int .i64 hy]) (keepB hw h0))⟩
  have belh : ∀ w9 : World, (Below w0.heap.size w0 w9 ∧ w9.cell? ⟨w.heap.size, 3, none⟩ = some (.int .i64 ad) ∧ (ldTag (.pointer (some ⟨w.heap.size, 0, none⟩))).run Tryz.prog w9 = .ok (.agg #[.string nm, .int .i64 un, .int .i64 ki, .int .i64 ad, .int .i64 ev, .bool we, .bool sg, .bool sw, .int .i64 mu, .int .i64 di, .int .i64 aa, .int .i64 de, .int .i64 qu, .bool ul, .bool uh, .bool la, .int .i64 lo, .int .i64 hi, .int .i64 hy]) w9) → Below w0.heap.size w0 w9 := fun w9 h => h.1
  go_region_held3 (fun w9 => Below w0.heap.size w0 w9 ∧ w9.cell? ⟨w.heap.size, 3, none⟩ = some (.int .i64 ad) ∧ (ldTag (.pointer (some ⟨w.heap.size, 0, none⟩))).run Tryz.prog w9 = .ok (.agg #[.string nm, .int .i64 un, .int .i64 ki, .int .i64 ad, .int .i64 ev, .bool we, .bool sg, .bool sw, .int .i64 mu, .int .i64 di, .int .i64 aa, .int .i64 de, .int .i64 qu, .bool ul, .bool uh, .bool la, .int .i64 lo, .int .i64 hi, .int .i64 hy]) w9)
    ((refine HK.out _ ?_
      repeat' (first
        | with_reducible exact Below.refl _ _
        | with_reducible exact bel5
        | with_reducible exact belh _ (by assumption)
        | with_reducible apply below_drew
        | with_reducible apply below_drewN
        | fail)))
    (first
      | (go_at_call 61; refine (HW.out _).mono ?_; rintro e w5 ⟨rfl, b5⟩; have bel5 : Below w0.heap.size w0 w5 := Below.trans (belh _ (by assumption)) (b5.mono (Below.size (belh _ (by assumption)))))
      | fail)
  have h5 := keepB bel5 h0
  have bel6 := bel0.trans (bel5.mono bel0.size)
  clear HK belh bel5 h0 bel0 HW
  obtain ⟨c0, c1, c2, c3, c4, c5, c6, c7, c8, c9, c10, c11, c12, c13, c14, c15, c16, c17, c18⟩ := of19 nm un ki ad ev we sg sw mu di aa de qu ul uh la lo hi hy h5
  go_wp2_with fail
  refine (refCheck6_any we sg sw mu di aa _).mono ?_
  rintro e w6 ⟨rfl, b6⟩
  rw [S]
  have h6 := keepB b6 h5
  have bel7 := bel6.trans (b6.mono bel6.size)
  clear c0 c1 c2 c3 c4 c5 c6 c7 c8 c9 c10 c11 c12 c13 c14 c15 c16 c17 c18 b6 h5 bel6
  obtain ⟨c0, c1, c2, c3, c4, c5, c6, c7, c8, c9, c10, c11, c12, c13, c14, c15, c16, c17, c18⟩ := of19 nm un ki ad ev we sg sw mu di aa de qu ul uh la lo hi hy h6
  have hx := HX.out
  go_wp2
  go_ret
  exact ⟨rfl, bel7⟩

set_option maxHeartbeats 1000000 in
theorem rc9_11sw (nm : ByteArray) (un ki ad ev : Int) (we sg sw : Bool) (mu di aa de qu : Int) (ul uh la : Bool) (lo hi hy : Int) (w : World) (hs : nm.size ≤ maxLen) (hn : nameB (bys nm) = true) (u1 : ¬ un < 1) (u2 : ¬ un > 247) (k1 : ¬ ki < 1) (k2 : ¬ ki > 4) (d1 : ¬ ad < 0) (d2 : ¬ ad > 65536 - widT ⟨nm, un, ki, ad, ev, we, sg, sw, mu, di, aa, de, qu, ul, uh, la, lo, hi, hy⟩) (v1 : ¬ ev < 1) (v2 : ¬ ev > 1048576) (S : chkS ⟨we, sg, sw, mu, di, aa⟩ = 0) (kb : ki ≤ 2) (hx : sw = true) : Calls Tryz.prog 56 #[.agg #[.string nm, .int .i64 un, .int .i64 ki, .int .i64 ad, .int .i64 ev, .bool we, .bool sg, .bool sw, .int .i64 mu, .int .i64 di, .int .i64 aa, .int .i64 de, .int .i64 qu, .bool ul, .bool uh, .bool la, .int .i64 lo, .int .i64 hi, .int .i64 hy]] w fun e w' => e = .returned (.int .i64 25) ∧ Below w.heap.size w w' := by
  have HX := Lib.hid hx
  clear hx
  have h0 := heap_alloc_new w (.cells #[.string nm, .int .i64 un, .int .i64 ki, .int .i64 ad, .int .i64 ev, .bool we, .bool sg, .bool sw, .int .i64 mu, .int .i64 di, .int .i64 aa, .int .i64 de, .int .i64 qu, .bool ul, .bool uh, .bool la, .int .i64 lo, .int .i64 hi, .int .i64 hy] 51)
  have bel0 := bel_alloc w (.cells #[.string nm, .int .i64 un, .int .i64 ki, .int .i64 ad, .int .i64 ev, .bool we, .bool sg, .bool sw, .int .i64 mu, .int .i64 di, .int .i64 aa, .int .i64 de, .int .i64 qu, .bool ul, .bool uh, .bool la, .int .i64 lo, .int .i64 hi, .int .i64 hy] 51)
  obtain ⟨wd, hwd⟩ : ∃ x, widT ⟨nm, un, ki, ad, ev, we, sg, sw, mu, di, aa, de, qu, ul, uh, la, lo, hi, hy⟩ = x := ⟨_, rfl⟩
  have hw12 := widT_le (⟨nm, un, ki, ad, ev, we, sg, sw, mu, di, aa, de, qu, ul, uh, la, lo, hi, hy⟩)
  have HW : Hid (∀ W : World, Calls Tryz.prog 61 #[.agg #[.string nm, .int .i64 un, .int .i64 ki, .int .i64 ad, .int .i64 ev, .bool we, .bool sg, .bool sw, .int .i64 mu, .int .i64 di, .int .i64 aa, .int .i64 de, .int .i64 qu, .bool ul, .bool uh, .bool la, .int .i64 lo, .int .i64 hi, .int .i64 hy]] W fun e w' => e = .returned (.int .i64 (widT ⟨nm, un, ki, ad, ev, we, sg, sw, mu, di, aa, de, qu, ul, uh, la, lo, hi, hy⟩)) ∧ Below W.heap.size W w') := Lib.hid fun W => refWidth_any nm un ki ad ev we sg sw mu di aa de qu ul uh la lo hi hy W
  rw [hwd] at d2 hw12 HW
  clear hwd
  have dd : decide (ad < 0) = false := decide_eq_false (by omega)
  have hwr : IntKind.i64.wrap (65536 - wd) = 65536 - wd := by rw [IntKind.wrap_i64]; omega
  go_enter Tryz.func56, Tryz.ntmps56
  go_wp2_with fail
  refine (refName_any nm _ hs).mono ?_
  rintro e w' ⟨rfl, rfl⟩
  rw [hn]
  clear hn
  go_wp2
  generalize w.alloc (.cells #[.string nm, .int .i64 un, .int .i64 ki, .int .i64 ad, .int .i64 ev, .bool we, .bool sg, .bool sw, .int .i64 mu, .int .i64 di, .int .i64 aa, .int .i64 de, .int .i64 qu, .bool ul, .bool uh, .bool la, .int .i64 lo, .int .i64 hi, .int .i64 hy] 51) = w0 at *
  have HK : Hid (∀ w9 : World, Below w0.heap.size w0 w9 → (Below w0.heap.size w0 w9 ∧ w9.cell? ⟨w.heap.size, 3, none⟩ = some (.int .i64 ad) ∧ (ldTag (.pointer (some ⟨w.heap.size, 0, none⟩))).run Tryz.prog w9 = .ok (.agg #[.string nm, .int .i64 un, .int .i64 ki, .int .i64 ad, .int .i64 ev, .bool we, .bool sg, .bool sw, .int .i64 mu, .int .i64 di, .int .i64 aa, .int .i64 de, .int .i64 qu, .bool ul, .bool uh, .bool la, .int .i64 lo, .int .i64 hi, .int .i64 hy]) w9)) := Lib.hid fun w9 hw => ⟨hw, (of19 nm un ki ad ev we sg sw mu di aa de qu ul uh la lo hi hy (keepB hw h0)).2.2.2.1, ldTag_run rfl (rangeB (cs := [.string nm, .int .i64 un, .int .i64 ki, .int .i64 ad, .int .i64 ev, .bool we, .bool sg, .bool sw, .int .i64 mu, .int .i64 di, .int .i64 aa, .int .i64 de, .int .i64 qu, .bool ul, .bool uh, .bool la, .int .i64 lo, .int .i64 hi, .int .i64 hy]) (keepB hw h0))⟩
  have belh : ∀ w9 : World, (Below w0.heap.size w0 w9 ∧ w9.cell? ⟨w.heap.size, 3, none⟩ = some (.int .i64 ad) ∧ (ldTag (.pointer (some ⟨w.heap.size, 0, none⟩))).run Tryz.prog w9 = .ok (.agg #[.string nm, .int .i64 un, .int .i64 ki, .int .i64 ad, .int .i64 ev, .bool we, .bool sg, .bool sw, .int .i64 mu, .int .i64 di, .int .i64 aa, .int .i64 de, .int .i64 qu, .bool ul, .bool uh, .bool la, .int .i64 lo, .int .i64 hi, .int .i64 hy]) w9) → Below w0.heap.size w0 w9 := fun w9 h => h.1
  go_region_held3 (fun w9 => Below w0.heap.size w0 w9 ∧ w9.cell? ⟨w.heap.size, 3, none⟩ = some (.int .i64 ad) ∧ (ldTag (.pointer (some ⟨w.heap.size, 0, none⟩))).run Tryz.prog w9 = .ok (.agg #[.string nm, .int .i64 un, .int .i64 ki, .int .i64 ad, .int .i64 ev, .bool we, .bool sg, .bool sw, .int .i64 mu, .int .i64 di, .int .i64 aa, .int .i64 de, .int .i64 qu, .bool ul, .bool uh, .bool la, .int .i64 lo, .int .i64 hi, .int .i64 hy]) w9)
    ((refine HK.out _ ?_
      repeat' (first
        | with_reducible exact Below.refl _ _
        | with_reducible exact bel5
        | with_reducible exact belh _ (by assumption)
        | with_reducible apply below_drew
        | with_reducible apply below_drewN
        | fail)))
    (first
      | (go_at_call 61; refine (HW.out _).mono ?_; rintro e w5 ⟨rfl, b5⟩; have bel5 : Below w0.heap.size w0 w5 := Below.trans (belh _ (by assumption)) (b5.mono (Below.size (belh _ (by assumption)))))
      | fail)
  have h5 := keepB bel5 h0
  have bel6 := bel0.trans (bel5.mono bel0.size)
  clear HK belh bel5 h0 bel0 HW
  obtain ⟨c0, c1, c2, c3, c4, c5, c6, c7, c8, c9, c10, c11, c12, c13, c14, c15, c16, c17, c18⟩ := of19 nm un ki ad ev we sg sw mu di aa de qu ul uh la lo hi hy h5
  go_wp2_with fail
  refine (refCheck6_any we sg sw mu di aa _).mono ?_
  rintro e w6 ⟨rfl, b6⟩
  rw [S]
  have h6 := keepB b6 h5
  have bel7 := bel6.trans (b6.mono bel6.size)
  clear c0 c1 c2 c3 c4 c5 c6 c7 c8 c9 c10 c11 c12 c13 c14 c15 c16 c17 c18 b6 h5 bel6
  obtain ⟨c0, c1, c2, c3, c4, c5, c6, c7, c8, c9, c10, c11, c12, c13, c14, c15, c16, c17, c18⟩ := of19 nm un ki ad ev we sg sw mu di aa de qu ul uh la lo hi hy h6
  have hx := HX.out
  go_wp2
  go_ret
  exact ⟨rfl, bel7⟩

set_option maxHeartbeats 1000000 in
theorem rc9_11mu (nm : ByteArray) (un ki ad ev : Int) (we sg sw : Bool) (mu di aa de qu : Int) (ul uh la : Bool) (lo hi hy : Int) (w : World) (hs : nm.size ≤ maxLen) (hn : nameB (bys nm) = true) (u1 : ¬ un < 1) (u2 : ¬ un > 247) (k1 : ¬ ki < 1) (k2 : ¬ ki > 4) (d1 : ¬ ad < 0) (d2 : ¬ ad > 65536 - widT ⟨nm, un, ki, ad, ev, we, sg, sw, mu, di, aa, de, qu, ul, uh, la, lo, hi, hy⟩) (v1 : ¬ ev < 1) (v2 : ¬ ev > 1048576) (S : chkS ⟨we, sg, sw, mu, di, aa⟩ = 0) (kb : ki ≤ 2) (hx : mu ≠ 1) : Calls Tryz.prog 56 #[.agg #[.string nm, .int .i64 un, .int .i64 ki, .int .i64 ad, .int .i64 ev, .bool we, .bool sg, .bool sw, .int .i64 mu, .int .i64 di, .int .i64 aa, .int .i64 de, .int .i64 qu, .bool ul, .bool uh, .bool la, .int .i64 lo, .int .i64 hi, .int .i64 hy]] w fun e w' => e = .returned (.int .i64 25) ∧ Below w.heap.size w w' := by
  have hx2 : (mu == 1) = false := beq_false_of_ne hx
  have h0 := heap_alloc_new w (.cells #[.string nm, .int .i64 un, .int .i64 ki, .int .i64 ad, .int .i64 ev, .bool we, .bool sg, .bool sw, .int .i64 mu, .int .i64 di, .int .i64 aa, .int .i64 de, .int .i64 qu, .bool ul, .bool uh, .bool la, .int .i64 lo, .int .i64 hi, .int .i64 hy] 51)
  have bel0 := bel_alloc w (.cells #[.string nm, .int .i64 un, .int .i64 ki, .int .i64 ad, .int .i64 ev, .bool we, .bool sg, .bool sw, .int .i64 mu, .int .i64 di, .int .i64 aa, .int .i64 de, .int .i64 qu, .bool ul, .bool uh, .bool la, .int .i64 lo, .int .i64 hi, .int .i64 hy] 51)
  obtain ⟨wd, hwd⟩ : ∃ x, widT ⟨nm, un, ki, ad, ev, we, sg, sw, mu, di, aa, de, qu, ul, uh, la, lo, hi, hy⟩ = x := ⟨_, rfl⟩
  have hw12 := widT_le (⟨nm, un, ki, ad, ev, we, sg, sw, mu, di, aa, de, qu, ul, uh, la, lo, hi, hy⟩)
  have HW : Hid (∀ W : World, Calls Tryz.prog 61 #[.agg #[.string nm, .int .i64 un, .int .i64 ki, .int .i64 ad, .int .i64 ev, .bool we, .bool sg, .bool sw, .int .i64 mu, .int .i64 di, .int .i64 aa, .int .i64 de, .int .i64 qu, .bool ul, .bool uh, .bool la, .int .i64 lo, .int .i64 hi, .int .i64 hy]] W fun e w' => e = .returned (.int .i64 (widT ⟨nm, un, ki, ad, ev, we, sg, sw, mu, di, aa, de, qu, ul, uh, la, lo, hi, hy⟩)) ∧ Below W.heap.size W w') := Lib.hid fun W => refWidth_any nm un ki ad ev we sg sw mu di aa de qu ul uh la lo hi hy W
  rw [hwd] at d2 hw12 HW
  clear hwd
  have dd : decide (ad < 0) = false := decide_eq_false (by omega)
  have hwr : IntKind.i64.wrap (65536 - wd) = 65536 - wd := by rw [IntKind.wrap_i64]; omega
  go_enter Tryz.func56, Tryz.ntmps56
  go_wp2_with fail
  refine (refName_any nm _ hs).mono ?_
  rintro e w' ⟨rfl, rfl⟩
  rw [hn]
  clear hn
  go_wp2
  generalize w.alloc (.cells #[.string nm, .int .i64 un, .int .i64 ki, .int .i64 ad, .int .i64 ev, .bool we, .bool sg, .bool sw, .int .i64 mu, .int .i64 di, .int .i64 aa, .int .i64 de, .int .i64 qu, .bool ul, .bool uh, .bool la, .int .i64 lo, .int .i64 hi, .int .i64 hy] 51) = w0 at *
  have HK : Hid (∀ w9 : World, Below w0.heap.size w0 w9 → (Below w0.heap.size w0 w9 ∧ w9.cell? ⟨w.heap.size, 3, none⟩ = some (.int .i64 ad) ∧ (ldTag (.pointer (some ⟨w.heap.size, 0, none⟩))).run Tryz.prog w9 = .ok (.agg #[.string nm, .int .i64 un, .int .i64 ki, .int .i64 ad, .int .i64 ev, .bool we, .bool sg, .bool sw, .int .i64 mu, .int .i64 di, .int .i64 aa, .int .i64 de, .int .i64 qu, .bool ul, .bool uh, .bool la, .int .i64 lo, .int .i64 hi, .int .i64 hy]) w9)) := Lib.hid fun w9 hw => ⟨hw, (of19 nm un ki ad ev we sg sw mu di aa de qu ul uh la lo hi hy (keepB hw h0)).2.2.2.1, ldTag_run rfl (rangeB (cs := [.string nm, .int .i64 un, .int .i64 ki, .int .i64 ad, .int .i64 ev, .bool we, .bool sg, .bool sw, .int .i64 mu, .int .i64 di, .int .i64 aa, .int .i64 de, .int .i64 qu, .bool ul, .bool uh, .bool la, .int .i64 lo, .int .i64 hi, .int .i64 hy]) (keepB hw h0))⟩
  have belh : ∀ w9 : World, (Below w0.heap.size w0 w9 ∧ w9.cell? ⟨w.heap.size, 3, none⟩ = some (.int .i64 ad) ∧ (ldTag (.pointer (some ⟨w.heap.size, 0, none⟩))).run Tryz.prog w9 = .ok (.agg #[.string nm, .int .i64 un, .int .i64 ki, .int .i64 ad, .int .i64 ev, .bool we, .bool sg, .bool sw, .int .i64 mu, .int .i64 di, .int .i64 aa, .int .i64 de, .int .i64 qu, .bool ul, .bool uh, .bool la, .int .i64 lo, .int .i64 hi, .int .i64 hy]) w9) → Below w0.heap.size w0 w9 := fun w9 h => h.1
  go_region_held3 (fun w9 => Below w0.heap.size w0 w9 ∧ w9.cell? ⟨w.heap.size, 3, none⟩ = some (.int .i64 ad) ∧ (ldTag (.pointer (some ⟨w.heap.size, 0, none⟩))).run Tryz.prog w9 = .ok (.agg #[.string nm, .int .i64 un, .int .i64 ki, .int .i64 ad, .int .i64 ev, .bool we, .bool sg, .bool sw, .int .i64 mu, .int .i64 di, .int .i64 aa, .int .i64 de, .int .i64 qu, .bool ul, .bool uh, .bool la, .int .i64 lo, .int .i64 hi, .int .i64 hy]) w9)
    ((refine HK.out _ ?_
      repeat' (first
        | with_reducible exact Below.refl _ _
        | with_reducible exact bel5
        | with_reducible exact belh _ (by assumption)
        | with_reducible apply below_drew
        | with_reducible apply below_drewN
        | fail)))
    (first
      | (go_at_call 61; refine (HW.out _).mono ?_; rintro e w5 ⟨rfl, b5⟩; have bel5 : Below w0.heap.size w0 w5 := Below.trans (belh _ (by assumption)) (b5.mono (Below.size (belh _ (by assumption)))))
      | fail)
  have h5 := keepB bel5 h0
  have bel6 := bel0.trans (bel5.mono bel0.size)
  clear HK belh bel5 h0 bel0 HW
  obtain ⟨c0, c1, c2, c3, c4, c5, c6, c7, c8, c9, c10, c11, c12, c13, c14, c15, c16, c17, c18⟩ := of19 nm un ki ad ev we sg sw mu di aa de qu ul uh la lo hi hy h5
  go_wp2_with fail
  refine (refCheck6_any we sg sw mu di aa _).mono ?_
  rintro e w6 ⟨rfl, b6⟩
  rw [S]
  have h6 := keepB b6 h5
  have bel7 := bel6.trans (b6.mono bel6.size)
  clear c0 c1 c2 c3 c4 c5 c6 c7 c8 c9 c10 c11 c12 c13 c14 c15 c16 c17 c18 b6 h5 bel6
  obtain ⟨c0, c1, c2, c3, c4, c5, c6, c7, c8, c9, c10, c11, c12, c13, c14, c15, c16, c17, c18⟩ := of19 nm un ki ad ev we sg sw mu di aa de qu ul uh la lo hi hy h6
  go_wp2
  go_ret
  exact ⟨rfl, bel7⟩

set_option maxHeartbeats 1000000 in
theorem rc9_11di (nm : ByteArray) (un ki ad ev : Int) (we sg sw : Bool) (mu di aa de qu : Int) (ul uh la : Bool) (lo hi hy : Int) (w : World) (hs : nm.size ≤ maxLen) (hn : nameB (bys nm) = true) (u1 : ¬ un < 1) (u2 : ¬ un > 247) (k1 : ¬ ki < 1) (k2 : ¬ ki > 4) (d1 : ¬ ad < 0) (d2 : ¬ ad > 65536 - widT ⟨nm, un, ki, ad, ev, we, sg, sw, mu, di, aa, de, qu, ul, uh, la, lo, hi, hy⟩) (v1 : ¬ ev < 1) (v2 : ¬ ev > 1048576) (S : chkS ⟨we, sg, sw, mu, di, aa⟩ = 0) (kb : ki ≤ 2) (hx : di ≠ 1) : Calls Tryz.prog 56 #[.agg #[.string nm, .int .i64 un, .int .i64 ki, .int .i64 ad, .int .i64 ev, .bool we, .bool sg, .bool sw, .int .i64 mu, .int .i64 di, .int .i64 aa, .int .i64 de, .int .i64 qu, .bool ul, .bool uh, .bool la, .int .i64 lo, .int .i64 hi, .int .i64 hy]] w fun e w' => e = .returned (.int .i64 25) ∧ Below w.heap.size w w' := by
  have hx2 : (di == 1) = false := beq_false_of_ne hx
  have h0 := heap_alloc_new w (.cells #[.string nm, .int .i64 un, .int .i64 ki, .int .i64 ad, .int .i64 ev, .bool we, .bool sg, .bool sw, .int .i64 mu, .int .i64 di, .int .i64 aa, .int .i64 de, .int .i64 qu, .bool ul, .bool uh, .bool la, .int .i64 lo, .int .i64 hi, .int .i64 hy] 51)
  have bel0 := bel_alloc w (.cells #[.string nm, .int .i64 un, .int .i64 ki, .int .i64 ad, .int .i64 ev, .bool we, .bool sg, .bool sw, .int .i64 mu, .int .i64 di, .int .i64 aa, .int .i64 de, .int .i64 qu, .bool ul, .bool uh, .bool la, .int .i64 lo, .int .i64 hi, .int .i64 hy] 51)
  obtain ⟨wd, hwd⟩ : ∃ x, widT ⟨nm, un, ki, ad, ev, we, sg, sw, mu, di, aa, de, qu, ul, uh, la, lo, hi, hy⟩ = x := ⟨_, rfl⟩
  have hw12 := widT_le (⟨nm, un, ki, ad, ev, we, sg, sw, mu, di, aa, de, qu, ul, uh, la, lo, hi, hy⟩)
  have HW : Hid (∀ W : World, Calls Tryz.prog 61 #[.agg #[.string nm, .int .i64 un, .int .i64 ki, .int .i64 ad, .int .i64 ev, .bool we, .bool sg, .bool sw, .int .i64 mu, .int .i64 di, .int .i64 aa, .int .i64 de, .int .i64 qu, .bool ul, .bool uh, .bool la, .int .i64 lo, .int .i64 hi, .int .i64 hy]] W fun e w' => e = .returned (.int .i64 (widT ⟨nm, un, ki, ad, ev, we, sg, sw, mu, di, aa, de, qu, ul, uh, la, lo, hi, hy⟩)) ∧ Below W.heap.size W w') := Lib.hid fun W => refWidth_any nm un ki ad ev we sg sw mu di aa de qu ul uh la lo hi hy W
  rw [hwd] at d2 hw12 HW
  clear hwd
  have dd : decide (ad < 0) = false := decide_eq_false (by omega)
  have hwr : IntKind.i64.wrap (65536 - wd) = 65536 - wd := by rw [IntKind.wrap_i64]; omega
  go_enter Tryz.func56, Tryz.ntmps56
  go_wp2_with fail
  refine (refName_any nm _ hs).mono ?_
  rintro e w' ⟨rfl, rfl⟩
  rw [hn]
  clear hn
  go_wp2
  generalize w.alloc (.cells #[.string nm, .int .i64 un, .int .i64 ki, .int .i64 ad, .int .i64 ev, .bool we, .bool sg, .bool sw, .int .i64 mu, .int .i64 di, .int .i64 aa, .int .i64 de, .int .i64 qu, .bool ul, .bool uh, .bool la, .int .i64 lo, .int .i64 hi, .int .i64 hy] 51) = w0 at *
  have HK : Hid (∀ w9 : World, Below w0.heap.size w0 w9 → (Below w0.heap.size w0 w9 ∧ w9.cell? ⟨w.heap.size, 3, none⟩ = some (.int .i64 ad) ∧ (ldTag (.pointer (some ⟨w.heap.size, 0, none⟩))).run Tryz.prog w9 = .ok (.agg #[.string nm, .int .i64 un, .int .i64 ki, .int .i64 ad, .int .i64 ev, .bool we, .bool sg, .bool sw, .int .i64 mu, .int .i64 di, .int .i64 aa, .int .i64 de, .int .i64 qu, .bool ul, .bool uh, .bool la, .int .i64 lo, .int .i64 hi, .int .i64 hy]) w9)) := Lib.hid fun w9 hw => ⟨hw, (of19 nm un ki ad ev we sg sw mu di aa de qu ul uh la lo hi hy (keepB hw h0)).2.2.2.1, ldTag_run rfl (rangeB (cs := [.string nm, .int .i64 un, .int .i64 ki, .int .i64 ad, .int .i64 ev, .bool we, .bool sg, .bool sw, .int .i64 mu, .int .i64 di, .int .i64 aa, .int .i64 de, .int .i64 qu, .bool ul, .bool uh, .bool la, .int .i64 lo, .int .i64 hi, .int .i64 hy]) (keepB hw h0))⟩
  have belh : ∀ w9 : World, (Below w0.heap.size w0 w9 ∧ w9.cell? ⟨w.heap.size, 3, none⟩ = some (.int .i64 ad) ∧ (ldTag (.pointer (some ⟨w.heap.size, 0, none⟩))).run Tryz.prog w9 = .ok (.agg #[.string nm, .int .i64 un, .int .i64 ki, .int .i64 ad, .int .i64 ev, .bool we, .bool sg, .bool sw, .int .i64 mu, .int .i64 di, .int .i64 aa, .int .i64 de, .int .i64 qu, .bool ul, .bool uh, .bool la, .int .i64 lo, .int .i64 hi, .int .i64 hy]) w9) → Below w0.heap.size w0 w9 := fun w9 h => h.1
  go_region_held3 (fun w9 => Below w0.heap.size w0 w9 ∧ w9.cell? ⟨w.heap.size, 3, none⟩ = some (.int .i64 ad) ∧ (ldTag (.pointer (some ⟨w.heap.size, 0, none⟩))).run Tryz.prog w9 = .ok (.agg #[.string nm, .int .i64 un, .int .i64 ki, .int .i64 ad, .int .i64 ev, .bool we, .bool sg, .bool sw, .int .i64 mu, .int .i64 di, .int .i64 aa, .int .i64 de, .int .i64 qu, .bool ul, .bool uh, .bool la, .int .i64 lo, .int .i64 hi, .int .i64 hy]) w9)
    ((refine HK.out _ ?_
      repeat' (first
        | with_reducible exact Below.refl _ _
        | with_reducible exact bel5
        | with_reducible exact belh _ (by assumption)
        | with_reducible apply below_drew
        | with_reducible apply below_drewN
        | fail)))
    (first
      | (go_at_call 61; refine (HW.out _).mono ?_; rintro e w5 ⟨rfl, b5⟩; have bel5 : Below w0.heap.size w0 w5 := Below.trans (belh _ (by assumption)) (b5.mono (Below.size (belh _ (by assumption)))))
      | fail)
  have h5 := keepB bel5 h0
  have bel6 := bel0.trans (bel5.mono bel0.size)
  clear HK belh bel5 h0 bel0 HW
  obtain ⟨c0, c1, c2, c3, c4, c5, c6, c7, c8, c9, c10, c11, c12, c13, c14, c15, c16, c17, c18⟩ := of19 nm un ki ad ev we sg sw mu di aa de qu ul uh la lo hi hy h5
  go_wp2_with fail
  refine (refCheck6_any we sg sw mu di aa _).mono ?_
  rintro e w6 ⟨rfl, b6⟩
  rw [S]
  have h6 := keepB b6 h5
  have bel7 := bel6.trans (b6.mono bel6.size)
  clear c0 c1 c2 c3 c4 c5 c6 c7 c8 c9 c10 c11 c12 c13 c14 c15 c16 c17 c18 b6 h5 bel6
  obtain ⟨c0, c1, c2, c3, c4, c5, c6, c7, c8, c9, c10, c11, c12, c13, c14, c15, c16, c17, c18⟩ := of19 nm un ki ad ev we sg sw mu di aa de qu ul uh la lo hi hy h6
  go_wp2
  go_ret
  exact ⟨rfl, bel7⟩

set_option maxHeartbeats 1000000 in
theorem rc9_11aa (nm : ByteArray) (un ki ad ev : Int) (we sg sw : Bool) (mu di aa de qu : Int) (ul uh la : Bool) (lo hi hy : Int) (w : World) (hs : nm.size ≤ maxLen) (hn : nameB (bys nm) = true) (u1 : ¬ un < 1) (u2 : ¬ un > 247) (k1 : ¬ ki < 1) (k2 : ¬ ki > 4) (d1 : ¬ ad < 0) (d2 : ¬ ad > 65536 - widT ⟨nm, un, ki, ad, ev, we, sg, sw, mu, di, aa, de, qu, ul, uh, la, lo, hi, hy⟩) (v1 : ¬ ev < 1) (v2 : ¬ ev > 1048576) (S : chkS ⟨we, sg, sw, mu, di, aa⟩ = 0) (kb : ki ≤ 2) (hx : aa ≠ 0) : Calls Tryz.prog 56 #[.agg #[.string nm, .int .i64 un, .int .i64 ki, .int .i64 ad, .int .i64 ev, .bool we, .bool sg, .bool sw, .int .i64 mu, .int .i64 di, .int .i64 aa, .int .i64 de, .int .i64 qu, .bool ul, .bool uh, .bool la, .int .i64 lo, .int .i64 hi, .int .i64 hy]] w fun e w' => e = .returned (.int .i64 25) ∧ Below w.heap.size w w' := by
  have hx2 : (aa == 0) = false := beq_false_of_ne hx
  have h0 := heap_alloc_new w (.cells #[.string nm, .int .i64 un, .int .i64 ki, .int .i64 ad, .int .i64 ev, .bool we, .bool sg, .bool sw, .int .i64 mu, .int .i64 di, .int .i64 aa, .int .i64 de, .int .i64 qu, .bool ul, .bool uh, .bool la, .int .i64 lo, .int .i64 hi, .int .i64 hy] 51)
  have bel0 := bel_alloc w (.cells #[.string nm, .int .i64 un, .int .i64 ki, .int .i64 ad, .int .i64 ev, .bool we, .bool sg, .bool sw, .int .i64 mu, .int .i64 di, .int .i64 aa, .int .i64 de, .int .i64 qu, .bool ul, .bool uh, .bool la, .int .i64 lo, .int .i64 hi, .int .i64 hy] 51)
  obtain ⟨wd, hwd⟩ : ∃ x, widT ⟨nm, un, ki, ad, ev, we, sg, sw, mu, di, aa, de, qu, ul, uh, la, lo, hi, hy⟩ = x := ⟨_, rfl⟩
  have hw12 := widT_le (⟨nm, un, ki, ad, ev, we, sg, sw, mu, di, aa, de, qu, ul, uh, la, lo, hi, hy⟩)
  have HW : Hid (∀ W : World, Calls Tryz.prog 61 #[.agg #[.string nm, .int .i64 un, .int .i64 ki, .int .i64 ad, .int .i64 ev, .bool we, .bool sg, .bool sw, .int .i64 mu, .int .i64 di, .int .i64 aa, .int .i64 de, .int .i64 qu, .bool ul, .bool uh, .bool la, .int .i64 lo, .int .i64 hi, .int .i64 hy]] W fun e w' => e = .returned (.int .i64 (widT ⟨nm, un, ki, ad, ev, we, sg, sw, mu, di, aa, de, qu, ul, uh, la, lo, hi, hy⟩)) ∧ Below W.heap.size W w') := Lib.hid fun W => refWidth_any nm un ki ad ev we sg sw mu di aa de qu ul uh la lo hi hy W
  rw [hwd] at d2 hw12 HW
  clear hwd
  have dd : decide (ad < 0) = false := decide_eq_false (by omega)
  have hwr : IntKind.i64.wrap (65536 - wd) = 65536 - wd := by rw [IntKind.wrap_i64]; omega
  go_enter Tryz.func56, Tryz.ntmps56
  go_wp2_with fail
  refine (refName_any nm _ hs).mono ?_
  rintro e w' ⟨rfl, rfl⟩
  rw [hn]
  clear hn
  go_wp2
  generalize w.alloc (.cells #[.string nm, .int .i64 un, .int .i64 ki, .int .i64 ad, .int .i64 ev, .bool we, .bool sg, .bool sw, .int .i64 mu, .int .i64 di, .int .i64 aa, .int .i64 de, .int .i64 qu, .bool ul, .bool uh, .bool la, .int .i64 lo, .int .i64 hi, .int .i64 hy] 51) = w0 at *
  have HK : Hid (∀ w9 : World, Below w0.heap.size w0 w9 → (Below w0.heap.size w0 w9 ∧ w9.cell? ⟨w.heap.size, 3, none⟩ = some (.int .i64 ad) ∧ (ldTag (.pointer (some ⟨w.heap.size, 0, none⟩))).run Tryz.prog w9 = .ok (.agg #[.string nm, .int .i64 un, .int .i64 ki, .int .i64 ad, .int .i64 ev, .bool we, .bool sg, .bool sw, .int .i64 mu, .int .i64 di, .int .i64 aa, .int .i64 de, .int .i64 qu, .bool ul, .bool uh, .bool la, .int .i64 lo, .int .i64 hi, .int .i64 hy]) w9)) := Lib.hid fun w9 hw => ⟨hw, (of19 nm un ki ad ev we sg sw mu di aa de qu ul uh la lo hi hy (keepB hw h0)).2.2.2.1, ldTag_run rfl (rangeB (cs := [.string nm, .int .i64 un, .int .i64 ki, .int .i64 ad, .int .i64 ev, .bool we, .bool sg, .bool sw, .int .i64 mu, .int .i64 di, .int .i64 aa, .int .i64 de, .int .i64 qu, .bool ul, .bool uh, .bool la, .int .i64 lo, .int .i64 hi, .int .i64 hy]) (keepB hw h0))⟩
  have belh : ∀ w9 : World, (Below w0.heap.size w0 w9 ∧ w9.cell? ⟨w.heap.size, 3, none⟩ = some (.int .i64 ad) ∧ (ldTag (.pointer (some ⟨w.heap.size, 0, none⟩))).run Tryz.prog w9 = .ok (.agg #[.string nm, .int .i64 un, .int .i64 ki, .int .i64 ad, .int .i64 ev, .bool we, .bool sg, .bool sw, .int .i64 mu, .int .i64 di, .int .i64 aa, .int .i64 de, .int .i64 qu, .bool ul, .bool uh, .bool la, .int .i64 lo, .int .i64 hi, .int .i64 hy]) w9) → Below w0.heap.size w0 w9 := fun w9 h => h.1
  go_region_held3 (fun w9 => Below w0.heap.size w0 w9 ∧ w9.cell? ⟨w.heap.size, 3, none⟩ = some (.int .i64 ad) ∧ (ldTag (.pointer (some ⟨w.heap.size, 0, none⟩))).run Tryz.prog w9 = .ok (.agg #[.string nm, .int .i64 un, .int .i64 ki, .int .i64 ad, .int .i64 ev, .bool we, .bool sg, .bool sw, .int .i64 mu, .int .i64 di, .int .i64 aa, .int .i64 de, .int .i64 qu, .bool ul, .bool uh, .bool la, .int .i64 lo, .int .i64 hi, .int .i64 hy]) w9)
    ((refine HK.out _ ?_
      repeat' (first
        | with_reducible exact Below.refl _ _
        | with_reducible exact bel5
        | with_reducible exact belh _ (by assumption)
        | with_reducible apply below_drew
        | with_reducible apply below_drewN
        | fail)))
    (first
      | (go_at_call 61; refine (HW.out _).mono ?_; rintro e w5 ⟨rfl, b5⟩; have bel5 : Below w0.heap.size w0 w5 := Below.trans (belh _ (by assumption)) (b5.mono (Below.size (belh _ (by assumption)))))
      | fail)
  have h5 := keepB bel5 h0
  have bel6 := bel0.trans (bel5.mono bel0.size)
  clear HK belh bel5 h0 bel0 HW
  obtain ⟨c0, c1, c2, c3, c4, c5, c6, c7, c8, c9, c10, c11, c12, c13, c14, c15, c16, c17, c18⟩ := of19 nm un ki ad ev we sg sw mu di aa de qu ul uh la lo hi hy h5
  go_wp2_with fail
  refine (refCheck6_any we sg sw mu di aa _).mono ?_
  rintro e w6 ⟨rfl, b6⟩
  rw [S]
  have h6 := keepB b6 h5
  have bel7 := bel6.trans (b6.mono bel6.size)
  clear c0 c1 c2 c3 c4 c5 c6 c7 c8 c9 c10 c11 c12 c13 c14 c15 c16 c17 c18 b6 h5 bel6
  obtain ⟨c0, c1, c2, c3, c4, c5, c6, c7, c8, c9, c10, c11, c12, c13, c14, c15, c16, c17, c18⟩ := of19 nm un ki ad ev we sg sw mu di aa de qu ul uh la lo hi hy h6
  go_wp2
  go_ret
  exact ⟨rfl, bel7⟩
end Go.Proofs.YtcmbdhmhkfhjfaaGreat
namespace Go.Proofs.YtcmbdhmhkfhjfaaGreat
open Go.RowKit
set_option linter.unusedVariables false
attribute [local go_sem ↓] ldTag_fold

set_option maxHeartbeats 1000000 in
theorem rc9_12n (nm : ByteArray) (un ki ad ev : Int) (we sg sw : Bool) (mu di aa de qu : Int) (ul uh la : Bool) (lo hi hy : Int) (w : World) (hs : nm.size ≤ maxLen) (hn : nameB (bys nm) = true) (u1 : ¬ un < 1) (u2 : ¬ un > 247) (k1 : ¬ ki < 1) (k2 : ¬ ki > 4) (d1 : ¬ ad < 0) (d2 : ¬ ad > 65536 - widT ⟨nm, un, ki, ad, ev, we, sg, sw, mu, di, aa, de, qu, ul, uh, la, lo, hi, hy⟩) (v1 : ¬ ev < 1) (v2 : ¬ ev > 1048576) (S : chkS ⟨we, sg, sw, mu, di, aa⟩ = 0) (kn : ¬ ki ≤ 2) (B0 : chkB de qu = 26) : Calls Tryz.prog 56 #[.agg #[.string nm, .int .i64 un, .int .i64 ki, .int .i64 ad, .int .i64 ev, .bool we, .bool sg, .bool sw, .int .i64 mu, .int .i64 di, .int .i64 aa, .int .i64 de, .int .i64 qu, .bool ul, .bool uh, .bool la, .int .i64 lo, .int .i64 hi, .int .i64 hy]] w fun e w' => e = .returned (.int .i64 26) ∧ Below w.heap.size w w' := by
  have h0 := heap_alloc_new w (.cells #[.string nm, .int .i64 un, .int .i64 ki, .int .i64 ad, .int .i64 ev, .bool we, .bool sg, .bool sw, .int .i64 mu, .int .i64 di, .int .i64 aa, .int .i64 de, .int .i64 qu, .bool ul, .bool uh, .bool la, .int .i64 lo, .int .i64 hi, .int .i64 hy] 51)
  have bel0 := bel_alloc w (.cells #[.string nm, .int .i64 un, .int .i64 ki, .int .i64 ad, .int .i64 ev, .bool we, .bool sg, .bool sw, .int .i64 mu, .int .i64 di, .int .i64 aa, .int .i64 de, .int .i64 qu, .bool ul, .bool uh, .bool la, .int .i64 lo, .int .i64 hi, .int .i64 hy] 51)
  obtain ⟨wd, hwd⟩ : ∃ x, widT ⟨nm, un, ki, ad, ev, we, sg, sw, mu, di, aa, de, qu, ul, uh, la, lo, hi, hy⟩ = x := ⟨_, rfl⟩
  have hw12 := widT_le (⟨nm, un, ki, ad, ev, we, sg, sw, mu, di, aa, de, qu, ul, uh, la, lo, hi, hy⟩)
  have HW : Hid (∀ W : World, Calls Tryz.prog 61 #[.agg #[.string nm, .int .i64 un, .int .i64 ki, .int .i64 ad, .int .i64 ev, .bool we, .bool sg, .bool sw, .int .i64 mu, .int .i64 di, .int .i64 aa, .int .i64 de, .int .i64 qu, .bool ul, .bool uh, .bool la, .int .i64 lo, .int .i64 hi, .int .i64 hy]] W fun e w' => e = .returned (.int .i64 (widT ⟨nm, un, ki, ad, ev, we, sg, sw, mu, di, aa, de, qu, ul, uh, la, lo, hi, hy⟩)) ∧ Below W.heap.size W w') := Lib.hid fun W => refWidth_any nm un ki ad ev we sg sw mu di aa de qu ul uh la lo hi hy W
  rw [hwd] at d2 hw12 HW
  clear hwd
  have dd : decide (ad < 0) = false := decide_eq_false (by omega)
  have hwr : IntKind.i64.wrap (65536 - wd) = 65536 - wd := by rw [IntKind.wrap_i64]; omega
  go_enter Tryz.func56, Tryz.ntmps56
  go_wp2_with fail
  refine (refName_any nm _ hs).mono ?_
  rintro e w' ⟨rfl, rfl⟩
  rw [hn]
  clear hn
  go_wp2
  generalize w.alloc (.cells #[.string nm, .int .i64 un, .int .i64 ki, .int .i64 ad, .int .i64 ev, .bool we, .bool sg, .bool sw, .int .i64 mu, .int .i64 di, .int .i64 aa, .int .i64 de, .int .i64 qu, .bool ul, .bool uh, .bool la, .int .i64 lo, .int .i64 hi, .int .i64 hy] 51) = w0 at *
  have HK : Hid (∀ w9 : World, Below w0.heap.size w0 w9 → (Below w0.heap.size w0 w9 ∧ w9.cell? ⟨w.heap.size, 3, none⟩ = some (.int .i64 ad) ∧ (ldTag (.pointer (some ⟨w.heap.size, 0, none⟩))).run Tryz.prog w9 = .ok (.agg #[.string nm, .int .i64 un, .int .i64 ki, .int .i64 ad, .int .i64 ev, .bool we, .bool sg, .bool sw, .int .i64 mu, .int .i64 di, .int .i64 aa, .int .i64 de, .int .i64 qu, .bool ul, .bool uh, .bool la, .int .i64 lo, .int .i64 hi, .int .i64 hy]) w9)) := Lib.hid fun w9 hw => ⟨hw, (of19 nm un ki ad ev we sg sw mu di aa de qu ul uh la lo hi hy (keepB hw h0)).2.2.2.1, ldTag_run rfl (rangeB (cs := [.string nm, .int .i64 un, .int .i64 ki, .int .i64 ad, .int .i64 ev, .bool we, .bool sg, .bool sw, .int .i64 mu, .int .i64 di, .int .i64 aa, .int .i64 de, .int .i64 qu, .bool ul, .bool uh, .bool la, .int .i64 lo, .int .i64 hi, .int .i64 hy]) (keepB hw h0))⟩
  have belh : ∀ w9 : World, (Below w0.heap.size w0 w9 ∧ w9.cell? ⟨w.heap.size, 3, none⟩ = some (.int .i64 ad) ∧ (ldTag (.pointer (some ⟨w.heap.size, 0, none⟩))).run Tryz.prog w9 = .ok (.agg #[.string nm, .int .i64 un, .int .i64 ki, .int .i64 ad, .int .i64 ev, .bool we, .bool sg, .bool sw, .int .i64 mu, .int .i64 di, .int .i64 aa, .int .i64 de, .int .i64 qu, .bool ul, .bool uh, .bool la, .int .i64 lo, .int .i64 hi, .int .i64 hy]) w9) → Below w0.heap.size w0 w9 := fun w9 h => h.1
  go_region_held3 (fun w9 => Below w0.heap.size w0 w9 ∧ w9.cell? ⟨w.heap.size, 3, none⟩ = some (.int .i64 ad) ∧ (ldTag (.pointer (some ⟨w.heap.size, 0, none⟩))).run Tryz.prog w9 = .ok (.agg #[.string nm, .int .i64 un, .int .i64 ki, .int .i64 ad, .int .i64 ev, .bool we, .bool sg, .bool sw, .int .i64 mu, .int .i64 di, .int .i64 aa, .int .i64 de, .int .i64 qu, .bool ul, .bool uh, .bool la, .int .i64 lo, .int .i64 hi, .int .i64 hy]) w9)
    ((refine HK.out _ ?_
      repeat' (first
        | with_reducible exact Below.refl _ _
        | with_reducible exact bel5
        | with_reducible exact belh _ (by assumption)
        | with_reducible apply below_drew
        | with_reducible apply below_drewN
        | fail)))
    (first
      | (go_at_call 61; refine (HW.out _).mono ?_; rintro e w5 ⟨rfl, b5⟩; have bel5 : Below w0.heap.size w0 w5 := Below.trans (belh _ (by assumption)) (b5.mono (Below.size (belh _ (by assumption)))))
      | fail)
  have h5 := keepB bel5 h0
  have bel6 := bel0.trans (bel5.mono bel0.size)
  clear HK belh bel5 h0 bel0 HW
  obtain ⟨c0, c1, c2, c3, c4, c5, c6, c7, c8, c9, c10, c11, c12, c13, c14, c15, c16, c17, c18⟩ := of19 nm un ki ad ev we sg sw mu di aa de qu ul uh la lo hi hy h5
  go_wp2_with fail
  refine (refCheck6_any we sg sw mu di aa _).mono ?_
  rintro e w6 ⟨rfl, b6⟩
  rw [S]
  have h6 := keepB b6 h5
  have bel7 := bel6.trans (b6.mono bel6.size)
  clear c0 c1 c2 c3 c4 c5 c6 c7 c8 c9 c10 c11 c12 c13 c14 c15 c16 c17 c18 b6 h5 bel6
  obtain ⟨c0, c1, c2, c3, c4, c5, c6, c7, c8, c9, c10, c11, c12, c13, c14, c15, c16, c17, c18⟩ := of19 nm un ki ad ev we sg sw mu di aa de qu ul uh la lo hi hy h6
  go_wp2_with fail
  refine (refCheck7_any de qu _).mono ?_
  rintro e w7 ⟨rfl, b7⟩
  rw [B0]
  have h7 := keepB b7 h6
  have bel8 := bel7.trans (b7.mono bel7.size)
  clear c0 c1 c2 c3 c4 c5 c6 c7 c8 c9 c10 c11 c12 c13 c14 c15 c16 c17 c18 b7 h6 bel7
  obtain ⟨c0, c1, c2, c3, c4, c5, c6, c7, c8, c9, c10, c11, c12, c13, c14, c15, c16, c17, c18⟩ := of19 nm un ki ad ev we sg sw mu di aa de qu ul uh la lo hi hy h7
  go_wp2
  go_ret
  exact ⟨rfl, bel8⟩

set_option maxHeartbeats 1000000 in
theorem rc9_13n (nm : ByteArray) (un ki ad ev : Int) (we sg sw : Bool) (mu di aa de qu : Int) (ul uh la : Bool) (lo hi hy : Int) (w : World) (hs : nm.size ≤ maxLen) (hn : nameB (bys nm) = true) (u1 : ¬ un < 1) (u2 : ¬ un > 247) (k1 : ¬ ki < 1) (k2 : ¬ ki > 4) (d1 : ¬ ad < 0) (d2 : ¬ ad > 65536 - widT ⟨nm, un, ki, ad, ev, we, sg, sw, mu, di, aa, de, qu, ul, uh, la, lo, hi, hy⟩) (v1 : ¬ ev < 1) (v2 : ¬ ev > 1048576) (S : chkS ⟨we, sg, sw, mu, di, aa⟩ = 0) (kn : ¬ ki ≤ 2) (B : chkB de qu = 0) : Calls Tryz.prog 56 #[.agg #[.string nm, .int .i64 un, .int .i64 ki, .int .i64 ad, .int .i64 ev, .bool we, .bool sg, .bool sw, .int .i64 mu, .int .i64 di, .int .i64 aa, .int .i64 de, .int .i64 qu, .bool ul, .bool uh, .bool la, .int .i64 lo, .int .i64 hi, .int .i64 hy]] w fun e w' => e = .returned (.int .i64 (chkL ⟨ul, uh, la, lo, hi, hy⟩)) ∧ Below w.heap.size w w' := by
  have h0 := heap_alloc_new w (.cells #[.string nm, .int .i64 un, .int .i64 ki, .int .i64 ad, .int .i64 ev, .bool we, .bool sg, .bool sw, .int .i64 mu, .int .i64 di, .int .i64 aa, .int .i64 de, .int .i64 qu, .bool ul, .bool uh, .bool la, .int .i64 lo, .int .i64 hi, .int .i64 hy] 51)
  have bel0 := bel_alloc w (.cells #[.string nm, .int .i64 un, .int .i64 ki, .int .i64 ad, .int .i64 ev, .bool we, .bool sg, .bool sw, .int .i64 mu, .int .i64 di, .int .i64 aa, .int .i64 de, .int .i64 qu, .bool ul, .bool uh, .bool la, .int .i64 lo, .int .i64 hi, .int .i64 hy] 51)
  obtain ⟨wd, hwd⟩ : ∃ x, widT ⟨nm, un, ki, ad, ev, we, sg, sw, mu, di, aa, de, qu, ul, uh, la, lo, hi, hy⟩ = x := ⟨_, rfl⟩
  have hw12 := widT_le (⟨nm, un, ki, ad, ev, we, sg, sw, mu, di, aa, de, qu, ul, uh, la, lo, hi, hy⟩)
  have HW : Hid (∀ W : World, Calls Tryz.prog 61 #[.agg #[.string nm, .int .i64 un, .int .i64 ki, .int .i64 ad, .int .i64 ev, .bool we, .bool sg, .bool sw, .int .i64 mu, .int .i64 di, .int .i64 aa, .int .i64 de, .int .i64 qu, .bool ul, .bool uh, .bool la, .int .i64 lo, .int .i64 hi, .int .i64 hy]] W fun e w' => e = .returned (.int .i64 (widT ⟨nm, un, ki, ad, ev, we, sg, sw, mu, di, aa, de, qu, ul, uh, la, lo, hi, hy⟩)) ∧ Below W.heap.size W w') := Lib.hid fun W => refWidth_any nm un ki ad ev we sg sw mu di aa de qu ul uh la lo hi hy W
  rw [hwd] at d2 hw12 HW
  clear hwd
  have dd : decide (ad < 0) = false := decide_eq_false (by omega)
  have hwr : IntKind.i64.wrap (65536 - wd) = 65536 - wd := by rw [IntKind.wrap_i64]; omega
  go_enter Tryz.func56, Tryz.ntmps56
  go_wp2_with fail
  refine (refName_any nm _ hs).mono ?_
  rintro e w' ⟨rfl, rfl⟩
  rw [hn]
  clear hn
  go_wp2
  generalize w.alloc (.cells #[.string nm, .int .i64 un, .int .i64 ki, .int .i64 ad, .int .i64 ev, .bool we, .bool sg, .bool sw, .int .i64 mu, .int .i64 di, .int .i64 aa, .int .i64 de, .int .i64 qu, .bool ul, .bool uh, .bool la, .int .i64 lo, .int .i64 hi, .int .i64 hy] 51) = w0 at *
  have HK : Hid (∀ w9 : World, Below w0.heap.size w0 w9 → (Below w0.heap.size w0 w9 ∧ w9.cell? ⟨w.heap.size, 3, none⟩ = some (.int .i64 ad) ∧ (ldTag (.pointer (some ⟨w.heap.size, 0, none⟩))).run Tryz.prog w9 = .ok (.agg #[.string nm, .int .i64 un, .int .i64 ki, .int .i64 ad, .int .i64 ev, .bool we, .bool sg, .bool sw, .int .i64 mu, .int .i64 di, .int .i64 aa, .int .i64 de, .int .i64 qu, .bool ul, .bool uh, .bool la, .int .i64 lo, .int .i64 hi, .int .i64 hy]) w9)) := Lib.hid fun w9 hw => ⟨hw, (of19 nm un ki ad ev we sg sw mu di aa de qu ul uh la lo hi hy (keepB hw h0)).2.2.2.1, ldTag_run rfl (rangeB (cs := [.string nm, .int .i64 un, .int .i64 ki, .int .i64 ad, .int .i64 ev, .bool we, .bool sg, .bool sw, .int .i64 mu, .int .i64 di, .int .i64 aa, .int .i64 de, .int .i64 qu, .bool ul, .bool uh, .bool la, .int .i64 lo, .int .i64 hi, .int .i64 hy]) (keepB hw h0))⟩
  have belh : ∀ w9 : World, (Below w0.heap.size w0 w9 ∧ w9.cell? ⟨w.heap.size, 3, none⟩ = some (.int .i64 ad) ∧ (ldTag (.pointer (some ⟨w.heap.size, 0, none⟩))).run Tryz.prog w9 = .ok (.agg #[.string nm, .int .i64 un, .int .i64 ki, .int .i64 ad, .int .i64 ev, .bool we, .bool sg, .bool sw, .int .i64 mu, .int .i64 di, .int .i64 aa, .int .i64 de, .int .i64 qu, .bool ul, .bool uh, .bool la, .int .i64 lo, .int .i64 hi, .int .i64 hy]) w9) → Below w0.heap.size w0 w9 := fun w9 h => h.1
  go_region_held3 (fun w9 => Below w0.heap.size w0 w9 ∧ w9.cell? ⟨w.heap.size, 3, none⟩ = some (.int .i64 ad) ∧ (ldTag (.pointer (some ⟨w.heap.size, 0, none⟩))).run Tryz.prog w9 = .ok (.agg #[.string nm, .int .i64 un, .int .i64 ki, .int .i64 ad, .int .i64 ev, .bool we, .bool sg, .bool sw, .int .i64 mu, .int .i64 di, .int .i64 aa, .int .i64 de, .int .i64 qu, .bool ul, .bool uh, .bool la, .int .i64 lo, .int .i64 hi, .int .i64 hy]) w9)
    ((refine HK.out _ ?_
      repeat' (first
        | with_reducible exact Below.refl _ _
        | with_reducible exact bel5
        | with_reducible exact belh _ (by assumption)
        | with_reducible apply below_drew
        | with_reducible apply below_drewN
        | fail)))
    (first
      | (go_at_call 61; refine (HW.out _).mono ?_; rintro e w5 ⟨rfl, b5⟩; have bel5 : Below w0.heap.size w0 w5 := Below.trans (belh _ (by assumption)) (b5.mono (Below.size (belh _ (by assumption)))))
      | fail)
  have h5 := keepB bel5 h0
  have bel6 := bel0.trans (bel5.mono bel0.size)
  clear HK belh bel5 h0 bel0 HW
  obtain ⟨c0, c1, c2, c3, c4, c5, c6, c7, c8, c9, c10, c11, c12, c13, c14, c15, c16, c17, c18⟩ := of19 nm un ki ad ev we sg sw mu di aa de qu ul uh la lo hi hy h5
  go_wp2_with fail
  refine (refCheck6_any we sg sw mu di aa _).mono ?_
  rintro e w6 ⟨rfl, b6⟩
  rw [S]
  have h6 := keepB b6 h5
  have bel7 := bel6.trans (b6.mono bel6.size)
  clear c0 c1 c2 c3 c4 c5 c6 c7 c8 c9 c10 c11 c12 c13 c14 c15 c16 c17 c18 b6 h5 bel6
  obtain ⟨c0, c1, c2, c3, c4, c5, c6, c7, c8, c9, c10, c11, c12, c13, c14, c15, c16, c17, c18⟩ := of19 nm un ki ad ev we sg sw mu di aa de qu ul uh la lo hi hy h6
  go_wp2_with fail
  refine (refCheck7_any de qu _).mono ?_
  rintro e w7 ⟨rfl, b7⟩
  rw [B]
  have h7 := keepB b7 h6
  have bel8 := bel7.trans (b7.mono bel7.size)
  clear c0 c1 c2 c3 c4 c5 c6 c7 c8 c9 c10 c11 c12 c13 c14 c15 c16 c17 c18 b7 h6 bel7
  obtain ⟨c0, c1, c2, c3, c4, c5, c6, c7, c8, c9, c10, c11, c12, c13, c14, c15, c16, c17, c18⟩ := of19 nm un ki ad ev we sg sw mu di aa de qu ul uh la lo hi hy h7
  go_wp2_with fail
  refine (refCheck8_any ul uh la lo hi hy _).mono ?_
  rintro e w8 ⟨rfl, b8⟩
  go_wp2
  go_ret
  exact ⟨rfl, bel8.trans (b8.mono bel8.size)⟩

set_option maxHeartbeats 1000000 in
theorem rc9_12b (nm : ByteArray) (un ki ad ev : Int) (de qu : Int) (ul uh la : Bool) (lo hi hy : Int) (w : World) (hs : nm.size ≤ maxLen) (hn : nameB (bys nm) = true) (u1 : ¬ un < 1) (u2 : ¬ un > 247) (k1 : ¬ ki < 1) (k2 : ¬ ki > 4) (d1 : ¬ ad < 0) (d2 : ¬ ad > 65536 - widT ⟨nm, un, ki, ad, ev, false, false, false, 1, 1, 0, de, qu, ul, uh, la, lo, hi, hy⟩) (v1 : ¬ ev < 1) (v2 : ¬ ev > 1048576) (S : chkS ⟨false, false, false, 1, 1, 0⟩ = 0) (kb : ki ≤ 2) (B0 : chkB de qu = 26) : Calls Tryz.prog 56 #[.agg #[.string nm, .int .i64 un, .int .i64 ki, .int .i64 ad, .int .i64 ev, .bool false, .bool false, .bool false, .int .i64 1, .int .i64 1, .int .i64 0, .int .i64 de, .int .i64 qu, .bool ul, .bool uh, .bool la, .int .i64 lo, .int .i64 hi, .int .i64 hy]] w fun e w' => e = .returned (.int .i64 26) ∧ Below w.heap.size w w' := by
  have h0 := heap_alloc_new w (.cells #[.string nm, .int .i64 un, .int .i64 ki, .int .i64 ad, .int .i64 ev, .bool false, .bool false, .bool false, .int .i64 1, .int .i64 1, .int .i64 0, .int .i64 de, .int .i64 qu, .bool ul, .bool uh, .bool la, .int .i64 lo, .int .i64 hi, .int .i64 hy] 51)
  have bel0 := bel_alloc w (.cells #[.string nm, .int .i64 un, .int .i64 ki, .int .i64 ad, .int .i64 ev, .bool false, .bool false, .bool false, .int .i64 1, .int .i64 1, .int .i64 0, .int .i64 de, .int .i64 qu, .bool ul, .bool uh, .bool la, .int .i64 lo, .int .i64 hi, .int .i64 hy] 51)
  obtain ⟨wd, hwd⟩ : ∃ x, widT ⟨nm, un, ki, ad, ev, false, false, false, 1, 1, 0, de, qu, ul, uh, la, lo, hi, hy⟩ = x := ⟨_, rfl⟩
  have hw12 := widT_le (⟨nm, un, ki, ad, ev, false, false, false, 1, 1, 0, de, qu, ul, uh, la, lo, hi, hy⟩)
  have HW : Hid (∀ W : World, Calls Tryz.prog 61 #[.agg #[.string nm, .int .i64 un, .int .i64 ki, .int .i64 ad, .int .i64 ev, .bool false, .bool false, .bool false, .int .i64 1, .int .i64 1, .int .i64 0, .int .i64 de, .int .i64 qu, .bool ul, .bool uh, .bool la, .int .i64 lo, .int .i64 hi, .int .i64 hy]] W fun e w' => e = .returned (.int .i64 (widT ⟨nm, un, ki, ad, ev, false, false, false, 1, 1, 0, de, qu, ul, uh, la, lo, hi, hy⟩)) ∧ Below W.heap.size W w') := Lib.hid fun W => refWidth_any nm un ki ad ev false false false 1 1 0 de qu ul uh la lo hi hy W
  rw [hwd] at d2 hw12 HW
  clear hwd
  have dd : decide (ad < 0) = false := decide_eq_false (by omega)
  have hwr : IntKind.i64.wrap (65536 - wd) = 65536 - wd := by rw [IntKind.wrap_i64]; omega
  go_enter Tryz.func56, Tryz.ntmps56
  go_wp2_with fail
  refine (refName_any nm _ hs).mono ?_
  rintro e w' ⟨rfl, rfl⟩
  rw [hn]
  clear hn
  go_wp2
  generalize w.alloc (.cells #[.string nm, .int .i64 un, .int .i64 ki, .int .i64 ad, .int .i64 ev, .bool false, .bool false, .bool false, .int .i64 1, .int .i64 1, .int .i64 0, .int .i64 de, .int .i64 qu, .bool ul, .bool uh, .bool la, .int .i64 lo, .int .i64 hi, .int .i64 hy] 51) = w0 at *
  have HK : Hid (∀ w9 : World, Below w0.heap.size w0 w9 → (Below w0.heap.size w0 w9 ∧ w9.cell? ⟨w.heap.size, 3, none⟩ = some (.int .i64 ad) ∧ (ldTag (.pointer (some ⟨w.heap.size, 0, none⟩))).run Tryz.prog w9 = .ok (.agg #[.string nm, .int .i64 un, .int .i64 ki, .int .i64 ad, .int .i64 ev, .bool false, .bool false, .bool false, .int .i64 1, .int .i64 1, .int .i64 0, .int .i64 de, .int .i64 qu, .bool ul, .bool uh, .bool la, .int .i64 lo, .int .i64 hi, .int .i64 hy]) w9)) := Lib.hid fun w9 hw => ⟨hw, (of19 nm un ki ad ev false false false 1 1 0 de qu ul uh la lo hi hy (keepB hw h0)).2.2.2.1, ldTag_run rfl (rangeB (cs := [.string nm, .int .i64 un, .int .i64 ki, .int .i64 ad, .int .i64 ev, .bool false, .bool false, .bool false, .int .i64 1, .int .i64 1, .int .i64 0, .int .i64 de, .int .i64 qu, .bool ul, .bool uh, .bool la, .int .i64 lo, .int .i64 hi, .int .i64 hy]) (keepB hw h0))⟩
  have belh : ∀ w9 : World, (Below w0.heap.size w0 w9 ∧ w9.cell? ⟨w.heap.size, 3, none⟩ = some (.int .i64 ad) ∧ (ldTag (.pointer (some ⟨w.heap.size, 0, none⟩))).run Tryz.prog w9 = .ok (.agg #[.string nm, .int .i64 un, .int .i64 ki, .int .i64 ad, .int .i64 ev, .bool false, .bool false, .bool false, .int .i64 1, .int .i64 1, .int .i64 0, .int .i64 de, .int .i64 qu, .bool ul, .bool uh, .bool la, .int .i64 lo, .int .i64 hi, .int .i64 hy]) w9) → Below w0.heap.size w0 w9 := fun w9 h => h.1
  go_region_held3 (fun w9 => Below w0.heap.size w0 w9 ∧ w9.cell? ⟨w.heap.size, 3, none⟩ = some (.int .i64 ad) ∧ (ldTag (.pointer (some ⟨w.heap.size, 0, none⟩))).run Tryz.prog w9 = .ok (.agg #[.string nm, .int .i64 un, .int .i64 ki, .int .i64 ad, .int .i64 ev, .bool false, .bool false, .bool false, .int .i64 1, .int .i64 1, .int .i64 0, .int .i64 de, .int .i64 qu, .bool ul, .bool uh, .bool la, .int .i64 lo, .int .i64 hi, .int .i64 hy]) w9)
    ((refine HK.out _ ?_
      repeat' (first
        | with_reducible exact Below.refl _ _
        | with_reducible exact bel5
        | with_reducible exact belh _ (by assumption)
        | with_reducible apply below_drew
        | with_reducible apply below_drewN
        | fail)))
    (first
      | (go_at_call 61; refine (HW.out _).mono ?_; rintro e w5 ⟨rfl, b5⟩; have bel5 : Below w0.heap.size w0 w5 := Below.trans (belh _ (by assumption)) (b5.mono (Below.size (belh _ (by assumption)))))
      | fail)
  have h5 := keepB bel5 h0
  have bel6 := bel0.trans (bel5.mono bel0.size)
  clear HK belh bel5 h0 bel0 HW
  obtain ⟨c0, c1, c2, c3, c4, c5, c6, c7, c8, c9, c10, c11, c12, c13, c14, c15, c16, c17, c18⟩ := of19 nm un ki ad ev false false false 1 1 0 de qu ul uh la lo hi hy h5
  go_wp2_with fail
  refine (refCheck6_any false false false 1 1 0 _).mono ?_
  rintro e w6 ⟨rfl, b6⟩
  rw [S]
  have h6 := keepB b6 h5
  have bel7 := bel6.trans (b6.mono bel6.size)
  clear c0 c1 c2 c3 c4 c5 c6 c7 c8 c9 c10 c11 c12 c13 c14 c15 c16 c17 c18 b6 h5 bel6
  obtain ⟨c0, c1, c2, c3, c4, c5, c6, c7, c8, c9, c10, c11, c12, c13, c14, c15, c16, c17, c18⟩ := of19 nm un ki ad ev false false false 1 1 0 de qu ul uh la lo hi hy h6
  go_wp2_with fail
  refine (refCheck7_any de qu _).mono ?_
  rintro e w7 ⟨rfl, b7⟩
  rw [B0]
  have h7 := keepB b7 h6
  have bel8 := bel7.trans (b7.mono bel7.size)
  clear c0 c1 c2 c3 c4 c5 c6 c7 c8 c9 c10 c11 c12 c13 c14 c15 c16 c17 c18 b7 h6 bel7
  obtain ⟨c0, c1, c2, c3, c4, c5, c6, c7, c8, c9, c10, c11, c12, c13, c14, c15, c16, c17, c18⟩ := of19 nm un ki ad ev false false false 1 1 0 de qu ul uh la lo hi hy h7
  go_wp2
  go_ret
  exact ⟨rfl, bel8⟩

set_option maxHeartbeats 1000000 in
theorem rc9_13b (nm : ByteArray) (un ki ad ev : Int) (de qu : Int) (ul uh la : Bool) (lo hi hy : Int) (w : World) (hs : nm.size ≤ maxLen) (hn : nameB (bys nm) = true) (u1 : ¬ un < 1) (u2 : ¬ un > 247) (k1 : ¬ ki < 1) (k2 : ¬ ki > 4) (d1 : ¬ ad < 0) (d2 : ¬ ad > 65536 - widT ⟨nm, un, ki, ad, ev, false, false, false, 1, 1, 0, de, qu, ul, uh, la, lo, hi, hy⟩) (v1 : ¬ ev < 1) (v2 : ¬ ev > 1048576) (S : chkS ⟨false, false, false, 1, 1, 0⟩ = 0) (kb : ki ≤ 2) (B : chkB de qu = 0) : Calls Tryz.prog 56 #[.agg #[.string nm, .int .i64 un, .int .i64 ki, .int .i64 ad, .int .i64 ev, .bool false, .bool false, .bool false, .int .i64 1, .int .i64 1, .int .i64 0, .int .i64 de, .int .i64 qu, .bool ul, .bool uh, .bool la, .int .i64 lo, .int .i64 hi, .int .i64 hy]] w fun e w' => e = .returned (.int .i64 (chkL ⟨ul, uh, la, lo, hi, hy⟩)) ∧ Below w.heap.size w w' := by
  have h0 := heap_alloc_new w (.cells #[.string nm, .int .i64 un, .int .i64 ki, .int .i64 ad, .int .i64 ev, .bool false, .bool false, .bool false, .int .i64 1, .int .i64 1, .int .i64 0, .int .i64 de, .int .i64 qu, .bool ul, .bool uh, .bool la, .int .i64 lo, .int .i64 hi, .int .i64 hy] 51)
  have bel0 := bel_alloc w (.cells #[.string nm, .int .i64 un, .int .i64 ki, .int .i64 ad, .int .i64 ev, .bool false, .bool false, .bool false, .int .i64 1, .int .i64 1, .int .i64 0, .int .i64 de, .int .i64 qu, .bool ul, .bool uh, .bool la, .int .i64 lo, .int .i64 hi, .int .i64 hy] 51)
  obtain ⟨wd, hwd⟩ : ∃ x, widT ⟨nm, un, ki, ad, ev, false, false, false, 1, 1, 0, de, qu, ul, uh, la, lo, hi, hy⟩ = x := ⟨_, rfl⟩
  have hw12 := widT_le (⟨nm, un, ki, ad, ev, false, false, false, 1, 1, 0, de, qu, ul, uh, la, lo, hi, hy⟩)
  have HW : Hid (∀ W : World, Calls Tryz.prog 61 #[.agg #[.string nm, .int .i64 un, .int .i64 ki, .int .i64 ad, .int .i64 ev, .bool false, .bool false, .bool false, .int .i64 1, .int .i64 1, .int .i64 0, .int .i64 de, .int .i64 qu, .bool ul, .bool uh, .bool la, .int .i64 lo, .int .i64 hi, .int .i64 hy]] W fun e w' => e = .returned (.int .i64 (widT ⟨nm, un, ki, ad, ev, false, false, false, 1, 1, 0, de, qu, ul, uh, la, lo, hi, hy⟩)) ∧ Below W.heap.size W w') := Lib.hid fun W => refWidth_any nm un ki ad ev false false false 1 1 0 de qu ul uh la lo hi hy W
  rw [hwd] at d2 hw12 HW
  clear hwd
  have dd : decide (ad < 0) = false := decide_eq_false (by omega)
  have hwr : IntKind.i64.wrap (65536 - wd) = 65536 - wd := by rw [IntKind.wrap_i64]; omega
  go_enter Tryz.func56, Tryz.ntmps56
  go_wp2_with fail
  refine (refName_any nm _ hs).mono ?_
  rintro e w' ⟨rfl, rfl⟩
  rw [hn]
  clear hn
  go_wp2
  generalize w.alloc (.cells #[.string nm, .int .i64 un, .int .i64 ki, .int .i64 ad, .int .i64 ev, .bool false, .bool false, .bool false, .int .i64 1, .int .i64 1, .int .i64 0, .int .i64 de, .int .i64 qu, .bool ul, .bool uh, .bool la, .int .i64 lo, .int .i64 hi, .int .i64 hy] 51) = w0 at *
  have HK : Hid (∀ w9 : World, Below w0.heap.size w0 w9 → (Below w0.heap.size w0 w9 ∧ w9.cell? ⟨w.heap.size, 3, none⟩ = some (.int .i64 ad) ∧ (ldTag (.pointer (some ⟨w.heap.size, 0, none⟩))).run Tryz.prog w9 = .ok (.agg #[.string nm, .int .i64 un, .int .i64 ki, .int .i64 ad, .int .i64 ev, .bool false, .bool false, .bool false, .int .i64 1, .int .i64 1, .int .i64 0, .int .i64 de, .int .i64 qu, .bool ul, .bool uh, .bool la, .int .i64 lo, .int .i64 hi, .int .i64 hy]) w9)) := Lib.hid fun w9 hw => ⟨hw, (of19 nm un ki ad ev false false false 1 1 0 de qu ul uh la lo hi hy (keepB hw h0)).2.2.2.1, ldTag_run rfl (rangeB (cs := [.string nm, .int .i64 un, .int .i64 ki, .int .i64 ad, .int .i64 ev, .bool false, .bool false, .bool false, .int .i64 1, .int .i64 1, .int .i64 0, .int .i64 de, .int .i64 qu, .bool ul, .bool uh, .bool la, .int .i64 lo, .int .i64 hi, .int .i64 hy]) (keepB hw h0))⟩
  have belh : ∀ w9 : World, (Below w0.heap.size w0 w9 ∧ w9.cell? ⟨w.heap.size, 3, none⟩ = some (.int .i64 ad) ∧ (ldTag (.pointer (some ⟨w.heap.size, 0, none⟩))).run Tryz.prog w9 = .ok (.agg #[.string nm, .int .i64 un, .int .i64 ki, .int .i64 ad, .int .i64 ev, .bool false, .bool false, .bool false, .int .i64 1, .int .i64 1, .int .i64 0, .int .i64 de, .int .i64 qu, .bool ul, .bool uh, .bool la, .int .i64 lo, .int .i64 hi, .int .i64 hy]) w9) → Below w0.heap.size w0 w9 := fun w9 h => h.1
  go_region_held3 (fun w9 => Below w0.heap.size w0 w9 ∧ w9.cell? ⟨w.heap.size, 3, none⟩ = some (.int .i64 ad) ∧ (ldTag (.pointer (some ⟨w.heap.size, 0, none⟩))).run Tryz.prog w9 = .ok (.agg #[.string nm, .int .i64 un, .int .i64 ki, .int .i64 ad, .int .i64 ev, .bool false, .bool false, .bool false, .int .i64 1, .int .i64 1, .int .i64 0, .int .i64 de, .int .i64 qu, .bool ul, .bool uh, .bool la, .int .i64 lo, .int .i64 hi, .int .i64 hy]) w9)
    ((refine HK.out _ ?_
      repeat' (first
        | with_reducible exact Below.refl _ _
        | with_reducible exact bel5
        | with_reducible exact belh _ (by assumption)
        | with_reducible apply below_drew
        | with_reducible apply below_drewN
        | fail)))
    (first
      | (go_at_call 61; refine (HW.out _).mono ?_; rintro e w5 ⟨rfl, b5⟩; have bel5 : Below w0.heap.size w0 w5 := Below.trans (belh _ (by assumption)) (b5.mono (Below.size (belh _ (by assumption)))))
      | fail)
  have h5 := keepB bel5 h0
  have bel6 := bel0.trans (bel5.mono bel0.size)
  clear HK belh bel5 h0 bel0 HW
  obtain ⟨c0, c1, c2, c3, c4, c5, c6, c7, c8, c9, c10, c11, c12, c13, c14, c15, c16, c17, c18⟩ := of19 nm un ki ad ev false false false 1 1 0 de qu ul uh la lo hi hy h5
  go_wp2_with fail
  refine (refCheck6_any false false false 1 1 0 _).mono ?_
  rintro e w6 ⟨rfl, b6⟩
  rw [S]
  have h6 := keepB b6 h5
  have bel7 := bel6.trans (b6.mono bel6.size)
  clear c0 c1 c2 c3 c4 c5 c6 c7 c8 c9 c10 c11 c12 c13 c14 c15 c16 c17 c18 b6 h5 bel6
  obtain ⟨c0, c1, c2, c3, c4, c5, c6, c7, c8, c9, c10, c11, c12, c13, c14, c15, c16, c17, c18⟩ := of19 nm un ki ad ev false false false 1 1 0 de qu ul uh la lo hi hy h6
  go_wp2_with fail
  refine (refCheck7_any de qu _).mono ?_
  rintro e w7 ⟨rfl, b7⟩
  rw [B]
  have h7 := keepB b7 h6
  have bel8 := bel7.trans (b7.mono bel7.size)
  clear c0 c1 c2 c3 c4 c5 c6 c7 c8 c9 c10 c11 c12 c13 c14 c15 c16 c17 c18 b7 h6 bel7
  obtain ⟨c0, c1, c2, c3, c4, c5, c6, c7, c8, c9, c10, c11, c12, c13, c14, c15, c16, c17, c18⟩ := of19 nm un ki ad ev false false false 1 1 0 de qu ul uh la lo hi hy h7
  go_wp2_with fail
  refine (refCheck8_any ul uh la lo hi hy _).mono ?_
  rintro e w8 ⟨rfl, b8⟩
  go_wp2
  go_ret
  exact ⟨rfl, bel8.trans (b8.mono bel8.size)⟩
end Go.Proofs.YtcmbdhmhkfhjfaaGreat
