/-
  Contracts of after, Step and Check of package band.
-/
import Derived.Test.YtggijpfmcidpaaaBdStep
namespace Go.Proofs.Ytggijpfmcidpaaa
open Go.RowKit
set_option linter.unusedVariables false

/-- Four boxes that a call has made, one behind the other, known whole, and what was there as it was. -/
def Four (w0 : World) (a b c d : Obj) (w : World) : Prop :=
  w.heap[w0.heap.size]? = some a ∧ w.heap[w0.heap.size + 1]? = some b ∧ w.heap[w0.heap.size + 1 + 1]? = some c ∧ w.heap[w0.heap.size + 1 + 1 + 1]? = some d ∧ w0.heap.size + 4 ≤ w.heap.size ∧ Below w0.heap.size w0 w
theorem Four.new (w : World) (a b c d : Obj) : Four w a b c d ((((w.alloc a).alloc b).alloc c).alloc d) := by
  have s1 : (w.alloc a).heap.size = w.heap.size + 1 := by simp
  have s2 : ((w.alloc a).alloc b).heap.size = w.heap.size + 1 + 1 := by simp
  have s3 : (((w.alloc a).alloc b).alloc c).heap.size = w.heap.size + 1 + 1 + 1 := by simp
  refine ⟨?_, ?_, ?_, ?_, by simp, (((bel_alloc w a).alloc (by simp) b).alloc (by simp; omega) c).alloc (by simp; omega) d⟩
  · exact (heap_alloc_old _ _ (by omega)).trans ((heap_alloc_old _ _ (by omega)).trans ((heap_alloc_old _ _ (by omega)).trans (heap_alloc_new _ _)))
  · rw [← s1]; exact (heap_alloc_old _ _ (by omega)).trans ((heap_alloc_old _ _ (by omega)).trans (heap_alloc_new _ _))
  · rw [← s2]; exact (heap_alloc_old _ _ (by omega)).trans (heap_alloc_new _ _)
  · rw [← s3]; exact heap_alloc_new _ _
theorem Four.below {w0 w w' : World} {a b c d : Obj} (h : Four w0 a b c d w) (hb : Below w.heap.size w w') : Four w0 a b c d w' := by
  obtain ⟨h1, h2, h3, h4, h5, h6⟩ := h
  exact ⟨(hb.block _ (by omega)).trans h1, (hb.block _ (by omega)).trans h2, (hb.block _ (by omega)).trans h3, (hb.block _ (by omega)).trans h4, by have := hb.size; omega, h6.trans (hb.mono (by omega))⟩
theorem Four.bel {w0 w : World} {a b c d : Obj} (h : Four w0 a b c d w) : Below w0.heap.size w0 w := h.2.2.2.2.2
/-- A store into the fourth box. -/
theorem Four.set {w0 w : World} {a b c : Obj} {cs : Array Value} {t : TypeId} (h : Four w0 a b c (.cells cs t (0, 0)) w) (i : Nat) (v : Value) : Four w0 a b c (.cells (cs.setIfInBounds i v) t (0, 0)) (w.setCell ⟨w0.heap.size + 1 + 1 + 1, i, none⟩ v) := by
  obtain ⟨h1, h2, h3, h4, h5, h6⟩ := h
  refine ⟨(Below.heap_setCell w _ v _ (by simp only [ne_eq]; omega)).trans h1, (Below.heap_setCell w _ v _ (by simp only [ne_eq]; omega)).trans h2, (Below.heap_setCell w _ v _ (by simp only [ne_eq]; omega)).trans h3, box_set h4 i v, by simpa [World.setCell] using h5, below_setCell h6 (by omega) i v⟩
theorem cells2 {w : World} {g : Nat} {a b : Value} {t : TypeId} (h : w.heap[g]? = some (.cells #[a, b] t (0, 0))) : w.cell? ⟨g, 0, none⟩ = some a ∧ w.cell? ⟨g, 1, none⟩ = some b := ⟨cell_of_row _ _ 0 _ _ _ h, cell_of_row _ _ 1 _ _ _ h⟩
theorem cells3 {w : World} {g : Nat} {a b c : Value} {t : TypeId} (h : w.heap[g]? = some (.cells #[a, b, c] t (0, 0))) : w.cell? ⟨g, 0, none⟩ = some a ∧ w.cell? ⟨g, 1, none⟩ = some b ∧ w.cell? ⟨g, 2, none⟩ = some c := ⟨cell_of_row _ _ 0 _ _ _ h, cell_of_row _ _ 1 _ _ _ h, cell_of_row _ _ 2 _ _ _ h⟩
theorem froz3 {w : World} {g : Nat} {a : Array Value} {t : TypeId} (h : w.heap[g]? = some (.cells a t (0, 0))) : w.frozen? ⟨g, 0, none⟩ = false ∧ w.frozen? ⟨g, 1, none⟩ = false ∧ w.frozen? ⟨g, 2, none⟩ = false := ⟨block_frozen _ _ 0 _ _ h, block_frozen _ _ 1 _ _ h, block_frozen _ _ 2 _ _ h⟩

/-- Three stores into one box. -/
def putH (w : World) (g : Nat) (a b c : Value) : World := ((w.setCell ⟨g, 0, none⟩ a).setCell ⟨g, 1, none⟩ b).setCell ⟨g, 2, none⟩ c
theorem Four.put {w0 w : World} {a b c : Obj} {v0 v1 v2 : Value} {t : TypeId} (h : Four w0 a b c (.cells #[v0, v1, v2] t (0, 0)) w) (x y z : Value) : Four w0 a b c (.cells #[x, y, z] t (0, 0)) (putH w (w0.heap.size + 1 + 1 + 1) x y z) := ((h.set 0 x).set 1 y).set 2 z

def heldV (h : Hd) : Value := .agg #[.bool h.has, .int .i64 h.v, .int .i64 h.t]
theorem bel_four (w : World) (a b c d : Obj) : Below w.heap.size w ((((w.alloc a).alloc b).alloc c).alloc d) := (Four.new w a b c d).bel

set_option maxHeartbeats 1000000 in
theorem after_any (d q hv ht x y : Int) (hs : Bool) (hd : (-9223372036854775808 ≤ d ∧ d < 9223372036854775808)) (hq : (-9223372036854775808 ≤ q ∧ q < 9223372036854775808)) (hhv : (-9223372036854775808 ≤ hv ∧ hv < 9223372036854775808)) (hht : (-9223372036854775808 ≤ ht ∧ ht < 9223372036854775808)) (hx : (-9223372036854775808 ≤ x ∧ x < 9223372036854775808)) (hy : (-9223372036854775808 ≤ y ∧ y < 9223372036854775808)) (w : World) : Calls Try.prog 23 #[.agg #[.int .i64 d, .int .i64 q], .agg #[.bool hs, .int .i64 hv, .int .i64 ht], .agg #[.int .i64 x, .int .i64 y]] w fun e w' => e = .returned (heldV (stepH d q ⟨hs, hv, ht⟩ (x, y))) ∧ Below w.heap.size w w' := by
  have fr := Four.new w (.cells #[.int .i64 d, .int .i64 q] 23) (.cells #[.bool hs, .int .i64 hv, .int .i64 ht] 25) (.cells #[.int .i64 x, .int .i64 y] 27) (.cells #[.bool false, .int .i64 0, .int .i64 0] 25)
  cases hs with
  | false =>
    have HS := Lib.hid (stepH_t (d := d) (q := q) (h := ⟨false, hv, ht⟩) (p := (x, y)) rfl)
    go_enter Try.func23, Try.ntmps23
    go_wp2
    (try simp only [Exit.inBlock, Exit.then])
    refine bodyPost_ret (v := .agg #[.bool true, .int .i64 x, .int .i64 y]) (by simp [results, Try.results23, go_sem, *]) rfl ?_
    exact ⟨by rw [HS.out]; rfl, bel_four _ _ _ _ _⟩
  | true =>
  cases hm : farB d x hv with
  | true =>
    have HS := Lib.hid (stepH_t (d := d) (q := q) (h := ⟨true, hv, ht⟩) (p := (x, y)) (by unfold toldB; rw [hm]; rfl))
    go_enter Try.func23, Try.ntmps23
    go_wp2_with fail
    refine (moved_any d q hv ht x y true hd hhv hx _).mono ?_
    rintro e w1 ⟨rfl, b1⟩
    rw [hm]
    have fr1 := fr.below b1
    have fr2 := fr1.put (.bool true) (.int .i64 x) (.int .i64 y)
    clear b1 fr hm
    obtain ⟨c1, c2⟩ := cells2 fr1.2.2.1
    obtain ⟨z1, z2, z3⟩ := cells3 fr1.2.2.2.1
    obtain ⟨f1, f2, f3⟩ := froz3 fr1.2.2.2.1
    go_wp2
    (try simp only [Exit.inBlock, Exit.then])
    show bodyPost _ _ _ _ _ (putH w1 (w.heap.size + 1 + 1 + 1) (.bool true) (.int .i64 x) (.int .i64 y))
    generalize putH w1 (w.heap.size + 1 + 1 + 1) (.bool true) (.int .i64 x) (.int .i64 y) = w2 at *
    clear c1 c2 z1 z2 z3 f1 f2 f3 fr1
    obtain ⟨z1, z2, z3⟩ := cells3 fr2.2.2.2.1
    refine bodyPost_ret (v := .agg #[.bool true, .int .i64 x, .int .i64 y]) (by simp [results, Try.results23, go_sem, z1, z2, z3]) rfl ?_
    exact ⟨by rw [HS.out]; rfl, fr2.bel⟩
  | false =>
  cases hm2 : dueB q ht y with
  | true =>
    have HS := Lib.hid (stepH_t (d := d) (q := q) (h := ⟨true, hv, ht⟩) (p := (x, y)) (by unfold toldB; rw [hm, hm2]; rfl))
    go_enter Try.func23, Try.ntmps23
    go_wp2_with fail
    refine (moved_any d q hv ht x y true hd hhv hx _).mono ?_
    rintro e w1 ⟨rfl, b1⟩
    rw [hm]
    have fr1 := fr.below b1
    clear b1 fr hm
    obtain ⟨a1, a2⟩ := cells2 fr1.1
    obtain ⟨b1, b2, b3⟩ := cells3 fr1.2.1
    obtain ⟨c1, c2⟩ := cells2 fr1.2.2.1
    go_wp2_with fail
    refine (overdue_any d q hv ht x y true hq hht hy _).mono ?_
    rintro e w2 ⟨rfl, b9⟩
    rw [hm2]
    have fr2 := fr1.below b9
    have fr3 := fr2.put (.bool true) (.int .i64 x) (.int .i64 y)
    clear b9 fr1 hm2 a1 a2 b1 b2 b3 c1 c2
    obtain ⟨c1, c2⟩ := cells2 fr2.2.2.1
    obtain ⟨z1, z2, z3⟩ := cells3 fr2.2.2.2.1
    obtain ⟨f1, f2, f3⟩ := froz3 fr2.2.2.2.1
    go_wp2
    (try simp only [Exit.inBlock, Exit.then])
    show bodyPost _ _ _ _ _ (putH w2 (w.heap.size + 1 + 1 + 1) (.bool true) (.int .i64 x) (.int .i64 y))
    generalize putH w2 (w.heap.size + 1 + 1 + 1) (.bool true) (.int .i64 x) (.int .i64 y) = w3 at *
    clear c1 c2 z1 z2 z3 f1 f2 f3 fr2
    obtain ⟨z1, z2, z3⟩ := cells3 fr3.2.2.2.1
    refine bodyPost_ret (v := .agg #[.bool true, .int .i64 x, .int .i64 y]) (by simp [results, Try.results23, go_sem, z1, z2, z3]) rfl ?_
    exact ⟨by rw [HS.out]; rfl, fr3.bel⟩
  | false =>
    have HS := Lib.hid (stepH_f (d := d) (q := q) (h := ⟨true, hv, ht⟩) (p := (x, y)) (by unfold toldB; rw [hm, hm2]; rfl))
    go_enter Try.func23, Try.ntmps23
    go_wp2_with fail
    refine (moved_any d q hv ht x y true hd hhv hx _).mono ?_
    rintro e w1 ⟨rfl, b1⟩
    rw [hm]
    have fr1 := fr.below b1
    clear b1 fr hm
    obtain ⟨a1, a2⟩ := cells2 fr1.1
    obtain ⟨b1, b2, b3⟩ := cells3 fr1.2.1
    obtain ⟨c1, c2⟩ := cells2 fr1.2.2.1
    go_wp2_with fail
    refine (overdue_any d q hv ht x y true hq hht hy _).mono ?_
    rintro e w2 ⟨rfl, b9⟩
    rw [hm2]
    have fr2 := fr1.below b9
    have fr3 := fr2.put (.bool true) (.int .i64 hv) (.int .i64 ht)
    clear b9 fr1 hm2 a1 a2 b1 b2 b3 c1 c2
    obtain ⟨b1, b2, b3⟩ := cells3 fr2.2.1
    obtain ⟨z1, z2, z3⟩ := cells3 fr2.2.2.2.1
    obtain ⟨f1, f2, f3⟩ := froz3 fr2.2.2.2.1
    go_wp2
    (try simp only [Exit.inBlock, Exit.then])
    show bodyPost _ _ _ _ _ (putH w2 (w.heap.size + 1 + 1 + 1) (.bool true) (.int .i64 hv) (.int .i64 ht))
    generalize putH w2 (w.heap.size + 1 + 1 + 1) (.bool true) (.int .i64 hv) (.int .i64 ht) = w3 at *
    clear b1 b2 b3 z1 z2 z3 f1 f2 f3 fr2
    obtain ⟨z1, z2, z3⟩ := cells3 fr3.2.2.2.1
    refine bodyPost_ret (v := .agg #[.bool true, .int .i64 hv, .int .i64 ht]) (by simp [results, Try.results23, go_sem, z1, z2, z3]) rfl ?_
    exact ⟨by rw [HS.out]; rfl, fr3.bel⟩
end Go.Proofs.Ytggijpfmcidpaaa
