/-
  Contracts of Step and Check of package band.
-/
import Derived.Test.YtggijpfmcidpaaaBdAfter
namespace Go.Proofs.Ytggijpfmcidpaaa
open Go.RowKit
set_option linter.unusedVariables false

theorem told_ne {d q : Int} {hs : Bool} {hv ht x y : Int} (h : toldB d q ⟨hs, hv, ht⟩ (x, y) = true) : hs = false ∨ x ≠ hv ∨ y ≠ ht := by
  unfold toldB at h
  simp only [Bool.or_eq_true, Bool.not_eq_true'] at h
  rcases h with h | h | h
  · exact .inl h
  · refine .inr (.inl fun e => ?_)
    subst e
    unfold farB at h
    rw [distI_self] at h
    simp at h; omega
  · refine .inr (.inr fun e => ?_)
    subst e
    unfold dueB at h
    rw [distI_self] at h
    simp at h; omega
theorem told_false {d q : Int} {hs : Bool} {hv ht x y : Int} (h : toldB d q ⟨hs, hv, ht⟩ (x, y) = false) : hs = true := by
  unfold toldB at h
  cases hs
  · simp at h
  · rfl

/-- What Step gives: what is held, and whether the point is told. -/
def stepV (d q : Int) (h : Hd) (p : Pt) : Value := .tuple #[heldV (stepH d q h p), .bool (toldB d q h p)]
set_option maxHeartbeats 1000000 in
theorem Step_told (d q hv ht x y : Int) (hs : Bool) (hd : (-9223372036854775808 ≤ d ∧ d < 9223372036854775808)) (hq : (-9223372036854775808 ≤ q ∧ q < 9223372036854775808)) (hhv : (-9223372036854775808 ≤ hv ∧ hv < 9223372036854775808)) (hht : (-9223372036854775808 ≤ ht ∧ ht < 9223372036854775808)) (hx : (-9223372036854775808 ≤ x ∧ x < 9223372036854775808)) (hy : (-9223372036854775808 ≤ y ∧ y < 9223372036854775808)) (w : World) (hm : toldB d q ⟨hs, hv, ht⟩ (x, y) = true) : Calls Try.prog 9 #[.agg #[.int .i64 d, .int .i64 q], .agg #[.bool hs, .int .i64 hv, .int .i64 ht], .agg #[.int .i64 x, .int .i64 y]] w fun e w' => e = .returned (stepV d q ⟨hs, hv, ht⟩ (x, y)) ∧ Below w.heap.size w w' := by
  have fr := Four.new w (.cells #[.int .i64 d, .int .i64 q] 23) (.cells #[.bool hs, .int .i64 hv, .int .i64 ht] 25) (.cells #[.int .i64 x, .int .i64 y] 27) (.cells #[.bool false, .int .i64 0, .int .i64 0] 25)
  have HS : Hid (stepV d q ⟨hs, hv, ht⟩ (x, y) = .tuple #[.agg #[.bool true, .int .i64 x, .int .i64 y], .bool true]) := Lib.hid (by unfold stepV; rw [hm, stepH_t hm]; rfl)
  have HH := Lib.hid (stepH_t hm)
  have HN := Lib.hid (told_ne hm)
  clear hm
  go_enter Try.func9, Try.ntmps9
  go_wp2_with fail
  refine (after_any d q hv ht x y hs hd hq hhv hht hx hy _).mono ?_
  rintro e w1 ⟨rfl, b1⟩
  rw [HH.out]
  have fr1 := fr.below b1
  have bx := Bx.new w1 (.cells #[.bool true, .int .i64 x, .int .i64 y] 25)
  have fr2 := fr1.below (bel_alloc w1 (.cells #[.bool true, .int .i64 x, .int .i64 y] 25))
  have fr3 := fr2.put (.bool true) (.int .i64 x) (.int .i64 y)
  have bx8 := bx.1
  have hlt := fr1.2.2.2.2.1
  clear b1 fr fr1 bx
  unfold heldV
  go_wp2
  have hne : ¬ w1.heap.size = w.heap.size + 1 + 1 + 1 := by omega
  have hne2 : ¬ w.heap.size + 1 + 1 + 1 = w1.heap.size := by omega
  clear hlt
  generalize w1.alloc (.cells #[.bool true, .int .i64 x, .int .i64 y] 25) = w2 at *
  generalize w1.heap.size = g8 at *
  obtain ⟨b1, b2, b3⟩ := cells3 fr2.2.1
  obtain ⟨z1, z2, z3⟩ := cells3 fr2.2.2.2.1
  obtain ⟨f1, f2, f3⟩ := froz3 fr2.2.2.2.1
  obtain ⟨e1, e2, e3⟩ := cells3 bx8
  cases hs
  case false =>
    go_region
    go_wp2
    (try simp only [Exit.inBlock, Exit.then])
    show bodyPost _ _ _ _ _ (putH w2 (w.heap.size + 1 + 1 + 1) (.bool true) (.int .i64 x) (.int .i64 y)).drew
    have fr4 := fr3.below (below_drew (Below.refl _ _))
    generalize (putH w2 (w.heap.size + 1 + 1 + 1) (.bool true) (.int .i64 x) (.int .i64 y)).drew = w3 at *
    clear b1 b2 b3 z1 z2 z3 f1 f2 f3 e1 e2 e3 fr2 fr3
    obtain ⟨z1, z2, z3⟩ := cells3 fr4.2.2.2.1
    refine bodyPost_ret (v := .tuple #[.agg #[.bool true, .int .i64 x, .int .i64 y], .bool true]) (by simp [results, Try.results9, go_sem, z1, z2, z3]) rfl ?_
    exact ⟨by rw [HS.out], fr4.bel⟩
  case true =>
    by_cases hxe : x = hv
    · subst hxe
      have hye : ¬ y = ht := by rcases HN.out with h | h | h <;> first | cases h | exact absurd rfl h | exact h
      go_region
      go_wp2
      (try simp only [Exit.inBlock, Exit.then])
      show bodyPost _ _ _ _ _ (putH w2 (w.heap.size + 1 + 1 + 1) (.bool true) (.int .i64 x) (.int .i64 y)).drew
      have fr4 := fr3.below (below_drew (Below.refl _ _))
      generalize (putH w2 (w.heap.size + 1 + 1 + 1) (.bool true) (.int .i64 x) (.int .i64 y)).drew = w3 at *
      clear b1 b2 b3 z1 z2 z3 f1 f2 f3 e1 e2 e3 fr2 fr3
      obtain ⟨z1, z2, z3⟩ := cells3 fr4.2.2.2.1
      refine bodyPost_ret (v := .tuple #[.agg #[.bool true, .int .i64 x, .int .i64 y], .bool true]) (by simp [results, Try.results9, go_sem, z1, z2, z3]) rfl ?_
      exact ⟨by rw [HS.out], fr4.bel⟩
    · skip
      go_region
      go_wp2
      (try simp only [Exit.inBlock, Exit.then])
      show bodyPost _ _ _ _ _ (putH w2 (w.heap.size + 1 + 1 + 1) (.bool true) (.int .i64 x) (.int .i64 y)).drew
      have fr4 := fr3.below (below_drew (Below.refl _ _))
      generalize (putH w2 (w.heap.size + 1 + 1 + 1) (.bool true) (.int .i64 x) (.int .i64 y)).drew = w3 at *
      clear b1 b2 b3 z1 z2 z3 f1 f2 f3 e1 e2 e3 fr2 fr3
      obtain ⟨z1, z2, z3⟩ := cells3 fr4.2.2.2.1
      refine bodyPost_ret (v := .tuple #[.agg #[.bool true, .int .i64 x, .int .i64 y], .bool true]) (by simp [results, Try.results9, go_sem, z1, z2, z3]) rfl ?_
      exact ⟨by rw [HS.out], fr4.bel⟩
set_option maxHeartbeats 1000000 in
theorem Step_any (d q hv ht x y : Int) (hs : Bool) (hd : (-9223372036854775808 ≤ d ∧ d < 9223372036854775808)) (hq : (-9223372036854775808 ≤ q ∧ q < 9223372036854775808)) (hhv : (-9223372036854775808 ≤ hv ∧ hv < 9223372036854775808)) (hht : (-9223372036854775808 ≤ ht ∧ ht < 9223372036854775808)) (hx : (-9223372036854775808 ≤ x ∧ x < 9223372036854775808)) (hy : (-9223372036854775808 ≤ y ∧ y < 9223372036854775808)) (w : World) : Calls Try.prog 9 #[.agg #[.int .i64 d, .int .i64 q], .agg #[.bool hs, .int .i64 hv, .int .i64 ht], .agg #[.int .i64 x, .int .i64 y]] w fun e w' => e = .returned (stepV d q ⟨hs, hv, ht⟩ (x, y)) ∧ Below w.heap.size w w' := by
  have fr := Four.new w (.cells #[.int .i64 d, .int .i64 q] 23) (.cells #[.bool hs, .int .i64 hv, .int .i64 ht] 25) (.cells #[.int .i64 x, .int .i64 y] 27) (.cells #[.bool false, .int .i64 0, .int .i64 0] 25)
  cases hm : toldB d q ⟨hs, hv, ht⟩ (x, y) with
  | false =>
    have HS : Hid (stepV d q ⟨hs, hv, ht⟩ (x, y) = .tuple #[.agg #[.bool hs, .int .i64 hv, .int .i64 ht], .bool false]) := Lib.hid (by unfold stepV; rw [hm, stepH_f hm]; rfl)
    have HH := Lib.hid (stepH_f hm)
    clear hm
    go_enter Try.func9, Try.ntmps9
    go_wp2_with fail
    refine (after_any d q hv ht x y hs hd hq hhv hht hx hy _).mono ?_
    rintro e w1 ⟨rfl, b1⟩
    rw [HH.out]
    have fr1 := fr.below b1
    have bx := Bx.new w1 (.cells #[.bool hs, .int .i64 hv, .int .i64 ht] 25)
    have fr2 := fr1.below (bel_alloc w1 (.cells #[.bool hs, .int .i64 hv, .int .i64 ht] 25))
    have fr3 := fr2.put (.bool hs) (.int .i64 hv) (.int .i64 ht)
    have bx8 := bx.1
    have hlt := fr1.2.2.2.2.1
    clear b1 fr fr1 bx
    unfold heldV
    go_wp2
    have hne : ¬ w1.heap.size = w.heap.size + 1 + 1 + 1 := by omega
    have hne2 : ¬ w.heap.size + 1 + 1 + 1 = w1.heap.size := by omega
    clear hlt
    generalize w1.alloc (.cells #[.bool hs, .int .i64 hv, .int .i64 ht] 25) = w2 at *
    generalize w1.heap.size = g8 at *
    obtain ⟨b1, b2, b3⟩ := cells3 fr2.2.1
    obtain ⟨z1, z2, z3⟩ := cells3 fr2.2.2.2.1
    obtain ⟨f1, f2, f3⟩ := froz3 fr2.2.2.2.1
    obtain ⟨e1, e2, e3⟩ := cells3 bx8
    go_region
    go_wp2
    (try simp only [Exit.inBlock, Exit.then])
    show bodyPost _ _ _ _ _ (putH w2 (w.heap.size + 1 + 1 + 1) (.bool hs) (.int .i64 hv) (.int .i64 ht)).drew
    have fr4 := fr3.below (below_drew (Below.refl _ _))
    generalize (putH w2 (w.heap.size + 1 + 1 + 1) (.bool hs) (.int .i64 hv) (.int .i64 ht)).drew = w3 at *
    clear b1 b2 b3 z1 z2 z3 f1 f2 f3 e1 e2 e3 fr2 fr3
    obtain ⟨z1, z2, z3⟩ := cells3 fr4.2.2.2.1
    refine bodyPost_ret (v := .tuple #[.agg #[.bool hs, .int .i64 hv, .int .i64 ht], .bool false]) (by simp [results, Try.results9, go_sem, z1, z2, z3]) rfl ?_
    exact ⟨by rw [HS.out], fr4.bel⟩
  | true => exact Step_told d q hv ht x y hs hd hq hhv hht hx hy w hm
end Go.Proofs.Ytggijpfmcidpaaa
