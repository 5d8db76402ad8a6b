/-
  Contracts of the document's Step and Ack of layer 8.
-/
import Derived.Test.YtlbblddpfijciaaAlRef
namespace Go.Proofs.Ytlbblddpfijciaa
open Go.RowKit
set_option linter.unusedVariables false

/-- An alarm as a value; what Step and Ack give. -/
def almV (a : Alm) : Value := .agg #[.int .i64 a.st, .bool a.wt]
def stepR (r : Alm × Int) : Value := .tuple #[almV r.1, .int .i64 r.2]
def ackR (r : Alm × Bool) : Value := .tuple #[almV r.1, .bool r.2]
theorem chkL_ok {l : Lim} (h : okL l = true) : chkL l = 0 := by unfold chkL; rw [h]; rfl
theorem chkL_bad {l : Lim} (h : okL l = false) : chkL l = 27 := by unfold chkL; rw [h]; rfl
theorem isSt_no {st : Int} (h0 : ¬ st = 0) (h1 : ¬ st = 1) (h2 : ¬ st = 2) : isSt st = false := by unfold isSt; simp [h0, h1, h2]

set_option maxHeartbeats 1000000 in
theorem rs_bad (ul uh la : Bool) (lo hi hy : Int) (st : Int) (wt : Bool) (v : Int) (hok : okL ⟨ul, uh, la, lo, hi, hy⟩ = false) (w : World) : Calls Try.prog 11 #[.agg #[.bool ul, .bool uh, .bool la, .int .i64 lo, .int .i64 hi, .int .i64 hy], .agg #[.int .i64 st, .bool wt], .int .i64 v] w fun e w' => e = .returned (stepR (stepA ⟨ul, uh, la, lo, hi, hy⟩ ⟨st, wt⟩ v)) ∧ Below w.heap.size w w' := by
    have fr := Box3.new w (.cells #[.bool ul, .bool uh, .bool la, .int .i64 lo, .int .i64 hi, .int .i64 hy] 23) (.cells #[.int .i64 st, .bool wt] 25) (.cells #[.int .i64 0, .bool false] 25)
    have HS := Lib.hid (stepA_bad (l := ⟨ul, uh, la, lo, hi, hy⟩) (a := ⟨st, wt⟩) (v := v) (.inl hok))
    have HC := Lib.hid (chkL_bad hok)
    go_enter Try.func11, Try.ntmps11
    go_wp2_with fail
    refine (refCheck8_any ul uh la lo hi hy _).mono ?_
    rintro e w1 ⟨rfl, b1⟩
    rw [HC.out]
    have fr1 := fr.below b1
    clear b1 fr
    obtain ⟨l1, l2, l3, l4, l5, l6⟩ := of6 fr1.1
    obtain ⟨c1, c2⟩ := of2 fr1.2.1
    obtain ⟨z1, z2⟩ := of2 fr1.2.2.1
    obtain ⟨f1, f2⟩ := thaw2 fr1.2.2.1
    have fr9 := fr1.put (.int .i64 st) (.bool wt)
    clear fr1
    go_wp2
    (try simp only [Exit.inBlock, Exit.then])
    show bodyPost _ _ _ _ _ (put2 w1 (w.heap.size + 1 + 1) (.int .i64 st) (.bool wt))
    generalize put2 w1 (w.heap.size + 1 + 1) (.int .i64 st) (.bool wt) = w9 at *
    clear l1 l2 l3 l4 l5 l6 c1 c2 z1 z2 f1 f2
    obtain ⟨z1, z2⟩ := of2 fr9.2.2.1
    refine bodyPost_ret (v := .tuple #[.agg #[.int .i64 st, .bool wt], .int .i64 0]) (by simp [results, Try.results11, go_sem, z1, z2]) rfl ?_
    exact ⟨by rw [HS.out]; rfl, fr9.bel⟩

set_option maxHeartbeats 1000000 in
theorem rs_none (ul uh la : Bool) (lo hi hy : Int) (st : Int) (wt : Bool) (v : Int) (hok : okL ⟨ul, uh, la, lo, hi, hy⟩ = true) (h0 : ¬ st = 0) (h1 : ¬ st = 1) (h2 : ¬ st = 2) (w : World) : Calls Try.prog 11 #[.agg #[.bool ul, .bool uh, .bool la, .int .i64 lo, .int .i64 hi, .int .i64 hy], .agg #[.int .i64 st, .bool wt], .int .i64 v] w fun e w' => e = .returned (stepR (stepA ⟨ul, uh, la, lo, hi, hy⟩ ⟨st, wt⟩ v)) ∧ Below w.heap.size w w' := by
    have fr := Box3.new w (.cells #[.bool ul, .bool uh, .bool la, .int .i64 lo, .int .i64 hi, .int .i64 hy] 23) (.cells #[.int .i64 st, .bool wt] 25) (.cells #[.int .i64 0, .bool false] 25)
    have HS := Lib.hid (stepA_bad (l := ⟨ul, uh, la, lo, hi, hy⟩) (a := ⟨st, wt⟩) (v := v) (.inr (isSt_no h0 h1 h2)))
    have HC := Lib.hid (chkL_ok hok)
    have e0 : (st != 0) = true := by simp [h0]
    have e1 : (st != 1) = true := by simp [h1]
    have e2 : (st != 2) = true := by simp [h2]
    go_enter Try.func11, Try.ntmps11
    go_wp2_with fail
    refine (refCheck8_any ul uh la lo hi hy _).mono ?_
    rintro e w1 ⟨rfl, b1⟩
    rw [HC.out]
    have fr1 := fr.below b1
    clear b1 fr
    obtain ⟨l1, l2, l3, l4, l5, l6⟩ := of6 fr1.1
    obtain ⟨c1, c2⟩ := of2 fr1.2.1
    obtain ⟨z1, z2⟩ := of2 fr1.2.2.1
    obtain ⟨f1, f2⟩ := thaw2 fr1.2.2.1
    have fr9 := fr1.put (.int .i64 st) (.bool wt)
    clear fr1
    go_wp2
    (try simp only [Exit.inBlock, Exit.then])
    show bodyPost _ _ _ _ _ (put2 w1 (w.heap.size + 1 + 1) (.int .i64 st) (.bool wt))
    generalize put2 w1 (w.heap.size + 1 + 1) (.int .i64 st) (.bool wt) = w9 at *
    clear l1 l2 l3 l4 l5 l6 c1 c2 z1 z2 f1 f2
    obtain ⟨z1, z2⟩ := of2 fr9.2.2.1
    refine bodyPost_ret (v := .tuple #[.agg #[.int .i64 st, .bool wt], .int .i64 0]) (by simp [results, Try.results11, go_sem, z1, z2]) rfl ?_
    exact ⟨by rw [HS.out]; rfl, fr9.bel⟩

set_option maxHeartbeats 1000000 in
theorem rs_low0 (ul uh la : Bool) (lo hi hy : Int) (wt : Bool) (v : Int) (hok : okL ⟨ul, uh, la, lo, hi, hy⟩ = true) (hl : lowB ⟨ul, uh, la, lo, hi, hy⟩ v = true) (w : World) : Calls Try.prog 11 #[.agg #[.bool ul, .bool uh, .bool la, .int .i64 lo, .int .i64 hi, .int .i64 hy], .agg #[.int .i64 0, .bool wt], .int .i64 v] w fun e w' => e = .returned (stepR (stepA ⟨ul, uh, la, lo, hi, hy⟩ ⟨0, wt⟩ v)) ∧ Below w.heap.size w w' := by
    have fr := Box3.new w (.cells #[.bool ul, .bool uh, .bool la, .int .i64 lo, .int .i64 hi, .int .i64 hy] 23) (.cells #[.int .i64 0, .bool wt] 25) (.cells #[.int .i64 0, .bool false] 25)
    have HS := Lib.hid (stepA_low (l := ⟨ul, uh, la, lo, hi, hy⟩) (a := ⟨0, wt⟩) (v := v) hok rfl (by simp) hl)
    have HC := Lib.hid (chkL_ok hok)
    have HL := Lib.hid (hl)
    go_enter Try.func11, Try.ntmps11
    go_wp2_with fail
    refine (refCheck8_any ul uh la lo hi hy _).mono ?_
    rintro e w1 ⟨rfl, b1⟩
    rw [HC.out]
    have fr1 := fr.below b1
    clear b1 fr
    obtain ⟨l1, l2, l3, l4, l5, l6⟩ := of6 fr1.1
    obtain ⟨c1, c2⟩ := of2 fr1.2.1
    obtain ⟨z1, z2⟩ := of2 fr1.2.2.1
    obtain ⟨f1, f2⟩ := thaw2 fr1.2.2.1
    go_wp2_with fail
    refine (refIsLow_any ul uh la lo hi hy v _).mono ?_
    rintro e w2 ⟨rfl, b2⟩
    rw [HL.out]
    have fr2 := fr1.below b2
    clear b2 fr1 l1 l2 l3 l4 l5 l6 c1 c2 z1 z2 f1 f2
    obtain ⟨l1, l2, l3, l4, l5, l6⟩ := of6 fr2.1
    obtain ⟨c1, c2⟩ := of2 fr2.2.1
    obtain ⟨z1, z2⟩ := of2 fr2.2.2.1
    obtain ⟨f1, f2⟩ := thaw2 fr2.2.2.1
    have fr9 := fr2.put (.int .i64 1) (.bool true)
    clear fr2
    go_wp2
    (try simp only [Exit.inBlock, Exit.then])
    show bodyPost _ _ _ _ _ (put2 w2 (w.heap.size + 1 + 1) (.int .i64 1) (.bool true))
    generalize put2 w2 (w.heap.size + 1 + 1) (.int .i64 1) (.bool true) = w9 at *
    clear l1 l2 l3 l4 l5 l6 c1 c2 z1 z2 f1 f2
    obtain ⟨z1, z2⟩ := of2 fr9.2.2.1
    refine bodyPost_ret (v := .tuple #[.agg #[.int .i64 1, .bool true], .int .i64 1]) (by simp [results, Try.results11, go_sem, z1, z2]) rfl ?_
    exact ⟨by rw [HS.out]; rfl, fr9.bel⟩

set_option maxHeartbeats 1000000 in
theorem rs_high0 (ul uh la : Bool) (lo hi hy : Int) (wt : Bool) (v : Int) (hok : okL ⟨ul, uh, la, lo, hi, hy⟩ = true) (hl : lowB ⟨ul, uh, la, lo, hi, hy⟩ v = false) (hh : highB ⟨ul, uh, la, lo, hi, hy⟩ v = true) (w : World) : Calls Try.prog 11 #[.agg #[.bool ul, .bool uh, .bool la, .int .i64 lo, .int .i64 hi, .int .i64 hy], .agg #[.int .i64 0, .bool wt], .int .i64 v] w fun e w' => e = .returned (stepR (stepA ⟨ul, uh, la, lo, hi, hy⟩ ⟨0, wt⟩ v)) ∧ Below w.heap.size w w' := by
    have fr := Box3.new w (.cells #[.bool ul, .bool uh, .bool la, .int .i64 lo, .int .i64 hi, .int .i64 hy] 23) (.cells #[.int .i64 0, .bool wt] 25) (.cells #[.int .i64 0, .bool false] 25)
    have HS := Lib.hid (stepA_high (l := ⟨ul, uh, la, lo, hi, hy⟩) (a := ⟨0, wt⟩) (v := v) hok rfl (by simp) hl hh)
    have HC := Lib.hid (chkL_ok hok)
    have HL := Lib.hid (hl)
    have HH := Lib.hid (hh)
    go_enter Try.func11, Try.ntmps11
    go_wp2_with fail
    refine (refCheck8_any ul uh la lo hi hy _).mono ?_
    rintro e w1 ⟨rfl, b1⟩
    rw [HC.out]
    have fr1 := fr.below b1
    clear b1 fr
    obtain ⟨l1, l2, l3, l4, l5, l6⟩ := of6 fr1.1
    obtain ⟨c1, c2⟩ := of2 fr1.2.1
    obtain ⟨z1, z2⟩ := of2 fr1.2.2.1
    obtain ⟨f1, f2⟩ := thaw2 fr1.2.2.1
    go_wp2_with fail
    refine (refIsLow_any ul uh la lo hi hy v _).mono ?_
    rintro e w2 ⟨rfl, b2⟩
    rw [HL.out]
    have fr2 := fr1.below b2
    clear b2 fr1 l1 l2 l3 l4 l5 l6 c1 c2 z1 z2 f1 f2
    obtain ⟨l1, l2, l3, l4, l5, l6⟩ := of6 fr2.1
    obtain ⟨c1, c2⟩ := of2 fr2.2.1
    obtain ⟨z1, z2⟩ := of2 fr2.2.2.1
    obtain ⟨f1, f2⟩ := thaw2 fr2.2.2.1
    go_wp2_with fail
    refine (refIsHigh_any ul uh la lo hi hy v _).mono ?_
    rintro e w3 ⟨rfl, b3⟩
    rw [HH.out]
    have fr3 := fr2.below b3
    clear b3 fr2 l1 l2 l3 l4 l5 l6 c1 c2 z1 z2 f1 f2
    obtain ⟨l1, l2, l3, l4, l5, l6⟩ := of6 fr3.1
    obtain ⟨c1, c2⟩ := of2 fr3.2.1
    obtain ⟨z1, z2⟩ := of2 fr3.2.2.1
    obtain ⟨f1, f2⟩ := thaw2 fr3.2.2.1
    have fr9 := fr3.put (.int .i64 2) (.bool true)
    clear fr3
    go_wp2
    (try simp only [Exit.inBlock, Exit.then])
    show bodyPost _ _ _ _ _ (put2 w3 (w.heap.size + 1 + 1) (.int .i64 2) (.bool true))
    generalize put2 w3 (w.heap.size + 1 + 1) (.int .i64 2) (.bool true) = w9 at *
    clear l1 l2 l3 l4 l5 l6 c1 c2 z1 z2 f1 f2
    obtain ⟨z1, z2⟩ := of2 fr9.2.2.1
    refine bodyPost_ret (v := .tuple #[.agg #[.int .i64 2, .bool true], .int .i64 2]) (by simp [results, Try.results11, go_sem, z1, z2]) rfl ?_
    exact ⟨by rw [HS.out]; rfl, fr9.bel⟩

set_option maxHeartbeats 1000000 in
theorem rs_not0 (ul uh la : Bool) (lo hi hy : Int) (wt : Bool) (v : Int) (hok : okL ⟨ul, uh, la, lo, hi, hy⟩ = true) (hl : lowB ⟨ul, uh, la, lo, hi, hy⟩ v = false) (hh : highB ⟨ul, uh, la, lo, hi, hy⟩ v = false) (hb : backB ⟨ul, uh, la, lo, hi, hy⟩ 0 v = false) (w : World) : Calls Try.prog 11 #[.agg #[.bool ul, .bool uh, .bool la, .int .i64 lo, .int .i64 hi, .int .i64 hy], .agg #[.int .i64 0, .bool wt], .int .i64 v] w fun e w' => e = .returned (stepR (stepA ⟨ul, uh, la, lo, hi, hy⟩ ⟨0, wt⟩ v)) ∧ Below w.heap.size w w' := by
    have fr := Box3.new w (.cells #[.bool ul, .bool uh, .bool la, .int .i64 lo, .int .i64 hi, .int .i64 hy] 23) (.cells #[.int .i64 0, .bool wt] 25) (.cells #[.int .i64 0, .bool false] 25)
    have HS := Lib.hid (stepA_stay (l := ⟨ul, uh, la, lo, hi, hy⟩) (a := ⟨0, wt⟩) (v := v) hok rfl hl hh (.inl hb))
    have HC := Lib.hid (chkL_ok hok)
    have HL := Lib.hid (hl)
    have HH := Lib.hid (hh)
    have HB := Lib.hid (hb)
    go_enter Try.func11, Try.ntmps11
    go_wp2_with fail
    refine (refCheck8_any ul uh la lo hi hy _).mono ?_
    rintro e w1 ⟨rfl, b1⟩
    rw [HC.out]
    have fr1 := fr.below b1
    clear b1 fr
    obtain ⟨l1, l2, l3, l4, l5, l6⟩ := of6 fr1.1
    obtain ⟨c1, c2⟩ := of2 fr1.2.1
    obtain ⟨z1, z2⟩ := of2 fr1.2.2.1
    obtain ⟨f1, f2⟩ := thaw2 fr1.2.2.1
    go_wp2_with fail
    refine (refIsLow_any ul uh la lo hi hy v _).mono ?_
    rintro e w2 ⟨rfl, b2⟩
    rw [HL.out]
    have fr2 := fr1.below b2
    clear b2 fr1 l1 l2 l3 l4 l5 l6 c1 c2 z1 z2 f1 f2
    obtain ⟨l1, l2, l3, l4, l5, l6⟩ := of6 fr2.1
    obtain ⟨c1, c2⟩ := of2 fr2.2.1
    obtain ⟨z1, z2⟩ := of2 fr2.2.2.1
    obtain ⟨f1, f2⟩ := thaw2 fr2.2.2.1
    go_wp2_with fail
    refine (refIsHigh_any ul uh la lo hi hy v _).mono ?_
    rintro e w3 ⟨rfl, b3⟩
    rw [HH.out]
    have fr3 := fr2.below b3
    clear b3 fr2 l1 l2 l3 l4 l5 l6 c1 c2 z1 z2 f1 f2
    obtain ⟨l1, l2, l3, l4, l5, l6⟩ := of6 fr3.1
    obtain ⟨c1, c2⟩ := of2 fr3.2.1
    obtain ⟨z1, z2⟩ := of2 fr3.2.2.1
    obtain ⟨f1, f2⟩ := thaw2 fr3.2.2.1
    go_wp2_with fail
    refine (refBack_any ul uh la lo hi hy 0 v _ hok).mono ?_
    rintro e w4 ⟨rfl, b4⟩
    rw [HB.out]
    have fr4 := fr3.below b4
    clear b4 fr3 l1 l2 l3 l4 l5 l6 c1 c2 z1 z2 f1 f2
    obtain ⟨l1, l2, l3, l4, l5, l6⟩ := of6 fr4.1
    obtain ⟨c1, c2⟩ := of2 fr4.2.1
    obtain ⟨z1, z2⟩ := of2 fr4.2.2.1
    obtain ⟨f1, f2⟩ := thaw2 fr4.2.2.1
    have fr9 := fr4.put (.int .i64 0) (.bool wt)
    clear fr4
    go_wp2
    (try simp only [Exit.inBlock, Exit.then])
    show bodyPost _ _ _ _ _ (put2 w4 (w.heap.size + 1 + 1) (.int .i64 0) (.bool wt))
    generalize put2 w4 (w.heap.size + 1 + 1) (.int .i64 0) (.bool wt) = w9 at *
    clear l1 l2 l3 l4 l5 l6 c1 c2 z1 z2 f1 f2
    obtain ⟨z1, z2⟩ := of2 fr9.2.2.1
    refine bodyPost_ret (v := .tuple #[.agg #[.int .i64 0, .bool wt], .int .i64 0]) (by simp [results, Try.results11, go_sem, z1, z2]) rfl ?_
    exact ⟨by rw [HS.out]; rfl, fr9.bel⟩

set_option maxHeartbeats 1000000 in
theorem rs_low1 (ul uh la : Bool) (lo hi hy : Int) (wt : Bool) (v : Int) (hok : okL ⟨ul, uh, la, lo, hi, hy⟩ = true) (hl : lowB ⟨ul, uh, la, lo, hi, hy⟩ v = true) (w : World) : Calls Try.prog 11 #[.agg #[.bool ul, .bool uh, .bool la, .int .i64 lo, .int .i64 hi, .int .i64 hy], .agg #[.int .i64 1, .bool wt], .int .i64 v] w fun e w' => e = .returned (stepR (stepA ⟨ul, uh, la, lo, hi, hy⟩ ⟨1, wt⟩ v)) ∧ Below w.heap.size w w' := by
    have fr := Box3.new w (.cells #[.bool ul, .bool uh, .bool la, .int .i64 lo, .int .i64 hi, .int .i64 hy] 23) (.cells #[.int .i64 1, .bool wt] 25) (.cells #[.int .i64 0, .bool false] 25)
    have HS := Lib.hid (stepA_low1 (l := ⟨ul, uh, la, lo, hi, hy⟩) (a := ⟨1, wt⟩) (v := v) hok rfl hl)
    have HC := Lib.hid (chkL_ok hok)
    have HL := Lib.hid (hl)
    go_enter Try.func11, Try.ntmps11
    go_wp2_with fail
    refine (refCheck8_any ul uh la lo hi hy _).mono ?_
    rintro e w1 ⟨rfl, b1⟩
    rw [HC.out]
    have fr1 := fr.below b1
    clear b1 fr
    obtain ⟨l1, l2, l3, l4, l5, l6⟩ := of6 fr1.1
    obtain ⟨c1, c2⟩ := of2 fr1.2.1
    obtain ⟨z1, z2⟩ := of2 fr1.2.2.1
    obtain ⟨f1, f2⟩ := thaw2 fr1.2.2.1
    go_wp2_with fail
    refine (refIsLow_any ul uh la lo hi hy v _).mono ?_
    rintro e w2 ⟨rfl, b2⟩
    rw [HL.out]
    have fr2 := fr1.below b2
    clear b2 fr1 l1 l2 l3 l4 l5 l6 c1 c2 z1 z2 f1 f2
    obtain ⟨l1, l2, l3, l4, l5, l6⟩ := of6 fr2.1
    obtain ⟨c1, c2⟩ := of2 fr2.2.1
    obtain ⟨z1, z2⟩ := of2 fr2.2.2.1
    obtain ⟨f1, f2⟩ := thaw2 fr2.2.2.1
    have fr9 := fr2.put (.int .i64 1) (.bool wt)
    clear fr2
    go_wp2
    (try simp only [Exit.inBlock, Exit.then])
    show bodyPost _ _ _ _ _ (put2 w2 (w.heap.size + 1 + 1) (.int .i64 1) (.bool wt))
    generalize put2 w2 (w.heap.size + 1 + 1) (.int .i64 1) (.bool wt) = w9 at *
    clear l1 l2 l3 l4 l5 l6 c1 c2 z1 z2 f1 f2
    obtain ⟨z1, z2⟩ := of2 fr9.2.2.1
    refine bodyPost_ret (v := .tuple #[.agg #[.int .i64 1, .bool wt], .int .i64 0]) (by simp [results, Try.results11, go_sem, z1, z2]) rfl ?_
    exact ⟨by rw [HS.out]; rfl, fr9.bel⟩

set_option maxHeartbeats 1000000 in
theorem rs_high1 (ul uh la : Bool) (lo hi hy : Int) (wt : Bool) (v : Int) (hok : okL ⟨ul, uh, la, lo, hi, hy⟩ = true) (hl : lowB ⟨ul, uh, la, lo, hi, hy⟩ v = false) (hh : highB ⟨ul, uh, la, lo, hi, hy⟩ v = true) (w : World) : Calls Try.prog 11 #[.agg #[.bool ul, .bool uh, .bool la, .int .i64 lo, .int .i64 hi, .int .i64 hy], .agg #[.int .i64 1, .bool wt], .int .i64 v] w fun e w' => e = .returned (stepR (stepA ⟨ul, uh, la, lo, hi, hy⟩ ⟨1, wt⟩ v)) ∧ Below w.heap.size w w' := by
    have fr := Box3.new w (.cells #[.bool ul, .bool uh, .bool la, .int .i64 lo, .int .i64 hi, .int .i64 hy] 23) (.cells #[.int .i64 1, .bool wt] 25) (.cells #[.int .i64 0, .bool false] 25)
    have HS := Lib.hid (stepA_high (l := ⟨ul, uh, la, lo, hi, hy⟩) (a := ⟨1, wt⟩) (v := v) hok rfl (by simp) hl hh)
    have HC := Lib.hid (chkL_ok hok)
    have HL := Lib.hid (hl)
    have HH := Lib.hid (hh)
    go_enter Try.func11, Try.ntmps11
    go_wp2_with fail
    refine (refCheck8_any ul uh la lo hi hy _).mono ?_
    rintro e w1 ⟨rfl, b1⟩
    rw [HC.out]
    have fr1 := fr.below b1
    clear b1 fr
    obtain ⟨l1, l2, l3, l4, l5, l6⟩ := of6 fr1.1
    obtain ⟨c1, c2⟩ := of2 fr1.2.1
    obtain ⟨z1, z2⟩ := of2 fr1.2.2.1
    obtain ⟨f1, f2⟩ := thaw2 fr1.2.2.1
    go_wp2_with fail
    refine (refIsLow_any ul uh la lo hi hy v _).mono ?_
    rintro e w2 ⟨rfl, b2⟩
    rw [HL.out]
    have fr2 := fr1.below b2
    clear b2 fr1 l1 l2 l3 l4 l5 l6 c1 c2 z1 z2 f1 f2
    obtain ⟨l1, l2, l3, l4, l5, l6⟩ := of6 fr2.1
    obtain ⟨c1, c2⟩ := of2 fr2.2.1
    obtain ⟨z1, z2⟩ := of2 fr2.2.2.1
    obtain ⟨f1, f2⟩ := thaw2 fr2.2.2.1
    go_wp2_with fail
    refine (refIsHigh_any ul uh la lo hi hy v _).mono ?_
    rintro e w3 ⟨rfl, b3⟩
    rw [HH.out]
    have fr3 := fr2.below b3
    clear b3 fr2 l1 l2 l3 l4 l5 l6 c1 c2 z1 z2 f1 f2
    obtain ⟨l1, l2, l3, l4, l5, l6⟩ := of6 fr3.1
    obtain ⟨c1, c2⟩ := of2 fr3.2.1
    obtain ⟨z1, z2⟩ := of2 fr3.2.2.1
    obtain ⟨f1, f2⟩ := thaw2 fr3.2.2.1
    have fr9 := fr3.put (.int .i64 2) (.bool true)
    clear fr3
    go_wp2
    (try simp only [Exit.inBlock, Exit.then])
    show bodyPost _ _ _ _ _ (put2 w3 (w.heap.size + 1 + 1) (.int .i64 2) (.bool true))
    generalize put2 w3 (w.heap.size + 1 + 1) (.int .i64 2) (.bool true) = w9 at *
    clear l1 l2 l3 l4 l5 l6 c1 c2 z1 z2 f1 f2
    obtain ⟨z1, z2⟩ := of2 fr9.2.2.1
    refine bodyPost_ret (v := .tuple #[.agg #[.int .i64 2, .bool true], .int .i64 2]) (by simp [results, Try.results11, go_sem, z1, z2]) rfl ?_
    exact ⟨by rw [HS.out]; rfl, fr9.bel⟩

set_option maxHeartbeats 1000000 in
theorem rs_not1 (ul uh la : Bool) (lo hi hy : Int) (wt : Bool) (v : Int) (hok : okL ⟨ul, uh, la, lo, hi, hy⟩ = true) (hl : lowB ⟨ul, uh, la, lo, hi, hy⟩ v = false) (hh : highB ⟨ul, uh, la, lo, hi, hy⟩ v = false) (hb : backB ⟨ul, uh, la, lo, hi, hy⟩ 1 v = false) (w : World) : Calls Try.prog 11 #[.agg #[.bool ul, .bool uh, .bool la, .int .i64 lo, .int .i64 hi, .int .i64 hy], .agg #[.int .i64 1, .bool wt], .int .i64 v] w fun e w' => e = .returned (stepR (stepA ⟨ul, uh, la, lo, hi, hy⟩ ⟨1, wt⟩ v)) ∧ Below w.heap.size w w' := by
    have fr := Box3.new w (.cells #[.bool ul, .bool uh, .bool la, .int .i64 lo, .int .i64 hi, .int .i64 hy] 23) (.cells #[.int .i64 1, .bool wt] 25) (.cells #[.int .i64 0, .bool false] 25)
    have HS := Lib.hid (stepA_stay (l := ⟨ul, uh, la, lo, hi, hy⟩) (a := ⟨1, wt⟩) (v := v) hok rfl hl hh (.inl hb))
    have HC := Lib.hid (chkL_ok hok)
    have HL := Lib.hid (hl)
    have HH := Lib.hid (hh)
    have HB := Lib.hid (hb)
    go_enter Try.func11, Try.ntmps11
    go_wp2_with fail
    refine (refCheck8_any ul uh la lo hi hy _).mono ?_
    rintro e w1 ⟨rfl, b1⟩
    rw [HC.out]
    have fr1 := fr.below b1
    clear b1 fr
    obtain ⟨l1, l2, l3, l4, l5, l6⟩ := of6 fr1.1
    obtain ⟨c1, c2⟩ := of2 fr1.2.1
    obtain ⟨z1, z2⟩ := of2 fr1.2.2.1
    obtain ⟨f1, f2⟩ := thaw2 fr1.2.2.1
    go_wp2_with fail
    refine (refIsLow_any ul uh la lo hi hy v _).mono ?_
    rintro e w2 ⟨rfl, b2⟩
    rw [HL.out]
    have fr2 := fr1.below b2
    clear b2 fr1 l1 l2 l3 l4 l5 l6 c1 c2 z1 z2 f1 f2
    obtain ⟨l1, l2, l3, l4, l5, l6⟩ := of6 fr2.1
    obtain ⟨c1, c2⟩ := of2 fr2.2.1
    obtain ⟨z1, z2⟩ := of2 fr2.2.2.1
    obtain ⟨f1, f2⟩ := thaw2 fr2.2.2.1
    go_wp2_with fail
    refine (refIsHigh_any ul uh la lo hi hy v _).mono ?_
    rintro e w3 ⟨rfl, b3⟩
    rw [HH.out]
    have fr3 := fr2.below b3
    clear b3 fr2 l1 l2 l3 l4 l5 l6 c1 c2 z1 z2 f1 f2
    obtain ⟨l1, l2, l3, l4, l5, l6⟩ := of6 fr3.1
    obtain ⟨c1, c2⟩ := of2 fr3.2.1
    obtain ⟨z1, z2⟩ := of2 fr3.2.2.1
    obtain ⟨f1, f2⟩ := thaw2 fr3.2.2.1
    go_wp2_with fail
    refine (refBack_any ul uh la lo hi hy 1 v _ hok).mono ?_
    rintro e w4 ⟨rfl, b4⟩
    rw [HB.out]
    have fr4 := fr3.below b4
    clear b4 fr3 l1 l2 l3 l4 l5 l6 c1 c2 z1 z2 f1 f2
    obtain ⟨l1, l2, l3, l4, l5, l6⟩ := of6 fr4.1
    obtain ⟨c1, c2⟩ := of2 fr4.2.1
    obtain ⟨z1, z2⟩ := of2 fr4.2.2.1
    obtain ⟨f1, f2⟩ := thaw2 fr4.2.2.1
    have fr9 := fr4.put (.int .i64 1) (.bool wt)
    clear fr4
    go_wp2
    (try simp only [Exit.inBlock, Exit.then])
    show bodyPost _ _ _ _ _ (put2 w4 (w.heap.size + 1 + 1) (.int .i64 1) (.bool wt))
    generalize put2 w4 (w.heap.size + 1 + 1) (.int .i64 1) (.bool wt) = w9 at *
    clear l1 l2 l3 l4 l5 l6 c1 c2 z1 z2 f1 f2
    obtain ⟨z1, z2⟩ := of2 fr9.2.2.1
    refine bodyPost_ret (v := .tuple #[.agg #[.int .i64 1, .bool wt], .int .i64 0]) (by simp [results, Try.results11, go_sem, z1, z2]) rfl ?_
    exact ⟨by rw [HS.out]; rfl, fr9.bel⟩

set_option maxHeartbeats 1000000 in
theorem rs_back1 (ul uh : Bool) (lo hi hy : Int) (wt : Bool) (v : Int) (hok : okL ⟨ul, uh, false, lo, hi, hy⟩ = true) (hl : lowB ⟨ul, uh, false, lo, hi, hy⟩ v = false) (hh : highB ⟨ul, uh, false, lo, hi, hy⟩ v = false) (hb : backB ⟨ul, uh, false, lo, hi, hy⟩ 1 v = true)  (w : World) : Calls Try.prog 11 #[.agg #[.bool ul, .bool uh, .bool false, .int .i64 lo, .int .i64 hi, .int .i64 hy], .agg #[.int .i64 1, .bool wt], .int .i64 v] w fun e w' => e = .returned (stepR (stepA ⟨ul, uh, false, lo, hi, hy⟩ ⟨1, wt⟩ v)) ∧ Below w.heap.size w w' := by
    have fr := Box3.new w (.cells #[.bool ul, .bool uh, .bool false, .int .i64 lo, .int .i64 hi, .int .i64 hy] 23) (.cells #[.int .i64 1, .bool wt] 25) (.cells #[.int .i64 0, .bool false] 25)
    have HS := Lib.hid (stepA_back (l := ⟨ul, uh, false, lo, hi, hy⟩) (a := ⟨1, wt⟩) (v := v) hok rfl hl hh hb (.inl rfl))
    have HC := Lib.hid (chkL_ok hok)
    have HL := Lib.hid (hl)
    have HH := Lib.hid (hh)
    have HB := Lib.hid (hb)
    go_enter Try.func11, Try.ntmps11
    go_wp2_with fail
    refine (refCheck8_any ul uh false lo hi hy _).mono ?_
    rintro e w1 ⟨rfl, b1⟩
    rw [HC.out]
    have fr1 := fr.below b1
    clear b1 fr
    obtain ⟨l1, l2, l3, l4, l5, l6⟩ := of6 fr1.1
    obtain ⟨c1, c2⟩ := of2 fr1.2.1
    obtain ⟨z1, z2⟩ := of2 fr1.2.2.1
    obtain ⟨f1, f2⟩ := thaw2 fr1.2.2.1
    go_wp2_with fail
    refine (refIsLow_any ul uh false lo hi hy v _).mono ?_
    rintro e w2 ⟨rfl, b2⟩
    rw [HL.out]
    have fr2 := fr1.below b2
    clear b2 fr1 l1 l2 l3 l4 l5 l6 c1 c2 z1 z2 f1 f2
    obtain ⟨l1, l2, l3, l4, l5, l6⟩ := of6 fr2.1
    obtain ⟨c1, c2⟩ := of2 fr2.2.1
    obtain ⟨z1, z2⟩ := of2 fr2.2.2.1
    obtain ⟨f1, f2⟩ := thaw2 fr2.2.2.1
    go_wp2_with fail
    refine (refIsHigh_any ul uh false lo hi hy v _).mono ?_
    rintro e w3 ⟨rfl, b3⟩
    rw [HH.out]
    have fr3 := fr2.below b3
    clear b3 fr2 l1 l2 l3 l4 l5 l6 c1 c2 z1 z2 f1 f2
    obtain ⟨l1, l2, l3, l4, l5, l6⟩ := of6 fr3.1
    obtain ⟨c1, c2⟩ := of2 fr3.2.1
    obtain ⟨z1, z2⟩ := of2 fr3.2.2.1
    obtain ⟨f1, f2⟩ := thaw2 fr3.2.2.1
    go_wp2_with fail
    refine (refBack_any ul uh false lo hi hy 1 v _ hok).mono ?_
    rintro e w4 ⟨rfl, b4⟩
    rw [HB.out]
    have fr4 := fr3.below b4
    clear b4 fr3 l1 l2 l3 l4 l5 l6 c1 c2 z1 z2 f1 f2
    obtain ⟨l1, l2, l3, l4, l5, l6⟩ := of6 fr4.1
    obtain ⟨c1, c2⟩ := of2 fr4.2.1
    obtain ⟨z1, z2⟩ := of2 fr4.2.2.1
    obtain ⟨f1, f2⟩ := thaw2 fr4.2.2.1
    have fr9 := fr4.put (.int .i64 0) (.bool wt)
    clear fr4
    go_wp2
    (try simp only [Exit.inBlock, Exit.then])
    show bodyPost _ _ _ _ _ (put2 w4 (w.heap.size + 1 + 1) (.int .i64 0) (.bool wt))
    generalize put2 w4 (w.heap.size + 1 + 1) (.int .i64 0) (.bool wt) = w9 at *
    clear l1 l2 l3 l4 l5 l6 c1 c2 z1 z2 f1 f2
    obtain ⟨z1, z2⟩ := of2 fr9.2.2.1
    refine bodyPost_ret (v := .tuple #[.agg #[.int .i64 0, .bool wt], .int .i64 3]) (by simp [results, Try.results11, go_sem, z1, z2]) rfl ?_
    exact ⟨by rw [HS.out]; rfl, fr9.bel⟩

set_option maxHeartbeats 1000000 in
theorem rs_lat1 (ul uh : Bool) (lo hi hy : Int) (v : Int) (hok : okL ⟨ul, uh, true, lo, hi, hy⟩ = true) (hl : lowB ⟨ul, uh, true, lo, hi, hy⟩ v = false) (hh : highB ⟨ul, uh, true, lo, hi, hy⟩ v = false) (hb : backB ⟨ul, uh, true, lo, hi, hy⟩ 1 v = true)  (w : World) : Calls Try.prog 11 #[.agg #[.bool ul, .bool uh, .bool true, .int .i64 lo, .int .i64 hi, .int .i64 hy], .agg #[.int .i64 1, .bool true], .int .i64 v] w fun e w' => e = .returned (stepR (stepA ⟨ul, uh, true, lo, hi, hy⟩ ⟨1, true⟩ v)) ∧ Below w.heap.size w w' := by
    have fr := Box3.new w (.cells #[.bool ul, .bool uh, .bool true, .int .i64 lo, .int .i64 hi, .int .i64 hy] 23) (.cells #[.int .i64 1, .bool true] 25) (.cells #[.int .i64 0, .bool false] 25)
    have HS := Lib.hid (stepA_stay (l := ⟨ul, uh, true, lo, hi, hy⟩) (a := ⟨1, true⟩) (v := v) hok rfl hl hh (.inr ⟨rfl, rfl⟩))
    have HC := Lib.hid (chkL_ok hok)
    have HL := Lib.hid (hl)
    have HH := Lib.hid (hh)
    have HB := Lib.hid (hb)
    go_enter Try.func11, Try.ntmps11
    go_wp2_with fail
    refine (refCheck8_any ul uh true lo hi hy _).mono ?_
    rintro e w1 ⟨rfl, b1⟩
    rw [HC.out]
    have fr1 := fr.below b1
    clear b1 fr
    obtain ⟨l1, l2, l3, l4, l5, l6⟩ := of6 fr1.1
    obtain ⟨c1, c2⟩ := of2 fr1.2.1
    obtain ⟨z1, z2⟩ := of2 fr1.2.2.1
    obtain ⟨f1, f2⟩ := thaw2 fr1.2.2.1
    go_wp2_with fail
    refine (refIsLow_any ul uh true lo hi hy v _).mono ?_
    rintro e w2 ⟨rfl, b2⟩
    rw [HL.out]
    have fr2 := fr1.below b2
    clear b2 fr1 l1 l2 l3 l4 l5 l6 c1 c2 z1 z2 f1 f2
    obtain ⟨l1, l2, l3, l4, l5, l6⟩ := of6 fr2.1
    obtain ⟨c1, c2⟩ := of2 fr2.2.1
    obtain ⟨z1, z2⟩ := of2 fr2.2.2.1
    obtain ⟨f1, f2⟩ := thaw2 fr2.2.2.1
    go_wp2_with fail
    refine (refIsHigh_any ul uh true lo hi hy v _).mono ?_
    rintro e w3 ⟨rfl, b3⟩
    rw [HH.out]
    have fr3 := fr2.below b3
    clear b3 fr2 l1 l2 l3 l4 l5 l6 c1 c2 z1 z2 f1 f2
    obtain ⟨l1, l2, l3, l4, l5, l6⟩ := of6 fr3.1
    obtain ⟨c1, c2⟩ := of2 fr3.2.1
    obtain ⟨z1, z2⟩ := of2 fr3.2.2.1
    obtain ⟨f1, f2⟩ := thaw2 fr3.2.2.1
    go_wp2_with fail
    refine (refBack_any ul uh true lo hi hy 1 v _ hok).mono ?_
    rintro e w4 ⟨rfl, b4⟩
    rw [HB.out]
    have fr4 := fr3.below b4
    clear b4 fr3 l1 l2 l3 l4 l5 l6 c1 c2 z1 z2 f1 f2
    obtain ⟨l1, l2, l3, l4, l5, l6⟩ := of6 fr4.1
    obtain ⟨c1, c2⟩ := of2 fr4.2.1
    obtain ⟨z1, z2⟩ := of2 fr4.2.2.1
    obtain ⟨f1, f2⟩ := thaw2 fr4.2.2.1
    have fr9 := fr4.put (.int .i64 1) (.bool true)
    clear fr4
    go_wp2
    (try simp only [Exit.inBlock, Exit.then])
    show bodyPost _ _ _ _ _ (put2 w4 (w.heap.size + 1 + 1) (.int .i64 1) (.bool true))
    generalize put2 w4 (w.heap.size + 1 + 1) (.int .i64 1) (.bool true) = w9 at *
    clear l1 l2 l3 l4 l5 l6 c1 c2 z1 z2 f1 f2
    obtain ⟨z1, z2⟩ := of2 fr9.2.2.1
    refine bodyPost_ret (v := .tuple #[.agg #[.int .i64 1, .bool true], .int .i64 0]) (by simp [results, Try.results11, go_sem, z1, z2]) rfl ?_
    exact ⟨by rw [HS.out]; rfl, fr9.bel⟩

set_option maxHeartbeats 1000000 in
theorem rs_free1 (ul uh : Bool) (lo hi hy : Int) (v : Int) (hok : okL ⟨ul, uh, true, lo, hi, hy⟩ = true) (hl : lowB ⟨ul, uh, true, lo, hi, hy⟩ v = false) (hh : highB ⟨ul, uh, true, lo, hi, hy⟩ v = false) (hb : backB ⟨ul, uh, true, lo, hi, hy⟩ 1 v = true)  (w : World) : Calls Try.prog 11 #[.agg #[.bool ul, .bool uh, .bool true, .int .i64 lo, .int .i64 hi, .int .i64 hy], .agg #[.int .i64 1, .bool false], .int .i64 v] w fun e w' => e = .returned (stepR (stepA ⟨ul, uh, true, lo, hi, hy⟩ ⟨1, false⟩ v)) ∧ Below w.heap.size w w' := by
    have fr := Box3.new w (.cells #[.bool ul, .bool uh, .bool true, .int .i64 lo, .int .i64 hi, .int .i64 hy] 23) (.cells #[.int .i64 1, .bool false] 25) (.cells #[.int .i64 0, .bool false] 25)
    have HS := Lib.hid (stepA_back (l := ⟨ul, uh, true, lo, hi, hy⟩) (a := ⟨1, false⟩) (v := v) hok rfl hl hh hb (.inr rfl))
    have HC := Lib.hid (chkL_ok hok)
    have HL := Lib.hid (hl)
    have HH := Lib.hid (hh)
    have HB := Lib.hid (hb)
    go_enter Try.func11, Try.ntmps11
    go_wp2_with fail
    refine (refCheck8_any ul uh true lo hi hy _).mono ?_
    rintro e w1 ⟨rfl, b1⟩
    rw [HC.out]
    have fr1 := fr.below b1
    clear b1 fr
    obtain ⟨l1, l2, l3, l4, l5, l6⟩ := of6 fr1.1
    obtain ⟨c1, c2⟩ := of2 fr1.2.1
    obtain ⟨z1, z2⟩ := of2 fr1.2.2.1
    obtain ⟨f1, f2⟩ := thaw2 fr1.2.2.1
    go_wp2_with fail
    refine (refIsLow_any ul uh true lo hi hy v _).mono ?_
    rintro e w2 ⟨rfl, b2⟩
    rw [HL.out]
    have fr2 := fr1.below b2
    clear b2 fr1 l1 l2 l3 l4 l5 l6 c1 c2 z1 z2 f1 f2
    obtain ⟨l1, l2, l3, l4, l5, l6⟩ := of6 fr2.1
    obtain ⟨c1, c2⟩ := of2 fr2.2.1
    obtain ⟨z1, z2⟩ := of2 fr2.2.2.1
    obtain ⟨f1, f2⟩ := thaw2 fr2.2.2.1
    go_wp2_with fail
    refine (refIsHigh_any ul uh true lo hi hy v _).mono ?_
    rintro e w3 ⟨rfl, b3⟩
    rw [HH.out]
    have fr3 := fr2.below b3
    clear b3 fr2 l1 l2 l3 l4 l5 l6 c1 c2 z1 z2 f1 f2
    obtain ⟨l1, l2, l3, l4, l5, l6⟩ := of6 fr3.1
    obtain ⟨c1, c2⟩ := of2 fr3.2.1
    obtain ⟨z1, z2⟩ := of2 fr3.2.2.1
    obtain ⟨f1, f2⟩ := thaw2 fr3.2.2.1
    go_wp2_with fail
    refine (refBack_any ul uh true lo hi hy 1 v _ hok).mono ?_
    rintro e w4 ⟨rfl, b4⟩
    rw [HB.out]
    have fr4 := fr3.below b4
    clear b4 fr3 l1 l2 l3 l4 l5 l6 c1 c2 z1 z2 f1 f2
    obtain ⟨l1, l2, l3, l4, l5, l6⟩ := of6 fr4.1
    obtain ⟨c1, c2⟩ := of2 fr4.2.1
    obtain ⟨z1, z2⟩ := of2 fr4.2.2.1
    obtain ⟨f1, f2⟩ := thaw2 fr4.2.2.1
    have fr9 := fr4.put (.int .i64 0) (.bool false)
    clear fr4
    go_wp2
    (try simp only [Exit.inBlock, Exit.then])
    show bodyPost _ _ _ _ _ (put2 w4 (w.heap.size + 1 + 1) (.int .i64 0) (.bool false))
    generalize put2 w4 (w.heap.size + 1 + 1) (.int .i64 0) (.bool false) = w9 at *
    clear l1 l2 l3 l4 l5 l6 c1 c2 z1 z2 f1 f2
    obtain ⟨z1, z2⟩ := of2 fr9.2.2.1
    refine bodyPost_ret (v := .tuple #[.agg #[.int .i64 0, .bool false], .int .i64 3]) (by simp [results, Try.results11, go_sem, z1, z2]) rfl ?_
    exact ⟨by rw [HS.out]; rfl, fr9.bel⟩

set_option maxHeartbeats 1000000 in
theorem rs_low2 (ul uh la : Bool) (lo hi hy : Int) (wt : Bool) (v : Int) (hok : okL ⟨ul, uh, la, lo, hi, hy⟩ = true) (hl : lowB ⟨ul, uh, la, lo, hi, hy⟩ v = true) (w : World) : Calls Try.prog 11 #[.agg #[.bool ul, .bool uh, .bool la, .int .i64 lo, .int .i64 hi, .int .i64 hy], .agg #[.int .i64 2, .bool wt], .int .i64 v] w fun e w' => e = .returned (stepR (stepA ⟨ul, uh, la, lo, hi, hy⟩ ⟨2, wt⟩ v)) ∧ Below w.heap.size w w' := by
    have fr := Box3.new w (.cells #[.bool ul, .bool uh, .bool la, .int .i64 lo, .int .i64 hi, .int .i64 hy] 23) (.cells #[.int .i64 2, .bool wt] 25) (.cells #[.int .i64 0, .bool false] 25)
    have HS := Lib.hid (stepA_low (l := ⟨ul, uh, la, lo, hi, hy⟩) (a := ⟨2, wt⟩) (v := v) hok rfl (by simp) hl)
    have HC := Lib.hid (chkL_ok hok)
    have HL := Lib.hid (hl)
    go_enter Try.func11, Try.ntmps11
    go_wp2_with fail
    refine (refCheck8_any ul uh la lo hi hy _).mono ?_
    rintro e w1 ⟨rfl, b1⟩
    rw [HC.out]
    have fr1 := fr.below b1
    clear b1 fr
    obtain ⟨l1, l2, l3, l4, l5, l6⟩ := of6 fr1.1
    obtain ⟨c1, c2⟩ := of2 fr1.2.1
    obtain ⟨z1, z2⟩ := of2 fr1.2.2.1
    obtain ⟨f1, f2⟩ := thaw2 fr1.2.2.1
    go_wp2_with fail
    refine (refIsLow_any ul uh la lo hi hy v _).mono ?_
    rintro e w2 ⟨rfl, b2⟩
    rw [HL.out]
    have fr2 := fr1.below b2
    clear b2 fr1 l1 l2 l3 l4 l5 l6 c1 c2 z1 z2 f1 f2
    obtain ⟨l1, l2, l3, l4, l5, l6⟩ := of6 fr2.1
    obtain ⟨c1, c2⟩ := of2 fr2.2.1
    obtain ⟨z1, z2⟩ := of2 fr2.2.2.1
    obtain ⟨f1, f2⟩ := thaw2 fr2.2.2.1
    have fr9 := fr2.put (.int .i64 1) (.bool true)
    clear fr2
    go_wp2
    (try simp only [Exit.inBlock, Exit.then])
    show bodyPost _ _ _ _ _ (put2 w2 (w.heap.size + 1 + 1) (.int .i64 1) (.bool true))
    generalize put2 w2 (w.heap.size + 1 + 1) (.int .i64 1) (.bool true) = w9 at *
    clear l1 l2 l3 l4 l5 l6 c1 c2 z1 z2 f1 f2
    obtain ⟨z1, z2⟩ := of2 fr9.2.2.1
    refine bodyPost_ret (v := .tuple #[.agg #[.int .i64 1, .bool true], .int .i64 1]) (by simp [results, Try.results11, go_sem, z1, z2]) rfl ?_
    exact ⟨by rw [HS.out]; rfl, fr9.bel⟩

set_option maxHeartbeats 1000000 in
theorem rs_high2 (ul uh la : Bool) (lo hi hy : Int) (wt : Bool) (v : Int) (hok : okL ⟨ul, uh, la, lo, hi, hy⟩ = true) (hl : lowB ⟨ul, uh, la, lo, hi, hy⟩ v = false) (hh : highB ⟨ul, uh, la, lo, hi, hy⟩ v = true) (w : World) : Calls Try.prog 11 #[.agg #[.bool ul, .bool uh, .bool la, .int .i64 lo, .int .i64 hi, .int .i64 hy], .agg #[.int .i64 2, .bool wt], .int .i64 v] w fun e w' => e = .returned (stepR (stepA ⟨ul, uh, la, lo, hi, hy⟩ ⟨2, wt⟩ v)) ∧ Below w.heap.size w w' := by
    have fr := Box3.new w (.cells #[.bool ul, .bool uh, .bool la, .int .i64 lo, .int .i64 hi, .int .i64 hy] 23) (.cells #[.int .i64 2, .bool wt] 25) (.cells #[.int .i64 0, .bool false] 25)
    have HS := Lib.hid (stepA_high2 (l := ⟨ul, uh, la, lo, hi, hy⟩) (a := ⟨2, wt⟩) (v := v) hok rfl hl hh)
    have HC := Lib.hid (chkL_ok hok)
    have HL := Lib.hid (hl)
    have HH := Lib.hid (hh)
    go_enter Try.func11, Try.ntmps11
    go_wp2_with fail
    refine (refCheck8_any ul uh la lo hi hy _).mono ?_
    rintro e w1 ⟨rfl, b1⟩
    rw [HC.out]
    have fr1 := fr.below b1
    clear b1 fr
    obtain ⟨l1, l2, l3, l4, l5, l6⟩ := of6 fr1.1
    obtain ⟨c1, c2⟩ := of2 fr1.2.1
    obtain ⟨z1, z2⟩ := of2 fr1.2.2.1
    obtain ⟨f1, f2⟩ := thaw2 fr1.2.2.1
    go_wp2_with fail
    refine (refIsLow_any ul uh la lo hi hy v _).mono ?_
    rintro e w2 ⟨rfl, b2⟩
    rw [HL.out]
    have fr2 := fr1.below b2
    clear b2 fr1 l1 l2 l3 l4 l5 l6 c1 c2 z1 z2 f1 f2
    obtain ⟨l1, l2, l3, l4, l5, l6⟩ := of6 fr2.1
    obtain ⟨c1, c2⟩ := of2 fr2.2.1
    obtain ⟨z1, z2⟩ := of2 fr2.2.2.1
    obtain ⟨f1, f2⟩ := thaw2 fr2.2.2.1
    go_wp2_with fail
    refine (refIsHigh_any ul uh la lo hi hy v _).mono ?_
    rintro e w3 ⟨rfl, b3⟩
    rw [HH.out]
    have fr3 := fr2.below b3
    clear b3 fr2 l1 l2 l3 l4 l5 l6 c1 c2 z1 z2 f1 f2
    obtain ⟨l1, l2, l3, l4, l5, l6⟩ := of6 fr3.1
    obtain ⟨c1, c2⟩ := of2 fr3.2.1
    obtain ⟨z1, z2⟩ := of2 fr3.2.2.1
    obtain ⟨f1, f2⟩ := thaw2 fr3.2.2.1
    have fr9 := fr3.put (.int .i64 2) (.bool wt)
    clear fr3
    go_wp2
    (try simp only [Exit.inBlock, Exit.then])
    show bodyPost _ _ _ _ _ (put2 w3 (w.heap.size + 1 + 1) (.int .i64 2) (.bool wt))
    generalize put2 w3 (w.heap.size + 1 + 1) (.int .i64 2) (.bool wt) = w9 at *
    clear l1 l2 l3 l4 l5 l6 c1 c2 z1 z2 f1 f2
    obtain ⟨z1, z2⟩ := of2 fr9.2.2.1
    refine bodyPost_ret (v := .tuple #[.agg #[.int .i64 2, .bool wt], .int .i64 0]) (by simp [results, Try.results11, go_sem, z1, z2]) rfl ?_
    exact ⟨by rw [HS.out]; rfl, fr9.bel⟩

set_option maxHeartbeats 1000000 in
theorem rs_not2 (ul uh la : Bool) (lo hi hy : Int) (wt : Bool) (v : Int) (hok : okL ⟨ul, uh, la, lo, hi, hy⟩ = true) (hl : lowB ⟨ul, uh, la, lo, hi, hy⟩ v = false) (hh : highB ⟨ul, uh, la, lo, hi, hy⟩ v = false) (hb : backB ⟨ul, uh, la, lo, hi, hy⟩ 2 v = false) (w : World) : Calls Try.prog 11 #[.agg #[.bool ul, .bool uh, .bool la, .int .i64 lo, .int .i64 hi, .int .i64 hy], .agg #[.int .i64 2, .bool wt], .int .i64 v] w fun e w' => e = .returned (stepR (stepA ⟨ul, uh, la, lo, hi, hy⟩ ⟨2, wt⟩ v)) ∧ Below w.heap.size w w' := by
    have fr := Box3.new w (.cells #[.bool ul, .bool uh, .bool la, .int .i64 lo, .int .i64 hi, .int .i64 hy] 23) (.cells #[.int .i64 2, .bool wt] 25) (.cells #[.int .i64 0, .bool false] 25)
    have HS := Lib.hid (stepA_stay (l := ⟨ul, uh, la, lo, hi, hy⟩) (a := ⟨2, wt⟩) (v := v) hok rfl hl hh (.inl hb))
    have HC := Lib.hid (chkL_ok hok)
    have HL := Lib.hid (hl)
    have HH := Lib.hid (hh)
    have HB := Lib.hid (hb)
    go_enter Try.func11, Try.ntmps11
    go_wp2_with fail
    refine (refCheck8_any ul uh la lo hi hy _).mono ?_
    rintro e w1 ⟨rfl, b1⟩
    rw [HC.out]
    have fr1 := fr.below b1
    clear b1 fr
    obtain ⟨l1, l2, l3, l4, l5, l6⟩ := of6 fr1.1
    obtain ⟨c1, c2⟩ := of2 fr1.2.1
    obtain ⟨z1, z2⟩ := of2 fr1.2.2.1
    obtain ⟨f1, f2⟩ := thaw2 fr1.2.2.1
    go_wp2_with fail
    refine (refIsLow_any ul uh la lo hi hy v _).mono ?_
    rintro e w2 ⟨rfl, b2⟩
    rw [HL.out]
    have fr2 := fr1.below b2
    clear b2 fr1 l1 l2 l3 l4 l5 l6 c1 c2 z1 z2 f1 f2
    obtain ⟨l1, l2, l3, l4, l5, l6⟩ := of6 fr2.1
    obtain ⟨c1, c2⟩ := of2 fr2.2.1
    obtain ⟨z1, z2⟩ := of2 fr2.2.2.1
    obtain ⟨f1, f2⟩ := thaw2 fr2.2.2.1
    go_wp2_with fail
    refine (refIsHigh_any ul uh la lo hi hy v _).mono ?_
    rintro e w3 ⟨rfl, b3⟩
    rw [HH.out]
    have fr3 := fr2.below b3
    clear b3 fr2 l1 l2 l3 l4 l5 l6 c1 c2 z1 z2 f1 f2
    obtain ⟨l1, l2, l3, l4, l5, l6⟩ := of6 fr3.1
    obtain ⟨c1, c2⟩ := of2 fr3.2.1
    obtain ⟨z1, z2⟩ := of2 fr3.2.2.1
    obtain ⟨f1, f2⟩ := thaw2 fr3.2.2.1
    go_wp2_with fail
    refine (refBack_any ul uh la lo hi hy 2 v _ hok).mono ?_
    rintro e w4 ⟨rfl, b4⟩
    rw [HB.out]
    have fr4 := fr3.below b4
    clear b4 fr3 l1 l2 l3 l4 l5 l6 c1 c2 z1 z2 f1 f2
    obtain ⟨l1, l2, l3, l4, l5, l6⟩ := of6 fr4.1
    obtain ⟨c1, c2⟩ := of2 fr4.2.1
    obtain ⟨z1, z2⟩ := of2 fr4.2.2.1
    obtain ⟨f1, f2⟩ := thaw2 fr4.2.2.1
    have fr9 := fr4.put (.int .i64 2) (.bool wt)
    clear fr4
    go_wp2
    (try simp only [Exit.inBlock, Exit.then])
    show bodyPost _ _ _ _ _ (put2 w4 (w.heap.size + 1 + 1) (.int .i64 2) (.bool wt))
    generalize put2 w4 (w.heap.size + 1 + 1) (.int .i64 2) (.bool wt) = w9 at *
    clear l1 l2 l3 l4 l5 l6 c1 c2 z1 z2 f1 f2
    obtain ⟨z1, z2⟩ := of2 fr9.2.2.1
    refine bodyPost_ret (v := .tuple #[.agg #[.int .i64 2, .bool wt], .int .i64 0]) (by simp [results, Try.results11, go_sem, z1, z2]) rfl ?_
    exact ⟨by rw [HS.out]; rfl, fr9.bel⟩

set_option maxHeartbeats 1000000 in
theorem rs_back2 (ul uh : Bool) (lo hi hy : Int) (wt : Bool) (v : Int) (hok : okL ⟨ul, uh, false, lo, hi, hy⟩ = true) (hl : lowB ⟨ul, uh, false, lo, hi, hy⟩ v = false) (hh : highB ⟨ul, uh, false, lo, hi, hy⟩ v = false) (hb : backB ⟨ul, uh, false, lo, hi, hy⟩ 2 v = true)  (w : World) : Calls Try.prog 11 #[.agg #[.bool ul, .bool uh, .bool false, .int .i64 lo, .int .i64 hi, .int .i64 hy], .agg #[.int .i64 2, .bool wt], .int .i64 v] w fun e w' => e = .returned (stepR (stepA ⟨ul, uh, false, lo, hi, hy⟩ ⟨2, wt⟩ v)) ∧ Below w.heap.size w w' := by
    have fr := Box3.new w (.cells #[.bool ul, .bool uh, .bool false, .int .i64 lo, .int .i64 hi, .int .i64 hy] 23) (.cells #[.int .i64 2, .bool wt] 25) (.cells #[.int .i64 0, .bool false] 25)
    have HS := Lib.hid (stepA_back (l := ⟨ul, uh, false, lo, hi, hy⟩) (a := ⟨2, wt⟩) (v := v) hok rfl hl hh hb (.inl rfl))
    have HC := Lib.hid (chkL_ok hok)
    have HL := Lib.hid (hl)
    have HH := Lib.hid (hh)
    have HB := Lib.hid (hb)
    go_enter Try.func11, Try.ntmps11
    go_wp2_with fail
    refine (refCheck8_any ul uh false lo hi hy _).mono ?_
    rintro e w1 ⟨rfl, b1⟩
    rw [HC.out]
    have fr1 := fr.below b1
    clear b1 fr
    obtain ⟨l1, l2, l3, l4, l5, l6⟩ := of6 fr1.1
    obtain ⟨c1, c2⟩ := of2 fr1.2.1
    obtain ⟨z1, z2⟩ := of2 fr1.2.2.1
    obtain ⟨f1, f2⟩ := thaw2 fr1.2.2.1
    go_wp2_with fail
    refine (refIsLow_any ul uh false lo hi hy v _).mono ?_
    rintro e w2 ⟨rfl, b2⟩
    rw [HL.out]
    have fr2 := fr1.below b2
    clear b2 fr1 l1 l2 l3 l4 l5 l6 c1 c2 z1 z2 f1 f2
    obtain ⟨l1, l2, l3, l4, l5, l6⟩ := of6 fr2.1
    obtain ⟨c1, c2⟩ := of2 fr2.2.1
    obtain ⟨z1, z2⟩ := of2 fr2.2.2.1
    obtain ⟨f1, f2⟩ := thaw2 fr2.2.2.1
    go_wp2_with fail
    refine (refIsHigh_any ul uh false lo hi hy v _).mono ?_
    rintro e w3 ⟨rfl, b3⟩
    rw [HH.out]
    have fr3 := fr2.below b3
    clear b3 fr2 l1 l2 l3 l4 l5 l6 c1 c2 z1 z2 f1 f2
    obtain ⟨l1, l2, l3, l4, l5, l6⟩ := of6 fr3.1
    obtain ⟨c1, c2⟩ := of2 fr3.2.1
    obtain ⟨z1, z2⟩ := of2 fr3.2.2.1
    obtain ⟨f1, f2⟩ := thaw2 fr3.2.2.1
    go_wp2_with fail
    refine (refBack_any ul uh false lo hi hy 2 v _ hok).mono ?_
    rintro e w4 ⟨rfl, b4⟩
    rw [HB.out]
    have fr4 := fr3.below b4
    clear b4 fr3 l1 l2 l3 l4 l5 l6 c1 c2 z1 z2 f1 f2
    obtain ⟨l1, l2, l3, l4, l5, l6⟩ := of6 fr4.1
    obtain ⟨c1, c2⟩ := of2 fr4.2.1
    obtain ⟨z1, z2⟩ := of2 fr4.2.2.1
    obtain ⟨f1, f2⟩ := thaw2 fr4.2.2.1
    have fr9 := fr4.put (.int .i64 0) (.bool wt)
    clear fr4
    go_wp2
    (try simp only [Exit.inBlock, Exit.then])
    show bodyPost _ _ _ _ _ (put2 w4 (w.heap.size + 1 + 1) (.int .i64 0) (.bool wt))
    generalize put2 w4 (w.heap.size + 1 + 1) (.int .i64 0) (.bool wt) = w9 at *
    clear l1 l2 l3 l4 l5 l6 c1 c2 z1 z2 f1 f2
    obtain ⟨z1, z2⟩ := of2 fr9.2.2.1
    refine bodyPost_ret (v := .tuple #[.agg #[.int .i64 0, .bool wt], .int .i64 3]) (by simp [results, Try.results11, go_sem, z1, z2]) rfl ?_
    exact ⟨by rw [HS.out]; rfl, fr9.bel⟩

set_option maxHeartbeats 1000000 in
theorem rs_lat2 (ul uh : Bool) (lo hi hy : Int) (v : Int) (hok : okL ⟨ul, uh, true, lo, hi, hy⟩ = true) (hl : lowB ⟨ul, uh, true, lo, hi, hy⟩ v = false) (hh : highB ⟨ul, uh, true, lo, hi, hy⟩ v = false) (hb : backB ⟨ul, uh, true, lo, hi, hy⟩ 2 v = true)  (w : World) : Calls Try.prog 11 #[.agg #[.bool ul, .bool uh, .bool true, .int .i64 lo, .int .i64 hi, .int .i64 hy], .agg #[.int .i64 2, .bool true], .int .i64 v] w fun e w' => e = .returned (stepR (stepA ⟨ul, uh, true, lo, hi, hy⟩ ⟨2, true⟩ v)) ∧ Below w.heap.size w w' := by
    have fr := Box3.new w (.cells #[.bool ul, .bool uh, .bool true, .int .i64 lo, .int .i64 hi, .int .i64 hy] 23) (.cells #[.int .i64 2, .bool true] 25) (.cells #[.int .i64 0, .bool false] 25)
    have HS := Lib.hid (stepA_stay (l := ⟨ul, uh, true, lo, hi, hy⟩) (a := ⟨2, true⟩) (v := v) hok rfl hl hh (.inr ⟨rfl, rfl⟩))
    have HC := Lib.hid (chkL_ok hok)
    have HL := Lib.hid (hl)
    have HH := Lib.hid (hh)
    have HB := Lib.hid (hb)
    go_enter Try.func11, Try.ntmps11
    go_wp2_with fail
    refine (refCheck8_any ul uh true lo hi hy _).mono ?_
    rintro e w1 ⟨rfl, b1⟩
    rw [HC.out]
    have fr1 := fr.below b1
    clear b1 fr
    obtain ⟨l1, l2, l3, l4, l5, l6⟩ := of6 fr1.1
    obtain ⟨c1, c2⟩ := of2 fr1.2.1
    obtain ⟨z1, z2⟩ := of2 fr1.2.2.1
    obtain ⟨f1, f2⟩ := thaw2 fr1.2.2.1
    go_wp2_with fail
    refine (refIsLow_any ul uh true lo hi hy v _).mono ?_
    rintro e w2 ⟨rfl, b2⟩
    rw [HL.out]
    have fr2 := fr1.below b2
    clear b2 fr1 l1 l2 l3 l4 l5 l6 c1 c2 z1 z2 f1 f2
    obtain ⟨l1, l2, l3, l4, l5, l6⟩ := of6 fr2.1
    obtain ⟨c1, c2⟩ := of2 fr2.2.1
    obtain ⟨z1, z2⟩ := of2 fr2.2.2.1
    obtain ⟨f1, f2⟩ := thaw2 fr2.2.2.1
    go_wp2_with fail
    refine (refIsHigh_any ul uh true lo hi hy v _).mono ?_
    rintro e w3 ⟨rfl, b3⟩
    rw [HH.out]
    have fr3 := fr2.below b3
    clear b3 fr2 l1 l2 l3 l4 l5 l6 c1 c2 z1 z2 f1 f2
    obtain ⟨l1, l2, l3, l4, l5, l6⟩ := of6 fr3.1
    obtain ⟨c1, c2⟩ := of2 fr3.2.1
    obtain ⟨z1, z2⟩ := of2 fr3.2.2.1
    obtain ⟨f1, f2⟩ := thaw2 fr3.2.2.1
    go_wp2_with fail
    refine (refBack_any ul uh true lo hi hy 2 v _ hok).mono ?_
    rintro e w4 ⟨rfl, b4⟩
    rw [HB.out]
    have fr4 := fr3.below b4
    clear b4 fr3 l1 l2 l3 l4 l5 l6 c1 c2 z1 z2 f1 f2
    obtain ⟨l1, l2, l3, l4, l5, l6⟩ := of6 fr4.1
    obtain ⟨c1, c2⟩ := of2 fr4.2.1
    obtain ⟨z1, z2⟩ := of2 fr4.2.2.1
    obtain ⟨f1, f2⟩ := thaw2 fr4.2.2.1
    have fr9 := fr4.put (.int .i64 2) (.bool true)
    clear fr4
    go_wp2
    (try simp only [Exit.inBlock, Exit.then])
    show bodyPost _ _ _ _ _ (put2 w4 (w.heap.size + 1 + 1) (.int .i64 2) (.bool true))
    generalize put2 w4 (w.heap.size + 1 + 1) (.int .i64 2) (.bool true) = w9 at *
    clear l1 l2 l3 l4 l5 l6 c1 c2 z1 z2 f1 f2
    obtain ⟨z1, z2⟩ := of2 fr9.2.2.1
    refine bodyPost_ret (v := .tuple #[.agg #[.int .i64 2, .bool true], .int .i64 0]) (by simp [results, Try.results11, go_sem, z1, z2]) rfl ?_
    exact ⟨by rw [HS.out]; rfl, fr9.bel⟩

set_option maxHeartbeats 1000000 in
theorem rs_free2 (ul uh : Bool) (lo hi hy : Int) (v : Int) (hok : okL ⟨ul, uh, true, lo, hi, hy⟩ = true) (hl : lowB ⟨ul, uh, true, lo, hi, hy⟩ v = false) (hh : highB ⟨ul, uh, true, lo, hi, hy⟩ v = false) (hb : backB ⟨ul, uh, true, lo, hi, hy⟩ 2 v = true)  (w : World) : Calls Try.prog 11 #[.agg #[.bool ul, .bool uh, .bool true, .int .i64 lo, .int .i64 hi, .int .i64 hy], .agg #[.int .i64 2, .bool false], .int .i64 v] w fun e w' => e = .returned (stepR (stepA ⟨ul, uh, true, lo, hi, hy⟩ ⟨2, false⟩ v)) ∧ Below w.heap.size w w' := by
    have fr := Box3.new w (.cells #[.bool ul, .bool uh, .bool true, .int .i64 lo, .int .i64 hi, .int .i64 hy] 23) (.cells #[.int .i64 2, .bool false] 25) (.cells #[.int .i64 0, .bool false] 25)
    have HS := Lib.hid (stepA_back (l := ⟨ul, uh, true, lo, hi, hy⟩) (a := ⟨2, false⟩) (v := v) hok rfl hl hh hb (.inr rfl))
    have HC := Lib.hid (chkL_ok hok)
    have HL := Lib.hid (hl)
    have HH := Lib.hid (hh)
    have HB := Lib.hid (hb)
    go_enter Try.func11, Try.ntmps11
    go_wp2_with fail
    refine (refCheck8_any ul uh true lo hi hy _).mono ?_
    rintro e w1 ⟨rfl, b1⟩
    rw [HC.out]
    have fr1 := fr.below b1
    clear b1 fr
    obtain ⟨l1, l2, l3, l4, l5, l6⟩ := of6 fr1.1
    obtain ⟨c1, c2⟩ := of2 fr1.2.1
    obtain ⟨z1, z2⟩ := of2 fr1.2.2.1
    obtain ⟨f1, f2⟩ := thaw2 fr1.2.2.1
    go_wp2_with fail
    refine (refIsLow_any ul uh true lo hi hy v _).mono ?_
    rintro e w2 ⟨rfl, b2⟩
    rw [HL.out]
    have fr2 := fr1.below b2
    clear b2 fr1 l1 l2 l3 l4 l5 l6 c1 c2 z1 z2 f1 f2
    obtain ⟨l1, l2, l3, l4, l5, l6⟩ := of6 fr2.1
    obtain ⟨c1, c2⟩ := of2 fr2.2.1
    obtain ⟨z1, z2⟩ := of2 fr2.2.2.1
    obtain ⟨f1, f2⟩ := thaw2 fr2.2.2.1
    go_wp2_with fail
    refine (refIsHigh_any ul uh true lo hi hy v _).mono ?_
    rintro e w3 ⟨rfl, b3⟩
    rw [HH.out]
    have fr3 := fr2.below b3
    clear b3 fr2 l1 l2 l3 l4 l5 l6 c1 c2 z1 z2 f1 f2
    obtain ⟨l1, l2, l3, l4, l5, l6⟩ := of6 fr3.1
    obtain ⟨c1, c2⟩ := of2 fr3.2.1
    obtain ⟨z1, z2⟩ := of2 fr3.2.2.1
    obtain ⟨f1, f2⟩ := thaw2 fr3.2.2.1
    go_wp2_with fail
    refine (refBack_any ul uh true lo hi hy 2 v _ hok).mono ?_
    rintro e w4 ⟨rfl, b4⟩
    rw [HB.out]
    have fr4 := fr3.below b4
    clear b4 fr3 l1 l2 l3 l4 l5 l6 c1 c2 z1 z2 f1 f2
    obtain ⟨l1, l2, l3, l4, l5, l6⟩ := of6 fr4.1
    obtain ⟨c1, c2⟩ := of2 fr4.2.1
    obtain ⟨z1, z2⟩ := of2 fr4.2.2.1
    obtain ⟨f1, f2⟩ := thaw2 fr4.2.2.1
    have fr9 := fr4.put (.int .i64 0) (.bool false)
    clear fr4
    go_wp2
    (try simp only [Exit.inBlock, Exit.then])
    show bodyPost _ _ _ _ _ (put2 w4 (w.heap.size + 1 + 1) (.int .i64 0) (.bool false))
    generalize put2 w4 (w.heap.size + 1 + 1) (.int .i64 0) (.bool false) = w9 at *
    clear l1 l2 l3 l4 l5 l6 c1 c2 z1 z2 f1 f2
    obtain ⟨z1, z2⟩ := of2 fr9.2.2.1
    refine bodyPost_ret (v := .tuple #[.agg #[.int .i64 0, .bool false], .int .i64 3]) (by simp [results, Try.results11, go_sem, z1, z2]) rfl ?_
    exact ⟨by rw [HS.out]; rfl, fr9.bel⟩

theorem refStep8_any (ul uh la : Bool) (lo hi hy : Int) (st : Int) (wt : Bool) (v : Int) (w : World) : Calls Try.prog 11 #[.agg #[.bool ul, .bool uh, .bool la, .int .i64 lo, .int .i64 hi, .int .i64 hy], .agg #[.int .i64 st, .bool wt], .int .i64 v] w fun e w' => e = .returned (stepR (stepA ⟨ul, uh, la, lo, hi, hy⟩ ⟨st, wt⟩ v)) ∧ Below w.heap.size w w' := by
  cases hok : okL ⟨ul, uh, la, lo, hi, hy⟩
  · exact rs_bad ul uh la lo hi hy st wt v hok w
  by_cases h0 : st = 0
  · subst h0
    cases hl : lowB ⟨ul, uh, la, lo, hi, hy⟩ v
    · cases hh : highB ⟨ul, uh, la, lo, hi, hy⟩ v
      · exact rs_not0 ul uh la lo hi hy wt v hok hl hh rfl w
      · exact rs_high0 ul uh la lo hi hy wt v hok hl hh w
    · exact rs_low0 ul uh la lo hi hy wt v hok hl w
  by_cases h1 : st = 1
  · subst h1
    cases hl : lowB ⟨ul, uh, la, lo, hi, hy⟩ v
    · cases hh : highB ⟨ul, uh, la, lo, hi, hy⟩ v
      · cases hb : backB ⟨ul, uh, la, lo, hi, hy⟩ 1 v
        · exact rs_not1 ul uh la lo hi hy wt v hok hl hh hb w
        · cases hla : la
          · subst hla; exact rs_back1 ul uh lo hi hy wt v hok hl hh hb w
          · subst hla
            cases wt
            · exact rs_free1 ul uh lo hi hy v hok hl hh hb w
            · exact rs_lat1 ul uh lo hi hy v hok hl hh hb w
      · exact rs_high1 ul uh la lo hi hy wt v hok hl hh w
    · exact rs_low1 ul uh la lo hi hy wt v hok hl w
  by_cases h2 : st = 2
  · subst h2
    cases hl : lowB ⟨ul, uh, la, lo, hi, hy⟩ v
    · cases hh : highB ⟨ul, uh, la, lo, hi, hy⟩ v
      · cases hb : backB ⟨ul, uh, la, lo, hi, hy⟩ 2 v
        · exact rs_not2 ul uh la lo hi hy wt v hok hl hh hb w
        · cases hla : la
          · subst hla; exact rs_back2 ul uh lo hi hy wt v hok hl hh hb w
          · subst hla
            cases wt
            · exact rs_free2 ul uh lo hi hy v hok hl hh hb w
            · exact rs_lat2 ul uh lo hi hy v hok hl hh hb w
      · exact rs_high2 ul uh la lo hi hy wt v hok hl hh w
    · exact rs_low2 ul uh la lo hi hy wt v hok hl w
  exact rs_none ul uh la lo hi hy st wt v hok h0 h1 h2 w
end Go.Proofs.Ytlbblddpfijciaa
