/-
  Contract of the program's Step of layer 8.
-/
import Derived.Test.YtlbblddpfijciaaAlOwn
import Derived.Deep.CutRange
import Derived.LoopN
namespace Go.Proofs.Ytlbblddpfijciaa
open Go.RowKit
set_option linter.unusedVariables false

theorem stepR_mk (s : Int) (t : Bool) (n : Int) : stepR (⟨s, t⟩, n) = .tuple #[.agg #[.int .i64 s, .bool t], .int .i64 n] := rfl
theorem back_one (l : Lim) (v : Int) : backB l 1 v = leftLow l v := by
  simp [backB, leftLow]
theorem back_two (l : Lim) (v : Int) : backB l 2 v = leftHigh l v := by
  simp [backB, leftHigh]
theorem stepA_left {l : Lim} {st : Int} {wt : Bool} {v : Int} (h : okL l = true) (hs : isSt st = true) (hl : lowB l v = false) (hh : highB l v = false) (hb : backB l st v = true) : stepA l ⟨st, wt⟩ v = bif l.la && wt then (⟨st, wt⟩, 0) else (⟨0, wt⟩, 3) := by
  unfold stepA
  simp only [h, hs, hl, hh, hb, Bool.not_true, Bool.false_or, cond_false]
theorem idx0 (a b c d e f g h : Value) : ∀ w, (Instr.index 44 (.agg #[a, b, c, d, e, f, g, h]) (.int .i64 0)).run Try.prog w = .ok (.agg #[a, b, c, d]) w := fun _ => by kernel_rfl
theorem idx1 (a b c d e f g h : Value) : ∀ w, (Instr.index 44 (.agg #[a, b, c, d, e, f, g, h]) (.int .i64 1)).run Try.prog w = .ok (.agg #[e, f, g, h]) w := fun _ => by kernel_rfl
theorem of4 {w : World} {g : Nat} {a b c d : Value} {t : TypeId} (h : w.heap[g]? = some (.cells #[a, b, c, d] t (0, 0))) : w.cell? ⟨g, 0, none⟩ = some a ∧ w.cell? ⟨g, 1, none⟩ = some b ∧ w.cell? ⟨g, 2, none⟩ = some c ∧ w.cell? ⟨g, 3, none⟩ = some d :=
  ⟨cell_of_row _ _ 0 _ _ _ h, cell_of_row _ _ 1 _ _ _ h, cell_of_row _ _ 2 _ _ _ h, cell_of_row _ _ 3 _ _ _ h⟩
theorem cells_eight {w : World} {k : Nat} {a b c d e f g h : Value} {t : TypeId} (hk : w.heap[k]? = some (.cells #[a, b, c, d, e, f, g, h] t (0, 0))) :
    w.cell? ⟨k, 0, none⟩ = some a ∧ w.cell? ⟨k, 1, none⟩ = some b ∧ w.cell? ⟨k, 2, none⟩ = some c ∧ w.cell? ⟨k, 3, none⟩ = some d ∧ w.cell? ⟨k, 4, none⟩ = some e ∧ w.cell? ⟨k, 5, none⟩ = some f ∧ w.cell? ⟨k, 6, none⟩ = some g ∧ w.cell? ⟨k, 7, none⟩ = some h :=
  ⟨cell_of_row _ _ 0 _ _ _ hk, cell_of_row _ _ 1 _ _ _ hk, cell_of_row _ _ 2 _ _ _ hk, cell_of_row _ _ 3 _ _ _ hk, cell_of_row _ _ 4 _ _ _ hk, cell_of_row _ _ 5 _ _ _ hk, cell_of_row _ _ 6 _ _ _ hk, cell_of_row _ _ 7 _ _ _ hk⟩

set_option maxHeartbeats 1000000 in
theorem ps_bad (ul uh la : Bool) (lo hi hy : Int) (st : Int) (wt : Bool) (v : Int) (hok : okL ⟨ul, uh, la, lo, hi, hy⟩ = false) (w : World) : Calls Try.prog 10 #[.agg #[.bool ul, .bool uh, .bool la, .int .i64 lo, .int .i64 hi, .int .i64 hy], .agg #[.int .i64 st, .bool wt], .int .i64 v] w fun e w' => e = .returned (stepR (stepA ⟨ul, uh, la, lo, hi, hy⟩ ⟨st, wt⟩ v)) ∧ Below w.heap.size w w' := by
    have fr := Box3.new w (.cells #[.bool ul, .bool uh, .bool la, .int .i64 lo, .int .i64 hi, .int .i64 hy] 23) (.cells #[.int .i64 st, .bool wt] 25) (.cells #[.int .i64 0, .bool false] 25)
    have HS := Lib.hid (stepA_bad (l := ⟨ul, uh, la, lo, hi, hy⟩) (a := ⟨st, wt⟩) (v := v) (.inl hok))
    have HC := Lib.hid (chkL_bad hok)
    clear hok
    go_enter Try.func10, Try.ntmps10
    go_wp2_with fail
    refine (Check8_any ul uh la lo hi hy _).mono ?_
    rintro e w1 ⟨rfl, b1⟩
    rw [HC.out]
    have fr1 := fr.below b1
    clear b1 fr
    obtain ⟨l1, l2, l3, l4, l5, l6⟩ := of6 fr1.1
    obtain ⟨c1, c2⟩ := of2 fr1.2.1
    obtain ⟨z1, z2⟩ := of2 fr1.2.2.1
    obtain ⟨f1, f2⟩ := thaw2 fr1.2.2.1
    have fr9 := fr1.put (.int .i64 st) (.bool wt)
    go_wp2
    (try simp only [Exit.inBlock, Exit.then])
    show bodyPost _ _ _ _ _ (put2 w1 (w.heap.size + 1 + 1) (.int .i64 st) (.bool wt))
    generalize put2 w1 (w.heap.size + 1 + 1) (.int .i64 st) (.bool wt) = w9 at *
    clear z1 z2 f1 f2 l1 l2 l3 l4 l5 l6 c1 c2
    obtain ⟨z1, z2⟩ := of2 fr9.2.2.1
    refine bodyPost_ret (v := .tuple #[.agg #[.int .i64 st, .bool wt], .int .i64 0]) (by simp [results, Try.results10, go_sem, z1, z2]) rfl ?_
    exact ⟨by rw [HS.out]; rfl, fr9.bel⟩

set_option maxHeartbeats 1000000 in
theorem ps_none (ul uh la : Bool) (lo hi hy : Int) (st : Int) (wt : Bool) (v : Int) (hok : okL ⟨ul, uh, la, lo, hi, hy⟩ = true) (hst : isSt st = false) (w : World) : Calls Try.prog 10 #[.agg #[.bool ul, .bool uh, .bool la, .int .i64 lo, .int .i64 hi, .int .i64 hy], .agg #[.int .i64 st, .bool wt], .int .i64 v] w fun e w' => e = .returned (stepR (stepA ⟨ul, uh, la, lo, hi, hy⟩ ⟨st, wt⟩ v)) ∧ Below w.heap.size w w' := by
    have fr := Box3.new w (.cells #[.bool ul, .bool uh, .bool la, .int .i64 lo, .int .i64 hi, .int .i64 hy] 23) (.cells #[.int .i64 st, .bool wt] 25) (.cells #[.int .i64 0, .bool false] 25)
    have HS := Lib.hid (stepA_bad (l := ⟨ul, uh, la, lo, hi, hy⟩) (a := ⟨st, wt⟩) (v := v) (.inr hst))
    have HC := Lib.hid (chkL_ok hok)
    have HT := Lib.hid hst
    clear hok hst
    go_enter Try.func10, Try.ntmps10
    go_wp2_with fail
    refine (Check8_any ul uh la lo hi hy _).mono ?_
    rintro e w1 ⟨rfl, b1⟩
    rw [HC.out]
    have fr1 := fr.below b1
    clear b1 fr
    obtain ⟨l1, l2, l3, l4, l5, l6⟩ := of6 fr1.1
    obtain ⟨c1, c2⟩ := of2 fr1.2.1
    go_wp2_with fail
    refine (known_any8 st _).mono ?_
    rintro e w' ⟨rfl, rfl⟩
    rw [HT.out]
    obtain ⟨z1, z2⟩ := of2 fr1.2.2.1
    obtain ⟨f1, f2⟩ := thaw2 fr1.2.2.1
    have fr9 := fr1.put (.int .i64 st) (.bool wt)
    go_wp2
    (try simp only [Exit.inBlock, Exit.then])
    show bodyPost _ _ _ _ _ (put2 w' (w.heap.size + 1 + 1) (.int .i64 st) (.bool wt))
    generalize put2 w' (w.heap.size + 1 + 1) (.int .i64 st) (.bool wt) = w9 at *
    clear z1 z2 f1 f2 l1 l2 l3 l4 l5 l6 c1 c2
    obtain ⟨z1, z2⟩ := of2 fr9.2.2.1
    refine bodyPost_ret (v := .tuple #[.agg #[.int .i64 st, .bool wt], .int .i64 0]) (by simp [results, Try.results10, go_sem, z1, z2]) rfl ?_
    exact ⟨by rw [HS.out]; rfl, fr9.bel⟩

set_option maxHeartbeats 1000000 in
theorem ps_low1 (ul uh la : Bool) (lo hi hy : Int) (wt : Bool) (v : Int) (hok : okL ⟨ul, uh, la, lo, hi, hy⟩ = true) (hl : lowB ⟨ul, uh, la, lo, hi, hy⟩ v = true) (w : World) : Calls Try.prog 10 #[.agg #[.bool ul, .bool uh, .bool la, .int .i64 lo, .int .i64 hi, .int .i64 hy], .agg #[.int .i64 1, .bool wt], .int .i64 v] w fun e w' => e = .returned (stepR (stepA ⟨ul, uh, la, lo, hi, hy⟩ ⟨1, wt⟩ v)) ∧ Below w.heap.size w w' := by
    have fr := Box3.new w (.cells #[.bool ul, .bool uh, .bool la, .int .i64 lo, .int .i64 hi, .int .i64 hy] 23) (.cells #[.int .i64 1, .bool wt] 25) (.cells #[.int .i64 0, .bool false] 25)
    have HS := Lib.hid (stepA_low1 (l := ⟨ul, uh, la, lo, hi, hy⟩) (a := ⟨1, wt⟩) (v := v) hok rfl hl)
    have HC := Lib.hid (chkL_ok hok)
    have HT : Hid (isSt 1 = true) := Lib.hid rfl
    have HL := Lib.hid hl
    clear hok hl
    go_enter Try.func10, Try.ntmps10
    go_wp2_with fail
    refine (Check8_any ul uh la lo hi hy _).mono ?_
    rintro e w1 ⟨rfl, b1⟩
    rw [HC.out]
    have fr1 := fr.below b1
    clear b1 fr
    obtain ⟨l1, l2, l3, l4, l5, l6⟩ := of6 fr1.1
    obtain ⟨c1, c2⟩ := of2 fr1.2.1
    go_wp2_with fail
    refine (known_any8 1 _).mono ?_
    rintro e w' ⟨rfl, rfl⟩
    rw [HT.out]
    go_wp2_with fail
    refine (sides_any ul uh la lo hi hy _).mono ?_
    rintro e w2 ⟨rfl, b2, hb⟩
    have fr2 := fr1.below b2
    generalize hg : w'.heap.size = g at *
    clear hg b2 fr1 l1 l2 l3 l4 l5 l6 c1 c2
    simp only [loF, loB, hiF, hiB] at *
    have fr3 := fr2.alloc (.cells #[.int .i64 1, .int .i64 1, (.func (.func 28) #[] #[.pointer (some ⟨g, 0, none⟩)]), (.func (.func 29) #[] #[.pointer (some ⟨g, 0, none⟩)]), .int .i64 2, .int .i64 2, (.func (.func 30) #[] #[.pointer (some ⟨g, 0, none⟩)]), (.func (.func 31) #[] #[.pointer (some ⟨g, 0, none⟩)])] 44)
    have hb3 := (heap_alloc_old w2 (.cells #[.int .i64 1, .int .i64 1, (.func (.func 28) #[] #[.pointer (some ⟨g, 0, none⟩)]), (.func (.func 29) #[] #[.pointer (some ⟨g, 0, none⟩)]), .int .i64 2, .int .i64 2, (.func (.func 30) #[] #[.pointer (some ⟨g, 0, none⟩)]), (.func (.func 31) #[] #[.pointer (some ⟨g, 0, none⟩)])] 44) (block_lt hb)).trans hb
    have hk3 := heap_alloc_new w2 (.cells #[.int .i64 1, .int .i64 1, (.func (.func 28) #[] #[.pointer (some ⟨g, 0, none⟩)]), (.func (.func 29) #[] #[.pointer (some ⟨g, 0, none⟩)]), .int .i64 2, .int .i64 2, (.func (.func 30) #[] #[.pointer (some ⟨g, 0, none⟩)]), (.func (.func 31) #[] #[.pointer (some ⟨g, 0, none⟩)])] 44)
    clear hb fr2
    have i0 := idx0 (.int .i64 1) (.int .i64 1) (.func (.func 28) #[] #[.pointer (some ⟨g, 0, none⟩)]) (.func (.func 29) #[] #[.pointer (some ⟨g, 0, none⟩)]) (.int .i64 2) (.int .i64 2) (.func (.func 30) #[] #[.pointer (some ⟨g, 0, none⟩)]) (.func (.func 31) #[] #[.pointer (some ⟨g, 0, none⟩)])
    have i1 := idx1 (.int .i64 1) (.int .i64 1) (.func (.func 28) #[] #[.pointer (some ⟨g, 0, none⟩)]) (.func (.func 29) #[] #[.pointer (some ⟨g, 0, none⟩)]) (.int .i64 2) (.int .i64 2) (.func (.func 30) #[] #[.pointer (some ⟨g, 0, none⟩)]) (.func (.func 31) #[] #[.pointer (some ⟨g, 0, none⟩)])
    go_wp2_with fail
    generalize hw3 : w2.alloc (.cells #[.int .i64 1, .int .i64 1, (.func (.func 28) #[] #[.pointer (some ⟨g, 0, none⟩)]), (.func (.func 29) #[] #[.pointer (some ⟨g, 0, none⟩)]), .int .i64 2, .int .i64 2, (.func (.func 30) #[] #[.pointer (some ⟨g, 0, none⟩)]), (.func (.func 31) #[] #[.pointer (some ⟨g, 0, none⟩)])] 44) = w3 at *
    generalize hk : w2.heap.size = k at *
    clear hw3 hk w2
    refine wp_loop_rounds 3 ?_
    rw [rounds_succ]
    go_wp2_with fail
    have fr4 := fr3.alloc (.cells #[.int .i64 1, .int .i64 1, (.func (.func 28) #[] #[.pointer (some ⟨g, 0, none⟩)]), (.func (.func 29) #[] #[.pointer (some ⟨g, 0, none⟩)])] 43)
    have hb4 := (heap_alloc_old w3 (.cells #[.int .i64 1, .int .i64 1, (.func (.func 28) #[] #[.pointer (some ⟨g, 0, none⟩)]), (.func (.func 29) #[] #[.pointer (some ⟨g, 0, none⟩)])] 43) (block_lt hb3)).trans hb3
    have hk4 := (heap_alloc_old w3 (.cells #[.int .i64 1, .int .i64 1, (.func (.func 28) #[] #[.pointer (some ⟨g, 0, none⟩)]), (.func (.func 29) #[] #[.pointer (some ⟨g, 0, none⟩)])] 43) (block_lt hk3)).trans hk3
    have hx4 := heap_alloc_new w3 (.cells #[.int .i64 1, .int .i64 1, (.func (.func 28) #[] #[.pointer (some ⟨g, 0, none⟩)]), (.func (.func 29) #[] #[.pointer (some ⟨g, 0, none⟩)])] 43)
    clear fr3 hb3 hk3
    refine (lows_any ul uh la lo hi hy v g _ hb4).mono ?_
    rintro e w' ⟨rfl, rfl⟩
    rw [HL.out]
    obtain ⟨y1, y2, y3, y4⟩ := of4 hx4
    generalize hv4 : w3.alloc (.cells #[.int .i64 1, .int .i64 1, (.func (.func 28) #[] #[.pointer (some ⟨g, 0, none⟩)]), (.func (.func 29) #[] #[.pointer (some ⟨g, 0, none⟩)])] 43) = w4 at *
    generalize hz4 : w3.heap.size = x4 at *
    clear hv4 hz4
    obtain ⟨c1, c2⟩ := of2 fr4.2.1
    go_wp2_with fail
    refine (raise_same 1 1 _ _ wt _).mono ?_
    rintro e w7 ⟨rfl, b7⟩
    simp only [stepR_mk]
    have fr7 := fr4.below b7
    clear b7 c1 c2 y1 y2 y3 y4
    obtain ⟨z1, z2⟩ := of2 fr7.2.2.1
    obtain ⟨f1, f2⟩ := thaw2 fr7.2.2.1
    have fr9 := fr7.put (.int .i64 1) (.bool wt)
    go_wp2
    (try simp only [Exit.inBlock, Exit.then])
    show bodyPost _ _ _ _ _ (put2 w7 (w.heap.size + 1 + 1) (.int .i64 1) (.bool wt))
    generalize put2 w7 (w.heap.size + 1 + 1) (.int .i64 1) (.bool wt) = w9 at *
    clear z1 z2 f1 f2
    obtain ⟨z1, z2⟩ := of2 fr9.2.2.1
    refine bodyPost_ret (v := .tuple #[.agg #[.int .i64 1, .bool wt], .int .i64 0]) (by simp [results, Try.results10, go_sem, z1, z2]) rfl ?_
    exact ⟨by rw [HS.out]; rfl, fr9.bel⟩

set_option maxHeartbeats 1000000 in
theorem ps_low (ul uh la : Bool) (lo hi hy : Int) (st : Int) (wt : Bool) (v : Int) (hok : okL ⟨ul, uh, la, lo, hi, hy⟩ = true) (hst : isSt st = true) (h1 : ¬ st = 1) (hl : lowB ⟨ul, uh, la, lo, hi, hy⟩ v = true) (w : World) : Calls Try.prog 10 #[.agg #[.bool ul, .bool uh, .bool la, .int .i64 lo, .int .i64 hi, .int .i64 hy], .agg #[.int .i64 st, .bool wt], .int .i64 v] w fun e w' => e = .returned (stepR (stepA ⟨ul, uh, la, lo, hi, hy⟩ ⟨st, wt⟩ v)) ∧ Below w.heap.size w w' := by
    have fr := Box3.new w (.cells #[.bool ul, .bool uh, .bool la, .int .i64 lo, .int .i64 hi, .int .i64 hy] 23) (.cells #[.int .i64 st, .bool wt] 25) (.cells #[.int .i64 0, .bool false] 25)
    have HS := Lib.hid (stepA_low (l := ⟨ul, uh, la, lo, hi, hy⟩) (a := ⟨st, wt⟩) (v := v) hok hst h1 hl)
    have HC := Lib.hid (chkL_ok hok)
    have HT := Lib.hid hst
    have HL := Lib.hid hl
    have H1 := Lib.hid h1
    clear hok hst hl h1
    go_enter Try.func10, Try.ntmps10
    go_wp2_with fail
    refine (Check8_any ul uh la lo hi hy _).mono ?_
    rintro e w1 ⟨rfl, b1⟩
    rw [HC.out]
    have fr1 := fr.below b1
    clear b1 fr
    obtain ⟨l1, l2, l3, l4, l5, l6⟩ := of6 fr1.1
    obtain ⟨c1, c2⟩ := of2 fr1.2.1
    go_wp2_with fail
    refine (known_any8 st _).mono ?_
    rintro e w' ⟨rfl, rfl⟩
    rw [HT.out]
    go_wp2_with fail
    refine (sides_any ul uh la lo hi hy _).mono ?_
    rintro e w2 ⟨rfl, b2, hb⟩
    have fr2 := fr1.below b2
    generalize hg : w'.heap.size = g at *
    clear hg b2 fr1 l1 l2 l3 l4 l5 l6 c1 c2
    simp only [loF, loB, hiF, hiB] at *
    have fr3 := fr2.alloc (.cells #[.int .i64 1, .int .i64 1, (.func (.func 28) #[] #[.pointer (some ⟨g, 0, none⟩)]), (.func (.func 29) #[] #[.pointer (some ⟨g, 0, none⟩)]), .int .i64 2, .int .i64 2, (.func (.func 30) #[] #[.pointer (some ⟨g, 0, none⟩)]), (.func (.func 31) #[] #[.pointer (some ⟨g, 0, none⟩)])] 44)
    have hb3 := (heap_alloc_old w2 (.cells #[.int .i64 1, .int .i64 1, (.func (.func 28) #[] #[.pointer (some ⟨g, 0, none⟩)]), (.func (.func 29) #[] #[.pointer (some ⟨g, 0, none⟩)]), .int .i64 2, .int .i64 2, (.func (.func 30) #[] #[.pointer (some ⟨g, 0, none⟩)]), (.func (.func 31) #[] #[.pointer (some ⟨g, 0, none⟩)])] 44) (block_lt hb)).trans hb
    have hk3 := heap_alloc_new w2 (.cells #[.int .i64 1, .int .i64 1, (.func (.func 28) #[] #[.pointer (some ⟨g, 0, none⟩)]), (.func (.func 29) #[] #[.pointer (some ⟨g, 0, none⟩)]), .int .i64 2, .int .i64 2, (.func (.func 30) #[] #[.pointer (some ⟨g, 0, none⟩)]), (.func (.func 31) #[] #[.pointer (some ⟨g, 0, none⟩)])] 44)
    clear hb fr2
    have i0 := idx0 (.int .i64 1) (.int .i64 1) (.func (.func 28) #[] #[.pointer (some ⟨g, 0, none⟩)]) (.func (.func 29) #[] #[.pointer (some ⟨g, 0, none⟩)]) (.int .i64 2) (.int .i64 2) (.func (.func 30) #[] #[.pointer (some ⟨g, 0, none⟩)]) (.func (.func 31) #[] #[.pointer (some ⟨g, 0, none⟩)])
    have i1 := idx1 (.int .i64 1) (.int .i64 1) (.func (.func 28) #[] #[.pointer (some ⟨g, 0, none⟩)]) (.func (.func 29) #[] #[.pointer (some ⟨g, 0, none⟩)]) (.int .i64 2) (.int .i64 2) (.func (.func 30) #[] #[.pointer (some ⟨g, 0, none⟩)]) (.func (.func 31) #[] #[.pointer (some ⟨g, 0, none⟩)])
    go_wp2_with fail
    generalize hw3 : w2.alloc (.cells #[.int .i64 1, .int .i64 1, (.func (.func 28) #[] #[.pointer (some ⟨g, 0, none⟩)]), (.func (.func 29) #[] #[.pointer (some ⟨g, 0, none⟩)]), .int .i64 2, .int .i64 2, (.func (.func 30) #[] #[.pointer (some ⟨g, 0, none⟩)]), (.func (.func 31) #[] #[.pointer (some ⟨g, 0, none⟩)])] 44) = w3 at *
    generalize hk : w2.heap.size = k at *
    clear hw3 hk w2
    refine wp_loop_rounds 3 ?_
    rw [rounds_succ]
    go_wp2_with fail
    have fr4 := fr3.alloc (.cells #[.int .i64 1, .int .i64 1, (.func (.func 28) #[] #[.pointer (some ⟨g, 0, none⟩)]), (.func (.func 29) #[] #[.pointer (some ⟨g, 0, none⟩)])] 43)
    have hb4 := (heap_alloc_old w3 (.cells #[.int .i64 1, .int .i64 1, (.func (.func 28) #[] #[.pointer (some ⟨g, 0, none⟩)]), (.func (.func 29) #[] #[.pointer (some ⟨g, 0, none⟩)])] 43) (block_lt hb3)).trans hb3
    have hk4 := (heap_alloc_old w3 (.cells #[.int .i64 1, .int .i64 1, (.func (.func 28) #[] #[.pointer (some ⟨g, 0, none⟩)]), (.func (.func 29) #[] #[.pointer (some ⟨g, 0, none⟩)])] 43) (block_lt hk3)).trans hk3
    have hx4 := heap_alloc_new w3 (.cells #[.int .i64 1, .int .i64 1, (.func (.func 28) #[] #[.pointer (some ⟨g, 0, none⟩)]), (.func (.func 29) #[] #[.pointer (some ⟨g, 0, none⟩)])] 43)
    clear fr3 hb3 hk3
    refine (lows_any ul uh la lo hi hy v g _ hb4).mono ?_
    rintro e w' ⟨rfl, rfl⟩
    rw [HL.out]
    obtain ⟨y1, y2, y3, y4⟩ := of4 hx4
    generalize hv4 : w3.alloc (.cells #[.int .i64 1, .int .i64 1, (.func (.func 28) #[] #[.pointer (some ⟨g, 0, none⟩)]), (.func (.func 29) #[] #[.pointer (some ⟨g, 0, none⟩)])] 43) = w4 at *
    generalize hz4 : w3.heap.size = x4 at *
    clear hv4 hz4
    obtain ⟨c1, c2⟩ := of2 fr4.2.1
    go_wp2_with fail
    refine (raise_new 1 1 st _ _ wt _ H1.out).mono ?_
    rintro e w7 ⟨rfl, b7⟩
    simp only [stepR_mk]
    have fr7 := fr4.below b7
    clear b7 c1 c2 y1 y2 y3 y4
    obtain ⟨z1, z2⟩ := of2 fr7.2.2.1
    obtain ⟨f1, f2⟩ := thaw2 fr7.2.2.1
    have fr9 := fr7.put (.int .i64 1) (.bool true)
    go_wp2
    (try simp only [Exit.inBlock, Exit.then])
    show bodyPost _ _ _ _ _ (put2 w7 (w.heap.size + 1 + 1) (.int .i64 1) (.bool true))
    generalize put2 w7 (w.heap.size + 1 + 1) (.int .i64 1) (.bool true) = w9 at *
    clear z1 z2 f1 f2
    obtain ⟨z1, z2⟩ := of2 fr9.2.2.1
    refine bodyPost_ret (v := .tuple #[.agg #[.int .i64 1, .bool true], .int .i64 1]) (by simp [results, Try.results10, go_sem, z1, z2]) rfl ?_
    exact ⟨by rw [HS.out]; rfl, fr9.bel⟩

set_option maxHeartbeats 1000000 in
theorem ps_high2 (ul uh la : Bool) (lo hi hy : Int) (wt : Bool) (v : Int) (hok : okL ⟨ul, uh, la, lo, hi, hy⟩ = true) (hl : lowB ⟨ul, uh, la, lo, hi, hy⟩ v = false) (hh : highB ⟨ul, uh, la, lo, hi, hy⟩ v = true) (w : World) : Calls Try.prog 10 #[.agg #[.bool ul, .bool uh, .bool la, .int .i64 lo, .int .i64 hi, .int .i64 hy], .agg #[.int .i64 2, .bool wt], .int .i64 v] w fun e w' => e = .returned (stepR (stepA ⟨ul, uh, la, lo, hi, hy⟩ ⟨2, wt⟩ v)) ∧ Below w.heap.size w w' := by
    have fr := Box3.new w (.cells #[.bool ul, .bool uh, .bool la, .int .i64 lo, .int .i64 hi, .int .i64 hy] 23) (.cells #[.int .i64 2, .bool wt] 25) (.cells #[.int .i64 0, .bool false] 25)
    have HS := Lib.hid (stepA_high2 (l := ⟨ul, uh, la, lo, hi, hy⟩) (a := ⟨2, wt⟩) (v := v) hok rfl hl hh)
    have HC := Lib.hid (chkL_ok hok)
    have HT : Hid (isSt 2 = true) := Lib.hid rfl
    have HL := Lib.hid hl
    have HH := Lib.hid hh
    clear hok hl hh
    go_enter Try.func10, Try.ntmps10
    go_wp2_with fail
    refine (Check8_any ul uh la lo hi hy _).mono ?_
    rintro e w1 ⟨rfl, b1⟩
    rw [HC.out]
    have fr1 := fr.below b1
    clear b1 fr
    obtain ⟨l1, l2, l3, l4, l5, l6⟩ := of6 fr1.1
    obtain ⟨c1, c2⟩ := of2 fr1.2.1
    go_wp2_with fail
    refine (known_any8 2 _).mono ?_
    rintro e w' ⟨rfl, rfl⟩
    rw [HT.out]
    go_wp2_with fail
    refine (sides_any ul uh la lo hi hy _).mono ?_
    rintro e w2 ⟨rfl, b2, hb⟩
    have fr2 := fr1.below b2
    generalize hg : w'.heap.size = g at *
    clear hg b2 fr1 l1 l2 l3 l4 l5 l6 c1 c2
    simp only [loF, loB, hiF, hiB] at *
    have fr3 := fr2.alloc (.cells #[.int .i64 1, .int .i64 1, (.func (.func 28) #[] #[.pointer (some ⟨g, 0, none⟩)]), (.func (.func 29) #[] #[.pointer (some ⟨g, 0, none⟩)]), .int .i64 2, .int .i64 2, (.func (.func 30) #[] #[.pointer (some ⟨g, 0, none⟩)]), (.func (.func 31) #[] #[.pointer (some ⟨g, 0, none⟩)])] 44)
    have hb3 := (heap_alloc_old w2 (.cells #[.int .i64 1, .int .i64 1, (.func (.func 28) #[] #[.pointer (some ⟨g, 0, none⟩)]), (.func (.func 29) #[] #[.pointer (some ⟨g, 0, none⟩)]), .int .i64 2, .int .i64 2, (.func (.func 30) #[] #[.pointer (some ⟨g, 0, none⟩)]), (.func (.func 31) #[] #[.pointer (some ⟨g, 0, none⟩)])] 44) (block_lt hb)).trans hb
    have hk3 := heap_alloc_new w2 (.cells #[.int .i64 1, .int .i64 1, (.func (.func 28) #[] #[.pointer (some ⟨g, 0, none⟩)]), (.func (.func 29) #[] #[.pointer (some ⟨g, 0, none⟩)]), .int .i64 2, .int .i64 2, (.func (.func 30) #[] #[.pointer (some ⟨g, 0, none⟩)]), (.func (.func 31) #[] #[.pointer (some ⟨g, 0, none⟩)])] 44)
    clear hb fr2
    have i0 := idx0 (.int .i64 1) (.int .i64 1) (.func (.func 28) #[] #[.pointer (some ⟨g, 0, none⟩)]) (.func (.func 29) #[] #[.pointer (some ⟨g, 0, none⟩)]) (.int .i64 2) (.int .i64 2) (.func (.func 30) #[] #[.pointer (some ⟨g, 0, none⟩)]) (.func (.func 31) #[] #[.pointer (some ⟨g, 0, none⟩)])
    have i1 := idx1 (.int .i64 1) (.int .i64 1) (.func (.func 28) #[] #[.pointer (some ⟨g, 0, none⟩)]) (.func (.func 29) #[] #[.pointer (some ⟨g, 0, none⟩)]) (.int .i64 2) (.int .i64 2) (.func (.func 30) #[] #[.pointer (some ⟨g, 0, none⟩)]) (.func (.func 31) #[] #[.pointer (some ⟨g, 0, none⟩)])
    go_wp2_with fail
    generalize hw3 : w2.alloc (.cells #[.int .i64 1, .int .i64 1, (.func (.func 28) #[] #[.pointer (some ⟨g, 0, none⟩)]), (.func (.func 29) #[] #[.pointer (some ⟨g, 0, none⟩)]), .int .i64 2, .int .i64 2, (.func (.func 30) #[] #[.pointer (some ⟨g, 0, none⟩)]), (.func (.func 31) #[] #[.pointer (some ⟨g, 0, none⟩)])] 44) = w3 at *
    generalize hk : w2.heap.size = k at *
    clear hw3 hk w2
    refine wp_loop_rounds 3 ?_
    rw [rounds_succ]
    go_wp2_with fail
    have fr4 := fr3.alloc (.cells #[.int .i64 1, .int .i64 1, (.func (.func 28) #[] #[.pointer (some ⟨g, 0, none⟩)]), (.func (.func 29) #[] #[.pointer (some ⟨g, 0, none⟩)])] 43)
    have hb4 := (heap_alloc_old w3 (.cells #[.int .i64 1, .int .i64 1, (.func (.func 28) #[] #[.pointer (some ⟨g, 0, none⟩)]), (.func (.func 29) #[] #[.pointer (some ⟨g, 0, none⟩)])] 43) (block_lt hb3)).trans hb3
    have hk4 := (heap_alloc_old w3 (.cells #[.int .i64 1, .int .i64 1, (.func (.func 28) #[] #[.pointer (some ⟨g, 0, none⟩)]), (.func (.func 29) #[] #[.pointer (some ⟨g, 0, none⟩)])] 43) (block_lt hk3)).trans hk3
    have hx4 := heap_alloc_new w3 (.cells #[.int .i64 1, .int .i64 1, (.func (.func 28) #[] #[.pointer (some ⟨g, 0, none⟩)]), (.func (.func 29) #[] #[.pointer (some ⟨g, 0, none⟩)])] 43)
    clear fr3 hb3 hk3
    refine (lows_any ul uh la lo hi hy v g _ hb4).mono ?_
    rintro e w' ⟨rfl, rfl⟩
    rw [HL.out]
    obtain ⟨y1, y2, y3, y4⟩ := of4 hx4
    generalize hv4 : w3.alloc (.cells #[.int .i64 1, .int .i64 1, (.func (.func 28) #[] #[.pointer (some ⟨g, 0, none⟩)]), (.func (.func 29) #[] #[.pointer (some ⟨g, 0, none⟩)])] 43) = w4 at *
    generalize hz4 : w3.heap.size = x4 at *
    clear hv4 hz4
    go_wp2_with fail
    rw [rounds_succ]
    go_wp2_with fail
    clear y1 y2 y3 y4
    have fr5 := fr4.alloc (.cells #[.int .i64 2, .int .i64 2, (.func (.func 30) #[] #[.pointer (some ⟨g, 0, none⟩)]), (.func (.func 31) #[] #[.pointer (some ⟨g, 0, none⟩)])] 43)
    have hb5 := (heap_alloc_old w4 (.cells #[.int .i64 2, .int .i64 2, (.func (.func 30) #[] #[.pointer (some ⟨g, 0, none⟩)]), (.func (.func 31) #[] #[.pointer (some ⟨g, 0, none⟩)])] 43) (block_lt hb4)).trans hb4
    have hk5 := (heap_alloc_old w4 (.cells #[.int .i64 2, .int .i64 2, (.func (.func 30) #[] #[.pointer (some ⟨g, 0, none⟩)]), (.func (.func 31) #[] #[.pointer (some ⟨g, 0, none⟩)])] 43) (block_lt hk4)).trans hk4
    have hx5 := heap_alloc_new w4 (.cells #[.int .i64 2, .int .i64 2, (.func (.func 30) #[] #[.pointer (some ⟨g, 0, none⟩)]), (.func (.func 31) #[] #[.pointer (some ⟨g, 0, none⟩)])] 43)
    clear fr4 hb4 hk4
    refine (highs_any ul uh la lo hi hy v g _ hb5).mono ?_
    rintro e w' ⟨rfl, rfl⟩
    rw [HH.out]
    obtain ⟨y1, y2, y3, y4⟩ := of4 hx5
    generalize hv5 : w4.alloc (.cells #[.int .i64 2, .int .i64 2, (.func (.func 30) #[] #[.pointer (some ⟨g, 0, none⟩)]), (.func (.func 31) #[] #[.pointer (some ⟨g, 0, none⟩)])] 43) = w5 at *
    generalize hz5 : w4.heap.size = x5 at *
    clear hv5 hz5
    obtain ⟨c1, c2⟩ := of2 fr5.2.1
    go_wp2_with fail
    refine (raise_same 2 2 _ _ wt _).mono ?_
    rintro e w7 ⟨rfl, b7⟩
    simp only [stepR_mk]
    have fr7 := fr5.below b7
    clear b7 c1 c2 y1 y2 y3 y4
    obtain ⟨z1, z2⟩ := of2 fr7.2.2.1
    obtain ⟨f1, f2⟩ := thaw2 fr7.2.2.1
    have fr9 := fr7.put (.int .i64 2) (.bool wt)
    go_wp2
    (try simp only [Exit.inBlock, Exit.then])
    show bodyPost _ _ _ _ _ (put2 w7 (w.heap.size + 1 + 1) (.int .i64 2) (.bool wt))
    generalize put2 w7 (w.heap.size + 1 + 1) (.int .i64 2) (.bool wt) = w9 at *
    clear z1 z2 f1 f2
    obtain ⟨z1, z2⟩ := of2 fr9.2.2.1
    refine bodyPost_ret (v := .tuple #[.agg #[.int .i64 2, .bool wt], .int .i64 0]) (by simp [results, Try.results10, go_sem, z1, z2]) rfl ?_
    exact ⟨by rw [HS.out]; rfl, fr9.bel⟩

set_option maxHeartbeats 1000000 in
theorem ps_high (ul uh la : Bool) (lo hi hy : Int) (st : Int) (wt : Bool) (v : Int) (hok : okL ⟨ul, uh, la, lo, hi, hy⟩ = true) (hst : isSt st = true) (h2 : ¬ st = 2) (hl : lowB ⟨ul, uh, la, lo, hi, hy⟩ v = false) (hh : highB ⟨ul, uh, la, lo, hi, hy⟩ v = true) (w : World) : Calls Try.prog 10 #[.agg #[.bool ul, .bool uh, .bool la, .int .i64 lo, .int .i64 hi, .int .i64 hy], .agg #[.int .i64 st, .bool wt], .int .i64 v] w fun e w' => e = .returned (stepR (stepA ⟨ul, uh, la, lo, hi, hy⟩ ⟨st, wt⟩ v)) ∧ Below w.heap.size w w' := by
    have fr := Box3.new w (.cells #[.bool ul, .bool uh, .bool la, .int .i64 lo, .int .i64 hi, .int .i64 hy] 23) (.cells #[.int .i64 st, .bool wt] 25) (.cells #[.int .i64 0, .bool false] 25)
    have HS := Lib.hid (stepA_high (l := ⟨ul, uh, la, lo, hi, hy⟩) (a := ⟨st, wt⟩) (v := v) hok hst h2 hl hh)
    have HC := Lib.hid (chkL_ok hok)
    have HT := Lib.hid hst
    have HL := Lib.hid hl
    have HH := Lib.hid hh
    have H2 := Lib.hid h2
    clear hok hst hl hh h2
    go_enter Try.func10, Try.ntmps10
    go_wp2_with fail
    refine (Check8_any ul uh la lo hi hy _).mono ?_
    rintro e w1 ⟨rfl, b1⟩
    rw [HC.out]
    have fr1 := fr.below b1
    clear b1 fr
    obtain ⟨l1, l2, l3, l4, l5, l6⟩ := of6 fr1.1
    obtain ⟨c1, c2⟩ := of2 fr1.2.1
    go_wp2_with fail
    refine (known_any8 st _).mono ?_
    rintro e w' ⟨rfl, rfl⟩
    rw [HT.out]
    go_wp2_with fail
    refine (sides_any ul uh la lo hi hy _).mono ?_
    rintro e w2 ⟨rfl, b2, hb⟩
    have fr2 := fr1.below b2
    generalize hg : w'.heap.size = g at *
    clear hg b2 fr1 l1 l2 l3 l4 l5 l6 c1 c2
    simp only [loF, loB, hiF, hiB] at *
    have fr3 := fr2.alloc (.cells #[.int .i64 1, .int .i64 1, (.func (.func 28) #[] #[.pointer (some ⟨g, 0, none⟩)]), (.func (.func 29) #[] #[.pointer (some ⟨g, 0, none⟩)]), .int .i64 2, .int .i64 2, (.func (.func 30) #[] #[.pointer (some ⟨g, 0, none⟩)]), (.func (.func 31) #[] #[.pointer (some ⟨g, 0, none⟩)])] 44)
    have hb3 := (heap_alloc_old w2 (.cells #[.int .i64 1, .int .i64 1, (.func (.func 28) #[] #[.pointer (some ⟨g, 0, none⟩)]), (.func (.func 29) #[] #[.pointer (some ⟨g, 0, none⟩)]), .int .i64 2, .int .i64 2, (.func (.func 30) #[] #[.pointer (some ⟨g, 0, none⟩)]), (.func (.func 31) #[] #[.pointer (some ⟨g, 0, none⟩)])] 44) (block_lt hb)).trans hb
    have hk3 := heap_alloc_new w2 (.cells #[.int .i64 1, .int .i64 1, (.func (.func 28) #[] #[.pointer (some ⟨g, 0, none⟩)]), (.func (.func 29) #[] #[.pointer (some ⟨g, 0, none⟩)]), .int .i64 2, .int .i64 2, (.func (.func 30) #[] #[.pointer (some ⟨g, 0, none⟩)]), (.func (.func 31) #[] #[.pointer (some ⟨g, 0, none⟩)])] 44)
    clear hb fr2
    have i0 := idx0 (.int .i64 1) (.int .i64 1) (.func (.func 28) #[] #[.pointer (some ⟨g, 0, none⟩)]) (.func (.func 29) #[] #[.pointer (some ⟨g, 0, none⟩)]) (.int .i64 2) (.int .i64 2) (.func (.func 30) #[] #[.pointer (some ⟨g, 0, none⟩)]) (.func (.func 31) #[] #[.pointer (some ⟨g, 0, none⟩)])
    have i1 := idx1 (.int .i64 1) (.int .i64 1) (.func (.func 28) #[] #[.pointer (some ⟨g, 0, none⟩)]) (.func (.func 29) #[] #[.pointer (some ⟨g, 0, none⟩)]) (.int .i64 2) (.int .i64 2) (.func (.func 30) #[] #[.pointer (some ⟨g, 0, none⟩)]) (.func (.func 31) #[] #[.pointer (some ⟨g, 0, none⟩)])
    go_wp2_with fail
    generalize hw3 : w2.alloc (.cells #[.int .i64 1, .int .i64 1, (.func (.func 28) #[] #[.pointer (some ⟨g, 0, none⟩)]), (.func (.func 29) #[] #[.pointer (some ⟨g, 0, none⟩)]), .int .i64 2, .int .i64 2, (.func (.func 30) #[] #[.pointer (some ⟨g, 0, none⟩)]), (.func (.func 31) #[] #[.pointer (some ⟨g, 0, none⟩)])] 44) = w3 at *
    generalize hk : w2.heap.size = k at *
    clear hw3 hk w2
    refine wp_loop_rounds 3 ?_
    rw [rounds_succ]
    go_wp2_with fail
    have fr4 := fr3.alloc (.cells #[.int .i64 1, .int .i64 1, (.func (.func 28) #[] #[.pointer (some ⟨g, 0, none⟩)]), (.func (.func 29) #[] #[.pointer (some ⟨g, 0, none⟩)])] 43)
    have hb4 := (heap_alloc_old w3 (.cells #[.int .i64 1, .int .i64 1, (.func (.func 28) #[] #[.pointer (some ⟨g, 0, none⟩)]), (.func (.func 29) #[] #[.pointer (some ⟨g, 0, none⟩)])] 43) (block_lt hb3)).trans hb3
    have hk4 := (heap_alloc_old w3 (.cells #[.int .i64 1, .int .i64 1, (.func (.func 28) #[] #[.pointer (some ⟨g, 0, none⟩)]), (.func (.func 29) #[] #[.pointer (some ⟨g, 0, none⟩)])] 43) (block_lt hk3)).trans hk3
    have hx4 := heap_alloc_new w3 (.cells #[.int .i64 1, .int .i64 1, (.func (.func 28) #[] #[.pointer (some ⟨g, 0, none⟩)]), (.func (.func 29) #[] #[.pointer (some ⟨g, 0, none⟩)])] 43)
    clear fr3 hb3 hk3
    refine (lows_any ul uh la lo hi hy v g _ hb4).mono ?_
    rintro e w' ⟨rfl, rfl⟩
    rw [HL.out]
    obtain ⟨y1, y2, y3, y4⟩ := of4 hx4
    generalize hv4 : w3.alloc (.cells #[.int .i64 1, .int .i64 1, (.func (.func 28) #[] #[.pointer (some ⟨g, 0, none⟩)]), (.func (.func 29) #[] #[.pointer (some ⟨g, 0, none⟩)])] 43) = w4 at *
    generalize hz4 : w3.heap.size = x4 at *
    clear hv4 hz4
    go_wp2_with fail
    rw [rounds_succ]
    go_wp2_with fail
    clear y1 y2 y3 y4
    have fr5 := fr4.alloc (.cells #[.int .i64 2, .int .i64 2, (.func (.func 30) #[] #[.pointer (some ⟨g, 0, none⟩)]), (.func (.func 31) #[] #[.pointer (some ⟨g, 0, none⟩)])] 43)
    have hb5 := (heap_alloc_old w4 (.cells #[.int .i64 2, .int .i64 2, (.func (.func 30) #[] #[.pointer (some ⟨g, 0, none⟩)]), (.func (.func 31) #[] #[.pointer (some ⟨g, 0, none⟩)])] 43) (block_lt hb4)).trans hb4
    have hk5 := (heap_alloc_old w4 (.cells #[.int .i64 2, .int .i64 2, (.func (.func 30) #[] #[.pointer (some ⟨g, 0, none⟩)]), (.func (.func 31) #[] #[.pointer (some ⟨g, 0, none⟩)])] 43) (block_lt hk4)).trans hk4
    have hx5 := heap_alloc_new w4 (.cells #[.int .i64 2, .int .i64 2, (.func (.func 30) #[] #[.pointer (some ⟨g, 0, none⟩)]), (.func (.func 31) #[] #[.pointer (some ⟨g, 0, none⟩)])] 43)
    clear fr4 hb4 hk4
    refine (highs_any ul uh la lo hi hy v g _ hb5).mono ?_
    rintro e w' ⟨rfl, rfl⟩
    rw [HH.out]
    obtain ⟨y1, y2, y3, y4⟩ := of4 hx5
    generalize hv5 : w4.alloc (.cells #[.int .i64 2, .int .i64 2, (.func (.func 30) #[] #[.pointer (some ⟨g, 0, none⟩)]), (.func (.func 31) #[] #[.pointer (some ⟨g, 0, none⟩)])] 43) = w5 at *
    generalize hz5 : w4.heap.size = x5 at *
    clear hv5 hz5
    obtain ⟨c1, c2⟩ := of2 fr5.2.1
    go_wp2_with fail
    refine (raise_new 2 2 st _ _ wt _ H2.out).mono ?_
    rintro e w7 ⟨rfl, b7⟩
    simp only [stepR_mk]
    have fr7 := fr5.below b7
    clear b7 c1 c2 y1 y2 y3 y4
    obtain ⟨z1, z2⟩ := of2 fr7.2.2.1
    obtain ⟨f1, f2⟩ := thaw2 fr7.2.2.1
    have fr9 := fr7.put (.int .i64 2) (.bool true)
    go_wp2
    (try simp only [Exit.inBlock, Exit.then])
    show bodyPost _ _ _ _ _ (put2 w7 (w.heap.size + 1 + 1) (.int .i64 2) (.bool true))
    generalize put2 w7 (w.heap.size + 1 + 1) (.int .i64 2) (.bool true) = w9 at *
    clear z1 z2 f1 f2
    obtain ⟨z1, z2⟩ := of2 fr9.2.2.1
    refine bodyPost_ret (v := .tuple #[.agg #[.int .i64 2, .bool true], .int .i64 2]) (by simp [results, Try.results10, go_sem, z1, z2]) rfl ?_
    exact ⟨by rw [HS.out]; rfl, fr9.bel⟩

set_option maxHeartbeats 1000000 in
theorem ps_none0 (ul uh la : Bool) (lo hi hy : Int) (wt : Bool) (v : Int) (hok : okL ⟨ul, uh, la, lo, hi, hy⟩ = true) (hl : lowB ⟨ul, uh, la, lo, hi, hy⟩ v = false) (hh : highB ⟨ul, uh, la, lo, hi, hy⟩ v = false) (w : World) : Calls Try.prog 10 #[.agg #[.bool ul, .bool uh, .bool la, .int .i64 lo, .int .i64 hi, .int .i64 hy], .agg #[.int .i64 0, .bool wt], .int .i64 v] w fun e w' => e = .returned (stepR (stepA ⟨ul, uh, la, lo, hi, hy⟩ ⟨0, wt⟩ v)) ∧ Below w.heap.size w w' := by
    have fr := Box3.new w (.cells #[.bool ul, .bool uh, .bool la, .int .i64 lo, .int .i64 hi, .int .i64 hy] 23) (.cells #[.int .i64 0, .bool wt] 25) (.cells #[.int .i64 0, .bool false] 25)
    have HS := Lib.hid (stepA_stay (l := ⟨ul, uh, la, lo, hi, hy⟩) (a := ⟨0, wt⟩) (v := v) hok rfl hl hh (.inl rfl))
    have HC := Lib.hid (chkL_ok hok)
    have HOK := Lib.hid hok
    have HT : Hid (isSt 0 = true) := Lib.hid rfl
    have HL := Lib.hid hl
    have HH := Lib.hid hh
    clear hok hl hh
    go_enter Try.func10, Try.ntmps10
    go_wp2_with fail
    refine (Check8_any ul uh la lo hi hy _).mono ?_
    rintro e w1 ⟨rfl, b1⟩
    rw [HC.out]
    have fr1 := fr.below b1
    clear b1 fr
    obtain ⟨l1, l2, l3, l4, l5, l6⟩ := of6 fr1.1
    obtain ⟨c1, c2⟩ := of2 fr1.2.1
    go_wp2_with fail
    refine (known_any8 0 _).mono ?_
    rintro e w' ⟨rfl, rfl⟩
    rw [HT.out]
    go_wp2_with fail
    refine (sides_any ul uh la lo hi hy _).mono ?_
    rintro e w2 ⟨rfl, b2, hb⟩
    have fr2 := fr1.below b2
    generalize hg : w'.heap.size = g at *
    clear hg b2 fr1 l1 l2 l3 l4 l5 l6 c1 c2
    simp only [loF, loB, hiF, hiB] at *
    have fr3 := fr2.alloc (.cells #[.int .i64 1, .int .i64 1, (.func (.func 28) #[] #[.pointer (some ⟨g, 0, none⟩)]), (.func (.func 29) #[] #[.pointer (some ⟨g, 0, none⟩)]), .int .i64 2, .int .i64 2, (.func (.func 30) #[] #[.pointer (some ⟨g, 0, none⟩)]), (.func (.func 31) #[] #[.pointer (some ⟨g, 0, none⟩)])] 44)
    have hb3 := (heap_alloc_old w2 (.cells #[.int .i64 1, .int .i64 1, (.func (.func 28) #[] #[.pointer (some ⟨g, 0, none⟩)]), (.func (.func 29) #[] #[.pointer (some ⟨g, 0, none⟩)]), .int .i64 2, .int .i64 2, (.func (.func 30) #[] #[.pointer (some ⟨g, 0, none⟩)]), (.func (.func 31) #[] #[.pointer (some ⟨g, 0, none⟩)])] 44) (block_lt hb)).trans hb
    have hk3 := heap_alloc_new w2 (.cells #[.int .i64 1, .int .i64 1, (.func (.func 28) #[] #[.pointer (some ⟨g, 0, none⟩)]), (.func (.func 29) #[] #[.pointer (some ⟨g, 0, none⟩)]), .int .i64 2, .int .i64 2, (.func (.func 30) #[] #[.pointer (some ⟨g, 0, none⟩)]), (.func (.func 31) #[] #[.pointer (some ⟨g, 0, none⟩)])] 44)
    clear hb fr2
    have i0 := idx0 (.int .i64 1) (.int .i64 1) (.func (.func 28) #[] #[.pointer (some ⟨g, 0, none⟩)]) (.func (.func 29) #[] #[.pointer (some ⟨g, 0, none⟩)]) (.int .i64 2) (.int .i64 2) (.func (.func 30) #[] #[.pointer (some ⟨g, 0, none⟩)]) (.func (.func 31) #[] #[.pointer (some ⟨g, 0, none⟩)])
    have i1 := idx1 (.int .i64 1) (.int .i64 1) (.func (.func 28) #[] #[.pointer (some ⟨g, 0, none⟩)]) (.func (.func 29) #[] #[.pointer (some ⟨g, 0, none⟩)]) (.int .i64 2) (.int .i64 2) (.func (.func 30) #[] #[.pointer (some ⟨g, 0, none⟩)]) (.func (.func 31) #[] #[.pointer (some ⟨g, 0, none⟩)])
    go_wp2_with fail
    generalize hw3 : w2.alloc (.cells #[.int .i64 1, .int .i64 1, (.func (.func 28) #[] #[.pointer (some ⟨g, 0, none⟩)]), (.func (.func 29) #[] #[.pointer (some ⟨g, 0, none⟩)]), .int .i64 2, .int .i64 2, (.func (.func 30) #[] #[.pointer (some ⟨g, 0, none⟩)]), (.func (.func 31) #[] #[.pointer (some ⟨g, 0, none⟩)])] 44) = w3 at *
    generalize hk : w2.heap.size = k at *
    clear hw3 hk w2
    refine wp_loop_rounds 3 ?_
    rw [rounds_succ]
    go_wp2_with fail
    have fr4 := fr3.alloc (.cells #[.int .i64 1, .int .i64 1, (.func (.func 28) #[] #[.pointer (some ⟨g, 0, none⟩)]), (.func (.func 29) #[] #[.pointer (some ⟨g, 0, none⟩)])] 43)
    have hb4 := (heap_alloc_old w3 (.cells #[.int .i64 1, .int .i64 1, (.func (.func 28) #[] #[.pointer (some ⟨g, 0, none⟩)]), (.func (.func 29) #[] #[.pointer (some ⟨g, 0, none⟩)])] 43) (block_lt hb3)).trans hb3
    have hk4 := (heap_alloc_old w3 (.cells #[.int .i64 1, .int .i64 1, (.func (.func 28) #[] #[.pointer (some ⟨g, 0, none⟩)]), (.func (.func 29) #[] #[.pointer (some ⟨g, 0, none⟩)])] 43) (block_lt hk3)).trans hk3
    have hx4 := heap_alloc_new w3 (.cells #[.int .i64 1, .int .i64 1, (.func (.func 28) #[] #[.pointer (some ⟨g, 0, none⟩)]), (.func (.func 29) #[] #[.pointer (some ⟨g, 0, none⟩)])] 43)
    clear fr3 hb3 hk3
    refine (lows_any ul uh la lo hi hy v g _ hb4).mono ?_
    rintro e w' ⟨rfl, rfl⟩
    rw [HL.out]
    obtain ⟨y1, y2, y3, y4⟩ := of4 hx4
    generalize hv4 : w3.alloc (.cells #[.int .i64 1, .int .i64 1, (.func (.func 28) #[] #[.pointer (some ⟨g, 0, none⟩)]), (.func (.func 29) #[] #[.pointer (some ⟨g, 0, none⟩)])] 43) = w4 at *
    generalize hz4 : w3.heap.size = x4 at *
    clear hv4 hz4
    go_wp2_with fail
    rw [rounds_succ]
    go_wp2_with fail
    clear y1 y2 y3 y4
    have fr5 := fr4.alloc (.cells #[.int .i64 2, .int .i64 2, (.func (.func 30) #[] #[.pointer (some ⟨g, 0, none⟩)]), (.func (.func 31) #[] #[.pointer (some ⟨g, 0, none⟩)])] 43)
    have hb5 := (heap_alloc_old w4 (.cells #[.int .i64 2, .int .i64 2, (.func (.func 30) #[] #[.pointer (some ⟨g, 0, none⟩)]), (.func (.func 31) #[] #[.pointer (some ⟨g, 0, none⟩)])] 43) (block_lt hb4)).trans hb4
    have hk5 := (heap_alloc_old w4 (.cells #[.int .i64 2, .int .i64 2, (.func (.func 30) #[] #[.pointer (some ⟨g, 0, none⟩)]), (.func (.func 31) #[] #[.pointer (some ⟨g, 0, none⟩)])] 43) (block_lt hk4)).trans hk4
    have hx5 := heap_alloc_new w4 (.cells #[.int .i64 2, .int .i64 2, (.func (.func 30) #[] #[.pointer (some ⟨g, 0, none⟩)]), (.func (.func 31) #[] #[.pointer (some ⟨g, 0, none⟩)])] 43)
    clear fr4 hb4 hk4
    refine (highs_any ul uh la lo hi hy v g _ hb5).mono ?_
    rintro e w' ⟨rfl, rfl⟩
    rw [HH.out]
    obtain ⟨y1, y2, y3, y4⟩ := of4 hx5
    generalize hv5 : w4.alloc (.cells #[.int .i64 2, .int .i64 2, (.func (.func 30) #[] #[.pointer (some ⟨g, 0, none⟩)]), (.func (.func 31) #[] #[.pointer (some ⟨g, 0, none⟩)])] 43) = w5 at *
    generalize hz5 : w4.heap.size = x5 at *
    clear hv5 hz5
    clear y1 y2 y3 y4 hx4 hx5
    obtain ⟨k0, k1, k2, k3, k4, k5, k6, k7⟩ := cells_eight hk5
    go_wp2_with fail
    rw [rounds_succ]
    go_wp2_with fail
    clear k0 k1 k2 k3 k4 k5 k6 k7 hk5
    have fr6 := fr5.alloc (.cells #[.int .i64 1, .int .i64 1, (.func (.func 28) #[] #[.pointer (some ⟨g, 0, none⟩)]), (.func (.func 29) #[] #[.pointer (some ⟨g, 0, none⟩)])] 43)
    have hb6 := (heap_alloc_old w5 (.cells #[.int .i64 1, .int .i64 1, (.func (.func 28) #[] #[.pointer (some ⟨g, 0, none⟩)]), (.func (.func 29) #[] #[.pointer (some ⟨g, 0, none⟩)])] 43) (block_lt hb5)).trans hb5
    clear fr5 hb5
    obtain ⟨d1, d2⟩ := of2 fr6.2.1
    refine wp_loop_rounds 3 ?_
    rw [rounds_succ]
    go_wp2_with fail
    generalize hv6 : w5.alloc (.cells #[.int .i64 1, .int .i64 1, (.func (.func 28) #[] #[.pointer (some ⟨g, 0, none⟩)]), (.func (.func 29) #[] #[.pointer (some ⟨g, 0, none⟩)])] 43) = w6 at *
    generalize hz6 : w5.heap.size = x6 at *
    clear hv6 hz6 d1 d2
    have fr7 := fr6.alloc (.cells #[.int .i64 2, .int .i64 2, (.func (.func 30) #[] #[.pointer (some ⟨g, 0, none⟩)]), (.func (.func 31) #[] #[.pointer (some ⟨g, 0, none⟩)])] 43)
    have hb7 := (heap_alloc_old w6 (.cells #[.int .i64 2, .int .i64 2, (.func (.func 30) #[] #[.pointer (some ⟨g, 0, none⟩)]), (.func (.func 31) #[] #[.pointer (some ⟨g, 0, none⟩)])] 43) (block_lt hb6)).trans hb6
    clear fr6 hb6
    obtain ⟨d1, d2⟩ := of2 fr7.2.1
    rw [rounds_succ]
    go_wp2_with fail
    generalize hv7 : w6.alloc (.cells #[.int .i64 2, .int .i64 2, (.func (.func 30) #[] #[.pointer (some ⟨g, 0, none⟩)]), (.func (.func 31) #[] #[.pointer (some ⟨g, 0, none⟩)])] 43) = w7 at *
    generalize hz7 : w6.heap.size = x7 at *
    clear hv7 hz7 d1 d2
    obtain ⟨d1, d2⟩ := of2 fr7.2.1
    rw [rounds_succ]
    obtain ⟨z1, z2⟩ := of2 fr7.2.2.1
    obtain ⟨f1, f2⟩ := thaw2 fr7.2.2.1
    have fr9 := fr7.put (.int .i64 0) (.bool wt)
    go_wp2
    (try simp only [Exit.inBlock, Exit.then])
    show bodyPost _ _ _ _ _ (put2 w7 (w.heap.size + 1 + 1) (.int .i64 0) (.bool wt))
    generalize put2 w7 (w.heap.size + 1 + 1) (.int .i64 0) (.bool wt) = w9 at *
    clear z1 z2 f1 f2 d1 d2
    obtain ⟨z1, z2⟩ := of2 fr9.2.2.1
    refine bodyPost_ret (v := .tuple #[.agg #[.int .i64 0, .bool wt], .int .i64 0]) (by simp [results, Try.results10, go_sem, z1, z2]) rfl ?_
    exact ⟨by rw [HS.out]; rfl, fr9.bel⟩

set_option maxHeartbeats 1000000 in
theorem ps_back1 (ul uh la : Bool) (lo hi hy : Int) (wt : Bool) (v : Int) (hok : okL ⟨ul, uh, la, lo, hi, hy⟩ = true) (hl : lowB ⟨ul, uh, la, lo, hi, hy⟩ v = false) (hh : highB ⟨ul, uh, la, lo, hi, hy⟩ v = false) (hb : leftLow ⟨ul, uh, la, lo, hi, hy⟩ v = true) (s1 : Int) (t1 : Bool) (n1 : Int) (hr : (bif la && wt then (⟨1, wt⟩, 0) else (⟨0, wt⟩, 3)) = ((⟨s1, t1⟩, n1) : Alm × Int)) (w : World) : Calls Try.prog 10 #[.agg #[.bool ul, .bool uh, .bool la, .int .i64 lo, .int .i64 hi, .int .i64 hy], .agg #[.int .i64 1, .bool wt], .int .i64 v] w fun e w' => e = .returned (stepR (stepA ⟨ul, uh, la, lo, hi, hy⟩ ⟨1, wt⟩ v)) ∧ Below w.heap.size w w' := by
    have fr := Box3.new w (.cells #[.bool ul, .bool uh, .bool la, .int .i64 lo, .int .i64 hi, .int .i64 hy] 23) (.cells #[.int .i64 1, .bool wt] 25) (.cells #[.int .i64 0, .bool false] 25)
    have HS := Lib.hid ((stepA_left hok rfl hl hh (by rw [back_one]; exact hb)).trans hr)
    have HB := Lib.hid hb
    have HR := Lib.hid hr
    clear hb hr
    have HC := Lib.hid (chkL_ok hok)
    have HOK := Lib.hid hok
    have HT : Hid (isSt 1 = true) := Lib.hid rfl
    have HL := Lib.hid hl
    have HH := Lib.hid hh
    clear hok hl hh
    go_enter Try.func10, Try.ntmps10
    go_wp2_with fail
    refine (Check8_any ul uh la lo hi hy _).mono ?_
    rintro e w1 ⟨rfl, b1⟩
    rw [HC.out]
    have fr1 := fr.below b1
    clear b1 fr
    obtain ⟨l1, l2, l3, l4, l5, l6⟩ := of6 fr1.1
    obtain ⟨c1, c2⟩ := of2 fr1.2.1
    go_wp2_with fail
    refine (known_any8 1 _).mono ?_
    rintro e w' ⟨rfl, rfl⟩
    rw [HT.out]
    go_wp2_with fail
    refine (sides_any ul uh la lo hi hy _).mono ?_
    rintro e w2 ⟨rfl, b2, hb⟩
    have fr2 := fr1.below b2
    generalize hg : w'.heap.size = g at *
    clear hg b2 fr1 l1 l2 l3 l4 l5 l6 c1 c2
    simp only [loF, loB, hiF, hiB] at *
    have fr3 := fr2.alloc (.cells #[.int .i64 1, .int .i64 1, (.func (.func 28) #[] #[.pointer (some ⟨g, 0, none⟩)]), (.func (.func 29) #[] #[.pointer (some ⟨g, 0, none⟩)]), .int .i64 2, .int .i64 2, (.func (.func 30) #[] #[.pointer (some ⟨g, 0, none⟩)]), (.func (.func 31) #[] #[.pointer (some ⟨g, 0, none⟩)])] 44)
    have hb3 := (heap_alloc_old w2 (.cells #[.int .i64 1, .int .i64 1, (.func (.func 28) #[] #[.pointer (some ⟨g, 0, none⟩)]), (.func (.func 29) #[] #[.pointer (some ⟨g, 0, none⟩)]), .int .i64 2, .int .i64 2, (.func (.func 30) #[] #[.pointer (some ⟨g, 0, none⟩)]), (.func (.func 31) #[] #[.pointer (some ⟨g, 0, none⟩)])] 44) (block_lt hb)).trans hb
    have hk3 := heap_alloc_new w2 (.cells #[.int .i64 1, .int .i64 1, (.func (.func 28) #[] #[.pointer (some ⟨g, 0, none⟩)]), (.func (.func 29) #[] #[.pointer (some ⟨g, 0, none⟩)]), .int .i64 2, .int .i64 2, (.func (.func 30) #[] #[.pointer (some ⟨g, 0, none⟩)]), (.func (.func 31) #[] #[.pointer (some ⟨g, 0, none⟩)])] 44)
    clear hb fr2
    have i0 := idx0 (.int .i64 1) (.int .i64 1) (.func (.func 28) #[] #[.pointer (some ⟨g, 0, none⟩)]) (.func (.func 29) #[] #[.pointer (some ⟨g, 0, none⟩)]) (.int .i64 2) (.int .i64 2) (.func (.func 30) #[] #[.pointer (some ⟨g, 0, none⟩)]) (.func (.func 31) #[] #[.pointer (some ⟨g, 0, none⟩)])
    have i1 := idx1 (.int .i64 1) (.int .i64 1) (.func (.func 28) #[] #[.pointer (some ⟨g, 0, none⟩)]) (.func (.func 29) #[] #[.pointer (some ⟨g, 0, none⟩)]) (.int .i64 2) (.int .i64 2) (.func (.func 30) #[] #[.pointer (some ⟨g, 0, none⟩)]) (.func (.func 31) #[] #[.pointer (some ⟨g, 0, none⟩)])
    go_wp2_with fail
    generalize hw3 : w2.alloc (.cells #[.int .i64 1, .int .i64 1, (.func (.func 28) #[] #[.pointer (some ⟨g, 0, none⟩)]), (.func (.func 29) #[] #[.pointer (some ⟨g, 0, none⟩)]), .int .i64 2, .int .i64 2, (.func (.func 30) #[] #[.pointer (some ⟨g, 0, none⟩)]), (.func (.func 31) #[] #[.pointer (some ⟨g, 0, none⟩)])] 44) = w3 at *
    generalize hk : w2.heap.size = k at *
    clear hw3 hk w2
    refine wp_loop_rounds 3 ?_
    rw [rounds_succ]
    go_wp2_with fail
    have fr4 := fr3.alloc (.cells #[.int .i64 1, .int .i64 1, (.func (.func 28) #[] #[.pointer (some ⟨g, 0, none⟩)]), (.func (.func 29) #[] #[.pointer (some ⟨g, 0, none⟩)])] 43)
    have hb4 := (heap_alloc_old w3 (.cells #[.int .i64 1, .int .i64 1, (.func (.func 28) #[] #[.pointer (some ⟨g, 0, none⟩)]), (.func (.func 29) #[] #[.pointer (some ⟨g, 0, none⟩)])] 43) (block_lt hb3)).trans hb3
    have hk4 := (heap_alloc_old w3 (.cells #[.int .i64 1, .int .i64 1, (.func (.func 28) #[] #[.pointer (some ⟨g, 0, none⟩)]), (.func (.func 29) #[] #[.pointer (some ⟨g, 0, none⟩)])] 43) (block_lt hk3)).trans hk3
    have hx4 := heap_alloc_new w3 (.cells #[.int .i64 1, .int .i64 1, (.func (.func 28) #[] #[.pointer (some ⟨g, 0, none⟩)]), (.func (.func 29) #[] #[.pointer (some ⟨g, 0, none⟩)])] 43)
    clear fr3 hb3 hk3
    refine (lows_any ul uh la lo hi hy v g _ hb4).mono ?_
    rintro e w' ⟨rfl, rfl⟩
    rw [HL.out]
    obtain ⟨y1, y2, y3, y4⟩ := of4 hx4
    generalize hv4 : w3.alloc (.cells #[.int .i64 1, .int .i64 1, (.func (.func 28) #[] #[.pointer (some ⟨g, 0, none⟩)]), (.func (.func 29) #[] #[.pointer (some ⟨g, 0, none⟩)])] 43) = w4 at *
    generalize hz4 : w3.heap.size = x4 at *
    clear hv4 hz4
    go_wp2_with fail
    rw [rounds_succ]
    go_wp2_with fail
    clear y1 y2 y3 y4
    have fr5 := fr4.alloc (.cells #[.int .i64 2, .int .i64 2, (.func (.func 30) #[] #[.pointer (some ⟨g, 0, none⟩)]), (.func (.func 31) #[] #[.pointer (some ⟨g, 0, none⟩)])] 43)
    have hb5 := (heap_alloc_old w4 (.cells #[.int .i64 2, .int .i64 2, (.func (.func 30) #[] #[.pointer (some ⟨g, 0, none⟩)]), (.func (.func 31) #[] #[.pointer (some ⟨g, 0, none⟩)])] 43) (block_lt hb4)).trans hb4
    have hk5 := (heap_alloc_old w4 (.cells #[.int .i64 2, .int .i64 2, (.func (.func 30) #[] #[.pointer (some ⟨g, 0, none⟩)]), (.func (.func 31) #[] #[.pointer (some ⟨g, 0, none⟩)])] 43) (block_lt hk4)).trans hk4
    have hx5 := heap_alloc_new w4 (.cells #[.int .i64 2, .int .i64 2, (.func (.func 30) #[] #[.pointer (some ⟨g, 0, none⟩)]), (.func (.func 31) #[] #[.pointer (some ⟨g, 0, none⟩)])] 43)
    clear fr4 hb4 hk4
    refine (highs_any ul uh la lo hi hy v g _ hb5).mono ?_
    rintro e w' ⟨rfl, rfl⟩
    rw [HH.out]
    obtain ⟨y1, y2, y3, y4⟩ := of4 hx5
    generalize hv5 : w4.alloc (.cells #[.int .i64 2, .int .i64 2, (.func (.func 30) #[] #[.pointer (some ⟨g, 0, none⟩)]), (.func (.func 31) #[] #[.pointer (some ⟨g, 0, none⟩)])] 43) = w5 at *
    generalize hz5 : w4.heap.size = x5 at *
    clear hv5 hz5
    clear y1 y2 y3 y4 hx4 hx5
    obtain ⟨k0, k1, k2, k3, k4, k5, k6, k7⟩ := cells_eight hk5
    go_wp2_with fail
    rw [rounds_succ]
    go_wp2_with fail
    clear k0 k1 k2 k3 k4 k5 k6 k7 hk5
    have fr6 := fr5.alloc (.cells #[.int .i64 1, .int .i64 1, (.func (.func 28) #[] #[.pointer (some ⟨g, 0, none⟩)]), (.func (.func 29) #[] #[.pointer (some ⟨g, 0, none⟩)])] 43)
    have hb6 := (heap_alloc_old w5 (.cells #[.int .i64 1, .int .i64 1, (.func (.func 28) #[] #[.pointer (some ⟨g, 0, none⟩)]), (.func (.func 29) #[] #[.pointer (some ⟨g, 0, none⟩)])] 43) (block_lt hb5)).trans hb5
    clear fr5 hb5
    obtain ⟨d1, d2⟩ := of2 fr6.2.1
    refine wp_loop_rounds 3 ?_
    rw [rounds_succ]
    go_wp2_with fail
    refine (leftl_any ul uh la lo hi hy v g _ HOK.out hb6).mono ?_
    rintro e w' ⟨rfl, rfl⟩
    rw [HB.out]
    generalize hv6 : w5.alloc (.cells #[.int .i64 1, .int .i64 1, (.func (.func 28) #[] #[.pointer (some ⟨g, 0, none⟩)]), (.func (.func 29) #[] #[.pointer (some ⟨g, 0, none⟩)])] 43) = w6 at *
    generalize hz6 : w5.heap.size = x6 at *
    clear hv6 hz6 d1 d2
    obtain ⟨d1, d2⟩ := of2 fr6.2.1
    obtain ⟨l1, l2, l3, l4, l5, l6⟩ := of6 fr6.1
    go_wp2_with fail
    refine (settle_any ul uh la lo hi hy 1 wt _).mono ?_
    rintro e w9 ⟨rfl, b9⟩
    rw [HR.out]
    simp only [stepR_mk]
    have fr8 := fr6.below b9
    clear b9 d1 d2 l1 l2 l3 l4 l5 l6
    obtain ⟨z1, z2⟩ := of2 fr8.2.2.1
    obtain ⟨f1, f2⟩ := thaw2 fr8.2.2.1
    have fr9 := fr8.put (.int .i64 s1) (.bool t1)
    go_wp2
    (try simp only [Exit.inBlock, Exit.then])
    show bodyPost _ _ _ _ _ (put2 w9 (w.heap.size + 1 + 1) (.int .i64 s1) (.bool t1))
    generalize put2 w9 (w.heap.size + 1 + 1) (.int .i64 s1) (.bool t1) = w9 at *
    clear z1 z2 f1 f2
    obtain ⟨z1, z2⟩ := of2 fr9.2.2.1
    refine bodyPost_ret (v := .tuple #[.agg #[.int .i64 s1, .bool t1], .int .i64 n1]) (by simp [results, Try.results10, go_sem, z1, z2]) rfl ?_
    exact ⟨by rw [HS.out]; rfl, fr9.bel⟩

set_option maxHeartbeats 1000000 in
theorem ps_stay1 (ul uh la : Bool) (lo hi hy : Int) (wt : Bool) (v : Int) (hok : okL ⟨ul, uh, la, lo, hi, hy⟩ = true) (hl : lowB ⟨ul, uh, la, lo, hi, hy⟩ v = false) (hh : highB ⟨ul, uh, la, lo, hi, hy⟩ v = false) (hb : leftLow ⟨ul, uh, la, lo, hi, hy⟩ v = false) (w : World) : Calls Try.prog 10 #[.agg #[.bool ul, .bool uh, .bool la, .int .i64 lo, .int .i64 hi, .int .i64 hy], .agg #[.int .i64 1, .bool wt], .int .i64 v] w fun e w' => e = .returned (stepR (stepA ⟨ul, uh, la, lo, hi, hy⟩ ⟨1, wt⟩ v)) ∧ Below w.heap.size w w' := by
    have fr := Box3.new w (.cells #[.bool ul, .bool uh, .bool la, .int .i64 lo, .int .i64 hi, .int .i64 hy] 23) (.cells #[.int .i64 1, .bool wt] 25) (.cells #[.int .i64 0, .bool false] 25)
    have HS := Lib.hid (stepA_stay (l := ⟨ul, uh, la, lo, hi, hy⟩) (a := ⟨1, wt⟩) (v := v) hok rfl hl hh (.inl (by rw [back_one]; exact hb)))
    have HB := Lib.hid hb
    clear hb
    have HC := Lib.hid (chkL_ok hok)
    have HOK := Lib.hid hok
    have HT : Hid (isSt 1 = true) := Lib.hid rfl
    have HL := Lib.hid hl
    have HH := Lib.hid hh
    clear hok hl hh
    go_enter Try.func10, Try.ntmps10
    go_wp2_with fail
    refine (Check8_any ul uh la lo hi hy _).mono ?_
    rintro e w1 ⟨rfl, b1⟩
    rw [HC.out]
    have fr1 := fr.below b1
    clear b1 fr
    obtain ⟨l1, l2, l3, l4, l5, l6⟩ := of6 fr1.1
    obtain ⟨c1, c2⟩ := of2 fr1.2.1
    go_wp2_with fail
    refine (known_any8 1 _).mono ?_
    rintro e w' ⟨rfl, rfl⟩
    rw [HT.out]
    go_wp2_with fail
    refine (sides_any ul uh la lo hi hy _).mono ?_
    rintro e w2 ⟨rfl, b2, hb⟩
    have fr2 := fr1.below b2
    generalize hg : w'.heap.size = g at *
    clear hg b2 fr1 l1 l2 l3 l4 l5 l6 c1 c2
    simp only [loF, loB, hiF, hiB] at *
    have fr3 := fr2.alloc (.cells #[.int .i64 1, .int .i64 1, (.func (.func 28) #[] #[.pointer (some ⟨g, 0, none⟩)]), (.func (.func 29) #[] #[.pointer (some ⟨g, 0, none⟩)]), .int .i64 2, .int .i64 2, (.func (.func 30) #[] #[.pointer (some ⟨g, 0, none⟩)]), (.func (.func 31) #[] #[.pointer (some ⟨g, 0, none⟩)])] 44)
    have hb3 := (heap_alloc_old w2 (.cells #[.int .i64 1, .int .i64 1, (.func (.func 28) #[] #[.pointer (some ⟨g, 0, none⟩)]), (.func (.func 29) #[] #[.pointer (some ⟨g, 0, none⟩)]), .int .i64 2, .int .i64 2, (.func (.func 30) #[] #[.pointer (some ⟨g, 0, none⟩)]), (.func (.func 31) #[] #[.pointer (some ⟨g, 0, none⟩)])] 44) (block_lt hb)).trans hb
    have hk3 := heap_alloc_new w2 (.cells #[.int .i64 1, .int .i64 1, (.func (.func 28) #[] #[.pointer (some ⟨g, 0, none⟩)]), (.func (.func 29) #[] #[.pointer (some ⟨g, 0, none⟩)]), .int .i64 2, .int .i64 2, (.func (.func 30) #[] #[.pointer (some ⟨g, 0, none⟩)]), (.func (.func 31) #[] #[.pointer (some ⟨g, 0, none⟩)])] 44)
    clear hb fr2
    have i0 := idx0 (.int .i64 1) (.int .i64 1) (.func (.func 28) #[] #[.pointer (some ⟨g, 0, none⟩)]) (.func (.func 29) #[] #[.pointer (some ⟨g, 0, none⟩)]) (.int .i64 2) (.int .i64 2) (.func (.func 30) #[] #[.pointer (some ⟨g, 0, none⟩)]) (.func (.func 31) #[] #[.pointer (some ⟨g, 0, none⟩)])
    have i1 := idx1 (.int .i64 1) (.int .i64 1) (.func (.func 28) #[] #[.pointer (some ⟨g, 0, none⟩)]) (.func (.func 29) #[] #[.pointer (some ⟨g, 0, none⟩)]) (.int .i64 2) (.int .i64 2) (.func (.func 30) #[] #[.pointer (some ⟨g, 0, none⟩)]) (.func (.func 31) #[] #[.pointer (some ⟨g, 0, none⟩)])
    go_wp2_with fail
    generalize hw3 : w2.alloc (.cells #[.int .i64 1, .int .i64 1, (.func (.func 28) #[] #[.pointer (some ⟨g, 0, none⟩)]), (.func (.func 29) #[] #[.pointer (some ⟨g, 0, none⟩)]), .int .i64 2, .int .i64 2, (.func (.func 30) #[] #[.pointer (some ⟨g, 0, none⟩)]), (.func (.func 31) #[] #[.pointer (some ⟨g, 0, none⟩)])] 44) = w3 at *
    generalize hk : w2.heap.size = k at *
    clear hw3 hk w2
    refine wp_loop_rounds 3 ?_
    rw [rounds_succ]
    go_wp2_with fail
    have fr4 := fr3.alloc (.cells #[.int .i64 1, .int .i64 1, (.func (.func 28) #[] #[.pointer (some ⟨g, 0, none⟩)]), (.func (.func 29) #[] #[.pointer (some ⟨g, 0, none⟩)])] 43)
    have hb4 := (heap_alloc_old w3 (.cells #[.int .i64 1, .int .i64 1, (.func (.func 28) #[] #[.pointer (some ⟨g, 0, none⟩)]), (.func (.func 29) #[] #[.pointer (some ⟨g, 0, none⟩)])] 43) (block_lt hb3)).trans hb3
    have hk4 := (heap_alloc_old w3 (.cells #[.int .i64 1, .int .i64 1, (.func (.func 28) #[] #[.pointer (some ⟨g, 0, none⟩)]), (.func (.func 29) #[] #[.pointer (some ⟨g, 0, none⟩)])] 43) (block_lt hk3)).trans hk3
    have hx4 := heap_alloc_new w3 (.cells #[.int .i64 1, .int .i64 1, (.func (.func 28) #[] #[.pointer (some ⟨g, 0, none⟩)]), (.func (.func 29) #[] #[.pointer (some ⟨g, 0, none⟩)])] 43)
    clear fr3 hb3 hk3
    refine (lows_any ul uh la lo hi hy v g _ hb4).mono ?_
    rintro e w' ⟨rfl, rfl⟩
    rw [HL.out]
    obtain ⟨y1, y2, y3, y4⟩ := of4 hx4
    generalize hv4 : w3.alloc (.cells #[.int .i64 1, .int .i64 1, (.func (.func 28) #[] #[.pointer (some ⟨g, 0, none⟩)]), (.func (.func 29) #[] #[.pointer (some ⟨g, 0, none⟩)])] 43) = w4 at *
    generalize hz4 : w3.heap.size = x4 at *
    clear hv4 hz4
    go_wp2_with fail
    rw [rounds_succ]
    go_wp2_with fail
    clear y1 y2 y3 y4
    have fr5 := fr4.alloc (.cells #[.int .i64 2, .int .i64 2, (.func (.func 30) #[] #[.pointer (some ⟨g, 0, none⟩)]), (.func (.func 31) #[] #[.pointer (some ⟨g, 0, none⟩)])] 43)
    have hb5 := (heap_alloc_old w4 (.cells #[.int .i64 2, .int .i64 2, (.func (.func 30) #[] #[.pointer (some ⟨g, 0, none⟩)]), (.func (.func 31) #[] #[.pointer (some ⟨g, 0, none⟩)])] 43) (block_lt hb4)).trans hb4
    have hk5 := (heap_alloc_old w4 (.cells #[.int .i64 2, .int .i64 2, (.func (.func 30) #[] #[.pointer (some ⟨g, 0, none⟩)]), (.func (.func 31) #[] #[.pointer (some ⟨g, 0, none⟩)])] 43) (block_lt hk4)).trans hk4
    have hx5 := heap_alloc_new w4 (.cells #[.int .i64 2, .int .i64 2, (.func (.func 30) #[] #[.pointer (some ⟨g, 0, none⟩)]), (.func (.func 31) #[] #[.pointer (some ⟨g, 0, none⟩)])] 43)
    clear fr4 hb4 hk4
    refine (highs_any ul uh la lo hi hy v g _ hb5).mono ?_
    rintro e w' ⟨rfl, rfl⟩
    rw [HH.out]
    obtain ⟨y1, y2, y3, y4⟩ := of4 hx5
    generalize hv5 : w4.alloc (.cells #[.int .i64 2, .int .i64 2, (.func (.func 30) #[] #[.pointer (some ⟨g, 0, none⟩)]), (.func (.func 31) #[] #[.pointer (some ⟨g, 0, none⟩)])] 43) = w5 at *
    generalize hz5 : w4.heap.size = x5 at *
    clear hv5 hz5
    clear y1 y2 y3 y4 hx4 hx5
    obtain ⟨k0, k1, k2, k3, k4, k5, k6, k7⟩ := cells_eight hk5
    go_wp2_with fail
    rw [rounds_succ]
    go_wp2_with fail
    clear k0 k1 k2 k3 k4 k5 k6 k7 hk5
    have fr6 := fr5.alloc (.cells #[.int .i64 1, .int .i64 1, (.func (.func 28) #[] #[.pointer (some ⟨g, 0, none⟩)]), (.func (.func 29) #[] #[.pointer (some ⟨g, 0, none⟩)])] 43)
    have hb6 := (heap_alloc_old w5 (.cells #[.int .i64 1, .int .i64 1, (.func (.func 28) #[] #[.pointer (some ⟨g, 0, none⟩)]), (.func (.func 29) #[] #[.pointer (some ⟨g, 0, none⟩)])] 43) (block_lt hb5)).trans hb5
    clear fr5 hb5
    obtain ⟨d1, d2⟩ := of2 fr6.2.1
    refine wp_loop_rounds 3 ?_
    rw [rounds_succ]
    go_wp2_with fail
    refine (leftl_any ul uh la lo hi hy v g _ HOK.out hb6).mono ?_
    rintro e w' ⟨rfl, rfl⟩
    rw [HB.out]
    generalize hv6 : w5.alloc (.cells #[.int .i64 1, .int .i64 1, (.func (.func 28) #[] #[.pointer (some ⟨g, 0, none⟩)]), (.func (.func 29) #[] #[.pointer (some ⟨g, 0, none⟩)])] 43) = w6 at *
    generalize hz6 : w5.heap.size = x6 at *
    clear hv6 hz6 d1 d2
    have fr7 := fr6.alloc (.cells #[.int .i64 2, .int .i64 2, (.func (.func 30) #[] #[.pointer (some ⟨g, 0, none⟩)]), (.func (.func 31) #[] #[.pointer (some ⟨g, 0, none⟩)])] 43)
    have hb7 := (heap_alloc_old w6 (.cells #[.int .i64 2, .int .i64 2, (.func (.func 30) #[] #[.pointer (some ⟨g, 0, none⟩)]), (.func (.func 31) #[] #[.pointer (some ⟨g, 0, none⟩)])] 43) (block_lt hb6)).trans hb6
    clear fr6 hb6
    obtain ⟨d1, d2⟩ := of2 fr7.2.1
    go_wp2_with fail
    rw [rounds_succ]
    go_wp2_with fail
    generalize hv7 : w6.alloc (.cells #[.int .i64 2, .int .i64 2, (.func (.func 30) #[] #[.pointer (some ⟨g, 0, none⟩)]), (.func (.func 31) #[] #[.pointer (some ⟨g, 0, none⟩)])] 43) = w7 at *
    generalize hz7 : w6.heap.size = x7 at *
    clear hv7 hz7 d1 d2
    obtain ⟨d1, d2⟩ := of2 fr7.2.1
    rw [rounds_succ]
    obtain ⟨z1, z2⟩ := of2 fr7.2.2.1
    obtain ⟨f1, f2⟩ := thaw2 fr7.2.2.1
    have fr9 := fr7.put (.int .i64 1) (.bool wt)
    go_wp2
    (try simp only [Exit.inBlock, Exit.then])
    show bodyPost _ _ _ _ _ (put2 w7 (w.heap.size + 1 + 1) (.int .i64 1) (.bool wt))
    generalize put2 w7 (w.heap.size + 1 + 1) (.int .i64 1) (.bool wt) = w9 at *
    clear z1 z2 f1 f2 d1 d2
    obtain ⟨z1, z2⟩ := of2 fr9.2.2.1
    refine bodyPost_ret (v := .tuple #[.agg #[.int .i64 1, .bool wt], .int .i64 0]) (by simp [results, Try.results10, go_sem, z1, z2]) rfl ?_
    exact ⟨by rw [HS.out]; rfl, fr9.bel⟩

set_option maxHeartbeats 1000000 in
theorem ps_back2 (ul uh la : Bool) (lo hi hy : Int) (wt : Bool) (v : Int) (hok : okL ⟨ul, uh, la, lo, hi, hy⟩ = true) (hl : lowB ⟨ul, uh, la, lo, hi, hy⟩ v = false) (hh : highB ⟨ul, uh, la, lo, hi, hy⟩ v = false) (hb : leftHigh ⟨ul, uh, la, lo, hi, hy⟩ v = true) (s1 : Int) (t1 : Bool) (n1 : Int) (hr : (bif la && wt then (⟨2, wt⟩, 0) else (⟨0, wt⟩, 3)) = ((⟨s1, t1⟩, n1) : Alm × Int)) (w : World) : Calls Try.prog 10 #[.agg #[.bool ul, .bool uh, .bool la, .int .i64 lo, .int .i64 hi, .int .i64 hy], .agg #[.int .i64 2, .bool wt], .int .i64 v] w fun e w' => e = .returned (stepR (stepA ⟨ul, uh, la, lo, hi, hy⟩ ⟨2, wt⟩ v)) ∧ Below w.heap.size w w' := by
    have fr := Box3.new w (.cells #[.bool ul, .bool uh, .bool la, .int .i64 lo, .int .i64 hi, .int .i64 hy] 23) (.cells #[.int .i64 2, .bool wt] 25) (.cells #[.int .i64 0, .bool false] 25)
    have HS := Lib.hid ((stepA_left hok rfl hl hh (by rw [back_two]; exact hb)).trans hr)
    have HB := Lib.hid hb
    have HR := Lib.hid hr
    clear hb hr
    have HC := Lib.hid (chkL_ok hok)
    have HOK := Lib.hid hok
    have HT : Hid (isSt 2 = true) := Lib.hid rfl
    have HL := Lib.hid hl
    have HH := Lib.hid hh
    clear hok hl hh
    go_enter Try.func10, Try.ntmps10
    go_wp2_with fail
    refine (Check8_any ul uh la lo hi hy _).mono ?_
    rintro e w1 ⟨rfl, b1⟩
    rw [HC.out]
    have fr1 := fr.below b1
    clear b1 fr
    obtain ⟨l1, l2, l3, l4, l5, l6⟩ := of6 fr1.1
    obtain ⟨c1, c2⟩ := of2 fr1.2.1
    go_wp2_with fail
    refine (known_any8 2 _).mono ?_
    rintro e w' ⟨rfl, rfl⟩
    rw [HT.out]
    go_wp2_with fail
    refine (sides_any ul uh la lo hi hy _).mono ?_
    rintro e w2 ⟨rfl, b2, hb⟩
    have fr2 := fr1.below b2
    generalize hg : w'.heap.size = g at *
    clear hg b2 fr1 l1 l2 l3 l4 l5 l6 c1 c2
    simp only [loF, loB, hiF, hiB] at *
    have fr3 := fr2.alloc (.cells #[.int .i64 1, .int .i64 1, (.func (.func 28) #[] #[.pointer (some ⟨g, 0, none⟩)]), (.func (.func 29) #[] #[.pointer (some ⟨g, 0, none⟩)]), .int .i64 2, .int .i64 2, (.func (.func 30) #[] #[.pointer (some ⟨g, 0, none⟩)]), (.func (.func 31) #[] #[.pointer (some ⟨g, 0, none⟩)])] 44)
    have hb3 := (heap_alloc_old w2 (.cells #[.int .i64 1, .int .i64 1, (.func (.func 28) #[] #[.pointer (some ⟨g, 0, none⟩)]), (.func (.func 29) #[] #[.pointer (some ⟨g, 0, none⟩)]), .int .i64 2, .int .i64 2, (.func (.func 30) #[] #[.pointer (some ⟨g, 0, none⟩)]), (.func (.func 31) #[] #[.pointer (some ⟨g, 0, none⟩)])] 44) (block_lt hb)).trans hb
    have hk3 := heap_alloc_new w2 (.cells #[.int .i64 1, .int .i64 1, (.func (.func 28) #[] #[.pointer (some ⟨g, 0, none⟩)]), (.func (.func 29) #[] #[.pointer (some ⟨g, 0, none⟩)]), .int .i64 2, .int .i64 2, (.func (.func 30) #[] #[.pointer (some ⟨g, 0, none⟩)]), (.func (.func 31) #[] #[.pointer (some ⟨g, 0, none⟩)])] 44)
    clear hb fr2
    have i0 := idx0 (.int .i64 1) (.int .i64 1) (.func (.func 28) #[] #[.pointer (some ⟨g, 0, none⟩)]) (.func (.func 29) #[] #[.pointer (some ⟨g, 0, none⟩)]) (.int .i64 2) (.int .i64 2) (.func (.func 30) #[] #[.pointer (some ⟨g, 0, none⟩)]) (.func (.func 31) #[] #[.pointer (some ⟨g, 0, none⟩)])
    have i1 := idx1 (.int .i64 1) (.int .i64 1) (.func (.func 28) #[] #[.pointer (some ⟨g, 0, none⟩)]) (.func (.func 29) #[] #[.pointer (some ⟨g, 0, none⟩)]) (.int .i64 2) (.int .i64 2) (.func (.func 30) #[] #[.pointer (some ⟨g, 0, none⟩)]) (.func (.func 31) #[] #[.pointer (some ⟨g, 0, none⟩)])
    go_wp2_with fail
    generalize hw3 : w2.alloc (.cells #[.int .i64 1, .int .i64 1, (.func (.func 28) #[] #[.pointer (some ⟨g, 0, none⟩)]), (.func (.func 29) #[] #[.pointer (some ⟨g, 0, none⟩)]), .int .i64 2, .int .i64 2, (.func (.func 30) #[] #[.pointer (some ⟨g, 0, none⟩)]), (.func (.func 31) #[] #[.pointer (some ⟨g, 0, none⟩)])] 44) = w3 at *
    generalize hk : w2.heap.size = k at *
    clear hw3 hk w2
    refine wp_loop_rounds 3 ?_
    rw [rounds_succ]
    go_wp2_with fail
    have fr4 := fr3.alloc (.cells #[.int .i64 1, .int .i64 1, (.func (.func 28) #[] #[.pointer (some ⟨g, 0, none⟩)]), (.func (.func 29) #[] #[.pointer (some ⟨g, 0, none⟩)])] 43)
    have hb4 := (heap_alloc_old w3 (.cells #[.int .i64 1, .int .i64 1, (.func (.func 28) #[] #[.pointer (some ⟨g, 0, none⟩)]), (.func (.func 29) #[] #[.pointer (some ⟨g, 0, none⟩)])] 43) (block_lt hb3)).trans hb3
    have hk4 := (heap_alloc_old w3 (.cells #[.int .i64 1, .int .i64 1, (.func (.func 28) #[] #[.pointer (some ⟨g, 0, none⟩)]), (.func (.func 29) #[] #[.pointer (some ⟨g, 0, none⟩)])] 43) (block_lt hk3)).trans hk3
    have hx4 := heap_alloc_new w3 (.cells #[.int .i64 1, .int .i64 1, (.func (.func 28) #[] #[.pointer (some ⟨g, 0, none⟩)]), (.func (.func 29) #[] #[.pointer (some ⟨g, 0, none⟩)])] 43)
    clear fr3 hb3 hk3
    refine (lows_any ul uh la lo hi hy v g _ hb4).mono ?_
    rintro e w' ⟨rfl, rfl⟩
    rw [HL.out]
    obtain ⟨y1, y2, y3, y4⟩ := of4 hx4
    generalize hv4 : w3.alloc (.cells #[.int .i64 1, .int .i64 1, (.func (.func 28) #[] #[.pointer (some ⟨g, 0, none⟩)]), (.func (.func 29) #[] #[.pointer (some ⟨g, 0, none⟩)])] 43) = w4 at *
    generalize hz4 : w3.heap.size = x4 at *
    clear hv4 hz4
    go_wp2_with fail
    rw [rounds_succ]
    go_wp2_with fail
    clear y1 y2 y3 y4
    have fr5 := fr4.alloc (.cells #[.int .i64 2, .int .i64 2, (.func (.func 30) #[] #[.pointer (some ⟨g, 0, none⟩)]), (.func (.func 31) #[] #[.pointer (some ⟨g, 0, none⟩)])] 43)
    have hb5 := (heap_alloc_old w4 (.cells #[.int .i64 2, .int .i64 2, (.func (.func 30) #[] #[.pointer (some ⟨g, 0, none⟩)]), (.func (.func 31) #[] #[.pointer (some ⟨g, 0, none⟩)])] 43) (block_lt hb4)).trans hb4
    have hk5 := (heap_alloc_old w4 (.cells #[.int .i64 2, .int .i64 2, (.func (.func 30) #[] #[.pointer (some ⟨g, 0, none⟩)]), (.func (.func 31) #[] #[.pointer (some ⟨g, 0, none⟩)])] 43) (block_lt hk4)).trans hk4
    have hx5 := heap_alloc_new w4 (.cells #[.int .i64 2, .int .i64 2, (.func (.func 30) #[] #[.pointer (some ⟨g, 0, none⟩)]), (.func (.func 31) #[] #[.pointer (some ⟨g, 0, none⟩)])] 43)
    clear fr4 hb4 hk4
    refine (highs_any ul uh la lo hi hy v g _ hb5).mono ?_
    rintro e w' ⟨rfl, rfl⟩
    rw [HH.out]
    obtain ⟨y1, y2, y3, y4⟩ := of4 hx5
    generalize hv5 : w4.alloc (.cells #[.int .i64 2, .int .i64 2, (.func (.func 30) #[] #[.pointer (some ⟨g, 0, none⟩)]), (.func (.func 31) #[] #[.pointer (some ⟨g, 0, none⟩)])] 43) = w5 at *
    generalize hz5 : w4.heap.size = x5 at *
    clear hv5 hz5
    clear y1 y2 y3 y4 hx4 hx5
    obtain ⟨k0, k1, k2, k3, k4, k5, k6, k7⟩ := cells_eight hk5
    go_wp2_with fail
    rw [rounds_succ]
    go_wp2_with fail
    clear k0 k1 k2 k3 k4 k5 k6 k7 hk5
    have fr6 := fr5.alloc (.cells #[.int .i64 1, .int .i64 1, (.func (.func 28) #[] #[.pointer (some ⟨g, 0, none⟩)]), (.func (.func 29) #[] #[.pointer (some ⟨g, 0, none⟩)])] 43)
    have hb6 := (heap_alloc_old w5 (.cells #[.int .i64 1, .int .i64 1, (.func (.func 28) #[] #[.pointer (some ⟨g, 0, none⟩)]), (.func (.func 29) #[] #[.pointer (some ⟨g, 0, none⟩)])] 43) (block_lt hb5)).trans hb5
    clear fr5 hb5
    obtain ⟨d1, d2⟩ := of2 fr6.2.1
    refine wp_loop_rounds 3 ?_
    rw [rounds_succ]
    go_wp2_with fail
    generalize hv6 : w5.alloc (.cells #[.int .i64 1, .int .i64 1, (.func (.func 28) #[] #[.pointer (some ⟨g, 0, none⟩)]), (.func (.func 29) #[] #[.pointer (some ⟨g, 0, none⟩)])] 43) = w6 at *
    generalize hz6 : w5.heap.size = x6 at *
    clear hv6 hz6 d1 d2
    have fr7 := fr6.alloc (.cells #[.int .i64 2, .int .i64 2, (.func (.func 30) #[] #[.pointer (some ⟨g, 0, none⟩)]), (.func (.func 31) #[] #[.pointer (some ⟨g, 0, none⟩)])] 43)
    have hb7 := (heap_alloc_old w6 (.cells #[.int .i64 2, .int .i64 2, (.func (.func 30) #[] #[.pointer (some ⟨g, 0, none⟩)]), (.func (.func 31) #[] #[.pointer (some ⟨g, 0, none⟩)])] 43) (block_lt hb6)).trans hb6
    clear fr6 hb6
    obtain ⟨d1, d2⟩ := of2 fr7.2.1
    rw [rounds_succ]
    go_wp2_with fail
    refine (lefth_any ul uh la lo hi hy v g _ HOK.out hb7).mono ?_
    rintro e w' ⟨rfl, rfl⟩
    rw [HB.out]
    generalize hv7 : w6.alloc (.cells #[.int .i64 2, .int .i64 2, (.func (.func 30) #[] #[.pointer (some ⟨g, 0, none⟩)]), (.func (.func 31) #[] #[.pointer (some ⟨g, 0, none⟩)])] 43) = w7 at *
    generalize hz7 : w6.heap.size = x7 at *
    clear hv7 hz7 d1 d2
    obtain ⟨d1, d2⟩ := of2 fr7.2.1
    obtain ⟨l1, l2, l3, l4, l5, l6⟩ := of6 fr7.1
    go_wp2_with fail
    refine (settle_any ul uh la lo hi hy 2 wt _).mono ?_
    rintro e w9 ⟨rfl, b9⟩
    rw [HR.out]
    simp only [stepR_mk]
    have fr8 := fr7.below b9
    clear b9 d1 d2 l1 l2 l3 l4 l5 l6
    obtain ⟨z1, z2⟩ := of2 fr8.2.2.1
    obtain ⟨f1, f2⟩ := thaw2 fr8.2.2.1
    have fr9 := fr8.put (.int .i64 s1) (.bool t1)
    go_wp2
    (try simp only [Exit.inBlock, Exit.then])
    show bodyPost _ _ _ _ _ (put2 w9 (w.heap.size + 1 + 1) (.int .i64 s1) (.bool t1))
    generalize put2 w9 (w.heap.size + 1 + 1) (.int .i64 s1) (.bool t1) = w9 at *
    clear z1 z2 f1 f2
    obtain ⟨z1, z2⟩ := of2 fr9.2.2.1
    refine bodyPost_ret (v := .tuple #[.agg #[.int .i64 s1, .bool t1], .int .i64 n1]) (by simp [results, Try.results10, go_sem, z1, z2]) rfl ?_
    exact ⟨by rw [HS.out]; rfl, fr9.bel⟩

set_option maxHeartbeats 1000000 in
theorem ps_stay2 (ul uh la : Bool) (lo hi hy : Int) (wt : Bool) (v : Int) (hok : okL ⟨ul, uh, la, lo, hi, hy⟩ = true) (hl : lowB ⟨ul, uh, la, lo, hi, hy⟩ v = false) (hh : highB ⟨ul, uh, la, lo, hi, hy⟩ v = false) (hb : leftHigh ⟨ul, uh, la, lo, hi, hy⟩ v = false) (w : World) : Calls Try.prog 10 #[.agg #[.bool ul, .bool uh, .bool la, .int .i64 lo, .int .i64 hi, .int .i64 hy], .agg #[.int .i64 2, .bool wt], .int .i64 v] w fun e w' => e = .returned (stepR (stepA ⟨ul, uh, la, lo, hi, hy⟩ ⟨2, wt⟩ v)) ∧ Below w.heap.size w w' := by
    have fr := Box3.new w (.cells #[.bool ul, .bool uh, .bool la, .int .i64 lo, .int .i64 hi, .int .i64 hy] 23) (.cells #[.int .i64 2, .bool wt] 25) (.cells #[.int .i64 0, .bool false] 25)
    have HS := Lib.hid (stepA_stay (l := ⟨ul, uh, la, lo, hi, hy⟩) (a := ⟨2, wt⟩) (v := v) hok rfl hl hh (.inl (by rw [back_two]; exact hb)))
    have HB := Lib.hid hb
    clear hb
    have HC := Lib.hid (chkL_ok hok)
    have HOK := Lib.hid hok
    have HT : Hid (isSt 2 = true) := Lib.hid rfl
    have HL := Lib.hid hl
    have HH := Lib.hid hh
    clear hok hl hh
    go_enter Try.func10, Try.ntmps10
    go_wp2_with fail
    refine (Check8_any ul uh la lo hi hy _).mono ?_
    rintro e w1 ⟨rfl, b1⟩
    rw [HC.out]
    have fr1 := fr.below b1
    clear b1 fr
    obtain ⟨l1, l2, l3, l4, l5, l6⟩ := of6 fr1.1
    obtain ⟨c1, c2⟩ := of2 fr1.2.1
    go_wp2_with fail
    refine (known_any8 2 _).mono ?_
    rintro e w' ⟨rfl, rfl⟩
    rw [HT.out]
    go_wp2_with fail
    refine (sides_any ul uh la lo hi hy _).mono ?_
    rintro e w2 ⟨rfl, b2, hb⟩
    have fr2 := fr1.below b2
    generalize hg : w'.heap.size = g at *
    clear hg b2 fr1 l1 l2 l3 l4 l5 l6 c1 c2
    simp only [loF, loB, hiF, hiB] at *
    have fr3 := fr2.alloc (.cells #[.int .i64 1, .int .i64 1, (.func (.func 28) #[] #[.pointer (some ⟨g, 0, none⟩)]), (.func (.func 29) #[] #[.pointer (some ⟨g, 0, none⟩)]), .int .i64 2, .int .i64 2, (.func (.func 30) #[] #[.pointer (some ⟨g, 0, none⟩)]), (.func (.func 31) #[] #[.pointer (some ⟨g, 0, none⟩)])] 44)
    have hb3 := (heap_alloc_old w2 (.cells #[.int .i64 1, .int .i64 1, (.func (.func 28) #[] #[.pointer (some ⟨g, 0, none⟩)]), (.func (.func 29) #[] #[.pointer (some ⟨g, 0, none⟩)]), .int .i64 2, .int .i64 2, (.func (.func 30) #[] #[.pointer (some ⟨g, 0, none⟩)]), (.func (.func 31) #[] #[.pointer (some ⟨g, 0, none⟩)])] 44) (block_lt hb)).trans hb
    have hk3 := heap_alloc_new w2 (.cells #[.int .i64 1, .int .i64 1, (.func (.func 28) #[] #[.pointer (some ⟨g, 0, none⟩)]), (.func (.func 29) #[] #[.pointer (some ⟨g, 0, none⟩)]), .int .i64 2, .int .i64 2, (.func (.func 30) #[] #[.pointer (some ⟨g, 0, none⟩)]), (.func (.func 31) #[] #[.pointer (some ⟨g, 0, none⟩)])] 44)
    clear hb fr2
    have i0 := idx0 (.int .i64 1) (.int .i64 1) (.func (.func 28) #[] #[.pointer (some ⟨g, 0, none⟩)]) (.func (.func 29) #[] #[.pointer (some ⟨g, 0, none⟩)]) (.int .i64 2) (.int .i64 2) (.func (.func 30) #[] #[.pointer (some ⟨g, 0, none⟩)]) (.func (.func 31) #[] #[.pointer (some ⟨g, 0, none⟩)])
    have i1 := idx1 (.int .i64 1) (.int .i64 1) (.func (.func 28) #[] #[.pointer (some ⟨g, 0, none⟩)]) (.func (.func 29) #[] #[.pointer (some ⟨g, 0, none⟩)]) (.int .i64 2) (.int .i64 2) (.func (.func 30) #[] #[.pointer (some ⟨g, 0, none⟩)]) (.func (.func 31) #[] #[.pointer (some ⟨g, 0, none⟩)])
    go_wp2_with fail
    generalize hw3 : w2.alloc (.cells #[.int .i64 1, .int .i64 1, (.func (.func 28) #[] #[.pointer (some ⟨g, 0, none⟩)]), (.func (.func 29) #[] #[.pointer (some ⟨g, 0, none⟩)]), .int .i64 2, .int .i64 2, (.func (.func 30) #[] #[.pointer (some ⟨g, 0, none⟩)]), (.func (.func 31) #[] #[.pointer (some ⟨g, 0, none⟩)])] 44) = w3 at *
    generalize hk : w2.heap.size = k at *
    clear hw3 hk w2
    refine wp_loop_rounds 3 ?_
    rw [rounds_succ]
    go_wp2_with fail
    have fr4 := fr3.alloc (.cells #[.int .i64 1, .int .i64 1, (.func (.func 28) #[] #[.pointer (some ⟨g, 0, none⟩)]), (.func (.func 29) #[] #[.pointer (some ⟨g, 0, none⟩)])] 43)
    have hb4 := (heap_alloc_old w3 (.cells #[.int .i64 1, .int .i64 1, (.func (.func 28) #[] #[.pointer (some ⟨g, 0, none⟩)]), (.func (.func 29) #[] #[.pointer (some ⟨g, 0, none⟩)])] 43) (block_lt hb3)).trans hb3
    have hk4 := (heap_alloc_old w3 (.cells #[.int .i64 1, .int .i64 1, (.func (.func 28) #[] #[.pointer (some ⟨g, 0, none⟩)]), (.func (.func 29) #[] #[.pointer (some ⟨g, 0, none⟩)])] 43) (block_lt hk3)).trans hk3
    have hx4 := heap_alloc_new w3 (.cells #[.int .i64 1, .int .i64 1, (.func (.func 28) #[] #[.pointer (some ⟨g, 0, none⟩)]), (.func (.func 29) #[] #[.pointer (some ⟨g, 0, none⟩)])] 43)
    clear fr3 hb3 hk3
    refine (lows_any ul uh la lo hi hy v g _ hb4).mono ?_
    rintro e w' ⟨rfl, rfl⟩
    rw [HL.out]
    obtain ⟨y1, y2, y3, y4⟩ := of4 hx4
    generalize hv4 : w3.alloc (.cells #[.int .i64 1, .int .i64 1, (.func (.func 28) #[] #[.pointer (some ⟨g, 0, none⟩)]), (.func (.func 29) #[] #[.pointer (some ⟨g, 0, none⟩)])] 43) = w4 at *
    generalize hz4 : w3.heap.size = x4 at *
    clear hv4 hz4
    go_wp2_with fail
    rw [rounds_succ]
    go_wp2_with fail
    clear y1 y2 y3 y4
    have fr5 := fr4.alloc (.cells #[.int .i64 2, .int .i64 2, (.func (.func 30) #[] #[.pointer (some ⟨g, 0, none⟩)]), (.func (.func 31) #[] #[.pointer (some ⟨g, 0, none⟩)])] 43)
    have hb5 := (heap_alloc_old w4 (.cells #[.int .i64 2, .int .i64 2, (.func (.func 30) #[] #[.pointer (some ⟨g, 0, none⟩)]), (.func (.func 31) #[] #[.pointer (some ⟨g, 0, none⟩)])] 43) (block_lt hb4)).trans hb4
    have hk5 := (heap_alloc_old w4 (.cells #[.int .i64 2, .int .i64 2, (.func (.func 30) #[] #[.pointer (some ⟨g, 0, none⟩)]), (.func (.func 31) #[] #[.pointer (some ⟨g, 0, none⟩)])] 43) (block_lt hk4)).trans hk4
    have hx5 := heap_alloc_new w4 (.cells #[.int .i64 2, .int .i64 2, (.func (.func 30) #[] #[.pointer (some ⟨g, 0, none⟩)]), (.func (.func 31) #[] #[.pointer (some ⟨g, 0, none⟩)])] 43)
    clear fr4 hb4 hk4
    refine (highs_any ul uh la lo hi hy v g _ hb5).mono ?_
    rintro e w' ⟨rfl, rfl⟩
    rw [HH.out]
    obtain ⟨y1, y2, y3, y4⟩ := of4 hx5
    generalize hv5 : w4.alloc (.cells #[.int .i64 2, .int .i64 2, (.func (.func 30) #[] #[.pointer (some ⟨g, 0, none⟩)]), (.func (.func 31) #[] #[.pointer (some ⟨g, 0, none⟩)])] 43) = w5 at *
    generalize hz5 : w4.heap.size = x5 at *
    clear hv5 hz5
    clear y1 y2 y3 y4 hx4 hx5
    obtain ⟨k0, k1, k2, k3, k4, k5, k6, k7⟩ := cells_eight hk5
    go_wp2_with fail
    rw [rounds_succ]
    go_wp2_with fail
    clear k0 k1 k2 k3 k4 k5 k6 k7 hk5
    have fr6 := fr5.alloc (.cells #[.int .i64 1, .int .i64 1, (.func (.func 28) #[] #[.pointer (some ⟨g, 0, none⟩)]), (.func (.func 29) #[] #[.pointer (some ⟨g, 0, none⟩)])] 43)
    have hb6 := (heap_alloc_old w5 (.cells #[.int .i64 1, .int .i64 1, (.func (.func 28) #[] #[.pointer (some ⟨g, 0, none⟩)]), (.func (.func 29) #[] #[.pointer (some ⟨g, 0, none⟩)])] 43) (block_lt hb5)).trans hb5
    clear fr5 hb5
    obtain ⟨d1, d2⟩ := of2 fr6.2.1
    refine wp_loop_rounds 3 ?_
    rw [rounds_succ]
    go_wp2_with fail
    generalize hv6 : w5.alloc (.cells #[.int .i64 1, .int .i64 1, (.func (.func 28) #[] #[.pointer (some ⟨g, 0, none⟩)]), (.func (.func 29) #[] #[.pointer (some ⟨g, 0, none⟩)])] 43) = w6 at *
    generalize hz6 : w5.heap.size = x6 at *
    clear hv6 hz6 d1 d2
    have fr7 := fr6.alloc (.cells #[.int .i64 2, .int .i64 2, (.func (.func 30) #[] #[.pointer (some ⟨g, 0, none⟩)]), (.func (.func 31) #[] #[.pointer (some ⟨g, 0, none⟩)])] 43)
    have hb7 := (heap_alloc_old w6 (.cells #[.int .i64 2, .int .i64 2, (.func (.func 30) #[] #[.pointer (some ⟨g, 0, none⟩)]), (.func (.func 31) #[] #[.pointer (some ⟨g, 0, none⟩)])] 43) (block_lt hb6)).trans hb6
    clear fr6 hb6
    obtain ⟨d1, d2⟩ := of2 fr7.2.1
    rw [rounds_succ]
    go_wp2_with fail
    refine (lefth_any ul uh la lo hi hy v g _ HOK.out hb7).mono ?_
    rintro e w' ⟨rfl, rfl⟩
    rw [HB.out]
    generalize hv7 : w6.alloc (.cells #[.int .i64 2, .int .i64 2, (.func (.func 30) #[] #[.pointer (some ⟨g, 0, none⟩)]), (.func (.func 31) #[] #[.pointer (some ⟨g, 0, none⟩)])] 43) = w7 at *
    generalize hz7 : w6.heap.size = x7 at *
    clear hv7 hz7 d1 d2
    obtain ⟨d1, d2⟩ := of2 fr7.2.1
    go_wp2_with fail
    rw [rounds_succ]
    obtain ⟨z1, z2⟩ := of2 fr7.2.2.1
    obtain ⟨f1, f2⟩ := thaw2 fr7.2.2.1
    have fr9 := fr7.put (.int .i64 2) (.bool wt)
    go_wp2
    (try simp only [Exit.inBlock, Exit.then])
    show bodyPost _ _ _ _ _ (put2 w7 (w.heap.size + 1 + 1) (.int .i64 2) (.bool wt))
    generalize put2 w7 (w.heap.size + 1 + 1) (.int .i64 2) (.bool wt) = w9 at *
    clear z1 z2 f1 f2 d1 d2
    obtain ⟨z1, z2⟩ := of2 fr9.2.2.1
    refine bodyPost_ret (v := .tuple #[.agg #[.int .i64 2, .bool wt], .int .i64 0]) (by simp [results, Try.results10, go_sem, z1, z2]) rfl ?_
    exact ⟨by rw [HS.out]; rfl, fr9.bel⟩

theorem Step8_any (ul uh la : Bool) (lo hi hy : Int) (st : Int) (wt : Bool) (v : Int) (w : World) : Calls Try.prog 10 #[.agg #[.bool ul, .bool uh, .bool la, .int .i64 lo, .int .i64 hi, .int .i64 hy], .agg #[.int .i64 st, .bool wt], .int .i64 v] w fun e w' => e = .returned (stepR (stepA ⟨ul, uh, la, lo, hi, hy⟩ ⟨st, wt⟩ v)) ∧ Below w.heap.size w w' := by
  cases hok : okL ⟨ul, uh, la, lo, hi, hy⟩
  · exact ps_bad ul uh la lo hi hy st wt v hok w
  cases hst : isSt st
  · exact ps_none ul uh la lo hi hy st wt v hok hst w
  cases hl : lowB ⟨ul, uh, la, lo, hi, hy⟩ v
  case true =>
    by_cases h1 : st = 1
    · subst h1; exact ps_low1 ul uh la lo hi hy wt v hok hl w
    · exact ps_low ul uh la lo hi hy st wt v hok hst h1 hl w
  cases hh : highB ⟨ul, uh, la, lo, hi, hy⟩ v
  case true =>
    by_cases h2 : st = 2
    · subst h2; exact ps_high2 ul uh la lo hi hy wt v hok hl hh w
    · exact ps_high ul uh la lo hi hy st wt v hok hst h2 hl hh w
  by_cases h0 : st = 0
  · subst h0; exact ps_none0 ul uh la lo hi hy wt v hok hl hh w
  by_cases h1 : st = 1
  · subst h1
    cases hb : leftLow ⟨ul, uh, la, lo, hi, hy⟩ v
    · exact ps_stay1 ul uh la lo hi hy wt v hok hl hh hb w
    · exact ps_back1 ul uh la lo hi hy wt v hok hl hh hb _ _ _ rfl w
  by_cases h2 : st = 2
  · subst h2
    cases hb : leftHigh ⟨ul, uh, la, lo, hi, hy⟩ v
    · exact ps_stay2 ul uh la lo hi hy wt v hok hl hh hb w
    · exact ps_back2 ul uh la lo hi hy wt v hok hl hh hb _ _ _ rfl w
  · rw [isSt_no h0 h1 h2] at hst; cases hst
end Go.Proofs.Ytlbblddpfijciaa
