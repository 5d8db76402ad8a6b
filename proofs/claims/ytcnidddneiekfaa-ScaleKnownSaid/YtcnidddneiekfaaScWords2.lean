/-
  Contract of the document's Words of layer 6.
-/
import Derived.Test.YtcnidddneiekfaaScWords
namespace Go.Proofs.Ytcnidddneiekfaa
open Go.RowKit
set_option linter.unusedVariables false
set_option linter.unusedSimpArgs false

/-- A number without its sign. -/
theorem lay_over {s : Sc} {n N : Int} (h : N = n ∨ N = n + many s) : layS s N = layS s n := by
  rcases h with rfl | rfl
  · rfl
  · obtain ⟨wd, sg, sw, mu, di, ad⟩ := s
    cases wd <;> cases sw <;> simp only [layS, many, if_true, Bool.false_eq_true, if_false, List.cons.injEq, and_true] <;> omega

set_option maxHeartbeats 2000000 in
theorem refWords_false_false_false (mu di ad n : Int) (hn : -9223372036854775808 ≤ n ∧ n < 9223372036854775808) (w : World) (hok : Sc.Ok (⟨false, false, false, mu, di, ad⟩ : Sc)) : Calls Try.prog 19 #[.agg #[.bool false, .bool false, .bool false, .int .i64 mu, .int .i64 di, .int .i64 ad], .int .i64 n] w (GivesW w (wordsS (⟨false, false, false, mu, di, ad⟩ : Sc) n) (wordsE (⟨false, false, false, mu, di, ad⟩ : Sc) n)) := by
  have bx0 := Bx.new w (.cells #[.bool false, .bool false, .bool false, .int .i64 mu, .int .i64 di, .int .i64 ad] 23)
  have HC := Lib.hid (chkS_yes hok)
  have hm : Hid (many (⟨false, false, false, mu, di, ad⟩ : Sc) = 65536) := Lib.hid rfl
  have hlo : Hid (lowS (⟨false, false, false, mu, di, ad⟩ : Sc) = 0) := Lib.hid (by simp [lowS, many])
  by_cases h1 : n < 0
  · have HE : Hid (wordsE (⟨false, false, false, mu, di, ad⟩ : Sc) n = 3) := Lib.hid (by unfold wordsE; rw [if_pos hok, hlo.out, if_neg (by omega)])
    have HW : Hid (wordsS (⟨false, false, false, mu, di, ad⟩ : Sc) n = []) := Lib.hid (by unfold wordsS; rw [if_neg (by rw [HE.out]; omega)])
    clear hok
    go_enter Try.func19, Try.ntmps19
    go_wp2_with fail
    refine (refCheck_any _ _ _ _ _ _ _).mono ?_
    rintro e w1 ⟨rfl, b1⟩
    rw [HC.out]
    have bx1 := bx0.below b1
    obtain ⟨d0, d1, d2, d3, d4, d5⟩ := bx1.six
    clear bx0 b1
    have bel := bx1.2
    go_wp2
    go_ret2
    exact ⟨none, 0, w.heap.size, by rw [HE.out]; rfl, by rw [HW.out]; rfl, Nat.le_refl _, .inl ⟨rfl, rfl⟩, bel⟩
  by_cases h2 : 65535 < n
  · have HE : Hid (wordsE (⟨false, false, false, mu, di, ad⟩ : Sc) n = 3) := Lib.hid (by unfold wordsE; rw [if_pos hok, hlo.out, hm.out, if_neg (by omega)])
    have HW : Hid (wordsS (⟨false, false, false, mu, di, ad⟩ : Sc) n = []) := Lib.hid (by unfold wordsS; rw [if_neg (by rw [HE.out]; omega)])
    clear hok
    go_enter Try.func19, Try.ntmps19
    go_wp2_with fail
    refine (refCheck_any _ _ _ _ _ _ _).mono ?_
    rintro e w1 ⟨rfl, b1⟩
    rw [HC.out]
    have bx1 := bx0.below b1
    obtain ⟨d0, d1, d2, d3, d4, d5⟩ := bx1.six
    clear bx0 b1
    go_wp2_with fail
    refine (Many_any _ _ _ _ _ _ _).mono ?_
    rintro e w2 ⟨rfl, b2⟩
    rw [hm.out]
    have bx2 := bx1.below b2
    clear d0 d1 d2 d3 d4 d5 bx1 b2
    obtain ⟨d0, d1, d2, d3, d4, d5⟩ := bx2.six
    have bel := bx2.2
    go_wp2
    go_ret2
    exact ⟨none, 0, w.heap.size, by rw [HE.out]; rfl, by rw [HW.out]; rfl, Nat.le_refl _, .inl ⟨rfl, rfl⟩, bel⟩
  have HE : Hid (wordsE (⟨false, false, false, mu, di, ad⟩ : Sc) n = 0) := Lib.hid (by unfold wordsE; rw [if_pos hok, hlo.out, hm.out, if_pos ⟨by omega, by omega⟩])
  have lay : ∀ N : Int, 0 ≤ N → N < 65536 → (N = n ∨ N = n + many (⟨false, false, false, mu, di, ad⟩ : Sc)) → Hid (wordsS (⟨false, false, false, mu, di, ad⟩ : Sc) n = [N]) := by
    intro N h3 h4 h5
    refine Lib.hid ?_
    unfold wordsS
    rw [if_pos HE.out, ← lay_over h5]
    simp only [layS, if_true, Bool.false_eq_true, if_false]
    rw [Int.emod_eq_of_lt h3 h4]
  obtain ⟨N, hN⟩ : ∃ N : Int, N = n := ⟨_, rfl⟩
  have hNb : 0 ≤ N ∧ N < 65536 := by omega
  have HW := lay N hNb.1 hNb.2 (.inl hN)
  obtain ⟨L, hL⟩ : ∃ L : List Int, L = [N] := ⟨_, rfl⟩
  clear hok lay
  have h00 : ¬ n < 0 := by omega
  have eN : n = N := hN.symm
  subst eN
  clear hN
  go_enter Try.func19, Try.ntmps19
  go_wp2_with fail
  refine (refCheck_any _ _ _ _ _ _ _).mono ?_
  rintro e w1 ⟨rfl, b1⟩
  rw [HC.out]
  have bx1 := bx0.below b1
  obtain ⟨d0, d1, d2, d3, d4, d5⟩ := bx1.six
  clear bx0 b1
  go_wp2_with fail
  refine (Many_any _ _ _ _ _ _ _).mono ?_
  rintro e w2 ⟨rfl, b2⟩
  rw [hm.out]
  have bx2 := bx1.below b2
  clear d0 d1 d2 d3 d4 d5 bx1 b2
  obtain ⟨d0, d1, d2, d3, d4, d5⟩ := bx2.six
  have hs := bx2.2.size
  have bel := bx2.2.trans ((bel_alloc w2 (.cells (blk .u16 L) 41)).mono hs)
  have g0 := heap_alloc_new w2 (.cells (blk .u16 L) 41)
  subst hL
  go_wp2
  go_ret2
  exact ⟨some ⟨w2.heap.size, 0, none⟩, _, w2.heap.size, by rw [HE.out]; rfl, by rw [HW.out]; rfl, hs, .inr ⟨rfl, by rw [HW.out]; exact g0⟩, bel⟩

set_option maxHeartbeats 2000000 in
theorem refWords_false_true_false (mu di ad n : Int) (hn : -9223372036854775808 ≤ n ∧ n < 9223372036854775808) (w : World) (hok : Sc.Ok (⟨false, true, false, mu, di, ad⟩ : Sc)) : Calls Try.prog 19 #[.agg #[.bool false, .bool true, .bool false, .int .i64 mu, .int .i64 di, .int .i64 ad], .int .i64 n] w (GivesW w (wordsS (⟨false, true, false, mu, di, ad⟩ : Sc) n) (wordsE (⟨false, true, false, mu, di, ad⟩ : Sc) n)) := by
  have bx0 := Bx.new w (.cells #[.bool false, .bool true, .bool false, .int .i64 mu, .int .i64 di, .int .i64 ad] 23)
  have HC := Lib.hid (chkS_yes hok)
  have hm : Hid (many (⟨false, true, false, mu, di, ad⟩ : Sc) = 65536) := Lib.hid rfl
  have hlo : Hid (lowS (⟨false, true, false, mu, di, ad⟩ : Sc) = -32768) := Lib.hid (by simp [lowS, many])
  by_cases h1 : n < -32768
  · have HE : Hid (wordsE (⟨false, true, false, mu, di, ad⟩ : Sc) n = 3) := Lib.hid (by unfold wordsE; rw [if_pos hok, hlo.out, if_neg (by omega)])
    have HW : Hid (wordsS (⟨false, true, false, mu, di, ad⟩ : Sc) n = []) := Lib.hid (by unfold wordsS; rw [if_neg (by rw [HE.out]; omega)])
    clear hok
    go_enter Try.func19, Try.ntmps19
    go_wp2_with fail
    refine (refCheck_any _ _ _ _ _ _ _).mono ?_
    rintro e w1 ⟨rfl, b1⟩
    rw [HC.out]
    have bx1 := bx0.below b1
    obtain ⟨d0, d1, d2, d3, d4, d5⟩ := bx1.six
    clear bx0 b1
    go_wp2_with fail
    refine (Many_any _ _ _ _ _ _ _).mono ?_
    rintro e w2 ⟨rfl, b2⟩
    rw [hm.out]
    have bx2 := bx1.below b2
    clear d0 d1 d2 d3 d4 d5 bx1 b2
    obtain ⟨d0, d1, d2, d3, d4, d5⟩ := bx2.six
    have bel := bx2.2
    go_wp2
    go_ret2
    exact ⟨none, 0, w.heap.size, by rw [HE.out]; rfl, by rw [HW.out]; rfl, Nat.le_refl _, .inl ⟨rfl, rfl⟩, bel⟩
  by_cases h2 : 32767 < n
  · have HE : Hid (wordsE (⟨false, true, false, mu, di, ad⟩ : Sc) n = 3) := Lib.hid (by unfold wordsE; rw [if_pos hok, hlo.out, hm.out, if_neg (by omega)])
    have HW : Hid (wordsS (⟨false, true, false, mu, di, ad⟩ : Sc) n = []) := Lib.hid (by unfold wordsS; rw [if_neg (by rw [HE.out]; omega)])
    clear hok
    go_enter Try.func19, Try.ntmps19
    go_wp2_with fail
    refine (refCheck_any _ _ _ _ _ _ _).mono ?_
    rintro e w1 ⟨rfl, b1⟩
    rw [HC.out]
    have bx1 := bx0.below b1
    obtain ⟨d0, d1, d2, d3, d4, d5⟩ := bx1.six
    clear bx0 b1
    go_wp2_with fail
    refine (Many_any _ _ _ _ _ _ _).mono ?_
    rintro e w2 ⟨rfl, b2⟩
    rw [hm.out]
    have bx2 := bx1.below b2
    clear d0 d1 d2 d3 d4 d5 bx1 b2
    obtain ⟨d0, d1, d2, d3, d4, d5⟩ := bx2.six
    go_wp2_with fail
    refine (Many_any _ _ _ _ _ _ _).mono ?_
    rintro e w3 ⟨rfl, b3⟩
    rw [hm.out]
    have bx3 := bx2.below b3
    clear d0 d1 d2 d3 d4 d5 bx2 b3
    obtain ⟨d0, d1, d2, d3, d4, d5⟩ := bx3.six
    have bel := bx3.2
    go_wp2
    go_ret2
    exact ⟨none, 0, w.heap.size, by rw [HE.out]; rfl, by rw [HW.out]; rfl, Nat.le_refl _, .inl ⟨rfl, rfl⟩, bel⟩
  have HE : Hid (wordsE (⟨false, true, false, mu, di, ad⟩ : Sc) n = 0) := Lib.hid (by unfold wordsE; rw [if_pos hok, hlo.out, hm.out, if_pos ⟨by omega, by omega⟩])
  have lay : ∀ N : Int, 0 ≤ N → N < 65536 → (N = n ∨ N = n + many (⟨false, true, false, mu, di, ad⟩ : Sc)) → Hid (wordsS (⟨false, true, false, mu, di, ad⟩ : Sc) n = [N]) := by
    intro N h3 h4 h5
    refine Lib.hid ?_
    unfold wordsS
    rw [if_pos HE.out, ← lay_over h5]
    simp only [layS, if_true, Bool.false_eq_true, if_false]
    rw [Int.emod_eq_of_lt h3 h4]
  by_cases h0 : n < 0
  · obtain ⟨N, hN⟩ : ∃ N : Int, N = n + 65536 := ⟨_, rfl⟩
    have hNb : 0 ≤ N ∧ N < 65536 := by omega
    have HW := lay N hNb.1 hNb.2 (.inr hN)
    obtain ⟨L, hL⟩ : ∃ L : List Int, L = [N] := ⟨_, rfl⟩
    clear hok lay
    have eN : n + 65536 = N := hN.symm
    clear hN
    go_enter Try.func19, Try.ntmps19
    go_wp2_with fail
    refine (refCheck_any _ _ _ _ _ _ _).mono ?_
    rintro e w1 ⟨rfl, b1⟩
    rw [HC.out]
    have bx1 := bx0.below b1
    obtain ⟨d0, d1, d2, d3, d4, d5⟩ := bx1.six
    clear bx0 b1
    go_wp2_with fail
    refine (Many_any _ _ _ _ _ _ _).mono ?_
    rintro e w2 ⟨rfl, b2⟩
    rw [hm.out]
    have bx2 := bx1.below b2
    clear d0 d1 d2 d3 d4 d5 bx1 b2
    obtain ⟨d0, d1, d2, d3, d4, d5⟩ := bx2.six
    go_wp2_with fail
    refine (Many_any _ _ _ _ _ _ _).mono ?_
    rintro e w3 ⟨rfl, b3⟩
    rw [hm.out]
    have bx3 := bx2.below b3
    clear d0 d1 d2 d3 d4 d5 bx2 b3
    obtain ⟨d0, d1, d2, d3, d4, d5⟩ := bx3.six
    go_wp2_with fail
    refine (Many_any _ _ _ _ _ _ _).mono ?_
    rintro e w4 ⟨rfl, b4⟩
    rw [hm.out]
    have bx4 := bx3.below b4
    clear d0 d1 d2 d3 d4 d5 bx3 b4
    obtain ⟨d0, d1, d2, d3, d4, d5⟩ := bx4.six
    have hs := bx4.2.size
    have bel := bx4.2.trans ((bel_alloc w4 (.cells (blk .u16 L) 41)).mono hs)
    have g0 := heap_alloc_new w4 (.cells (blk .u16 L) 41)
    subst hL
    go_wp2
    go_ret2
    exact ⟨some ⟨w4.heap.size, 0, none⟩, _, w4.heap.size, by rw [HE.out]; rfl, by rw [HW.out]; rfl, hs, .inr ⟨rfl, by rw [HW.out]; exact g0⟩, bel⟩
  · obtain ⟨N, hN⟩ : ∃ N : Int, N = n := ⟨_, rfl⟩
    have hNb : 0 ≤ N ∧ N < 65536 := by omega
    have HW := lay N hNb.1 hNb.2 (.inl hN)
    obtain ⟨L, hL⟩ : ∃ L : List Int, L = [N] := ⟨_, rfl⟩
    clear hok lay
    have h00 : ¬ n < 0 := by omega
    have eN : n = N := hN.symm
    subst eN
    clear hN
    go_enter Try.func19, Try.ntmps19
    go_wp2_with fail
    refine (refCheck_any _ _ _ _ _ _ _).mono ?_
    rintro e w1 ⟨rfl, b1⟩
    rw [HC.out]
    have bx1 := bx0.below b1
    obtain ⟨d0, d1, d2, d3, d4, d5⟩ := bx1.six
    clear bx0 b1
    go_wp2_with fail
    refine (Many_any _ _ _ _ _ _ _).mono ?_
    rintro e w2 ⟨rfl, b2⟩
    rw [hm.out]
    have bx2 := bx1.below b2
    clear d0 d1 d2 d3 d4 d5 bx1 b2
    obtain ⟨d0, d1, d2, d3, d4, d5⟩ := bx2.six
    go_wp2_with fail
    refine (Many_any _ _ _ _ _ _ _).mono ?_
    rintro e w3 ⟨rfl, b3⟩
    rw [hm.out]
    have bx3 := bx2.below b3
    clear d0 d1 d2 d3 d4 d5 bx2 b3
    obtain ⟨d0, d1, d2, d3, d4, d5⟩ := bx3.six
    have hs := bx3.2.size
    have bel := bx3.2.trans ((bel_alloc w3 (.cells (blk .u16 L) 41)).mono hs)
    have g0 := heap_alloc_new w3 (.cells (blk .u16 L) 41)
    subst hL
    go_wp2
    go_ret2
    exact ⟨some ⟨w3.heap.size, 0, none⟩, _, w3.heap.size, by rw [HE.out]; rfl, by rw [HW.out]; rfl, hs, .inr ⟨rfl, by rw [HW.out]; exact g0⟩, bel⟩

set_option maxHeartbeats 2000000 in
theorem refWords_true_false_false (mu di ad n : Int) (hn : -9223372036854775808 ≤ n ∧ n < 9223372036854775808) (w : World) (hok : Sc.Ok (⟨true, false, false, mu, di, ad⟩ : Sc)) : Calls Try.prog 19 #[.agg #[.bool true, .bool false, .bool false, .int .i64 mu, .int .i64 di, .int .i64 ad], .int .i64 n] w (GivesW w (wordsS (⟨true, false, false, mu, di, ad⟩ : Sc) n) (wordsE (⟨true, false, false, mu, di, ad⟩ : Sc) n)) := by
  have bx0 := Bx.new w (.cells #[.bool true, .bool false, .bool false, .int .i64 mu, .int .i64 di, .int .i64 ad] 23)
  have HC := Lib.hid (chkS_yes hok)
  have hm : Hid (many (⟨true, false, false, mu, di, ad⟩ : Sc) = 4294967296) := Lib.hid rfl
  have hlo : Hid (lowS (⟨true, false, false, mu, di, ad⟩ : Sc) = 0) := Lib.hid (by simp [lowS, many])
  by_cases h1 : n < 0
  · have HE : Hid (wordsE (⟨true, false, false, mu, di, ad⟩ : Sc) n = 3) := Lib.hid (by unfold wordsE; rw [if_pos hok, hlo.out, if_neg (by omega)])
    have HW : Hid (wordsS (⟨true, false, false, mu, di, ad⟩ : Sc) n = []) := Lib.hid (by unfold wordsS; rw [if_neg (by rw [HE.out]; omega)])
    clear hok
    go_enter Try.func19, Try.ntmps19
    go_wp2_with fail
    refine (refCheck_any _ _ _ _ _ _ _).mono ?_
    rintro e w1 ⟨rfl, b1⟩
    rw [HC.out]
    have bx1 := bx0.below b1
    obtain ⟨d0, d1, d2, d3, d4, d5⟩ := bx1.six
    clear bx0 b1
    have bel := bx1.2
    go_wp2
    go_ret2
    exact ⟨none, 0, w.heap.size, by rw [HE.out]; rfl, by rw [HW.out]; rfl, Nat.le_refl _, .inl ⟨rfl, rfl⟩, bel⟩
  by_cases h2 : 4294967295 < n
  · have HE : Hid (wordsE (⟨true, false, false, mu, di, ad⟩ : Sc) n = 3) := Lib.hid (by unfold wordsE; rw [if_pos hok, hlo.out, hm.out, if_neg (by omega)])
    have HW : Hid (wordsS (⟨true, false, false, mu, di, ad⟩ : Sc) n = []) := Lib.hid (by unfold wordsS; rw [if_neg (by rw [HE.out]; omega)])
    clear hok
    go_enter Try.func19, Try.ntmps19
    go_wp2_with fail
    refine (refCheck_any _ _ _ _ _ _ _).mono ?_
    rintro e w1 ⟨rfl, b1⟩
    rw [HC.out]
    have bx1 := bx0.below b1
    obtain ⟨d0, d1, d2, d3, d4, d5⟩ := bx1.six
    clear bx0 b1
    go_wp2_with fail
    refine (Many_any _ _ _ _ _ _ _).mono ?_
    rintro e w2 ⟨rfl, b2⟩
    rw [hm.out]
    have bx2 := bx1.below b2
    clear d0 d1 d2 d3 d4 d5 bx1 b2
    obtain ⟨d0, d1, d2, d3, d4, d5⟩ := bx2.six
    have bel := bx2.2
    go_wp2
    go_ret2
    exact ⟨none, 0, w.heap.size, by rw [HE.out]; rfl, by rw [HW.out]; rfl, Nat.le_refl _, .inl ⟨rfl, rfl⟩, bel⟩
  have HE : Hid (wordsE (⟨true, false, false, mu, di, ad⟩ : Sc) n = 0) := Lib.hid (by unfold wordsE; rw [if_pos hok, hlo.out, hm.out, if_pos ⟨by omega, by omega⟩])
  have lay : ∀ N : Int, 0 ≤ N → N < 4294967296 → (N = n ∨ N = n + many (⟨true, false, false, mu, di, ad⟩ : Sc)) → Hid (wordsS (⟨true, false, false, mu, di, ad⟩ : Sc) n = [N / 65536, N % 65536]) := by
    intro N h3 h4 h5
    refine Lib.hid ?_
    unfold wordsS
    rw [if_pos HE.out, ← lay_over h5]
    simp only [layS, if_true, Bool.false_eq_true, if_false]
    rw [Int.emod_eq_of_lt (b := 65536) (by omega : 0 ≤ N / 65536) (by omega)]
  obtain ⟨N, hN⟩ : ∃ N : Int, N = n := ⟨_, rfl⟩
  have hNb : 0 ≤ N ∧ N < 4294967296 := by omega
  have HW := lay N hNb.1 hNb.2 (.inl hN)
  obtain ⟨L, hL⟩ : ∃ L : List Int, L = [N / 65536, N % 65536] := ⟨_, rfl⟩
  clear hok lay
  have h00 : ¬ n < 0 := by omega
  have eN : n = N := hN.symm
  subst eN
  clear hN
  go_enter Try.func19, Try.ntmps19
  go_wp2_with fail
  refine (refCheck_any _ _ _ _ _ _ _).mono ?_
  rintro e w1 ⟨rfl, b1⟩
  rw [HC.out]
  have bx1 := bx0.below b1
  obtain ⟨d0, d1, d2, d3, d4, d5⟩ := bx1.six
  clear bx0 b1
  go_wp2_with fail
  refine (Many_any _ _ _ _ _ _ _).mono ?_
  rintro e w2 ⟨rfl, b2⟩
  rw [hm.out]
  have bx2 := bx1.below b2
  clear d0 d1 d2 d3 d4 d5 bx1 b2
  obtain ⟨d0, d1, d2, d3, d4, d5⟩ := bx2.six
  have hs := bx2.2.size
  have bel := bx2.2.trans ((bel_alloc w2 (.cells (blk .u16 L) 41)).mono hs)
  have g0 := heap_alloc_new w2 (.cells (blk .u16 L) 41)
  subst hL
  go_wp2
  go_ret2
  exact ⟨some ⟨w2.heap.size, 0, none⟩, _, w2.heap.size, by rw [HE.out]; rfl, by rw [HW.out]; rfl, hs, .inr ⟨rfl, by rw [HW.out]; exact g0⟩, bel⟩

set_option maxHeartbeats 2000000 in
theorem refWords_true_true_false (mu di ad n : Int) (hn : -9223372036854775808 ≤ n ∧ n < 9223372036854775808) (w : World) (hok : Sc.Ok (⟨true, true, false, mu, di, ad⟩ : Sc)) : Calls Try.prog 19 #[.agg #[.bool true, .bool true, .bool false, .int .i64 mu, .int .i64 di, .int .i64 ad], .int .i64 n] w (GivesW w (wordsS (⟨true, true, false, mu, di, ad⟩ : Sc) n) (wordsE (⟨true, true, false, mu, di, ad⟩ : Sc) n)) := by
  have bx0 := Bx.new w (.cells #[.bool true, .bool true, .bool false, .int .i64 mu, .int .i64 di, .int .i64 ad] 23)
  have HC := Lib.hid (chkS_yes hok)
  have hm : Hid (many (⟨true, true, false, mu, di, ad⟩ : Sc) = 4294967296) := Lib.hid rfl
  have hlo : Hid (lowS (⟨true, true, false, mu, di, ad⟩ : Sc) = -2147483648) := Lib.hid (by simp [lowS, many])
  by_cases h1 : n < -2147483648
  · have HE : Hid (wordsE (⟨true, true, false, mu, di, ad⟩ : Sc) n = 3) := Lib.hid (by unfold wordsE; rw [if_pos hok, hlo.out, if_neg (by omega)])
    have HW : Hid (wordsS (⟨true, true, false, mu, di, ad⟩ : Sc) n = []) := Lib.hid (by unfold wordsS; rw [if_neg (by rw [HE.out]; omega)])
    clear hok
    go_enter Try.func19, Try.ntmps19
    go_wp2_with fail
    refine (refCheck_any _ _ _ _ _ _ _).mono ?_
    rintro e w1 ⟨rfl, b1⟩
    rw [HC.out]
    have bx1 := bx0.below b1
    obtain ⟨d0, d1, d2, d3, d4, d5⟩ := bx1.six
    clear bx0 b1
    go_wp2_with fail
    refine (Many_any _ _ _ _ _ _ _).mono ?_
    rintro e w2 ⟨rfl, b2⟩
    rw [hm.out]
    have bx2 := bx1.below b2
    clear d0 d1 d2 d3 d4 d5 bx1 b2
    obtain ⟨d0, d1, d2, d3, d4, d5⟩ := bx2.six
    have bel := bx2.2
    go_wp2
    go_ret2
    exact ⟨none, 0, w.heap.size, by rw [HE.out]; rfl, by rw [HW.out]; rfl, Nat.le_refl _, .inl ⟨rfl, rfl⟩, bel⟩
  by_cases h2 : 2147483647 < n
  · have HE : Hid (wordsE (⟨true, true, false, mu, di, ad⟩ : Sc) n = 3) := Lib.hid (by unfold wordsE; rw [if_pos hok, hlo.out, hm.out, if_neg (by omega)])
    have HW : Hid (wordsS (⟨true, true, false, mu, di, ad⟩ : Sc) n = []) := Lib.hid (by unfold wordsS; rw [if_neg (by rw [HE.out]; omega)])
    clear hok
    go_enter Try.func19, Try.ntmps19
    go_wp2_with fail
    refine (refCheck_any _ _ _ _ _ _ _).mono ?_
    rintro e w1 ⟨rfl, b1⟩
    rw [HC.out]
    have bx1 := bx0.below b1
    obtain ⟨d0, d1, d2, d3, d4, d5⟩ := bx1.six
    clear bx0 b1
    go_wp2_with fail
    refine (Many_any _ _ _ _ _ _ _).mono ?_
    rintro e w2 ⟨rfl, b2⟩
    rw [hm.out]
    have bx2 := bx1.below b2
    clear d0 d1 d2 d3 d4 d5 bx1 b2
    obtain ⟨d0, d1, d2, d3, d4, d5⟩ := bx2.six
    go_wp2_with fail
    refine (Many_any _ _ _ _ _ _ _).mono ?_
    rintro e w3 ⟨rfl, b3⟩
    rw [hm.out]
    have bx3 := bx2.below b3
    clear d0 d1 d2 d3 d4 d5 bx2 b3
    obtain ⟨d0, d1, d2, d3, d4, d5⟩ := bx3.six
    have bel := bx3.2
    go_wp2
    go_ret2
    exact ⟨none, 0, w.heap.size, by rw [HE.out]; rfl, by rw [HW.out]; rfl, Nat.le_refl _, .inl ⟨rfl, rfl⟩, bel⟩
  have HE : Hid (wordsE (⟨true, true, false, mu, di, ad⟩ : Sc) n = 0) := Lib.hid (by unfold wordsE; rw [if_pos hok, hlo.out, hm.out, if_pos ⟨by omega, by omega⟩])
  have lay : ∀ N : Int, 0 ≤ N → N < 4294967296 → (N = n ∨ N = n + many (⟨true, true, false, mu, di, ad⟩ : Sc)) → Hid (wordsS (⟨true, true, false, mu, di, ad⟩ : Sc) n = [N / 65536, N % 65536]) := by
    intro N h3 h4 h5
    refine Lib.hid ?_
    unfold wordsS
    rw [if_pos HE.out, ← lay_over h5]
    simp only [layS, if_true, Bool.false_eq_true, if_false]
    rw [Int.emod_eq_of_lt (b := 65536) (by omega : 0 ≤ N / 65536) (by omega)]
  by_cases h0 : n < 0
  · obtain ⟨N, hN⟩ : ∃ N : Int, N = n + 4294967296 := ⟨_, rfl⟩
    have hNb : 0 ≤ N ∧ N < 4294967296 := by omega
    have HW := lay N hNb.1 hNb.2 (.inr hN)
    obtain ⟨L, hL⟩ : ∃ L : List Int, L = [N / 65536, N % 65536] := ⟨_, rfl⟩
    clear hok lay
    have eN : n + 4294967296 = N := hN.symm
    clear hN
    go_enter Try.func19, Try.ntmps19
    go_wp2_with fail
    refine (refCheck_any _ _ _ _ _ _ _).mono ?_
    rintro e w1 ⟨rfl, b1⟩
    rw [HC.out]
    have bx1 := bx0.below b1
    obtain ⟨d0, d1, d2, d3, d4, d5⟩ := bx1.six
    clear bx0 b1
    go_wp2_with fail
    refine (Many_any _ _ _ _ _ _ _).mono ?_
    rintro e w2 ⟨rfl, b2⟩
    rw [hm.out]
    have bx2 := bx1.below b2
    clear d0 d1 d2 d3 d4 d5 bx1 b2
    obtain ⟨d0, d1, d2, d3, d4, d5⟩ := bx2.six
    go_wp2_with fail
    refine (Many_any _ _ _ _ _ _ _).mono ?_
    rintro e w3 ⟨rfl, b3⟩
    rw [hm.out]
    have bx3 := bx2.below b3
    clear d0 d1 d2 d3 d4 d5 bx2 b3
    obtain ⟨d0, d1, d2, d3, d4, d5⟩ := bx3.six
    go_wp2_with fail
    refine (Many_any _ _ _ _ _ _ _).mono ?_
    rintro e w4 ⟨rfl, b4⟩
    rw [hm.out]
    have bx4 := bx3.below b4
    clear d0 d1 d2 d3 d4 d5 bx3 b4
    obtain ⟨d0, d1, d2, d3, d4, d5⟩ := bx4.six
    have hs := bx4.2.size
    have bel := bx4.2.trans ((bel_alloc w4 (.cells (blk .u16 L) 41)).mono hs)
    have g0 := heap_alloc_new w4 (.cells (blk .u16 L) 41)
    subst hL
    go_wp2
    go_ret2
    exact ⟨some ⟨w4.heap.size, 0, none⟩, _, w4.heap.size, by rw [HE.out]; rfl, by rw [HW.out]; rfl, hs, .inr ⟨rfl, by rw [HW.out]; exact g0⟩, bel⟩
  · obtain ⟨N, hN⟩ : ∃ N : Int, N = n := ⟨_, rfl⟩
    have hNb : 0 ≤ N ∧ N < 4294967296 := by omega
    have HW := lay N hNb.1 hNb.2 (.inl hN)
    obtain ⟨L, hL⟩ : ∃ L : List Int, L = [N / 65536, N % 65536] := ⟨_, rfl⟩
    clear hok lay
    have h00 : ¬ n < 0 := by omega
    have eN : n = N := hN.symm
    subst eN
    clear hN
    go_enter Try.func19, Try.ntmps19
    go_wp2_with fail
    refine (refCheck_any _ _ _ _ _ _ _).mono ?_
    rintro e w1 ⟨rfl, b1⟩
    rw [HC.out]
    have bx1 := bx0.below b1
    obtain ⟨d0, d1, d2, d3, d4, d5⟩ := bx1.six
    clear bx0 b1
    go_wp2_with fail
    refine (Many_any _ _ _ _ _ _ _).mono ?_
    rintro e w2 ⟨rfl, b2⟩
    rw [hm.out]
    have bx2 := bx1.below b2
    clear d0 d1 d2 d3 d4 d5 bx1 b2
    obtain ⟨d0, d1, d2, d3, d4, d5⟩ := bx2.six
    go_wp2_with fail
    refine (Many_any _ _ _ _ _ _ _).mono ?_
    rintro e w3 ⟨rfl, b3⟩
    rw [hm.out]
    have bx3 := bx2.below b3
    clear d0 d1 d2 d3 d4 d5 bx2 b3
    obtain ⟨d0, d1, d2, d3, d4, d5⟩ := bx3.six
    have hs := bx3.2.size
    have bel := bx3.2.trans ((bel_alloc w3 (.cells (blk .u16 L) 41)).mono hs)
    have g0 := heap_alloc_new w3 (.cells (blk .u16 L) 41)
    subst hL
    go_wp2
    go_ret2
    exact ⟨some ⟨w3.heap.size, 0, none⟩, _, w3.heap.size, by rw [HE.out]; rfl, by rw [HW.out]; rfl, hs, .inr ⟨rfl, by rw [HW.out]; exact g0⟩, bel⟩

set_option maxHeartbeats 2000000 in
theorem refWords_true_false_true (mu di ad n : Int) (hn : -9223372036854775808 ≤ n ∧ n < 9223372036854775808) (w : World) (hok : Sc.Ok (⟨true, false, true, mu, di, ad⟩ : Sc)) : Calls Try.prog 19 #[.agg #[.bool true, .bool false, .bool true, .int .i64 mu, .int .i64 di, .int .i64 ad], .int .i64 n] w (GivesW w (wordsS (⟨true, false, true, mu, di, ad⟩ : Sc) n) (wordsE (⟨true, false, true, mu, di, ad⟩ : Sc) n)) := by
  have bx0 := Bx.new w (.cells #[.bool true, .bool false, .bool true, .int .i64 mu, .int .i64 di, .int .i64 ad] 23)
  have HC := Lib.hid (chkS_yes hok)
  have hm : Hid (many (⟨true, false, true, mu, di, ad⟩ : Sc) = 4294967296) := Lib.hid rfl
  have hlo : Hid (lowS (⟨true, false, true, mu, di, ad⟩ : Sc) = 0) := Lib.hid (by simp [lowS, many])
  by_cases h1 : n < 0
  · have HE : Hid (wordsE (⟨true, false, true, mu, di, ad⟩ : Sc) n = 3) := Lib.hid (by unfold wordsE; rw [if_pos hok, hlo.out, if_neg (by omega)])
    have HW : Hid (wordsS (⟨true, false, true, mu, di, ad⟩ : Sc) n = []) := Lib.hid (by unfold wordsS; rw [if_neg (by rw [HE.out]; omega)])
    clear hok
    go_enter Try.func19, Try.ntmps19
    go_wp2_with fail
    refine (refCheck_any _ _ _ _ _ _ _).mono ?_
    rintro e w1 ⟨rfl, b1⟩
    rw [HC.out]
    have bx1 := bx0.below b1
    obtain ⟨d0, d1, d2, d3, d4, d5⟩ := bx1.six
    clear bx0 b1
    have bel := bx1.2
    go_wp2
    go_ret2
    exact ⟨none, 0, w.heap.size, by rw [HE.out]; rfl, by rw [HW.out]; rfl, Nat.le_refl _, .inl ⟨rfl, rfl⟩, bel⟩
  by_cases h2 : 4294967295 < n
  · have HE : Hid (wordsE (⟨true, false, true, mu, di, ad⟩ : Sc) n = 3) := Lib.hid (by unfold wordsE; rw [if_pos hok, hlo.out, hm.out, if_neg (by omega)])
    have HW : Hid (wordsS (⟨true, false, true, mu, di, ad⟩ : Sc) n = []) := Lib.hid (by unfold wordsS; rw [if_neg (by rw [HE.out]; omega)])
    clear hok
    go_enter Try.func19, Try.ntmps19
    go_wp2_with fail
    refine (refCheck_any _ _ _ _ _ _ _).mono ?_
    rintro e w1 ⟨rfl, b1⟩
    rw [HC.out]
    have bx1 := bx0.below b1
    obtain ⟨d0, d1, d2, d3, d4, d5⟩ := bx1.six
    clear bx0 b1
    go_wp2_with fail
    refine (Many_any _ _ _ _ _ _ _).mono ?_
    rintro e w2 ⟨rfl, b2⟩
    rw [hm.out]
    have bx2 := bx1.below b2
    clear d0 d1 d2 d3 d4 d5 bx1 b2
    obtain ⟨d0, d1, d2, d3, d4, d5⟩ := bx2.six
    have bel := bx2.2
    go_wp2
    go_ret2
    exact ⟨none, 0, w.heap.size, by rw [HE.out]; rfl, by rw [HW.out]; rfl, Nat.le_refl _, .inl ⟨rfl, rfl⟩, bel⟩
  have HE : Hid (wordsE (⟨true, false, true, mu, di, ad⟩ : Sc) n = 0) := Lib.hid (by unfold wordsE; rw [if_pos hok, hlo.out, hm.out, if_pos ⟨by omega, by omega⟩])
  have lay : ∀ N : Int, 0 ≤ N → N < 4294967296 → (N = n ∨ N = n + many (⟨true, false, true, mu, di, ad⟩ : Sc)) → Hid (wordsS (⟨true, false, true, mu, di, ad⟩ : Sc) n = [N % 65536, N / 65536]) := by
    intro N h3 h4 h5
    refine Lib.hid ?_
    unfold wordsS
    rw [if_pos HE.out, ← lay_over h5]
    simp only [layS, if_true, Bool.false_eq_true, if_false]
    rw [Int.emod_eq_of_lt (b := 65536) (by omega : 0 ≤ N / 65536) (by omega)]
  obtain ⟨N, hN⟩ : ∃ N : Int, N = n := ⟨_, rfl⟩
  have hNb : 0 ≤ N ∧ N < 4294967296 := by omega
  have HW := lay N hNb.1 hNb.2 (.inl hN)
  obtain ⟨L, hL⟩ : ∃ L : List Int, L = [N % 65536, N / 65536] := ⟨_, rfl⟩
  clear hok lay
  have h00 : ¬ n < 0 := by omega
  have eN : n = N := hN.symm
  subst eN
  clear hN
  go_enter Try.func19, Try.ntmps19
  go_wp2_with fail
  refine (refCheck_any _ _ _ _ _ _ _).mono ?_
  rintro e w1 ⟨rfl, b1⟩
  rw [HC.out]
  have bx1 := bx0.below b1
  obtain ⟨d0, d1, d2, d3, d4, d5⟩ := bx1.six
  clear bx0 b1
  go_wp2_with fail
  refine (Many_any _ _ _ _ _ _ _).mono ?_
  rintro e w2 ⟨rfl, b2⟩
  rw [hm.out]
  have bx2 := bx1.below b2
  clear d0 d1 d2 d3 d4 d5 bx1 b2
  obtain ⟨d0, d1, d2, d3, d4, d5⟩ := bx2.six
  have hs := bx2.2.size
  have bel := bx2.2.trans ((bel_alloc w2 (.cells (blk .u16 L) 41)).mono hs)
  have g0 := heap_alloc_new w2 (.cells (blk .u16 L) 41)
  subst hL
  go_wp2
  go_ret2
  exact ⟨some ⟨w2.heap.size, 0, none⟩, _, w2.heap.size, by rw [HE.out]; rfl, by rw [HW.out]; rfl, hs, .inr ⟨rfl, by rw [HW.out]; exact g0⟩, bel⟩

set_option maxHeartbeats 2000000 in
theorem refWords_true_true_true (mu di ad n : Int) (hn : -9223372036854775808 ≤ n ∧ n < 9223372036854775808) (w : World) (hok : Sc.Ok (⟨true, true, true, mu, di, ad⟩ : Sc)) : Calls Try.prog 19 #[.agg #[.bool true, .bool true, .bool true, .int .i64 mu, .int .i64 di, .int .i64 ad], .int .i64 n] w (GivesW w (wordsS (⟨true, true, true, mu, di, ad⟩ : Sc) n) (wordsE (⟨true, true, true, mu, di, ad⟩ : Sc) n)) := by
  have bx0 := Bx.new w (.cells #[.bool true, .bool true, .bool true, .int .i64 mu, .int .i64 di, .int .i64 ad] 23)
  have HC := Lib.hid (chkS_yes hok)
  have hm : Hid (many (⟨true, true, true, mu, di, ad⟩ : Sc) = 4294967296) := Lib.hid rfl
  have hlo : Hid (lowS (⟨true, true, true, mu, di, ad⟩ : Sc) = -2147483648) := Lib.hid (by simp [lowS, many])
  by_cases h1 : n < -2147483648
  · have HE : Hid (wordsE (⟨true, true, true, mu, di, ad⟩ : Sc) n = 3) := Lib.hid (by unfold wordsE; rw [if_pos hok, hlo.out, if_neg (by omega)])
    have HW : Hid (wordsS (⟨true, true, true, mu, di, ad⟩ : Sc) n = []) := Lib.hid (by unfold wordsS; rw [if_neg (by rw [HE.out]; omega)])
    clear hok
    go_enter Try.func19, Try.ntmps19
    go_wp2_with fail
    refine (refCheck_any _ _ _ _ _ _ _).mono ?_
    rintro e w1 ⟨rfl, b1⟩
    rw [HC.out]
    have bx1 := bx0.below b1
    obtain ⟨d0, d1, d2, d3, d4, d5⟩ := bx1.six
    clear bx0 b1
    go_wp2_with fail
    refine (Many_any _ _ _ _ _ _ _).mono ?_
    rintro e w2 ⟨rfl, b2⟩
    rw [hm.out]
    have bx2 := bx1.below b2
    clear d0 d1 d2 d3 d4 d5 bx1 b2
    obtain ⟨d0, d1, d2, d3, d4, d5⟩ := bx2.six
    have bel := bx2.2
    go_wp2
    go_ret2
    exact ⟨none, 0, w.heap.size, by rw [HE.out]; rfl, by rw [HW.out]; rfl, Nat.le_refl _, .inl ⟨rfl, rfl⟩, bel⟩
  by_cases h2 : 2147483647 < n
  · have HE : Hid (wordsE (⟨true, true, true, mu, di, ad⟩ : Sc) n = 3) := Lib.hid (by unfold wordsE; rw [if_pos hok, hlo.out, hm.out, if_neg (by omega)])
    have HW : Hid (wordsS (⟨true, true, true, mu, di, ad⟩ : Sc) n = []) := Lib.hid (by unfold wordsS; rw [if_neg (by rw [HE.out]; omega)])
    clear hok
    go_enter Try.func19, Try.ntmps19
    go_wp2_with fail
    refine (refCheck_any _ _ _ _ _ _ _).mono ?_
    rintro e w1 ⟨rfl, b1⟩
    rw [HC.out]
    have bx1 := bx0.below b1
    obtain ⟨d0, d1, d2, d3, d4, d5⟩ := bx1.six
    clear bx0 b1
    go_wp2_with fail
    refine (Many_any _ _ _ _ _ _ _).mono ?_
    rintro e w2 ⟨rfl, b2⟩
    rw [hm.out]
    have bx2 := bx1.below b2
    clear d0 d1 d2 d3 d4 d5 bx1 b2
    obtain ⟨d0, d1, d2, d3, d4, d5⟩ := bx2.six
    go_wp2_with fail
    refine (Many_any _ _ _ _ _ _ _).mono ?_
    rintro e w3 ⟨rfl, b3⟩
    rw [hm.out]
    have bx3 := bx2.below b3
    clear d0 d1 d2 d3 d4 d5 bx2 b3
    obtain ⟨d0, d1, d2, d3, d4, d5⟩ := bx3.six
    have bel := bx3.2
    go_wp2
    go_ret2
    exact ⟨none, 0, w.heap.size, by rw [HE.out]; rfl, by rw [HW.out]; rfl, Nat.le_refl _, .inl ⟨rfl, rfl⟩, bel⟩
  have HE : Hid (wordsE (⟨true, true, true, mu, di, ad⟩ : Sc) n = 0) := Lib.hid (by unfold wordsE; rw [if_pos hok, hlo.out, hm.out, if_pos ⟨by omega, by omega⟩])
  have lay : ∀ N : Int, 0 ≤ N → N < 4294967296 → (N = n ∨ N = n + many (⟨true, true, true, mu, di, ad⟩ : Sc)) → Hid (wordsS (⟨true, true, true, mu, di, ad⟩ : Sc) n = [N % 65536, N / 65536]) := by
    intro N h3 h4 h5
    refine Lib.hid ?_
    unfold wordsS
    rw [if_pos HE.out, ← lay_over h5]
    simp only [layS, if_true, Bool.false_eq_true, if_false]
    rw [Int.emod_eq_of_lt (b := 65536) (by omega : 0 ≤ N / 65536) (by omega)]
  by_cases h0 : n < 0
  · obtain ⟨N, hN⟩ : ∃ N : Int, N = n + 4294967296 := ⟨_, rfl⟩
    have hNb : 0 ≤ N ∧ N < 4294967296 := by omega
    have HW := lay N hNb.1 hNb.2 (.inr hN)
    obtain ⟨L, hL⟩ : ∃ L : List Int, L = [N % 65536, N / 65536] := ⟨_, rfl⟩
    clear hok lay
    have eN : n + 4294967296 = N := hN.symm
    clear hN
    go_enter Try.func19, Try.ntmps19
    go_wp2_with fail
    refine (refCheck_any _ _ _ _ _ _ _).mono ?_
    rintro e w1 ⟨rfl, b1⟩
    rw [HC.out]
    have bx1 := bx0.below b1
    obtain ⟨d0, d1, d2, d3, d4, d5⟩ := bx1.six
    clear bx0 b1
    go_wp2_with fail
    refine (Many_any _ _ _ _ _ _ _).mono ?_
    rintro e w2 ⟨rfl, b2⟩
    rw [hm.out]
    have bx2 := bx1.below b2
    clear d0 d1 d2 d3 d4 d5 bx1 b2
    obtain ⟨d0, d1, d2, d3, d4, d5⟩ := bx2.six
    go_wp2_with fail
    refine (Many_any _ _ _ _ _ _ _).mono ?_
    rintro e w3 ⟨rfl, b3⟩
    rw [hm.out]
    have bx3 := bx2.below b3
    clear d0 d1 d2 d3 d4 d5 bx2 b3
    obtain ⟨d0, d1, d2, d3, d4, d5⟩ := bx3.six
    go_wp2_with fail
    refine (Many_any _ _ _ _ _ _ _).mono ?_
    rintro e w4 ⟨rfl, b4⟩
    rw [hm.out]
    have bx4 := bx3.below b4
    clear d0 d1 d2 d3 d4 d5 bx3 b4
    obtain ⟨d0, d1, d2, d3, d4, d5⟩ := bx4.six
    have hs := bx4.2.size
    have bel := bx4.2.trans ((bel_alloc w4 (.cells (blk .u16 L) 41)).mono hs)
    have g0 := heap_alloc_new w4 (.cells (blk .u16 L) 41)
    subst hL
    go_wp2
    go_ret2
    exact ⟨some ⟨w4.heap.size, 0, none⟩, _, w4.heap.size, by rw [HE.out]; rfl, by rw [HW.out]; rfl, hs, .inr ⟨rfl, by rw [HW.out]; exact g0⟩, bel⟩
  · obtain ⟨N, hN⟩ : ∃ N : Int, N = n := ⟨_, rfl⟩
    have hNb : 0 ≤ N ∧ N < 4294967296 := by omega
    have HW := lay N hNb.1 hNb.2 (.inl hN)
    obtain ⟨L, hL⟩ : ∃ L : List Int, L = [N % 65536, N / 65536] := ⟨_, rfl⟩
    clear hok lay
    have h00 : ¬ n < 0 := by omega
    have eN : n = N := hN.symm
    subst eN
    clear hN
    go_enter Try.func19, Try.ntmps19
    go_wp2_with fail
    refine (refCheck_any _ _ _ _ _ _ _).mono ?_
    rintro e w1 ⟨rfl, b1⟩
    rw [HC.out]
    have bx1 := bx0.below b1
    obtain ⟨d0, d1, d2, d3, d4, d5⟩ := bx1.six
    clear bx0 b1
    go_wp2_with fail
    refine (Many_any _ _ _ _ _ _ _).mono ?_
    rintro e w2 ⟨rfl, b2⟩
    rw [hm.out]
    have bx2 := bx1.below b2
    clear d0 d1 d2 d3 d4 d5 bx1 b2
    obtain ⟨d0, d1, d2, d3, d4, d5⟩ := bx2.six
    go_wp2_with fail
    refine (Many_any _ _ _ _ _ _ _).mono ?_
    rintro e w3 ⟨rfl, b3⟩
    rw [hm.out]
    have bx3 := bx2.below b3
    clear d0 d1 d2 d3 d4 d5 bx2 b3
    obtain ⟨d0, d1, d2, d3, d4, d5⟩ := bx3.six
    have hs := bx3.2.size
    have bel := bx3.2.trans ((bel_alloc w3 (.cells (blk .u16 L) 41)).mono hs)
    have g0 := heap_alloc_new w3 (.cells (blk .u16 L) 41)
    subst hL
    go_wp2
    go_ret2
    exact ⟨some ⟨w3.heap.size, 0, none⟩, _, w3.heap.size, by rw [HE.out]; rfl, by rw [HW.out]; rfl, hs, .inr ⟨rfl, by rw [HW.out]; exact g0⟩, bel⟩

theorem refWords_any (wd sg sw : Bool) (mu di ad : Int) (n : Int) (hn : -9223372036854775808 ≤ n ∧ n < 9223372036854775808) (w : World) : Calls Try.prog 19 #[.agg #[.bool wd, .bool sg, .bool sw, .int .i64 mu, .int .i64 di, .int .i64 ad], .int .i64 n] w (GivesW w (wordsS (⟨wd, sg, sw, mu, di, ad⟩ : Sc) n) (wordsE (⟨wd, sg, sw, mu, di, ad⟩ : Sc) n)) := by
  by_cases hok : Sc.Ok (⟨wd, sg, sw, mu, di, ad⟩ : Sc)
  · cases wd
    · cases sw
      · cases sg
        · exact refWords_false_false_false mu di ad n hn w hok
        · exact refWords_false_true_false mu di ad n hn w hok
      · have := hok.2.2.2.2; simp at this
    · cases sw
      · cases sg
        · exact refWords_true_false_false mu di ad n hn w hok
        · exact refWords_true_true_false mu di ad n hn w hok
      · cases sg
        · exact refWords_true_false_true mu di ad n hn w hok
        · exact refWords_true_true_true mu di ad n hn w hok
  · have bx0 := Bx.new w (.cells #[.bool wd, .bool sg, .bool sw, .int .i64 mu, .int .i64 di, .int .i64 ad] 23)
    have HC := Lib.hid (chkS_no hok)
    have HE : Hid (wordsE (⟨wd, sg, sw, mu, di, ad⟩ : Sc) n = 25) := Lib.hid (by unfold wordsE; rw [if_neg hok])
    have HW : Hid (wordsS (⟨wd, sg, sw, mu, di, ad⟩ : Sc) n = []) := Lib.hid (by unfold wordsS; rw [if_neg (by rw [HE.out]; omega)])
    clear hok
    go_enter Try.func19, Try.ntmps19
    go_wp2_with fail
    refine (refCheck_any wd sg sw mu di ad _).mono ?_
    rintro e w1 ⟨rfl, b1⟩
    rw [HC.out]
    have bel1 := (bx0.below b1).2
    go_wp2
    go_ret2
    exact ⟨none, 0, w.heap.size, by rw [HE.out]; rfl, by rw [HW.out]; rfl, Nat.le_refl _, .inl ⟨rfl, rfl⟩, bel1⟩
end Go.Proofs.Ytcnidddneiekfaa
