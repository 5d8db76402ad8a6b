/-
  The walk of ScaleBack.
-/
import Derived.Test.YtcnidddneiekfaaScBackMath
namespace Go.Proofs.Ytcnidddneiekfaa
open Go.RowKit
set_option linter.unusedVariables false

theorem raw_fits {s : Sc} {xs : List Int} (hw : ∀ x ∈ xs, (Lit.int .u16 x).wf = true) : -9223372036854775808 ≤ rawN s xs ∧ rawN s xs < 9223372036854775808 := by
  by_cases h : rawE s xs = 0
  · have h2 := (wordsE_zero (words_raw hw h).1).2
    obtain ⟨wd, sg, sw, mu, di, ad⟩ := s
    have := low_bound wd sg sw mu di ad
    omega
  · have : rawN s xs = 0 := by unfold rawN; rw [if_neg h]
    omega
set_option maxHeartbeats 1000000 in
theorem walk_ScaleBack (s : Sc) (n : Int) (A : Option Addr) (l c : Nat) (xs : List Int) (w : World) (hf : s.fits) (wn : (Lit.int .i64 n).wf = true) (w0 : Row .u16 w w.heap.size A xs) (n0 : xs.length = l) (s0 : l ≤ c) (m0 : c ≤ 140737488351232) :
    Calls Try.prog 6 #[.agg #[.bool s.wide, .bool s.signed, .bool s.swap, .int .i64 s.mul, .int .i64 s.div, .int .i64 s.add], .int .i64 n, .slice A l c] w fun e w' => e = .returned (.bool true) ∧ Below w.heap.size w w' := by
  obtain ⟨wd, sg, sw, mu, di, ad⟩ := s
  simp only at *
  have hn := wf_i64 wn
  have HN := Lib.hid n0
  have W0 := Lib.hid w0
  have hwf := Lib.hid w0.1
  clear hf wn n0 w0
  have bx0 := Bx.new w (.cells #[.bool wd, .bool sg, .bool sw, .int .i64 mu, .int .i64 di, .int .i64 ad] 23)
  by_cases hlong : 65536 < l
  · go_enter Try.func6, Try.ntmps6
    go_wp2_with (go_at_call 11; refine (works_yes _).mono ?_; rintro e w' ⟨rfl, bel⟩)
    go_ret
    exact ⟨rfl, bx0.2.trans (bel.mono bx0.2.size)⟩
  have hsm : l ≤ 65536 := by omega
  obtain ⟨L, hL⟩ : ∃ L, Hid (wordsS (⟨wd, sg, sw, mu, di, ad⟩ : Sc) n = L) := ⟨_, Lib.hid rfl⟩
  obtain ⟨e0, he⟩ : ∃ e0, Hid (wordsE (⟨wd, sg, sw, mu, di, ad⟩ : Sc) n = e0) := ⟨_, Lib.hid rfl⟩
  obtain ⟨r, hr⟩ : ∃ r, Hid (rawN (⟨wd, sg, sw, mu, di, ad⟩ : Sc) xs = r) := ⟨_, Lib.hid rfl⟩
  obtain ⟨e1, he1⟩ : ∃ e1, Hid (rawE (⟨wd, sg, sw, mu, di, ad⟩ : Sc) xs = e1) := ⟨_, Lib.hid rfl⟩
  have hrb := raw_fits (s := (⟨wd, sg, sw, mu, di, ad⟩ : Sc)) hwf.out
  rw [hr.out] at hrb
  have hLw : Hid (∀ x ∈ L, (Lit.int .u16 x).wf = true) := Lib.hid (by rw [← hL.out]; exact wordsS_wf _ _)
  have HB : Hid (e0 = 0 → rawE (⟨wd, sg, sw, mu, di, ad⟩ : Sc) L = 0 ∧ rawN (⟨wd, sg, sw, mu, di, ad⟩ : Sc) L = n) := Lib.hid (fun h => by rw [← hL.out]; exact raw_words (he.out.trans h))
  have HF : Hid (e1 = 0 → wordsE (⟨wd, sg, sw, mu, di, ad⟩ : Sc) r = 0 ∧ wordsS (⟨wd, sg, sw, mu, di, ad⟩ : Sc) r = xs) := Lib.hid (fun h => by rw [← hr.out]; exact words_raw hwf.out (he1.out.trans h))
  have HZ : Hid (e1 ≠ 0 → r = 0) := Lib.hid (fun h => by rw [← hr.out]; unfold rawN; rw [if_neg (by rw [he1.out]; exact h)])
  have hll : L.length ≤ 2 := by
    rw [← hL.out]; unfold wordsS; split
    · rw [layS_len]; cases wd <;> simp [cntS]
    · simp
  by_cases hE : e0 = 0
  · subst hE
    by_cases hE1 : e1 = 0
    · subst hE1
      go_enter Try.func6, Try.ntmps6
      go_wp2_with fail
      refine (Words_any wd sg sw mu di ad n hn _).mono ?_
      rw [hL.out, he.out]
      rintro e w1 ⟨A1, m1, g1, rfl, hm1, hg1, li1, b1⟩
      have HM1 := Lib.hid hm1
      have hm1b : m1 ≤ 2 := by omega
      have bx1 := bx0.below b1
      obtain ⟨d0, d1, d2, d3, d4, d5⟩ := bx1.six
      clear b1 hm1 hg1 bx0
      go_wp2_with fail
      refine (Raw_any wd sg sw mu di ad A1 m1 m1 L _ (li1.row HM1.out hLw.out) HM1.out (by omega)).mono ?_
      rw [(HB.out (by trivial)).1, (HB.out (by trivial)).2]
      rintro e w2 ⟨rfl, b2⟩
      have bx2 := bx1.below b2
      clear d0 d1 d2 d3 d4 d5 b2 bx1
      obtain ⟨d0, d1, d2, d3, d4, d5⟩ := bx2.six
      go_wp2_with fail
      refine (Raw_any wd sg sw mu di ad A l _ xs _ ((W0.out.below bx2.2).more bx2.2.size) HN.out (by omega)).mono ?_
      rw [hr.out, he1.out]
      rintro e w3 ⟨rfl, b3⟩
      have bx3 := bx2.below b3
      clear d0 d1 d2 d3 d4 d5 b3 bx2
      obtain ⟨d0, d1, d2, d3, d4, d5⟩ := bx3.six
      go_wp2_with fail
      refine (Words_any wd sg sw mu di ad r hrb _).mono ?_
      rw [(HF.out (by trivial)).1, (HF.out (by trivial)).2]
      rintro e w4 ⟨A4, m4, g4, rfl, hm4, hg4, li4, b4⟩
      have em : m4 = l := hm4.symm.trans HN.out
      subst em
      have bel4 := (bx3.below b4).2
      clear d0 d1 d2 d3 d4 d5 b4 hm4 hg4
      go_wp2_with fail
      refine (W.same_yes_u16 _ _ _ _ _ xs _ _ _ (li4.row HN.out hwf.out) (W0.out.below bel4) HN.out (by omega)).mono ?_
      rintro e w5 ⟨rfl, m5, rfl⟩
      have bel5 := below_drewN bel4 m5
      go_wp2_with fail
      refine (works_yes _).mono ?_
      rintro e w7 ⟨rfl, b7⟩
      go_wp2
      go_ret
      exact ⟨rfl, bel5.trans (b7.mono bel5.size)⟩
    · have f1 : (e1 != 0) = true := by simpa using hE1
      have f2 : (e1 == 0) = false := beq_false_of_ne hE1
      obtain rfl := HZ.out hE1
      clear hE1
      go_enter Try.func6, Try.ntmps6
      go_wp2_with fail
      refine (Words_any wd sg sw mu di ad n hn _).mono ?_
      rw [hL.out, he.out]
      rintro e w1 ⟨A1, m1, g1, rfl, hm1, hg1, li1, b1⟩
      have HM1 := Lib.hid hm1
      have hm1b : m1 ≤ 2 := by omega
      have bx1 := bx0.below b1
      obtain ⟨d0, d1, d2, d3, d4, d5⟩ := bx1.six
      clear b1 hm1 hg1 bx0
      go_wp2_with fail
      refine (Raw_any wd sg sw mu di ad A1 m1 m1 L _ (li1.row HM1.out hLw.out) HM1.out (by omega)).mono ?_
      rw [(HB.out (by trivial)).1, (HB.out (by trivial)).2]
      rintro e w2 ⟨rfl, b2⟩
      have bx2 := bx1.below b2
      clear d0 d1 d2 d3 d4 d5 b2 bx1
      obtain ⟨d0, d1, d2, d3, d4, d5⟩ := bx2.six
      go_wp2_with fail
      refine (Raw_any wd sg sw mu di ad A l _ xs _ ((W0.out.below bx2.2).more bx2.2.size) HN.out (by omega)).mono ?_
      rw [hr.out, he1.out]
      rintro e w3 ⟨rfl, b3⟩
      have bx3 := bx2.below b3
      clear d0 d1 d2 d3 d4 d5 b3 bx2
      obtain ⟨d0, d1, d2, d3, d4, d5⟩ := bx3.six
      have bel3 := bx3.2
      go_wp2_with fail
      refine (works_yes _).mono ?_
      rintro e w7 ⟨rfl, b7⟩
      go_wp2
      go_ret
      exact ⟨rfl, bel3.trans (b7.mono bel3.size)⟩
  · have f3 : (e0 != 0) = true := by simpa using hE
    have f4 : (e0 == 0) = false := beq_false_of_ne hE
    clear hE
    by_cases hE1 : e1 = 0
    · subst hE1
      go_enter Try.func6, Try.ntmps6
      go_wp2_with fail
      refine (Words_any wd sg sw mu di ad n hn _).mono ?_
      rw [hL.out, he.out]
      rintro e w1 ⟨A1, m1, g1, rfl, hm1, hg1, li1, b1⟩
      have HM1 := Lib.hid hm1
      have hm1b : m1 ≤ 2 := by omega
      have bx1 := bx0.below b1
      obtain ⟨d0, d1, d2, d3, d4, d5⟩ := bx1.six
      clear b1 hm1 hg1 bx0
      go_wp2_with fail
      refine (Raw_any wd sg sw mu di ad A l _ xs _ ((W0.out.below bx1.2).more bx1.2.size) HN.out (by omega)).mono ?_
      rw [hr.out, he1.out]
      rintro e w3 ⟨rfl, b3⟩
      have bx3 := bx1.below b3
      clear d0 d1 d2 d3 d4 d5 b3 bx1
      obtain ⟨d0, d1, d2, d3, d4, d5⟩ := bx3.six
      go_wp2_with fail
      refine (Words_any wd sg sw mu di ad r hrb _).mono ?_
      rw [(HF.out (by trivial)).1, (HF.out (by trivial)).2]
      rintro e w4 ⟨A4, m4, g4, rfl, hm4, hg4, li4, b4⟩
      have em : m4 = l := hm4.symm.trans HN.out
      subst em
      have bel4 := (bx3.below b4).2
      clear d0 d1 d2 d3 d4 d5 b4 hm4 hg4
      go_wp2_with fail
      refine (W.same_yes_u16 _ _ _ _ _ xs _ _ _ (li4.row HN.out hwf.out) (W0.out.below bel4) HN.out (by omega)).mono ?_
      rintro e w5 ⟨rfl, m5, rfl⟩
      have bel5 := below_drewN bel4 m5
      go_wp2_with fail
      refine (works_yes _).mono ?_
      rintro e w7 ⟨rfl, b7⟩
      go_wp2
      go_ret
      exact ⟨rfl, bel5.trans (b7.mono bel5.size)⟩
    · have f1 : (e1 != 0) = true := by simpa using hE1
      have f2 : (e1 == 0) = false := beq_false_of_ne hE1
      obtain rfl := HZ.out hE1
      clear hE1
      go_enter Try.func6, Try.ntmps6
      go_wp2_with fail
      refine (Words_any wd sg sw mu di ad n hn _).mono ?_
      rw [hL.out, he.out]
      rintro e w1 ⟨A1, m1, g1, rfl, hm1, hg1, li1, b1⟩
      have HM1 := Lib.hid hm1
      have hm1b : m1 ≤ 2 := by omega
      have bx1 := bx0.below b1
      obtain ⟨d0, d1, d2, d3, d4, d5⟩ := bx1.six
      clear b1 hm1 hg1 bx0
      go_wp2_with fail
      refine (Raw_any wd sg sw mu di ad A l _ xs _ ((W0.out.below bx1.2).more bx1.2.size) HN.out (by omega)).mono ?_
      rw [hr.out, he1.out]
      rintro e w3 ⟨rfl, b3⟩
      have bx3 := bx1.below b3
      clear d0 d1 d2 d3 d4 d5 b3 bx1
      obtain ⟨d0, d1, d2, d3, d4, d5⟩ := bx3.six
      have bel3 := bx3.2
      go_wp2_with fail
      refine (works_yes _).mono ?_
      rintro e w7 ⟨rfl, b7⟩
      go_wp2
      go_ret
      exact ⟨rfl, bel3.trans (b7.mono bel3.size)⟩
end Go.Proofs.Ytcnidddneiekfaa
