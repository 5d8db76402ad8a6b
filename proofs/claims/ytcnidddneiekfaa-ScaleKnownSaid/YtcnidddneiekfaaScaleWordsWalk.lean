/-
  The walk of ScaleWords.
-/
import Derived.Test.YtcnidddneiekfaaScWords2
namespace Go.Proofs.Ytcnidddneiekfaa
open Go.RowKit
set_option linter.unusedVariables false

theorem wordsS_len (wd sg sw : Bool) (mu di ad : Int) (n : Int) : (wordsS (⟨wd, sg, sw, mu, di, ad⟩ : Sc) n).length ≤ 2 := by
  unfold wordsS; split
  · rw [layS_len]; cases wd <;> simp [cntS]
  · simp
set_option maxHeartbeats 1000000 in
theorem walk_ScaleWords (s : Sc) (n : Int) (w : World) (hf : s.fits) (wn : (Lit.int .i64 n).wf = true) :
    Calls Try.prog 4 #[.agg #[.bool s.wide, .bool s.signed, .bool s.swap, .int .i64 s.mul, .int .i64 s.div, .int .i64 s.add], .int .i64 n] w fun e w' => e = .returned (.bool true) ∧ Below w.heap.size w w' := by
  obtain ⟨wd, sg, sw, mu, di, ad⟩ := s
  simp only at *
  have hn := wf_i64 wn
  clear hf wn
  have bx0 := Bx.new w (.cells #[.bool wd, .bool sg, .bool sw, .int .i64 mu, .int .i64 di, .int .i64 ad] 23)
  have hll := wordsS_len wd sg sw mu di ad n
  obtain ⟨L, hL⟩ : ∃ L, Hid (wordsS (⟨wd, sg, sw, mu, di, ad⟩ : Sc) n = L) := ⟨_, Lib.hid rfl⟩
  obtain ⟨e0, he⟩ : ∃ e0, Hid (wordsE (⟨wd, sg, sw, mu, di, ad⟩ : Sc) n = e0) := ⟨_, Lib.hid rfl⟩
  have hwf : Hid (∀ x ∈ L, (Lit.int .u16 x).wf = true) := Lib.hid (by rw [← hL.out]; exact wordsS_wf _ _)
  rw [hL.out] at hll
  go_enter Try.func4, Try.ntmps4
  go_wp2_with fail
  refine (Words_any wd sg sw mu di ad n hn _).mono ?_
  rw [hL.out, he.out]
  rintro e w1 ⟨A1, m1, g1, rfl, hm1, hg1, li1, b1⟩
  have HM1 := Lib.hid hm1
  have hm1b : m1 ≤ 2 := by omega
  have lt1 := li1.lt
  have bx1 := bx0.below b1
  have hg1' : w.heap.size ≤ g1 := by have := bx0.lt; omega
  obtain ⟨d0, d1, d2, d3, d4, d5⟩ := bx1.six
  clear b1 hm1 hg1 bx0
  go_wp2_with fail
  refine (Words_any wd sg sw mu di ad n hn _).mono ?_
  rw [hL.out, he.out]
  rintro e w2 ⟨A2, m2, g2, rfl, hm2, hg2, li2, b2⟩
  have em : m2 = m1 := hm2.symm.trans HM1.out
  subst em
  have li1b := li1.below b2
  have bx2 := bx1.below b2
  have far : A1 = none ∨ g1 < g2 := by rcases lt1 with h | h; exact .inl h; exact .inr (by omega)
  have hg2' : w.heap.size ≤ g2 := by have := bx1.lt; omega
  clear d0 d1 d2 d3 d4 d5 b2 hm2 hg2 bx1 li1 lt1
  obtain ⟨d0, d1, d2, d3, d4, d5⟩ := bx2.six
  go_wp2_with fail
  refine (refWords_any wd sg sw mu di ad n hn _).mono ?_
  rw [hL.out, he.out]
  rintro e w3 ⟨A3, m3, g3, rfl, hm3, hg3, li3, b3⟩
  have em : m3 = m2 := hm3.symm.trans HM1.out
  subst em
  have li1c := li1b.below b3
  have li2c := li2.below b3
  have bel3 := (bx2.below b3).2
  clear d0 d1 d2 d3 d4 d5 b3 hm3 hg3 bx2 li1b li2
  go_wp2_with fail
  refine (W.same_yes_u16 _ _ _ _ _ L _ _ _ (li1c.row HM1.out hwf.out) (li3.row HM1.out hwf.out) HM1.out (by omega)).mono ?_
  rintro e w4 ⟨rfl, m4, rfl⟩
  go_wp2_with fail
  refine (W.same_yes_u16 _ _ _ _ _ L _ _ _ ((li2c.row HM1.out hwf.out).drewN m4) ((li3.row HM1.out hwf.out).drewN m4) HM1.out (by omega)).mono ?_
  rintro e w5 ⟨rfl, m5, rfl⟩
  rw [World.drewN_drewN]
  have bel5 := below_drewN bel3 (m4 + m5)
  have li15 := li1c.below (bel_drewN w3 (m4 + m5))
  have li25 := li2c.below (bel_drewN w3 (m4 + m5))
  clear li1c li2c li3 bel3
  generalize w3.drewN (m4 + m5) = w5 at *
  go_wp2_with fail
  refine (W.apart2_u16 w5 w.heap.size _ _ _ _ _ _ _ _ _ li15 li25 HM1.out HM1.out hwf.out hwf.out hg1' hg2' (by omega) (by omega) far bel5.size).mono ?_
  rintro e w6 ⟨rfl, b6⟩
  have bel6 := bel5.trans b6
  go_wp2_with fail
  refine (works_yes _).mono ?_
  rintro e w7 ⟨rfl, b7⟩
  go_wp2
  go_ret
  exact ⟨rfl, bel6.trans (b7.mono bel6.size)⟩
end Go.Proofs.Ytcnidddneiekfaa
