/-
  The walk of ScaleValues.
-/
import Derived.Test.YtcnidddneiekfaaScWorks
namespace Go.Proofs.Ytcnidddneiekfaa
open Go.RowKit
set_option linter.unusedVariables false

set_option maxHeartbeats 1000000 in
theorem walk_ScaleValues (s : Sc) (n : Int) (w : World) (hf : s.fits) (wn : (Lit.int .i64 n).wf = true) :
    Calls Try.prog 5 #[.agg #[.bool s.wide, .bool s.signed, .bool s.swap, .int .i64 s.mul, .int .i64 s.div, .int .i64 s.add], .int .i64 n] w fun e w' => e = .returned (.bool true) ∧ Below w.heap.size w w' := by
  obtain ⟨wd, sg, sw, mu, di, ad⟩ := s
  simp only at *
  clear hf wn
  have bx0 := Bx.new w (.cells #[.bool wd, .bool sg, .bool sw, .int .i64 mu, .int .i64 di, .int .i64 ad] 23)
  obtain ⟨v, hv⟩ : ∃ v, Hid (valN (⟨wd, sg, sw, mu, di, ad⟩ : Sc) n = v) := ⟨_, Lib.hid rfl⟩
  obtain ⟨e0, he⟩ : ∃ e0, Hid (valE (⟨wd, sg, sw, mu, di, ad⟩ : Sc) n = e0) := ⟨_, Lib.hid rfl⟩
  go_enter Try.func5, Try.ntmps5
  go_wp2_with fail
  refine (Value_any wd sg sw mu di ad n _).mono ?_
  rintro e w1 ⟨rfl, b1⟩
  rw [hv.out, he.out]
  have bx1 := bx0.below b1
  obtain ⟨d0, d1, d2, d3, d4, d5⟩ := bx1.six
  go_wp2_with fail
  refine (refValue_any wd sg sw mu di ad n _).mono ?_
  rintro e w2 ⟨rfl, b2⟩
  rw [hv.out, he.out]
  have bel2 := (bx1.below b2).2
  go_wp2_with fail
  refine (works_yes _).mono ?_
  rintro e w3 ⟨rfl, b3⟩
  go_wp2
  go_ret
  exact ⟨rfl, bel2.trans (b3.mono bel2.size)⟩
end Go.Proofs.Ytcnidddneiekfaa
