/-
  The document's contract of Check of layer 9.
-/
import Derived.Test.YtmakegbkgiajdaaTgCheckA
import Derived.Test.YtmakegbkgiajdaaTgCheckB
import Derived.Test.YtmakegbkgiajdaaTgCheckC
namespace Go.Proofs.Ytmakegbkgiajdaa
open Go.RowKit
set_option linter.unusedVariables false
attribute [local go_sem ↓] ldTag_fold

theorem refCheck9_any (nm : ByteArray) (un ki ad ev : Int) (we sg sw : Bool) (mu di aa de qu : Int) (ul uh la : Bool) (lo hi hy : Int) (w : World) (hs : nm.size ≤ maxLen) : Calls Try.prog 14 #[.agg #[.string nm, .int .i64 un, .int .i64 ki, .int .i64 ad, .int .i64 ev, .bool we, .bool sg, .bool sw, .int .i64 mu, .int .i64 di, .int .i64 aa, .int .i64 de, .int .i64 qu, .bool ul, .bool uh, .bool la, .int .i64 lo, .int .i64 hi, .int .i64 hy]] w fun e w' => e = .returned (.int .i64 (chkT ⟨nm, un, ki, ad, ev, we, sg, sw, mu, di, aa, de, qu, ul, uh, la, lo, hi, hy⟩)) ∧ Below w.heap.size w w' := by
  refine tag_cases ⟨nm, un, ki, ad, ev, we, sg, sw, mu, di, aa, de, qu, ul, uh, la, lo, hi, hy⟩ _ ?_ ?_ ?_ ?_ ?_ ?_ ?_ ?_ ?_ ?_ ?_ ?_ ?_
  · intro hn0 HC; rw [HC]; exact rc9_1 nm un ki ad ev we sg sw mu di aa de qu ul uh la lo hi hy w hs hn0
  · intro hn u1y HC; rw [HC]; exact rc9_2 nm un ki ad ev we sg sw mu di aa de qu ul uh la lo hi hy w hs hn u1y
  · intro hn u1 u2y HC; rw [HC]; exact rc9_3 nm un ki ad ev we sg sw mu di aa de qu ul uh la lo hi hy w hs hn u1 u2y
  · intro hn u1 u2 k1y HC; rw [HC]; exact rc9_4 nm un ki ad ev we sg sw mu di aa de qu ul uh la lo hi hy w hs hn u1 u2 k1y
  · intro hn u1 u2 k1 k2y HC; rw [HC]; exact rc9_5 nm un ki ad ev we sg sw mu di aa de qu ul uh la lo hi hy w hs hn u1 u2 k1 k2y
  · intro hn u1 u2 k1 k2 d1y HC; rw [HC]; exact rc9_6 nm un ki ad ev we sg sw mu di aa de qu ul uh la lo hi hy w hs hn u1 u2 k1 k2 d1y
  · intro hn u1 u2 k1 k2 d1 d2y HC; rw [HC]; exact rc9_7 nm un ki ad ev we sg sw mu di aa de qu ul uh la lo hi hy w hs hn u1 u2 k1 k2 d1 d2y
  · intro hn u1 u2 k1 k2 d1 d2 v1y HC; rw [HC]; exact rc9_8 nm un ki ad ev we sg sw mu di aa de qu ul uh la lo hi hy w hs hn u1 u2 k1 k2 d1 d2 v1y
  · intro hn u1 u2 k1 k2 d1 d2 v1 v2y HC; rw [HC]; exact rc9_9 nm un ki ad ev we sg sw mu di aa de qu ul uh la lo hi hy w hs hn u1 u2 k1 k2 d1 d2 v1 v2y
  · intro hn u1 u2 k1 k2 d1 d2 v1 v2 S0 HC; rw [HC]; exact rc9_10 nm un ki ad ev we sg sw mu di aa de qu ul uh la lo hi hy w hs hn u1 u2 k1 k2 d1 d2 v1 v2 S0
  · intro hn u1 u2 k1 k2 d1 d2 v1 v2 S kb hb HC
    rw [HC]
    rcases bitS_no hb with h | h | h | h | h | h
    · exact rc9_11we nm un ki ad ev we sg sw mu di aa de qu ul uh la lo hi hy w hs hn u1 u2 k1 k2 d1 d2 v1 v2 S kb h
    · exact rc9_11sg nm un ki ad ev we sg sw mu di aa de qu ul uh la lo hi hy w hs hn u1 u2 k1 k2 d1 d2 v1 v2 S kb h
    · exact rc9_11sw nm un ki ad ev we sg sw mu di aa de qu ul uh la lo hi hy w hs hn u1 u2 k1 k2 d1 d2 v1 v2 S kb h
    · exact rc9_11mu nm un ki ad ev we sg sw mu di aa de qu ul uh la lo hi hy w hs hn u1 u2 k1 k2 d1 d2 v1 v2 S kb h
    · exact rc9_11di nm un ki ad ev we sg sw mu di aa de qu ul uh la lo hi hy w hs hn u1 u2 k1 k2 d1 d2 v1 v2 S kb h
    · exact rc9_11aa nm un ki ad ev we sg sw mu di aa de qu ul uh la lo hi hy w hs hn u1 u2 k1 k2 d1 d2 v1 v2 S kb h
  · intro hn u1 u2 k1 k2 d1 d2 v1 v2 S hb B0 HC
    rw [HC]
    by_cases kb : ki ≤ 2
    · rcases hb with hb | hb
      · exact absurd kb hb
      · obtain ⟨rfl, rfl, rfl, rfl, rfl, rfl⟩ := bitS_yes hb
        exact rc9_12b nm un ki ad ev de qu ul uh la lo hi hy w hs hn u1 u2 k1 k2 d1 d2 v1 v2 S kb B0
    · exact rc9_12n nm un ki ad ev we sg sw mu di aa de qu ul uh la lo hi hy w hs hn u1 u2 k1 k2 d1 d2 v1 v2 S kb B0
  · intro hn u1 u2 k1 k2 d1 d2 v1 v2 S hb B HC
    rw [HC]
    by_cases kb : ki ≤ 2
    · rcases hb with hb | hb
      · exact absurd kb hb
      · obtain ⟨rfl, rfl, rfl, rfl, rfl, rfl⟩ := bitS_yes hb
        exact rc9_13b nm un ki ad ev de qu ul uh la lo hi hy w hs hn u1 u2 k1 k2 d1 d2 v1 v2 S kb B
    · exact rc9_13n nm un ki ad ev we sg sw mu di aa de qu ul uh la lo hi hy w hs hn u1 u2 k1 k2 d1 d2 v1 v2 S kb B
end Go.Proofs.Ytmakegbkgiajdaa
