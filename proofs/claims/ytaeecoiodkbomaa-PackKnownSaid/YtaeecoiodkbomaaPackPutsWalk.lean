/-
  The walk of PackPuts.
-/
import Derived.Test.YtaeecoiodkbomaaPkAny
namespace Go.Proofs.Ytaeecoiodkbomaa
open Go.RowKit
set_option linter.unusedVariables false

set_option maxHeartbeats 2000000 in
theorem walk_PackPuts (a0 : Option Addr) (l0 c0 : Nat) (x0 : List Int) (a1 a2 : Int) (w : World) (w0 : Row .u8 w w.heap.size a0 x0) (n0 : x0.length = l0) (s0 : l0 ≤ c0) (m0 : c0 ≤ 140737488351232) (w1 : (Lit.int .u64 a1).wf = true) (w2 : (Lit.int .i64 a2).wf = true) :
    Calls Try.prog 3 #[.slice a0 l0 c0, .int .u64 a1, .int .i64 a2] w fun e w' => e = .returned (.bool true) ∧ Below w.heap.size w w' := by
  have hn := Lib.hid n0
  have hv := Lib.hid w1
  clear n0 w1 w2
  by_cases hlong : 65536 < l0
  · go_enter Try.func3, Try.ntmps3
    go_wp2_with (go_at_call 12; refine (works_yes _).mono ?_; rintro e w' ⟨rfl, bel⟩)
    go_ret
    exact ⟨rfl, bel⟩
  have k1 : Bk (w.alloc (.cells (blk .u8 (x0 ++ marks5)) 5)) w.heap.size (x0 ++ marks5) := heap_alloc_new w _
  have bel1 : Below w.heap.size w (w.alloc (.cells (blk .u8 (x0 ++ marks5)) 5)) := (Below.refl _ _).alloc (Nat.le_refl _) _
  have hwf := w0.1
  have pwf := putL_wf hwf a1 a2
  have ple := putL_le x0 a1 a2
  rw [hn.out] at ple
  go_enter Try.func3, Try.ntmps3
  go_wp2_with fail
  refine (lent_u8 _ _ _ x0 _ w0 hn.out (by omega)).mono ?_
  rintro e w' ⟨rfl, rfl⟩
  generalize w.alloc (.cells (blk .u8 (x0 ++ marks5)) 5) = w1 at *
  have hs1 := k1.lt
  go_wp2_with fail
  refine (Put_any _ _ _ a1 a2 x0 _ (k1.row x0 hwf (List.prefix_append _ _)) hn.out (by omega) hv.out).mono ?_
  rintro e w2 ⟨A1, m1, rfl, hm1, li1, b2⟩
  have hm1' := Lib.hid hm1
  rw [hm1] at ple
  have bel2 := bel1.trans (b2.mono bel1.size)
  have k2 := k1.below b2
  have hs2 := b2.size
  have lt1 := li1.lt
  clear b2 k1 hm1
  go_wp2_with fail
  refine (Put_any _ _ _ a1 a2 x0 _ (k2.row x0 hwf (List.prefix_append _ _)) hn.out (by omega) hv.out).mono ?_
  rintro e w3 ⟨A2, m2, rfl, hm2, li2, b3⟩
  have hm2' := Lib.hid hm2
  have ple2 : m2 ≤ l0 + 8 := by rw [← hm2, hm1'.out]; exact ple
  have bel3 := bel2.trans (b3.mono bel2.size)
  have k3 := k2.below b3
  have li13 := li1.below b3
  have hs3 := b3.size
  clear b3 k2 hm2 li1
  go_wp2_with fail
  refine (refPut_any _ _ _ a1 a2 x0 _ ((w0.below bel3).more bel3.size) hn.out (by omega) hv.out).mono ?_
  rintro e w4 ⟨v4, rfl, own4, b4⟩
  have bel4 := bel3.trans (b4.mono bel3.size)
  have k4 := k3.below b4
  have li14 := li13.below b4
  have li24 := li2.below b4
  have hs4 := b4.size
  clear b4 k3 li13 li2
  obtain ⟨A4, c4, rfl, r4, _, _⟩ := own4.row pwf
  rw [hm1'.out]
  have e12 : m2 = m1 := hm2'.out.symm.trans hm1'.out
  subst e12
  clear hm1'
  go_wp2_with fail
  refine (same_yes_u8 _ _ _ _ _ (putL x0 a1 a2) _ _ _ (li14.row hm2'.out pwf) r4 hm2'.out (by omega)).mono ?_
  rintro e w5 ⟨rfl, m5, rfl⟩
  go_wp2_with fail
  refine (same_yes_u8 _ _ _ _ _ (putL x0 a1 a2) _ _ _ ((li24.row hm2'.out pwf).drewN m5) (r4.drewN m5) hm2'.out (by omega)).mono ?_
  rintro e w6 ⟨rfl, m6, rfl⟩
  rw [World.drewN_drewN]
  have bel6 := below_drewN bel4 (m5 + m6)
  have k6 := k4.drewN (m5 + m6)
  have li16 := li14.below (bel_drewN w4 (m5 + m6))
  have li26 := li24.below (bel_drewN w4 (m5 + m6))
  have hs6 : w3.heap.size ≤ (w4.drewN (m5 + m6)).heap.size := hs4
  clear own4 r4 k4 li14 li24 hs4 bel4
  generalize w4.drewN (m5 + m6) = w6 at *
  go_wp2_with fail
  refine (kept_u8 _ _ _ _ x0 _ _ (w0.below bel6) hn.out (by omega) k6).mono ?_
  rintro e w' ⟨rfl, m7, rfl⟩
  have bel7 := below_drewN bel6 m7
  have k7 := k6.drewN m7
  have li17 := li16.below (bel_drewN w6 m7)
  have li27 := li26.below (bel_drewN w6 m7)
  have hs7 : w3.heap.size ≤ (w6.drewN m7).heap.size := hs6
  clear k6 li16 li26 hs6 bel6
  generalize w6.drewN m7 = w7 at *
  go_wp2_with fail
  refine (apart3_u8 w7 w.heap.size _ _ _ _ _ _ _ _ _ _ x0 _ li17 li27 k7 hm2'.out hm2'.out hn.out pwf pwf hwf (Nat.le_refl _) (by omega) (by omega) (by omega) (by omega) (by omega) lt1 bel7.size).mono ?_
  rintro e w8 ⟨rfl, b8⟩
  have bel8 := bel7.trans b8
  go_wp2_with fail
  refine (works_yes _).mono ?_
  rintro e w' ⟨rfl, bel⟩
  go_wp2
  go_ret
  exact ⟨rfl, bel8.trans (bel.mono bel8.size)⟩
end Go.Proofs.Ytaeecoiodkbomaa
