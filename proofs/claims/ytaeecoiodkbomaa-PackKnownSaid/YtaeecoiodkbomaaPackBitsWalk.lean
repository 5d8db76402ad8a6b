/-
  The walk of PackBits.
-/
import Derived.Test.YtaeecoiodkbomaaPkUBits
import Derived.Test.YtaeecoiodkbomaaPkWAny
namespace Go.Proofs.Ytaeecoiodkbomaa
open Go.RowKit
set_option linter.unusedVariables false

set_option maxHeartbeats 4000000 in
set_option maxRecDepth 100000 in
theorem walk_PackBits (a0 : Option Addr) (l0 c0 : Nat) (x0 : List Bool) (a1 : Option Addr) (l1 c1 : Nat) (x1 : List Int) (n : Int) (w : World) (w0 : L.Row () w w.heap.size a0 x0) (n0 : x0.length = l0) (s0 : l0 ≤ c0) (m0 : c0 ≤ 140737488351232) (w1 : Row .u8 w w.heap.size a1 x1) (n1 : x1.length = l1) (s1 : l1 ≤ c1) (m1 : c1 ≤ 140737488351232) (wn : (Lit.int .i64 n).wf = true) :
    Calls Try.prog 5 #[.slice a0 l0 c0, .slice a1 l1 c1, .int .i64 n] w fun e w' => e = .returned (.bool true) ∧ Below w.heap.size w w' := by
  have hn0 := Lib.hid n0
  have hn1 := Lib.hid n1
  have hwn := Lib.hid wn
  clear n0 n1 wn
  by_cases hlong : 65536 < l0
  · go_enter Try.func5, Try.ntmps5
    go_wp2_with (go_at_call 12; refine (works_yes _).mono ?_; rintro e w' ⟨rfl, bel⟩)
    go_ret
    exact ⟨rfl, bel⟩
  by_cases hlong1 : 65536 < l1
  · go_enter Try.func5, Try.ntmps5
    go_wp2_with (go_at_call 12; refine (works_yes _).mono ?_; rintro e w' ⟨rfl, bel⟩)
    go_ret
    exact ⟨rfl, bel⟩
  have k1 : L.Bk (w.alloc (.cells (L.blk () (x0 ++ L.marks5)) 4)) w.heap.size (x0 ++ L.marks5) := heap_alloc_new w _
  have bel1 : Below w.heap.size w (w.alloc (.cells (L.blk () (x0 ++ L.marks5)) 4)) := (Below.refl _ _).alloc (Nat.le_refl _) _
  have hwf0 := w0.1
  have hwf1 := w1.1
  obtain ⟨d, hd⟩ : ∃ d, Hid (need l0 = d) := ⟨_, Lib.hid rfl⟩
  have hd2 : d ≤ 65536 := by rw [← hd.out]; unfold need; omega
  obtain ⟨P, hP⟩ : ∃ P, Hid (pk x0 d = P) := ⟨_, Lib.hid rfl⟩
  have bwf : ∀ x ∈ P, (Lit.int .u8 x).wf = true := by rw [← hP.out]; exact pk_wf x0 d
  have HBL : Hid (P.length = d) := Lib.hid (by rw [← hP.out, pk_length])
  have ple := unbitsL_le x1 n (by rw [hn1.out]; omega)
  obtain ⟨U, hU⟩ : ∃ U, Hid (unbitsL x1 n = U) := ⟨_, Lib.hid rfl⟩
  obtain ⟨E, hE⟩ : ∃ E, Hid (unbitsE x1 n = E) := ⟨_, Lib.hid rfl⟩
  rw [hU.out] at ple
  have pwf : ∀ x ∈ U, (Lit.bool x).wf = true := fun _ _ => rfl
  go_enter Try.func5, Try.ntmps5
  go_wp2_with fail
  refine (L.lent_bool _ _ _ x0 _ w0 hn0.out (by omega)).mono ?_
  rintro e w' ⟨rfl, rfl⟩
  generalize w.alloc (.cells (L.blk () (x0 ++ L.marks5)) 4) = wa at *
  have hs1 := k1.lt
  go_wp2_with fail
  refine (lent_u8 _ _ _ x1 _ ((w1.below bel1).more bel1.size) hn1.out (by omega)).mono ?_
  rintro e w' ⟨rfl, rfl⟩
  have j2 : Bk (wa.alloc (.cells (blk .u8 (x1 ++ marks5)) 5)) wa.heap.size (x1 ++ marks5) := heap_alloc_new wa _
  have b2 : Below wa.heap.size wa (wa.alloc (.cells (blk .u8 (x1 ++ marks5)) 5)) := (Below.refl _ _).alloc (Nat.le_refl _) _
  have k2 := k1.below b2
  have bel2 := bel1.trans (b2.mono bel1.size)
  clear b2 k1
  generalize wa.alloc (.cells (blk .u8 (x1 ++ marks5)) 5) = wb at *
  have hs2 := j2.lt
  -- one, two
  go_wp2_with fail
  refine (Bits_any _ _ _ x0 _ (k2.row x0 hwf0 (List.prefix_append _ _)) hn0.out (by omega)).mono ?_
  intro e w3 hL
  rw [hd.out, hP.out] at hL
  obtain ⟨rfl, li1, b3⟩ := hL.li
  clear hL
  have bel3 := bel2.trans (b3.mono bel2.size)
  have k3 := k2.below b3
  have j3 := j2.below b3
  have lt1 : wb.heap.size < w3.heap.size := li1.lt.resolve_left (by simp)
  clear b3 k2 j2
  go_wp2_with fail
  refine (Bits_any _ _ _ x0 _ (k3.row x0 hwf0 (List.prefix_append _ _)) hn0.out (by omega)).mono ?_
  intro e w4 hL
  rw [hd.out, hP.out] at hL
  obtain ⟨rfl, li2, b4⟩ := hL.li
  clear hL
  have bel4 := bel3.trans (b4.mono bel3.size)
  have k4 := k3.below b4
  have j4 := j3.below b4
  have li14 := li1.below b4
  have hs4 := b4.size
  clear b4 k3 j3 li1
  -- want
  go_wp2_with fail
  refine (refBits_any _ _ _ x0 _ ((w0.below bel4).more bel4.size) hn0.out (by omega)).mono ?_
  rintro e w5 ⟨v5, rfl, own5, b5⟩
  rw [hd.out, hP.out] at own5
  have bel5 := bel4.trans (b5.mono bel4.size)
  have k5 := k4.below b5
  have j5 := j4.below b5
  have li15 := li14.below b5
  have li25 := li2.below b5
  have hs5 := b5.size
  clear b5 k4 j4 li14 li2
  obtain ⟨A5, c5, rfl, r5, _, _⟩ := own5.row bwf
  rw [HBL.out]
  go_wp2_with fail
  refine (same_yes_u8 _ _ _ _ _ P _ _ _ (li15.row HBL.out bwf) r5 HBL.out (by omega)).mono ?_
  rintro e w6 ⟨rfl, m5, rfl⟩
  go_wp2_with fail
  refine (same_yes_u8 _ _ _ _ _ P _ _ _ ((li25.row HBL.out bwf).drewN m5) (r5.drewN m5) HBL.out (by omega)).mono ?_
  rintro e w6 ⟨rfl, m6, rfl⟩
  rw [World.drewN_drewN]
  have bel6 := below_drewN bel5 (m5 + m6)
  have k6 := k5.drewN (m5 + m6)
  have j6 := j5.drewN (m5 + m6)
  have li16 := li15.below (bel_drewN w5 (m5 + m6))
  have li26 := li25.below (bel_drewN w5 (m5 + m6))
  have hs6 : w4.heap.size ≤ (w5.drewN (m5 + m6)).heap.size := hs5
  clear own5 r5 k5 j5 li15 li25 hs5 bel5
  generalize w5.drewN (m5 + m6) = w6 at *
  go_wp2_with fail
  refine (L.kept_bool _ _ _ _ x0 _ _ (w0.below bel6) hn0.out (by omega) k6).mono ?_
  rintro e w' ⟨rfl, m7, rfl⟩
  have bel7 := below_drewN bel6 m7
  have j7 := j6.drewN m7
  have li17 := li16.below (bel_drewN w6 m7)
  have li27 := li26.below (bel_drewN w6 m7)
  have hs7 : w4.heap.size ≤ (w6.drewN m7).heap.size := hs6
  clear k6 j6 li16 li26 hs6 bel6
  generalize w6.drewN m7 = w7 at *
  go_wp2_with fail
  refine (apart2_u8 w7 wb.heap.size _ _ _ _ _ _ _ _ _ li17 li27 HBL.out HBL.out bwf bwf (Nat.le_refl _) (by omega) (by omega) (by omega) (.inr lt1) (by omega)).mono ?_
  rintro e w8 ⟨rfl, b8⟩
  have bel8 := bel7.trans (b8.mono bel2.size)
  have j8 : Bk w8 wa.heap.size (x1 ++ marks5) := (b8.block _ (by omega)).trans j7
  have hs8 := b8.size
  clear b8 j7 li17 li27 bel7
  -- p, q
  go_wp2_with fail
  refine (Unbits_any _ _ _ n x1 _ (j8.row x1 hwf1 (List.prefix_append _ _)) hn1.out (by omega) hwn.out).mono ?_
  rw [hU.out, hE.out]
  rintro e w9 ⟨A9, m9, rfl, hm9, li9, b9⟩
  have hm9' := Lib.hid hm9
  rw [hm9] at ple
  have bel9 := bel8.trans (b9.mono bel8.size)
  have j9 := j8.below b9
  have hs9 := b9.size
  have lt9 := li9.lt
  clear b9 j8 hm9
  go_wp2_with fail
  refine (Unbits_any _ _ _ n x1 _ (j9.row x1 hwf1 (List.prefix_append _ _)) hn1.out (by omega) hwn.out).mono ?_
  rw [hU.out, hE.out]
  rintro e w10 ⟨A10, m10, rfl, hm10, li10, b10⟩
  have bel10 := bel9.trans (b10.mono bel9.size)
  have j10 := j9.below b10
  have li9b := li9.below b10
  have hs10 := b10.size
  have e12 : m10 = m9 := hm10.symm.trans hm9'.out
  subst e12
  clear b10 j9 hm10 li9
  go_wp2_with fail
  refine (refUnbits_any _ _ _ n x1 _ ((w1.below bel10).more bel10.size) hn1.out (by omega) hwn.out).mono ?_
  rw [hU.out, hE.out]
  rintro e w11 ⟨v11, rfl, own11, b11⟩
  have bel11 := bel10.trans (b11.mono bel10.size)
  have j11 := j10.below b11
  have li9c := li9b.below b11
  have li10b := li10.below b11
  have hs11 := b11.size
  clear b11 j10 li9b li10
  obtain ⟨A11, c11, rfl, r11, _, _⟩ := own11.row pwf
  rw [hm9'.out]
  go_wp2_with fail
  refine (L.same_yes_bool _ _ _ _ _ U _ _ _ (li9c.row hm9'.out pwf) r11 hm9'.out (by omega)).mono ?_
  rintro e w12 ⟨rfl, m12, rfl⟩
  go_wp2_with fail
  refine (L.same_yes_bool _ _ _ _ _ U _ _ _ ((li10b.row hm9'.out pwf).drewN m12) (r11.drewN m12) hm9'.out (by omega)).mono ?_
  rintro e w13 ⟨rfl, m13, rfl⟩
  rw [World.drewN_drewN]
  have bel13 := below_drewN bel11 (m12 + m13)
  have j13 := j11.drewN (m12 + m13)
  have li9d := li9c.below (bel_drewN w11 (m12 + m13))
  have li10d := li10b.below (bel_drewN w11 (m12 + m13))
  have hs13 : w10.heap.size ≤ (w11.drewN (m12 + m13)).heap.size := hs11
  clear own11 r11 j11 li9c li10b hs11 bel11
  generalize w11.drewN (m12 + m13) = w13 at *
  go_wp2_with fail
  refine (L.apart2_bool w13 w8.heap.size _ _ _ _ _ _ _ _ _ li9d li10d hm9'.out hm9'.out pwf pwf (Nat.le_refl _) (by omega) (by omega) (by omega) lt9 (by omega)).mono ?_
  rintro e w14 ⟨rfl, b14⟩
  have bel14 := bel13.trans (b14.mono bel8.size)
  have j14 : Bk w14 wa.heap.size (x1 ++ marks5) := (b14.block _ (by omega)).trans j13
  clear b14 j13 li9d li10d bel13
  go_wp2_with fail
  refine (kept_u8 _ _ _ _ x1 _ _ (w1.below bel14) hn1.out (by omega) j14).mono ?_
  rintro e w' ⟨rfl, m15, rfl⟩
  have bel15 := below_drewN bel14 m15
  go_wp2_with fail
  refine (works_yes _).mono ?_
  rintro e w' ⟨rfl, bel⟩
  go_wp2
  go_ret
  exact ⟨rfl, bel15.trans (bel.mono bel15.size)⟩
end Go.Proofs.Ytaeecoiodkbomaa
