/-
  The walk of PackBitsBack.
-/
import Derived.Test.YtaeecoiodkbomaaPkUBits
import Derived.Test.YtaeecoiodkbomaaPkWAny
namespace Go.Proofs.Ytaeecoiodkbomaa
open Go.RowKit
set_option linter.unusedVariables false

theorem spareB_pk (bs : List Bool) : spareB (pk bs (need bs.length)) bs.length = false := by
  cases h : spareB (pk bs (need bs.length)) bs.length with
  | false => rfl
  | true => exact absurd ((spareB_iff _ _).1 h) (no_spare_pk bs)
/-- What Unbits tells of what Bits makes. -/
theorem unbits_pk (bs : List Bool) : unbitsL (pk bs (need bs.length)) (bs.length : Nat) = bs ∧ unbitsE (pk bs (need bs.length)) (bs.length : Nat) = 0 := by
  unfold unbitsL unbitsE
  have h1 : ¬ ((bs.length : Nat) : Int) < 0 := by omega
  have h2 : ¬ (need bs.length ≠ need bs.length) := fun h => h rfl
  have h3 : ¬ (spareB (pk bs (need bs.length)) bs.length = true) := by rw [spareB_pk]; simp
  rw [if_neg h1, if_neg h1, Int.toNat_natCast, pk_length, if_neg h2, if_neg h2, if_neg h3, if_neg h3]
  exact ⟨unpk_pk bs, rfl⟩
/-- What Bits makes of what Unbits tells. -/
theorem unbits_ok (ys : List Int) (n : Int) (h : unbitsE ys n = 0) : 0 ≤ n ∧ ys.length = need n.toNat ∧ ¬ spare ys n.toNat ∧ unbitsL ys n = unpk ys n.toNat := by
  unfold unbitsE at h
  unfold unbitsL
  by_cases h1 : n < 0
  · rw [if_pos h1] at h; cases h
  · rw [if_neg h1] at h
    by_cases h2 : ys.length ≠ need n.toNat
    · rw [if_pos h2] at h; cases h
    · rw [if_neg h2] at h
      by_cases h3 : spareB ys n.toNat = true
      · rw [if_pos h3] at h; cases h
      · rw [if_neg h1, if_neg h2, if_neg h3]
        exact ⟨by omega, Decidable.not_not.1 h2, fun hs => h3 ((spareB_iff _ _).2 hs), rfl⟩
theorem unbits_no (ys : List Int) (n : Int) (h : unbitsE ys n ≠ 0) : unbitsL ys n = [] := by
  unfold unbitsE at h
  unfold unbitsL
  by_cases h1 : n < 0
  · rw [if_pos h1]
  · rw [if_neg h1] at h ⊢
    by_cases h2 : ys.length ≠ need n.toNat
    · rw [if_pos h2]
    · rw [if_neg h2] at h ⊢
      by_cases h3 : spareB ys n.toNat = true
      · rw [if_pos h3]
      · rw [if_neg h3] at h; exact absurd rfl h
set_option maxHeartbeats 4000000 in
set_option maxRecDepth 100000 in
theorem walk_PackBitsBack (a0 : Option Addr) (l0 c0 : Nat) (x0 : List Bool) (a1 : Option Addr) (l1 c1 : Nat) (x1 : List Int) (n : Int) (w : World) (w0 : L.Row () w w.heap.size a0 x0) (n0 : x0.length = l0) (s0 : l0 ≤ c0) (m0 : c0 ≤ 140737488351232) (w1 : Row .u8 w w.heap.size a1 x1) (n1 : x1.length = l1) (s1 : l1 ≤ c1) (m1 : c1 ≤ 140737488351232) (wn : (Lit.int .i64 n).wf = true) :
    Calls Try.prog 9 #[.slice a0 l0 c0, .slice a1 l1 c1, .int .i64 n] w fun e w' => e = .returned (.bool true) ∧ Below w.heap.size w w' := by
  have hn0 := Lib.hid n0
  have hn1 := Lib.hid n1
  have hwn := Lib.hid wn
  clear n0 n1 wn
  by_cases hlong : 65536 < l0
  · go_enter Try.func9, Try.ntmps9
    go_wp2_with (go_at_call 12; refine (works_yes _).mono ?_; rintro e w' ⟨rfl, bel⟩)
    go_ret
    exact ⟨rfl, bel⟩
  by_cases hlong1 : 65536 < l1
  · go_enter Try.func9, Try.ntmps9
    go_wp2_with (go_at_call 12; refine (works_yes _).mono ?_; rintro e w' ⟨rfl, bel⟩)
    go_ret
    exact ⟨rfl, bel⟩
  have hup := unbits_pk x0
  rw [hn0.out] at hup
  obtain ⟨d, hd⟩ : ∃ d, Hid (need l0 = d) := ⟨_, Lib.hid rfl⟩
  have hd2 : d ≤ 65536 := by rw [← hd.out]; unfold need; omega
  rw [hd.out] at hup
  obtain ⟨P, hP⟩ : ∃ P, Hid (pk x0 d = P) := ⟨_, Lib.hid rfl⟩
  rw [hP.out] at hup
  have HU := Lib.hid hup
  clear hup
  have bwf : ∀ x ∈ P, (Lit.int .u8 x).wf = true := by rw [← hP.out]; exact pk_wf x0 d
  have HBL : Hid (P.length = d) := Lib.hid (by rw [← hP.out, pk_length])
  have hwl : Hid ((Lit.int .i64 (l0 : Int)).wf = true) := Lib.hid (by simp [Lit.wf, IntKind.min, IntKind.max, IntKind.signed, IntKind.bits]; omega)
  have pwf : ∀ x ∈ x0, (Lit.bool x).wf = true := fun _ _ => rfl
  go_enter Try.func9, Try.ntmps9
  go_wp2_with fail
  refine (Bits_any _ _ _ x0 _ w0 hn0.out (by omega)).mono ?_
  intro e w3 hL
  rw [hd.out, hP.out] at hL
  obtain ⟨rfl, li1, bel3⟩ := hL.li
  clear hL
  have r3 := li1.row HBL.out bwf
  clear li1
  go_wp2_with fail
  refine (Unbits_any _ _ _ (l0 : Int) P _ r3 HBL.out (by omega) hwl.out).mono ?_
  rw [HU.out.1, HU.out.2]
  rintro e w4 ⟨A4, m4, rfl, hm4, li4, b4⟩
  have e4 : m4 = l0 := hm4.symm.trans hn0.out
  subst e4
  have r4 := li4.row hn0.out pwf
  have bel4 := bel3.trans (b4.mono bel3.size)
  clear b4 r3 li4 hm4
  go_wp2_with fail
  refine (L.same_yes_bool _ _ _ _ _ x0 _ _ _ r4 (w0.below bel4) hn0.out (by omega)).mono ?_
  rintro e w5 ⟨rfl, m5, rfl⟩
  have bel5 := below_drewN bel4 m5
  clear r4 bel4
  generalize w4.drewN m5 = w5 at *
  by_cases hE : unbitsE x1 n = 0
  · obtain ⟨hp0, hl, hsp, hul⟩ := unbits_ok x1 n hE
    obtain ⟨n, rfl⟩ := Int.eq_ofNat_of_zero_le hp0
    rw [Int.toNat_natCast] at hl hsp hul
    have HPK := Lib.hid (pk_unpk x1 n w1.1 hl hsp)
    have HL := Lib.hid hl
    have HUL := Lib.hid hul
    have hEE := Lib.hid hE
    have HN : Hid ((unpk x1 n).length = n) := Lib.hid (unpk_length x1 n)
    have hn8 : n ≤ 1000000 := by have := need_le n l1 (by rw [← hn1.out]; exact hl); omega
    clear hl hsp hul hE hp0
    go_wp2_with fail
    refine (Unbits_any _ _ _ (n : Int) x1 _ ((w1.below bel5).more bel5.size) hn1.out (by omega) hwn.out).mono ?_
    rw [HUL.out, hEE.out]
    rintro e w6 ⟨A6, m6, rfl, hm6, li6, b6⟩
    have e6 : m6 = n := hm6.symm.trans HN.out
    subst e6
    have r6 := li6.row HN.out (fun _ _ => rfl)
    have bel6 := bel5.trans (b6.mono bel5.size)
    clear b6 li6 hm6
    go_wp2_with fail
    refine (Bits_any _ _ _ (unpk x1 m6) _ r6 HN.out (by omega)).mono ?_
    intro e w7 hL
    rw [HPK.out] at hL
    obtain ⟨rfl, li7, b7⟩ := hL.li
    clear hL
    have bel7 := bel6.trans (b7.mono bel6.size)
    have hl7 : l1 = need m6 := hn1.out.symm.trans HL.out
    have hl8 : Hid (x1.length = l1) := hn1
    rw [← hl7] at li7 ⊢
    have r7 := li7.row hl8.out w1.1
    clear li7 b7 r6 hl7
    go_wp2_with fail
    refine (same_yes_u8 _ _ _ _ _ x1 _ _ _ r7 (w1.below bel7) hl8.out (by omega)).mono ?_
    rintro e w8 ⟨rfl, m8, rfl⟩
    have bel8 := below_drewN bel7 m8
    go_wp2_with fail
    refine (works_yes _).mono ?_
    rintro e w' ⟨rfl, bel⟩
    go_wp2
    go_ret
    exact ⟨rfl, bel8.trans (bel.mono bel8.size)⟩
  · have hz := Lib.hid (unbits_no x1 n hE)
    obtain ⟨E, hEE⟩ : ∃ E, Hid (unbitsE x1 n = E) := ⟨_, Lib.hid rfl⟩
    have hE0 : E ≠ 0 := by rw [← hEE.out]; exact hE
    have hE1 : (E != 0) = true := by simp; exact hE0
    have hE2 : (E == 0) = false := beq_false_of_ne hE0
    clear hE
    go_wp2_with fail
    refine (Unbits_any _ _ _ n x1 _ ((w1.below bel5).more bel5.size) hn1.out (by omega) hwn.out).mono ?_
    rw [hz.out, hEE.out]
    rintro e w6 ⟨A6, m6, rfl, hm6, li6, b6⟩
    have e6 : m6 = 0 := hm6.symm
    subst e6
    have bel6 := bel5.trans (b6.mono bel5.size)
    clear b6 li6 hm6
    go_wp2_with fail
    refine (works_yes _).mono ?_
    rintro e w' ⟨rfl, bel⟩
    go_wp2
    go_ret
    exact ⟨rfl, bel6.trans (bel.mono bel6.size)⟩
end Go.Proofs.Ytaeecoiodkbomaa
