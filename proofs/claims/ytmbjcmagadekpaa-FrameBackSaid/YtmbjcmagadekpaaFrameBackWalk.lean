/-
  The walk of FrameBack.
-/
import Derived.Test.YtmbjcmagadekpaaFrTurn
import Derived.Test.YtmbjcmagadekpaaFrKnown
import Derived.Test.YtmbjcmagadekpaaFrSame
namespace Go.Proofs.Ytmbjcmagadekpaa
open Go.RowKit
set_option linter.unusedVariables false

theorem frChk_iff (l : List Int) : (frChk l = 0) ↔ (1 ≤ l.length ∧ l.length ≤ 253) := by
  unfold frChk
  constructor
  · intro h
    split at h
    · cases h
    · split at h
      · cases h
      · omega
  · intro h
    rw [if_neg (by omega), if_neg (by omega)]

set_option maxHeartbeats 4000000 in
set_option maxRecDepth 100000 in
theorem walk_FrameBack (id u : Int) (l : List Int) (A : Option Addr) (n c : Nat) (a1 : Option Addr) (l1 c1 : Nat) (x1 : List Int) (w : World) (w0 : Row .u8 w w.heap.size A l) (n0 : l.length = n) (s0 : n ≤ c) (m0 : c ≤ 140737488351232) (wi : (Lit.int .u16 id).wf = true) (wu : (Lit.int .u8 u).wf = true)
    (w1 : Row .u8 w w.heap.size a1 x1) (n1 : x1.length = l1) (s1 : l1 ≤ c1) (m1 : c1 ≤ 140737488351232) :
    Calls Try.prog 9 #[.agg #[.int .u16 id, .int .u8 u, .slice A n c], .slice a1 l1 c1] w fun e w' => e = .returned (.bool true) ∧ Below w.heap.size w w' := by
  have bx0 := Bx.new w (.cells #[.int .u16 id, .int .u8 u, .slice A n c] 57)
  have HN := Lib.hid n0
  have HN1 := Lib.hid n1
  have hwf := Lib.hid w0.1
  have WU := Lib.hid wu
  have HF : Hid (Tc.Wf ⟨id, u, l⟩) := Lib.hid ⟨wf_u16 wi, wf_u8 wu, w0.1⟩
  have W0 := Lib.hid w0
  have W1 := Lib.hid w1
  have hi := wf_u16 wi
  have hu := wf_u8 wu
  clear wi wu n0 n1 w0 w1
  by_cases hbig : 65536 < n ∨ 65536 < l1
  · rcases Nat.lt_or_ge 65536 n with hb | hb
    · have t : (65536 : Int) < (n : Int) := by omega
      clear hbig
      go_enter Try.func9, Try.ntmps9
      go_wp2_with fail
      refine (known5_yes _).mono ?_
      rintro e w5 ⟨rfl, b5⟩
      go_wp2
      go_ret
      exact ⟨rfl, bx0.2.trans (b5.mono (by simp))⟩
    · have t : ¬ (65536 : Int) < (n : Int) := by omega
      have t2 : (65536 : Int) < (l1 : Int) := by omega
      clear hbig
      go_enter Try.func9, Try.ntmps9
      go_wp2_with fail
      refine (known5_yes _).mono ?_
      rintro e w5 ⟨rfl, b5⟩
      go_wp2
      go_ret
      exact ⟨rfl, bx0.2.trans (b5.mono (by simp))⟩
  have hn : n ≤ 65536 := by omega
  have hl1 : l1 ≤ 65536 := by omega
  clear hbig
  obtain ⟨E, hE⟩ : ∃ E, Hid (frChk l = E) := ⟨_, Lib.hid rfl⟩
  obtain ⟨E2, hE2⟩ : ∃ E, Hid (rtuE u l = E) := ⟨_, Lib.hid rfl⟩
  have HIFF : Hid (E = 0 ↔ (1 ≤ n ∧ n ≤ 253)) := Lib.hid (by rw [← hE.out, frChk_iff, HN.out])
  have HRTU : Hid (E2 = 0 ↔ (1 ≤ n ∧ n ≤ 253) ∧ 1 ≤ u ∧ u ≤ 247) := Lib.hid (by
    rw [← hE2.out, rtuE]
    have := HIFF.out
    rw [← hE.out] at this
    by_cases hh : 1 ≤ u ∧ u ≤ 247
    · rw [if_pos hh, this]; simp [hh]
    · rw [if_neg hh]; simp; omega)
  have hcases : ¬ 1 ≤ n ∨ (1 ≤ n ∧ ¬ n ≤ 253) ∨ (1 ≤ n ∧ n ≤ 253) ∧ ¬ 1 ≤ u ∨ (1 ≤ n ∧ n ≤ 253) ∧ (1 ≤ u ∧ ¬ u ≤ 247) ∨ (1 ≤ n ∧ n ≤ 253) ∧ (1 ≤ u ∧ u ≤ 247) := by omega
  rcases hcases with h | h | h | h | h
  · have h1 : E ≠ 0 := fun q => by have := HIFF.out.1 q; omega
    have h2 : E2 ≠ 0 := fun q => by have := HRTU.out.1 q; omega
    have u1 : (E != 0) = true := by simpa using h1
    have u2 : (E == 0) = false := beq_false_of_ne h1
    have u3 : (E2 != 0) = true := by simpa using h2
    have u4 : (E2 == 0) = false := beq_false_of_ne h2
    have f1 : ¬ (1 : Int) ≤ (n : Int) := by omega
    clear h h1 h2
    have hu3 : ¬ 1 ≤ u ∨ (1 ≤ u ∧ ¬ u ≤ 247) ∨ (1 ≤ u ∧ u ≤ 247) := by omega
    rcases hu3 with g1 | ⟨g1, g2⟩ | ⟨g1, g2⟩
    all_goals
      go_enter Try.func9, Try.ntmps9
      go_wp2_with fail
      refine (frPut_any id u A n c l _ ((W0.out.below bx0.2).more (Nat.le_of_lt bx0.lt)) HN.out hi hu).mono ?_
      rintro e w2 ⟨v2, rfl, own2, b2⟩
      rw [hE.out]
      have bx2 := bx0.below b2
      have HO2 := Lib.hid own2
      clear bx0 b2 own2
      obtain ⟨d0, d1, d2⟩ := cells3 bx2.1
      go_wp2_with fail
      clear d0 d1 d2
      refine (rtu_any A n c u l _ ((W0.out.below bx2.2).more (Nat.le_of_lt bx2.lt)) HN.out).mono ?_
      rintro e w3 ⟨A3, m3, g3, rfl, hm3, hg3, li3, b3⟩
      rw [hE2.out]
      have bx3 := bx2.below b3
      have HO3 := Lib.hid (HO2.out.below b3 (Nat.le_refl _))
      have HM3 := Lib.hid hm3
      have HLI := Lib.hid li3
      have HZ3 : Hid (w.heap.size < w3.heap.size) := Lib.hid bx3.lt
      have HG3 : Hid (A3 = none ∨ g3 < w3.heap.size) := Lib.hid li3.lt
      clear bx2 b3 HO2 hm3 li3 hg3
      obtain ⟨d0, d1, d2⟩ := cells3 bx3.1
      go_wp2_with fail
      clear d0 d1 d2
      refine (known5_yes _).mono ?_
      rintro e w9 ⟨rfl, b9⟩
      go_wp2
      go_ret
      exact ⟨rfl, bx3.2.trans (b9.mono bx3.2.size)⟩
  · have h1 : E ≠ 0 := fun q => by have := HIFF.out.1 q; omega
    have h2 : E2 ≠ 0 := fun q => by have := HRTU.out.1 q; omega
    have u1 : (E != 0) = true := by simpa using h1
    have u2 : (E == 0) = false := beq_false_of_ne h1
    have u3 : (E2 != 0) = true := by simpa using h2
    have u4 : (E2 == 0) = false := beq_false_of_ne h2
    have f1 : (1 : Int) ≤ (n : Int) := by omega
    have f2 : ¬ (n : Int) ≤ 253 := by omega
    clear h h1 h2
    have hu3 : ¬ 1 ≤ u ∨ (1 ≤ u ∧ ¬ u ≤ 247) ∨ (1 ≤ u ∧ u ≤ 247) := by omega
    rcases hu3 with g1 | ⟨g1, g2⟩ | ⟨g1, g2⟩
    all_goals
      go_enter Try.func9, Try.ntmps9
      go_wp2_with fail
      refine (frPut_any id u A n c l _ ((W0.out.below bx0.2).more (Nat.le_of_lt bx0.lt)) HN.out hi hu).mono ?_
      rintro e w2 ⟨v2, rfl, own2, b2⟩
      rw [hE.out]
      have bx2 := bx0.below b2
      have HO2 := Lib.hid own2
      clear bx0 b2 own2
      obtain ⟨d0, d1, d2⟩ := cells3 bx2.1
      go_wp2_with fail
      clear d0 d1 d2
      refine (rtu_any A n c u l _ ((W0.out.below bx2.2).more (Nat.le_of_lt bx2.lt)) HN.out).mono ?_
      rintro e w3 ⟨A3, m3, g3, rfl, hm3, hg3, li3, b3⟩
      rw [hE2.out]
      have bx3 := bx2.below b3
      have HO3 := Lib.hid (HO2.out.below b3 (Nat.le_refl _))
      have HM3 := Lib.hid hm3
      have HLI := Lib.hid li3
      have HZ3 : Hid (w.heap.size < w3.heap.size) := Lib.hid bx3.lt
      have HG3 : Hid (A3 = none ∨ g3 < w3.heap.size) := Lib.hid li3.lt
      clear bx2 b3 HO2 hm3 li3 hg3
      obtain ⟨d0, d1, d2⟩ := cells3 bx3.1
      go_wp2_with fail
      clear d0 d1 d2
      refine (known5_yes _).mono ?_
      rintro e w9 ⟨rfl, b9⟩
      go_wp2
      go_ret
      exact ⟨rfl, bx3.2.trans (b9.mono bx3.2.size)⟩
  · have hfz : E = 0 := HIFF.out.2 h.1
    subst hfz
    have f1 : (1 : Int) ≤ (n : Int) := by omega
    have f2 : (n : Int) ≤ 253 := by omega
    have hn253 : n ≤ 253 := h.1.2
    have hn1 : 1 ≤ n := h.1.1
    have h2 : E2 ≠ 0 := fun q => by have := HRTU.out.1 q; omega
    have u3 : (E2 != 0) = true := by simpa using h2
    have u4 : (E2 == 0) = false := beq_false_of_ne h2
    have g1 : ¬ 1 ≤ u := h.2
    clear h h2
    go_enter Try.func9, Try.ntmps9
    go_wp2_with fail
    refine (frPut_any id u A n c l _ ((W0.out.below bx0.2).more (Nat.le_of_lt bx0.lt)) HN.out hi hu).mono ?_
    rintro e w2 ⟨v2, rfl, own2, b2⟩
    rw [hE.out]
    have bx2 := bx0.below b2
    have HO2 := Lib.hid own2
    clear bx0 b2 own2
    obtain ⟨d0, d1, d2⟩ := cells3 bx2.1
    go_wp2_with fail
    clear d0 d1 d2
    refine (rtu_any A n c u l _ ((W0.out.below bx2.2).more (Nat.le_of_lt bx2.lt)) HN.out).mono ?_
    rintro e w3 ⟨A3, m3, g3, rfl, hm3, hg3, li3, b3⟩
    rw [hE2.out]
    have bx3 := bx2.below b3
    have HO3 := Lib.hid (HO2.out.below b3 (Nat.le_refl _))
    have HM3 := Lib.hid hm3
    have HLI := Lib.hid li3
    have HZ3 : Hid (w.heap.size < w3.heap.size) := Lib.hid bx3.lt
    have HG3 : Hid (A3 = none ∨ g3 < w3.heap.size) := Lib.hid li3.lt
    clear bx2 b3 HO2 hm3 li3 hg3
    obtain ⟨d0, d1, d2⟩ := cells3 bx3.1
    have HP : Hid ((frPut ⟨id, u, l⟩).length = 7 + n) := Lib.hid (by rw [frPut_length hE.out]; show 7 + l.length = 7 + n; rw [HN.out])
    have HPW := Lib.hid (frPut_wf HF.out)
    obtain ⟨Ab, cb, hv2, rb, hcb, hcb2⟩ := HO3.out.row HPW.out
    rw [HP.out] at hv2 hcb
    subst hv2
    obtain ⟨t0, t1, t2⟩ := frBack HF.out hE.out x1
    have T0 := Lib.hid t0
    have T1 : Hid (frLen (frPut ⟨id, u, l⟩ ++ x1) = 7 + n) := Lib.hid (by rw [t1]; show 7 + l.length = 7 + n; rw [HN.out])
    have T2 := Lib.hid t2
    have HPX := Lib.hid (wf_append HPW.out W1.out.1)
    have HPL : Hid ((frPut ⟨id, u, l⟩ ++ x1).length = 7 + n + l1) := Lib.hid (by rw [List.length_append, HP.out, HN1.out])
    have RB := Lib.hid rb
    clear t0 t1 t2 rb
    go_wp2_with fail
    clear d0 d1 d2
    refine (copy_u8 _ _ _ (frPut ⟨id, u, l⟩) _ RB.out HP.out (by omega)).mono ?_
    rintro e w4 ⟨v4, rfl, own4, b4⟩
    have bx4 := bx3.below b4
    have R14 := Lib.hid ((W1.out.below bx4.2).more (Nat.le_of_lt bx4.lt))
    have HLI4 := Lib.hid (HLI.out.below b4)
    clear bx3 HO3 RB HLI
    go_wp2_with (at_builtin; refine wpList_append_row _ rfl _ _ 34 rfl w3.heap.size .u8 5 1 Try.underlying34 info_u8 v4 (frPut ⟨id, u, l⟩) rfl own4 _ _ l1 c1 x1 rfl R14.out HN1.out (by rw [HP.out]; omega) (by rw [HP.out]; simp only [maxLen]; omega) b4.size ?_; intro v5 w5 own5 g5)
    have b5 : Below w3.heap.size w3 w5 := Below.own b4 b4.size own4 g5
    have bx5 : Bx w w.heap.size (.cells #[.int .u16 id, .int .u8 u, .slice A n c] 57 (0, 0)) w5 := ⟨(g5.block w.heap.size bx4.lt (fun e => by have h1 := (own4.block _ e.symm).1; have h2 := bx4.2; have h3 := HZ3.out; omega)).trans bx4.1, bx4.2.grown g5 (Nat.le_of_lt bx4.lt) (fun q e => by have h1 := (own4.block q e).1; have h3 := HZ3.out; omega)⟩
    have HLI5 : Hid (Li w5 A3 m3 g3 (rtuL u l) []) := Lib.hid (by
      rcases HLI4.out with h | ⟨h1, h2⟩
      · exact .inl h
      · refine .inr ⟨h1, (g5.block g3 h2.lt (fun e => ?_)).trans h2⟩
        have h4 := (own4.block _ e.symm).1
        rcases HG3.out with h5 | h5
        · rw [h1] at h5; cases h5
        · omega)
    obtain ⟨A5, c5, hv5, r5, hc5, hc52⟩ := own5.row HPX.out
    rw [HPL.out] at hv5 hc5
    subst hv5
    have R5 := Lib.hid r5
    clear own4 b4 bx4 g5 own5 r5 b5 R14 HLI4
    go_wp2_with fail
    refine (frGet_any A5 (7 + n + l1) c5 (frPut ⟨id, u, l⟩ ++ x1) _ R5.out HPL.out hc5).mono ?_
    rintro e w6 ⟨v6, rfl, k6, b6⟩
    rw [T0.out, T1.out, T2.out]
    rw [T2.out] at k6
    obtain ⟨A6, c6, hv6, r6, hc6, _⟩ := k6.row hwf.out
    rw [HN.out] at hv6
    subst hv6
    have bx6 := bx5.below b6
    have bx7 := bx6.alloc (.cells #[.int .u16 id, .int .u8 u, .slice A6 n c6] 57)
    have R6 := Lib.hid ((r6.alloc (Nat.le_refl _) (.cells #[.int .u16 id, .int .u8 u, .slice A6 n c6] 57)).more (show _ ≤ (w6.alloc (.cells #[.int .u16 id, .int .u8 u, .slice A6 n c6] 57)).heap.size by simp))
    have y := cells3 (heap_alloc_new w6 (.cells #[.int .u16 id, .int .u8 u, .slice A6 n c6] 57))
    have HLI7 := Lib.hid ((HLI5.out.below b6).below (bel_alloc w6 (.cells #[.int .u16 id, .int .u8 u, .slice A6 n c6] 57)))
    have hcast : ((7 + n : Nat) : Int) = 7 + (n : Int) := by omega
    have tn : ((7 + (n : Int)) != 7 + (n : Int)) = false := by simp
    clear bx5 b6 bx6 r6 k6 R5 HLI5
    rw [hcast]
    clear hcast
    obtain ⟨y0, y1, y2⟩ := y
    obtain ⟨d0, d1, d2⟩ := cells3 bx7.1
    go_wp2_with fail
    clear d0 d1 d2 y0 y1 y2
    refine (same5_yes id u l A6 A n c6 c _ _ _ R6.out (W0.out.below bx7.2) HN.out (by omega) (Nat.le_refl _) (Nat.le_of_lt bx7.lt)).mono ?_
    rintro e w8 ⟨rfl, b8⟩
    have bx8 := bx7.below b8
    have HLI8 := Lib.hid (HLI7.out.below b8)
    clear bx7 b8 R6 HLI7
    obtain ⟨d0, d1, d2⟩ := cells3 bx8.1
    go_wp2_with fail
    clear d0 d1 d2
    refine (known5_yes _).mono ?_
    rintro e w9 ⟨rfl, b9⟩
    go_wp2
    go_ret
    exact ⟨rfl, bx8.2.trans (b9.mono bx8.2.size)⟩
  · have hfz : E = 0 := HIFF.out.2 h.1
    subst hfz
    have f1 : (1 : Int) ≤ (n : Int) := by omega
    have f2 : (n : Int) ≤ 253 := by omega
    have hn253 : n ≤ 253 := h.1.2
    have hn1 : 1 ≤ n := h.1.1
    have h2 : E2 ≠ 0 := fun q => by have := HRTU.out.1 q; omega
    have u3 : (E2 != 0) = true := by simpa using h2
    have u4 : (E2 == 0) = false := beq_false_of_ne h2
    have g1 : 1 ≤ u := h.2.1
    have g2 : ¬ u ≤ 247 := h.2.2
    clear h h2
    go_enter Try.func9, Try.ntmps9
    go_wp2_with fail
    refine (frPut_any id u A n c l _ ((W0.out.below bx0.2).more (Nat.le_of_lt bx0.lt)) HN.out hi hu).mono ?_
    rintro e w2 ⟨v2, rfl, own2, b2⟩
    rw [hE.out]
    have bx2 := bx0.below b2
    have HO2 := Lib.hid own2
    clear bx0 b2 own2
    obtain ⟨d0, d1, d2⟩ := cells3 bx2.1
    go_wp2_with fail
    clear d0 d1 d2
    refine (rtu_any A n c u l _ ((W0.out.below bx2.2).more (Nat.le_of_lt bx2.lt)) HN.out).mono ?_
    rintro e w3 ⟨A3, m3, g3, rfl, hm3, hg3, li3, b3⟩
    rw [hE2.out]
    have bx3 := bx2.below b3
    have HO3 := Lib.hid (HO2.out.below b3 (Nat.le_refl _))
    have HM3 := Lib.hid hm3
    have HLI := Lib.hid li3
    have HZ3 : Hid (w.heap.size < w3.heap.size) := Lib.hid bx3.lt
    have HG3 : Hid (A3 = none ∨ g3 < w3.heap.size) := Lib.hid li3.lt
    clear bx2 b3 HO2 hm3 li3 hg3
    obtain ⟨d0, d1, d2⟩ := cells3 bx3.1
    have HP : Hid ((frPut ⟨id, u, l⟩).length = 7 + n) := Lib.hid (by rw [frPut_length hE.out]; show 7 + l.length = 7 + n; rw [HN.out])
    have HPW := Lib.hid (frPut_wf HF.out)
    obtain ⟨Ab, cb, hv2, rb, hcb, hcb2⟩ := HO3.out.row HPW.out
    rw [HP.out] at hv2 hcb
    subst hv2
    obtain ⟨t0, t1, t2⟩ := frBack HF.out hE.out x1
    have T0 := Lib.hid t0
    have T1 : Hid (frLen (frPut ⟨id, u, l⟩ ++ x1) = 7 + n) := Lib.hid (by rw [t1]; show 7 + l.length = 7 + n; rw [HN.out])
    have T2 := Lib.hid t2
    have HPX := Lib.hid (wf_append HPW.out W1.out.1)
    have HPL : Hid ((frPut ⟨id, u, l⟩ ++ x1).length = 7 + n + l1) := Lib.hid (by rw [List.length_append, HP.out, HN1.out])
    have RB := Lib.hid rb
    clear t0 t1 t2 rb
    go_wp2_with fail
    clear d0 d1 d2
    refine (copy_u8 _ _ _ (frPut ⟨id, u, l⟩) _ RB.out HP.out (by omega)).mono ?_
    rintro e w4 ⟨v4, rfl, own4, b4⟩
    have bx4 := bx3.below b4
    have R14 := Lib.hid ((W1.out.below bx4.2).more (Nat.le_of_lt bx4.lt))
    have HLI4 := Lib.hid (HLI.out.below b4)
    clear bx3 HO3 RB HLI
    go_wp2_with (at_builtin; refine wpList_append_row _ rfl _ _ 34 rfl w3.heap.size .u8 5 1 Try.underlying34 info_u8 v4 (frPut ⟨id, u, l⟩) rfl own4 _ _ l1 c1 x1 rfl R14.out HN1.out (by rw [HP.out]; omega) (by rw [HP.out]; simp only [maxLen]; omega) b4.size ?_; intro v5 w5 own5 g5)
    have b5 : Below w3.heap.size w3 w5 := Below.own b4 b4.size own4 g5
    have bx5 : Bx w w.heap.size (.cells #[.int .u16 id, .int .u8 u, .slice A n c] 57 (0, 0)) w5 := ⟨(g5.block w.heap.size bx4.lt (fun e => by have h1 := (own4.block _ e.symm).1; have h2 := bx4.2; have h3 := HZ3.out; omega)).trans bx4.1, bx4.2.grown g5 (Nat.le_of_lt bx4.lt) (fun q e => by have h1 := (own4.block q e).1; have h3 := HZ3.out; omega)⟩
    have HLI5 : Hid (Li w5 A3 m3 g3 (rtuL u l) []) := Lib.hid (by
      rcases HLI4.out with h | ⟨h1, h2⟩
      · exact .inl h
      · refine .inr ⟨h1, (g5.block g3 h2.lt (fun e => ?_)).trans h2⟩
        have h4 := (own4.block _ e.symm).1
        rcases HG3.out with h5 | h5
        · rw [h1] at h5; cases h5
        · omega)
    obtain ⟨A5, c5, hv5, r5, hc5, hc52⟩ := own5.row HPX.out
    rw [HPL.out] at hv5 hc5
    subst hv5
    have R5 := Lib.hid r5
    clear own4 b4 bx4 g5 own5 r5 b5 R14 HLI4
    go_wp2_with fail
    refine (frGet_any A5 (7 + n + l1) c5 (frPut ⟨id, u, l⟩ ++ x1) _ R5.out HPL.out hc5).mono ?_
    rintro e w6 ⟨v6, rfl, k6, b6⟩
    rw [T0.out, T1.out, T2.out]
    rw [T2.out] at k6
    obtain ⟨A6, c6, hv6, r6, hc6, _⟩ := k6.row hwf.out
    rw [HN.out] at hv6
    subst hv6
    have bx6 := bx5.below b6
    have bx7 := bx6.alloc (.cells #[.int .u16 id, .int .u8 u, .slice A6 n c6] 57)
    have R6 := Lib.hid ((r6.alloc (Nat.le_refl _) (.cells #[.int .u16 id, .int .u8 u, .slice A6 n c6] 57)).more (show _ ≤ (w6.alloc (.cells #[.int .u16 id, .int .u8 u, .slice A6 n c6] 57)).heap.size by simp))
    have y := cells3 (heap_alloc_new w6 (.cells #[.int .u16 id, .int .u8 u, .slice A6 n c6] 57))
    have HLI7 := Lib.hid ((HLI5.out.below b6).below (bel_alloc w6 (.cells #[.int .u16 id, .int .u8 u, .slice A6 n c6] 57)))
    have hcast : ((7 + n : Nat) : Int) = 7 + (n : Int) := by omega
    have tn : ((7 + (n : Int)) != 7 + (n : Int)) = false := by simp
    clear bx5 b6 bx6 r6 k6 R5 HLI5
    rw [hcast]
    clear hcast
    obtain ⟨y0, y1, y2⟩ := y
    obtain ⟨d0, d1, d2⟩ := cells3 bx7.1
    go_wp2_with fail
    clear d0 d1 d2 y0 y1 y2
    refine (same5_yes id u l A6 A n c6 c _ _ _ R6.out (W0.out.below bx7.2) HN.out (by omega) (Nat.le_refl _) (Nat.le_of_lt bx7.lt)).mono ?_
    rintro e w8 ⟨rfl, b8⟩
    have bx8 := bx7.below b8
    have HLI8 := Lib.hid (HLI7.out.below b8)
    clear bx7 b8 R6 HLI7
    obtain ⟨d0, d1, d2⟩ := cells3 bx8.1
    go_wp2_with fail
    clear d0 d1 d2
    refine (known5_yes _).mono ?_
    rintro e w9 ⟨rfl, b9⟩
    go_wp2
    go_ret
    exact ⟨rfl, bx8.2.trans (b9.mono bx8.2.size)⟩
  · have hfz : E = 0 := HIFF.out.2 h.1
    subst hfz
    have f1 : (1 : Int) ≤ (n : Int) := by omega
    have f2 : (n : Int) ≤ 253 := by omega
    have hn253 : n ≤ 253 := h.1.2
    have hn1 : 1 ≤ n := h.1.1
    have hfz2 : E2 = 0 := HRTU.out.2 h
    subst hfz2
    have g1 : 1 ≤ u := h.2.1
    have g2 : u ≤ 247 := h.2.2
    clear h
    go_enter Try.func9, Try.ntmps9
    go_wp2_with fail
    refine (frPut_any id u A n c l _ ((W0.out.below bx0.2).more (Nat.le_of_lt bx0.lt)) HN.out hi hu).mono ?_
    rintro e w2 ⟨v2, rfl, own2, b2⟩
    rw [hE.out]
    have bx2 := bx0.below b2
    have HO2 := Lib.hid own2
    clear bx0 b2 own2
    obtain ⟨d0, d1, d2⟩ := cells3 bx2.1
    go_wp2_with fail
    clear d0 d1 d2
    refine (rtu_any A n c u l _ ((W0.out.below bx2.2).more (Nat.le_of_lt bx2.lt)) HN.out).mono ?_
    rintro e w3 ⟨A3, m3, g3, rfl, hm3, hg3, li3, b3⟩
    rw [hE2.out]
    have bx3 := bx2.below b3
    have HO3 := Lib.hid (HO2.out.below b3 (Nat.le_refl _))
    have HM3 := Lib.hid hm3
    have HLI := Lib.hid li3
    have HZ3 : Hid (w.heap.size < w3.heap.size) := Lib.hid bx3.lt
    have HG3 : Hid (A3 = none ∨ g3 < w3.heap.size) := Lib.hid li3.lt
    clear bx2 b3 HO2 hm3 li3 hg3
    obtain ⟨d0, d1, d2⟩ := cells3 bx3.1
    have HP : Hid ((frPut ⟨id, u, l⟩).length = 7 + n) := Lib.hid (by rw [frPut_length hE.out]; show 7 + l.length = 7 + n; rw [HN.out])
    have HPW := Lib.hid (frPut_wf HF.out)
    obtain ⟨Ab, cb, hv2, rb, hcb, hcb2⟩ := HO3.out.row HPW.out
    rw [HP.out] at hv2 hcb
    subst hv2
    obtain ⟨t0, t1, t2⟩ := frBack HF.out hE.out x1
    have T0 := Lib.hid t0
    have T1 : Hid (frLen (frPut ⟨id, u, l⟩ ++ x1) = 7 + n) := Lib.hid (by rw [t1]; show 7 + l.length = 7 + n; rw [HN.out])
    have T2 := Lib.hid t2
    have HPX := Lib.hid (wf_append HPW.out W1.out.1)
    have HPL : Hid ((frPut ⟨id, u, l⟩ ++ x1).length = 7 + n + l1) := Lib.hid (by rw [List.length_append, HP.out, HN1.out])
    have RB := Lib.hid rb
    clear t0 t1 t2 rb
    go_wp2_with fail
    clear d0 d1 d2
    refine (copy_u8 _ _ _ (frPut ⟨id, u, l⟩) _ RB.out HP.out (by omega)).mono ?_
    rintro e w4 ⟨v4, rfl, own4, b4⟩
    have bx4 := bx3.below b4
    have R14 := Lib.hid ((W1.out.below bx4.2).more (Nat.le_of_lt bx4.lt))
    have HLI4 := Lib.hid (HLI.out.below b4)
    clear bx3 HO3 RB HLI
    go_wp2_with (at_builtin; refine wpList_append_row _ rfl _ _ 34 rfl w3.heap.size .u8 5 1 Try.underlying34 info_u8 v4 (frPut ⟨id, u, l⟩) rfl own4 _ _ l1 c1 x1 rfl R14.out HN1.out (by rw [HP.out]; omega) (by rw [HP.out]; simp only [maxLen]; omega) b4.size ?_; intro v5 w5 own5 g5)
    have b5 : Below w3.heap.size w3 w5 := Below.own b4 b4.size own4 g5
    have bx5 : Bx w w.heap.size (.cells #[.int .u16 id, .int .u8 u, .slice A n c] 57 (0, 0)) w5 := ⟨(g5.block w.heap.size bx4.lt (fun e => by have h1 := (own4.block _ e.symm).1; have h2 := bx4.2; have h3 := HZ3.out; omega)).trans bx4.1, bx4.2.grown g5 (Nat.le_of_lt bx4.lt) (fun q e => by have h1 := (own4.block q e).1; have h3 := HZ3.out; omega)⟩
    have HLI5 : Hid (Li w5 A3 m3 g3 (rtuL u l) []) := Lib.hid (by
      rcases HLI4.out with h | ⟨h1, h2⟩
      · exact .inl h
      · refine .inr ⟨h1, (g5.block g3 h2.lt (fun e => ?_)).trans h2⟩
        have h4 := (own4.block _ e.symm).1
        rcases HG3.out with h5 | h5
        · rw [h1] at h5; cases h5
        · omega)
    obtain ⟨A5, c5, hv5, r5, hc5, hc52⟩ := own5.row HPX.out
    rw [HPL.out] at hv5 hc5
    subst hv5
    have R5 := Lib.hid r5
    clear own4 b4 bx4 g5 own5 r5 b5 R14 HLI4
    go_wp2_with fail
    refine (frGet_any A5 (7 + n + l1) c5 (frPut ⟨id, u, l⟩ ++ x1) _ R5.out HPL.out hc5).mono ?_
    rintro e w6 ⟨v6, rfl, k6, b6⟩
    rw [T0.out, T1.out, T2.out]
    rw [T2.out] at k6
    obtain ⟨A6, c6, hv6, r6, hc6, _⟩ := k6.row hwf.out
    rw [HN.out] at hv6
    subst hv6
    have bx6 := bx5.below b6
    have bx7 := bx6.alloc (.cells #[.int .u16 id, .int .u8 u, .slice A6 n c6] 57)
    have R6 := Lib.hid ((r6.alloc (Nat.le_refl _) (.cells #[.int .u16 id, .int .u8 u, .slice A6 n c6] 57)).more (show _ ≤ (w6.alloc (.cells #[.int .u16 id, .int .u8 u, .slice A6 n c6] 57)).heap.size by simp))
    have y := cells3 (heap_alloc_new w6 (.cells #[.int .u16 id, .int .u8 u, .slice A6 n c6] 57))
    have HLI7 := Lib.hid ((HLI5.out.below b6).below (bel_alloc w6 (.cells #[.int .u16 id, .int .u8 u, .slice A6 n c6] 57)))
    have hcast : ((7 + n : Nat) : Int) = 7 + (n : Int) := by omega
    have tn : ((7 + (n : Int)) != 7 + (n : Int)) = false := by simp
    clear bx5 b6 bx6 r6 k6 R5 HLI5
    rw [hcast]
    clear hcast
    obtain ⟨y0, y1, y2⟩ := y
    obtain ⟨d0, d1, d2⟩ := cells3 bx7.1
    go_wp2_with fail
    clear d0 d1 d2 y0 y1 y2
    refine (same5_yes id u l A6 A n c6 c _ _ _ R6.out (W0.out.below bx7.2) HN.out (by omega) (Nat.le_refl _) (Nat.le_of_lt bx7.lt)).mono ?_
    rintro e w8 ⟨rfl, b8⟩
    have bx8 := bx7.below b8
    have HLI8 := Lib.hid (HLI7.out.below b8)
    clear bx7 b8 R6 HLI7
    obtain ⟨d0, d1, d2⟩ := cells3 bx8.1
    have HL : Hid (rtuL u l = sealed16 (u :: l)) := Lib.hid (by rw [rtuL, hE2.out]; rfl)
    obtain ⟨q1, q2, q3⟩ := sealed_len hE2.out
    obtain ⟨v1, v2, v3⟩ := ort_sealed hwf.out WU.out hE2.out
    have V1 := Lib.hid v1
    have V2 := Lib.hid v2
    have V3 := Lib.hid v3
    have HM8 : Hid (m3 = 3 + n) := Lib.hid (by rw [← HM3.out, HL.out, q1, HN.out, Nat.add_comm])
    have HSL : Hid ((sealed16 (u :: l)).length = m3) := Lib.hid (by rw [← HL.out]; exact HM3.out)
    have HSW := Lib.hid (sealed16_wf (wf_cons hwf.out WU.out))
    have RS : Hid (Row .u8 w8 w8.heap.size A3 (sealed16 (u :: l))) := Lib.hid (by have h := HLI8.out; rw [HL.out] at h; exact h.row HSL.out HSW.out)
    clear q1 q2 q3 v1 v2 v3 HLI8 d0 d1 d2
    obtain ⟨d0, d1, d2⟩ := cells3 bx8.1
    go_wp2_with fail
    clear d0 d1 d2
    refine (ort_any A3 m3 m3 (sealed16 (u :: l)) _ RS.out HSL.out (Nat.le_refl _)).mono ?_
    rintro e wa ⟨Aa, ma, ga, rfl, hma, hga, xa, ba⟩
    rw [V1.out, V2.out]
    rw [V3.out] at hma xa
    have hman : ma = n := by rw [← hma, HN.out]
    subst hman
    have RX := Lib.hid (xa.row hma hwf.out)
    have bxa := bx8.below ba
    have tu : (u != u) = false := by simp
    have hcast2 : ((3 + ma : Nat) : Int) = 3 + (ma : Int) := by omega
    have tm : ((m3 : Int) != 3 + (ma : Int)) = false := by rw [HM8.out, hcast2]; simp
    clear bx8 ba xa hma hga RS hcast2
    obtain ⟨d0, d1, d2⟩ := cells3 bxa.1
    go_wp2_with fail
    clear d0 d1 d2
    refine (same_yes_u8 _ _ _ _ _ l _ _ _ RX.out (W0.out.below bxa.2) HN.out (by omega)).mono ?_
    rintro e wb ⟨rfl, mb, hwb⟩
    have bxb : Bx w w.heap.size (.cells #[.int .u16 id, .int .u8 u, .slice A ma c] 57 (0, 0)) wb := by rw [hwb]; exact bxa.drewN _
    clear hwb bxa
    obtain ⟨d0, d1, d2⟩ := cells3 bxb.1
    go_wp2_with fail
    clear d0 d1 d2
    refine (known5_yes _).mono ?_
    rintro e w9 ⟨rfl, b9⟩
    go_wp2
    go_ret
    exact ⟨rfl, bxb.2.trans (b9.mono bxb.2.size)⟩
end Go.Proofs.Ytmbjcmagadekpaa
