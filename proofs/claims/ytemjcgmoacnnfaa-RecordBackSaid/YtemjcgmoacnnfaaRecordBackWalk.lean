/-
  The walk of RecordBack.
-/
import Derived.Test.YtemjcgmoacnnfaaRcKnown
namespace Go.Proofs.Ytemjcgmoacnnfaa
open Go.RowKit
set_option linter.unusedVariables false
set_option maxRecDepth 100000

set_option maxHeartbeats 1000000 in
theorem back11_bad (k t : Int) (g : ByteArray) (v i : Int) (w : World) (hs : g.size ≤ maxLen) (h : chkRc ⟨k, t, g, v, i⟩ ≠ 0) :
    Calls Try.prog 5 #[.agg #[.int .i64 k, .int .i64 t, .string g, .int .i64 v, .int .i64 i]] w fun e w' => e = .returned (.bool true) ∧ Below w.heap.size w w' := by
  have hL : putRc ⟨k, t, g, v, i⟩ = [] := by rw [putRc, if_neg h]
  obtain ⟨E, hE⟩ : ∃ E, chkRc ⟨k, t, g, v, i⟩ = E := ⟨_, rfl⟩
  rw [hE] at h
  have HE := Lib.hid hE
  have HL := Lib.hid hL
  have hE2 : (E != 0) = true := by simp [h]
  have hE3 : (E != E) = false := by simp
  clear hE hL h
  have bx := Bx.new w (.cells #[.int .i64 k, .int .i64 t, .string g, .int .i64 v, .int .i64 i] 23)
  obtain ⟨c0, c1, c2, c3, c4⟩ := bx.five
  go_enter Try.func5, Try.ntmps5
  go_wp2_with fail
  refine (Check11_any k t g v i _ hs).mono ?_
  rintro e w1 ⟨rfl, b1⟩
  rw [HE.out]
  have bx1 := bx.below b1
  clear bx b1 c0 c1 c2 c3 c4
  obtain ⟨c0, c1, c2, c3, c4⟩ := bx1.five
  go_wp2_with fail
  refine (Put11_any k t g v i _ hs).mono ?_
  rintro e w2 ⟨v2, rfl, own2, b2⟩
  rw [HL.out] at own2
  rw [HE.out]
  have bx2 := bx1.below b2
  clear bx1 b2 c0 c1 c2 c3 c4
  obtain ⟨A2, q2, rfl, row2, _, _⟩ := own2.row (fun x hx => by cases hx)
  go_wp2_with fail
  refine (known11_yes _).mono ?_
  rintro e w3 ⟨rfl, b3⟩
  go_wp2
  go_ret
  exact ⟨rfl, (bx2.below b3).2⟩

set_option maxHeartbeats 1000000 in
theorem back11_good (k t : Int) (g : ByteArray) (v i : Int) (w : World) (ok : Rc.Ok ⟨k, t, g, v, i⟩) (h : chkRc ⟨k, t, g, v, i⟩ = 0) :
    Calls Try.prog 5 #[.agg #[.int .i64 k, .int .i64 t, .string g, .int .i64 v, .int .i64 i]] w fun e w' => e = .returned (.bool true) ∧ Below w.heap.size w w' := by
  have hs : g.size ≤ maxLen := ok.1
  have hL : putRc ⟨k, t, g, v, i⟩ = bytRc ⟨k, t, g, v, i⟩ := by rw [putRc, if_pos h]
  obtain ⟨hb1, hb2, hb3, hb4⟩ := rc_back ok h
  have hwf := bytRc_wf _ h
  obtain ⟨L, hLL⟩ : ∃ L, bytRc ⟨k, t, g, v, i⟩ = L := ⟨_, rfl⟩
  rw [hLL] at hL hb1 hb2 hb3 hb4 hwf
  obtain ⟨m, hm⟩ : ∃ m, L.length = m := ⟨_, rfl⟩
  rw [hm] at hb3 hb4
  have HE := Lib.hid h
  have HL := Lib.hid hL
  have H1 := Lib.hid hb1
  have H2 := Lib.hid hb2
  have HM := Lib.hid hm
  have m1 : (m : Int) ≥ 17 := by omega
  have m2 : (m : Int) ≤ 34 := by omega
  clear h hL hb1 hb2 hLL hm ok
  have bx := Bx.new w (.cells #[.int .i64 k, .int .i64 t, .string g, .int .i64 v, .int .i64 i] 23)
  obtain ⟨c0, c1, c2, c3, c4⟩ := bx.five
  go_enter Try.func5, Try.ntmps5
  go_wp2_with fail
  refine (Check11_any k t g v i _ hs).mono ?_
  rintro e w1 ⟨rfl, b1⟩
  rw [HE.out]
  have bx1 := bx.below b1
  clear bx b1 c0 c1 c2 c3 c4
  obtain ⟨c0, c1, c2, c3, c4⟩ := bx1.five
  go_wp2_with fail
  refine (Put11_any k t g v i _ hs).mono ?_
  rintro e w2 ⟨v2, rfl, own2, b2⟩
  rw [HL.out] at own2
  rw [HE.out]
  have bx2 := bx1.below b2
  clear bx1 b2 c0 c1 c2 c3 c4
  obtain ⟨A2, q2, rfl, row2, hq1, hq2⟩ := own2.row hwf
  simp only [maxLen] at hq2
  rw [HM.out] at hq1 ⊢
  have R2 := Lib.hid row2
  clear own2 row2
  go_wp2_with fail
  refine (Get11_any A2 m q2 L _ R2.out HM.out (by omega) hq1 (by omega)).mono ?_
  rintro e w3 ⟨rfl, b3⟩
  rw [H1.out, H2.out]
  unfold rcV
  simp only
  have bx3 := bx2.below b3
  have bx4 := bx3.alloc (.cells #[.int .i64 k, .int .i64 t, .string g, .int .i64 v, .int .i64 i] 23)
  have hy4 := heap_alloc_new w3 (.cells #[.int .i64 k, .int .i64 t, .string g, .int .i64 v, .int .i64 i] 23)
  obtain ⟨c0, c1, c2, c3, c4⟩ := bx4.five
  obtain ⟨d0, d1, d2, d3, d4⟩ := cells5 hy4
  clear bx2 bx3 b3
  go_wp2_with fail
  refine (known11_yes _).mono ?_
  rintro e w5 ⟨rfl, b5⟩
  go_wp2
  go_ret
  exact ⟨rfl, (bx4.below b5).2⟩
theorem walk_RecordBack (r : Rc) (w : World) (hok : Rc.Ok r) : Calls Try.prog 5 #[rcV r] w fun e w' => e = .returned (.bool true) ∧ Below w.heap.size w w' := by
  obtain ⟨k, t, g, v, i⟩ := r
  by_cases h : chkRc ⟨k, t, g, v, i⟩ = 0
  · exact back11_good k t g v i w hok h
  · exact back11_bad k t g v i w hok.1 h
end Go.Proofs.Ytemjcgmoacnnfaa
