/-
  The walk of RecordOnly.
-/
import Derived.Test.YtemjcgmoacnnfaaRcKnown
namespace Go.Proofs.Ytemjcgmoacnnfaa
open Go.RowKit
set_option linter.unusedVariables false
set_option maxRecDepth 100000

set_option maxHeartbeats 1000000 in
theorem only11_bad (a0 : Option Addr) (l0 c0 : Nat) (x0 : List Int) (w : World) (w0 : Row .u8 w w.heap.size a0 x0) (n0 : x0.length = l0) (s0 : l0 ≤ c0) (m0 : c0 ≤ 140737488351232) (h : rcErr x0 ≠ 0) :
    Calls Try.prog 6 #[.slice a0 l0 c0] w fun e w' => e = .returned (.bool true) ∧ Below w.heap.size w w' := by
  have hR : rcGot x0 = zRc := by rw [rcGot, if_neg h]
  obtain ⟨E, hE⟩ : ∃ E, rcErr x0 = E := ⟨_, rfl⟩
  rw [hE] at h
  have HE := Lib.hid hE
  have HR := Lib.hid hR
  have hE2 : (E != 0) = true := by simp [h]
  have hr := Lib.hid w0
  have hn := Lib.hid n0
  clear hE hR h w0 n0
  go_enter Try.func6, Try.ntmps6
  go_wp2_with fail
  refine (Get11_any a0 l0 c0 x0 _ hr.out hn.out (by omega) s0 (by omega)).mono ?_
  rintro e w1 ⟨rfl, b1⟩
  rw [HE.out, HR.out]
  unfold rcV zRc
  simp only
  have bel2 := b1.alloc b1.size (.cells #[.int .i64 0, .int .i64 0, .string ⟨#[]⟩, .int .i64 0, .int .i64 0] 23)
  have hy := heap_alloc_new w1 (.cells #[.int .i64 0, .int .i64 0, .string ⟨#[]⟩, .int .i64 0, .int .i64 0] 23)
  obtain ⟨d0, d1, d2, d3, d4⟩ := cells5 hy
  clear b1
  go_wp2_with fail
  refine (known11_yes _).mono ?_
  rintro e w5 ⟨rfl, b5⟩
  go_wp2
  go_ret
  exact ⟨rfl, bel2.trans (b5.mono bel2.size)⟩

set_option maxHeartbeats 1000000 in
theorem only11_good (a0 : Option Addr) (l0 c0 : Nat) (x0 : List Int) (w : World) (w0 : Row .u8 w w.heap.size a0 x0) (n0 : x0.length = l0) (s0 : l0 ≤ c0) (m0 : c0 ≤ 140737488351232) (h : rcErr x0 = 0) :
    Calls Try.prog 6 #[.slice a0 l0 c0] w fun e w' => e = .returned (.bool true) ∧ Below w.heap.size w w' := by
  have hc := (rc_err_parts h).2.2.2
  have hb := rc_only w0.1 h
  have ok := rdRc_ok x0 w0.1 (by rw [n0]; simp only [maxLen]; omega)
  have hG : rcGot x0 = rdRc x0 := by rw [rcGot, if_pos h]
  obtain ⟨⟨k, t, g, v, i⟩, hR⟩ : ∃ r, rdRc x0 = r := ⟨_, rfl⟩
  rw [hR] at hc hb ok hG
  have hL : putRc ⟨k, t, g, v, i⟩ = x0 := by rw [putRc, if_pos hc, hb]
  have hs : g.size ≤ maxLen := ok.1
  have HE := Lib.hid h
  have HR := Lib.hid hG
  have HC := Lib.hid hc
  have HL := Lib.hid hL
  have hr := Lib.hid w0
  have hn := Lib.hid n0
  clear h hc hb ok hG hR hL w0 n0
  go_enter Try.func6, Try.ntmps6
  go_wp2_with fail
  refine (Get11_any a0 l0 c0 x0 _ hr.out hn.out (by omega) s0 (by omega)).mono ?_
  rintro e w1 ⟨rfl, b1⟩
  rw [HE.out, HR.out]
  unfold rcV
  simp only
  have bel2 := b1.alloc b1.size (.cells #[.int .i64 k, .int .i64 t, .string g, .int .i64 v, .int .i64 i] 23)
  have hy := heap_alloc_new w1 (.cells #[.int .i64 k, .int .i64 t, .string g, .int .i64 v, .int .i64 i] 23)
  obtain ⟨d0, d1, d2, d3, d4⟩ := cells5 hy
  clear b1
  go_wp2_with fail
  refine (Put11_any k t g v i _ hs).mono ?_
  rintro e w3 ⟨v3, rfl, own3, b3⟩
  rw [HL.out] at own3
  rw [HC.out]
  obtain ⟨A3, q3, rfl, row3, _, _⟩ := own3.row hr.out.1
  rw [hn.out]
  have R3 := Lib.hid row3
  have bel3 := bel2.trans (b3.mono bel2.size)
  have hy3 := (b3.block _ (block_lt hy)).trans hy
  clear d0 d1 d2 d3 d4 own3 row3 b3 hy bel2
  obtain ⟨d0, d1, d2, d3, d4⟩ := cells5 hy3
  go_wp2_with fail
  refine (Check11_any k t g v i _ hs).mono ?_
  rintro e w4 ⟨rfl, b4⟩
  rw [HC.out]
  have bel4 := bel3.trans (b4.mono bel3.size)
  have R4 := Lib.hid (R3.out.below b4)
  clear d0 d1 d2 d3 d4 b4 hy3 bel3 R3
  go_wp2_with fail
  refine (same_yes_u8 a0 A3 l0 c0 q3 x0 _ _ _ (hr.out.below bel4) R4.out hn.out (by omega)).mono ?_
  rintro e w5 ⟨rfl, m5, rfl⟩
  have bel5 := below_drewN bel4 m5
  go_wp2_with fail
  refine (known11_yes _).mono ?_
  rintro e w6 ⟨rfl, b6⟩
  go_wp2
  go_ret
  exact ⟨rfl, bel5.trans (b6.mono bel5.size)⟩
theorem walk_RecordOnly (a0 : Option Addr) (l0 c0 : Nat) (x0 : List Int) (w : World) (w0 : Row .u8 w w.heap.size a0 x0) (n0 : x0.length = l0) (s0 : l0 ≤ c0) (m0 : c0 ≤ 140737488351232) :
    Calls Try.prog 6 #[.slice a0 l0 c0] w fun e w' => e = .returned (.bool true) ∧ Below w.heap.size w w' := by
  by_cases h : rcErr x0 = 0
  · exact only11_good a0 l0 c0 x0 w w0 n0 s0 m0 h
  · exact only11_bad a0 l0 c0 x0 w w0 n0 s0 m0 h
end Go.Proofs.Ytemjcgmoacnnfaa
