/-
  The program's Check of layer 11, whole.
-/
import Derived.Test.YtemjcgmoacnnfaaRcCheck
namespace Go.Proofs.Ytemjcgmoacnnfaa
open Go.RowKit
set_option linter.unusedVariables false

def lowK (k : Int) : Int := bif decide (k = 1) then -1099511627776 else bif decide (k = 5) || decide (k = 6) then 0 else 1
def topK (k : Int) : Int := bif decide (k = 2) then 4 else bif decide (k = 5) then 0 else bif decide (k = 6) then 255 else 1099511627776
theorem values_1 (w : World) : Calls Try.prog 43 #[.int .i64 1] w fun e w' => e = .returned (.tuple #[.int .i64 (-1099511627776), .int .i64 1099511627776]) ∧ w = w' := by
  go_enter Try.func43, Try.ntmps43
  go_wp2
  go_ret2
  exact ⟨rfl, rfl⟩
theorem values_2 (w : World) : Calls Try.prog 43 #[.int .i64 2] w fun e w' => e = .returned (.tuple #[.int .i64 1, .int .i64 4]) ∧ w = w' := by
  go_enter Try.func43, Try.ntmps43
  go_wp2
  go_ret2
  exact ⟨rfl, rfl⟩
theorem values_3 (w : World) : Calls Try.prog 43 #[.int .i64 3] w fun e w' => e = .returned (.tuple #[.int .i64 1, .int .i64 1099511627776]) ∧ w = w' := by
  go_enter Try.func43, Try.ntmps43
  go_wp2
  go_ret2
  exact ⟨rfl, rfl⟩
theorem values_4 (w : World) : Calls Try.prog 43 #[.int .i64 4] w fun e w' => e = .returned (.tuple #[.int .i64 1, .int .i64 1099511627776]) ∧ w = w' := by
  go_enter Try.func43, Try.ntmps43
  go_wp2
  go_ret2
  exact ⟨rfl, rfl⟩
theorem values_5 (w : World) : Calls Try.prog 43 #[.int .i64 5] w fun e w' => e = .returned (.tuple #[.int .i64 0, .int .i64 0]) ∧ w = w' := by
  go_enter Try.func43, Try.ntmps43
  go_wp2
  go_ret2
  exact ⟨rfl, rfl⟩
theorem values_6 (w : World) : Calls Try.prog 43 #[.int .i64 6] w fun e w' => e = .returned (.tuple #[.int .i64 0, .int .i64 255]) ∧ w = w' := by
  go_enter Try.func43, Try.ntmps43
  go_wp2
  go_ret2
  exact ⟨rfl, rfl⟩
theorem values_any (k : Int) (w : World) (h : betw k 1 6 = true) : Calls Try.prog 43 #[.int .i64 k] w fun e w' => e = .returned (.tuple #[.int .i64 (lowK k), .int .i64 (topK k)]) ∧ w = w' := by
  rcases kinds h with rfl | rfl | rfl | rfl | rfl | rfl
  · exact values_1 w
  · exact values_2 w
  · exact values_3 w
  · exact values_4 w
  · exact values_5 w
  · exact values_6 w
theorem fits_of (k v : Int) (h : betw k 1 6 = true) : betw v (lowK k) (topK k) = bif vlK k then vokK k v else decide (v = 0) := by
  rcases kinds h with rfl | rfl | rfl | rfl | rfl | rfl
  · rfl
  · rfl
  · rfl
  · rfl
  · show betw v 0 0 = decide (v = 0)
    by_cases h : v = 0
    · rw [decide_eq_true h, betw_yes]; omega
    · rw [decide_eq_false h, betw_no]; omega
  · rfl
theorem fitsValue_any (k t : Int) (g : ByteArray) (v i : Int) (w : World) (h : betw k 1 6 = true) : Calls Try.prog 33 #[.agg #[.int .i64 k, .int .i64 t, .string g, .int .i64 v, .int .i64 i]] w fun e w' => e = .returned (.bool (betw v (lowK k) (topK k))) ∧ Below w.heap.size w w' := by
  have bel := bel_alloc w (.cells #[.int .i64 k, .int .i64 t, .string g, .int .i64 v, .int .i64 i] 23)
  obtain ⟨c0, c1, c2, c3, c4⟩ := (Bx.new w (.cells #[.int .i64 k, .int .i64 t, .string g, .int .i64 v, .int .i64 i] 23)).five
  go_enter Try.func33, Try.ntmps33
  go_wp2_with fail
  refine (values_any _ _ h).mono ?_
  rintro e w' ⟨rfl, rfl⟩
  go_wp2_with fail
  refine (lies11_any _ _ _ _).mono ?_
  rintro e w' ⟨rfl, rfl⟩
  go_wp2
  go_ret
  exact ⟨rfl, bel⟩

/-- Check, in the program's order. -/
theorem chk_prog (r : Rc) : chkRc r = bif betw r.k 1 6 then (bif strK r then 23 else bif betw r.t 0 1099511627776 then (bif tgK r.k then (bif nameB (bys r.g) then (bif betw r.v (lowK r.k) (topK r.k) then (bif idK r.k then (bif betw r.i 1 1099511627776 then 0 else 3) else 0) else 3) else 8) else (bif betw r.v (lowK r.k) (topK r.k) then (bif idK r.k then (bif betw r.i 1 1099511627776 then 0 else 3) else 0) else 3)) else 3) else 28 := by
  unfold chkRc
  cases h : betw r.k 1 6
  · rfl
  rw [fits_of _ _ h]
  cases hs : strK r
  case true => rfl
  have hv := (stray_parts hs).2.1
  cases betw r.t 0 1099511627776
  · rfl
  cases hv2 : vlK r.k
  · rw [hv hv2]
    cases tgK r.k <;> cases nameB (bys r.g) <;> cases idK r.k <;> cases betw r.i 1 1099511627776 <;> rfl
  · cases vokK r.k r.v <;> cases tgK r.k <;> cases nameB (bys r.g) <;> cases idK r.k <;> cases betw r.i 1 1099511627776 <;> rfl

set_option maxHeartbeats 2000000 in
theorem Check11_any (k t : Int) (g : ByteArray) (v i : Int) (w : World) (hs : g.size ≤ maxLen) : Calls Try.prog 11 #[.agg #[.int .i64 k, .int .i64 t, .string g, .int .i64 v, .int .i64 i]] w fun e w' => e = .returned (.int .i64 (chkRc ⟨k, t, g, v, i⟩)) ∧ Below w.heap.size w w' := by
  have HC := Lib.hid (chk_prog ⟨k, t, g, v, i⟩)
  simp only at HC
  rw [HC.out]
  clear HC
  have bx := Bx.new w (.cells #[.int .i64 k, .int .i64 t, .string g, .int .i64 v, .int .i64 i] 23)
  obtain ⟨c0, c1, c2, c3, c4⟩ := bx.five
  cases h1 : betw k 1 6
  · go_enter Try.func11, Try.ntmps11
    go_wp2_with fail
    refine (isKind_any _ _).mono ?_
    rintro e w' ⟨rfl, rfl⟩
    rw [h1]
    go_wp2
    go_ret
    exact ⟨rfl, bx.2⟩
  generalize hS : strK ⟨k, t, g, v, i⟩ = S
  generalize hT : betw t 0 1099511627776 = T
  generalize hG : tgK k = G
  generalize hN : nameB (bys g) = N
  generalize hV : betw v (lowK k) (topK k) = V
  generalize hI : idK k = I
  generalize hJ : betw i 1 1099511627776 = J
  have HS := Lib.hid hS
  have HT := Lib.hid hT
  have HG := Lib.hid hG
  have HN := Lib.hid hN
  have HV := Lib.hid hV
  have HI := Lib.hid hI
  have HJ := Lib.hid hJ
  have H1 := Lib.hid h1
  clear hS hT hG hN hV hI hJ h1
  go_enter Try.func11, Try.ntmps11
  go_wp2_with fail
  refine (isKind_any _ _).mono ?_
  rintro e w' ⟨rfl, rfl⟩
  rw [H1.out]
  go_wp2_with fail
  refine (hasStray_any k t g v i _ H1.out).mono ?_
  rintro e w1 ⟨rfl, b1⟩
  rw [HS.out]
  have bx1 := bx.below b1
  clear c0 c1 c2 c3 c4 b1 bx
  obtain ⟨c0, c1, c2, c3, c4⟩ := bx1.five
  cases S
  case true =>
    go_wp2
    go_ret
    exact ⟨rfl, bx1.2⟩
  go_wp2_with fail
  refine (lies11_any _ _ _ _).mono ?_
  rintro e w' ⟨rfl, rfl⟩
  rw [HT.out]
  cases T
  · go_wp2
    go_ret
    exact ⟨rfl, bx1.2⟩
  go_wp2_with fail
  refine (hasTag_any _ _).mono ?_
  rintro e w' ⟨rfl, rfl⟩
  rw [HG.out]
  cases G
  · go_wp2_with fail
    refine (fitsValue_any k t g v i _ H1.out).mono ?_
    rintro e w2 ⟨rfl, b2⟩
    rw [HV.out]
    have bx2 := bx1.below b2
    clear c0 c1 c2 c3 c4 b2 bx1
    obtain ⟨c0, c1, c2, c3, c4⟩ := bx2.five
    cases V
    · go_wp2
      go_ret
      exact ⟨rfl, bx2.2⟩
    go_wp2_with fail
    refine (hasId_any _ _).mono ?_
    rintro e w' ⟨rfl, rfl⟩
    rw [HI.out]
    cases I
    · go_wp2
      go_ret
      exact ⟨rfl, bx2.2⟩
    go_wp2_with fail
    refine (lies11_any _ _ _ _).mono ?_
    rintro e w' ⟨rfl, rfl⟩
    rw [HJ.out]
    cases J
    · go_wp2
      go_ret
      exact ⟨rfl, bx2.2⟩
    · go_wp2
      go_ret
      exact ⟨rfl, bx2.2⟩
  · go_wp2_with fail
    refine (Name9_any g _ hs).mono ?_
    rintro e w3 ⟨rfl, b3⟩
    rw [HN.out]
    have bx3 := bx1.below b3
    clear c0 c1 c2 c3 c4 b3 bx1
    obtain ⟨c0, c1, c2, c3, c4⟩ := bx3.five
    cases N
    · go_wp2
      go_ret
      exact ⟨rfl, bx3.2⟩
    go_wp2_with fail
    refine (fitsValue_any k t g v i _ H1.out).mono ?_
    rintro e w2 ⟨rfl, b2⟩
    rw [HV.out]
    have bx2 := bx3.below b2
    clear c0 c1 c2 c3 c4 b2 bx3
    obtain ⟨c0, c1, c2, c3, c4⟩ := bx2.five
    cases V
    · go_wp2
      go_ret
      exact ⟨rfl, bx2.2⟩
    go_wp2_with fail
    refine (hasId_any _ _).mono ?_
    rintro e w' ⟨rfl, rfl⟩
    rw [HI.out]
    cases I
    · go_wp2
      go_ret
      exact ⟨rfl, bx2.2⟩
    go_wp2_with fail
    refine (lies11_any _ _ _ _).mono ?_
    rintro e w' ⟨rfl, rfl⟩
    rw [HJ.out]
    cases J
    · go_wp2
      go_ret
      exact ⟨rfl, bx2.2⟩
    · go_wp2
      go_ret
      exact ⟨rfl, bx2.2⟩
end Go.Proofs.Ytemjcgmoacnnfaa
