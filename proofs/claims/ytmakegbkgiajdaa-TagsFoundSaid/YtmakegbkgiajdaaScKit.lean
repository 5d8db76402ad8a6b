/-
  Contracts of Check of package scale, of what it calls, and of the document's answer to it.
-/
import Derived.Test.YtmakegbkgiajdaaBox
import Derived.Test.YtmakegbkgiajdaaScMath
import Derived.IntWalk
import Derived.Deep.RegionHeld3
namespace Go.Proofs.Ytmakegbkgiajdaa
open Go.RowKit
set_option linter.unusedVariables false

def liesB (v lo hi : Int) : Bool := decide (lo ≤ v ∧ v ≤ hi)
theorem liesB_eq {v lo hi : Int} (h : lo ≤ hi) : (v == max lo (min v hi)) = liesB v lo hi := by
  rw [liesB, Bool.eq_iff_iff, beq_iff_eq, decide_eq_true_eq]; omega
theorem chkS_eq (wd sg sw : Bool) (mu di ad : Int) : chkS (⟨wd, sg, sw, mu, di, ad⟩ : Sc) = if (!(mu == 0) && liesB mu (-1000000) 1000000 && liesB di 1 1000000 && liesB ad (-1099511627776) 1099511627776 && (!sw || wd)) = true then 0 else 25 := by
  unfold chkS Sc.Ok
  congr 1
  simp only [Bool.and_eq_true, Bool.not_eq_true', Bool.or_eq_true, liesB, decide_eq_true_eq, beq_eq_false_iff_ne, ne_eq, eq_iff_iff, and_assoc]
  cases sw <;> cases wd <;> simp

theorem bring_any (v lo hi : Int) (w : World) : Calls Try.prog 39 #[.int .i64 v, .int .i64 lo, .int .i64 hi] w fun e w' => e = .returned (.int .i64 (max lo (min v hi))) ∧ w' = w := by
  go_enter Try.func39, Try.ntmps39
  go_wp2
  all_goals (go_ret; refine ⟨?_, rfl⟩; show Ending.returned (Value.int .i64 _) = Ending.returned (Value.int .i64 _); congr 2; omega)
theorem lies_at {v lo hi : Int} {b : Bool} (hle : lo ≤ hi) (h : Hid (liesB v lo hi = b)) (w : World) : Calls Try.prog 37 #[.int .i64 v, .int .i64 lo, .int .i64 hi] w fun e w' => e = .returned (.bool b) ∧ w' = w := by
  have h2 := (liesB_eq hle).trans h.out
  have H2 := Lib.hid h2
  clear h2
  go_enter Try.func37, Try.ntmps37
  go_wp2_with (go_at_call 39; refine (bring_any _ _ _ _).mono ?_; rintro e w' ⟨rfl, rfl⟩)
  rw [H2.out]
  go_ret
  exact ⟨rfl, rfl⟩

/-- The cells of a scale in its box. -/
theorem Bx.six {w0 w : World} {g : Nat} {t : TypeId} {v0 v1 v2 v3 v4 v5 : Value} (h : Bx w0 g (.cells #[v0, v1, v2, v3, v4, v5] t (0, 0)) w) :
    w.cell? ⟨g, 0, none⟩ = some v0 ∧ w.cell? ⟨g, 1, none⟩ = some v1 ∧ w.cell? ⟨g, 2, none⟩ = some v2 ∧ w.cell? ⟨g, 3, none⟩ = some v3 ∧ w.cell? ⟨g, 4, none⟩ = some v4 ∧ w.cell? ⟨g, 5, none⟩ = some v5 :=
  ⟨cell_of_row _ _ 0 _ _ _ h.1, cell_of_row _ _ 1 _ _ _ h.1, cell_of_row _ _ 2 _ _ _ h.1, cell_of_row _ _ 3 _ _ _ h.1, cell_of_row _ _ 4 _ _ _ h.1, cell_of_row _ _ 5 _ _ _ h.1⟩

set_option maxHeartbeats 1000000 in
theorem Check6_any (wd sg sw : Bool) (mu di ad : Int) (w : World) : Calls Try.prog 33 #[.agg #[.bool wd, .bool sg, .bool sw, .int .i64 mu, .int .i64 di, .int .i64 ad]] w fun e w' => e = .returned (.int .i64 (chkS (⟨wd, sg, sw, mu, di, ad⟩ : Sc))) ∧ Below w.heap.size w w' := by
  obtain ⟨c, hc⟩ : ∃ c, Hid (chkS (⟨wd, sg, sw, mu, di, ad⟩ : Sc) = c) := ⟨_, Lib.hid rfl⟩
  rw [hc.out]
  have hc2 := hc.out
  rw [chkS_eq] at hc2
  obtain ⟨b0, h0⟩ : ∃ b, Hid ((mu == 0) = b) := ⟨_, Lib.hid rfl⟩
  obtain ⟨b1, h1⟩ : ∃ b, Hid (liesB mu (-1000000) 1000000 = b) := ⟨_, Lib.hid rfl⟩
  obtain ⟨b2, h2⟩ : ∃ b, Hid (liesB di 1 1000000 = b) := ⟨_, Lib.hid rfl⟩
  obtain ⟨b3, h3⟩ : ∃ b, Hid (liesB ad (-1099511627776) 1099511627776 = b) := ⟨_, Lib.hid rfl⟩
  rw [h0.out, h1.out, h2.out, h3.out] at hc2
  have HC := Lib.hid hc2
  have t0 := h0.out
  have bel := bel_alloc w (.cells #[.bool wd, .bool sg, .bool sw, .int .i64 mu, .int .i64 di, .int .i64 ad] 23)
  clear hc2 hc h0
  cases b0
  case true =>
    have HC2 : Hid (c = 25) := Lib.hid (by rw [← HC.out]; rfl)
    go_enter Try.func33, Try.ntmps33
    go_wp2
    go_ret
    exact ⟨by rw [HC2.out]; rfl, bel⟩
  case false =>
  cases b1
  case false =>
    have HC2 : Hid (c = 25) := Lib.hid (by rw [← HC.out]; rfl)
    go_enter Try.func33, Try.ntmps33
    go_wp2_with (go_at_call 37; refine (lies_at (by omega) h1 _).mono ?_; rintro e w' ⟨rfl, rfl⟩)
    go_ret
    exact ⟨by rw [HC2.out]; rfl, bel⟩
  case true =>
  cases b2
  case false =>
    have HC2 : Hid (c = 25) := Lib.hid (by rw [← HC.out]; rfl)
    go_enter Try.func33, Try.ntmps33
    go_wp2_with (go_at_call 37; (with_reducible first | refine (lies_at (by omega) h1 _).mono ?_ | refine (lies_at (by omega) h2 _).mono ?_); rintro e w' ⟨rfl, rfl⟩)
    go_ret
    exact ⟨by rw [HC2.out]; rfl, bel⟩
  case true =>
  cases b3
  case false =>
    have HC2 : Hid (c = 25) := Lib.hid (by rw [← HC.out]; rfl)
    go_enter Try.func33, Try.ntmps33
    go_wp2_with (go_at_call 37; (with_reducible first | refine (lies_at (by omega) h1 _).mono ?_ | refine (lies_at (by omega) h2 _).mono ?_ | refine (lies_at (by omega) h3 _).mono ?_); rintro e w' ⟨rfl, rfl⟩)
    go_ret
    exact ⟨by rw [HC2.out]; rfl, bel⟩
  case true =>
  cases sw
  case false =>
    have HC2 : Hid (c = 0) := Lib.hid (by rw [← HC.out]; rfl)
    go_enter Try.func33, Try.ntmps33
    go_wp2_with (go_at_call 37; (with_reducible first | refine (lies_at (by omega) h1 _).mono ?_ | refine (lies_at (by omega) h2 _).mono ?_ | refine (lies_at (by omega) h3 _).mono ?_); rintro e w' ⟨rfl, rfl⟩)
    go_ret
    exact ⟨by rw [HC2.out]; rfl, bel⟩
  case true =>
  cases wd
  all_goals
    go_enter Try.func33, Try.ntmps33
    go_wp2_with (go_at_call 37; (with_reducible first | refine (lies_at (by omega) h1 _).mono ?_ | refine (lies_at (by omega) h2 _).mono ?_ | refine (lies_at (by omega) h3 _).mono ?_); rintro e w' ⟨rfl, rfl⟩)
    go_ret
    exact ⟨by rw [← HC.out]; rfl, bel⟩
end Go.Proofs.Ytmakegbkgiajdaa
