/-
  Contracts of package scale's small functions: how many words, how many numbers, the least and the greatest, where a word stands.
-/
import Derived.Test.YtcnidddneiekfaaScRef
namespace Go.Proofs.Ytcnidddneiekfaa
open Go.RowKit
set_option linter.unusedVariables false

theorem count_any (wd sg sw : Bool) (mu di ad : Int) (w : World) : Calls Try.prog 24 #[.agg #[.bool wd, .bool sg, .bool sw, .int .i64 mu, .int .i64 di, .int .i64 ad]] w fun e w' => e = .returned (.int .i64 (cntS (⟨wd, sg, sw, mu, di, ad⟩ : Sc) : Nat)) ∧ Below w.heap.size w w' := by
  have bel := bel_alloc w (.cells #[.bool wd, .bool sg, .bool sw, .int .i64 mu, .int .i64 di, .int .i64 ad] 23)
  cases wd
  all_goals
    go_enter Try.func24, Try.ntmps24
    go_wp2
    go_ret
    exact ⟨rfl, bel⟩
theorem span_any (wd sg sw : Bool) (mu di ad : Int) (w : World) : Calls Try.prog 27 #[.agg #[.bool wd, .bool sg, .bool sw, .int .i64 mu, .int .i64 di, .int .i64 ad]] w fun e w' => e = .returned (.int .i64 (many (⟨wd, sg, sw, mu, di, ad⟩ : Sc))) ∧ Below w.heap.size w w' := by
  have bx := Bx.new w (.cells #[.bool wd, .bool sg, .bool sw, .int .i64 mu, .int .i64 di, .int .i64 ad] 23)
  cases wd
  all_goals
    go_enter Try.func27, Try.ntmps27
    go_wp2_with fail
    refine (count_any _ _ _ _ _ _ _).mono ?_
    rintro e w1 ⟨rfl, b1⟩
    have bel := (bx.below b1).2
    simp only [cntS, if_true, Bool.false_eq_true, if_false]
    go_wp2
    go_ret
    exact ⟨rfl, bel⟩
theorem lowest_any (wd sg sw : Bool) (mu di ad : Int) (w : World) : Calls Try.prog 30 #[.agg #[.bool wd, .bool sg, .bool sw, .int .i64 mu, .int .i64 di, .int .i64 ad]] w fun e w' => e = .returned (.int .i64 (lowS (⟨wd, sg, sw, mu, di, ad⟩ : Sc))) ∧ Below w.heap.size w w' := by
  have bx := Bx.new w (.cells #[.bool wd, .bool sg, .bool sw, .int .i64 mu, .int .i64 di, .int .i64 ad] 23)
  cases sg
  · have bel := bx.2
    go_enter Try.func30, Try.ntmps30
    go_wp2
    go_ret
    exact ⟨rfl, bel⟩
  · cases wd
    all_goals
      go_enter Try.func30, Try.ntmps30
      go_wp2_with fail
      refine (span_any _ _ _ _ _ _ _).mono ?_
      rintro e w1 ⟨rfl, b1⟩
      have bel := (bx.below b1).2
      simp only [many, if_true, Bool.false_eq_true, if_false]
      go_wp2
      go_ret
      exact ⟨rfl, bel⟩
theorem low_bound (wd sg sw : Bool) (mu di ad : Int) : -2147483648 ≤ lowS (⟨wd, sg, sw, mu, di, ad⟩ : Sc) ∧ lowS (⟨wd, sg, sw, mu, di, ad⟩ : Sc) ≤ 0 ∧ 65536 ≤ many (⟨wd, sg, sw, mu, di, ad⟩ : Sc) ∧ many (⟨wd, sg, sw, mu, di, ad⟩ : Sc) ≤ 4294967296 ∧ -lowS (⟨wd, sg, sw, mu, di, ad⟩ : Sc) ≤ many (⟨wd, sg, sw, mu, di, ad⟩ : Sc) := by
  cases wd <;> cases sg <;> simp [lowS, many]
set_option maxHeartbeats 1000000 in
theorem highest_any (wd sg sw : Bool) (mu di ad : Int) (w : World) : Calls Try.prog 26 #[.agg #[.bool wd, .bool sg, .bool sw, .int .i64 mu, .int .i64 di, .int .i64 ad]] w fun e w' => e = .returned (.int .i64 (lowS (⟨wd, sg, sw, mu, di, ad⟩ : Sc) + many (⟨wd, sg, sw, mu, di, ad⟩ : Sc) - 1)) ∧ Below w.heap.size w w' := by
  have hx0 := Bx.new w (.cells #[.bool wd, .bool sg, .bool sw, .int .i64 mu, .int .i64 di, .int .i64 ad] 23)
  have hb := low_bound wd sg sw mu di ad
  obtain ⟨l, hl⟩ : ∃ l, Hid (lowS (⟨wd, sg, sw, mu, di, ad⟩ : Sc) = l) := ⟨_, Lib.hid rfl⟩
  obtain ⟨m, hm⟩ : ∃ m, Hid (many (⟨wd, sg, sw, mu, di, ad⟩ : Sc) = m) := ⟨_, Lib.hid rfl⟩
  rw [hl.out, hm.out] at hb ⊢
  have e1 : IntKind.i64.wrap (l + m) = l + m := IntWalk.i64_in _ (by omega)
  have e2 : IntKind.i64.wrap (l + m - 1) = l + m - 1 := IntWalk.i64_in _ (by omega)
  go_enter Try.func26, Try.ntmps26
  go_wp2_with fail
  go_region_held3 (fun w' => Bx w w.heap.size (.cells #[.bool wd, .bool sg, .bool sw, .int .i64 mu, .int .i64 di, .int .i64 ad] 23 (0, 0)) w' ∧ w'.cell? ⟨w.heap.size, 0, none⟩ = some (.bool wd) ∧ w'.cell? ⟨w.heap.size, 1, none⟩ = some (.bool sg) ∧ w'.cell? ⟨w.heap.size, 2, none⟩ = some (.bool sw) ∧ w'.cell? ⟨w.heap.size, 3, none⟩ = some (.int .i64 mu) ∧ w'.cell? ⟨w.heap.size, 4, none⟩ = some (.int .i64 di) ∧ w'.cell? ⟨w.heap.size, 5, none⟩ = some (.int .i64 ad))
    (with_reducible first
      | exact ⟨hx0.drew, hx0.drew.six⟩
      | exact ⟨h9, h9.six⟩
      | exact ⟨h10, h10.six⟩)
    (first
      | (go_at_call 30; refine (lowest_any wd sg sw mu di ad _).mono ?_; rintro e w1 ⟨rfl, b1⟩; rw [hl.out]; have h9 := hx0.drew.below b1)
      | (go_at_call 27; refine (span_any wd sg sw mu di ad _).mono ?_; rintro e w2 ⟨rfl, b2⟩; rw [hm.out]; have h10 := h9.below b2))
  have bel := h10.2
  go_wp2
  go_ret
  exact ⟨rfl, bel⟩
/-- How many bits of a number stand below those of a word. -/
def shfS (wd sw : Bool) (k : Nat) : Nat := if sw then 16 * k else if wd then 16 * (1 - k) else 0
theorem shift_any (wd sg sw : Bool) (mu di ad : Int) (k : Nat) (hk : k < cntS (⟨wd, sg, sw, mu, di, ad⟩ : Sc)) (w : World) : Calls Try.prog 25 #[.agg #[.bool wd, .bool sg, .bool sw, .int .i64 mu, .int .i64 di, .int .i64 ad], .int .i64 k] w fun e w' => e = .returned (.int .i64 (shfS wd sw k : Nat)) ∧ Below w.heap.size w w' := by
  have bx := Bx.new w (.cells #[.bool wd, .bool sg, .bool sw, .int .i64 mu, .int .i64 di, .int .i64 ad] 23)
  have hk2 : k < 2 := by cases wd <;> simp [cntS] at hk <;> omega
  cases sw
  · have hk1 : wd = false → k = 0 := fun h => by subst h; simp [cntS] at hk; omega
    obtain ⟨c, hc⟩ : ∃ c, Hid (cntS ⟨wd, sg, false, mu, di, ad⟩ = c) := ⟨_, Lib.hid rfl⟩
    have hs : Hid (shfS wd false k = 16 * (c - 1 - k) ∧ k < c ∧ c ≤ 2) := Lib.hid (by rw [← hc.out]; cases wd <;> simp [shfS, cntS, hk1] <;> omega)
    clear hk hk1
    have h1 := hs.out.2
    go_enter Try.func25, Try.ntmps25
    go_wp2_with fail
    refine (count_any _ _ _ _ _ _ _).mono ?_
    rintro e w1 ⟨rfl, b1⟩
    rw [hc.out]
    have bel := (bx.below b1).2
    go_wp2
    go_ret
    refine ⟨?_, bel⟩
    rw [hs.out.1]
    show Ending.returned (Value.int .i64 _) = Ending.returned (Value.int .i64 _)
    congr 2
    omega
  · have hs : Hid (shfS wd true k = 16 * k) := Lib.hid (if_pos rfl)
    have bel := bx.2
    clear hk
    go_enter Try.func25, Try.ntmps25
    go_wp2
    go_ret
    refine ⟨?_, bel⟩
    rw [hs.out]
    rfl
end Go.Proofs.Ytcnidddneiekfaa
