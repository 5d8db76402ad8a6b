/-
  Contracts of the document's Check and Many of layer 6.
-/
import Derived.Test.YtmakegbkgiajdaaScKit
namespace Go.Proofs.Ytmakegbkgiajdaa
open Go.RowKit
set_option linter.unusedVariables false
set_option maxHeartbeats 1000000 in
theorem refCheck6_any (wd sg sw : Bool) (mu di ad : Int) (w : World) : Calls Try.prog 29 #[.agg #[.bool wd, .bool sg, .bool sw, .int .i64 mu, .int .i64 di, .int .i64 ad]] w fun e w' => e = .returned (.int .i64 (chkS (⟨wd, sg, sw, mu, di, ad⟩ : Sc))) ∧ Below w.heap.size w w' := by
  obtain ⟨c, hc⟩ : ∃ c, Hid (chkS (⟨wd, sg, sw, mu, di, ad⟩ : Sc) = c) := ⟨_, Lib.hid rfl⟩
  rw [hc.out]
  have bel := bel_alloc w (.cells #[.bool wd, .bool sg, .bool sw, .int .i64 mu, .int .i64 di, .int .i64 ad] 23)
  have no : ¬ Sc.Ok (⟨wd, sg, sw, mu, di, ad⟩ : Sc) → Hid (c = 25) := fun h => Lib.hid (by rw [← hc.out]; exact chkS_no h)
  by_cases g0 : mu = 0
  · have HC := no (fun h => h.1 g0)
    have t0 : (mu == 0) = true := beq_iff_eq.2 g0
    clear no hc g0
    go_enter Try.func29, Try.ntmps29
    go_wp2
    go_ret
    exact ⟨by rw [HC.out]; rfl, bel⟩
  have t0 : (mu == 0) = false := beq_false_of_ne g0
  by_cases g1 : mu < -1000000
  · have HC := no (fun h => by have := h.2.1.1; simp only at this; omega)
    clear no hc g0
    go_enter Try.func29, Try.ntmps29
    go_wp2
    go_ret
    exact ⟨by rw [HC.out]; rfl, bel⟩
  by_cases g2 : 1000000 < mu
  · have HC := no (fun h => by have := h.2.1.2; simp only at this; omega)
    clear no hc g0
    go_enter Try.func29, Try.ntmps29
    go_wp2
    go_ret
    exact ⟨by rw [HC.out]; rfl, bel⟩
  by_cases g3 : di < 1
  · have HC := no (fun h => by have := h.2.2.1.1; simp only at this; omega)
    clear no hc g0
    go_enter Try.func29, Try.ntmps29
    go_wp2
    go_ret
    exact ⟨by rw [HC.out]; rfl, bel⟩
  by_cases g4 : 1000000 < di
  · have HC := no (fun h => by have := h.2.2.1.2; simp only at this; omega)
    clear no hc g0
    go_enter Try.func29, Try.ntmps29
    go_wp2
    go_ret
    exact ⟨by rw [HC.out]; rfl, bel⟩
  by_cases g5 : ad < -1099511627776
  · have HC := no (fun h => by have := h.2.2.2.1.1; simp only at this; omega)
    clear no hc g0
    go_enter Try.func29, Try.ntmps29
    go_wp2
    go_ret
    exact ⟨by rw [HC.out]; rfl, bel⟩
  by_cases g6 : 1099511627776 < ad
  · have HC := no (fun h => by have := h.2.2.2.1.2; simp only at this; omega)
    clear no hc g0
    go_enter Try.func29, Try.ntmps29
    go_wp2
    go_ret
    exact ⟨by rw [HC.out]; rfl, bel⟩
  have yes : (sw = true → wd = true) → Hid (c = 0) := fun h => Lib.hid (by rw [← hc.out]; exact chkS_yes ⟨g0, ⟨by simp only; omega, by simp only; omega⟩, ⟨by simp only; omega, by simp only; omega⟩, ⟨by simp only; omega, by simp only; omega⟩, h⟩)
  cases sw
  · have HC := yes (fun h => by cases h)
    clear no yes hc g0
    go_enter Try.func29, Try.ntmps29
    go_wp2
    go_ret
    exact ⟨by rw [HC.out]; rfl, bel⟩
  cases wd
  · have HC := no (fun h => by have := h.2.2.2.2; simp at this)
    clear no yes hc g0
    go_enter Try.func29, Try.ntmps29
    go_wp2
    go_ret
    exact ⟨by rw [HC.out]; rfl, bel⟩
  · have HC := yes (fun h => rfl)
    clear no yes hc g0
    go_enter Try.func29, Try.ntmps29
    go_wp2
    go_ret
    exact ⟨by rw [HC.out]; rfl, bel⟩
end Go.Proofs.Ytmakegbkgiajdaa
