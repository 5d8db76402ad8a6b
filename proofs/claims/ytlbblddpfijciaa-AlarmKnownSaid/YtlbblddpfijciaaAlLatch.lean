/-
  The mathematics of AlarmLatched and AlarmApart.
-/
import Derived.Test.YtlbblddpfijciaaAlTells
namespace Go.Proofs.Ytlbblddpfijciaa
open Go.RowKit
set_option linter.unusedVariables false

/-- Ahead of a raising the alarm is none; behind it, with a latch, it waits. -/
def LatI (rs : Bool) (st : Int) (wt : Bool) : Prop := (rs = false ∧ st = 0 ∧ wt = false) ∨ (rs = true ∧ wt = true ∧ (st = 1 ∨ st = 2))
/-- What one value makes of it: six cases. -/
theorem lat_round (ul uh : Bool) (lo hi hy st v : Int) (rs wt : Bool) (h : LatI rs st wt) :
    (rs = false ∧ st = 0 ∧ wt = false ∧ stepA ⟨ul, uh, true, lo, hi, hy⟩ ⟨0, false⟩ v = (⟨0, false⟩, 0)) ∨
    (rs = true ∧ wt = true ∧ (st = 1 ∨ st = 2) ∧ stepA ⟨ul, uh, true, lo, hi, hy⟩ ⟨st, true⟩ v = (⟨st, true⟩, 0)) ∨
    (stepA ⟨ul, uh, true, lo, hi, hy⟩ ⟨st, wt⟩ v = (⟨1, true⟩, 1)) ∨
    (stepA ⟨ul, uh, true, lo, hi, hy⟩ ⟨st, wt⟩ v = (⟨2, true⟩, 2)) := by
  rcases step_tells ⟨ul, uh, true, lo, hi, hy⟩ st wt v with h0 | ⟨h1, _⟩ | ⟨h2, _⟩ | ⟨h3, h4, _⟩
  · rcases h with ⟨rfl, rfl, rfl⟩ | ⟨rfl, rfl, h⟩
    · exact .inl ⟨rfl, rfl, rfl, h0⟩
    · exact .inr (.inl ⟨rfl, rfl, h, h0⟩)
  · exact .inr (.inr (.inl h1))
  · exact .inr (.inr (.inr h2))
  · exfalso
    rcases h with ⟨rfl, rfl, rfl⟩ | ⟨rfl, rfl, h⟩
    · rcases h4 with h4 | h4 <;> omega
    · cases hok : okL ⟨ul, uh, true, lo, hi, hy⟩
      · rw [stepA_bad (.inl hok)] at h3; injection h3 with _ h3; omega
      · have hs : isSt st = true := by unfold isSt; rcases h with rfl | rfl <;> rfl
        cases hl : lowB ⟨ul, uh, true, lo, hi, hy⟩ v
        · cases hh : highB ⟨ul, uh, true, lo, hi, hy⟩ v
          · rw [stepA_stay hok hs hl hh (.inr ⟨rfl, rfl⟩)] at h3; injection h3 with _ h3; omega
          · by_cases h2 : st = 2
            · rw [stepA_high2 hok h2 hl hh] at h3; injection h3 with _ h3; omega
            · rw [stepA_high hok hs h2 hl hh] at h3; injection h3 with _ h3; omega
        · by_cases h1 : st = 1
          · rw [stepA_low1 hok h1 hl] at h3; injection h3 with _ h3; omega
          · rw [stepA_low hok hs h1 hl] at h3; injection h3 with _ h3; omega
/-- Once it is acknowledged, a value that is back clears it. -/
theorem lat_clear (lo hi hy : Int) (hok : okL ⟨true, false, true, lo, hi, hy⟩ = true) : stepA ⟨true, false, true, lo, hi, hy⟩ ⟨1, false⟩ 3298534883328 = (⟨0, false⟩, 3) := by
  obtain ⟨k1, k2, k3, k4, _⟩ := okL_of hok
  simp only at k1 k2 k3 k4
  exact stepA_back hok rfl (by simp [lowB]; omega) rfl (by simp [backB]; omega) (.inr rfl)

/-- Between two raisings of one side a value has come that is back from it. -/
def ApI (l : Lim) (lw hg : Bool) (st : Int) : Prop := (lw = true ∨ st = 1 ∧ l.ul = true) ∧ (hg = true ∨ st = 2 ∧ l.uh = true)
/-- One value: what is told, and what the two sides have seen. -/
theorem ap_round (l : Lim) (lw hg : Bool) (st : Int) (wt : Bool) (v : Int) (hok : okL l = true) (h : ApI l lw hg st) :
    (stepA l ⟨st, wt⟩ v = (⟨st, wt⟩, 0) ∧ ApI l (lw || decide (v > l.lo + l.hy)) (hg || decide (v < l.hi - l.hy)) st) ∨
    (stepA l ⟨st, wt⟩ v = (⟨1, true⟩, 1) ∧ (lw || decide (v > l.lo + l.hy)) = true ∧ ApI l false (hg || decide (v < l.hi - l.hy)) 1) ∨
    (stepA l ⟨st, wt⟩ v = (⟨2, true⟩, 2) ∧ (hg || decide (v < l.hi - l.hy)) = true ∧ ApI l (lw || decide (v > l.lo + l.hy)) false 2) ∨
    (stepA l ⟨st, wt⟩ v = (⟨0, wt⟩, 3) ∧ ApI l (lw || decide (v > l.lo + l.hy)) (hg || decide (v < l.hi - l.hy)) 0) := by
  obtain ⟨k1, k2, k3, k4, k5, k6, k7, k8, k9⟩ := okL_of hok
  obtain ⟨h1, h2⟩ := h
  have m1 : (lw || decide (v > l.lo + l.hy)) = true ∨ st = 1 ∧ l.ul = true := by
    rcases h1 with h1 | h1
    · exact .inl (by rw [h1]; rfl)
    · exact .inr h1
  have m2 : (hg || decide (v < l.hi - l.hy)) = true ∨ st = 2 ∧ l.uh = true := by
    rcases h2 with h2 | h2
    · exact .inl (by rw [h2]; rfl)
    · exact .inr h2
  cases hs : isSt st
  · exact .inl ⟨stepA_bad (.inr hs), m1, m2⟩
  cases hl : lowB l v
  · cases hh : highB l v
    · by_cases hb : backB l st v = false ∨ l.la = true ∧ wt = true
      · exact .inl ⟨stepA_stay hok hs hl hh hb, m1, m2⟩
      · have hbk : backB l st v = true := by
          cases hx : backB l st v
          · exact absurd (.inl hx) hb
          · rfl
        refine .inr (.inr (.inr ⟨stepA_back hok hs hl hh hbk ?_, ?_⟩))
        · cases h1 : l.la
          · exact .inl rfl
          · cases h2 : wt
            · exact .inr rfl
            · exact absurd (.inr ⟨h1, h2⟩) hb
        · unfold backB at hbk
          simp only [Bool.or_eq_true, Bool.and_eq_true, decide_eq_true_eq, Bool.not_eq_true'] at hbk
          refine ⟨.inl ?_, .inl ?_⟩
          · rcases m1 with m1 | ⟨e1, e2⟩
            · exact m1
            · rcases hbk with ⟨_, hbk | hbk⟩ | ⟨hbk, _⟩
              · rw [e2] at hbk; cases hbk
              · rw [decide_eq_true (show v > l.lo + l.hy by omega)]; simp
              · omega
          · rcases m2 with m2 | ⟨e1, e2⟩
            · exact m2
            · rcases hbk with ⟨hbk, _⟩ | ⟨_, hbk | hbk⟩
              · omega
              · rw [e2] at hbk; cases hbk
              · rw [decide_eq_true (show v < l.hi - l.hy by omega)]; simp
    · have hh' : l.uh = true ∧ l.hi ≤ v := by unfold highB at hh; simpa using hh
      by_cases h2' : st = 2
      · subst h2'; exact .inl ⟨stepA_high2 hok rfl hl hh, m1, m2⟩
      · refine .inr (.inr (.inl ⟨stepA_high hok hs h2' hl hh, ?_, .inl ?_, .inr ⟨rfl, hh'.1⟩⟩))
        · rcases m2 with m2 | ⟨e1, _⟩
          · exact m2
          · exact absurd e1 h2'
        · rcases m1 with m1 | ⟨_, e2⟩
          · exact m1
          · have := k9 e2 hh'.1
            rw [decide_eq_true (show v > l.lo + l.hy by omega)]; simp
  · have hl' : l.ul = true ∧ v ≤ l.lo := by unfold lowB at hl; simpa using hl
    by_cases h1' : st = 1
    · subst h1'; exact .inl ⟨stepA_low1 hok rfl hl, m1, m2⟩
    · refine .inr (.inl ⟨stepA_low hok hs h1' hl, ?_, .inr ⟨rfl, hl'.1⟩, .inl ?_⟩)
      · rcases m1 with m1 | ⟨e1, _⟩
        · exact m1
        · exact absurd e1 h1'
      · rcases m2 with m2 | ⟨_, e2⟩
        · exact m2
        · have := k9 hl'.1 e2
          rw [decide_eq_true (show v < l.hi - l.hy by omega)]; simp
end Go.Proofs.Ytlbblddpfijciaa
