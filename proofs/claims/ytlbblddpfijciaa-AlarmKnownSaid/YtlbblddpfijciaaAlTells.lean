/-
  What a step tells: the mathematics of AlarmTells, AlarmInside, AlarmLatched, AlarmApart.
-/
import Derived.Test.YtlbblddpfijciaaAlMath
namespace Go.Proofs.Ytlbblddpfijciaa
open Go.RowKit
set_option linter.unusedVariables false

theorem isSt_iff {st : Int} (h : isSt st = true) : st = 0 ∨ st = 1 ∨ st = 2 := by
  unfold isSt at h; simpa using h
/-- The four outcomes of a step, and what the same value makes of each. -/
theorem step_tells (l : Lim) (st : Int) (wt : Bool) (v : Int) :
    (stepA l ⟨st, wt⟩ v = (⟨st, wt⟩, 0)) ∨
    (stepA l ⟨st, wt⟩ v = (⟨1, true⟩, 1) ∧ st ≠ 1 ∧ v ≤ l.lo ∧ stepA l ⟨1, true⟩ v = (⟨1, true⟩, 0)) ∨
    (stepA l ⟨st, wt⟩ v = (⟨2, true⟩, 2) ∧ st ≠ 2 ∧ l.hi ≤ v ∧ stepA l ⟨2, true⟩ v = (⟨2, true⟩, 0)) ∨
    (stepA l ⟨st, wt⟩ v = (⟨0, wt⟩, 3) ∧ (st = 1 ∨ st = 2) ∧ stepA l ⟨0, wt⟩ v = (⟨0, wt⟩, 0)) := by
  cases hok : okL l
  · exact .inl (stepA_bad (.inl hok))
  cases hs : isSt st
  · exact .inl (stepA_bad (.inr hs))
  cases hl : lowB l v
  · cases hh : highB l v
    · cases hb : backB l st v
      · exact .inl (stepA_stay hok hs hl hh (.inl hb))
      · by_cases hw : l.la = true ∧ wt = true
        · exact .inl (stepA_stay hok hs hl hh (.inr hw))
        · refine .inr (.inr (.inr ⟨stepA_back hok hs hl hh hb ?_, ?_, stepA_stay hok rfl hl hh (.inl (by simp [backB]))⟩))
          · cases h1 : l.la
            · exact .inl rfl
            · cases h2 : wt
              · exact .inr rfl
              · exact absurd ⟨h1, h2⟩ hw
          · rcases isSt_iff hs with h | h
            · subst h; simp [backB] at hb
            · exact h
    · by_cases h2 : st = 2
      · subst h2; exact .inl (stepA_high2 hok rfl hl hh)
      · refine .inr (.inr (.inl ⟨stepA_high hok hs h2 hl hh, h2, ?_, stepA_high2 hok rfl hl hh⟩))
        unfold highB at hh; simp at hh; exact hh.2
  · by_cases h1 : st = 1
    · subst h1; exact .inl (stepA_low1 hok rfl hl)
    · refine .inr (.inl ⟨stepA_low hok hs h1 hl, h1, ?_, stepA_low1 hok rfl hl⟩)
      unfold lowB at hl; simp at hl; exact hl.2
/-- A value that is neither low nor high makes nothing of an alarm in the state Normal. -/
theorem step_inside (l : Lim) (wt : Bool) (v : Int) (hl : lowB l v = false) (hh : highB l v = false) : stepA l ⟨0, wt⟩ v = (⟨0, wt⟩, 0) := by
  cases hok : okL l
  · exact stepA_bad (.inl hok)
  · exact stepA_stay hok rfl hl hh (.inl (by simp [backB]))
end Go.Proofs.Ytlbblddpfijciaa
