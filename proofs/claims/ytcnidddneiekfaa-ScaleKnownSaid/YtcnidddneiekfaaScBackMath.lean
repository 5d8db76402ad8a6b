/-
  Words and numbers, there and back.
-/
import Derived.Test.YtcnidddneiekfaaScWords
namespace Go.Proofs.Ytcnidddneiekfaa
open Go.RowKit
set_option linter.unusedVariables false
set_option linter.unusedSimpArgs false

theorem wordsE_zero {s : Sc} {n : Int} (h : wordsE s n = 0) : s.Ok ∧ lowS s ≤ n ∧ n ≤ lowS s + many s - 1 := by
  unfold wordsE at h
  by_cases g : s.Ok
  · rw [if_pos g] at h
    by_cases g2 : lowS s ≤ n ∧ n ≤ lowS s + many s - 1
    · exact ⟨g, g2⟩
    · rw [if_neg g2] at h; cases h
  · rw [if_neg g] at h; cases h
theorem rawE_zero {s : Sc} {xs : List Int} (h : rawE s xs = 0) : s.Ok ∧ xs.length = cntS s := by
  unfold rawE at h
  by_cases g : s.Ok
  · rw [if_pos g] at h
    by_cases g2 : xs.length = cntS s
    · exact ⟨g, g2⟩
    · rw [if_neg g2] at h; cases h
  · rw [if_neg g] at h; cases h
theorem raw_words {s : Sc} {n : Int} (h : wordsE s n = 0) : rawE s (wordsS s n) = 0 ∧ rawN s (wordsS s n) = n := by
  obtain ⟨hok, hr⟩ := wordsE_zero h
  have e1 : wordsS s n = layS s n := by unfold wordsS; rw [if_pos h]
  have e2 : rawE s (layS s n) = 0 := by unfold rawE; rw [if_pos hok, if_pos (layS_len s n)]
  rw [e1]
  refine ⟨e2, ?_⟩
  unfold rawN
  rw [if_pos e2]
  have hsw := hok.2.2.2.2
  clear hok h e1 e2
  obtain ⟨wd, sg, sw, mu, di, ad⟩ := s
  cases wd <;> cases sw
  · cases sg <;> simp only [signS, baseS, layS, lowS, many, nth, List.getD_cons_zero, List.getD_cons_succ, if_true, Bool.false_eq_true, if_false] at hr ⊢ <;> split <;> omega
  · exact absurd (hsw rfl) (by simp)
  · cases sg <;> simp only [signS, baseS, layS, lowS, many, nth, List.getD_cons_zero, List.getD_cons_succ, if_true, Bool.false_eq_true, if_false] at hr ⊢ <;> split <;> omega
  · cases sg <;> simp only [signS, baseS, layS, lowS, many, nth, List.getD_cons_zero, List.getD_cons_succ, if_true, Bool.false_eq_true, if_false] at hr ⊢ <;> split <;> omega
theorem words_raw {s : Sc} {xs : List Int} (hw : ∀ x ∈ xs, (Lit.int .u16 x).wf = true) (h : rawE s xs = 0) : wordsE s (rawN s xs) = 0 ∧ wordsS s (rawN s xs) = xs := by
  obtain ⟨hok, hl⟩ := rawE_zero h
  have e1 : rawN s xs = signS s (baseS s xs) := by unfold rawN; rw [if_pos h]
  rw [e1]
  have hsw := hok.2.2.2.2
  have key : (lowS s ≤ signS s (baseS s xs) ∧ signS s (baseS s xs) ≤ lowS s + many s - 1) ∧ layS s (signS s (baseS s xs)) = xs := by
    clear hok h e1
    obtain ⟨wd, sg, sw, mu, di, ad⟩ := s
    cases wd
    · obtain ⟨x, rfl⟩ : ∃ x, xs = [x] := by
        match xs, hl with
        | [x], _ => exact ⟨x, rfl⟩
      have hx := wf_u16 (hw x (by simp))
      cases sw
      · cases sg <;> simp only [signS, baseS, layS, lowS, many, nth, List.getD_cons_zero, List.getD_cons_succ, if_true, Bool.false_eq_true, if_false, List.cons.injEq, and_true] <;> split <;> omega
      · exact absurd (hsw rfl) (by simp)
    · obtain ⟨x, y, rfl⟩ : ∃ x y, xs = [x, y] := by
        match xs, hl with
        | [x, y], _ => exact ⟨x, y, rfl⟩
      have hx := wf_u16 (hw x (by simp))
      have hy := wf_u16 (hw y (by simp))
      cases sw <;> cases sg <;> simp only [signS, baseS, layS, lowS, many, nth, List.getD_cons_zero, List.getD_cons_succ, if_true, Bool.false_eq_true, if_false, List.cons.injEq, and_true] <;> split <;> omega
  have e2 : wordsE s (signS s (baseS s xs)) = 0 := by unfold wordsE; rw [if_pos hok, if_pos key.1]
  exact ⟨e2, by unfold wordsS; rw [if_pos e2]; exact key.2⟩
end Go.Proofs.Ytcnidddneiekfaa
