/-
  What a right tag is like; names with a byte less, or one more; a tag with another address.
-/
import Derived.Test.YtmakegbkgiajdaaTgMath
namespace Go.Proofs.Ytmakegbkgiajdaa
open Go.RowKit
set_option linter.unusedVariables false

theorem chkT_zero {t : Tg} (h : chkT t = 0) : nameB (bys t.nm) = true ∧ (1 ≤ t.un ∧ t.un ≤ 247) ∧ (1 ≤ t.ki ∧ t.ki ≤ 4) ∧ (0 ≤ t.ad ∧ t.ad ≤ 65536 - widT t) ∧ (1 ≤ t.ev ∧ t.ev ≤ 1048576) ∧ chkS t.sc = 0 ∧ (¬ t.ki ≤ 2 ∨ bitS t = true) ∧ chkB t.de t.qu = 0 ∧ chkL t.li = 0 := by
  refine tag_cases t _ ?_ ?_ ?_ ?_ ?_ ?_ ?_ ?_ ?_ ?_ ?_ ?_ ?_
  · intro _ e; rw [h] at e; cases e
  · intro _ _ e; rw [h] at e; cases e
  · intro _ _ _ e; rw [h] at e; cases e
  · intro _ _ _ _ e; rw [h] at e; cases e
  · intro _ _ _ _ _ e; rw [h] at e; cases e
  · intro _ _ _ _ _ _ e; rw [h] at e; cases e
  · intro _ _ _ _ _ _ _ e; rw [h] at e; cases e
  · intro _ _ _ _ _ _ _ _ e; rw [h] at e; cases e
  · intro _ _ _ _ _ _ _ _ _ e; rw [h] at e; cases e
  · intro _ _ _ _ _ _ _ _ _ _ e; rw [h] at e; cases e
  · intro _ _ _ _ _ _ _ _ _ _ _ _ e; rw [h] at e; cases e
  · intro _ _ _ _ _ _ _ _ _ _ _ _ e; rw [h] at e; cases e
  · intro h1 h2 h3 h4 h5 h6 h7 h8 h9 h10 h11 h12 e
    rw [h] at e
    exact ⟨h1, by omega, by omega, by omega, by omega, h10, h11, h12, e.symm⟩
/-- The same tag at another address. -/
def Tg.at (t : Tg) (a : Int) : Tg := ⟨t.nm, t.un, t.ki, a, t.ev, t.we, t.sg, t.sw, t.mu, t.di, t.aa, t.de, t.qu, t.ul, t.uh, t.la, t.lo, t.hi, t.hy⟩
theorem at_wid (t : Tg) (a : Int) : widT (t.at a) = widT t := rfl
theorem at_cases {t : Tg} (h : chkT t = 0) (a : Int) (ha : 0 ≤ a) : (a ≤ 65536 - widT t ∧ chkT (t.at a) = 0) ∨ (¬ a ≤ 65536 - widT t ∧ chkT (t.at a) = 21) := by
  obtain ⟨h1, h2, h3, h4, h5, h6, h7, h8, h9⟩ := chkT_zero h
  refine tag_cases (t.at a) _ ?_ ?_ ?_ ?_ ?_ ?_ ?_ ?_ ?_ ?_ ?_ ?_ ?_
  · intro g _; rw [show (t.at a).nm = t.nm from rfl, h1] at g; cases g
  · intro _ g _; exact absurd g (by show ¬ t.un < 1; omega)
  · intro _ _ g _; exact absurd g (by show ¬ t.un > 247; omega)
  · intro _ _ _ g _; exact absurd g (by show ¬ t.ki < 1; omega)
  · intro _ _ _ _ g _; exact absurd g (by show ¬ t.ki > 4; omega)
  · intro _ _ _ _ _ g _; exact absurd g (by show ¬ a < 0; omega)
  · intro _ _ _ _ _ _ g e
    right
    rw [at_wid] at g
    exact ⟨fun g' => by have : a > 65536 - widT t := g; omega, e⟩
  · intro _ _ _ _ _ _ _ g _; exact absurd g (by show ¬ t.ev < 1; omega)
  · intro _ _ _ _ _ _ _ _ g _; exact absurd g (by show ¬ t.ev > 1048576; omega)
  · intro _ _ _ _ _ _ _ _ _ g _; rw [show (t.at a).sc = t.sc from rfl, h6] at g; cases g
  · intro _ _ _ _ _ _ _ _ _ _ g1 g2 _
    rcases h7 with h | h
    · exact absurd g1 h
    · rw [show bitS (t.at a) = bitS t from rfl, h] at g2; cases g2
  · intro _ _ _ _ _ _ _ _ _ _ _ g _; rw [show chkB (t.at a).de (t.at a).qu = chkB t.de t.qu from rfl, h8] at g; cases g
  · intro _ _ _ _ _ _ g _ _ _ _ _ e
    left
    rw [at_wid] at g
    refine ⟨?_, e.trans h9⟩
    have : ¬ a > 65536 - widT t := g
    omega
theorem at_last {t : Tg} (h : chkT t = 0) : chkT (t.at (65536 - widT t)) = 0 := by
  have hw := widT_le t
  rcases at_cases h (65536 - widT t) (by omega) with ⟨_, e⟩ | ⟨g, _⟩
  · exact e
  · omega
theorem at_past {t : Tg} (h : chkT t = 0) : chkT (t.at (65537 - widT t)) = 21 := by
  have hw := widT_le t
  rcases at_cases h (65537 - widT t) (by omega) with ⟨g, _⟩ | ⟨_, e⟩
  · omega
  · exact e
theorem name_parts {l : List Int} (h : nameB l = true) : 1 ≤ l.length ∧ l.length ≤ 16 ∧ letB (nth l 0) = true ∧ l.all chB = true := by
  simp only [nameB, Bool.and_eq_true, decide_eq_true_eq] at h
  exact ⟨h.1.1.1, h.1.1.2, h.1.2, h.2⟩
theorem name_less {l : List Int} (h : nameB l = true) : nameB (l.take (l.length - 1)) = decide (1 < l.length) := by
  obtain ⟨h1, h2, h3, h4⟩ := name_parts h
  by_cases hl : 1 < l.length
  · rw [decide_eq_true hl]
    have e1 : (l.take (l.length - 1)).length = l.length - 1 := by rw [List.length_take]; omega
    have e2 : nth (l.take (l.length - 1)) 0 = nth l 0 := by
      rw [nth_eq _ _ (by omega), nth_eq _ _ (by omega), List.getElem_take]
    have e3 : (l.take (l.length - 1)).all chB = true := by
      rw [List.all_eq_true] at h4 ⊢
      exact fun x hx => h4 x (List.mem_of_mem_take hx)
    simp only [nameB, e1, e2, h3, e3, Bool.and_true]
    rw [decide_eq_true (by omega), decide_eq_true (by omega)]; rfl
  · rw [decide_eq_false hl]
    have e1 : (l.take (l.length - 1)).length = 0 := by rw [List.length_take]; omega
    simp only [nameB, e1]
    rfl
theorem name_more {l : List Int} (h : nameB l = true) (c : Int) : nameB (l ++ [c]) = (decide (l.length < 16) && chB c) := by
  obtain ⟨h1, h2, h3, h4⟩ := name_parts h
  have e1 : (l ++ [c]).length = l.length + 1 := by simp
  have e2 : nth (l ++ [c]) 0 = nth l 0 := by
    rw [nth_eq _ _ (by omega), nth_eq _ _ (by omega), List.getElem_append_left]
  have e3 : (l ++ [c]).all chB = chB c := by simp only [List.all_append, h4, List.all_cons, List.all_nil, Bool.and_true, Bool.true_and]
  simp only [nameB, e1, e2, h3, e3, Bool.and_true]
  rw [decide_eq_true (show 1 ≤ l.length + 1 by omega), Bool.true_and]
  congr 1
theorem bys_front (s : ByteArray) (k : Nat) : bys (s.extract 0 k) = (bys s).take k := by
  unfold bys
  rw [ByteArray.data_extract, Array.toList_extract, List.extract_eq_take_drop, List.drop_zero, Nat.sub_zero, List.map_take]
theorem bys_app (a b : ByteArray) : bys (a ++ b) = bys a ++ bys b := by
  unfold bys
  rw [ByteArray.data_append, Array.toList_append, List.map_append]
theorem bys_one (c : UInt8) : bys ⟨#[c]⟩ = [(c.toNat : Int)] := rfl
theorem front_size (s : ByteArray) (k : Nat) (h : s.size ≤ maxLen) : (s.extract 0 k).size ≤ maxLen := by
  rw [← bys_len, bys_front, List.length_take, bys_len]; omega
theorem app_size (s : ByteArray) (c : UInt8) (h : s.size ≤ 16) : (s ++ (⟨#[c]⟩ : ByteArray)).size ≤ maxLen := by
  rw [← bys_len, bys_app, List.length_append, bys_len, bys_one]; simp [maxLen]; omega
end Go.Proofs.Ytmakegbkgiajdaa
