/-
  Tables of tags: what CheckAll says of one, names rise, each tag is found at its place, a part of a table is one.
-/
import Derived.Test.YtmakegbkgiajdaaTgAll
namespace Go.Proofs.Ytmakegbkgiajdaa
open Go.RowKit
set_option linter.unusedVariables false

theorem less_lt (x y : List UInt8) : Op.bytesLess x y = decide (x < y) := by
  induction x generalizing y with
  | nil => cases y <;> simp [Op.bytesLess]
  | cons a x ih =>
    cases y with
    | nil => simp [Op.bytesLess]
    | cons b y =>
      have e : decide (a :: x < b :: y) = (decide (a < b) || (decide (a = b) && decide (x < y))) := by
        rw [← Bool.decide_and, ← Bool.decide_or]
        exact decide_eq_decide.2 List.cons_lt_cons_iff
      rw [Op.bytesLess, ih, e]
      by_cases h1 : a < b
      · simp [h1]
      · by_cases h2 : a = b <;> simp [h1, h2]
/-- A tag's name is below another one's. -/
def ltT (a b : Tg) : Prop := a.nm.toList < b.nm.toList
theorem ltT_trans {a b c : Tg} (h : ltT a b) (h' : ltT b c) : ltT a c := List.lt_trans h h'
theorem ltT_ne {a b : Tg} (h : ltT a b) : a.nm.toList ≠ b.nm.toList := fun e => by
  unfold ltT at h
  rw [e] at h
  exact List.lt_irrefl _ h
def TabT (l : List Tg) : Prop := l.length ≤ 64 ∧ (∀ t ∈ l, chkT t = 0) ∧ l.Pairwise ltT
theorem badN_zero {p t : Tg} (h : badN p t = 0) : ltT p t := by
  unfold badN at h
  cases h1 : t.nm.toList == p.nm.toList
  · rw [h1, cond_false] at h
    cases h2 : Op.bytesLess t.nm.toList p.nm.toList
    · rw [less_lt, decide_eq_false_iff_not] at h2
      rw [beq_eq_false_iff_ne] at h1
      unfold ltT
      rcases Std.lt_trichotomy p.nm.toList t.nm.toList with h3 | h3 | h3
      · exact h3
      · exact absurd h3.symm h1
      · exact absurd h3 h2
    · rw [h2] at h; simp at h
  · rw [h1] at h; simp at h
theorem badN_of {p t : Tg} (h : ltT p t) : badN p t = 0 := by
  unfold badN
  have h1 : (t.nm.toList == p.nm.toList) = false := by rw [beq_eq_false_iff_ne]; exact fun e => ltT_ne h e.symm
  have h2 : Op.bytesLess t.nm.toList p.nm.toList = false := by
    rw [less_lt, decide_eq_false_iff_not]
    exact fun h' => List.lt_irrefl _ (List.lt_trans h h')
  rw [h1, h2]; rfl
theorem chkAll_cases (l : List Tg) : (64 < l.length ∧ chkAll l = (34, 0)) ∨ (l.length ≤ 64 ∧ ∃ i, i < l.length ∧ badAt l i ≠ 0 ∧ chkAll l = (badAt l i, (i : Int)) ∧ ∀ j, j < i → badAt l j = 0) ∨ (l.length ≤ 64 ∧ chkAll l = (0, 0) ∧ ∀ j, j < l.length → badAt l j = 0) := by
  by_cases h : 64 < l.length
  · exact .inl ⟨h, chkAll_many h⟩
  right
  by_cases hb : ∀ j, j < l.length → badAt l j = 0
  · exact .inr ⟨by omega, chkAll_none h hb, hb⟩
  · left
    refine ⟨by omega, ?_⟩
    have key : ∀ n, (∀ j, j < n → badAt l j = 0) ∨ ∃ i, i < n ∧ badAt l i ≠ 0 ∧ ∀ j, j < i → badAt l j = 0 := by
      intro n
      induction n with
      | zero => exact .inl (fun j hj => absurd hj (by omega))
      | succ n ih =>
        rcases ih with ih | ⟨i, h1, h2, h3⟩
        · by_cases hn : badAt l n = 0
          · left
            intro j hj
            rcases Nat.lt_or_ge j n with h | h
            · exact ih j h
            · obtain rfl : j = n := by omega
              exact hn
          · exact .inr ⟨n, by omega, hn, ih⟩
        · exact .inr ⟨i, by omega, h2, h3⟩
    rcases key l.length with h1 | ⟨i, h1, h2, h3⟩
    · exact absurd h1 hb
    · exact ⟨i, h1, h2, chkAll_at h h1 rfl h2 h3, h3⟩
theorem pair_of {l : List Tg} (h : ∀ i (hi : i + 1 < l.length), ltT l[i] l[i + 1]) : l.Pairwise ltT := by
  rw [List.pairwise_iff_getElem]
  have key : ∀ d i (hj : i + d + 1 < l.length), ltT (l[i]'(by omega)) l[i + d + 1] := by
    intro d
    induction d with
    | zero => intro i hj; exact h i hj
    | succ d ih => intro i hj; exact ltT_trans (ih i (by omega)) (h (i + d + 1) (by omega))
  intro i j hi hj hij
  obtain ⟨d, rfl⟩ : ∃ d, j = i + d + 1 := ⟨j - i - 1, by omega⟩
  exact key d i hj
theorem tab_of_zero {l : List Tg} (hb : ∀ j, j < l.length → badAt l j = 0) : (∀ t ∈ l, chkT t = 0) ∧ l.Pairwise ltT := by
  have hc : ∀ j (hj : j < l.length), chkT l[j] = 0 := fun j hj => by
    by_cases h : chkT l[j] = 0
    · exact h
    · have := badAt_chk hj h
      rw [hb j hj] at this
      exact absurd this.symm h
  refine ⟨fun t ht => ?_, pair_of fun i hi => ?_⟩
  · obtain ⟨j, hj, rfl⟩ := List.mem_iff_getElem.1 ht
    exact hc j hj
  · have := badAt_next hi (hc (i + 1) hi)
    rw [hb (i + 1) hi] at this
    exact badN_zero this.symm
theorem zero_of_tab {l : List Tg} (h1 : ∀ t ∈ l, chkT t = 0) (h2 : l.Pairwise ltT) : ∀ j, j < l.length → badAt l j = 0 := by
  intro j hj
  cases j with
  | zero => rw [badAt_first hj]; exact h1 _ (List.getElem_mem hj)
  | succ k =>
    rw [badAt_next hj (h1 _ (List.getElem_mem hj))]
    exact badN_of (List.pairwise_iff_getElem.1 h2 k (k + 1) (by omega) hj (by omega))
theorem tab_of {l : List Tg} {k : Int} (h : chkAll l = (0, k)) : k = 0 ∧ TabT l := by
  rcases chkAll_cases l with ⟨_, e⟩ | ⟨_, i, _, hne, e, _⟩ | ⟨hl, e, hb⟩
  · rw [e] at h; injection h with h; cases h
  · rw [e] at h; injection h with h; exact absurd h hne
  · rw [e] at h; injection h with h h'
    exact ⟨h'.symm, hl, tab_of_zero hb⟩
theorem of_tab {l : List Tg} (h : TabT l) : chkAll l = (0, 0) := chkAll_none (by have := h.1; omega) (zero_of_tab h.2.1 h.2.2)
theorem findT_lt (l : List Tg) (s : ByteArray) : -1 ≤ findT l s ∧ findT l s < l.length := by
  unfold findT
  split <;> omega
theorem tab_find {l : List Tg} (h : l.Pairwise ltT) {i : Nat} (hi : i < l.length) : findT l l[i].nm = i :=
  findT_at hi rfl (fun j hj => ltT_ne (List.pairwise_iff_getElem.1 h j i (by omega) hi hj))
theorem findT_nil (s : ByteArray) : findT [] s = -1 := rfl
/-- What a search that goes on through a table finds. -/
theorem find_hit {l : List Tg} (h : l.Pairwise ltT) {s : ByteArray} {k : Nat} (hk : k < l.length) (he : l[k].nm.toList = s.toList) : findT (l.take (k + 1)) s = k := by
  have hl : k < (l.take (k + 1)).length := by rw [List.length_take]; omega
  refine findT_at hl (by rw [List.getElem_take]; exact he) (fun j hj => ?_)
  rw [List.getElem_take, ← he]
  exact ltT_ne (List.pairwise_iff_getElem.1 h j k (by omega) hk hj)
theorem find_miss {l : List Tg} {s : ByteArray} {k : Nat} (hk : k < l.length) (he : l[k].nm.toList ≠ s.toList) : findT (l.take (k + 1)) s = findT (l.take k) s := by
  by_cases hex : ∃ i, ∃ hi : i < k, (l[i]'(by omega)).nm.toList = s.toList ∧ ∀ j (hj : j < i), (l[j]'(by omega)).nm.toList ≠ s.toList
  · obtain ⟨i, hi, h1, h2⟩ := hex
    have a1 : findT (l.take (k + 1)) s = i := findT_at (by rw [List.length_take]; omega) (by rw [List.getElem_take]; exact h1) (fun j hj => by rw [List.getElem_take]; exact h2 j hj)
    have a2 : findT (l.take k) s = i := findT_at (by rw [List.length_take]; omega) (by rw [List.getElem_take]; exact h1) (fun j hj => by rw [List.getElem_take]; exact h2 j hj)
    rw [a1, a2]
  · have none : ∀ j (hj : j < k), (l[j]'(by omega)).nm.toList ≠ s.toList := by
      intro j
      induction j using Nat.strongRecOn with
      | ind j ih =>
        intro hj e
        exact hex ⟨j, hj, e, fun j' hj' => ih j' hj' (by omega)⟩
    have a1 : findT (l.take (k + 1)) s = -1 := findT_none (fun j hj => by
      rw [List.getElem_take]
      rw [List.length_take] at hj
      rcases Nat.lt_or_ge j k with h | h
      · exact none j h
      · obtain rfl : j = k := by omega
        exact he)
    have a2 : findT (l.take k) s = -1 := findT_none (fun j hj => by
      rw [List.getElem_take]
      rw [List.length_take] at hj
      exact none j (by omega))
    rw [a1, a2]
/-- A part of a table is one. -/
theorem tab_part {l m : List Tg} (h : TabT l) (hs : m.Sublist l) : TabT m :=
  ⟨Nat.le_trans hs.length_le h.1, fun t ht => h.2.1 t (hs.subset ht), h.2.2.sublist hs⟩
/-- The first wrong tag of a list: the tags ahead are a table, and with it the list is wrong in the same way. -/
theorem badAt_take {l : List Tg} {n j : Nat} (hj : j < n) : badAt (l.take n) j = badAt l j := by
  have e1 : (l.take n)[j]? = l[j]? := List.getElem?_take_of_lt hj
  have e2 : ahead (l.take n) j = ahead l j := by
    cases j with
    | zero => rfl
    | succ j => exact List.getElem?_take_of_lt (by omega)
  unfold badAt
  rw [e1, e2]
theorem first_wrong {l : List Tg} {e : Int} {k : Int} (hl : l.length ≤ 64) (h : chkAll l = (e, k)) (he : e ≠ 0) : ∃ i : Nat, k = i ∧ i < l.length ∧ chkAll (l.take i) = (0, 0) ∧ chkAll (l.take (i + 1)) = (e, (i : Int)) := by
  rcases chkAll_cases l with ⟨h64, _⟩ | ⟨_, i, hi, hne, e', hb⟩ | ⟨_, e', _⟩
  · omega
  · rw [e'] at h
    injection h with h1 h2
    refine ⟨i, h2.symm, hi, ?_, ?_⟩
    · refine chkAll_none (by rw [List.length_take]; omega) (fun j hj => ?_)
      rw [List.length_take] at hj
      rw [badAt_take (by omega)]
      exact hb j (by omega)
    · refine chkAll_at (by rw [List.length_take]; omega) (by rw [List.length_take]; omega) ?_ he (fun j hj => ?_)
      · rw [badAt_take (by omega)]; exact h1
      · rw [badAt_take (by omega)]; exact hb j hj
  · rw [e'] at h
    injection h with h1 h2
    exact absurd h1.symm he
end Go.Proofs.Ytmakegbkgiajdaa
