/-
  Texts of the proof of PlanReads, joined.
-/
import Derived.Test.YtcmbdhmhkfhjfaaJPlanReadsA
import Derived.WalkLawsBesides
import Derived.Test.YtcmbdhmhkfhjfaaRows
import Derived.Laws.AppendOwn
import Derived.WalkKit
import Derived.WalkSpells
import Derived.Outline
import Derived.Lib.Hide
import Derived.Deep.QuietTactic
import Derived.BigQuiet
import Derived.Deep.Draws
import Derived.Deep.AppendLies
import Derived.Test.YtcmbdhmhkfhjfaaProg
import Derived.Laws.CopyOwn
import Derived.StillTailTactics
import Derived.IntWalk
import Derived.Deep.RegionHeld3
import Derived.Deep.RegionLaw
import Derived.Deep.RegionWith
namespace Go.Proofs.Ytcmbdhmhkfhjfaa
open Go.RowKit
set_option linter.unusedVariables false
set_option maxRecDepth 100000
attribute [local go_sem ↓] ldTag_fold

/-- The place of the first tag of that name; -1 if there is none. -/
def findT (l : List Tg) (s : ByteArray) : Int := if l.findIdx (fun t => t.nm.toList == s.toList) < l.length then (l.findIdx (fun t => t.nm.toList == s.toList) : Nat) else -1
theorem findT_at {l : List Tg} {s : ByteArray} {k : Nat} (hk : k < l.length) (h : l[k].nm.toList = s.toList) (hb : ∀ j (hj : j < k), (l[j]'(by omega)).nm.toList ≠ s.toList) : findT l s = k := by
  have : l.findIdx (fun t => t.nm.toList == s.toList) = k := (List.findIdx_eq hk).2 ⟨by simpa using h, fun j hj => by simpa using hb j hj⟩
  unfold findT; rw [this, if_pos hk]
theorem findT_none {l : List Tg} {s : ByteArray} (h : ∀ j (hj : j < l.length), l[j].nm.toList ≠ s.toList) : findT l s = -1 := by
  have : l.findIdx (fun t => t.nm.toList == s.toList) = l.length := List.findIdx_eq_length.2 (fun t ht => by
    obtain ⟨j, hj, rfl⟩ := List.mem_iff_getElem.1 ht
    simpa using h j hj)
  unfold findT; rw [this, if_neg (by omega)]
/-- The name of a tag in memory. -/
theorem VRow.name {w : World} {B : Nat} {A : Option Addr} {l : List Tg} (h : VRow w B A (flatV tgC l)) {i : Nat} (hi : i < l.length) :
    ∃ b o, A = some ⟨b, o, none⟩ ∧ b < B ∧ w.cell? ⟨b, o + i * 19, none⟩ = some (.string l[i].nm) := by
  obtain ⟨b, o, e, hb, hc⟩ := h.elem tgC_len (by omega) hi
  exact ⟨b, o, e, hb, hc 0 _ rfl⟩
end Go.Proofs.Ytcmbdhmhkfhjfaa
namespace Go.Proofs.Ytcmbdhmhkfhjfaa
open Go.RowKit
set_option linter.unusedVariables false
/-- A tag of a list in memory is loaded whole. -/
theorem VRow.load {w : World} {B : Nat} {A : Option Addr} {l : List Tg} (h : VRow w B A (flatV tgC l)) {i : Nat} (hi : i < l.length) :
    ∃ b o, A = some ⟨b, o, none⟩ ∧ b < B ∧ (ldTag (.pointer (some ⟨b, o + i * 19, none⟩))).run Try.prog w = .ok (tgV l[i]) w ∧ w.cell? ⟨b, o + i * 19, none⟩ = some (.string l[i].nm) := by
  obtain ⟨b, o, e, hb, hc⟩ := h.elem tgC_len (by omega) hi
  exact ⟨b, o, e, hb, ldTag_run rfl hc, hc 0 _ rfl⟩
end Go.Proofs.Ytcmbdhmhkfhjfaa
namespace Go.Proofs.Ytcmbdhmhkfhjfaa
open Go.RowKit
set_option linter.unusedVariables false

theorem less_lt (x y : List UInt8) : Op.bytesLess x y = decide (x < y) := by
  induction x generalizing y with
  | nil => cases y <;> simp [Op.bytesLess]
  | cons a x ih =>
    cases y with
    | nil => simp [Op.bytesLess]
    | cons b y =>
      have e : decide (a :: x < b :: y) = (decide (a < b) || (decide (a = b) && decide (x < y))) := by
        rw [← Bool.decide_and, ← Bool.decide_or]
        exact decide_eq_decide.2 List.cons_lt_cons_iff
      rw [Op.bytesLess, ih, e]
      by_cases h1 : a < b
      · simp [h1]
      · by_cases h2 : a = b <;> simp [h1, h2]
/-- A tag's name is below another one's. -/
def ltT (a b : Tg) : Prop := a.nm.toList < b.nm.toList
theorem ltT_trans {a b c : Tg} (h : ltT a b) (h' : ltT b c) : ltT a c := List.lt_trans h h'
theorem ltT_ne {a b : Tg} (h : ltT a b) : a.nm.toList ≠ b.nm.toList := fun e => by
  unfold ltT at h
  rw [e] at h
  exact List.lt_irrefl _ h
def TabT (l : List Tg) : Prop := l.length ≤ 64 ∧ (∀ t ∈ l, chkT t = 0) ∧ l.Pairwise ltT
theorem badN_zero {p t : Tg} (h : badN p t = 0) : ltT p t := by
  unfold badN at h
  cases h1 : t.nm.toList == p.nm.toList
  · rw [h1, cond_false] at h
    cases h2 : Op.bytesLess t.nm.toList p.nm.toList
    · rw [less_lt, decide_eq_false_iff_not] at h2
      rw [beq_eq_false_iff_ne] at h1
      unfold ltT
      rcases Std.lt_trichotomy p.nm.toList t.nm.toList with h3 | h3 | h3
      · exact h3
      · exact absurd h3.symm h1
      · exact absurd h3 h2
    · rw [h2] at h; simp at h
  · rw [h1] at h; simp at h
theorem badN_of {p t : Tg} (h : ltT p t) : badN p t = 0 := by
  unfold badN
  have h1 : (t.nm.toList == p.nm.toList) = false := by rw [beq_eq_false_iff_ne]; exact fun e => ltT_ne h e.symm
  have h2 : Op.bytesLess t.nm.toList p.nm.toList = false := by
    rw [less_lt, decide_eq_false_iff_not]
    exact fun h' => List.lt_irrefl _ (List.lt_trans h h')
  rw [h1, h2]; rfl
theorem chkAll_cases (l : List Tg) : (64 < l.length ∧ chkAll l = (34, 0)) ∨ (l.length ≤ 64 ∧ ∃ i, i < l.length ∧ badAt l i ≠ 0 ∧ chkAll l = (badAt l i, (i : Int)) ∧ ∀ j, j < i → badAt l j = 0) ∨ (l.length ≤ 64 ∧ chkAll l = (0, 0) ∧ ∀ j, j < l.length → badAt l j = 0) := by
  by_cases h : 64 < l.length
  · exact .inl ⟨h, chkAll_many h⟩
  right
  by_cases hb : ∀ j, j < l.length → badAt l j = 0
  · exact .inr ⟨by omega, chkAll_none h hb, hb⟩
  · left
    refine ⟨by omega, ?_⟩
    have key : ∀ n, (∀ j, j < n → badAt l j = 0) ∨ ∃ i, i < n ∧ badAt l i ≠ 0 ∧ ∀ j, j < i → badAt l j = 0 := by
      intro n
      induction n with
      | zero => exact .inl (fun j hj => absurd hj (by omega))
      | succ n ih =>
        rcases ih with ih | ⟨i, h1, h2, h3⟩
        · by_cases hn : badAt l n = 0
          · left
            intro j hj
            rcases Nat.lt_or_ge j n with h | h
            · exact ih j h
            · obtain rfl : j = n := by omega
              exact hn
          · exact .inr ⟨n, by omega, hn, ih⟩
        · exact .inr ⟨i, by omega, h2, h3⟩
    rcases key l.length with h1 | ⟨i, h1, h2, h3⟩
    · exact absurd h1 hb
    · exact ⟨i, h1, h2, chkAll_at h h1 rfl h2 h3, h3⟩
theorem pair_of {l : List Tg} (h : ∀ i (hi : i + 1 < l.length), ltT l[i] l[i + 1]) : l.Pairwise ltT := by
  rw [List.pairwise_iff_getElem]
  have key : ∀ d i (hj : i + d + 1 < l.length), ltT (l[i]'(by omega)) l[i + d + 1] := by
    intro d
    induction d with
    | zero => intro i hj; exact h i hj
    | succ d ih => intro i hj; exact ltT_trans (ih i (by omega)) (h (i + d + 1) (by omega))
  intro i j hi hj hij
  obtain ⟨d, rfl⟩ : ∃ d, j = i + d + 1 := ⟨j - i - 1, by omega⟩
  exact key d i hj
theorem tab_of_zero {l : List Tg} (hb : ∀ j, j < l.length → badAt l j = 0) : (∀ t ∈ l, chkT t = 0) ∧ l.Pairwise ltT := by
  have hc : ∀ j (hj : j < l.length), chkT l[j] = 0 := fun j hj => by
    by_cases h : chkT l[j] = 0
    · exact h
    · have := badAt_chk hj h
      rw [hb j hj] at this
      exact absurd this.symm h
  refine ⟨fun t ht => ?_, pair_of fun i hi => ?_⟩
  · obtain ⟨j, hj, rfl⟩ := List.mem_iff_getElem.1 ht
    exact hc j hj
  · have := badAt_next hi (hc (i + 1) hi)
    rw [hb (i + 1) hi] at this
    exact badN_zero this.symm
theorem zero_of_tab {l : List Tg} (h1 : ∀ t ∈ l, chkT t = 0) (h2 : l.Pairwise ltT) : ∀ j, j < l.length → badAt l j = 0 := by
  intro j hj
  cases j with
  | zero => rw [badAt_first hj]; exact h1 _ (List.getElem_mem hj)
  | succ k =>
    rw [badAt_next hj (h1 _ (List.getElem_mem hj))]
    exact badN_of (List.pairwise_iff_getElem.1 h2 k (k + 1) (by omega) hj (by omega))
theorem tab_of {l : List Tg} {k : Int} (h : chkAll l = (0, k)) : k = 0 ∧ TabT l := by
  rcases chkAll_cases l with ⟨_, e⟩ | ⟨_, i, _, hne, e, _⟩ | ⟨hl, e, hb⟩
  · rw [e] at h; injection h with h; cases h
  · rw [e] at h; injection h with h; exact absurd h hne
  · rw [e] at h; injection h with h h'
    exact ⟨h'.symm, hl, tab_of_zero hb⟩
theorem of_tab {l : List Tg} (h : TabT l) : chkAll l = (0, 0) := chkAll_none (by have := h.1; omega) (zero_of_tab h.2.1 h.2.2)
theorem findT_lt (l : List Tg) (s : ByteArray) : -1 ≤ findT l s ∧ findT l s < l.length := by
  unfold findT
  split <;> omega
theorem tab_find {l : List Tg} (h : l.Pairwise ltT) {i : Nat} (hi : i < l.length) : findT l l[i].nm = i :=
  findT_at hi rfl (fun j hj => ltT_ne (List.pairwise_iff_getElem.1 h j i (by omega) hi hj))
theorem findT_nil (s : ByteArray) : findT [] s = -1 := rfl
/-- What a search that goes on through a table finds. -/
theorem find_hit {l : List Tg} (h : l.Pairwise ltT) {s : ByteArray} {k : Nat} (hk : k < l.length) (he : l[k].nm.toList = s.toList) : findT (l.take (k + 1)) s = k := by
  have hl : k < (l.take (k + 1)).length := by rw [List.length_take]; omega
  refine findT_at hl (by rw [List.getElem_take]; exact he) (fun j hj => ?_)
  rw [List.getElem_take, ← he]
  exact ltT_ne (List.pairwise_iff_getElem.1 h j k (by omega) hk hj)
theorem find_miss {l : List Tg} {s : ByteArray} {k : Nat} (hk : k < l.length) (he : l[k].nm.toList ≠ s.toList) : findT (l.take (k + 1)) s = findT (l.take k) s := by
  by_cases hex : ∃ i, ∃ hi : i < k, (l[i]'(by omega)).nm.toList = s.toList ∧ ∀ j (hj : j < i), (l[j]'(by omega)).nm.toList ≠ s.toList
  · obtain ⟨i, hi, h1, h2⟩ := hex
    have a1 : findT (l.take (k + 1)) s = i := findT_at (by rw [List.length_take]; omega) (by rw [List.getElem_take]; exact h1) (fun j hj => by rw [List.getElem_take]; exact h2 j hj)
    have a2 : findT (l.take k) s = i := findT_at (by rw [List.length_take]; omega) (by rw [List.getElem_take]; exact h1) (fun j hj => by rw [List.getElem_take]; exact h2 j hj)
    rw [a1, a2]
  · have none : ∀ j (hj : j < k), (l[j]'(by omega)).nm.toList ≠ s.toList := by
      intro j
      induction j using Nat.strongRecOn with
      | ind j ih =>
        intro hj e
        exact hex ⟨j, hj, e, fun j' hj' => ih j' hj' (by omega)⟩
    have a1 : findT (l.take (k + 1)) s = -1 := findT_none (fun j hj => by
      rw [List.getElem_take]
      rw [List.length_take] at hj
      rcases Nat.lt_or_ge j k with h | h
      · exact none j h
      · obtain rfl : j = k := by omega
        exact he)
    have a2 : findT (l.take k) s = -1 := findT_none (fun j hj => by
      rw [List.getElem_take]
      rw [List.length_take] at hj
      exact none j (by omega))
    rw [a1, a2]
/-- A part of a table is one. -/
theorem tab_part {l m : List Tg} (h : TabT l) (hs : m.Sublist l) : TabT m :=
  ⟨Nat.le_trans hs.length_le h.1, fun t ht => h.2.1 t (hs.subset ht), h.2.2.sublist hs⟩
/-- The first wrong tag of a list: the tags ahead are a table, and with it the list is wrong in the same way. -/
theorem badAt_take {l : List Tg} {n j : Nat} (hj : j < n) : badAt (l.take n) j = badAt l j := by
  have e1 : (l.take n)[j]? = l[j]? := List.getElem?_take_of_lt hj
  have e2 : ahead (l.take n) j = ahead l j := by
    cases j with
    | zero => rfl
    | succ j => exact List.getElem?_take_of_lt (by omega)
  unfold badAt
  rw [e1, e2]
theorem first_wrong {l : List Tg} {e : Int} {k : Int} (hl : l.length ≤ 64) (h : chkAll l = (e, k)) (he : e ≠ 0) : ∃ i : Nat, k = i ∧ i < l.length ∧ chkAll (l.take i) = (0, 0) ∧ chkAll (l.take (i + 1)) = (e, (i : Int)) := by
  rcases chkAll_cases l with ⟨h64, _⟩ | ⟨_, i, hi, hne, e', hb⟩ | ⟨_, e', _⟩
  · omega
  · rw [e'] at h
    injection h with h1 h2
    refine ⟨i, h2.symm, hi, ?_, ?_⟩
    · refine chkAll_none (by rw [List.length_take]; omega) (fun j hj => ?_)
      rw [List.length_take] at hj
      rw [badAt_take (by omega)]
      exact hb j (by omega)
    · refine chkAll_at (by rw [List.length_take]; omega) (by rw [List.length_take]; omega) ?_ he (fun j hj => ?_)
      · rw [badAt_take (by omega)]; exact h1
      · rw [badAt_take (by omega)]; exact hb j hj
  · rw [e'] at h
    injection h with h1 h2
    exact absurd h1.symm he
end Go.Proofs.Ytcmbdhmhkfhjfaa
namespace Go.Proofs.Ytcmbdhmhkfhjfaa
open Go.RowKit
set_option linter.unusedVariables false

theorem chkT_zero {t : Tg} (h : chkT t = 0) : nameB (bys t.nm) = true ∧ (1 ≤ t.un ∧ t.un ≤ 247) ∧ (1 ≤ t.ki ∧ t.ki ≤ 4) ∧ (0 ≤ t.ad ∧ t.ad ≤ 65536 - widT t) ∧ (1 ≤ t.ev ∧ t.ev ≤ 1048576) ∧ chkS t.sc = 0 ∧ (¬ t.ki ≤ 2 ∨ bitS t = true) ∧ chkB t.de t.qu = 0 ∧ chkL t.li = 0 := by
  refine tag_cases t _ ?_ ?_ ?_ ?_ ?_ ?_ ?_ ?_ ?_ ?_ ?_ ?_ ?_
  · intro _ e; rw [h] at e; cases e
  · intro _ _ e; rw [h] at e; cases e
  · intro _ _ _ e; rw [h] at e; cases e
  · intro _ _ _ _ e; rw [h] at e; cases e
  · intro _ _ _ _ _ e; rw [h] at e; cases e
  · intro _ _ _ _ _ _ e; rw [h] at e; cases e
  · intro _ _ _ _ _ _ _ e; rw [h] at e; cases e
  · intro _ _ _ _ _ _ _ _ e; rw [h] at e; cases e
  · intro _ _ _ _ _ _ _ _ _ e; rw [h] at e; cases e
  · intro _ _ _ _ _ _ _ _ _ _ e; rw [h] at e; cases e
  · intro _ _ _ _ _ _ _ _ _ _ _ _ e; rw [h] at e; cases e
  · intro _ _ _ _ _ _ _ _ _ _ _ _ e; rw [h] at e; cases e
  · intro h1 h2 h3 h4 h5 h6 h7 h8 h9 h10 h11 h12 e
    rw [h] at e
    exact ⟨h1, by omega, by omega, by omega, by omega, h10, h11, h12, e.symm⟩
/-- The same tag at another address. -/
def Tg.at (t : Tg) (a : Int) : Tg := ⟨t.nm, t.un, t.ki, a, t.ev, t.we, t.sg, t.sw, t.mu, t.di, t.aa, t.de, t.qu, t.ul, t.uh, t.la, t.lo, t.hi, t.hy⟩
theorem at_wid (t : Tg) (a : Int) : widT (t.at a) = widT t := rfl
theorem at_cases {t : Tg} (h : chkT t = 0) (a : Int) (ha : 0 ≤ a) : (a ≤ 65536 - widT t ∧ chkT (t.at a) = 0) ∨ (¬ a ≤ 65536 - widT t ∧ chkT (t.at a) = 21) := by
  obtain ⟨h1, h2, h3, h4, h5, h6, h7, h8, h9⟩ := chkT_zero h
  refine tag_cases (t.at a) _ ?_ ?_ ?_ ?_ ?_ ?_ ?_ ?_ ?_ ?_ ?_ ?_ ?_
  · intro g _; rw [show (t.at a).nm = t.nm from rfl, h1] at g; cases g
  · intro _ g _; exact absurd g (by show ¬ t.un < 1; omega)
  · intro _ _ g _; exact absurd g (by show ¬ t.un > 247; omega)
  · intro _ _ _ g _; exact absurd g (by show ¬ t.ki < 1; omega)
  · intro _ _ _ _ g _; exact absurd g (by show ¬ t.ki > 4; omega)
  · intro _ _ _ _ _ g _; exact absurd g (by show ¬ a < 0; omega)
  · intro _ _ _ _ _ _ g e
    right
    rw [at_wid] at g
    exact ⟨fun g' => by have : a > 65536 - widT t := g; omega, e⟩
  · intro _ _ _ _ _ _ _ g _; exact absurd g (by show ¬ t.ev < 1; omega)
  · intro _ _ _ _ _ _ _ _ g _; exact absurd g (by show ¬ t.ev > 1048576; omega)
  · intro _ _ _ _ _ _ _ _ _ g _; rw [show (t.at a).sc = t.sc from rfl, h6] at g; cases g
  · intro _ _ _ _ _ _ _ _ _ _ g1 g2 _
    rcases h7 with h | h
    · exact absurd g1 h
    · rw [show bitS (t.at a) = bitS t from rfl, h] at g2; cases g2
  · intro _ _ _ _ _ _ _ _ _ _ _ g _; rw [show chkB (t.at a).de (t.at a).qu = chkB t.de t.qu from rfl, h8] at g; cases g
  · intro _ _ _ _ _ _ g _ _ _ _ _ e
    left
    rw [at_wid] at g
    refine ⟨?_, e.trans h9⟩
    have : ¬ a > 65536 - widT t := g
    omega
theorem at_last {t : Tg} (h : chkT t = 0) : chkT (t.at (65536 - widT t)) = 0 := by
  have hw := widT_le t
  rcases at_cases h (65536 - widT t) (by omega) with ⟨_, e⟩ | ⟨g, _⟩
  · exact e
  · omega
theorem at_past {t : Tg} (h : chkT t = 0) : chkT (t.at (65537 - widT t)) = 21 := by
  have hw := widT_le t
  rcases at_cases h (65537 - widT t) (by omega) with ⟨g, _⟩ | ⟨_, e⟩
  · omega
  · exact e
theorem name_parts {l : List Int} (h : nameB l = true) : 1 ≤ l.length ∧ l.length ≤ 16 ∧ letB (nth l 0) = true ∧ l.all chB = true := by
  simp only [nameB, Bool.and_eq_true, decide_eq_true_eq] at h
  exact ⟨h.1.1.1, h.1.1.2, h.1.2, h.2⟩
theorem name_less {l : List Int} (h : nameB l = true) : nameB (l.take (l.length - 1)) = decide (1 < l.length) := by
  obtain ⟨h1, h2, h3, h4⟩ := name_parts h
  by_cases hl : 1 < l.length
  · rw [decide_eq_true hl]
    have e1 : (l.take (l.length - 1)).length = l.length - 1 := by rw [List.length_take]; omega
    have e2 : nth (l.take (l.length - 1)) 0 = nth l 0 := by
      rw [nth_eq _ _ (by omega), nth_eq _ _ (by omega), List.getElem_take]
    have e3 : (l.take (l.length - 1)).all chB = true := by
      rw [List.all_eq_true] at h4 ⊢
      exact fun x hx => h4 x (List.mem_of_mem_take hx)
    simp only [nameB, e1, e2, h3, e3, Bool.and_true]
    rw [decide_eq_true (by omega), decide_eq_true (by omega)]; rfl
  · rw [decide_eq_false hl]
    have e1 : (l.take (l.length - 1)).length = 0 := by rw [List.length_take]; omega
    simp only [nameB, e1]
    rfl
theorem name_more {l : List Int} (h : nameB l = true) (c : Int) : nameB (l ++ [c]) = (decide (l.length < 16) && chB c) := by
  obtain ⟨h1, h2, h3, h4⟩ := name_parts h
  have e1 : (l ++ [c]).length = l.length + 1 := by simp
  have e2 : nth (l ++ [c]) 0 = nth l 0 := by
    rw [nth_eq _ _ (by omega), nth_eq _ _ (by omega), List.getElem_append_left]
  have e3 : (l ++ [c]).all chB = chB c := by simp only [List.all_append, h4, List.all_cons, List.all_nil, Bool.and_true, Bool.true_and]
  simp only [nameB, e1, e2, h3, e3, Bool.and_true]
  rw [decide_eq_true (show 1 ≤ l.length + 1 by omega), Bool.true_and]
  congr 1
theorem bys_front (s : ByteArray) (k : Nat) : bys (s.extract 0 k) = (bys s).take k := by
  unfold bys
  rw [ByteArray.data_extract, Array.toList_extract, List.extract_eq_take_drop, List.drop_zero, Nat.sub_zero, List.map_take]
theorem bys_app (a b : ByteArray) : bys (a ++ b) = bys a ++ bys b := by
  unfold bys
  rw [ByteArray.data_append, Array.toList_append, List.map_append]
theorem bys_one (c : UInt8) : bys ⟨#[c]⟩ = [(c.toNat : Int)] := rfl
theorem front_size (s : ByteArray) (k : Nat) (h : s.size ≤ maxLen) : (s.extract 0 k).size ≤ maxLen := by
  rw [← bys_len, bys_front, List.length_take, bys_len]; omega
theorem app_size (s : ByteArray) (c : UInt8) (h : s.size ≤ 16) : (s ++ (⟨#[c]⟩ : ByteArray)).size ≤ maxLen := by
  rw [← bys_len, bys_app, List.length_append, bys_len, bys_one]; simp [maxLen]; omega
end Go.Proofs.Ytcmbdhmhkfhjfaa
namespace Go.Proofs.Ytcmbdhmhkfhjfaa
open Go.RowKit
set_option linter.unusedVariables false

/-- The three cells of the k-th part. -/
theorem Row.three {w : World} {B : Nat} {A : Option Addr} {fl : List Int} (h : Row .i64 w B A fl) {k : Nat} (hk : 3 * k + 3 ≤ fl.length) :
    ∃ b o, A = some ⟨b, o, none⟩ ∧ b < B ∧ w.cell? ⟨b, o + k * 3, none⟩ = some (.int .i64 (nth fl (3 * k))) ∧ w.cell? ⟨b, o + k * 3 + 1, none⟩ = some (.int .i64 (nth fl (3 * k + 1))) ∧ w.cell? ⟨b, o + k * 3 + 2, none⟩ = some (.int .i64 (nth fl (3 * k + 2))) := by
  obtain ⟨b, o, e, hb, hc⟩ := h.2 (by omega)
  refine ⟨b, o, e, hb, ?_, ?_, ?_⟩
  · rw [Nat.mul_comm k 3]; exact hc _ (by omega)
  · rw [Nat.mul_comm k 3, Nat.add_assoc]; exact hc _ (by omega)
  · rw [Nat.mul_comm k 3, Nat.add_assoc]; exact hc _ (by omega)

/-- SameParts, where the lists are the same. -/
theorem same_yes_part (A A' : Option Addr) (n c c' : Nat) (fl : List Int) (w : World) (B B' : Nat) (hr : Row .i64 w B A fl) (hr' : Row .i64 w B' A' fl) (hn : fl.length = 3 * n) (hb : n ≤ 1000000) :
    Calls Try.prog 21 #[.slice A n c, .slice A' n c'] w fun e w' => e = .returned (.bool true) ∧ ∃ m, w' = w.drewN m := by
  have hn' := Lib.hid hn
  clear hn
  go_enter Try.func21, Try.ntmps21
  go_wp2
  go_loopw [5] (fun i wr => ∃ k nq : Nat, k ≤ n ∧ i = .int .i64 k ∧ wr = w.drewN nq) (fun i _ => n - (intOf i).toNat)
  case atStart => exact ⟨0, 0, by omega, rfl, rfl⟩
  case round =>
    obtain ⟨k, nq, hk, rfl, rfl⟩ := hrel
    by_cases hlt : k < n
    · obtain ⟨b, o, rfl, hb1, hc1, hc2, hc3⟩ := hr.three (k := k) (by have := hn'.out; omega)
      obtain ⟨b', o', rfl, hb1', hc1', hc2', hc3'⟩ := hr'.three (k := k) (by have := hn'.out; omega)
      have hlt' : (k : Int) < (n : Int) := by omega
      go_wp2
      go_quiet (fail)
      go_wp2
      go_roundw
      case rel => exact ⟨k + 1, _, by omega, by go_num, rfl⟩
      case measure => simp [intOf]; omega
    · go_wp2
      go_ret
      exact ⟨rfl, nq, rfl⟩

theorem info_part : (Try.prog.info? 83).map (fun i => (i.zero, i.size, i.bytes)) = some (some (.agg #[.int .i64 0, .int .i64 0, .int .i64 0]), 3, 24) := by kernel_rfl

theorem made_three (n : Nat) : madeCells (Value.agg #[.int .i64 0, .int .i64 0, .int .i64 0]).cells (n * 3) = blk .i64 (List.replicate (3 * n) 0) := by
  have hc : (Value.agg #[.int .i64 0, .int .i64 0, .int .i64 0]).cells = #[.int .i64 0, .int .i64 0, .int .i64 0] := rfl
  apply Array.ext
  · rw [size_madeCells, blk_size, List.length_replicate, Nat.mul_comm]
  · intro i h1 h2
    rw [blk_size, List.length_replicate] at h2
    have e1 : (blk .i64 (List.replicate (3 * n) 0))[i] = .int .i64 0 := by simp [blk]
    rw [e1]
    simp only [madeCells, Array.getElem_map, Array.getElem_range, hc]
    have h3 : i % (#[Value.int .i64 0, .int .i64 0, .int .i64 0] : Array Value).size = i % 3 := rfl
    rw [h3]
    rcases (show i % 3 = 0 ∨ i % 3 = 1 ∨ i % 3 = 2 by omega) with h | h | h <;> rw [h] <;> rfl

theorem make_part (n : Nat) (hn : n ≤ 1000000) (W : World) :
    (Instr.makeSlice 27 (.int .i64 (n : Int)) (.int .i64 (n : Int))).run Try.prog W = .ok (.slice (some ⟨W.heap.size, 0, none⟩) n n) (W.alloc (.cells (blk .i64 (List.replicate (3 * n) 0)) 83)) := by
  obtain ⟨i, hi, hz, hs, hb⟩ := info_parts info_part
  have h := run_make (P := Try.prog) W 27 83 i (.agg #[.int .i64 0, .int .i64 0, .int .i64 0]) Try.underlying27 hi hz .i64 .i64 n n (by omega) (by omega) (by rw [hb]; omega) (by omega)
  rw [h, hs, Int.toNat_natCast, made_three]

def marksP : List Int := [-77, 0, 0, -77, 0, 0, -77, 0, 0, -77, 0, 0, -77, 0, 0]

theorem take_three (xs : List Int) (k : Nat) (h : 3 * k + 3 ≤ xs.length) : xs.take (3 * (k + 1)) = xs.take (3 * k) ++ [nth xs (3 * k), nth xs (3 * k + 1), nth xs (3 * k + 2)] := by
  rw [show 3 * (k + 1) = 3 * k + 1 + 1 + 1 by omega, take_step _ _ (by omega), take_step _ _ (by omega), take_step _ _ (by omega)]
  simp
/-- Three places of what is filled up to 3 k are written. -/
theorem set_three (l : List Int) (m k : Nat) (x y z : Int) (h : l.length = 3 * k) (hm : 3 ≤ m) : (((l ++ List.replicate m 0).set (k * 3) x).set (k * 3 + 1) y).set (k * 3 + 2) z = l ++ [x, y, z] ++ List.replicate (m - 3) 0 := by
  obtain ⟨j, rfl⟩ : ∃ j, m = j + 3 := ⟨m - 3, by omega⟩
  rw [List.set_append_right _ _ (by omega), List.set_append_right _ _ (by omega), List.set_append_right _ _ (by omega), h, show k * 3 - 3 * k = 0 by omega, show k * 3 + 1 - 3 * k = 1 by omega, show k * 3 + 2 - 3 * k = 2 by omega]
  simp [List.replicate_succ]

end Go.Proofs.Ytcmbdhmhkfhjfaa
namespace Go.Proofs.Ytcmbdhmhkfhjfaa
open Go.RowKit
set_option linter.unusedVariables false

/-- The slice v is nil and fl empty, or v begins a block of the call's own, whose cells are the integers fl, three an element, and others behind them. -/
def POwn (e : TypeId) (w : World) (base : Nat) (v : Value) (fl : List Int) : Prop :=
  (v = .slice none 0 0 ∧ fl = []) ∨
  ∃ (g n cap : Nat) (r : List Int), v = .slice (some ⟨g, 0, none⟩) n cap ∧ base ≤ g ∧ fl.length = 3 * n ∧ w.heap[g]? = some (.cells (blk .i64 (fl ++ r)) e (0, 0)) ∧ n ≤ cap ∧ cap ≤ maxLen ∧ fl.length + r.length = 3 * cap

theorem POwn.nil (e : TypeId) (w : World) (base : Nat) : POwn e w base (.slice none 0 0) [] := .inl ⟨rfl, rfl⟩
theorem POwn.below {e : TypeId} {w w' : World} {base B : Nat} {v : Value} {fl : List Int} (h : POwn e w base v fl) (hb : Below B w w') (hB : w.heap.size ≤ B) : POwn e w' base v fl := by
  rcases h with h | ⟨g, n, cap, r, h1, h2, h3, h4, h5⟩
  · exact .inl h
  · exact .inr ⟨g, n, cap, r, h1, h2, h3, (hb.block g (by have := block_lt h4; omega)).trans h4, h5⟩
theorem POwn.alloc {e : TypeId} {w : World} {base : Nat} {v : Value} {fl : List Int} (h : POwn e w base v fl) (o : Obj) : POwn e (w.alloc o) base v fl :=
  h.below ((Below.refl w.heap.size w).alloc (Nat.le_refl _) o) (Nat.le_refl _)
theorem POwn.drewN {e : TypeId} {w : World} {base : Nat} {v : Value} {fl : List Int} (h : POwn e w base v fl) (n : Nat) : POwn e (w.drewN n) base v fl := h
theorem POwn.mono {e : TypeId} {w : World} {base base' : Nat} {v : Value} {fl : List Int} (h : POwn e w base v fl) (hb : base' ≤ base) : POwn e w base' v fl := by
  rcases h with h | ⟨g, n, cap, r, h1, h2, h3⟩
  · exact .inl h
  · exact .inr ⟨g, n, cap, r, h1, by omega, h3⟩
theorem POwn.block {e : TypeId} {w : World} {base : Nat} {v : Value} {fl : List Int} (h : POwn e w base v fl) : ∀ g, v.ownBlock = some g → base ≤ g ∧ g < w.heap.size := by
  intro g hg
  rcases h with ⟨rfl, _⟩ | ⟨g', n, cap, r, rfl, h2, h3, h4, h5⟩
  · cases hg
  · injection hg with hg
    subst hg
    exact ⟨h2, block_lt h4⟩
theorem Below.pown {e : TypeId} {w0 w w' : World} {base : Nat} {v : Value} {fl : List Int} (hb : Below base w0 w) (hB : base ≤ w.heap.size) (h : POwn e w base v fl) (hg : w.grownBy w' v.ownBlock) : Below base w0 w' :=
  hb.grown hg hB fun g e => (h.block g e).1
theorem Below.pown1 {e : TypeId} {w0 w w' : World} {base : Nat} {v : Value} {fl : List Int} {o : Obj} (hb : Below base w0 w) (hB : base ≤ w.heap.size) (h : POwn e w base v fl) (hg : (w.alloc o).grownBy w' v.ownBlock) : Below base w0 w' :=
  Below.pown (hb.alloc hB o) (by simp; omega) (h.alloc o) hg
theorem POwn.row {e : TypeId} {w : World} {base : Nat} {v : Value} {fl : List Int} (h : POwn e w base v fl) (hw : ∀ x ∈ fl, (Lit.int .i64 x).wf = true) :
    ∃ A n c, v = .slice A n c ∧ Row .i64 w w.heap.size A fl ∧ fl.length = 3 * n ∧ n ≤ c ∧ c ≤ maxLen := by
  rcases h with ⟨rfl, rfl⟩ | ⟨g, n, cap, r, rfl, h2, h3, h4, h5, h6, _⟩
  · exact ⟨none, 0, 0, rfl, Row.nil _ _ _ _, rfl, Nat.le_refl _, Nat.zero_le _⟩
  · exact ⟨_, n, cap, rfl, (Row.of_block h4 fl hw (List.prefix_append _ _)).more (block_lt h4), h3, h5, h6⟩

theorem zero_three (m : Nat) : Builtin.zeroCells (Value.agg #[.int .i64 0, .int .i64 0, .int .i64 0]).cells m = blk .i64 (List.replicate (3 * m) 0) := by
  rw [← made_three m]; rfl
theorem blk_toArray (k : IntKind) (l m : List Int) : (l.map (Value.int k)).toArray ++ (m.map (Value.int k)).toArray = blk k (l ++ m) := by simp [blk]

section
variable {P : Program}
theorem run_append_part (w : World) (base : Nat) (t ty e : TypeId) (ht : P.underlying t = some (.slice e)) (hi : (P.info? e).map (fun i => (i.zero, i.size, i.bytes)) = some (some (.agg #[.int .i64 0, .int .i64 0, .int .i64 0]), 3, 24))
    (v : Value) (fl : List Int) (hown : POwn e w base v fl) (a : Addr) (c : Nat) (x y z : Int) (hnews : ∀ j u, [Value.int .i64 x, .int .i64 y, .int .i64 z][j]? = some u → w.cell? (a.add j) = some u)
    (hb : fl.length ≤ 3000000) (hbase : base ≤ w.heap.size) :
    ∃ v' w', (Builtin.append_ #[t, t] ty #[v, .slice (some a) 1 c]).run P w = .ok v' w' ∧ POwn e w' base v' (fl ++ [x, y, z]) ∧ w.grownBy w' v.ownBlock := by
  obtain ⟨i, hi1, hz, hsz, hby⟩ := info_parts hi
  have hl : [Value.int .i64 x, .int .i64 y, .int .i64 z].length = 1 * i.size := by rw [hsz]; rfl
  rcases hown with ⟨rfl, rfl⟩ | ⟨g, n, cap, r, rfl, h2, h3, h4, h5, h6, h7⟩
  · have hr := run_append_nil (P := P) w t ty e i _ ht hi1 hz a 1 c _ hl hnews (by omega) (by omega) (by rw [hby]; omega)
    have hge := grownCap_ge w 1 0 e
    refine ⟨_, _, hr, .inr ⟨_, 1, _, List.replicate (3 * (grownCap w 1 0 e - 1)) 0, rfl, hbase, rfl, ?_, hge, grownCap_le_maxLen w 1 0 e (by simp [maxLen]), ?_⟩, ⟨rfl, rfl, rfl, by simp, fun k hk _ => heap_alloc_old w.drew _ hk⟩⟩
    · have := heap_alloc_new w.drew (.cells ([Value.int .i64 x, .int .i64 y, .int .i64 z].toArray ++ Builtin.zeroCells (Value.agg #[.int .i64 0, .int .i64 0, .int .i64 0]).cells (grownCap w 1 0 e - 1)) e)
      rw [zero_three] at this
      rw [zero_three]
      exact this.trans (by simp [blk])
    · simp; omega
  · by_cases hroom : n + 1 ≤ cap
    · have hcs : (blk .i64 (fl ++ r)).size = 3 * cap := by rw [blk_size, List.length_append]; exact h7
      have hr := run_append_room (P := P) w t ty e i ht hi1 g n cap _ h4 a 1 c _ hl hnews (by simp [Value.oneCell']) hroom (by rw [hsz, hcs]; simp; omega)
      refine ⟨_, _, hr, .inr ⟨g, n + 1, cap, r.drop 3, rfl, h2, ?_, ?_, hroom, h6, ?_⟩, ⟨rfl, rfl, rfl, by simp, fun k _ hk => setRow_other w g k _ (fun e => hk (by simp [Value.ownBlock, e]))⟩⟩
      · simp; omega
      · rw [setRow_heap w g _ _ e _ h4, hsz]
        congr 2
        have e1 : (blk .i64 (fl ++ r)).toList = fl.map (Value.int .i64) ++ r.map (Value.int .i64) := by simp [blk]
        have e2 : (fl.map (Value.int .i64)).length = n * 3 := by simp; omega
        rw [e1, List.take_left' e2, List.drop_append]
        simp [blk, h3]
        rw [List.drop_eq_nil_of_le (by simp; omega), show n * 3 + 3 - 3 * n = 3 by omega]
        simp
      · simp; omega
    · have hcn : n = cap := by omega
      subst hcn
      have holds : ∀ j u, (fl.map (Value.int .i64))[j]? = some u → w.cell? ((⟨g, 0, none⟩ : Addr).add j) = some u := by
        intro j u hu
        rw [Go.WideShapes.add_plain, Nat.zero_add, cell_of_row w g j _ _ _ h4]
        simp only [blk, List.map_append, List.getElem?_toArray]
        rw [List.getElem?_append_left (by
          rcases Nat.lt_or_ge j (fl.map (Value.int .i64)).length with h | h
          · exact h
          · rw [List.getElem?_eq_none h] at hu; cases hu)]
        exact hu
      have hr := run_append_grow (P := P) w t ty e i _ ht hi1 hz ⟨g, 0, none⟩ n n _ (by rw [hsz]; simp; omega) holds a 1 c _ hl hnews (by omega) (by omega) (growslice_fits (by omega) (by rw [hby]; omega))
      have hge := grownCap_ge w (n + 1) n e
      refine ⟨_, _, hr, .inr ⟨_, n + 1, _, List.replicate (3 * (grownCap w (n + 1) n e - (n + 1))) 0, rfl, hbase, by simp; omega, ?_, hge, grownCap_le_maxLen w (n + 1) n e (by simp only [maxLen]; omega), ?_⟩, ⟨rfl, rfl, rfl, by simp, fun k hk _ => heap_alloc_old w.drew _ hk⟩⟩
      · have := heap_alloc_new w.drew (.cells ((fl.map (Value.int .i64)).toArray ++ [Value.int .i64 x, .int .i64 y, .int .i64 z].toArray ++ Builtin.zeroCells (Value.agg #[.int .i64 0, .int .i64 0, .int .i64 0]).cells (grownCap w (n + 1) n e - (n + 1))) e)
        rw [zero_three] at this
        rw [zero_three]
        exact this.trans (by simp [blk])
      · simp; omega

/-- 'append(v, part)': v owned, the part in a box. -/
theorem wpList_append_part {ops : Array Oper} {rest : List Oper} {o : Oper} {a : Act} {Q : Exit → Act → World → Prop} (w : World) (hgd : o.guard = none) (s x : Operand) (t : TypeId)
    (ho : o.op = .call { callee := .builtin .append, args := #[s, x], argTypes := #[t, t] })
    (base : Nat) (e : TypeId) (ht : P.underlying t = some (.slice e)) (hi : (P.info? e).map (fun i => (i.zero, i.size, i.bytes)) = some (some (.agg #[.int .i64 0, .int .i64 0, .int .i64 0]), 3, 24))
    (v : Value) (fl : List Int) (hs : a.eval s = v) (hown : POwn e w base v fl) (ad : Addr) (c : Nat) (p q r : Int) (hx : a.eval x = .slice (some ad) 1 c)
    (hnews : ∀ j u, [Value.int .i64 p, .int .i64 q, .int .i64 r][j]? = some u → w.cell? (ad.add j) = some u) (hb : fl.length ≤ 3000000) (hbase : base ≤ w.heap.size)
    (h : ∀ v' w', POwn e w' base v' (fl ++ [p, q, r]) → w.grownBy w' v.ownBlock → wpList P ops Q rest (a.put o.dst v') w') : wpList P ops Q (o :: rest) a w := by
  obtain ⟨v', w', hrun, h1, h2⟩ := run_append_part (P := P) w base t o.type e ht hi v fl hown ad c p q r hnews hb hbase
  refine wpList_plain hgd fun K hK => ?_
  unfold Oper.wp
  simp [execOp, ho, resolve, invoke, builtin, hs, hx, hrun, Result.andThen]
  exact hK _ _ (h v' w' h1 h2)
end
/-- The cells of a part in a new box. -/
theorem box_three (w : World) (t : TypeId) (x y z : Int) : ∀ j u, [Value.int .i64 x, .int .i64 y, .int .i64 z][j]? = some u → (w.alloc (.cells #[.int .i64 x, .int .i64 y, .int .i64 z] t)).cell? ((⟨w.heap.size, 0, none⟩ : Addr).add j) = some u := by
  intro j u hu
  rw [Go.WideShapes.add_plain, Nat.zero_add, World.cell?_alloc_at _ _ _ _ rfl]
  simpa using hu
end Go.Proofs.Ytcmbdhmhkfhjfaa
namespace Go.Proofs.Ytcmbdhmhkfhjfaa
open Go.RowKit
set_option linter.unusedVariables false

end Go.Proofs.Ytcmbdhmhkfhjfaa
namespace Go.Proofs.Ytcmbdhmhkfhjfaa.L
open Go.RowKit
set_option linter.unusedVariables false

/-- The i-th number of a list, behind a name that the walk's simp does not open. -/
def nth (l : List Bool) (i : Nat) : Bool := l.getD i false
theorem nth_eq (l : List Bool) (i : Nat) (h : i < l.length) : nth l i = l[i] := by simp [nth, List.getD_eq_getElem?_getD, List.getElem?_eq_getElem h]
theorem nth_mem (l : List Bool) (i : Nat) (h : i < l.length) : nth l i ∈ l := by rw [nth_eq l i h]; exact List.getElem_mem h
theorem nth_left (l m : List Bool) (i : Nat) (h : i < l.length) : nth (l ++ m) i = nth l i := by
  rw [nth_eq _ _ h, nth_eq _ _ (by simp; omega)]; exact List.getElem_append_left h
theorem nth_right (l m : List Bool) (i : Nat) : nth (l ++ m) (l.length + i) = nth m i := by
  simp [nth, List.getD_eq_getElem?_getD, List.getElem?_append_right]
theorem nth_replicate (n i : Nat) (v : Bool) (h : i < n) : nth (List.replicate n v) i = v := by rw [nth_eq _ _ (by simpa using h)]; simp
theorem ext_nth (a b : List Bool) (hl : a.length = b.length) (h : ∀ i, i < a.length → nth a i = nth b i) : a = b := by
  refine List.ext_getElem hl fun i h1 h2 => ?_
  rw [← nth_eq a i h1, ← nth_eq b i h2]; exact h i h1

/-- The cells of a row of integers. -/
def blk (k : Unit) (l : List Bool) : Array Value := (l.map (Value.bool)).toArray

theorem blk_size (k : Unit) (l : List Bool) : (blk k l).size = l.length := by simp [blk]
theorem blk_get (k : Unit) (l : List Bool) (i : Nat) (h : i < l.length) : (blk k l)[i]? = some (.bool (nth l i)) := by
  simp [blk, List.getElem?_eq_getElem h, nth_eq l i h]
theorem blk_set (k : Unit) (l : List Bool) (i : Nat) (v : Bool) : (blk k l).setIfInBounds i (.bool v) = blk k (l.set i v) := by
  simp [blk, List.map_set]

/-- A slice that reads as the list xs of integers of kind k, in blocks below B. -/
def Row (k : Unit) (w : World) (B : Nat) (A : Option Addr) (xs : List Bool) : Prop :=
  (∀ x ∈ xs, (Lit.bool x).wf = true) ∧ (0 < xs.length → ∃ b o, A = some ⟨b, o, none⟩ ∧ b < B ∧ ∀ i, i < xs.length → w.cell? ⟨b, o + i, none⟩ = some (.bool (nth xs i)))

theorem Row.keep {k : Unit} {w w' : World} {B : Nat} {A : Option Addr} {xs : List Bool} (h : Row k w B A xs) (hk : ∀ b o, b < B → w'.cell? ⟨b, o, none⟩ = w.cell? ⟨b, o, none⟩) : Row k w' B A xs := by
  refine ⟨h.1, fun hn => ?_⟩
  obtain ⟨b, o, e, hb, hc⟩ := h.2 hn
  exact ⟨b, o, e, hb, fun i hi => (hk _ _ hb).trans (hc i hi)⟩
theorem Row.more {k : Unit} {w : World} {B B' : Nat} {A : Option Addr} {xs : List Bool} (h : Row k w B A xs) (hB : B ≤ B') : Row k w B' A xs := by
  refine ⟨h.1, fun hn => ?_⟩
  obtain ⟨b, o, e, hb, hc⟩ := h.2 hn
  exact ⟨b, o, e, by omega, hc⟩
theorem Row.below {k : Unit} {w w' : World} {B : Nat} {A : Option Addr} {xs : List Bool} (h : Row k w B A xs) (hb : Below B w w') : Row k w' B A xs :=
  h.keep fun b o hlt => hb.cell (p := ⟨b, o, none⟩) hlt
theorem Row.alloc {k : Unit} {w : World} {B : Nat} {A : Option Addr} {xs : List Bool} (h : Row k w B A xs) (hB : B ≤ w.heap.size) (o : Obj) : Row k (w.alloc o) B A xs :=
  h.below ((Below.refl _ _).alloc hB o)
theorem Row.drewN {k : Unit} {w : World} {B : Nat} {A : Option Addr} {xs : List Bool} (h : Row k w B A xs) (n : Nat) : Row k (w.drewN n) B A xs := h
theorem Row.nil (k : Unit) (w : World) (B : Nat) (A : Option Addr) : Row k w B A [] := ⟨by simp, by simp⟩
/-- A row that lies at the head of a new block. -/
theorem Row.new (k : Unit) (w : World) (t : TypeId) (l xs : List Bool) (hw : ∀ x ∈ xs, (Lit.bool x).wf = true) (hp : xs <+: l) :
    Row k (w.alloc (.cells (blk k l) t)) (w.heap.size + 1) (some ⟨w.heap.size, 0, none⟩) xs := by
  obtain ⟨ys, rfl⟩ := hp
  refine ⟨hw, fun _ => ⟨_, _, rfl, Nat.lt_succ_self _, fun i hi => ?_⟩⟩
  rw [World.cell?_alloc_at _ _ _ _ rfl, Nat.zero_add, blk_get _ _ _ (by simp; omega), nth_left _ _ _ hi]
/-- A row at the head of a block that is known whole, whatever of it is frozen. -/
theorem Row.of_block {k : Unit} {w : World} {g : Nat} {t : TypeId} {fr : Nat × Nat} {l : List Bool} (hg : w.heap[g]? = some (.cells (blk k l) t fr)) (xs : List Bool) (hw : ∀ x ∈ xs, (Lit.bool x).wf = true) (hp : xs <+: l) :
    Row k w (g + 1) (some ⟨g, 0, none⟩) xs := by
  obtain ⟨ys, rfl⟩ := hp
  refine ⟨hw, fun _ => ⟨_, _, rfl, Nat.lt_succ_self _, fun i hi => ?_⟩⟩
  rw [Nat.zero_add, cell_of_row w g i _ _ _ hg, blk_get _ _ _ (by simp; omega), nth_left _ _ _ hi]
/-- One cell of a row, for the walk. -/
theorem Row.at_ {k : Unit} {w : World} {B : Nat} {A : Option Addr} {xs : List Bool} (h : Row k w B A xs) {i : Nat} (hi : i < xs.length) :
    ∃ b o, A = some ⟨b, o, none⟩ ∧ b < B ∧ w.cell? ⟨b, o + i, none⟩ = some (.bool (nth xs i)) := by
  obtain ⟨b, o, e, hb, hc⟩ := h.2 (by omega)
  exact ⟨b, o, e, hb, hc i hi⟩
theorem Row.wf_at {k : Unit} {w : World} {B : Nat} {A : Option Addr} {xs : List Bool} (h : Row k w B A xs) {i : Nat} (hi : i < xs.length) : (Lit.bool (nth xs i)).wf = true := h.1 _ (nth_mem _ _ hi)

theorem wf_append {k : Unit} {xs ys : List Bool} (h : ∀ x ∈ xs, (Lit.bool x).wf = true) (h' : ∀ x ∈ ys, (Lit.bool x).wf = true) : ∀ x ∈ xs ++ ys, (Lit.bool x).wf = true := fun x hx => (List.mem_append.1 hx).elim (h x) (h' x)
theorem take_step (xs : List Bool) (k : Nat) (h : k < xs.length) : xs.take (k + 1) = xs.take k ++ [nth xs k] := by
  rw [List.take_succ_eq_append_getElem h, nth_eq xs k h]
/-- The k-th place of what is filled up to k is written. -/
theorem set_step (l : List Bool) (m k : Nat) (v x : Bool) (h : l.length = k) : (l ++ List.replicate (m + 1) v).set k x = l ++ [x] ++ List.replicate m v := by
  rw [List.set_append_right _ _ (by omega)]
  simp [h, List.replicate_succ]
theorem fill_cell (k : Unit) (l : List Bool) (m i : Nat) (v : Bool) (h : l.length = i) (hm : 0 < m) : (blk k (l ++ List.replicate m v))[i]? = some (.bool v) := by
  rw [blk_get _ _ _ (by simp; omega)]
  subst h
  have := nth_right l (List.replicate m v) 0
  rw [Nat.add_zero] at this
  rw [this, nth_replicate _ _ _ hm]
end Go.Proofs.Ytcmbdhmhkfhjfaa.L
namespace Go.Proofs.Ytcmbdhmhkfhjfaa.L
open Go.RowKit
set_option linter.unusedVariables false

theorem bools_oneCell (xs : List Bool) : ∀ v ∈ xs.map Value.bool, v.oneCell' = true := by
  intro v hv
  obtain ⟨x, _, rfl⟩ := List.mem_map.1 hv
  rfl

/-- The slice v owns a row, in a block from base on, that holds the integers xs. -/
def Own (k : Unit) (e : TypeId) (w : World) (base : Nat) (v : Value) (xs : List Bool) : Prop := w.ownsRow base e 1 v xs.length (xs.map (Value.bool))

theorem Own.nil (k : Unit) (e : TypeId) (w : World) (base : Nat) : Own k e w base (.slice none 0 0) [] := ⟨by simp, .inl ⟨rfl, rfl⟩⟩
theorem Own.alloc {k : Unit} {e : TypeId} {w : World} {base : Nat} {v : Value} {xs : List Bool} (h : Own k e w base v xs) (o : Obj) : Own k e (w.alloc o) base v xs := World.ownsRow.alloc h o
theorem Own.drewN {k : Unit} {e : TypeId} {w : World} {base : Nat} {v : Value} {xs : List Bool} (h : Own k e w base v xs) (n : Nat) : Own k e (w.drewN n) base v xs := h
theorem Own.block {k : Unit} {e : TypeId} {w : World} {base : Nat} {v : Value} {xs : List Bool} (h : Own k e w base v xs) : ∀ g, v.ownBlock = some g → base ≤ g ∧ g < w.heap.size := World.ownsRow.lt h
theorem Own.kept {k : Unit} {e : TypeId} {w w' : World} {base : Nat} {v : Value} {xs : List Bool} {row : Option Nat} (h : Own k e w base v xs) (hg : w.grownBy w' row) (hne : v.ownBlock = none ∨ v.ownBlock ≠ row) : Own k e w' base v xs := World.ownsRow.kept h hg hne
theorem Own.below {k : Unit} {e : TypeId} {w w' : World} {base B : Nat} {v : Value} {xs : List Bool} (h : Own k e w base v xs) (hb : Below B w w') (hB : w.heap.size ≤ B) : Own k e w' base v xs := by
  refine h.kept (row := none) ⟨hb.os, hb.tape, hb.output, hb.size, fun i hi _ => hb.block i (by omega)⟩ ?_
  cases hv : v.ownBlock with
  | none => exact .inl rfl
  | some g => exact .inr (by simp)
theorem Own.mono {k : Unit} {e : TypeId} {w : World} {base base' : Nat} {v : Value} {xs : List Bool} (h : Own k e w base v xs) (hb : base' ≤ base) : Own k e w base' v xs := by
  refine ⟨h.1, ?_⟩
  rcases h.2 with h0 | ⟨g, cap, cur, hv, h1, r⟩
  · exact .inl h0
  · exact .inr ⟨g, cap, cur, hv, by omega, r⟩
/-- What is owned is a slice that reads as its list. -/
theorem Own.row {k : Unit} {e : TypeId} {w : World} {base : Nat} {v : Value} {xs : List Bool} (h : Own k e w base v xs) (hw : ∀ x ∈ xs, (Lit.bool x).wf = true) :
    ∃ A c, v = .slice A xs.length c ∧ Row k w w.heap.size A xs ∧ xs.length ≤ c ∧ c ≤ maxLen := by
  rcases h.2 with ⟨rfl, h0⟩ | ⟨g, cap, cur, rfl, hb, hg, h1, h2, h3, h4⟩
  · have : xs = [] := List.eq_nil_of_length_eq_zero h0
    subst this
    exact ⟨none, 0, rfl, Row.nil _ _ _ _, by simp, by simp⟩
  · refine ⟨_, _, rfl, ⟨hw, fun _ => ⟨g, 0, rfl, ?_, fun i hi => ?_⟩⟩, h1, h2⟩
    · exact (Own.block (k := k) (e := e) (w := w) (base := base) (xs := xs) ⟨by simp, .inr ⟨g, cap, cur, rfl, hb, hg, h1, h2, h3, h4⟩⟩ g rfl).2
    · rw [Nat.zero_add, cell_of_row w g i cur e (0, 0) hg]
      have : (cur.toList.take (xs.length * 1))[i]? = (xs.map (Value.bool))[i]? := by rw [h4]
      rw [List.getElem?_take_of_lt (by omega)] at this
      rw [← Array.getElem?_toList, this, List.getElem?_map, List.getElem?_eq_getElem hi, nth_eq xs i hi]
      rfl

section
variable {P : Program}
theorem run_append_none (w : World) (t ty e : TypeId) (i : TypeInfo) (ht : P.underlying t = some (.slice e)) (hi : P.info? e = some i)
    (base : Nat) (v : Value) (n : Nat) (xs : List Value) (hown : w.ownsRow base e 1 v n xs) (c : Nat) : (Builtin.append_ #[t, t] ty #[v, .slice none 0 c]).run P w = .ok v w := by
  rcases hown.2 with ⟨rfl, rfl⟩ | ⟨g, cap, cur, rfl, _, _, hnc, _⟩
  · simp [Builtin.append_, run_underlying ht, sizeOf, typeInfo, hi, Builtin.lenOf, Builtin.firstCells]
  · simp [Builtin.append_, run_underlying ht, sizeOf, typeInfo, hi, Builtin.lenOf, Builtin.firstCells, hnc, storeCells]

/-- 'append(v, src...)': v owned, src whatever row of integers. -/
theorem wpList_append_row {ops : Array Oper} {rest : List Oper} {o : Oper} {a : Act} {Q : Exit → Act → World → Prop} (w : World) (hgd : o.guard = none) (s x : Operand) (t : TypeId)
    (ho : o.op = .call { callee := .builtin .append, args := #[s, x], argTypes := #[t, t] })
    (base : Nat) (k : Unit) (e : TypeId) (bytes : Nat) (ht : P.underlying t = some (.slice e)) (hi : (P.info? e).map (fun i => (i.zero, i.size, i.bytes)) = some (some (.bool false), 1, bytes))
    (v : Value) (xs : List Bool) (hs : a.eval s = v) (hown : Own k e w base v xs)
    (B : Nat) (A : Option Addr) (m c : Nat) (ys : List Bool) (hx : a.eval x = .slice A m c) (hr : Row k w B A ys) (hm : ys.length = m)
    (hbytes : (xs.length + m) * bytes ≤ 140737488355328) (h63 : xs.length + m ≤ maxLen) (hbase : base ≤ w.heap.size)
    (h : ∀ v' w', Own k e w' base v' (xs ++ ys) → w.grownBy w' v.ownBlock → wpList P ops Q rest (a.put o.dst v') w') : wpList P ops Q (o :: rest) a w := by
  obtain ⟨i, hi1, hz, hsz, hby⟩ := info_parts hi
  rcases Nat.eq_zero_or_pos m with h0 | h0
  · subst h0
    have hy : ys = [] := List.eq_nil_of_length_eq_zero hm
    subst hy
    cases A with
    | none =>
      refine wpList_plain hgd fun K hK => ?_
      have hrun := run_append_none (P := P) w t o.type e i ht hi1 base v _ _ hown c
      unfold Oper.wp
      simp [execOp, ho, resolve, invoke, builtin, hs, hx, hrun, Result.andThen]
      exact hK _ _ (h v w (by simpa using hown) (World.grownBy.refl _ _))
    | some ad =>
      refine wpList_append_own w hgd s x t ho base e i (.bool false) 1 bytes ht hi1 hz hsz hby rfl (by omega) v _ _ hs hown ad 0 c [] hx (by simp) (by simp) (by simp) h63 hbytes hbase fun v' w' h1 h2 _ => h v' w' (by simpa [Own] using h1) h2
  · obtain ⟨b, of, rfl, _, hc⟩ := hr.2 (by omega)
    refine wpList_append_own w hgd s x t ho base e i (.bool false) 1 bytes ht hi1 hz hsz hby rfl (by omega) v _ _ hs hown ⟨b, of, none⟩ m c (ys.map (Value.bool)) hx (by simp [hm]) ?_ (bools_oneCell ys) h63 hbytes hbase fun v' w' h1 h2 _ => h v' w' (by simpa [Own, hm] using h1) h2
    intro j u hu
    rw [List.getElem?_map] at hu
    by_cases hj : j < ys.length
    · rw [List.getElem?_eq_getElem hj] at hu
      rw [Go.WideShapes.add_plain, hc j hj, nth_eq ys j hj]
      exact hu
    · rw [List.getElem?_eq_none (by omega)] at hu
      cases hu

/-- 'append(v, src...)' within the capacity: v owned, src whatever row of integers; the block stays. -/
theorem wpList_append_row_fits {ops : Array Oper} {rest : List Oper} {o : Oper} {a : Act} {Q : Exit → Act → World → Prop} (w : World) (hgd : o.guard = none) (s x : Operand) (t : TypeId)
    (ho : o.op = .call { callee := .builtin .append, args := #[s, x], argTypes := #[t, t] })
    (base : Nat) (k : Unit) (e : TypeId) (bytes : Nat) (ht : P.underlying t = some (.slice e)) (hi : (P.info? e).map (fun i => (i.zero, i.size, i.bytes)) = some (some (.bool false), 1, bytes))
    (g n cap : Nat) (xs : List Bool) (hs : a.eval s = .slice (some ⟨g, 0, none⟩) n cap) (hn : xs.length = n) (hown : Own k e w base (.slice (some ⟨g, 0, none⟩) n cap) xs)
    (B : Nat) (A : Option Addr) (m c : Nat) (ys : List Bool) (hx : a.eval x = .slice A m c) (hr : Row k w B A ys) (hm : ys.length = m) (hfit : n + m ≤ cap)
    (h : ∀ w', Own k e w' base (.slice (some ⟨g, 0, none⟩) (n + m) cap) (xs ++ ys) → w.grownBy w' (some g) → wpList P ops Q rest (a.put o.dst (.slice (some ⟨g, 0, none⟩) (n + m) cap)) w') : wpList P ops Q (o :: rest) a w := by
  obtain ⟨i, hi1, hz, hsz, hby⟩ := info_parts hi
  subst hn
  rcases Nat.eq_zero_or_pos m with h0 | h0
  · subst h0
    have hy : ys = [] := List.eq_nil_of_length_eq_zero hm
    subst hy
    cases A with
    | none =>
      refine wpList_plain hgd fun K hK => ?_
      have hrun := run_append_none (P := P) w t o.type e i ht hi1 base _ _ _ hown c
      unfold Oper.wp
      simp [execOp, ho, resolve, invoke, builtin, hs, hx, hrun, Result.andThen]
      exact hK _ _ (h w (by simpa using hown) (World.grownBy.refl _ _))
    | some ad =>
      refine wpList_append_fits w hgd s x t ho base e i 1 ht hi1 hsz g xs.length cap _ hs hown ad 0 c [] hx (by simp) (by simp) (by simp) hfit fun w' h1 h2 => h w' (by simpa [Own] using h1) h2
  · obtain ⟨b, of, rfl, _, hc⟩ := hr.2 (by omega)
    refine wpList_append_fits w hgd s x t ho base e i 1 ht hi1 hsz g xs.length cap _ hs hown ⟨b, of, none⟩ m c (ys.map (Value.bool)) hx (by simp [hm]) ?_ (bools_oneCell ys) hfit fun w' h1 h2 => h w' (by simpa [Own, hm] using h1) h2
    intro j u hu
    rw [List.getElem?_map] at hu
    by_cases hj : j < ys.length
    · rw [List.getElem?_eq_getElem hj] at hu
      rw [Go.WideShapes.add_plain, hc j hj, nth_eq ys j hj]
      exact hu
    · rw [List.getElem?_eq_none (by omega)] at hu
      cases hu
end

/-- What 'make' of a length 0 lays is owned. -/
theorem Own.made (k : Unit) (e : TypeId) (w : World) (l : List Bool) (hm : l.length ≤ maxLen) : Own k e (w.alloc (.cells (blk k l) e)) w.heap.size (.slice (some ⟨w.heap.size, 0, none⟩) 0 l.length) [] :=
  ⟨rfl, .inr ⟨_, _, _, rfl, Nat.le_refl _, heap_alloc_new w _, by simp, hm, by simp [blk_size], by simp⟩⟩
/-- A row that fills its capacity is its block, whole. -/
theorem Own.full {k : Unit} {e : TypeId} {w : World} {base g n : Nat} {xs : List Bool} (h : Own k e w base (.slice (some ⟨g, 0, none⟩) n n) xs) : w.heap[g]? = some (.cells (blk k xs) e (0, 0)) := by
  rcases h.2 with ⟨h0, _⟩ | ⟨g', cap, cur, hv, hb, hg, h1, h2, h3, h4⟩
  · cases h0
  · injection hv with ha hn hc
    injection ha with ha
    injection ha with ha
    subst ha hn hc
    rw [hg]
    congr 2
    apply Array.toList_inj.1
    rw [List.take_of_length_le (by simp [h3])] at h4
    rw [h4]
    simp [blk]

theorem Below.own {k : Unit} {e : TypeId} {w0 w w' : World} {base : Nat} {v : Value} {xs : List Bool} (hb : Below base w0 w) (hB : base ≤ w.heap.size) (h : Own k e w base v xs) (hg : w.grownBy w' v.ownBlock) : Below base w0 w' :=
  hb.grown hg hB fun g e => (h.block g e).1
/-- One element's box, then the append that takes it. -/
theorem Below.own1 {k : Unit} {e : TypeId} {w0 w w' : World} {base : Nat} {v : Value} {xs : List Bool} {o : Obj} (hb : Below base w0 w) (hB : base ≤ w.heap.size) (h : Own k e w base v xs) (hg : (w.alloc o).grownBy w' v.ownBlock) : Below base w0 w' :=
  Below.own (hb.alloc hB o) (by simp; omega) (h.alloc o) hg
theorem Row.one (k : Unit) (w : World) (t : TypeId) (x : Bool) (h : (Lit.bool x).wf = true) : Row k (w.alloc (.cells #[.bool x] t)) (w.heap.size + 1) (some ⟨w.heap.size, 0, none⟩) [x] :=
  Row.new k w t [x] [x] (by simpa using h) (List.prefix_refl _)
end Go.Proofs.Ytcmbdhmhkfhjfaa.L
namespace Go.Proofs.Ytcmbdhmhkfhjfaa.L
open Go.RowKit
set_option linter.unusedVariables false

theorem info_bool : (Try.prog.info? 4).map (fun i => (i.zero, i.size, i.bytes)) = some (some (.bool false), 1, 1) := by kernel_rfl

theorem made_zero (z : Bool) (n : Nat) : madeCells (Value.bool z).cells (n * 1) = blk () (List.replicate n z) := by
  apply Array.toList_inj.1
  rw [show (Value.bool z).cells = #[Value.bool z] from rfl, toList_madeCells_one, Nat.mul_one]
  simp [blk]

theorem make_bool (n : Nat) (hn : n ≤ 140737488355328) (W : World) :
    (Instr.makeSlice 25 (.int .i64 (n : Int)) (.int .i64 (n : Int))).run Try.prog W = .ok (.slice (some ⟨W.heap.size, 0, none⟩) n n) (W.alloc (.cells (blk () (List.replicate n false)) 4)) := by
  obtain ⟨i, hi, hz, hs, hb⟩ := info_parts info_bool
  have h := run_make (P := Try.prog) W 25 4 i (.bool false) Try.underlying25 hi hz .i64 .i64 n n (by omega) (by omega) (by rw [hb]; omega) (by omega)
  rw [h, hs, Int.toNat_natCast, made_zero]

def marks5 : List Bool := [true, true, true, true, true]

/-- SameBools, where the lists are the same. -/
theorem same_yes_bool (A A' : Option Addr) (n c c' : Nat) (xs : List Bool) (w : World) (B B' : Nat) (hr : Row () w B A xs) (hr' : Row () w B' A' xs) (hn : xs.length = n) (hb : n ≤ 140737488355328) :
    Calls Try.prog 19 #[.slice A n c, .slice A' n c'] w fun e w' => e = .returned (.bool true) ∧ ∃ m, w' = w.drewN m := by
  go_enter Try.func19, Try.ntmps19
  go_wp2
  go_loopw [5] (fun i wr => ∃ k nq : Nat, k ≤ n ∧ i = .int .i64 k ∧ wr = w.drewN nq) (fun i _ => n - (intOf i).toNat)
  case atStart => exact ⟨0, 0, by omega, rfl, rfl⟩
  case round =>
    obtain ⟨k, nq, hk, rfl, rfl⟩ := hrel
    by_cases hlt : k < n
    · obtain ⟨b, o, rfl, hb1, hc1⟩ := hr.at_ (i := k) (by omega)
      obtain ⟨b', o', rfl, hb1', hc1'⟩ := hr'.at_ (i := k) (by omega)
      have hlt' : (k : Int) < (n : Int) := by omega
      go_wp2
      go_quiet (fail)
      go_wp2
      go_roundw
      case rel => exact ⟨k + 1, _, by omega, by go_num, rfl⟩
      case measure => simp [intOf]; omega
    · go_wp2
      go_ret
      exact ⟨rfl, nq, rfl⟩

end Go.Proofs.Ytcmbdhmhkfhjfaa.L
namespace Go.Proofs.Ytcmbdhmhkfhjfaa.L
open Go.RowKit
set_option linter.unusedVariables false

/-- A call returns a new slice, its own, that holds xs; nothing that was there has turned. -/
def Makes (k : Unit) (t : TypeId) (w : World) (xs : List Bool) (e : Ending) (w' : World) : Prop := ∃ v, e = .returned v ∧ Own k t w' w.heap.size v xs ∧ Below w.heap.size w w'

/-- A call returns a slice that fills a new block, the first new one, with xs; nothing that was there has turned. -/
def Lays (k : Unit) (t : TypeId) (w : World) (xs : List Bool) (m : Nat) (e : Ending) (w' : World) : Prop :=
  e = .returned (.slice (some ⟨w.heap.size, 0, none⟩) m m) ∧ w'.heap[w.heap.size]? = some (.cells (blk k xs) t (0, 0)) ∧ Below w.heap.size w w'

end Go.Proofs.Ytcmbdhmhkfhjfaa.L
namespace Go.Proofs.Ytcmbdhmhkfhjfaa.L
open Go.RowKit
set_option linter.unusedVariables false
set_option linter.unusedVariables false

theorem block_setCell (w : World) (g i : Nat) (k : Unit) (t : TypeId) (l : List Bool) (v : Bool) (h : w.heap[g]? = some (.cells (blk k l) t (0, 0))) :
    (w.setCell ⟨g, i, none⟩ (.bool v)).heap[g]? = some (.cells (blk k (l.set i v)) t (0, 0)) := by
  simp [World.setCell, Array.getElem?_modify, h, blk_set]
theorem block_frozen (w : World) (g i : Nat) (cs : Array Value) (t : TypeId) (h : w.heap[g]? = some (.cells cs t (0, 0))) : w.frozen? ⟨g, i, none⟩ = false := by simp [World.frozen?, h]
theorem grown_setCell {a w : World} {g : Nat} (h : a.grownBy w (some g)) (i : Nat) (u : Value) : a.grownBy (w.setCell ⟨g, i, none⟩ u) (some g) :=
  ⟨h.os, h.tape, h.output, by simpa [World.setCell] using h.size, fun k hk hne => (Below.heap_setCell w ⟨g, i, none⟩ u k (fun e => hne (by rw [e]))).trans (h.block k hk hne)⟩
theorem block_lt {w : World} {g : Nat} {o : Obj} (h : w.heap[g]? = some o) : g < w.heap.size := by
  rcases Nat.lt_or_ge g w.heap.size with hlt | hge
  · exact hlt
  · rw [Array.getElem?_eq_none hge] at h; cases h

end Go.Proofs.Ytcmbdhmhkfhjfaa.L
namespace Go.Proofs.Ytcmbdhmhkfhjfaa.L
open Go.RowKit
set_option linter.unusedVariables false
set_option linter.unusedVariables false

theorem below_drewN {B : Nat} {a w : World} (h : Below B a w) (n : Nat) : Below B a (w.drewN n) := ⟨h.os, h.tape, h.output, h.size, h.block⟩
/-- Block g is just the row l. (A name: so the walk does not rewrite by it.) -/
def Bk (w : World) (g : Nat) (l : List Bool) : Prop := w.heap[g]? = some (.cells (blk () l) 4 (0, 0))
theorem Bk.below {w w' : World} {g : Nat} {l : List Bool} (h : Bk w g l) (hb : Below w.heap.size w w') : Bk w' g l := (hb.block g (block_lt h)).trans h
theorem Bk.lt {w : World} {g : Nat} {l : List Bool} (h : Bk w g l) : g < w.heap.size := block_lt h
theorem Bk.drewN {w : World} {g : Nat} {l : List Bool} (h : Bk w g l) (n : Nat) : Bk (w.drewN n) g l := h
theorem Bk.row {w : World} {g : Nat} {l : List Bool} (h : Bk w g l) (xs : List Bool) (hw : ∀ x ∈ xs, (Lit.bool x).wf = true) (hp : xs <+: l) : Row () w w.heap.size (some ⟨g, 0, none⟩) xs :=
  (Row.of_block h xs hw hp).more h.lt
/-- A slice that is nil, or the beginning of block g. -/
def Li (w : World) (A : Option Addr) (m g : Nat) (l r : List Bool) : Prop := A = none ∧ m = 0 ∨ A = some ⟨g, 0, none⟩ ∧ Bk w g (l ++ r)
theorem Li.below {w w' : World} {A : Option Addr} {m g : Nat} {l r : List Bool} (h : Li w A m g l r) (hb : Below w.heap.size w w') : Li w' A m g l r := by
  rcases h with h | ⟨h1, h2⟩
  · exact .inl h
  · exact .inr ⟨h1, h2.below hb⟩
theorem Li.row {w : World} {A : Option Addr} {m g : Nat} {l r : List Bool} (h : Li w A m g l r) (hm : l.length = m) (hw : ∀ x ∈ l, (Lit.bool x).wf = true) : Row () w w.heap.size A l := by
  rcases h with ⟨h1, h2⟩ | ⟨h1, h2⟩
  · have : l = [] := List.eq_nil_of_length_eq_zero (by omega)
    subst this
    exact Row.nil _ _ _ _
  · subst h1
    exact h2.row l hw (List.prefix_append _ _)
theorem bel_drewN (w : World) (n : Nat) : Below w.heap.size w (w.drewN n) := ⟨rfl, rfl, rfl, Nat.le_refl _, fun _ _ => rfl⟩

/-- A call returns a pair: a list that is nil or fills the first new block, and a number. -/
def Gives (w : World) (l : List Bool) (err : Int) (e : Ending) (w' : World) : Prop :=
  ∃ A m, e = .returned (.tuple #[.slice A m m, .int .i64 err]) ∧ l.length = m ∧ Li w' A m w.heap.size l [] ∧ Below w.heap.size w w'
/-- A call returns a pair: a list of its own, and a number. -/
def GivesOwn (w : World) (l : List Bool) (err : Int) (e : Ending) (w' : World) : Prop :=
  ∃ v, e = .returned (.tuple #[v, .int .i64 err]) ∧ Own () 4 w' w.heap.size v l ∧ Below w.heap.size w w'
theorem Li.lt {w : World} {A : Option Addr} {m g : Nat} {l r : List Bool} (h : Li w A m g l r) : A = none ∨ g < w.heap.size := by
  rcases h with ⟨h1, _⟩ | ⟨_, h2⟩
  · exact .inl h1
  · exact .inr h2.lt
end Go.Proofs.Ytcmbdhmhkfhjfaa.L
namespace Go.Proofs.Ytcmbdhmhkfhjfaa.W
open Go.RowKit

theorem info_u16 : (Try.prog.info? 66).map (fun i => (i.zero, i.size, i.bytes)) = some (some (.int .u16 0), 1, 2) := by kernel_rfl

theorem made_zero (z : Int) (n : Nat) : madeCells (Value.int .u16 z).cells (n * 1) = blk .u16 (List.replicate n z) := by
  apply Array.toList_inj.1
  rw [show (Value.int .u16 z).cells = #[Value.int .u16 z] from rfl, toList_madeCells_one, Nat.mul_one]
  simp [blk]

theorem make_u16 (n : Nat) (hn : n ≤ 70368744177664) (W : World) :
    (Instr.makeSlice 26 (.int .i64 (n : Int)) (.int .i64 (n : Int))).run Try.prog W = .ok (.slice (some ⟨W.heap.size, 0, none⟩) n n) (W.alloc (.cells (blk .u16 (List.replicate n 0)) 66)) := by
  obtain ⟨i, hi, hz, hs, hb⟩ := info_parts info_u16
  have h := run_make (P := Try.prog) W 26 66 i (.int .u16 0) Try.underlying26 hi hz .i64 .i64 n n (by omega) (by omega) (by rw [hb]; omega) (by omega)
  rw [h, hs, Int.toNat_natCast, made_zero]

def marks5 : List Int := [42330, 42330, 42330, 42330, 42330]

/-- SameWords, where the lists are the same. -/
theorem same_yes_u16 (A A' : Option Addr) (n c c' : Nat) (xs : List Int) (w : World) (B B' : Nat) (hr : Row .u16 w B A xs) (hr' : Row .u16 w B' A' xs) (hn : xs.length = n) (hb : n ≤ 70368744177664) :
    Calls Try.prog 20 #[.slice A n c, .slice A' n c'] w fun e w' => e = .returned (.bool true) ∧ ∃ m, w' = w.drewN m := by
  go_enter Try.func20, Try.ntmps20
  go_wp2
  go_loopw [5] (fun i wr => ∃ k nq : Nat, k ≤ n ∧ i = .int .i64 k ∧ wr = w.drewN nq) (fun i _ => n - (intOf i).toNat)
  case atStart => exact ⟨0, 0, by omega, rfl, rfl⟩
  case round =>
    obtain ⟨k, nq, hk, rfl, rfl⟩ := hrel
    by_cases hlt : k < n
    · obtain ⟨b, o, rfl, hb1, hc1⟩ := hr.at_ (i := k) (by omega)
      obtain ⟨b', o', rfl, hb1', hc1'⟩ := hr'.at_ (i := k) (by omega)
      have hlt' : (k : Int) < (n : Int) := by omega
      go_wp2
      go_quiet (fail)
      go_wp2
      go_roundw
      case rel => exact ⟨k + 1, _, by omega, by go_num, rfl⟩
      case measure => simp [intOf]; omega
    · go_wp2
      go_ret
      exact ⟨rfl, nq, rfl⟩

end Go.Proofs.Ytcmbdhmhkfhjfaa.W
namespace Go.Proofs.Ytcmbdhmhkfhjfaa.W
open Go.RowKit

/-- A call returns a new slice, its own, that holds xs; nothing that was there has turned. -/
def Makes (k : IntKind) (t : TypeId) (w : World) (xs : List Int) (e : Ending) (w' : World) : Prop := ∃ v, e = .returned v ∧ Own k t w' w.heap.size v xs ∧ Below w.heap.size w w'

/-- A call returns a slice that fills a new block, the first new one, with xs; nothing that was there has turned. -/
def Lays (k : IntKind) (t : TypeId) (w : World) (xs : List Int) (m : Nat) (e : Ending) (w' : World) : Prop :=
  e = .returned (.slice (some ⟨w.heap.size, 0, none⟩) m m) ∧ w'.heap[w.heap.size]? = some (.cells (blk k xs) t (0, 0)) ∧ Below w.heap.size w w'

end Go.Proofs.Ytcmbdhmhkfhjfaa.W
namespace Go.Proofs.Ytcmbdhmhkfhjfaa.W
open Go.RowKit
set_option linter.unusedVariables false

theorem below_drewN {B : Nat} {a w : World} (h : Below B a w) (n : Nat) : Below B a (w.drewN n) := ⟨h.os, h.tape, h.output, h.size, h.block⟩
/-- Block g is just the row l. (A name: so the walk does not rewrite by it.) -/
def Bk (w : World) (g : Nat) (l : List Int) : Prop := w.heap[g]? = some (.cells (blk .u16 l) 66 (0, 0))
theorem Bk.below {w w' : World} {g : Nat} {l : List Int} (h : Bk w g l) (hb : Below w.heap.size w w') : Bk w' g l := (hb.block g (block_lt h)).trans h
theorem Bk.lt {w : World} {g : Nat} {l : List Int} (h : Bk w g l) : g < w.heap.size := block_lt h
theorem Bk.drewN {w : World} {g : Nat} {l : List Int} (h : Bk w g l) (n : Nat) : Bk (w.drewN n) g l := h
theorem Bk.row {w : World} {g : Nat} {l : List Int} (h : Bk w g l) (xs : List Int) (hw : ∀ x ∈ xs, (Lit.int .u16 x).wf = true) (hp : xs <+: l) : Row .u16 w w.heap.size (some ⟨g, 0, none⟩) xs :=
  (Row.of_block h xs hw hp).more h.lt
/-- A slice that is nil, or the beginning of block g. -/
def Li (w : World) (A : Option Addr) (m g : Nat) (l r : List Int) : Prop := A = none ∧ m = 0 ∨ A = some ⟨g, 0, none⟩ ∧ Bk w g (l ++ r)
theorem Li.below {w w' : World} {A : Option Addr} {m g : Nat} {l r : List Int} (h : Li w A m g l r) (hb : Below w.heap.size w w') : Li w' A m g l r := by
  rcases h with h | ⟨h1, h2⟩
  · exact .inl h
  · exact .inr ⟨h1, h2.below hb⟩
theorem Li.row {w : World} {A : Option Addr} {m g : Nat} {l r : List Int} (h : Li w A m g l r) (hm : l.length = m) (hw : ∀ x ∈ l, (Lit.int .u16 x).wf = true) : Row .u16 w w.heap.size A l := by
  rcases h with ⟨h1, h2⟩ | ⟨h1, h2⟩
  · have : l = [] := List.eq_nil_of_length_eq_zero (by omega)
    subst this
    exact Row.nil _ _ _ _
  · subst h1
    exact h2.row l hw (List.prefix_append _ _)
theorem bel_drewN (w : World) (n : Nat) : Below w.heap.size w (w.drewN n) := ⟨rfl, rfl, rfl, Nat.le_refl _, fun _ _ => rfl⟩

/-- A call returns a pair: a list that is nil or fills the first new block, and a number. -/
def Gives (w : World) (l : List Int) (err : Int) (e : Ending) (w' : World) : Prop :=
  ∃ A m, e = .returned (.tuple #[.slice A m m, .int .i64 err]) ∧ l.length = m ∧ Li w' A m w.heap.size l [] ∧ Below w.heap.size w w'
/-- A call returns a pair: a list of its own, and a number. -/
def GivesOwn (w : World) (l : List Int) (err : Int) (e : Ending) (w' : World) : Prop :=
  ∃ v, e = .returned (.tuple #[v, .int .i64 err]) ∧ Own .u16 66 w' w.heap.size v l ∧ Below w.heap.size w w'
theorem Li.lt {w : World} {A : Option Addr} {m g : Nat} {l r : List Int} (h : Li w A m g l r) : A = none ∨ g < w.heap.size := by
  rcases h with ⟨h1, _⟩ | ⟨_, h2⟩
  · exact .inl h1
  · exact .inr h2.lt
end Go.Proofs.Ytcmbdhmhkfhjfaa.W
namespace Go.Proofs.Ytcmbdhmhkfhjfaa.L
open Go.RowKit
set_option linter.unusedVariables false
set_option linter.unusedVariables false
/-- A list with each byte written over, up to a place. -/
def spoilL (k : Nat) (l : List Bool) : List Bool := (l.take k).map (! ·) ++ l.drop k
theorem spoilL_length (k : Nat) (l : List Bool) : (spoilL k l).length = l.length := by simp [spoilL]; omega
theorem bool_wf (x : Bool) : (Lit.bool x).wf = true := rfl
theorem spoilL_wf (k : Nat) (l : List Bool) (h : ∀ x ∈ l, (Lit.bool x).wf = true) : ∀ x ∈ spoilL k l, (Lit.bool x).wf = true := by
  intro x hx
  rcases List.mem_append.1 hx with hx | hx
  · obtain ⟨y, hy, rfl⟩ := List.mem_map.1 hx
    exact bool_wf _
  · exact h x (List.mem_of_mem_drop hx)
theorem spoilL_at (k : Nat) (l : List Bool) (hk : k < l.length) : nth (spoilL k l) k = nth l k := by
  have hl : ((l.take k).map (! ·)).length = k := by simp; omega
  have := nth_right ((l.take k).map (! ·)) (l.drop k) 0
  rw [hl, Nat.add_zero] at this
  rw [spoilL, this, nth, nth, List.getD_eq_getElem?_getD, List.getD_eq_getElem?_getD, List.getElem?_drop, Nat.add_zero]
theorem spoilL_set (k : Nat) (l : List Bool) (hk : k < l.length) : (spoilL k l).set k (!(nth l k)) = spoilL (k + 1) l := by
  have hl : ((l.take k).map (! ·)).length = k := by simp; omega
  have hd := List.drop_eq_getElem_cons hk
  rw [spoilL, List.set_append_right _ _ (by omega), hl, Nat.sub_self, spoilL, take_step l k hk]
  simp
  rw [hd]
  rfl
theorem spoilL_zero (l : List Bool) : spoilL 0 l = l := by simp [spoilL]

end Go.Proofs.Ytcmbdhmhkfhjfaa.L
namespace Go.Proofs.Ytcmbdhmhkfhjfaa.W
open Go.RowKit
set_option linter.unusedVariables false
/-- A list with each byte written over, up to a place. -/
def spoil16 (k : Nat) (l : List Int) : List Int := (l.take k).map (bits .xor .u16 · 23205) ++ l.drop k
theorem spoil16_length (k : Nat) (l : List Int) : (spoil16 k l).length = l.length := by simp [spoil16]; omega
theorem xor90_wf (x : Int) (h : (Lit.int .u16 x).wf = true) : (Lit.int .u16 (bits .xor .u16 x 23205)).wf = true := by
  have hx := wf_u16 h
  obtain ⟨n, rfl⟩ := Int.eq_ofNat_of_zero_le hx.1
  have hn : n < 65536 := by omega
  have := u16_xor_nat n 23205 hn (by omega)
  show (Lit.int .u16 (bits .xor .u16 (n : Int) ((23205 : Nat) : Int))).wf = true
  rw [this]
  have hlt : n ^^^ 23205 < 65536 := Nat.xor_lt_two_pow (n := 16) hn (by omega)
  simp [Lit.wf, IntKind.min, IntKind.max, IntKind.signed, IntKind.bits]; omega
theorem spoil16_wf (k : Nat) (l : List Int) (h : ∀ x ∈ l, (Lit.int .u16 x).wf = true) : ∀ x ∈ spoil16 k l, (Lit.int .u16 x).wf = true := by
  intro x hx
  rcases List.mem_append.1 hx with hx | hx
  · obtain ⟨y, hy, rfl⟩ := List.mem_map.1 hx
    exact xor90_wf y (h y (List.mem_of_mem_take hy))
  · exact h x (List.mem_of_mem_drop hx)
theorem spoil16_at (k : Nat) (l : List Int) (hk : k < l.length) : nth (spoil16 k l) k = nth l k := by
  have hl : ((l.take k).map (bits .xor .u16 · 23205)).length = k := by simp; omega
  have := nth_right ((l.take k).map (bits .xor .u16 · 23205)) (l.drop k) 0
  rw [hl, Nat.add_zero] at this
  rw [spoil16, this, nth, nth, List.getD_eq_getElem?_getD, List.getD_eq_getElem?_getD, List.getElem?_drop, Nat.add_zero]
theorem spoil16_set (k : Nat) (l : List Int) (hk : k < l.length) : (spoil16 k l).set k (bits .xor .u16 (nth l k) 23205) = spoil16 (k + 1) l := by
  have hl : ((l.take k).map (bits .xor .u16 · 23205)).length = k := by simp; omega
  have hd := List.drop_eq_getElem_cons hk
  rw [spoil16, List.set_append_right _ _ (by omega), hl, Nat.sub_self, spoil16, take_step l k hk]
  simp
  rw [hd]
  rfl
theorem spoil16_zero (l : List Int) : spoil16 0 l = l := by simp [spoil16]

end Go.Proofs.Ytcmbdhmhkfhjfaa.W
namespace Go.Proofs.Ytcmbdhmhkfhjfaa
open Go.RowKit
set_option linter.unusedVariables false

/-- A request: its numbers, its bits, its words, and its parts, three numbers each. -/
structure Req where
  c : Int
  a : Int
  n : Int
  on : List Bool
  set : List Int
  fl : List Int
def Req.zero : Req := ⟨0, 0, 0, [], [], []⟩

/-- The three lists of a request, where they lie and how long they are. -/
structure Asked (w : World) (B : Nat) (q : Req) (Ao As Ap : Option Addr) (lo ls lp : Nat) : Prop where
  on : L.Row () w B Ao q.on
  set : Row .u16 w B As q.set
  fl : Row .i64 w B Ap q.fl
  lo : q.on.length = lo
  ls : q.set.length = ls
  lp : q.fl.length = 3 * lp
theorem Asked.below {w w' : World} {B : Nat} {q : Req} {Ao As Ap : Option Addr} {lo ls lp : Nat} (h : Asked w B q Ao As Ap lo ls lp) (hb : Below B w w') : Asked w' B q Ao As Ap lo ls lp :=
  ⟨h.on.below hb, h.set.below hb, h.fl.below hb, h.lo, h.ls, h.lp⟩
theorem Asked.more {w : World} {B B' : Nat} {q : Req} {Ao As Ap : Option Addr} {lo ls lp : Nat} (h : Asked w B q Ao As Ap lo ls lp) (hB : B ≤ B') : Asked w B' q Ao As Ap lo ls lp :=
  ⟨h.on.more hB, h.set.more hB, h.fl.more hB, h.lo, h.ls, h.lp⟩
theorem Asked.up {w w' : World} {q : Req} {Ao As Ap : Option Addr} {lo ls lp : Nat} (h : Asked w w.heap.size q Ao As Ap lo ls lp) (hb : Below w.heap.size w w') : Asked w' w'.heap.size q Ao As Ap lo ls lp :=
  (h.below hb).more hb.size
theorem Asked.alloc {w : World} {B : Nat} {q : Req} {Ao As Ap : Option Addr} {lo ls lp : Nat} (h : Asked w B q Ao As Ap lo ls lp) (hB : B ≤ w.heap.size) (o : Obj) : Asked (w.alloc o) B q Ao As Ap lo ls lp :=
  h.below ((Below.refl _ _).alloc hB o)
theorem Asked.drewN {w : World} {B : Nat} {q : Req} {Ao As Ap : Option Addr} {lo ls lp : Nat} (h : Asked w B q Ao As Ap lo ls lp) (n : Nat) : Asked (w.drewN n) B q Ao As Ap lo ls lp := ⟨h.on, h.set, h.fl, h.lo, h.ls, h.lp⟩
theorem Asked.zero (w : World) (B : Nat) : Asked w B Req.zero none none none 0 0 0 := ⟨L.Row.nil _ _ _ _, Row.nil _ _ _ _, Row.nil _ _ _ _, rfl, rfl, rfl⟩
theorem heap_new_at (w : World) (o : Obj) {g : Nat} (h : w.heap.size = g) : (w.alloc o).heap[g]? = some o := by subst h; exact heap_alloc_new w o

theorem SameAsk_yes (q : Req) (Ao As Ap Ao' As' Ap' : Option Addr) (lo ls lp co cs cp co' cs' cp' : Nat) (w : World) (h : Asked w w.heap.size q Ao As Ap lo ls lp) (h' : Asked w w.heap.size q Ao' As' Ap' lo ls lp)
    (b1 : lo ≤ 1000000) (b2 : ls ≤ 1000000) (b3 : lp ≤ 1000000) :
    Calls Try.prog 9 #[.agg #[.int .i64 q.c, .int .i64 q.a, .int .i64 q.n, .slice Ao lo co, .slice As ls cs, .slice Ap lp cp], .agg #[.int .i64 q.c, .int .i64 q.a, .int .i64 q.n, .slice Ao' lo co', .slice As' ls cs', .slice Ap' lp cp']] w
      fun e w' => e = .returned (.bool true) ∧ Below w.heap.size w w' := by
  have bel := (bel_alloc w (.cells #[.int .i64 q.c, .int .i64 q.a, .int .i64 q.n, .slice Ao lo co, .slice As ls cs, .slice Ap lp cp] 29)).alloc (by simp) (.cells #[.int .i64 q.c, .int .i64 q.a, .int .i64 q.n, .slice Ao' lo co', .slice As' ls cs', .slice Ap' lp cp'] 29)
  have H := Lib.hid (h.below bel)
  have H' := Lib.hid (h'.below bel)
  clear h h'
  go_enter Try.func9, Try.ntmps9
  go_wp2_with fail
  refine (L.same_yes_bool _ _ _ _ _ q.on _ _ _ H.out.on H'.out.on H.out.lo (by omega)).mono ?_
  rintro e w' ⟨rfl, m1, rfl⟩
  go_wp2_with fail
  refine (W.same_yes_u16 _ _ _ _ _ q.set _ _ _ (H.out.set.drewN m1) (H'.out.set.drewN m1) H.out.ls (by omega)).mono ?_
  rintro e w' ⟨rfl, m2, rfl⟩
  rw [World.drewN_drewN]
  go_wp2_with fail
  refine (same_yes_part _ _ _ _ _ q.fl _ _ _ (H.out.fl.drewN (m1 + m2)) (H'.out.fl.drewN (m1 + m2)) H.out.lp (by omega)).mono ?_
  rintro e w' ⟨rfl, m3, rfl⟩
  rw [World.drewN_drewN]
  go_wp2
  go_ret
  exact ⟨rfl, below_drewN bel _⟩

theorem Own.set {k : IntKind} {e : TypeId} {w : World} {base : Nat} {v : Value} {xs : List Int} (h : Own k e w base v xs) {g : Nat} (hg : g < base) (i : Nat) (u : Value) : Own k e (w.setCell ⟨g, i, none⟩ u) base v xs :=
  h.kept (grown_setCell (World.grownBy.refl _ _) i u) (.inr fun hv => by have := (h.block g hv).1; omega)
theorem L.Own.set {k : Unit} {e : TypeId} {w : World} {base : Nat} {v : Value} {xs : List Bool} (h : L.Own k e w base v xs) {g : Nat} (hg : g < base) (i : Nat) (u : Value) : L.Own k e (w.setCell ⟨g, i, none⟩ u) base v xs :=
  h.kept (grown_setCell (World.grownBy.refl _ _) i u) (.inr fun hv => by have := (h.block g hv).1; omega)
theorem POwn.set {e : TypeId} {w : World} {base : Nat} {v : Value} {fl : List Int} (h : POwn e w base v fl) {g : Nat} (hg : g < base) (i : Nat) (u : Value) : POwn e (w.setCell ⟨g, i, none⟩ u) base v fl := by
  rcases h with h | ⟨g', n, cap, r, h1, h2, h3, h4, h5⟩
  · exact .inl h
  · exact .inr ⟨g', n, cap, r, h1, h2, h3, (Below.heap_setCell w ⟨g, i, none⟩ u g' (by simp; omega)).trans h4, h5⟩

/-- Six cells of a block are written. -/
def put6 (w : World) (g : Nat) (v0 v1 v2 v3 v4 v5 : Value) : World :=
  (((((w.setCell ⟨g, 0, none⟩ v0).setCell ⟨g, 1, none⟩ v1).setCell ⟨g, 2, none⟩ v2).setCell ⟨g, 3, none⟩ v3).setCell ⟨g, 4, none⟩ v4).setCell ⟨g, 5, none⟩ v5
theorem put6_heap {w : World} {g : Nat} {t : TypeId} {u0 u1 u2 u3 u4 u5 : Value} (h : w.heap[g]? = some (.cells #[u0, u1, u2, u3, u4, u5] t (0, 0))) (v0 v1 v2 v3 v4 v5 : Value) :
    (put6 w g v0 v1 v2 v3 v4 v5).heap[g]? = some (.cells #[v0, v1, v2, v3, v4, v5] t (0, 0)) :=
  box_set (box_set (box_set (box_set (box_set (box_set h 0 v0) 1 v1) 2 v2) 3 v3) 4 v4) 5 v5
theorem Own.put6 {k : IntKind} {e : TypeId} {w : World} {base : Nat} {v : Value} {xs : List Int} (h : Own k e w base v xs) {g : Nat} (hg : g < base) (v0 v1 v2 v3 v4 v5 : Value) : Own k e (put6 w g v0 v1 v2 v3 v4 v5) base v xs :=
  (((((h.set hg 0 v0).set hg 1 v1).set hg 2 v2).set hg 3 v3).set hg 4 v4).set hg 5 v5
theorem L.Own.put6 {k : Unit} {e : TypeId} {w : World} {base : Nat} {v : Value} {xs : List Bool} (h : L.Own k e w base v xs) {g : Nat} (hg : g < base) (v0 v1 v2 v3 v4 v5 : Value) : L.Own k e (put6 w g v0 v1 v2 v3 v4 v5) base v xs :=
  (((((h.set hg 0 v0).set hg 1 v1).set hg 2 v2).set hg 3 v3).set hg 4 v4).set hg 5 v5
theorem POwn.put6 {e : TypeId} {w : World} {base : Nat} {v : Value} {fl : List Int} (h : POwn e w base v fl) {g : Nat} (hg : g < base) (v0 v1 v2 v3 v4 v5 : Value) : POwn e (put6 w g v0 v1 v2 v3 v4 v5) base v fl :=
  (((((h.set hg 0 v0).set hg 1 v1).set hg 2 v2).set hg 3 v3).set hg 4 v4).set hg 5 v5
theorem below_put6 {B : Nat} {a w : World} {g : Nat} (h : Below B a w) (hg : B ≤ g) (v0 v1 v2 v3 v4 v5 : Value) : Below B a (put6 w g v0 v1 v2 v3 v4 v5) :=
  below_setCell (below_setCell (below_setCell (below_setCell (below_setCell (below_setCell h hg 0 v0) hg 1 v1) hg 2 v2) hg 3 v3) hg 4 v4) hg 5 v5
/-- The six cells of a block that is known whole. -/
theorem cells6 {w : World} {g : Nat} {t : TypeId} {v0 v1 v2 v3 v4 v5 : Value} (h : w.heap[g]? = some (.cells #[v0, v1, v2, v3, v4, v5] t (0, 0))) :
    (w.cell? ⟨g, 0, none⟩ = some v0 ∧ w.cell? ⟨g, 1, none⟩ = some v1 ∧ w.cell? ⟨g, 2, none⟩ = some v2) ∧ (w.cell? ⟨g, 3, none⟩ = some v3 ∧ w.cell? ⟨g, 4, none⟩ = some v4 ∧ w.cell? ⟨g, 5, none⟩ = some v5) ∧ ∀ i, w.frozen? ⟨g, i, none⟩ = false :=
  ⟨⟨cell_of_row w g 0 _ _ _ h, cell_of_row w g 1 _ _ _ h, cell_of_row w g 2 _ _ _ h⟩, ⟨cell_of_row w g 3 _ _ _ h, cell_of_row w g 4 _ _ _ h, cell_of_row w g 5 _ _ _ h⟩, fun i => block_frozen w g i _ _ h⟩
end Go.Proofs.Ytcmbdhmhkfhjfaa
namespace Go.Proofs.Ytcmbdhmhkfhjfaa
open Go.RowKit
/-- The n lowest bytes of a number, the highest first. -/
def be : Nat → Nat → List Int
  | 0, _ => []
  | n + 1, v => ((v / 256 ^ n % 256 : Nat) : Int) :: be n v
theorem be_length (n v : Nat) : (be n v).length = n := by
  induction n with
  | zero => rfl
  | succ n ih => simp [be, ih]
theorem be_wf (n v : Nat) : ∀ x ∈ be n v, (Lit.int .u8 x).wf = true := by
  induction n with
  | zero => intro x hx; cases hx
  | succ n ih =>
    intro x hx
    simp only [be, List.mem_cons] at hx
    rcases hx with rfl | hx
    · exact wf_byte _ (Nat.mod_lt _ (by omega))
    · exact ih x hx
theorem be_nth (n v : Nat) (j : Nat) (h : j < n) : nth (be n v) j = ((v / 256 ^ (n - 1 - j) % 256 : Nat) : Int) := by
  induction n generalizing j with
  | zero => omega
  | succ n ih =>
    cases j with
    | zero => simp [be, nth]
    | succ j =>
      have := ih j (by omega)
      rw [show n + 1 - 1 - (j + 1) = n - 1 - j by omega, ← this]
      simp [be, nth]
/-- What bytes are as a number, the highest one first. -/
def bval (xs : List Int) : Nat := xs.foldl (fun v x => v * 256 + x.toNat) 0
theorem bval_snoc (xs : List Int) (x : Int) : bval (xs ++ [x]) = bval xs * 256 + x.toNat := by simp [bval]
theorem bval_lt (xs : List Int) (h : ∀ x ∈ xs, (Lit.int .u8 x).wf = true) : bval xs < 256 ^ xs.length := by
  have H : ∀ (xs : List Int) (a n : Nat), (∀ x ∈ xs, (Lit.int .u8 x).wf = true) → a < 256 ^ n → xs.foldl (fun v x => v * 256 + x.toNat) a < 256 ^ (n + xs.length) := by
    intro xs
    induction xs with
    | nil => intro a n _ ha; simpa using ha
    | cons x xs ih =>
      intro a n hx ha
      have h1 := wf_u8 (hx x (by simp))
      have h2 := ih (a * 256 + x.toNat) (n + 1) (fun y hy => hx y (by simp [hy])) (by rw [Nat.pow_succ]; omega)
      rw [show n + 1 + xs.length = n + (x :: xs).length by simp; omega] at h2
      exact h2
  have := H xs 0 0 h (by simp)
  simpa [bval] using this
theorem bval_be (n v : Nat) (h : v < 256 ^ n) : bval (be n v) = v := by
  have H : ∀ (n a : Nat), (be n v).foldl (fun v x => v * 256 + x.toNat) a = a * 256 ^ n + v % 256 ^ n := by
    intro n
    induction n with
    | zero => intro a; simp [be]; omega
    | succ n ih =>
      intro a
      rw [be, List.foldl_cons, ih, Nat.mod_pow_succ, Int.toNat_natCast, Nat.add_mul, Nat.pow_succ, Nat.mul_assoc a, Nat.mul_comm 256, Nat.mul_comm (256 ^ n) (v / 256 ^ n % 256)]
      omega
  rw [bval, H, Nat.mod_eq_of_lt h]; omega
theorem bval_pow_le {n : Nat} (h : n ≤ 7) {a : Nat} (ha : a < 256 ^ n) : a * 256 + 255 < 18446744073709551616 := by
  have : (256 : Nat) ^ n ≤ 256 ^ 7 := Nat.pow_le_pow_right (by omega) h
  have e : (256 : Nat) ^ 7 = 72057594037927936 := by decide
  omega
theorem pow_le_64 {n : Nat} (h : n ≤ 8) : (256 : Nat) ^ n ≤ 18446744073709551616 := by
  have : (256 : Nat) ^ n ≤ 256 ^ 8 := Nat.pow_le_pow_right (by omega) h
  have e : (256 : Nat) ^ 8 = 18446744073709551616 := by decide
  omega
theorem div_step (s j : Nat) : s / 256 ^ j / 256 = s / 256 ^ (j + 1) := by rw [Nat.div_div_eq_div_mul, Nat.pow_succ]
/-- One more byte is laid, from the last one on. -/
theorem lay_step (P R Q : List Int) (n i v : Nat) (hi : i < n) (hR : R.length = n) :
    (P ++ (R.take (n - i) ++ (be i v ++ Q))).set (P.length + (n - 1 - i)) ((v / 256 ^ i % 256 : Nat) : Int) = P ++ (R.take (n - (i + 1)) ++ (be (i + 1) v ++ Q)) := by
  have e : R.take (n - i) = R.take (n - (i + 1)) ++ [nth R (n - (i + 1))] := by
    have := take_step R (n - (i + 1)) (by omega)
    rwa [show n - (i + 1) + 1 = n - i by omega] at this
  have hl : (R.take (n - (i + 1))).length = n - (i + 1) := by simp; omega
  rw [e, List.set_append_right _ _ (by omega), List.append_assoc, List.set_append_right _ _ (by omega), hl, show P.length + (n - 1 - i) - P.length - (n - (i + 1)) = 0 by omega]
  rfl
theorem lay_len (P R Q : List Int) (n i v : Nat) (hi : i ≤ n) (hR : R.length = n) : (P ++ (R.take (n - i) ++ (be i v ++ Q))).length = P.length + n + Q.length := by
  simp [be_length]; omega
/-- Of two numbers the first byte that differs decides. -/
theorem be_first (n a b i : Nat) (hi : i < n) (he : ∀ j, j < i → nth (be n a) j = nth (be n b) j) :
    (nth (be n a) i < nth (be n b) i → a % 256 ^ n < b % 256 ^ n) ∧ (nth (be n b) i < nth (be n a) i → b % 256 ^ n < a % 256 ^ n) := by
  induction n generalizing i with
  | zero => omega
  | succ n ih =>
    rw [Nat.mod_pow_succ, Nat.mod_pow_succ]
    have ha := Nat.mod_lt a (show 256 ^ n > 0 by exact Nat.pow_pos (by omega))
    have hb := Nat.mod_lt b (show 256 ^ n > 0 by exact Nat.pow_pos (by omega))
    cases i with
    | zero =>
      have key : ∀ (p q r s : Nat), p < 256 ^ n → r < s → p + 256 ^ n * r < q + 256 ^ n * s := by
        intro p q r s hp hrs
        have h1 : 256 ^ n * (r + 1) ≤ 256 ^ n * s := Nat.mul_le_mul_left _ hrs
        rw [Nat.mul_add, Nat.mul_one] at h1
        omega
      simp only [be, nth, List.getD_cons_zero]
      exact ⟨fun h => key _ _ _ _ ha (by omega), fun h => key _ _ _ _ hb (by omega)⟩
    | succ i =>
      have h0 := he 0 (by omega)
      simp only [be, nth, List.getD_cons_zero] at h0
      have h0' : a / 256 ^ n % 256 = b / 256 ^ n % 256 := by omega
      have := ih i (by omega) (fun j hj => by have := he (j + 1) (by omega); simpa [be, nth] using this)
      simp only [be, nth, List.getD_cons_succ]
      rw [h0']
      exact ⟨fun h => by have := this.1 h; omega, fun h => by have := this.2 h; omega⟩
theorem be_same (n a b : Nat) (he : ∀ j, j < n → nth (be n a) j = nth (be n b) j) : a % 256 ^ n = b % 256 ^ n := by
  induction n with
  | zero => simp; omega
  | succ n ih =>
    have h0 := he 0 (by omega)
    simp only [be, nth, List.getD_cons_zero] at h0
    have h0' : a / 256 ^ n % 256 = b / 256 ^ n % 256 := by omega
    rw [Nat.mod_pow_succ, Nat.mod_pow_succ, h0', ih (fun j hj => by have := he (j + 1) (by omega); simpa [be, nth] using this)]
theorem or_low (a b : Nat) (h : b < 256) : a * 256 ||| b = a * 256 + b := by
  have := Nat.shiftLeft_add_eq_or_of_lt (i := 8) h a
  rw [Nat.shiftLeft_eq] at this
  exact this.symm
end Go.Proofs.Ytcmbdhmhkfhjfaa
namespace Go.Proofs.Ytcmbdhmhkfhjfaa
open Go.RowKit
set_option linter.unusedVariables false
theorem shl_or (a : Nat) (x : Int) (k : Nat) (h : k ≤ 7) (ha : a < 256 ^ k) (hx : 0 ≤ x ∧ x < 256) : bits .or .u64 (IntKind.u64.wrap ((a : Int) * 256)) x = ((a * 256 + x.toNat : Nat) : Int) := by
  have h1 := bval_pow_le h ha
  clear ha h
  obtain ⟨y, rfl⟩ := Int.eq_ofNat_of_zero_le hx.1
  have h3 : a * 256 < 18446744073709551616 := Nat.lt_of_le_of_lt (Nat.le_add_right _ _) h1
  have hy : y < 256 := by omega
  have h4 : y < 18446744073709551616 := Nat.lt_trans hy (by decide)
  have h2 : IntKind.u64.wrap ((a : Int) * 256) = ((a * 256 : Nat) : Int) := by
    have e : ((a : Int) * 256) = ((a * 256 : Nat) : Int) := rfl
    rw [IntKind.wrap_u64, e]
    exact Int.emod_eq_of_lt (Int.natCast_nonneg _) (Int.ofNat_lt.2 h3)
  have h5 := u64_or_nat (a * 256) y h3 h4
  rw [h2, h5, or_low a y hy, Int.toNat_natCast]
end Go.Proofs.Ytcmbdhmhkfhjfaa
namespace Go.Proofs.Ytcmbdhmhkfhjfaa
open Go.RowKit
set_option linter.unusedVariables false

/-- A call returns a pair: no list, and an error. -/
def Errs (n : Int) (w : World) (e : Ending) (w' : World) : Prop := e = .returned (.tuple #[.slice none 0 0, .int .i64 n]) ∧ w = w'
/-- A call returns a pair: a list that fills the first new block, and no error. -/
def Opens (w : World) (l : List Int) (m : Nat) (e : Ending) (w' : World) : Prop :=
  e = .returned (.tuple #[.slice (some ⟨w.heap.size, 0, none⟩) m m, .int .i64 0]) ∧ w'.heap[w.heap.size]? = some (.cells (blk .u8 l) 5 (0, 0)) ∧ Below w.heap.size w w'
/-- A call returns a pair: a list of its own, and no error. -/
def Makes2 (w : World) (xs : List Int) (e : Ending) (w' : World) : Prop := ∃ v, e = .returned (.tuple #[v, .int .i64 0]) ∧ Own .u8 5 w' w.heap.size v xs ∧ Below w.heap.size w w'

theorem info_size : (Try.prog.info? 5).map (·.size) = some 1 := by kernel_rfl
theorem setRow_alloc (w : World) (cur cs : Array Value) (t : TypeId) : (w.alloc (.cells cur t)).setRow w.heap.size cs = w.alloc (.cells cs t) := by
  have h : ((w.alloc (.cells cur t)).setRow w.heap.size cs).heap = (w.alloc (.cells cs t)).heap := by
    apply Array.ext_getElem?
    intro i
    by_cases hi : i = w.heap.size
    · subst hi
      rw [setRow_heap _ _ _ _ _ _ (heap_alloc_new w (.cells cur t)), heap_alloc_new]
    · rw [setRow_other _ _ _ _ hi]
      by_cases h2 : i < w.heap.size
      · rw [Below.heap_alloc w _ i h2, Below.heap_alloc w _ i h2]
      · rw [Array.getElem?_eq_none (by simp; omega), Array.getElem?_eq_none (by simp; omega)]
  exact congrArg (fun H => ({ w with heap := H } : World)) h
/-- 'copy' into a new block, as long a row as it holds. -/
theorem copy_new {P : Program} (k : IntKind) (w : World) (dT ty e : TypeId) (A : Option Addr) (m c q : Nat) (Z xs : List Int) (hu : P.underlying dT = some (.slice e)) (hs : (P.info? e).map (·.size) = some 1)
    (hr : Row k w w.heap.size A xs) (hm : xs.length = m) (hq : Z.length = q) (hz : m ≤ q) (t : TypeId) :
    (Builtin.copy_ #[dT, dT] ty #[.slice (some ⟨w.heap.size, 0, none⟩) q q, .slice A m c]).run P (w.alloc (.cells (blk k Z) t)) = .ok (.int .i64 m) (w.alloc (.cells (blk k (xs ++ Z.drop m)) t)) := by
  rcases Nat.eq_zero_or_pos m with h0 | h0
  · subst h0
    have : xs = [] := List.eq_nil_of_length_eq_zero hm
    subst this
    have := run_copy_none (P := P) (w.alloc (.cells (blk k Z) t)) dT dT ty e (some ⟨w.heap.size, 0, none⟩) A q q 0 c hu hs (Nat.zero_min _)
    simpa [goInt] using this
  · obtain ⟨b, o, rfl, _, hc⟩ := (hr.alloc (Nat.le_refl _) (.cells (blk k Z) t)).2 (by omega)
    have := run_copy_row (P := P) (w.alloc (.cells (blk k Z) t)) dT dT ty e w.heap.size 0 q q ⟨b, o, none⟩ m c (blk k Z) t (xs.map (Value.int k)) hu hs (heap_alloc_new w _)
      (by rw [List.length_map, hm]; exact (Nat.min_eq_left hz).symm) (fun j v hj => by
        rw [List.getElem?_map] at hj
        by_cases hlt : j < xs.length
        · rw [List.getElem?_eq_getElem hlt] at hj
          rw [Go.WideShapes.add_plain, hc j hlt, nth_eq xs j hlt]
          exact hj
        · rw [List.getElem?_eq_none (by omega)] at hj
          cases hj) (by rw [List.length_map, blk_size]; omega) (ints_oneCell _ _)
    rw [this, setRow_alloc]
    simp [goInt, hm, blk, List.map_drop]

end Go.Proofs.Ytcmbdhmhkfhjfaa
namespace Go.Proofs.Ytcmbdhmhkfhjfaa
open Go.RowKit
set_option linter.unusedVariables false
/-- A call returns a pair of numbers, and nothing has turned. -/
def Tells (v e : Int) (w : World) (r : Ending) (w' : World) : Prop := r = .returned (.tuple #[.int .u64 v, .int .i64 e]) ∧ w = w'

end Go.Proofs.Ytcmbdhmhkfhjfaa
namespace Go.Proofs.Ytcmbdhmhkfhjfaa
open Go.RowKit

/-- Words as bytes, two a word, the higher first. -/
def wbytes : List Int → List Int
  | [] => []
  | x :: xs => be 2 x.toNat ++ wbytes xs
theorem wbytes_append (a b : List Int) : wbytes (a ++ b) = wbytes a ++ wbytes b := by
  induction a with
  | nil => rfl
  | cons x a ih => simp [wbytes, ih]
theorem wbytes_snoc (a : List Int) (x : Int) : wbytes (a ++ [x]) = wbytes a ++ be 2 x.toNat := by simp [wbytes_append, wbytes]
theorem wbytes_length (a : List Int) : (wbytes a).length = 2 * a.length := by
  induction a with
  | nil => rfl
  | cons x a ih => simp [wbytes, ih, be_length]; omega
theorem wbytes_wf (a : List Int) : ∀ x ∈ wbytes a, (Lit.int .u8 x).wf = true := by
  induction a with
  | nil => intro x hx; cases hx
  | cons y a ih => exact wf_append (be_wf _ _) ih
/-- The word that stands at a place. -/
def word (ys : List Int) (i : Nat) : Int := nth ys (2 * i) * 256 + nth ys (2 * i + 1)
/-- Bytes as words. -/
def wwords (ys : List Int) : List Int := (List.range (ys.length / 2)).map (word ys)
theorem wwords_length (ys : List Int) : (wwords ys).length = ys.length / 2 := by simp [wwords]
theorem wwords_nth (ys : List Int) (i : Nat) (h : i < ys.length / 2) : nth (wwords ys) i = word ys i := by
  rw [nth_eq _ _ (by rw [wwords_length]; exact h)]; simp [wwords]
theorem wf_word16 {n : Int} (h : 0 ≤ n ∧ n < 65536) : (Lit.int .u16 n).wf = true := by
  simp [Lit.wf, IntKind.min, IntKind.max, IntKind.signed, IntKind.bits]; omega
theorem word_bound (ys : List Int) (hw : ∀ x ∈ ys, (Lit.int .u8 x).wf = true) (i : Nat) (h : i < ys.length / 2) : (0 ≤ nth ys (2 * i) ∧ nth ys (2 * i) < 256) ∧ (0 ≤ nth ys (2 * i + 1) ∧ nth ys (2 * i + 1) < 256) :=
  ⟨wf_u8 (hw _ (nth_mem _ _ (by omega))), wf_u8 (hw _ (nth_mem _ _ (by omega)))⟩
theorem wwords_wf (ys : List Int) (hw : ∀ x ∈ ys, (Lit.int .u8 x).wf = true) : ∀ x ∈ wwords ys, (Lit.int .u16 x).wf = true := by
  intro x hx
  simp only [wwords, List.mem_map, List.mem_range] at hx
  obtain ⟨i, hi, rfl⟩ := hx
  have := word_bound ys hw i hi
  exact wf_word16 (by unfold word; omega)
theorem bval_two (ys : List Int) (i : Nat) (h : i + 2 ≤ ys.length) : bval ((ys.drop i).take 2) = (nth ys i).toNat * 256 + (nth ys (i + 1)).toNat := by
  have e : (ys.drop i).take 2 = [nth ys i, nth ys (i + 1)] := by
    rw [List.drop_eq_getElem_cons (by omega), List.drop_eq_getElem_cons (by omega), nth_eq ys i (by omega), nth_eq ys (i + 1) (by omega)]
    rfl
  rw [e]
  simp [bval]
theorem bval_word (ys : List Int) (hw : ∀ x ∈ ys, (Lit.int .u8 x).wf = true) (i : Nat) (h : i < ys.length / 2) : ((bval ((ys.drop (2 * i)).take 2) : Nat) : Int) = word ys i := by
  have := word_bound ys hw i h
  rw [bval_two ys (2 * i) (by omega), word]
  omega
theorem be_two (v : Nat) : be 2 v = [((v / 256 % 256 : Nat) : Int), ((v % 256 : Nat) : Int)] := by simp [be]
theorem wwords_take (ys : List Int) (k : Nat) (h : k < ys.length / 2) : (wwords ys).take (k + 1) = (wwords ys).take k ++ [word ys k] := by
  rw [take_step _ _ (by rw [wwords_length]; exact h), wwords_nth ys k h]
theorem word_cons (a b : Int) (ys : List Int) (i : Nat) : word (a :: b :: ys) (i + 1) = word ys i := by
  simp only [word, nth, List.getD_eq_getElem?_getD, show 2 * (i + 1) = 2 * i + 1 + 1 by omega, List.getElem?_cons_succ]
theorem wwords_cons (a b : Int) (ys : List Int) : wwords (a :: b :: ys) = (a * 256 + b) :: wwords ys := by
  unfold wwords
  rw [show (a :: b :: ys).length / 2 = ys.length / 2 + 1 by simp; omega, List.range_succ_eq_map, List.map_cons, List.map_map]
  congr 1
theorem wwords_wbytes (xs : List Int) (h : ∀ x ∈ xs, (Lit.int .u16 x).wf = true) : wwords (wbytes xs) = xs := by
  induction xs with
  | nil => rfl
  | cons x xs ih =>
    have hx := wf_u16 (h x (by simp))
    rw [wbytes, be_two, List.cons_append, List.cons_append, List.nil_append, wwords_cons, ih (fun y hy => h y (by simp [hy]))]
    congr 1
    omega
theorem wbytes_wwords : ∀ (ys : List Int), (∀ x ∈ ys, (Lit.int .u8 x).wf = true) → ys.length % 2 = 0 → wbytes (wwords ys) = ys
  | [], _, _ => rfl
  | [a], _, h => by simp at h
  | a :: b :: ys, hw, h => by
    have ha := wf_u8 (hw a (by simp))
    have hb := wf_u8 (hw b (by simp))
    rw [wwords_cons, wbytes, be_two, wbytes_wwords ys (fun x hx => hw x (by simp [hx])) (by simp at h; omega)]
    have e1 : (((a * 256 + b).toNat / 256 % 256 : Nat) : Int) = a := by omega
    have e2 : (((a * 256 + b).toNat % 256 : Nat) : Int) = b := by omega
    rw [e1, e2]
    rfl
end Go.Proofs.Ytcmbdhmhkfhjfaa
namespace Go.Proofs.Ytcmbdhmhkfhjfaa
open Go.RowKit
set_option linter.unusedVariables false

theorem zeros_two (k m : Nat) : (List.replicate (2 * (m + 1)) (0 : Int)) = List.replicate 2 0 ++ List.replicate (2 * m) 0 := by
  rw [List.replicate_append_replicate]; congr 1; omega
theorem wrap_word (ys : List Int) (hw : ∀ x ∈ ys, (Lit.int .u8 x).wf = true) (k : Nat) (h : k < ys.length / 2) : IntKind.u16.wrap (word ys k) = word ys k := by
  have := word_bound ys hw k h
  rw [IntKind.wrap_u16, word]; omega
end Go.Proofs.Ytcmbdhmhkfhjfaa
namespace Go.Proofs.Ytcmbdhmhkfhjfaa
open Go.RowKit
set_option linter.unusedVariables false

def wordsL (ys : List Int) : List Int := if ys.length % 2 = 1 then [] else wwords ys
def wordsE (ys : List Int) : Int := if ys.length % 2 = 1 then 22 else 0
theorem wordsL_wf {ys : List Int} (h : ∀ x ∈ ys, (Lit.int .u8 x).wf = true) : ∀ x ∈ wordsL ys, (Lit.int .u16 x).wf = true := by
  unfold wordsL
  split
  · simp
  · exact wwords_wf ys h
theorem wordsL_le (ys : List Int) : (wordsL ys).length ≤ ys.length := by
  unfold wordsL
  split
  · simp
  · rw [wwords_length]; omega
theorem Lays.li {w w' : World} {l : List Int} {m : Nat} {e : Ending} (h : Lays .u8 5 w l m e w') : e = .returned (.slice (some ⟨w.heap.size, 0, none⟩) m m) ∧ Li w' (some ⟨w.heap.size, 0, none⟩) m w.heap.size l [] ∧ Below w.heap.size w w' :=
  ⟨h.1, .inr ⟨rfl, by rw [List.append_nil]; exact h.2.1⟩, h.2.2⟩
end Go.Proofs.Ytcmbdhmhkfhjfaa
namespace Go.Proofs.Ytcmbdhmhkfhjfaa
open Go.RowKit

/-- What the first t bits of byte j count. -/
def bsum (bs : List Bool) (j : Nat) : Nat → Nat
  | 0 => 0
  | t + 1 => bsum bs j t + (if L.nth bs (8 * j + t) then 2 ^ t else 0)
theorem bsum_lt (bs : List Bool) (j t : Nat) : bsum bs j t < 2 ^ t := by
  induction t with
  | zero => simp [bsum]
  | succ t ih =>
    rw [bsum, Nat.pow_succ]
    split <;> omega
theorem bsum_same (a b : List Bool) (j t : Nat) (h : ∀ s, s < t → L.nth a (8 * j + s) = L.nth b (8 * j + s)) : bsum a j t = bsum b j t := by
  induction t with
  | zero => rfl
  | succ t ih => rw [bsum, bsum, ih (fun s hs => h s (by omega)), h t (by omega)]
/-- One bit more. -/
theorem bsum_more (a b : List Bool) (j s t : Nat) (hs : s < t) (ha : L.nth a (8 * j + s) = false) (h : ∀ r, r ≠ s → L.nth a (8 * j + r) = L.nth b (8 * j + r)) :
    bsum b j t = bsum a j t + (if L.nth b (8 * j + s) then 2 ^ s else 0) := by
  induction t with
  | zero => omega
  | succ t ih =>
    rw [bsum, bsum]
    by_cases e : s = t
    · subst e
      rw [ha, bsum_same a b j s (fun r hr => h r (by omega))]
      simp
    · rw [ih (by omega), h t (fun e' => e e'.symm)]
      omega
theorem bsum_stop (a : List Bool) (j s t : Nat) (hs : s ≤ t) (h : ∀ r, s ≤ r → L.nth a (8 * j + r) = false) : bsum a j t = bsum a j s := by
  induction t with
  | zero =>
    have : s = 0 := by omega
    rw [this]
  | succ t ih =>
    by_cases e : s = t + 1
    · rw [e]
    · rw [bsum, h t (by omega), ih (by omega)]; simp
/-- m bytes of bits. -/
def pk (bs : List Bool) (m : Nat) : List Int := (List.range m).map fun j => ((bsum bs j 8 : Nat) : Int)
theorem pk_length (bs : List Bool) (m : Nat) : (pk bs m).length = m := by simp [pk]
theorem pk_nth (bs : List Bool) (m j : Nat) (h : j < m) : nth (pk bs m) j = ((bsum bs j 8 : Nat) : Int) := by
  rw [nth_eq _ _ (by rw [pk_length]; exact h)]; simp [pk]
theorem pk_wf (bs : List Bool) (m : Nat) : ∀ x ∈ pk bs m, (Lit.int .u8 x).wf = true := by
  intro x hx
  simp only [pk, List.mem_map] at hx
  obtain ⟨j, _, rfl⟩ := hx
  exact wf_byte _ (by have := bsum_lt bs j 8; omega)
theorem nth_take (bs : List Bool) (k i : Nat) : L.nth (bs.take k) i = if i < k then L.nth bs i else false := by
  unfold L.nth
  rw [List.getD_eq_getElem?_getD, List.getD_eq_getElem?_getD]
  split
  · rw [List.getElem?_take_of_lt (by assumption)]
  · rw [List.getElem?_take_eq_none (by omega)]; rfl
theorem nth_take_off (bs : List Bool) (k i : Nat) (h : k ≤ i) : L.nth (bs.take k) i = false := by rw [nth_take, if_neg (by omega)]
theorem pk_low (bs : List Bool) (k : Nat) : bsum (bs.take k) (k / 8) 8 < 2 ^ (k % 8) := by
  rw [bsum_stop (bs.take k) (k / 8) (k % 8) 8 (by omega) (fun r hr => nth_take_off _ _ _ (by omega))]
  exact bsum_lt _ _ _
theorem take_byte (bs : List Bool) (k j : Nat) (h : j ≠ k / 8) : bsum (bs.take (k + 1)) j 8 = bsum (bs.take k) j 8 := by
  refine bsum_same _ _ _ _ fun s hs => ?_
  rw [nth_take, nth_take]
  have : (8 * j + s < k + 1) = (8 * j + s < k) := by apply propext; omega
  simp only [this]
theorem take_bit (bs : List Bool) (k : Nat) : bsum (bs.take (k + 1)) (k / 8) 8 = bsum (bs.take k) (k / 8) 8 + (if L.nth bs k then 2 ^ (k % 8) else 0) := by
  rw [bsum_more (bs.take k) (bs.take (k + 1)) (k / 8) (k % 8) 8 (by omega) (nth_take_off _ _ _ (by omega)) (fun r hr => by
    rw [nth_take, nth_take]
    have : (8 * (k / 8) + r < k + 1) = (8 * (k / 8) + r < k) := by apply propext; omega
    simp only [this])]
  rw [show 8 * (k / 8) + k % 8 = k by omega, show L.nth (bs.take (k + 1)) k = L.nth bs k by rw [nth_take, if_pos (by omega)]]
theorem pk_off (bs : List Bool) (k m : Nat) (h : L.nth bs k = false) : pk (bs.take (k + 1)) m = pk (bs.take k) m := by
  refine ext_nth _ _ (by rw [pk_length, pk_length]) fun j hj => ?_
  rw [pk_length] at hj
  rw [pk_nth _ _ _ hj, pk_nth _ _ _ hj]
  by_cases e : j = k / 8
  · subst e; rw [take_bit, h]; simp
  · rw [take_byte bs k j e]
theorem nth_set (l : List Int) (i j : Nat) (v : Int) (hi : i < l.length) : nth (l.set i v) j = if i = j then v else nth l j := by
  unfold nth
  rw [List.getD_eq_getElem?_getD, List.getD_eq_getElem?_getD, List.getElem?_set]
  split
  · rfl
  · rfl
theorem pk_on (bs : List Bool) (k m : Nat) (hm : k / 8 < m) (h : L.nth bs k = true) : (pk (bs.take k) m).set (k / 8) ((bsum (bs.take k) (k / 8) 8 + 2 ^ (k % 8) : Nat) : Int) = pk (bs.take (k + 1)) m := by
  refine ext_nth _ _ (by rw [List.length_set, pk_length, pk_length]) fun j hj => ?_
  rw [List.length_set, pk_length] at hj
  rw [nth_set _ _ _ _ (by rw [pk_length]; exact hm), pk_nth _ _ _ hj, pk_nth _ _ _ hj]
  by_cases e : k / 8 = j
  · subst e; rw [if_pos rfl, take_bit, h]; simp
  · rw [if_neg e, take_byte bs k j (fun e' => e e'.symm)]
theorem or_high (a s : Nat) (h : a < 2 ^ s) : a ||| 2 ^ s = a + 2 ^ s := by
  have := Nat.shiftLeft_add_eq_or_of_lt h 1
  rw [Nat.shiftLeft_eq, Nat.one_mul] at this
  rw [Nat.or_comm, ← this, Nat.add_comm]
/-- The bit i of bytes. -/
def bitAt (ys : List Int) (i : Nat) : Bool := decide ((nth ys (i / 8)).toNat / 2 ^ (i % 8) % 2 = 1)
def unpk (ys : List Int) (n : Nat) : List Bool := (List.range n).map (bitAt ys)
theorem unpk_length (ys : List Int) (n : Nat) : (unpk ys n).length = n := by simp [unpk]
theorem unpk_nth (ys : List Int) (n i : Nat) (h : i < n) : L.nth (unpk ys n) i = bitAt ys i := by
  rw [L.nth_eq _ _ (by rw [unpk_length]; exact h)]; simp [unpk]
theorem unpk_step (ys : List Int) (n : Nat) : unpk ys (n + 1) = unpk ys n ++ [bitAt ys n] := by simp [unpk, List.range_succ]
/-- Is a bit from n on set? -/
def spare (ys : List Int) (n : Nat) : Prop := ∃ i, n ≤ i ∧ i < 8 * ys.length ∧ bitAt ys i = true
def need (n : Nat) : Nat := (n + 7) / 8
/-- The bits of a sum of bits. -/
theorem bsum_bit (bs : List Bool) (j s t : Nat) (hs : s < t) : bsum bs j t / 2 ^ s % 2 = if L.nth bs (8 * j + s) then 1 else 0 := by
  induction t with
  | zero => omega
  | succ t ih =>
    rw [bsum]
    have hl := bsum_lt bs j t
    by_cases e : s = t
    · subst e
      split
      · rw [show bsum bs j s + 2 ^ s = bsum bs j s + 1 * 2 ^ s by omega, Nat.add_mul_div_right _ _ (Nat.pow_pos (by omega)), Nat.div_eq_of_lt hl]
      · rw [Nat.add_zero, Nat.div_eq_of_lt hl]
    · have h2 : s < t := by omega
      rw [← ih h2]
      split
      · obtain ⟨d, hd⟩ : ∃ d, t = s + 1 + d := ⟨t - (s + 1), by omega⟩
        have hp : 2 ^ t = (2 * 2 ^ d) * 2 ^ s := by rw [hd, Nat.pow_add, Nat.pow_succ]; ac_rfl
        rw [hp, Nat.add_mul_div_right _ _ (Nat.pow_pos (by omega))]
        omega
      · rfl
theorem bitAt_pk (bs : List Bool) (m i : Nat) (h : i / 8 < m) : bitAt (pk bs m) i = L.nth bs i := by
  unfold bitAt
  rw [pk_nth _ _ _ h, Int.toNat_natCast, bsum_bit bs (i / 8) (i % 8) 8 (by omega), show 8 * (i / 8) + i % 8 = i by omega]
  cases L.nth bs i <;> simp
theorem nth_out (bs : List Bool) (i : Nat) (h : bs.length ≤ i) : L.nth bs i = false := by
  unfold L.nth; rw [List.getD_eq_getElem?_getD, List.getElem?_eq_none h]; rfl
theorem unpk_pk (bs : List Bool) : unpk (pk bs (need bs.length)) bs.length = bs := by
  refine L.ext_nth _ _ (by rw [unpk_length]) fun i hi => ?_
  rw [unpk_length] at hi
  rw [unpk_nth _ _ _ hi, bitAt_pk bs _ _ (by unfold need; omega)]
theorem no_spare_pk (bs : List Bool) : ¬ spare (pk bs (need bs.length)) bs.length := by
  rintro ⟨i, h1, h2, h3⟩
  rw [pk_length] at h2
  rw [bitAt_pk bs _ _ (by omega), nth_out bs i h1] at h3
  cases h3
/-- A byte is the sum of its bits. -/
theorem byte_bits (x : Nat) (t : Nat) (bs : List Bool) (j : Nat) (h : ∀ s, s < t → L.nth bs (8 * j + s) = decide (x / 2 ^ s % 2 = 1)) : bsum bs j t = x % 2 ^ t := by
  induction t with
  | zero => simp [bsum]; omega
  | succ t ih =>
    rw [bsum, ih (fun s hs => h s (by omega)), h t (by omega), Nat.mod_pow_succ]
    have : x / 2 ^ t % 2 = 0 ∨ x / 2 ^ t % 2 = 1 := by omega
    rcases this with e | e <;> rw [e] <;> simp
theorem pk_unpk (ys : List Int) (n : Nat) (hw : ∀ x ∈ ys, (Lit.int .u8 x).wf = true) (hl : ys.length = need n) (hs : ¬ spare ys n) : pk (unpk ys n) (need n) = ys := by
  refine ext_nth _ _ (by rw [pk_length, hl]) fun j hj => ?_
  rw [pk_length] at hj
  have hx := wf_u8 (hw _ (nth_mem ys j (by omega)))
  rw [pk_nth _ _ _ hj, byte_bits (nth ys j).toNat 8 _ _ (fun s hs8 => ?_)]
  · rw [Nat.mod_eq_of_lt (by omega)]; omega
  · have hb : bitAt ys (8 * j + s) = decide ((nth ys j).toNat / 2 ^ s % 2 = 1) := by
      unfold bitAt
      rw [show (8 * j + s) / 8 = j by omega, show (8 * j + s) % 8 = s by omega]
    by_cases h : 8 * j + s < n
    · rw [unpk_nth _ _ _ h, hb]
    · rw [nth_out _ _ (by rw [unpk_length]; omega), ← hb]
      cases hq : bitAt ys (8 * j + s) with
      | false => rfl
      | true => exact absurd ⟨8 * j + s, by omega, by omega, hq⟩ hs
end Go.Proofs.Ytcmbdhmhkfhjfaa
namespace Go.Proofs.Ytcmbdhmhkfhjfaa
open Go.RowKit
set_option linter.unusedVariables false
theorem and_all : ∀ (x : Fin 256) (r : Fin 8), ((x.val &&& 2 ^ r.val) != 0) = decide (x.val / 2 ^ r.val % 2 = 1) := by decide +kernel
theorem and_bit (x i : Nat) (hx : x < 256) : (bits .and .u8 (x : Int) ((2 ^ (i % 8) : Nat) : Int) != 0) = decide (x / 2 ^ (i % 8) % 2 = 1) := by
  have hp : 2 ^ (i % 8) < 256 := Nat.lt_of_le_of_lt (Nat.pow_le_pow_right (n := 2) (by omega) (show i % 8 ≤ 7 by omega)) (by omega)
  rw [u8_and_nat x _ hx hp]
  have := and_all ⟨x, hx⟩ ⟨i % 8, by omega⟩
  simp only at this
  rw [← this]
  cases h : (x &&& 2 ^ (i % 8)) with
  | zero => rfl
  | succ n =>
    have e1 : (((n + 1 : Nat) : Int) != 0) = true := by simp; omega
    rw [e1]; rfl
/-- A bit from n on is set. -/
def spareB (ys : List Int) (n : Nat) : Bool := (List.range (8 * ys.length)).any fun i => decide (n ≤ i) && bitAt ys i
theorem spareB_iff (ys : List Int) (n : Nat) : spareB ys n = true ↔ spare ys n := by
  simp only [spareB, List.any_eq_true, List.mem_range, Bool.and_eq_true, decide_eq_true_eq, spare]
  exact ⟨fun ⟨i, h1, h2, h3⟩ => ⟨i, h2, h1, h3⟩, fun ⟨i, h2, h1, h3⟩ => ⟨i, h1, h2, h3⟩⟩
theorem or_bit (a i : Nat) (h : a < 2 ^ (i % 8)) : bits .or .u8 (a : Int) ((2 : Int) ^ (i % 8)) = ((a + 2 ^ (i % 8) : Nat) : Int) := by
  have hp : 2 ^ (i % 8) < 256 := Nat.lt_of_le_of_lt (Nat.pow_le_pow_right (n := 2) (by omega) (show i % 8 ≤ 7 by omega)) (by omega)
  rw [show (2 : Int) ^ (i % 8) = ((2 ^ (i % 8) : Nat) : Int) by simp, u8_or_nat a _ (by omega) hp, or_high a _ h]
/-- What Unbits tells: the bits, and the error. -/
def unbitsE (ys : List Int) (n : Int) : Int := if n < 0 then 3 else if ys.length ≠ need n.toNat then 22 else if spareB ys n.toNat = true then 4 else 0
def unbitsL (ys : List Int) (n : Int) : List Bool := if n < 0 then [] else if ys.length ≠ need n.toNat then [] else if spareB ys n.toNat = true then [] else unpk ys n.toNat
theorem need_le (n m : Nat) (h : m = need n) : n ≤ 8 * m := by unfold need at h; omega
theorem unbitsL_le (ys : List Int) (n : Int) (h : ys.length ≤ 1000000) : (unbitsL ys n).length ≤ 8000000 := by
  unfold unbitsL
  split
  · simp
  · split
    · simp
    · split
      · simp
      · rename_i h2 _
        have := need_le n.toNat ys.length (Decidable.not_not.1 h2)
        rw [unpk_length]; omega
end Go.Proofs.Ytcmbdhmhkfhjfaa
namespace Go.Proofs.Ytcmbdhmhkfhjfaa
open Go.RowKit
set_option linter.unusedVariables false

/-- How many a request of a code may ask for: none, if there is no such code. -/
def mm (c : Int) : Int := if c = 1 ∨ c = 2 then 2000 else if c = 3 ∨ c = 4 then 125 else if c = 5 ∨ c = 6 then 1 else if c = 15 then 1968 else if c = 16 then 123 else if c = 20 then 35 else 0
theorem codes (c : Int) : c = 1 ∨ c = 2 ∨ c = 3 ∨ c = 4 ∨ c = 5 ∨ c = 6 ∨ c = 15 ∨ c = 16 ∨ c = 20 ∨ (c ≠ 1 ∧ c ≠ 2 ∧ c ≠ 3 ∧ c ≠ 4 ∧ c ≠ 5 ∧ c ≠ 6 ∧ c ≠ 15 ∧ c ≠ 16 ∧ c ≠ 20) := by omega
theorem mm_pos {c : Int} (h : 0 < mm c) : c = 1 ∨ c = 2 ∨ c = 3 ∨ c = 4 ∨ c = 5 ∨ c = 6 ∨ c = 15 ∨ c = 16 ∨ c = 20 := by
  unfold mm at h; split at h <;> omega
theorem mm_range (c : Int) : 0 ≤ mm c ∧ mm c ≤ 2000 := by
  unfold mm; split <;> omega
/-- Has a field without a meaning something in it? -/
def stray (c a n : Int) (lo ls lp : Nat) : Bool :=
  if c = 20 then a != 0 || n != 0 || decide (0 < lo) || decide (0 < ls)
  else if c = 5 ∨ c = 15 then n != 0 || decide (0 < ls) || decide (0 < lp)
  else if c = 6 ∨ c = 16 then n != 0 || decide (0 < lo) || decide (0 < lp)
  else decide (0 < lo) || decide (0 < ls) || decide (0 < lp)
/-- How many a request asks for. -/
def many (c n : Int) (lo ls lp : Nat) : Int := if c = 5 ∨ c = 15 then lo else if c = 6 ∨ c = 16 then ls else if c = 20 then lp else n
/-- Is the i-th part in its place? -/
def inPl (f r l : Int) : Bool := decide (1 ≤ f) && decide (f ≤ 65535) && decide (0 ≤ r) && decide (r ≤ 9999) && decide (1 ≤ l) && decide (l ≤ 10000 - r)
theorem inPl_iff (f r l : Int) : inPl f r l = true ↔ (1 ≤ f ∧ f ≤ 65535) ∧ (0 ≤ r ∧ r ≤ 9999) ∧ (1 ≤ l ∧ l ≤ 10000 - r) := by
  simp only [inPl, Bool.and_eq_true, decide_eq_true_eq]; omega
def okAt3 (fl : List Int) (i : Nat) : Bool := inPl (nth fl (3 * i)) (nth fl (3 * i + 1)) (nth fl (3 * i + 2))
def sumTo (fl : List Int) : Nat → Int
  | 0 => 0
  | k + 1 => sumTo fl k + (2 + 2 * nth fl (3 * k + 2))
/-- Are the first k parts in their places? -/
def allOk (fl : List Int) : Nat → Bool
  | 0 => true
  | k + 1 => allOk fl k && okAt3 fl k
theorem allOk_le {fl : List Int} {n : Nat} (h : allOk fl n = true) : ∀ k, k < n → okAt3 fl k = true := by
  induction n with
  | zero => intro k hk; omega
  | succ n ih =>
    rw [allOk, Bool.and_eq_true] at h
    intro k hk
    rcases Nat.lt_or_ge k n with h1 | h1
    · exact ih h.1 k h1
    · obtain rfl : k = n := by omega
      exact h.2
theorem allOk_no {fl : List Int} {n k : Nat} (hk : k < n) (h : okAt3 fl k = false) : allOk fl n = false := by
  cases hn : allOk fl n with
  | false => rfl
  | true => rw [allOk_le hn k hk] at h; cases h
theorem sumTo_range {fl : List Int} {k : Nat} (h : allOk fl k = true) : 0 ≤ sumTo fl k ∧ sumTo fl k ≤ 20002 * k := by
  induction k with
  | zero => simp [sumTo]
  | succ k ih =>
    rw [allOk, Bool.and_eq_true] at h
    have h1 := ih h.1
    have h2 := (inPl_iff _ _ _).1 h.2
    rw [sumTo]; omega
def ptsE (fl : List Int) (n : Nat) : Int := if allOk fl n = true then (if 245 < sumTo fl n then 2 else 0) else 3
/-- What is wrong with a request. -/
def chk (c a n : Int) (lo ls lp : Nat) (fl : List Int) : Int :=
  if mm c ≤ 0 then 20 else if stray c a n lo ls lp = true then 23 else if a < 0 ∨ 65536 ≤ a then 21
  else if many c n lo ls lp < 1 ∨ mm c < many c n lo ls lp then 22
  else if c = 20 then ptsE fl lp else if 65536 < a + many c n lo ls lp then 21 else 0
end Go.Proofs.Ytcmbdhmhkfhjfaa
namespace Go.Proofs.Ytcmbdhmhkfhjfaa
open Go.RowKit
set_option linter.unusedVariables false

theorem maxMany_any (c : Int) (w : World) : Calls Try.prog 36 #[.int .i64 c] w fun e w' => e = .returned (.int .i64 (mm c)) ∧ w' = w := by
  rcases codes c with rfl | rfl | rfl | rfl | rfl | rfl | rfl | rfl | rfl | ⟨h1, h2, h3, h4, h5, h6, h7, h8, h9⟩
  iterate 9
    · go_enter Try.func36, Try.ntmps36
      go_wp2
      go_ret
      exact ⟨rfl, rfl⟩
  have e : mm c = 0 := by simp [mm, *]
  rw [e]
  have b1 := beq_false_of_ne h1
  have b2 := beq_false_of_ne h2
  have b3 := beq_false_of_ne h3
  have b4 := beq_false_of_ne h4
  have b5 := beq_false_of_ne h5
  have b6 := beq_false_of_ne h6
  have b7 := beq_false_of_ne h7
  have b8 := beq_false_of_ne h8
  have b9 := beq_false_of_ne h9
  go_enter Try.func36, Try.ntmps36
  go_wp2
  go_ret
  exact ⟨rfl, rfl⟩
theorem isCode_any (c : Int) (w : World) : Calls Try.prog 33 #[.int .i64 c] w fun e w' => e = .returned (.bool (decide (0 < mm c))) ∧ w' = w := by
  go_enter Try.func33, Try.ntmps33
  go_wp2_with fail
  refine (maxMany_any c w).mono ?_
  rintro e w' ⟨rfl, rfl⟩
  go_wp2
  go_ret
  exact ⟨rfl, rfl⟩

set_option maxHeartbeats 2000000 in
theorem hasStray_any (c a n : Int) (Ao As Ap : Option Addr) (lo co ls cs lp cp : Nat) (w : World) (h : 0 < mm c) :
    Calls Try.prog 34 #[.agg #[.int .i64 c, .int .i64 a, .int .i64 n, .slice Ao lo co, .slice As ls cs, .slice Ap lp cp]] w fun e w' => e = .returned (.bool (stray c a n lo ls lp)) ∧ Below w.heap.size w w' := by
  rcases mm_pos h with rfl | rfl | rfl | rfl | rfl | rfl | rfl | rfl | rfl
  iterate 9
    · go_enter Try.func34, Try.ntmps34
      go_wp2
      all_goals (go_ret; refine ⟨?_, bel_alloc _ _⟩; (simp [stray, *] <;> omega))

set_option maxHeartbeats 2000000 in
theorem howMany_any (c a n : Int) (Ao As Ap : Option Addr) (lo co ls cs lp cp : Nat) (w : World) (h : 0 < mm c) :
    Calls Try.prog 35 #[.agg #[.int .i64 c, .int .i64 a, .int .i64 n, .slice Ao lo co, .slice As ls cs, .slice Ap lp cp]] w fun e w' => e = .returned (.int .i64 (many c n lo ls lp)) ∧ Below w.heap.size w w' := by
  rcases mm_pos h with rfl | rfl | rfl | rfl | rfl | rfl | rfl | rfl | rfl
  iterate 9
    · go_enter Try.func35, Try.ntmps35
      go_wp2
      go_ret
      exact ⟨rfl, bel_alloc _ _⟩

end Go.Proofs.Ytcmbdhmhkfhjfaa
