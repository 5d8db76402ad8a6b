/-
  The mathematics of layer 9: tags, their width, what is wrong with one, what is wrong with a table.
-/
import Derived.Test.YtmakegbkgiajdaaTgName
import Derived.Test.YtmakegbkgiajdaaScMath
import Derived.Test.YtmakegbkgiajdaaBdMath
import Derived.Test.YtmakegbkgiajdaaAlMath
import Derived.Test.YtmakegbkgiajdaaVRow
namespace Go.Proofs.Ytmakegbkgiajdaa
open Go.RowKit
set_option linter.unusedVariables false

/-- A tag as plain data. -/
structure Tg where
  nm : ByteArray
  un : Int
  ki : Int
  ad : Int
  ev : Int
  we : Bool
  sg : Bool
  sw : Bool
  mu : Int
  di : Int
  aa : Int
  de : Int
  qu : Int
  ul : Bool
  uh : Bool
  la : Bool
  lo : Int
  hi : Int
  hy : Int
def Tg.Ok (t : Tg) : Prop := t.nm.size ≤ maxLen ∧ ((-9223372036854775808 ≤ t.un ∧ t.un < 9223372036854775808) ∧ (-9223372036854775808 ≤ t.ki ∧ t.ki < 9223372036854775808) ∧ (-9223372036854775808 ≤ t.ad ∧ t.ad < 9223372036854775808) ∧ (-9223372036854775808 ≤ t.ev ∧ t.ev < 9223372036854775808)) ∧ ((-9223372036854775808 ≤ t.mu ∧ t.mu < 9223372036854775808) ∧ (-9223372036854775808 ≤ t.di ∧ t.di < 9223372036854775808) ∧ (-9223372036854775808 ≤ t.aa ∧ t.aa < 9223372036854775808)) ∧ ((-9223372036854775808 ≤ t.de ∧ t.de < 9223372036854775808) ∧ (-9223372036854775808 ≤ t.qu ∧ t.qu < 9223372036854775808)) ∧ ((-9223372036854775808 ≤ t.lo ∧ t.lo < 9223372036854775808) ∧ (-9223372036854775808 ≤ t.hi ∧ t.hi < 9223372036854775808) ∧ (-9223372036854775808 ≤ t.hy ∧ t.hy < 9223372036854775808))
def Tg.sc (t : Tg) : Sc := ⟨t.we, t.sg, t.sw, t.mu, t.di, t.aa⟩
def Tg.li (t : Tg) : Lim := ⟨t.ul, t.uh, t.la, t.lo, t.hi, t.hy⟩
/-- A tag's cells, and a tag as a value. -/
def tgC : Tg → List Value | ⟨nm, un, ki, ad, ev, we, sg, sw, mu, di, aa, de, qu, ul, uh, la, lo, hi, hy⟩ => [.string nm, .int .i64 un, .int .i64 ki, .int .i64 ad, .int .i64 ev, .bool we, .bool sg, .bool sw, .int .i64 mu, .int .i64 di, .int .i64 aa, .int .i64 de, .int .i64 qu, .bool ul, .bool uh, .bool la, .int .i64 lo, .int .i64 hi, .int .i64 hy]
def tgV (t : Tg) : Value := .agg (tgC t).toArray
theorem tgC_len (t : Tg) : (tgC t).length = 19 := rfl

def widT (t : Tg) : Int := bif (decide (t.ki = 3) || decide (t.ki = 4)) && t.we then 2 else 1
theorem widT_le (t : Tg) : 1 ≤ widT t ∧ widT t ≤ 2 := by
  unfold widT; cases (decide (t.ki = 3) || decide (t.ki = 4)) && t.we <;> simp
/-- A bit's scale. -/
def bitS (t : Tg) : Bool := (!t.we && (!t.sg && !t.sw)) && (decide (t.mu = 1) && (decide (t.di = 1) && decide (t.aa = 0)))
/-- What is wrong with a tag. -/
def chkT (t : Tg) : Int :=
  bif !nameB (bys t.nm) then 8
  else bif decide (t.un < 1) || decide (t.un > 247) then 24
  else bif decide (t.ki < 1) || decide (t.ki > 4) then 28
  else bif decide (t.ad < 0) || decide (t.ad > 65536 - widT t) then 21
  else bif decide (t.ev < 1) || decide (t.ev > 1048576) then 3
  else bif !decide (t.sc.Ok) then 25
  else bif decide (t.ki ≤ 2) && !bitS t then 25
  else bif !decide (chkB t.de t.qu = 0) then 26
  else chkL t.li
theorem chkB_two (d q : Int) : chkB d q = 0 ∨ chkB d q = 26 := by unfold chkB; split <;> simp
theorem chkL_two (l : Lim) : chkL l = 0 ∨ chkL l = 27 := by unfold chkL; cases okL l <;> simp
/-- The ways through the document's Check. -/
theorem tag_cases (t : Tg) (P : Prop)
    (c1 : nameB (bys t.nm) = false → chkT t = 8 → P)
    (c2 : nameB (bys t.nm) = true → t.un < 1 → chkT t = 24 → P)
    (c3 : nameB (bys t.nm) = true → ¬ t.un < 1 → t.un > 247 → chkT t = 24 → P)
    (c4 : nameB (bys t.nm) = true → ¬ t.un < 1 → ¬ t.un > 247 → t.ki < 1 → chkT t = 28 → P)
    (c5 : nameB (bys t.nm) = true → ¬ t.un < 1 → ¬ t.un > 247 → ¬ t.ki < 1 → t.ki > 4 → chkT t = 28 → P)
    (c6 : nameB (bys t.nm) = true → ¬ t.un < 1 → ¬ t.un > 247 → ¬ t.ki < 1 → ¬ t.ki > 4 → t.ad < 0 → chkT t = 21 → P)
    (c7 : nameB (bys t.nm) = true → ¬ t.un < 1 → ¬ t.un > 247 → ¬ t.ki < 1 → ¬ t.ki > 4 → ¬ t.ad < 0 → t.ad > 65536 - widT t → chkT t = 21 → P)
    (c8 : nameB (bys t.nm) = true → ¬ t.un < 1 → ¬ t.un > 247 → ¬ t.ki < 1 → ¬ t.ki > 4 → ¬ t.ad < 0 → ¬ t.ad > 65536 - widT t → t.ev < 1 → chkT t = 3 → P)
    (c9 : nameB (bys t.nm) = true → ¬ t.un < 1 → ¬ t.un > 247 → ¬ t.ki < 1 → ¬ t.ki > 4 → ¬ t.ad < 0 → ¬ t.ad > 65536 - widT t → ¬ t.ev < 1 → t.ev > 1048576 → chkT t = 3 → P)
    (c10 : nameB (bys t.nm) = true → ¬ t.un < 1 → ¬ t.un > 247 → ¬ t.ki < 1 → ¬ t.ki > 4 → ¬ t.ad < 0 → ¬ t.ad > 65536 - widT t → ¬ t.ev < 1 → ¬ t.ev > 1048576 → chkS t.sc = 25 → chkT t = 25 → P)
    (c11 : nameB (bys t.nm) = true → ¬ t.un < 1 → ¬ t.un > 247 → ¬ t.ki < 1 → ¬ t.ki > 4 → ¬ t.ad < 0 → ¬ t.ad > 65536 - widT t → ¬ t.ev < 1 → ¬ t.ev > 1048576 → chkS t.sc = 0 → t.ki ≤ 2 → bitS t = false → chkT t = 25 → P)
    (c12 : nameB (bys t.nm) = true → ¬ t.un < 1 → ¬ t.un > 247 → ¬ t.ki < 1 → ¬ t.ki > 4 → ¬ t.ad < 0 → ¬ t.ad > 65536 - widT t → ¬ t.ev < 1 → ¬ t.ev > 1048576 → chkS t.sc = 0 → (¬ t.ki ≤ 2 ∨ bitS t = true) → chkB t.de t.qu = 26 → chkT t = 26 → P)
    (c13 : nameB (bys t.nm) = true → ¬ t.un < 1 → ¬ t.un > 247 → ¬ t.ki < 1 → ¬ t.ki > 4 → ¬ t.ad < 0 → ¬ t.ad > 65536 - widT t → ¬ t.ev < 1 → ¬ t.ev > 1048576 → chkS t.sc = 0 → (¬ t.ki ≤ 2 ∨ bitS t = true) → chkB t.de t.qu = 0 → chkT t = chkL t.li → P) : P := by
  unfold chkT at c1 c2 c3 c4 c5 c6 c7 c8 c9 c10 c11 c12 c13
  cases h1 : nameB (bys t.nm)
  · exact c1 h1 (by simp [h1])
  by_cases h2 : t.un < 1
  · exact c2 h1 h2 (by simp [h1, h2])
  by_cases h3 : t.un > 247
  · exact c3 h1 h2 h3 (by simp [h1, h2, h3])
  by_cases h4 : t.ki < 1
  · exact c4 h1 h2 h3 h4 (by simp [h1, h2, h3, h4])
  by_cases h5 : t.ki > 4
  · exact c5 h1 h2 h3 h4 h5 (by simp [h1, h2, h3, h4, h5])
  by_cases h6 : t.ad < 0
  · exact c6 h1 h2 h3 h4 h5 h6 (by simp [h1, h2, h3, h4, h5, h6])
  by_cases h7 : t.ad > 65536 - widT t
  · exact c7 h1 h2 h3 h4 h5 h6 h7 (by simp [h1, h2, h3, h4, h5, h6, h7])
  by_cases h8 : t.ev < 1
  · exact c8 h1 h2 h3 h4 h5 h6 h7 h8 (by simp [h1, h2, h3, h4, h5, h6, h7, h8])
  by_cases h9 : t.ev > 1048576
  · exact c9 h1 h2 h3 h4 h5 h6 h7 h8 h9 (by simp [h1, h2, h3, h4, h5, h6, h7, h8, h9])
  by_cases h10 : t.sc.Ok
  case neg => exact c10 h1 h2 h3 h4 h5 h6 h7 h8 h9 (chkS_no h10) (by simp [h1, h2, h3, h4, h5, h6, h7, h8, h9, h10])
  have hs := chkS_yes h10
  by_cases h11 : t.ki ≤ 2 ∧ bitS t = false
  · exact c11 h1 h2 h3 h4 h5 h6 h7 h8 h9 hs h11.1 h11.2 (by simp [h1, h2, h3, h4, h5, h6, h7, h8, h9, h10, h11])
  have h12 : (decide (t.ki ≤ 2) && !bitS t) = false := by
    by_cases h : t.ki ≤ 2
    · cases hb : bitS t
      · exact absurd ⟨h, hb⟩ h11
      · simp
    · simp [h]
  have h13 : ¬ t.ki ≤ 2 ∨ bitS t = true := by
    by_cases h : t.ki ≤ 2
    · cases hb : bitS t
      · exact absurd ⟨h, hb⟩ h11
      · exact .inr rfl
    · exact .inl h
  rcases chkB_two t.de t.qu with hb | hb
  · exact c13 h1 h2 h3 h4 h5 h6 h7 h8 h9 hs h13 hb (by simp only [h1, decide_eq_false h2, decide_eq_false h3, decide_eq_false h4, decide_eq_false h5, decide_eq_false h6, decide_eq_false h7, decide_eq_false h8, decide_eq_false h9, decide_eq_true h10, h12, hb]; rfl)
  · exact c12 h1 h2 h3 h4 h5 h6 h7 h8 h9 hs h13 hb (by simp only [h1, decide_eq_false h2, decide_eq_false h3, decide_eq_false h4, decide_eq_false h5, decide_eq_false h6, decide_eq_false h7, decide_eq_false h8, decide_eq_false h9, decide_eq_true h10, h12, hb]; rfl)
theorem bitS_no {t : Tg} (h : bitS t = false) : t.we = true ∨ t.sg = true ∨ t.sw = true ∨ t.mu ≠ 1 ∨ t.di ≠ 1 ∨ t.aa ≠ 0 := by
  unfold bitS at h
  simp only [Bool.and_eq_false_iff, Bool.not_eq_false', decide_eq_false_iff_not] at h
  rcases h with (h | h | h) | h | h | h
  · exact .inl h
  · exact .inr (.inl h)
  · exact .inr (.inr (.inl h))
  · exact .inr (.inr (.inr (.inl h)))
  · exact .inr (.inr (.inr (.inr (.inl h))))
  · exact .inr (.inr (.inr (.inr (.inr h))))
theorem bitS_yes {t : Tg} (h : bitS t = true) : t.we = false ∧ t.sg = false ∧ t.sw = false ∧ t.mu = 1 ∧ t.di = 1 ∧ t.aa = 0 := by
  unfold bitS at h
  simp only [Bool.and_eq_true, Bool.not_eq_true', decide_eq_true_eq] at h
  obtain ⟨⟨h1, h2, h3⟩, h4, h5, h6⟩ := h
  exact ⟨h1, h2, h3, h4, h5, h6⟩

/-- What is wrong with a tag behind another; with the tag at a place; with a table. -/
def badN (p t : Tg) : Int := bif t.nm.toList == p.nm.toList then 7 else bif Op.bytesLess t.nm.toList p.nm.toList then 29 else 0
def badT (p : Option Tg) (t : Tg) : Int := bif !decide (chkT t = 0) then chkT t else match p with | none => 0 | some p => badN p t
def ahead (l : List Tg) (i : Nat) : Option Tg := match i with | 0 => none | j + 1 => l[j]?
def badAt (l : List Tg) (i : Nat) : Int := match l[i]? with | none => 0 | some t => badT (ahead l i) t
def chkAll (l : List Tg) : Int × Int := if 64 < l.length then (34, 0) else match (List.range l.length).find? (fun i => !decide (badAt l i = 0)) with | some i => (badAt l i, (i : Int)) | none => (0, 0)
theorem chkAll_many {l : List Tg} (h : 64 < l.length) : chkAll l = (34, 0) := if_pos h
theorem chkAll_at {l : List Tg} (h : ¬ 64 < l.length) {k : Nat} {e : Int} (hk : k < l.length) (he : badAt l k = e) (hne : e ≠ 0) (hb : ∀ j, j < k → badAt l j = 0) : chkAll l = (e, (k : Int)) := by
  unfold chkAll
  rw [if_neg h]
  have : (List.range l.length).find? (fun i => !decide (badAt l i = 0)) = some k := by
    rw [List.find?_range_eq_some]
    refine ⟨by simp [he, hne], List.mem_range.2 hk, fun j hj => by simp [hb j hj]⟩
  rw [this]
  simp only [he]
theorem chkAll_none {l : List Tg} (h : ¬ 64 < l.length) (hb : ∀ j, j < l.length → badAt l j = 0) : chkAll l = (0, 0) := by
  unfold chkAll
  rw [if_neg h]
  have : (List.range l.length).find? (fun i => !decide (badAt l i = 0)) = none := by
    rw [List.find?_range_eq_none]
    exact fun j hj => by simp [hb j hj]
  rw [this]
theorem badAt_first {l : List Tg} (h : 0 < l.length) : badAt l 0 = chkT l[0] := by
  simp only [badAt, List.getElem?_eq_getElem h, ahead, badT]
  by_cases hc : chkT l[0] = 0 <;> simp [hc]
theorem badAt_chk {l : List Tg} {k : Nat} (h : k < l.length) (hc : chkT l[k] ≠ 0) : badAt l k = chkT l[k] := by
  simp only [badAt, List.getElem?_eq_getElem h, badT]
  simp [hc]
theorem badAt_next {l : List Tg} {k : Nat} (h : k + 1 < l.length) (hc : chkT l[k + 1] = 0) : badAt l (k + 1) = badN l[k] l[k + 1] := by
  have h0 : l[k]? = some l[k] := List.getElem?_eq_getElem (by omega)
  simp only [badAt, List.getElem?_eq_getElem h, ahead, h0, badT]
  simp [hc]
end Go.Proofs.Ytmakegbkgiajdaa
