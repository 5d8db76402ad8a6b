/-
  The mathematics of layer 8: limits, alarms, what a value makes of one.
-/
import Derived.Test.YtmakegbkgiajdaaPlain
namespace Go.Proofs.Ytmakegbkgiajdaa
open Go.RowKit
set_option linter.unusedVariables false

/-- Limits as plain data. -/
structure Lim where
  ul : Bool
  uh : Bool
  la : Bool
  lo : Int
  hi : Int
  hy : Int
/-- An alarm as plain data. -/
structure Alm where
  st : Int
  wt : Bool
deriving DecidableEq
def Lim.Ok (l : Lim) : Prop := (-9223372036854775808 ≤ l.lo ∧ l.lo < 9223372036854775808) ∧ (-9223372036854775808 ≤ l.hi ∧ l.hi < 9223372036854775808) ∧ (-9223372036854775808 ≤ l.hy ∧ l.hy < 9223372036854775808)
def Alm.Ok (a : Alm) : Prop := -9223372036854775808 ≤ a.st ∧ a.st < 9223372036854775808

def beyB (v : Int) : Bool := decide (v < -1099511627776) || decide (1099511627776 < v)
/-- Limits may be. -/
def okL (l : Lim) : Bool :=
  (decide (0 ≤ l.hy) && decide (l.hy ≤ 1099511627776)) && (!beyB l.lo && !beyB l.hi) && ((l.ul || decide (l.lo = 0)) && (l.uh || decide (l.hi = 0))) && (!(l.ul && l.uh) || decide (l.hy < l.hi - l.lo))
def chkL (l : Lim) : Int := bif okL l then 0 else 27
def lowB (l : Lim) (v : Int) : Bool := l.ul && decide (v ≤ l.lo)
def highB (l : Lim) (v : Int) : Bool := l.uh && decide (l.hi ≤ v)
/-- A value is back from a state. -/
def backB (l : Lim) (st v : Int) : Bool := decide (st = 1) && (!l.ul || decide (l.lo + l.hy < v)) || decide (st = 2) && (!l.uh || decide (v < l.hi - l.hy))
def isSt (st : Int) : Bool := decide (st = 0) || (decide (st = 1) || decide (st = 2))
/-- What a value makes of an alarm. -/
def stepA (l : Lim) (a : Alm) (v : Int) : Alm × Int :=
  bif !okL l || !isSt a.st then (a, 0)
  else bif lowB l v then bif decide (a.st = 1) then (a, 0) else (⟨1, true⟩, 1)
  else bif highB l v then bif decide (a.st = 2) then (a, 0) else (⟨2, true⟩, 2)
  else bif !backB l a.st v || (l.la && a.wt) then (a, 0) else (⟨0, a.wt⟩, 3)
def ackA (a : Alm) : Alm × Bool := bif a.wt then (⟨a.st, false⟩, true) else (a, false)

theorem okL_of {l : Lim} (h : okL l = true) : 0 ≤ l.hy ∧ l.hy ≤ 1099511627776 ∧ -1099511627776 ≤ l.lo ∧ l.lo ≤ 1099511627776 ∧ -1099511627776 ≤ l.hi ∧ l.hi ≤ 1099511627776 ∧ (l.ul = true ∨ l.lo = 0) ∧ (l.uh = true ∨ l.hi = 0) ∧ (l.ul = true → l.uh = true → l.hy < l.hi - l.lo) := by
  obtain ⟨ul, uh, la, lo, hi, hy⟩ := l
  simp only [okL, beyB, Bool.and_eq_true, Bool.or_eq_true, decide_eq_true_eq, Bool.not_eq_true', Bool.or_eq_false_iff, decide_eq_false_iff_not, Bool.and_eq_false_iff] at h ⊢
  obtain ⟨⟨⟨⟨h1, h2⟩, ⟨h3, h4⟩, h5, h6⟩, h7, h8⟩, h9⟩ := h
  refine ⟨h1, h2, by omega, by omega, by omega, by omega, h7, h8, ?_⟩
  rintro rfl rfl
  rcases h9 with (h | h) | h
  · cases h
  · cases h
  · exact h
theorem stepA_bad {l : Lim} {a : Alm} {v : Int} (h : okL l = false ∨ isSt a.st = false) : stepA l a v = (a, 0) := by
  unfold stepA
  rcases h with h | h <;> simp [h]
theorem stepA_low1 {l : Lim} {a : Alm} {v : Int} (h : okL l = true) (hs : a.st = 1) (hl : lowB l v = true) : stepA l a v = (a, 0) := by
  unfold stepA; simp [h, hs, hl, isSt]
theorem stepA_low {l : Lim} {a : Alm} {v : Int} (h : okL l = true) (hs : isSt a.st = true) (h1 : a.st ≠ 1) (hl : lowB l v = true) : stepA l a v = (⟨1, true⟩, 1) := by
  unfold stepA; simp [h, hs, hl, h1]
theorem stepA_high2 {l : Lim} {a : Alm} {v : Int} (h : okL l = true) (hs : a.st = 2) (hl : lowB l v = false) (hh : highB l v = true) : stepA l a v = (a, 0) := by
  unfold stepA; simp [h, hs, hl, hh, isSt]
theorem stepA_high {l : Lim} {a : Alm} {v : Int} (h : okL l = true) (hs : isSt a.st = true) (h2 : a.st ≠ 2) (hl : lowB l v = false) (hh : highB l v = true) : stepA l a v = (⟨2, true⟩, 2) := by
  unfold stepA; simp [h, hs, hl, hh, h2]
theorem stepA_stay {l : Lim} {a : Alm} {v : Int} (h : okL l = true) (hs : isSt a.st = true) (hl : lowB l v = false) (hh : highB l v = false) (hb : backB l a.st v = false ∨ l.la = true ∧ a.wt = true) : stepA l a v = (a, 0) := by
  unfold stepA
  rcases hb with hb | ⟨h1, h2⟩
  · simp [h, hs, hl, hh, hb]
  · simp [h, hs, hl, hh, h1, h2]
theorem stepA_back {l : Lim} {a : Alm} {v : Int} (h : okL l = true) (hs : isSt a.st = true) (hl : lowB l v = false) (hh : highB l v = false) (hb : backB l a.st v = true) (hw : l.la = false ∨ a.wt = false) : stepA l a v = (⟨0, a.wt⟩, 3) := by
  unfold stepA
  rcases hw with h1 | h1
  · simp [h, hs, hl, hh, hb, h1]
  · simp [h, hs, hl, hh, hb, h1]
end Go.Proofs.Ytmakegbkgiajdaa
