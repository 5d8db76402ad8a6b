/-
  The document's words on requests as functions of plain lists: what is wrong with one, its PDU, and what bytes say.
-/
import Derived.Test.YtojjcmkadmofdaaAskKit
import Derived.Test.YtojjcmkadmofdaaPkWdsAny
import Derived.Test.YtojjcmkadmofdaaPkBts
namespace Go.Proofs.Ytojjcmkadmofdaa
open Go.RowKit
set_option linter.unusedVariables false

/-- How many a request of a code may ask for: none, if there is no such code. -/
def mm (c : Int) : Int := if c = 1 ∨ c = 2 then 2000 else if c = 3 ∨ c = 4 then 125 else if c = 5 ∨ c = 6 then 1 else if c = 15 then 1968 else if c = 16 then 123 else if c = 20 then 35 else 0
theorem codes (c : Int) : c = 1 ∨ c = 2 ∨ c = 3 ∨ c = 4 ∨ c = 5 ∨ c = 6 ∨ c = 15 ∨ c = 16 ∨ c = 20 ∨ (c ≠ 1 ∧ c ≠ 2 ∧ c ≠ 3 ∧ c ≠ 4 ∧ c ≠ 5 ∧ c ≠ 6 ∧ c ≠ 15 ∧ c ≠ 16 ∧ c ≠ 20) := by omega
theorem mm_pos {c : Int} (h : 0 < mm c) : c = 1 ∨ c = 2 ∨ c = 3 ∨ c = 4 ∨ c = 5 ∨ c = 6 ∨ c = 15 ∨ c = 16 ∨ c = 20 := by
  unfold mm at h; split at h <;> omega
theorem mm_range (c : Int) : 0 ≤ mm c ∧ mm c ≤ 2000 := by
  unfold mm; split <;> omega
/-- Has a field without a meaning something in it? -/
def stray (c a n : Int) (lo ls lp : Nat) : Bool :=
  if c = 20 then a != 0 || n != 0 || decide (0 < lo) || decide (0 < ls)
  else if c = 5 ∨ c = 15 then n != 0 || decide (0 < ls) || decide (0 < lp)
  else if c = 6 ∨ c = 16 then n != 0 || decide (0 < lo) || decide (0 < lp)
  else decide (0 < lo) || decide (0 < ls) || decide (0 < lp)
/-- How many a request asks for. -/
def many (c n : Int) (lo ls lp : Nat) : Int := if c = 5 ∨ c = 15 then lo else if c = 6 ∨ c = 16 then ls else if c = 20 then lp else n
/-- Is the i-th part in its place? -/
def inPl (f r l : Int) : Bool := decide (1 ≤ f) && decide (f ≤ 65535) && decide (0 ≤ r) && decide (r ≤ 9999) && decide (1 ≤ l) && decide (l ≤ 10000 - r)
theorem inPl_iff (f r l : Int) : inPl f r l = true ↔ (1 ≤ f ∧ f ≤ 65535) ∧ (0 ≤ r ∧ r ≤ 9999) ∧ (1 ≤ l ∧ l ≤ 10000 - r) := by
  simp only [inPl, Bool.and_eq_true, decide_eq_true_eq]; omega
def okAt3 (fl : List Int) (i : Nat) : Bool := inPl (nth fl (3 * i)) (nth fl (3 * i + 1)) (nth fl (3 * i + 2))
def sumTo (fl : List Int) : Nat → Int
  | 0 => 0
  | k + 1 => sumTo fl k + (2 + 2 * nth fl (3 * k + 2))
/-- Are the first k parts in their places? -/
def allOk (fl : List Int) : Nat → Bool
  | 0 => true
  | k + 1 => allOk fl k && okAt3 fl k
theorem allOk_le {fl : List Int} {n : Nat} (h : allOk fl n = true) : ∀ k, k < n → okAt3 fl k = true := by
  induction n with
  | zero => intro k hk; omega
  | succ n ih =>
    rw [allOk, Bool.and_eq_true] at h
    intro k hk
    rcases Nat.lt_or_ge k n with h1 | h1
    · exact ih h.1 k h1
    · obtain rfl : k = n := by omega
      exact h.2
theorem allOk_no {fl : List Int} {n k : Nat} (hk : k < n) (h : okAt3 fl k = false) : allOk fl n = false := by
  cases hn : allOk fl n with
  | false => rfl
  | true => rw [allOk_le hn k hk] at h; cases h
theorem sumTo_range {fl : List Int} {k : Nat} (h : allOk fl k = true) : 0 ≤ sumTo fl k ∧ sumTo fl k ≤ 20002 * k := by
  induction k with
  | zero => simp [sumTo]
  | succ k ih =>
    rw [allOk, Bool.and_eq_true] at h
    have h1 := ih h.1
    have h2 := (inPl_iff _ _ _).1 h.2
    rw [sumTo]; omega
def ptsE (fl : List Int) (n : Nat) : Int := if allOk fl n = true then (if 245 < sumTo fl n then 2 else 0) else 3
/-- What is wrong with a request. -/
def chk (c a n : Int) (lo ls lp : Nat) (fl : List Int) : Int :=
  if mm c ≤ 0 then 20 else if stray c a n lo ls lp = true then 23 else if a < 0 ∨ 65536 ≤ a then 21
  else if many c n lo ls lp < 1 ∨ mm c < many c n lo ls lp then 22
  else if c = 20 then ptsE fl lp else if 65536 < a + many c n lo ls lp then 21 else 0
end Go.Proofs.Ytojjcmkadmofdaa
