/-
  The plain mathematics of scales.
-/
import Derived.Test.YtmakegbkgiajdaaPlain
namespace Go.Proofs.Ytmakegbkgiajdaa
open Go.RowKit
set_option linter.unusedVariables false

/-- A scale as plain data. -/
structure Sc where
  wide : Bool
  signed : Bool
  swap : Bool
  mul : Int
  div : Int
  add : Int
/-- Its numbers are those of an int. -/
def Sc.fits (s : Sc) : Prop := (-9223372036854775808 ≤ s.mul ∧ s.mul < 9223372036854775808) ∧ (-9223372036854775808 ≤ s.div ∧ s.div < 9223372036854775808) ∧ (-9223372036854775808 ≤ s.add ∧ s.add < 9223372036854775808)
/-- May a scale be? -/
def Sc.Ok (s : Sc) : Prop := s.mul ≠ 0 ∧ (-1000000 ≤ s.mul ∧ s.mul ≤ 1000000) ∧ (1 ≤ s.div ∧ s.div ≤ 1000000) ∧ (-1099511627776 ≤ s.add ∧ s.add ≤ 1099511627776) ∧ (s.swap = true → s.wide = true)
instance (s : Sc) : Decidable s.Ok := by unfold Sc.Ok; infer_instance
def chkS (s : Sc) : Int := if s.Ok then 0 else 25
theorem chkS_yes {s : Sc} (h : s.Ok) : chkS s = 0 := if_pos h
theorem chkS_no {s : Sc} (h : ¬ s.Ok) : chkS s = 25 := if_neg h

/-- How many6 numbers words can be, and the least of them. -/
def many6 (s : Sc) : Int := if s.wide then 4294967296 else 65536
def lowS (s : Sc) : Int := if s.signed then -(many6 s / 2) else 0
def cntS (s : Sc) : Nat := if s.wide then 2 else 1
/-- The number of words, without a sign, and with it. -/
def baseS (s : Sc) (xs : List Int) : Int := if s.wide then (if s.swap then nth xs 1 * 65536 + nth xs 0 else nth xs 0 * 65536 + nth xs 1) else nth xs 0
def signS (s : Sc) (n : Int) : Int := if lowS s + many6 s - 1 < n then n - many6 s else n
def rawE (s : Sc) (xs : List Int) : Int := if s.Ok then (if xs.length = cntS s then 0 else 22) else 25
def rawN (s : Sc) (xs : List Int) : Int := if rawE s xs = 0 then signS s (baseS s xs) else 0
/-- The words of a number. -/
def wordsE6 (s : Sc) (n : Int) : Int := if s.Ok then (if lowS s ≤ n ∧ n ≤ lowS s + many6 s - 1 then 0 else 3) else 25
def layS (s : Sc) (n : Int) : List Int := if s.wide then (if s.swap then [n % 65536, n / 65536 % 65536] else [n / 65536 % 65536, n % 65536]) else [n % 65536]
def wordsS (s : Sc) (n : Int) : List Int := if wordsE6 s n = 0 then layS s n else []

/-- The nearest whole number. -/
def near (a b : Int) : Int := if a < 0 then -((2 * -a + b) / (2 * b)) else (2 * a + b) / (2 * b)
def valE (s : Sc) (n : Int) : Int := if s.Ok then (if -2147483648 ≤ n ∧ n ≤ 4294967295 then 0 else 3) else 25
def cut (v : Int) : Int := max (-1099511627776) (min v 1099511627776)
def valN (s : Sc) (n : Int) : Int := if valE s n = 0 then cut (near (n * s.mul) s.div + s.add) else 0

theorem half_pos (a b : Int) (ha : 0 ≤ a) (hb : 0 < b) : (2 * a + b) / (2 * b) = if b ≤ 2 * (a % b) then a / b + 1 else a / b := by
  have h1 := Int.emod_add_mul_ediv a b
  have h2 := Int.emod_nonneg a (by omega : b ≠ 0)
  have h3 := Int.emod_lt_of_pos a hb
  generalize a / b = q at *
  generalize a % b = r at *
  have e : 2 * b * q = 2 * (b * q) := Int.mul_assoc _ _ _
  split
  · exact ((Int.ediv_emod_unique (a := 2 * a + b) (b := 2 * b) (r := 2 * r + b - 2 * b) (q := q + 1) (by omega)).2 ⟨by rw [Int.mul_add, e]; omega, by omega, by omega⟩).1
  · exact ((Int.ediv_emod_unique (a := 2 * a + b) (b := 2 * b) (r := 2 * r + b) (q := q) (by omega)).2 ⟨by rw [e]; omega, by omega, by omega⟩).1
/-- The document's way to the nearest whole number. -/
theorem near_ref (a b : Int) (hb : 0 < b) : near a b = if b ≤ 2 * a.tmod b then a.tdiv b + 1 else if 2 * a.tmod b ≤ -b then a.tdiv b - 1 else a.tdiv b := by
  unfold near
  by_cases ha : a < 0
  · rw [if_pos ha, half_pos _ _ (by omega) hb]
    obtain ⟨n, rfl⟩ : ∃ n : Int, a = -n := ⟨-a, by omega⟩
    rw [Int.neg_neg, Int.neg_tmod, Int.neg_tdiv, Int.tmod_eq_emod_of_nonneg (by omega), Int.tdiv_eq_ediv_of_nonneg (by omega)]
    have h2 := Int.emod_nonneg n (by omega : b ≠ 0)
    generalize n / b = q at *
    generalize n % b = r at *
    split <;> split <;> (try split) <;> omega
  · rw [if_neg ha, half_pos _ _ (by omega) hb, Int.tmod_eq_emod_of_nonneg (by omega), Int.tdiv_eq_ediv_of_nonneg (by omega)]
    have h2 := Int.emod_nonneg a (by omega : b ≠ 0)
    generalize a / b = q at *
    generalize a % b = r at *
    split <;> (try split) <;> omega
/-- A value times Div is no farther from the number than a half of Div; at a half it is farther from 0. -/
theorem near_away (a b : Int) (hb : 0 < b) : -b ≤ 2 * (near a b * b - a) ∧ 2 * (near a b * b - a) ≤ b ∧ (2 * (near a b * b - a) = b → 0 ≤ a) ∧ (2 * (near a b * b - a) = -b → a ≤ 0) := by
  have key : ∀ n : Int, 0 ≤ n → -b < 2 * (((2 * n + b) / (2 * b)) * b - n) ∧ 2 * (((2 * n + b) / (2 * b)) * b - n) ≤ b := by
    intro n hn
    have h1 := Int.emod_add_mul_ediv (2 * n + b) (2 * b)
    have h2 := Int.emod_nonneg (2 * n + b) (by omega : 2 * b ≠ 0)
    have h3 := Int.emod_lt_of_pos (2 * n + b) (by omega : 0 < 2 * b)
    generalize (2 * n + b) / (2 * b) = q at *
    generalize (2 * n + b) % (2 * b) = r at *
    have e : 2 * b * q = 2 * (q * b) := by rw [Int.mul_assoc, Int.mul_comm b q]
    rw [e] at h1
    generalize q * b = t at *
    omega
  unfold near
  by_cases ha : a < 0
  · rw [if_pos ha]
    have := key (-a) (by omega)
    rw [Int.neg_mul]
    generalize (2 * -a + b) / (2 * b) * b = t at *
    omega
  · rw [if_neg ha]
    have := key a (by omega)
    generalize (2 * a + b) / (2 * b) * b = t at *
    omega
theorem near_neg (a b : Int) (hb : 0 < b) : near (-a) b = - near a b := by
  unfold near
  by_cases h0 : a = 0
  · subst h0
    have e : b / (2 * b) = 0 := Int.ediv_eq_zero_of_lt (by omega) (by omega)
    simp [e]
  · by_cases ha : a < 0
    · rw [if_neg (by omega), if_pos ha, Int.neg_neg]
    · rw [if_pos (by omega), if_neg ha, Int.neg_neg]
theorem near_mono (a a' b : Int) (hb : 0 < b) (h : a ≤ a') : near a b ≤ near a' b := by
  have pos : ∀ n : Int, 0 ≤ n → 0 ≤ (2 * n + b) / (2 * b) := fun n hn => Int.ediv_nonneg (by omega) (by omega)
  unfold near
  by_cases h1 : a < 0
  · by_cases h2 : a' < 0
    · rw [if_pos h1, if_pos h2]
      have := Int.ediv_le_ediv (by omega : 0 < 2 * b) (by omega : 2 * -a' + b ≤ 2 * -a + b)
      omega
    · rw [if_pos h1, if_neg h2]
      have p1 := pos (-a) (by omega)
      have p2 := pos a' (by omega)
      omega
  · rw [if_neg h1, if_neg (by omega)]
    exact Int.ediv_le_ediv (by omega : 0 < 2 * b) (by omega)
/-- What a right scale's product can be. -/
theorem prod_bound {n m : Int} (h1 : -2147483648 ≤ n ∧ n ≤ 4294967295) (h2 : -1000000 ≤ m ∧ m ≤ 1000000) : -4294967295000000 ≤ n * m ∧ n * m ≤ 4294967295000000 := by
  have a1 : n.natAbs ≤ 4294967295 := by omega
  have a2 : m.natAbs ≤ 1000000 := by omega
  have a3 := Nat.mul_le_mul a1 a2
  rw [← Int.natAbs_mul] at a3
  omega
theorem near_bound {a b : Int} (hb : 0 < b) (h : -4294967295000000 ≤ a ∧ a ≤ 4294967295000000) : -4294967295000000 ≤ near a b ∧ near a b ≤ 4294967295000000 := by
  have key : ∀ n : Int, 0 ≤ n → n ≤ 4294967295000000 → 0 ≤ (2 * n + b) / (2 * b) ∧ (2 * n + b) / (2 * b) ≤ 4294967295000000 := by
    intro n h0 hn
    refine ⟨Int.ediv_nonneg (by omega) (by omega), ?_⟩
    refine Int.lt_add_one_iff.1 (Int.ediv_lt_of_lt_mul (by omega) ?_)
    have : (4294967295000000 + 1) * (2 * 1) ≤ (4294967295000000 + 1) * (2 * b) := Int.mul_le_mul_of_nonneg_left (by omega) (by omega)
    by_cases hb1 : b = 1
    · subst hb1; omega
    · have h4 : (4294967295000000 + 1) * (2 * b) = 4294967295000000 * (2 * b) + 2 * b := by omega
      rw [h4]
      omega
  unfold near
  by_cases ha : a < 0
  · rw [if_pos ha]; have := key (-a) (by omega) (by omega); omega
  · rw [if_neg ha]; exact key a (by omega) (by omega) |> fun h => ⟨by omega, h.2⟩
end Go.Proofs.Ytmakegbkgiajdaa
