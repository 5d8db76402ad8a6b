/-
  The plain mathematics of package pack: numbers as bytes, the highest one first.
-/
import Derived.Test.YtemjcgmoacnnfaaPlain
import Derived.Test.YtemjcgmoacnnfaaMore
namespace Go.Proofs.Ytemjcgmoacnnfaa
open Go.RowKit
/-- The n lowest bytes of a number, the highest first. -/
def be : Nat → Nat → List Int
  | 0, _ => []
  | n + 1, v => ((v / 256 ^ n % 256 : Nat) : Int) :: be n v
theorem be_length (n v : Nat) : (be n v).length = n := by
  induction n with
  | zero => rfl
  | succ n ih => simp [be, ih]
theorem be_wf (n v : Nat) : ∀ x ∈ be n v, (Lit.int .u8 x).wf = true := by
  induction n with
  | zero => intro x hx; cases hx
  | succ n ih =>
    intro x hx
    simp only [be, List.mem_cons] at hx
    rcases hx with rfl | hx
    · exact wf_byte _ (Nat.mod_lt _ (by omega))
    · exact ih x hx
theorem be_nth (n v : Nat) (j : Nat) (h : j < n) : nth (be n v) j = ((v / 256 ^ (n - 1 - j) % 256 : Nat) : Int) := by
  induction n generalizing j with
  | zero => omega
  | succ n ih =>
    cases j with
    | zero => simp [be, nth]
    | succ j =>
      have := ih j (by omega)
      rw [show n + 1 - 1 - (j + 1) = n - 1 - j by omega, ← this]
      simp [be, nth]
/-- What bytes are as a number, the highest one first. -/
def bval (xs : List Int) : Nat := xs.foldl (fun v x => v * 256 + x.toNat) 0
theorem bval_snoc (xs : List Int) (x : Int) : bval (xs ++ [x]) = bval xs * 256 + x.toNat := by simp [bval]
theorem bval_lt (xs : List Int) (h : ∀ x ∈ xs, (Lit.int .u8 x).wf = true) : bval xs < 256 ^ xs.length := by
  have H : ∀ (xs : List Int) (a n : Nat), (∀ x ∈ xs, (Lit.int .u8 x).wf = true) → a < 256 ^ n → xs.foldl (fun v x => v * 256 + x.toNat) a < 256 ^ (n + xs.length) := by
    intro xs
    induction xs with
    | nil => intro a n _ ha; simpa using ha
    | cons x xs ih =>
      intro a n hx ha
      have h1 := wf_u8 (hx x (by simp))
      have h2 := ih (a * 256 + x.toNat) (n + 1) (fun y hy => hx y (by simp [hy])) (by rw [Nat.pow_succ]; omega)
      rw [show n + 1 + xs.length = n + (x :: xs).length by simp; omega] at h2
      exact h2
  have := H xs 0 0 h (by simp)
  simpa [bval] using this
theorem bval_be (n v : Nat) (h : v < 256 ^ n) : bval (be n v) = v := by
  have H : ∀ (n a : Nat), (be n v).foldl (fun v x => v * 256 + x.toNat) a = a * 256 ^ n + v % 256 ^ n := by
    intro n
    induction n with
    | zero => intro a; simp [be]; omega
    | succ n ih =>
      intro a
      rw [be, List.foldl_cons, ih, Nat.mod_pow_succ, Int.toNat_natCast, Nat.add_mul, Nat.pow_succ, Nat.mul_assoc a, Nat.mul_comm 256, Nat.mul_comm (256 ^ n) (v / 256 ^ n % 256)]
      omega
  rw [bval, H, Nat.mod_eq_of_lt h]; omega
theorem bval_pow_le {n : Nat} (h : n ≤ 7) {a : Nat} (ha : a < 256 ^ n) : a * 256 + 255 < 18446744073709551616 := by
  have : (256 : Nat) ^ n ≤ 256 ^ 7 := Nat.pow_le_pow_right (by omega) h
  have e : (256 : Nat) ^ 7 = 72057594037927936 := by decide
  omega
theorem pow_le_64 {n : Nat} (h : n ≤ 8) : (256 : Nat) ^ n ≤ 18446744073709551616 := by
  have : (256 : Nat) ^ n ≤ 256 ^ 8 := Nat.pow_le_pow_right (by omega) h
  have e : (256 : Nat) ^ 8 = 18446744073709551616 := by decide
  omega
theorem div_step (s j : Nat) : s / 256 ^ j / 256 = s / 256 ^ (j + 1) := by rw [Nat.div_div_eq_div_mul, Nat.pow_succ]
/-- One more byte is laid, from the last one on. -/
theorem lay_step (P R Q : List Int) (n i v : Nat) (hi : i < n) (hR : R.length = n) :
    (P ++ (R.take (n - i) ++ (be i v ++ Q))).set (P.length + (n - 1 - i)) ((v / 256 ^ i % 256 : Nat) : Int) = P ++ (R.take (n - (i + 1)) ++ (be (i + 1) v ++ Q)) := by
  have e : R.take (n - i) = R.take (n - (i + 1)) ++ [nth R (n - (i + 1))] := by
    have := take_step R (n - (i + 1)) (by omega)
    rwa [show n - (i + 1) + 1 = n - i by omega] at this
  have hl : (R.take (n - (i + 1))).length = n - (i + 1) := by simp; omega
  rw [e, List.set_append_right _ _ (by omega), List.append_assoc, List.set_append_right _ _ (by omega), hl, show P.length + (n - 1 - i) - P.length - (n - (i + 1)) = 0 by omega]
  rfl
theorem lay_len (P R Q : List Int) (n i v : Nat) (hi : i ≤ n) (hR : R.length = n) : (P ++ (R.take (n - i) ++ (be i v ++ Q))).length = P.length + n + Q.length := by
  simp [be_length]; omega
/-- Of two numbers the first byte that differs decides. -/
theorem be_first (n a b i : Nat) (hi : i < n) (he : ∀ j, j < i → nth (be n a) j = nth (be n b) j) :
    (nth (be n a) i < nth (be n b) i → a % 256 ^ n < b % 256 ^ n) ∧ (nth (be n b) i < nth (be n a) i → b % 256 ^ n < a % 256 ^ n) := by
  induction n generalizing i with
  | zero => omega
  | succ n ih =>
    rw [Nat.mod_pow_succ, Nat.mod_pow_succ]
    have ha := Nat.mod_lt a (show 256 ^ n > 0 by exact Nat.pow_pos (by omega))
    have hb := Nat.mod_lt b (show 256 ^ n > 0 by exact Nat.pow_pos (by omega))
    cases i with
    | zero =>
      have key : ∀ (p q r s : Nat), p < 256 ^ n → r < s → p + 256 ^ n * r < q + 256 ^ n * s := by
        intro p q r s hp hrs
        have h1 : 256 ^ n * (r + 1) ≤ 256 ^ n * s := Nat.mul_le_mul_left _ hrs
        rw [Nat.mul_add, Nat.mul_one] at h1
        omega
      simp only [be, nth, List.getD_cons_zero]
      exact ⟨fun h => key _ _ _ _ ha (by omega), fun h => key _ _ _ _ hb (by omega)⟩
    | succ i =>
      have h0 := he 0 (by omega)
      simp only [be, nth, List.getD_cons_zero] at h0
      have h0' : a / 256 ^ n % 256 = b / 256 ^ n % 256 := by omega
      have := ih i (by omega) (fun j hj => by have := he (j + 1) (by omega); simpa [be, nth] using this)
      simp only [be, nth, List.getD_cons_succ]
      rw [h0']
      exact ⟨fun h => by have := this.1 h; omega, fun h => by have := this.2 h; omega⟩
theorem be_same (n a b : Nat) (he : ∀ j, j < n → nth (be n a) j = nth (be n b) j) : a % 256 ^ n = b % 256 ^ n := by
  induction n with
  | zero => simp; omega
  | succ n ih =>
    have h0 := he 0 (by omega)
    simp only [be, nth, List.getD_cons_zero] at h0
    have h0' : a / 256 ^ n % 256 = b / 256 ^ n % 256 := by omega
    rw [Nat.mod_pow_succ, Nat.mod_pow_succ, h0', ih (fun j hj => by have := he (j + 1) (by omega); simpa [be, nth] using this)]
theorem or_low (a b : Nat) (h : b < 256) : a * 256 ||| b = a * 256 + b := by
  have := Nat.shiftLeft_add_eq_or_of_lt (i := 8) h a
  rw [Nat.shiftLeft_eq] at this
  exact this.symm
end Go.Proofs.Ytemjcgmoacnnfaa
