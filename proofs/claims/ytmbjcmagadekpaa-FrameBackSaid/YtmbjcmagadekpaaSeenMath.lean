/-
  Why turned bits are seen: the register's bytes as one number.
-/
import Derived.Test.YtmbjcmagadekpaaSealB
namespace Go.Proofs.Ytmbjcmagadekpaa
set_option linter.unusedVariables false

/-- The bytes as one number, the lowest byte first. -/
def num : List Int → Nat
  | [] => 0
  | x :: l => 2 ^ 8 * num l + x.toNat

theorem num_bit_cons (x : Int) (l : List Int) (hx : x.toNat < 2 ^ 8) (t : Nat) : (num (x :: l)).testBit t = if t < 8 then x.toNat.testBit t else (num l).testBit (t - 8) := by
  rw [num, Nat.testBit_two_pow_mul_add _ hx]
theorem num_cons_xor (x : Int) (l : List Int) (hx : x.toNat < 2 ^ 8) : num (x :: l) = x.toNat ^^^ (2 ^ 8 * num l) := by
  apply Nat.eq_of_testBit_eq
  intro t
  rw [num_bit_cons x l hx, Nat.testBit_xor, Nat.testBit_two_pow_mul]
  by_cases h : t < 8
  · simp [h, show ¬ 8 ≤ t by omega]
  · have : x.toNat.testBit t = false := Nat.testBit_lt_two_pow (Nat.lt_of_lt_of_le hx (Nat.pow_le_pow_right (by omega) (by omega)))
    simp [h, this, show 8 ≤ t by omega]
theorem num_lt (l : List Int) (h : ∀ x ∈ l, x.toNat < 2 ^ 8) : num l < 2 ^ (8 * l.length) := by
  induction l with
  | nil => simp [num]
  | cons x l ih =>
    have h1 := h x (by simp)
    have h2 := ih fun y hy => h y (by simp [hy])
    rw [num, List.length_cons, show 8 * (l.length + 1) = 8 + 8 * l.length by omega, Nat.pow_add]
    have : 2 ^ 8 * num l + x.toNat < 2 ^ 8 * (num l + 1) := by omega
    exact Nat.lt_of_lt_of_le this (Nat.mul_le_mul_left _ h2)
theorem num_inj (l m : List Int) (hl : ∀ x ∈ l, (Lit.int .u8 x).wf = true) (hm : ∀ x ∈ m, (Lit.int .u8 x).wf = true) (h : l.length = m.length) (e : num l = num m) : l = m := by
  induction l generalizing m with
  | nil => cases m with | nil => rfl | cons _ _ => simp at h
  | cons x l ih =>
    cases m with
    | nil => simp at h
    | cons y m =>
      have h1 := wf_u8 (hl x (by simp))
      have h2 := wf_u8 (hm y (by simp))
      simp only [num] at e
      have e1 : x.toNat = y.toNat := by omega
      have e2 : num l = num m := by omega
      rw [show x = y by omega, ih m (fun z hz => hl z (by simp [hz])) (fun z hz => hm z (by simp [hz])) (by simpa using h) e2]

theorem dn_even (p M : Nat) : dn p (2 * M) = M := by unfold dn; rw [if_neg (by omega)]; omega
theorem dnN_pow (p k M : Nat) : dnN p k (2 ^ k * M) = M := by
  induction k generalizing M with
  | zero => simp [dnN]
  | succ k ih =>
    show dn p (dnN p k (2 ^ (k + 1) * M)) = M
    rw [Nat.pow_succ, Nat.mul_assoc, ih, dn_even]

theorem tkAll_num (p r : Nat) (l : List Int) (h : ∀ x ∈ l, x.toNat < 2 ^ 8) : tkAll p r l = dnN p (8 * l.length) (r ^^^ num l) := by
  induction l generalizing r with
  | nil => simp [tkAll, dnN, num]
  | cons x l ih =>
    show tkAll p (tk p r x.toNat) l = _
    rw [ih _ fun y hy => h y (by simp [hy]), List.length_cons, show 8 * (l.length + 1) = 8 * l.length + 8 by omega, dnN_add, num_cons_xor x l (h x (by simp)), ← Nat.xor_assoc, dnN_xor p 8, dnN_pow]
    rfl

/-- The bits that are turned: of the mask's first j, laid at a place, those within N. -/
def dl (at_ mask N j : Nat) : Nat := ((mask % 2 ^ j) <<< at_) % 2 ^ N
theorem dl_bit (at_ mask N j t : Nat) : (dl at_ mask N j).testBit t = (decide (t < N) && (decide (at_ ≤ t) && (decide (t - at_ < j) && mask.testBit (t - at_)))) := by
  rw [dl, Nat.testBit_mod_two_pow, Nat.testBit_shiftLeft, Nat.testBit_mod_two_pow]
theorem dl_zero (at_ mask N : Nat) : dl at_ mask N 0 = 0 := by simp [dl, Nat.mod_one]
theorem dl_yes (at_ mask N j : Nat) (h1 : mask.testBit j = true) (h2 : at_ + j < N) : dl at_ mask N (j + 1) = dl at_ mask N j ^^^ 2 ^ (at_ + j) := by
  apply Nat.eq_of_testBit_eq
  intro t
  rw [Nat.testBit_xor, dl_bit, dl_bit, Nat.testBit_two_pow]
  by_cases e : at_ + j = t
  · subst e
    simp [h1, h2]
  · by_cases h3 : at_ ≤ t
    · by_cases h4 : t - at_ < j
      · simp [h3, h4, e, show t - at_ < j + 1 by omega]
      · simp [h3, h4, e, show ¬ t - at_ < j + 1 by omega]
    · simp [h3, e]
theorem dl_no (at_ mask N j : Nat) (h : ¬ (mask.testBit j = true ∧ at_ + j < N)) : dl at_ mask N (j + 1) = dl at_ mask N j := by
  apply Nat.eq_of_testBit_eq
  intro t
  rw [dl_bit, dl_bit]
  by_cases h3 : at_ ≤ t
  · by_cases e : t - at_ = j
    · have e' : t = at_ + j := by omega
      subst e'
      by_cases h2 : at_ + j < N
      · have h1 : mask.testBit j = false := by
          cases hb : mask.testBit j
          · rfl
          · exact absurd ⟨hb, h2⟩ h
        simp [h1]
      · simp [h2]
    · by_cases h4 : t - at_ < j
      · simp [h3, h4, show t - at_ < j + 1 by omega]
      · simp [h3, h4, show ¬ t - at_ < j + 1 by omega]
  · simp [h3]
theorem dl_yes_ne (at_ mask N j : Nat) (h1 : mask.testBit j = true) (h2 : at_ + j < N) : dl at_ mask N (j + 1) ≠ 0 := by
  intro h
  have := congrArg (Nat.testBit · (at_ + j)) h
  simp only [dl_bit, Nat.zero_testBit] at this
  simp [h1, h2] at this

/-- What a register comes to by turned bits alone is nought only if none is turned. -/
theorem dnN_dl {p b : Nat} (hp1 : 2 ^ b ≤ p) (hp2 : p < 2 ^ (b + 1)) (at_ mask N j : Nat) (hm : mask % 2 ^ j < 2 ^ (b + 1)) (h : dnN p N (dl at_ mask N j) = 0) : dl at_ mask N j = 0 := by
  by_cases ha : at_ ≤ N
  · have e : dl at_ mask N j = 2 ^ at_ * (mask % 2 ^ j % 2 ^ (N - at_)) := by
      rw [dl, Nat.shiftLeft_eq, Nat.mul_comm]
      conv => lhs; rw [show N = at_ + (N - at_) by omega, Nat.pow_add]
      exact Nat.mul_mod_mul_left _ _ _
    rw [e, show N = (N - at_) + at_ by omega, dnN_add, dnN_pow] at h
    rw [show N - at_ + at_ - at_ = N - at_ by omega] at h
    have h0 := dnN_inj0 hp1 hp2 _ (Nat.lt_of_le_of_lt (Nat.mod_le _ _) hm) h
    rw [e, h0, Nat.mul_zero]
  · apply Nat.eq_of_testBit_eq
    intro t
    rw [dl_bit, Nat.zero_testBit]
    by_cases h1 : t < N
    · simp [show ¬ at_ ≤ t by omega]
    · simp [h1]

theorem num_set_bit (l : List Int) (q t : Nat) (y : Int) (hl : ∀ x ∈ l, x.toNat < 2 ^ 8) (hy : y.toNat < 2 ^ 8) (hq : q < l.length) : (num (l.set q y)).testBit t = if t / 8 = q then y.toNat.testBit (t % 8) else (num l).testBit t := by
  induction l generalizing q t with
  | nil => simp at hq
  | cons x l ih =>
    have hx := hl x (by simp)
    cases q with
    | zero =>
      rw [List.set_cons_zero, num_bit_cons _ _ hy, num_bit_cons _ _ hx]
      by_cases h : t < 8
      · rw [if_pos h, if_pos (by omega), Nat.mod_eq_of_lt h]
      · rw [if_neg h, if_neg (by omega), if_neg h]
    | succ q =>
      rw [List.set_cons_succ, num_bit_cons _ _ hx, num_bit_cons _ _ hx]
      by_cases h : t < 8
      · rw [if_pos h, if_neg (by omega), if_pos h]
      · rw [if_neg h, if_neg h, ih q (t - 8) (fun z hz => hl z (by simp [hz])) (by simpa using hq)]
        by_cases e : t / 8 = q + 1
        · rw [if_pos e, if_pos (by omega), show (t - 8) % 8 = t % 8 by omega]
        · rw [if_neg e, if_neg (by omega)]
theorem num_bit (l : List Int) (t : Nat) (hl : ∀ x ∈ l, x.toNat < 2 ^ 8) (h : t / 8 < l.length) : (num l).testBit t = (nth l (t / 8)).toNat.testBit (t % 8) := by
  have := num_set_bit l (t / 8) t (nth l (t / 8)) hl (hl _ (nth_mem l _ h)) h
  rw [if_pos rfl] at this
  rw [← this]
  congr 2
  rw [nth_eq l _ h, List.set_getElem_self]
/-- One bit is turned. -/
theorem num_turn (l : List Int) (k : Nat) (hl : ∀ x ∈ l, (Lit.int .u8 x).wf = true) (hk : k / 8 < l.length) (y : Int) (hy : y = ((nth l (k / 8)).toNat ^^^ 2 ^ (k % 8) : Nat)) : num (l.set (k / 8) y) = num l ^^^ 2 ^ k := by
  have hl8 : ∀ x ∈ l, x.toNat < 2 ^ 8 := fun x hx => by have := wf_u8 (hl x hx); omega
  have hlt := hl8 _ (nth_mem l _ hk)
  have hk8 : 2 ^ (k % 8) < 2 ^ 8 := Nat.pow_lt_pow_right (by omega) (by omega)
  have hy8 : y.toNat < 2 ^ 8 := by rw [hy, Int.toNat_natCast]; exact Nat.xor_lt_two_pow hlt hk8
  apply Nat.eq_of_testBit_eq
  intro t
  rw [num_set_bit l _ t y hl8 hy8 hk, Nat.testBit_xor, Nat.testBit_two_pow]
  by_cases e : t / 8 = k / 8
  · rw [if_pos e, hy, Int.toNat_natCast, Nat.testBit_xor, Nat.testBit_two_pow, num_bit l t hl8 (by omega), e]
    congr 2
    exact propext ⟨fun h => by omega, fun h => by rw [h]⟩
  · rw [if_neg e]
    simp [show ¬ k = t from fun h => e (by rw [h])]
end Go.Proofs.Ytmbjcmagadekpaa
