/-
  The plain mathematics of the check sums: a register of numbers, no Go.
-/
namespace Go.Proofs.Ytmbjcmagadekpaa

/-- A register goes down by one bit. -/
def dn (p r : Nat) : Nat := if r % 2 = 1 then r / 2 ^^^ p else r / 2
/-- It goes down by k bits. -/
def dnN (p : Nat) : Nat → Nat → Nat
  | 0, r => r
  | k + 1, r => dn p (dnN p k r)
/-- It takes a byte. -/
def tk (p r v : Nat) : Nat := dnN p 8 (r ^^^ v)
/-- It takes all bytes of a list. -/
def tkAll (p r : Nat) (l : List Int) : Nat := l.foldl (fun r v => tk p r v.toNat) r

theorem tkAll_snoc (p r : Nat) (l : List Int) (v : Int) : tkAll p r (l ++ [v]) = tk p (tkAll p r l) v.toNat := by simp [tkAll]
theorem tkAll_append (p r : Nat) (l m : List Int) : tkAll p r (l ++ m) = tkAll p (tkAll p r l) m := by simp [tkAll]

theorem dn_lt {p b r : Nat} (hp : p < 2 ^ b) (hr : r < 2 ^ b) : dn p r < 2 ^ b := by
  unfold dn
  split
  · exact Nat.xor_lt_two_pow (by omega) hp
  · omega
theorem dnN_lt {p b r : Nat} (hp : p < 2 ^ b) (hr : r < 2 ^ b) (k : Nat) : dnN p k r < 2 ^ b := by
  induction k with
  | zero => exact hr
  | succ k ih => exact dn_lt hp ih
theorem tk_lt {p b r v : Nat} (hp : p < 2 ^ b) (hr : r < 2 ^ b) (hv : v < 2 ^ b) : tk p r v < 2 ^ b := dnN_lt hp (Nat.xor_lt_two_pow hr hv) 8
theorem tkAll_lt {p b r : Nat} (hp : p < 2 ^ b) (hr : r < 2 ^ b) (h8 : 256 ≤ 2 ^ b) (l : List Int) (hl : ∀ v ∈ l, v.toNat < 256) : tkAll p r l < 2 ^ b := by
  induction l generalizing r with
  | nil => exact hr
  | cons v l ih => exact ih (tk_lt hp hr (Nat.lt_of_lt_of_le (hl v (by simp)) h8)) fun x hx => hl x (by simp [hx])

/- Linearity: what is laid over goes through. -/
theorem xor_mod2 (a b : Nat) : (a ^^^ b) % 2 = (a % 2 + b % 2) % 2 := by
  have h := Nat.xor_mod_two_pow (a := a) (b := b) (n := 1)
  rw [Nat.pow_one] at h
  rw [h]
  have ha : a % 2 = 0 ∨ a % 2 = 1 := by omega
  have hb : b % 2 = 0 ∨ b % 2 = 1 := by omega
  rcases ha with ha | ha <;> rcases hb with hb | hb <;> simp [ha, hb]
theorem xor_div2 (a b : Nat) : (a ^^^ b) / 2 = a / 2 ^^^ b / 2 := by
  have := Nat.shiftRight_xor_distrib (a := a) (b := b) (i := 1)
  simpa [Nat.shiftRight_eq_div_pow] using this
theorem dn_xor (p a b : Nat) : dn p (a ^^^ b) = dn p a ^^^ dn p b := by
  unfold dn
  rw [xor_mod2, xor_div2]
  have ha : a % 2 = 0 ∨ a % 2 = 1 := by omega
  have hb : b % 2 = 0 ∨ b % 2 = 1 := by omega
  rcases ha with ha | ha <;> rcases hb with hb | hb <;> simp [ha, hb]
  · rw [Nat.xor_assoc]
  · rw [Nat.xor_assoc, Nat.xor_comm (b / 2) p, ← Nat.xor_assoc]
  · rw [Nat.xor_assoc, ← Nat.xor_assoc p, Nat.xor_comm p, Nat.xor_assoc, Nat.xor_self, Nat.xor_zero]
theorem dnN_xor (p k a b : Nat) : dnN p k (a ^^^ b) = dnN p k a ^^^ dnN p k b := by
  induction k with
  | zero => rfl
  | succ k ih => simp only [dnN, ih, dn_xor]
theorem dn_zero (p : Nat) : dn p 0 = 0 := by simp [dn]
theorem dnN_zero (p k : Nat) : dnN p k 0 = 0 := by
  induction k with
  | zero => rfl
  | succ k ih => simp only [dnN, ih, dn_zero]
theorem dnN_add (p k m r : Nat) : dnN p (k + m) r = dnN p k (dnN p m r) := by
  induction k with
  | zero => simp [dnN]
  | succ k ih => rw [Nat.succ_add]; simp only [dnN, ih]

/- No two registers go down to the same: the sum's own number has its highest bit. -/
theorem dn_inj0 {p b r : Nat} (hp1 : 2 ^ b ≤ p) (hr : r < 2 ^ (b + 1)) (h : dn p r = 0) : r = 0 := by
  unfold dn at h
  split at h
  · have h1 : r / 2 = p := by
      have := congrArg (· ^^^ p) h
      simpa [Nat.xor_assoc] using this
    have : 2 ^ (b + 1) = 2 * 2 ^ b := by rw [Nat.pow_succ]; omega
    omega
  · omega
theorem dnN_inj0 {p b : Nat} (hp1 : 2 ^ b ≤ p) (hp2 : p < 2 ^ (b + 1)) (k : Nat) {r : Nat} (hr : r < 2 ^ (b + 1)) (h : dnN p k r = 0) : r = 0 := by
  induction k with
  | zero => exact h
  | succ k ih => exact ih (dn_inj0 hp1 (dnN_lt hp2 hr k) h)
end Go.Proofs.Ytmbjcmagadekpaa
