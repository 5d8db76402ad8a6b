/-
  What is sealed comes to nought (or to one number); so turned bits are refused.
-/
import Derived.Test.YtmbjcmagadekpaaSeenMath
import Derived.Test.YtmbjcmagadekpaaOpen2B
namespace Go.Proofs.Ytmbjcmagadekpaa
set_option linter.unusedVariables false

theorem nat8 {xs : List Int} (h : ∀ x ∈ xs, (Lit.int .u8 x).wf = true) : ∀ x ∈ xs, x.toNat < 2 ^ 8 := fun x hx => by have := wf_u8 (h x hx); omega
theorem num_le (n s : Nat) (h : s < 2 ^ (8 * n)) : num (le n s) = s := by
  have h8 : ∀ x ∈ le n s, x.toNat < 2 ^ 8 := nat8 (le_wf n s)
  apply Nat.eq_of_testBit_eq
  intro t
  by_cases ht : t / 8 < n
  · rw [num_bit _ t h8 (by rw [le_length]; exact ht)]
    have e : nth (le n s) (t / 8) = ((s / 256 ^ (t / 8) % 256 : Nat) : Int) := by
      rw [nth_eq _ _ (by rw [le_length]; exact ht)]
      simp [le]
    rw [e, Int.toNat_natCast, show (256 : Nat) = 2 ^ 8 from rfl, Nat.testBit_mod_two_pow, ← Nat.pow_mul, Nat.testBit_div_two_pow]
    simp [show t % 8 < 8 by omega, show t % 8 + 8 * (t / 8) = t by omega]
  · have h1 : num (le n s) < 2 ^ t := Nat.lt_of_lt_of_le (num_lt _ h8) (Nat.pow_le_pow_right (by omega) (by rw [le_length]; omega))
    have h2 : s < 2 ^ t := Nat.lt_of_lt_of_le h (Nat.pow_le_pow_right (by omega) (by omega))
    rw [Nat.testBit_lt_two_pow h1, Nat.testBit_lt_two_pow h2]

theorem xor_self_iff (a b : Nat) : a ^^^ b = 0 ↔ a = b := by
  constructor
  · intro h
    have := congrArg (· ^^^ b) h
    simpa [Nat.xor_assoc] using this
  · rintro rfl; exact Nat.xor_self _

/-- A row of 16: what is ahead and the last two bytes. -/
theorem right16_iff (s : List Int) (hs : ∀ x ∈ s, (Lit.int .u8 x).wf = true) (h2 : 2 ≤ s.length) : right16 s ↔ tkAll 40961 65535 s = 0 := by
  have hf : ∀ x ∈ s.take (s.length - 2), (Lit.int .u8 x).wf = true := fun x hx => hs x (List.mem_of_mem_take hx)
  have hg : ∀ x ∈ s.drop (s.length - 2), (Lit.int .u8 x).wf = true := fun x hx => hs x (List.mem_of_mem_drop hx)
  have hgl : (s.drop (s.length - 2)).length = 2 := by simp; omega
  have e : s = s.take (s.length - 2) ++ s.drop (s.length - 2) := (List.take_append_drop _ _).symm
  have hr : tkAll 40961 65535 (s.take (s.length - 2)) < 65536 := tkAll_lt (b := 16) (by decide) (by decide) (by decide) _ (nat8 hf)
  have hn : num (s.drop (s.length - 2)) < 65536 := by have := num_lt _ (nat8 hg); rw [hgl] at this; exact this
  have key : tkAll 40961 65535 s = dnN 40961 16 (tkAll 40961 65535 (s.take (s.length - 2)) ^^^ num (s.drop (s.length - 2))) := by
    conv => lhs; rw [e]
    rw [tkAll_append, tkAll_num 40961 _ (s.drop (s.length - 2)) (nat8 hg), hgl]
  rw [key]
  have hz : dnN 40961 16 (tkAll 40961 65535 (s.take (s.length - 2)) ^^^ num (s.drop (s.length - 2))) = 0 ↔ tkAll 40961 65535 (s.take (s.length - 2)) = num (s.drop (s.length - 2)) := by
    generalize tkAll 40961 65535 (s.take (s.length - 2)) = a at *
    generalize num (s.drop (s.length - 2)) = b at *
    constructor
    · intro h
      have h3 := dnN_inj0 (b := 15) (by decide) (by decide) 16 (Nat.xor_lt_two_pow (n := 16) hr hn) h
      exact (xor_self_iff _ _).1 h3
    · intro h
      rw [(xor_self_iff _ _).2 h, dnN_zero]
  rw [hz, right16, sealed16]
  constructor
  · intro h
    have h' : s.drop (s.length - 2) = le 2 (tkAll 40961 65535 (s.take (s.length - 2))) := by
      have h3 := h
      conv at h3 => lhs; rw [e]
      exact List.append_cancel_left h3
    rw [h', num_le 2 _ hr]
  · intro h
    conv => lhs; rw [e]
    congr 1
    refine num_inj _ _ hg (le_wf _ _) (by rw [hgl, le_length]) ?_
    rw [num_le 2 _ hr, h]

/-- What is turned: a row of the same length whose number is the other's with so many bits turned. -/
structure Turned (xs ys : List Int) (at_ mask j n : Nat) : Prop where
  len : ys.length = xs.length
  wf : ∀ x ∈ ys, (Lit.int .u8 x).wf = true
  num_eq : num ys = num xs ^^^ dl at_ mask (8 * xs.length) j
  none_iff : n = 0 ↔ dl at_ mask (8 * xs.length) j = 0
theorem Turned.tk {xs ys : List Int} {at_ mask j n : Nat} (h : Turned xs ys at_ mask j n) (hx : ∀ x ∈ xs, (Lit.int .u8 x).wf = true) (p r : Nat) :
    tkAll p r ys = tkAll p r xs ^^^ dnN p (8 * xs.length) (dl at_ mask (8 * xs.length) j) := by
  rw [tkAll_num p r ys (nat8 h.wf), tkAll_num p r xs (nat8 hx), h.len, h.num_eq, ← Nat.xor_assoc, dnN_xor]
theorem Turned.same {xs ys : List Int} {at_ mask j n : Nat} (h : Turned xs ys at_ mask j n) (hx : ∀ x ∈ xs, (Lit.int .u8 x).wf = true) (hn : n = 0) : ys = xs := by
  refine num_inj ys xs h.wf hx h.len ?_
  rw [h.num_eq, h.none_iff.1 hn, Nat.xor_zero]
theorem Turned.seen {xs ys : List Int} {at_ mask j n b : Nat} (h : Turned xs ys at_ mask j n) (hx : ∀ x ∈ xs, (Lit.int .u8 x).wf = true) (hn : n ≠ 0) (p r : Nat) (hp1 : 2 ^ b ≤ p) (hp2 : p < 2 ^ (b + 1)) (hm : mask % 2 ^ j < 2 ^ (b + 1)) : tkAll p r ys ≠ tkAll p r xs := by
  rw [h.tk hx]
  intro e
  have h0 : dnN p (8 * xs.length) (dl at_ mask (8 * xs.length) j) = 0 := by
    have := congrArg (tkAll p r xs ^^^ ·) e
    simpa [← Nat.xor_assoc] using this
  exact hn (h.none_iff.2 (dnN_dl hp1 hp2 _ _ _ _ hm h0))
theorem Turned.seen16 {xs ys : List Int} {at_ mask n : Nat} (h : Turned xs ys at_ mask 32 n) (hx : ∀ x ∈ xs, (Lit.int .u8 x).wf = true) (hn : n ≠ 0) (hm : mask < 65536) : tkAll 40961 65535 ys ≠ tkAll 40961 65535 xs :=
  h.seen (b := 15) hx hn _ _ (by decide) (by decide) (Nat.lt_of_le_of_lt (Nat.mod_le _ _) hm)
theorem sealed16_right (xs : List Int) (hx : ∀ x ∈ xs, (Lit.int .u8 x).wf = true) : right16 (sealed16 xs) := by
  unfold right16
  rw [sealed16_length]
  simp only [Nat.add_sub_cancel]
  rw [show (sealed16 xs).take xs.length = xs by rw [sealed16]; simp]
theorem Turned.refused16 {xs ys : List Int} {at_ mask n : Nat} (h : Turned (sealed16 xs) ys at_ mask 32 n) (hx : ∀ x ∈ xs, (Lit.int .u8 x).wf = true) (hn : n ≠ 0) (hm : mask < 65536) : ¬ right16 ys := by
  have hw := sealed16_wf hx
  have hl := sealed16_length xs
  intro hr
  rw [right16_iff ys h.wf (by rw [h.len]; omega)] at hr
  have h0 := (right16_iff _ hw (by omega)).1 (sealed16_right xs hx)
  exact h.seen16 hw hn hm (by rw [hr, h0])
/-- One step of turning. -/
theorem Turned.zero (xs : List Int) (at_ mask : Nat) (hx : ∀ x ∈ xs, (Lit.int .u8 x).wf = true) : Turned xs xs at_ mask 0 0 :=
  ⟨rfl, hx, by rw [dl_zero, Nat.xor_zero], by rw [dl_zero]⟩
theorem Turned.no {xs ys : List Int} {at_ mask j n : Nat} (h : Turned xs ys at_ mask j n) (hno : ¬ (mask.testBit j = true ∧ at_ + j < 8 * xs.length)) : Turned xs ys at_ mask (j + 1) n :=
  ⟨h.len, h.wf, by rw [dl_no _ _ _ _ hno]; exact h.num_eq, by rw [dl_no _ _ _ _ hno]; exact h.none_iff⟩
theorem Turned.yes {xs ys : List Int} {at_ mask j n : Nat} (h : Turned xs ys at_ mask j n) (h1 : mask.testBit j = true) (h2 : at_ + j < 8 * xs.length) (y : Int) (hy : y = ((nth ys ((at_ + j) / 8)).toNat ^^^ 2 ^ ((at_ + j) % 8) : Nat)) :
    Turned xs (ys.set ((at_ + j) / 8) y) at_ mask (j + 1) (n + 1) := by
  have hk : (at_ + j) / 8 < ys.length := by rw [h.len]; omega
  refine ⟨by rw [List.length_set]; exact h.len, fun x hx => ?_, ?_, ⟨fun h => by omega, fun h0 => absurd h0 (dl_yes_ne _ _ _ _ h1 h2)⟩⟩
  · rcases List.mem_or_eq_of_mem_set hx with hx | hx
    · exact h.wf x hx
    · subst hx hy
      have h3 := wf_u8 (h.wf _ (nth_mem ys _ hk))
      have h4 : 2 ^ ((at_ + j) % 8) < 2 ^ 8 := Nat.pow_lt_pow_right (by omega) (by omega)
      exact wf_byte _ (Nat.xor_lt_two_pow (n := 8) (by omega) h4)
  · rw [num_turn ys (at_ + j) h.wf hk y hy, h.num_eq, dl_yes _ _ _ _ h1 h2, Nat.xor_assoc]
end Go.Proofs.Ytmbjcmagadekpaa
