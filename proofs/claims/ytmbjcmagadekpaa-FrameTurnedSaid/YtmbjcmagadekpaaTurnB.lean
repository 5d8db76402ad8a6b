/-
  Contracts of Pick and turned.
-/
import Derived.Test.YtmbjcmagadekpaaSeenB
namespace Go.Proofs.Ytmbjcmagadekpaa
open Go.RowKit
set_option linter.unusedVariables false

def Picks (n : Nat) (w : World) (e : Ending) (w' : World) : Prop := ∃ r : Nat, r < n ∧ e = .returned (.int .i64 r) ∧ w = w'
theorem pickS (k : Int) (n : Nat) (hk : (Lit.int .i64 k).wf = true) (h1 : 1 ≤ n) (hn : n ≤ 10000000) (w : World) :
    Calls Try.prog 30 #[.int .i64 k, .int .i64 n] w (Picks n w) := by
  have hk' := wf_i64 hk
  have ht1 : k.tmod n < n := Int.tmod_lt_of_pos k (by omega)
  have ht2 : -(n : Int) < k.tmod n := by
    have := Int.lt_tmod_of_pos k (b := (n : Int)) (by omega)
    omega
  clear hk
  by_cases h0 : k.tmod n < 0
  · go_enter Try.func30, Try.ntmps30
    go_wp2
    go_ret
    exact ⟨(k.tmod n + n).toNat, by omega, by rw [Int.toNat_of_nonneg (by omega)]; rfl, rfl⟩
  · go_enter Try.func30, Try.ntmps30
    go_wp2
    go_ret
    exact ⟨(k.tmod n).toNat, by omega, by rw [Int.toNat_of_nonneg (by omega)]; rfl, rfl⟩

theorem mask_bit (mask j : Nat) : ((mask : Int) / 2 ^ j).tmod 2 = ((mask / 2 ^ j % 2 : Nat) : Int) := by
  have h : (mask : Int) / 2 ^ j = ((mask / 2 ^ j : Nat) : Int) := by rw [Int.natCast_ediv, Int.natCast_pow]; rfl
  rw [h]
  rfl
theorem mask_yes (mask j : Nat) (h : mask.testBit j = true) : (((mask : Int) / 2 ^ j).tmod 2 == 1) = true := by
  rw [mask_bit, beq_iff_eq]
  rw [Nat.testBit_eq_decide_div_mod_eq] at h
  have := of_decide_eq_true h
  omega
theorem mask_no (mask j : Nat) (h : ¬ mask.testBit j = true) : (((mask : Int) / 2 ^ j).tmod 2 == 1) = false := by
  rw [mask_bit, beq_eq_false_iff_ne]
  rw [Nat.testBit_eq_decide_div_mod_eq, decide_eq_true_iff] at h
  omega

theorem turn_byte (x : Int) (r : Nat) (hx : (Lit.int .u8 x).wf = true) (hr : r < 8) : bits .xor .u8 x (2 ^ r % 256) = ((x.toNat ^^^ 2 ^ r : Nat) : Int) := by
  have h := wf_u8 hx
  have h2 : 2 ^ r < 2 ^ 8 := Nat.pow_lt_pow_right (by omega) hr
  have e : (2 : Int) ^ r % 256 = ((2 ^ r : Nat) : Int) := by
    have : (2 : Int) ^ r = ((2 ^ r : Nat) : Int) := by rw [Int.natCast_pow]; rfl
    rw [this]
    generalize 2 ^ r = q at *
    omega
  rw [e]
  generalize 2 ^ r = q at *
  rw [u8_xor _ _ h.1 h.2 (by omega) (by omega), Int.toNat_natCast]

end Go.Proofs.Ytmbjcmagadekpaa
