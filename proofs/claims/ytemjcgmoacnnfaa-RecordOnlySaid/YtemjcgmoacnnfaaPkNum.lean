/-
  Contracts of the number functions of package pack (Put, Get and what they call) and of the document's answer to them.
-/
import Derived.Test.YtemjcgmoacnnfaaApart
import Derived.Test.YtemjcgmoacnnfaaPkLay
import Derived.Laws.CopyOwn
namespace Go.Proofs.Ytemjcgmoacnnfaa
open Go.RowKit
set_option linter.unusedVariables false
theorem pow_256 (n : Nat) : (2 : Nat) ^ (8 * n) = 256 ^ n := by rw [Nat.pow_mul]
theorem div_zero_iff (v n : Nat) : v / 256 ^ n = 0 ↔ v < 256 ^ n := by
  rw [Nat.div_eq_zero_iff]
  have : (256 : Nat) ^ n ≠ 0 := Nat.ne_of_gt (Nat.pow_pos (by omega))
  omega
theorem fits_any2 (v n : Nat) (hn : 1 ≤ n) (hn8 : n ≤ 8) (hv : v < 18446744073709551616) (w : World) : Calls Try.prog 49 #[.int .u64 v, .int .i64 n] w fun e w' => e = .returned (.bool (decide (v < 256 ^ n))) ∧ w = w' := by
  have key : ((v : Int) / 2 ^ (8 * n) == 0) = decide (v < 256 ^ n) := by
    rw [show (v : Int) / 2 ^ (8 * n) = ((v / 2 ^ (8 * n) : Nat) : Int) by simp, pow_256]
    have := div_zero_iff v n
    by_cases h : v < 256 ^ n
    · rw [this.2 h]; simp [h]
    · have h2 : ¬ v / 256 ^ n = 0 := fun e => h (this.1 e)
      rw [decide_eq_false h]
      exact beq_false_of_ne (fun e => h2 (by exact_mod_cast e))
  have HK := Lib.hid key
  clear key
  go_enter Try.func49, Try.ntmps49
  go_wp2
  go_ret
  exact ⟨by rw [HK.out]; rfl, rfl⟩
end Go.Proofs.Ytemjcgmoacnnfaa
