/-
  Contract of least: the n lowest bytes of a number.
-/
import Derived.Test.YtaeecoiodkbomaaPkGet
namespace Go.Proofs.Ytaeecoiodkbomaa
open Go.RowKit
set_option linter.unusedVariables false

theorem and_low (v k m : Nat) (hm : 2 ^ k = m + 1) (hv : v < 18446744073709551616) (hk : m < 18446744073709551616) : bits .and .u64 (v : Int) (m : Int) = ((v % (m + 1) : Nat) : Int) := by
  rw [u64_and_nat v m hv hk, ← hm, show m = 2 ^ k - 1 by omega, Nat.and_two_pow_sub_one_eq_mod]
theorem least_any (v n : Nat) (h1 : 1 ≤ n) (h8 : n ≤ 8) (hv : v < 18446744073709551616) (w : World) :
    Calls Try.prog 37 #[.int .u64 v, .int .i64 n] w fun e w' => e = .returned (.int .u64 (v % 256 ^ n : Nat)) ∧ w = w' := by
  have H : ∀ (k m : Nat), 2 ^ (8 * k) = m + 1 → n = k → m < 18446744073709551616 → Hid (bits .and .u64 (v : Int) (m : Int) = ((v % 256 ^ n : Nat) : Int)) := by
    intro k m hm hn hk
    subst hn
    have := and_low v (8 * n) m hm hv hk
    rw [← hm, pow_256] at this
    exact Lib.hid this
  obtain rfl | rfl | rfl | rfl | rfl | rfl | rfl | rfl : n = 1 ∨ n = 2 ∨ n = 3 ∨ n = 4 ∨ n = 5 ∨ n = 6 ∨ n = 7 ∨ n = 8 := by omega
  · have HH := H 1 255 rfl rfl (by decide)
    clear H
    go_enter Try.func37, Try.ntmps37
    go_wp2
    go_ret
    exact ⟨congrArg (fun x => Ending.returned (Value.int .u64 x)) HH.out, rfl⟩
  · have HH := H 2 65535 rfl rfl (by decide)
    clear H
    go_enter Try.func37, Try.ntmps37
    go_wp2
    go_ret
    exact ⟨congrArg (fun x => Ending.returned (Value.int .u64 x)) HH.out, rfl⟩
  · have HH := H 3 16777215 rfl rfl (by decide)
    clear H
    go_enter Try.func37, Try.ntmps37
    go_wp2
    go_ret
    exact ⟨congrArg (fun x => Ending.returned (Value.int .u64 x)) HH.out, rfl⟩
  · have HH := H 4 4294967295 rfl rfl (by decide)
    clear H
    go_enter Try.func37, Try.ntmps37
    go_wp2
    go_ret
    exact ⟨congrArg (fun x => Ending.returned (Value.int .u64 x)) HH.out, rfl⟩
  · have HH := H 5 1099511627775 rfl rfl (by decide)
    clear H
    go_enter Try.func37, Try.ntmps37
    go_wp2
    go_ret
    exact ⟨congrArg (fun x => Ending.returned (Value.int .u64 x)) HH.out, rfl⟩
  · have HH := H 6 281474976710655 rfl rfl (by decide)
    clear H
    go_enter Try.func37, Try.ntmps37
    go_wp2
    go_ret
    exact ⟨congrArg (fun x => Ending.returned (Value.int .u64 x)) HH.out, rfl⟩
  · have HH := H 7 72057594037927935 rfl rfl (by decide)
    clear H
    go_enter Try.func37, Try.ntmps37
    go_wp2
    go_ret
    exact ⟨congrArg (fun x => Ending.returned (Value.int .u64 x)) HH.out, rfl⟩
  · clear H
    have HH : Hid (v % 256 ^ 8 = v) := Lib.hid (Nat.mod_eq_of_lt hv)
    go_enter Try.func37, Try.ntmps37
    go_wp2
    go_ret
    exact ⟨by rw [HH.out]; rfl, rfl⟩
end Go.Proofs.Ytaeecoiodkbomaa
