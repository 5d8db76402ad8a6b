/-
  Contract of Pick, and beginnings of rows.
-/
import Derived.Test.YtemjcgmoacnnfaaProg
import Derived.Test.YtemjcgmoacnnfaaPlain
import Derived.IntWalk
import Derived.Test.YtemjcgmoacnnfaaMore
namespace Go.Proofs.Ytemjcgmoacnnfaa
open Go.RowKit
set_option linter.unusedVariables false

def pick (k : Int) (n : Nat) : Nat := (if k.tmod n < 0 then k.tmod n + n else k.tmod n).toNat
theorem pick_lt (k : Int) (n : Nat) (h : 1 ≤ n) : pick k n < n := by
  have h1 := Int.tmod_lt_of_pos k (show (0 : Int) < n by omega)
  have h2 : -(n : Int) < k.tmod n := by
    have := Int.lt_tmod_of_pos k (show (0 : Int) < n by omega)
    omega
  unfold pick
  split <;> omega
theorem pick_eq (k : Int) (n : Nat) (h : 1 ≤ n) : ((pick k n : Nat) : Int) = if k.tmod n < 0 then k.tmod n + n else k.tmod n := by
  have h2 : -(n : Int) < k.tmod n := by
    have := Int.lt_tmod_of_pos k (show (0 : Int) < n by omega)
    omega
  unfold pick
  split <;> omega
theorem Pick_any (k : Int) (n : Nat) (w : World) (h1 : 1 ≤ n) (hn : n ≤ 140737488355328) :
    Calls Try.prog 19 #[.int .i64 k, .int .i64 n] w fun e w' => e = .returned (.int .i64 (pick k n : Nat)) ∧ w = w' := by
  have hp := pick_eq k n h1
  have hlt := Int.tmod_lt_of_pos k (show (0 : Int) < n by omega)
  have hgt : -(n : Int) < k.tmod n := by
    have := Int.lt_tmod_of_pos k (show (0 : Int) < n by omega)
    omega
  obtain ⟨p, hpp⟩ : ∃ p : Int, Hid (((pick k n : Nat) : Int) = p) := ⟨_, Lib.hid rfl⟩
  rw [hpp.out] at hp ⊢
  have HP := Lib.hid hp
  have t1 : ¬ ((n : Int) < 1) := by omega
  clear hp hpp
  by_cases hneg : k.tmod n < 0
  · have hq : Hid (p = k.tmod n + n) := Lib.hid (by rw [HP.out, if_pos hneg])
    go_enter Try.func19, Try.ntmps19
    go_wp2
    go_ret
    exact ⟨by rw [hq.out]; rfl, rfl⟩
  · have hq : Hid (p = k.tmod n) := Lib.hid (by rw [HP.out, if_neg hneg])
    go_enter Try.func19, Try.ntmps19
    go_wp2
    go_ret
    exact ⟨by rw [hq.out]; rfl, rfl⟩
end Go.Proofs.Ytemjcgmoacnnfaa
