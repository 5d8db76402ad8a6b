/-
  Contracts of Get of package pack, of the document's answers to Put and Get, and of what each statement of layer 2 asks.
-/
import Derived.Test.YtemjcgmoacnnfaaPkPosts
import Derived.Test.YtemjcgmoacnnfaaMore
namespace Go.Proofs.Ytemjcgmoacnnfaa
open Go.RowKit
set_option linter.unusedVariables false
/-- A call returns a pair of numbers, and nothing has turned. -/
def Tells (v e : Int) (w : World) (r : Ending) (w' : World) : Prop := r = .returned (.tuple #[.int .u64 v, .int .i64 e]) ∧ w = w'

theorem Get_width (A : Option Addr) (m c : Nat) (a n : Int) (w : World) (h : ¬ (1 ≤ n ∧ n ≤ 8)) :
    Calls Try.prog 53 #[.slice A m c, .int .i64 a, .int .i64 n] w (Tells 0 3 w) := by
  have HW := Lib.hid h
  clear h
  go_enter Try.func53, Try.ntmps53
  go_wp2_with (go_at_call 48; refine (isWidth_no _ HW.out _).mono ?_; rintro e w' ⟨rfl, rfl⟩)
  go_ret2
  exact ⟨rfl, rfl⟩
theorem Get_short (A : Option Addr) (m c : Nat) (a n : Int) (w : World) (hm : m ≤ 140737488355328) (h1 : 1 ≤ n) (h8 : n ≤ 8) (h : a < 0 ∨ (m : Int) - n < a) :
    Calls Try.prog 53 #[.slice A m c, .int .i64 a, .int .i64 n] w (Tells 0 1 w) := by
  by_cases h0 : a < 0
  · clear h
    go_enter Try.func53, Try.ntmps53
    go_wp2_with (go_at_call 48; refine (isWidth_yes _ (by omega) (by omega) _).mono ?_; rintro e w' ⟨rfl, rfl⟩)
    go_ret2
    exact ⟨rfl, rfl⟩
  · have h2 : (m : Int) - n < a := h.resolve_left h0
    clear h
    go_enter Try.func53, Try.ntmps53
    go_wp2_with (go_at_call 48; refine (isWidth_yes _ (by omega) (by omega) _).mono ?_; rintro e w' ⟨rfl, rfl⟩)
    go_ret2
    exact ⟨rfl, rfl⟩
theorem Get_ok (A : Option Addr) (m c a n : Nat) (xs : List Int) (w : World) (B : Nat) (hr : Row .u8 w B A xs) (hx : xs.length = m) (hc : m ≤ c) (hm : m ≤ 140737488355328) (h1 : 1 ≤ n) (h8 : n ≤ 8) (h : a + n ≤ m) :
    Calls Try.prog 53 #[.slice A m c, .int .i64 a, .int .i64 n] w (Tells (bval ((xs.drop a).take n) : Nat) 0 w) := by
  obtain ⟨b, o, rfl, hb1, _⟩ := hr.at_ (i := a) (by omega)
  have hrd := hr.drop a
  have hl : Hid ((xs.drop a).length = m - a) := Lib.hid (by rw [List.length_drop, hx])
  have h3 : ¬ ((m : Int) - n < a) := by omega
  clear hx hr
  go_enter Try.func53, Try.ntmps53
  go_wp2_with (first
    | (go_at_call 48; refine (isWidth_yes _ (by omega) (by omega) _).mono ?_; rintro e w' ⟨rfl, rfl⟩)
    | (go_at_call 54; refine (number_any _ _ _ n (xs.drop a) _ B hrd hl.out (by omega) h8 (by omega)).mono ?_; rintro e w' ⟨rfl, rfl⟩))
  go_ret2
  exact ⟨rfl, rfl⟩

end Go.Proofs.Ytemjcgmoacnnfaa
