/-
  Two frames on a stream that are the same.
-/
import Derived.Test.YtmbjcmagadekpaaFrGet2
namespace Go.Proofs.Ytmbjcmagadekpaa
open Go.RowKit
set_option linter.unusedVariables false

set_option maxHeartbeats 1000000 in
theorem same5_yes (id u : Int) (l : List Int) (A A' : Option Addr) (n c c' : Nat) (w : World) (B B' : Nat) (hr : Row .u8 w B A l) (hr' : Row .u8 w B' A' l) (hn : l.length = n) (hb : n ≤ 140737488355328) (hB : B ≤ w.heap.size) (hB' : B' ≤ w.heap.size) :
    Calls Try.prog 41 #[.agg #[.int .u16 id, .int .u8 u, .slice A n c], .agg #[.int .u16 id, .int .u8 u, .slice A' n c']] w fun e w' => e = .returned (.bool true) ∧ Below w.heap.size w w' := by
  have b1 := bel_alloc w (.cells #[.int .u16 id, .int .u8 u, .slice A n c] 57)
  have b2 := b1.alloc (by simp) (.cells #[.int .u16 id, .int .u8 u, .slice A' n c'] 57)
  have HR := Lib.hid ((hr.more hB).below b2)
  have HR' := Lib.hid ((hr'.more hB').below b2)
  have HN := Lib.hid hn
  have t1 : (id == id) = true := by simp
  have t2 : (u == u) = true := by simp
  clear hr hr' hn b1
  go_enter Try.func41, Try.ntmps41
  go_wp2_with fail
  refine (same_yes_u8 _ _ _ _ _ l _ _ _ HR.out HR'.out HN.out hb).mono ?_
  rintro e w' ⟨rfl, m, rfl⟩
  go_wp2
  go_ret
  exact ⟨rfl, below_drewN b2 _⟩
end Go.Proofs.Ytmbjcmagadekpaa
