/-
  Contract of the document's Ack of layer 8.
-/
import Derived.Test.YtlbblddpfijciaaAlRefStep
namespace Go.Proofs.Ytlbblddpfijciaa
open Go.RowKit
set_option linter.unusedVariables false

theorem bel_two (w : World) (a b : Obj) : Below w.heap.size w ((w.alloc a).alloc b) := (bel_alloc w a).alloc (by simp) b
theorem refAck8_any (st : Int) (wt : Bool) (w : World) : Calls Try.prog 13 #[.agg #[.int .i64 st, .bool wt]] w fun e w' => e = .returned (ackR (ackA ⟨st, wt⟩)) ∧ Below w.heap.size w w' := by
  cases wt
  · have HS : Hid (ackR (ackA ⟨st, false⟩) = .tuple #[.agg #[.int .i64 st, .bool false], .bool false]) := Lib.hid rfl
    rw [HS.out]
    go_enter Try.func13, Try.ntmps13
    go_wp2
    (try simp only [Exit.inBlock, Exit.then])
    refine bodyPost_ret (v := .tuple #[.agg #[.int .i64 st, .bool false], .bool false]) (by simp [results, Try.results13, go_sem, *]) rfl ?_
    exact ⟨rfl, bel_two _ _ _⟩
  · have HS : Hid (ackR (ackA ⟨st, true⟩) = .tuple #[.agg #[.int .i64 st, .bool false], .bool true]) := Lib.hid rfl
    rw [HS.out]
    go_enter Try.func13, Try.ntmps13
    go_wp2
    (try simp only [Exit.inBlock, Exit.then])
    refine bodyPost_ret (v := .tuple #[.agg #[.int .i64 st, .bool false], .bool true]) (by simp [results, Try.results13, go_sem, *]) rfl ?_
    exact ⟨rfl, bel_two _ _ _⟩
end Go.Proofs.Ytlbblddpfijciaa
