/-
  The walk of PackGets.
-/
import Derived.Test.YtaeecoiodkbomaaPkAny
namespace Go.Proofs.Ytaeecoiodkbomaa
open Go.RowKit
set_option linter.unusedVariables false

set_option maxHeartbeats 2000000 in
theorem walk_PackGets (a0 : Option Addr) (l0 c0 : Nat) (x0 : List Int) (a1 a2 : Int) (w : World) (w0 : Row .u8 w w.heap.size a0 x0) (n0 : x0.length = l0) (s0 : l0 ≤ c0) (m0 : c0 ≤ 140737488351232) (w1 : (Lit.int .i64 a1).wf = true) (w2 : (Lit.int .i64 a2).wf = true) :
    Calls Try.prog 4 #[.slice a0 l0 c0, .int .i64 a1, .int .i64 a2] w fun e w' => e = .returned (.bool true) ∧ Below w.heap.size w w' := by
  have hn := Lib.hid n0
  clear n0 w1 w2
  by_cases hlong : 65536 < l0
  · go_enter Try.func4, Try.ntmps4
    go_wp2_with (go_at_call 12; refine (works_yes _).mono ?_; rintro e w' ⟨rfl, bel⟩)
    go_ret
    exact ⟨rfl, bel⟩
  have k1 : Bk (w.alloc (.cells (blk .u8 (x0 ++ marks5)) 5)) w.heap.size (x0 ++ marks5) := heap_alloc_new w _
  have bel1 : Below w.heap.size w (w.alloc (.cells (blk .u8 (x0 ++ marks5)) 5)) := (Below.refl _ _).alloc (Nat.le_refl _) _
  have hwf := w0.1
  go_enter Try.func4, Try.ntmps4
  go_wp2_with fail
  refine (lent_u8 _ _ _ x0 _ w0 hn.out (by omega)).mono ?_
  rintro e w' ⟨rfl, rfl⟩
  generalize w.alloc (.cells (blk .u8 (x0 ++ marks5)) 5) = w1 at *
  go_wp2_with fail
  refine (Get_any _ _ _ a1 a2 x0 _ _ (k1.row x0 hwf (List.prefix_append _ _)) hn.out (by omega) (by omega)).mono ?_
  rintro e w' ⟨rfl, rfl⟩
  go_wp2_with fail
  refine (refGet_any _ _ _ a1 a2 x0 _ _ (w0.below bel1) hn.out (by omega)).mono ?_
  rintro e w' ⟨rfl, rfl⟩
  go_wp2_with fail
  refine (kept_u8 _ _ _ _ x0 _ _ (w0.below bel1) hn.out (by omega) k1).mono ?_
  rintro e w' ⟨rfl, q, rfl⟩
  go_wp2_with fail
  refine (works_yes _).mono ?_
  rintro e w' ⟨rfl, bel⟩
  go_wp2
  go_ret
  exact ⟨rfl, (below_drewN bel1 q).trans (bel.mono (below_drewN bel1 q).size)⟩
end Go.Proofs.Ytaeecoiodkbomaa
