/-
  Contract of ends.
-/
import Derived.Test.YtojjcmkadmofdaaAskEndsKnown
namespace Go.Proofs.Ytojjcmkadmofdaa
open Go.RowKit
set_option linter.unusedVariables false

set_option maxHeartbeats 1000000 in
set_option maxRecDepth 100000 in
theorem ends_yes (w : World) : Calls Try.prog 30 #[] w (Yes w) := by
  have m1 : ∀ V : World, (Instr.makeSlice 22 (.int .i64 1968) (.int .i64 1968)).run Try.prog V = .ok (.slice (some ⟨V.heap.size, 0, none⟩) 1968 1968) (V.alloc (.cells (falses 1968) 4)) := fun V => L.make_bool 1968 (by omega) V
  have m2 : ∀ V : World, (Instr.makeSlice 22 (.int .i64 1969) (.int .i64 1969)).run Try.prog V = .ok (.slice (some ⟨V.heap.size, 0, none⟩) 1969 1969) (V.alloc (.cells (falses 1969) 4)) := fun V => L.make_bool 1969 (by omega) V
  have m3 : ∀ V : World, (Instr.makeSlice 22 (.int .i64 2) (.int .i64 2)).run Try.prog V = .ok (.slice (some ⟨V.heap.size, 0, none⟩) 2 2) (V.alloc (.cells (falses 2) 4)) := fun V => L.make_bool 2 (by omega) V
  have m4 : ∀ V : World, (Instr.makeSlice 23 (.int .i64 123) (.int .i64 123)).run Try.prog V = .ok (.slice (some ⟨V.heap.size, 0, none⟩) 123 123) (V.alloc (.cells (noughts 123) 45)) := fun V => W.make_u16 123 (by omega) V
  have m5 : ∀ V : World, (Instr.makeSlice 23 (.int .i64 124) (.int .i64 124)).run Try.prog V = .ok (.slice (some ⟨V.heap.size, 0, none⟩) 124 124) (V.alloc (.cells (noughts 124) 45)) := fun V => W.make_u16 124 (by omega) V
  have m6 : ∀ V : World, (Instr.makeSlice 23 (.int .i64 2) (.int .i64 2)).run Try.prog V = .ok (.slice (some ⟨V.heap.size, 0, none⟩) 2 2) (V.alloc (.cells (noughts 2) 45)) := fun V => W.make_u16 2 (by omega) V
  have m7 : ∀ V : World, (Instr.makeSlice 24 (.int .i64 36) (.int .i64 36)).run Try.prog V = .ok (.slice (some ⟨V.heap.size, 0, none⟩) 36 36) (V.alloc (.cells (noParts 36) 47)) := fun V => make_part 36 (by omega) V
  have bel := Below.refl w.heap.size w
  go_enter Try.func30, Try.ntmps30
  go_wp2_with (first
    | (go_at_call 64; refine (part_any _ _ _ _).mono ?_; rintro e w' ⟨g, hg, rfl, hpb, b⟩; replace hpb := Lib.hid hpb; replace bel := yes_step bel b; clear b hg)
    | (go_at_call 63; (with_reducible refine (is_nil _ _ _ _ _ ?_).mono ?_); (decide); rintro e w' ⟨rfl, b⟩; replace bel := yes_step bel b; clear b)
    | (go_at_call 63; (with_reducible refine (is_bits _ _ _ _ _ ?_ ?_).mono ?_); (exact heap_alloc_new _ _); (simp [chkQ, chk, mm, stray, many]); rintro e w' ⟨rfl, b⟩; replace bel := yes_step (bel.alloc bel.size _) b; clear b)
    | (go_at_call 63; (with_reducible refine (is_words _ _ _ _ _ _ ?_ ?_).mono ?_); (exact heap_alloc_new _ _); (simp [chkQ, chk, mm, stray, many]); rintro e w' ⟨rfl, b⟩; replace bel := yes_step (bel.alloc bel.size _) b; clear b)
    | (go_at_call 63; (with_reducible refine (is_five _ _ _ _ _ ?_ ?_).mono ?_); (exact heap_alloc_new _ _); (decide); rintro e w' ⟨rfl, b⟩; replace bel := yes_step (bel.alloc bel.size _) b; clear b)
    | (go_at_call 63; (with_reducible refine (is_parts _ _ _ _ _ _ hpb.out ?_ ?_).mono ?_); (decide); (decide); rintro e w' ⟨rfl, b⟩; replace bel := yes_step bel b; clear b hpb)
    | (go_at_call 63; (with_reducible refine (is_noParts _ _ _ _ ?_ ?_).mono ?_); (exact heap_alloc_new _ _); (simp [chkQ, chk, mm, stray, many]); rintro e w' ⟨rfl, b⟩; replace bel := yes_step (bel.alloc bel.size _) b; clear b))
  go_ret
  exact ⟨rfl, bel⟩
end Go.Proofs.Ytojjcmkadmofdaa
