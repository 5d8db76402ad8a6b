/-
  The walk of RecordGets.
-/
import Derived.Test.YtemjcgmoacnnfaaRcRefGet
import Derived.Test.YtemjcgmoacnnfaaKit
namespace Go.Proofs.Ytemjcgmoacnnfaa
open Go.RowKit
set_option linter.unusedVariables false
set_option maxRecDepth 100000

theorem marks_wf : ∀ x ∈ marks5, (Lit.int .u8 x).wf = true := by decide
set_option maxHeartbeats 1000000 in
theorem walk_RecordGets (a0 : Option Addr) (l0 c0 : Nat) (x0 : List Int) (w : World) (w0 : Row .u8 w w.heap.size a0 x0) (n0 : x0.length = l0) (s0 : l0 ≤ c0) (m0 : c0 ≤ 140737488351232) :
    Calls Try.prog 4 #[.slice a0 l0 c0] w fun e w' => e = .returned (.bool true) ∧ Below w.heap.size w w' := by
  obtain ⟨⟨k, t, g, v, i⟩, hR⟩ : ∃ r, rcGot x0 = r := ⟨_, rfl⟩
  obtain ⟨E, hE⟩ : ∃ E, rcErr x0 = E := ⟨_, rfl⟩
  have hn := Lib.hid n0
  have hr := Lib.hid w0
  have HR := Lib.hid hR
  have HE := Lib.hid hE
  have tE : (E == E) = true := by simp
  clear hR hE n0 w0
  go_enter Try.func4, Try.ntmps4
  go_wp2_with fail
  refine (lent_u8 a0 l0 c0 x0 w hr.out hn.out (by omega)).mono ?_
  rintro e w1 ⟨rfl, hw1⟩
  have bel1 : Below w.heap.size w w1 := by rw [hw1]; exact bel_alloc _ _
  have hb1 : w1.heap[w.heap.size]? = some (.cells (blk .u8 (x0 ++ marks5)) 5 (0, 0)) := by rw [hw1]; exact heap_alloc_new _ _
  have hlt1 := block_lt hb1
  clear hw1
  go_wp2_with fail
  refine (Get11_any (some ⟨w.heap.size, 0, none⟩) l0 (l0 + 5) x0 w1 ((Row.of_block hb1 x0 hr.out.1 (List.prefix_append _ _)).more hlt1) hn.out (by omega) (by omega) (by omega)).mono ?_
  rintro e w2 ⟨rfl, b2⟩
  rw [HR.out, HE.out]
  unfold rcV
  simp only
  have bel2 := bel1.trans (b2.mono bel1.size)
  have hb2 := (b2.block _ hlt1).trans hb1
  have bel3 := bel2.alloc bel2.size (.cells #[.int .i64 k, .int .i64 t, .string g, .int .i64 v, .int .i64 i] 23)
  have hx3 := heap_alloc_new w2 (.cells #[.int .i64 k, .int .i64 t, .string g, .int .i64 v, .int .i64 i] 23)
  have hb3 := (heap_alloc_old w2 (.cells #[.int .i64 k, .int .i64 t, .string g, .int .i64 v, .int .i64 i] 23) (block_lt hb2)).trans hb2
  have hsz3 : (w2.alloc (.cells #[.int .i64 k, .int .i64 t, .string g, .int .i64 v, .int .i64 i] 23)).heap.size = w2.heap.size + 1 := by simp
  clear b2 bel1 hb1 hlt1 bel2 hb2
  go_wp2_with fail
  refine (refGet11_any a0 l0 c0 x0 _ ((hr.out.below bel3).more bel3.size) hn.out (by omega) s0).mono ?_
  rintro e w4 ⟨rfl, b4⟩
  rw [HR.out, HE.out]
  unfold rcV
  simp only
  have bel4 := bel3.trans (b4.mono bel3.size)
  have hx4 := (b4.block _ (block_lt hx3)).trans hx3
  have hb4 := (b4.block _ (block_lt hb3)).trans hb3
  clear b4 bel3 hx3 hb3 hsz3
  have bel5 := bel4.alloc bel4.size (.cells #[.int .i64 k, .int .i64 t, .string g, .int .i64 v, .int .i64 i] 23)
  have hx5 := (heap_alloc_old w4 (.cells #[.int .i64 k, .int .i64 t, .string g, .int .i64 v, .int .i64 i] 23) (block_lt hx4)).trans hx4
  have hb5 := (heap_alloc_old w4 (.cells #[.int .i64 k, .int .i64 t, .string g, .int .i64 v, .int .i64 i] 23) (block_lt hb4)).trans hb4
  have hy5 := heap_alloc_new w4 (.cells #[.int .i64 k, .int .i64 t, .string g, .int .i64 v, .int .i64 i] 23)
  obtain ⟨c0, c1, c2, c3, c4⟩ := cells5 hx5
  obtain ⟨d0, d1, d2, d3, d4⟩ := cells5 hy5
  go_wp2_with fail
  refine (kept_u8 a0 l0 _ w.heap.size x0 _ _ (hr.out.below bel5) hn.out (by omega) hb5).mono ?_
  rintro e w6 ⟨rfl, m6, rfl⟩
  go_wp2
  go_ret
  exact ⟨rfl, below_drewN bel5 m6⟩
end Go.Proofs.Ytemjcgmoacnnfaa
