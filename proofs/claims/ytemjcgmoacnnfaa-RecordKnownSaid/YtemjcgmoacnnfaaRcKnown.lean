/-
  One record, there and back: 'known' of layer 11's statements.
-/
import Derived.Test.YtemjcgmoacnnfaaRecordGetsWalk
import Derived.Test.YtemjcgmoacnnfaaRecordPutsWalk
namespace Go.Proofs.Ytemjcgmoacnnfaa
open Go.RowKit
set_option linter.unusedVariables false
set_option maxRecDepth 100000

def oneRc : Rc := ⟨4, 0, ⟨#[]⟩, 3, 0⟩
theorem one_chk : chkRc oneRc = 0 := by decide +kernel
theorem one_ok : Rc.Ok oneRc := by
  refine ⟨?_, ?_, ?_, ?_, ?_⟩
  · exact Nat.zero_le _
  all_goals decide
def oneL : List Int := [4, 0, 0, 0, 0, 0, 0, 0, 0, 0, 0, 0, 0, 0, 0, 0, 3]
theorem one_byt : bytRc oneRc = oneL := by decide +kernel
theorem one_put : putRc oneRc = oneL := by rw [putRc, if_pos one_chk, one_byt]
theorem one_wf : ∀ x ∈ oneL, (Lit.int .u8 x).wf = true := by decide
theorem one_err : rcErr oneL = 0 := by rw [← one_byt]; exact (rc_back one_ok one_chk).1
theorem one_got : rcGot oneL = oneRc := by rw [← one_byt]; exact (rc_back one_ok one_chk).2.1
theorem put_one (w : World) : Calls Try.prog 9 #[.agg #[.int .i64 4, .int .i64 0, .string ⟨#[]⟩, .int .i64 3, .int .i64 0]] w fun e w' => ∃ A c, e = .returned (.tuple #[.slice A 17 c, .int .i64 0]) ∧ Row .u8 w' w'.heap.size A oneL ∧ Below w.heap.size w w' := by
  refine (Put11_any 4 0 ⟨#[]⟩ 3 0 w (Nat.zero_le _)).mono fun e w' ⟨v, he, own, bel⟩ => ?_
  rw [show (⟨4, 0, ⟨#[]⟩, 3, 0⟩ : Rc) = oneRc from rfl] at he own
  rw [one_chk] at he
  rw [one_put] at own
  obtain ⟨A, c, rfl, row, _, _⟩ := own.row one_wf
  exact ⟨A, c, he, row, bel⟩
theorem get_one (w : World) (g : Nat) (hg : w.heap[g]? = some (.cells (blk .u8 oneL) 5 (0, 0))) :
    Calls Try.prog 15 #[.slice (some ⟨g, 0, none⟩) 17 17] w fun e w' => e = .returned (.tuple #[.agg #[.int .i64 4, .int .i64 0, .string ⟨#[]⟩, .int .i64 3, .int .i64 0], .int .i64 0]) ∧ Below w.heap.size w w' := by
  refine (Get11_any _ 17 17 oneL w ((Row.of_block hg oneL one_wf (List.prefix_refl _)).more (block_lt hg)) rfl (by omega) (by omega) (by omega)).mono fun e w' ⟨he, bel⟩ => ?_
  rw [one_err, one_got] at he
  exact ⟨he, bel⟩

set_option maxHeartbeats 1000000 in
theorem known11_yes (w : World) : Calls Try.prog 18 #[] w fun e w' => e = .returned (.bool true) ∧ Below w.heap.size w w' := by
  have bx := Bx.new w (.cells #[.int .i64 4, .int .i64 0, .string ⟨#[]⟩, .int .i64 3, .int .i64 0] 23)
  obtain ⟨c0, c1, c2, c3, c4⟩ := bx.five
  go_enter Try.func18, Try.ntmps18
  go_wp2_with fail
  refine (put_one _).mono ?_
  rintro e w1 ⟨A1, q1, rfl, row1, b1⟩
  have bx1 := bx.below b1
  have R1 := Lib.hid row1
  clear c0 c1 c2 c3 c4 b1 bx row1
  have hg1 : (w1.alloc (.cells #[.int .u8 4, .int .u8 0, .int .u8 0, .int .u8 0, .int .u8 0, .int .u8 0, .int .u8 0, .int .u8 0, .int .u8 0, .int .u8 0, .int .u8 0, .int .u8 0, .int .u8 0, .int .u8 0, .int .u8 0, .int .u8 0, .int .u8 3] 5)).heap[w1.heap.size]? = some (.cells (blk .u8 oneL) 5 (0, 0)) := heap_alloc_new w1 _
  have bx2 := bx1.alloc (.cells #[.int .u8 4, .int .u8 0, .int .u8 0, .int .u8 0, .int .u8 0, .int .u8 0, .int .u8 0, .int .u8 0, .int .u8 0, .int .u8 0, .int .u8 0, .int .u8 0, .int .u8 0, .int .u8 0, .int .u8 0, .int .u8 0, .int .u8 3] 5)
  have R2 := Lib.hid (R1.out.alloc (Nat.le_refl _) (.cells #[.int .u8 4, .int .u8 0, .int .u8 0, .int .u8 0, .int .u8 0, .int .u8 0, .int .u8 0, .int .u8 0, .int .u8 0, .int .u8 0, .int .u8 0, .int .u8 0, .int .u8 0, .int .u8 0, .int .u8 0, .int .u8 0, .int .u8 3] 5))
  have hz1 := bx1.lt
  have HG1 := Lib.hid hg1
  have hlt1 := block_lt hg1
  clear hg1 R1
  go_wp2_with fail
  refine (get_one _ _ HG1.out).mono ?_
  rintro e w3 ⟨rfl, b3⟩
  have bx3 := bx2.below b3
  have hg3 := (b3.block _ hlt1).trans HG1.out
  have R3 := Lib.hid (R2.out.below (b3.mono (Nat.le_of_lt hlt1)))
  clear b3 bx2 HG1 R2
  have hlt3 := block_lt hg3
  have bx4 := bx3.alloc (.cells #[.int .i64 4, .int .i64 0, .string ⟨#[]⟩, .int .i64 3, .int .i64 0] 23)
  have hg4 := (heap_alloc_old w3 (.cells #[.int .i64 4, .int .i64 0, .string ⟨#[]⟩, .int .i64 3, .int .i64 0] 23) hlt3).trans hg3
  have hy4 := heap_alloc_new w3 (.cells #[.int .i64 4, .int .i64 0, .string ⟨#[]⟩, .int .i64 3, .int .i64 0] 23)
  have R4 := Lib.hid (R3.out.alloc (Nat.le_of_lt hlt3) (.cells #[.int .i64 4, .int .i64 0, .string ⟨#[]⟩, .int .i64 3, .int .i64 0] 23))
  have HG4 := Lib.hid hg4
  clear R3 bx3 hg3 hg4
  go_wp2_with fail
  refine (same_yes_u8 A1 _ 17 q1 17 oneL _ _ _ R4.out (Row.of_block HG4.out oneL one_wf (List.prefix_refl _)) rfl (by omega)).mono ?_
  rintro e w5 ⟨rfl, m5, hm5⟩
  have bx5 := bx4.drewN m5
  rw [← hm5] at bx5
  have hy5 : w5.heap[w3.heap.size]? = some (.cells #[.int .i64 4, .int .i64 0, .string ⟨#[]⟩, .int .i64 3, .int .i64 0] 23 (0, 0)) := by rw [hm5]; exact hy4
  clear hy4 bx4 hm5 HG4 R4
  obtain ⟨c0, c1, c2, c3, c4⟩ := bx5.five
  obtain ⟨d0, d1, d2, d3, d4⟩ := cells5 hy5
  go_wp2
  go_ret
  exact ⟨rfl, bx5.2⟩
end Go.Proofs.Ytemjcgmoacnnfaa
