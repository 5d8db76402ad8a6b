/-
  The walk of SumsKnown.
-/
import Derived.Test.YtogjamcefiegaaaOpen2
namespace Go.Proofs.Ytogjamcefiegaaa
open Go.RowKit
set_option linter.unusedVariables false

def six : List Int := [1, 3, 0, 0, 0, 10]
def eight : List Int := [1, 3, 0, 0, 0, 10, 197, 205]
theorem six_sealed : sealed16 six = eight := by decide +kernel
theorem eight_right : right16 eight := by unfold right16; decide +kernel
theorem eight_wf : ∀ x ∈ eight, (Lit.int .u8 x).wf = true := by decide
theorem ff_right : right16 [255, 255] := by unfold right16; decide +kernel
theorem z4_right : right32 [0, 0, 0, 0] := by unfold right32; decide +kernel
theorem z41_wrong : ¬ right32 [0, 0, 0, 1] := by unfold right32; decide +kernel
/-- A literal of bytes: its row in a new block. -/
theorem row_lit (w : World) (l : List Int) (hl : ∀ x ∈ l, (Lit.int .u8 x).wf = true) : Row .u8 (w.alloc (.cells (blk .u8 l) 5)) (w.alloc (.cells (blk .u8 l) 5)).heap.size (some ⟨w.heap.size, 0, none⟩) l :=
  (Row.new .u8 w _ l l hl (List.prefix_refl _)).more (by simp)
theorem bel_new {w0 w w' : World} {o : Obj} (h : Below w0.heap.size w0 w) (h' : Below (w.alloc o).heap.size (w.alloc o) w') : Below w0.heap.size w0 w' :=
  (h.alloc h.size o).trans (h'.mono (by have := h.size; simp; omega))
theorem bel_lit {w w' : World} {o : Obj} (h' : Below (w.alloc o).heap.size (w.alloc o) w') : Below w.heap.size w w' := bel_new (Below.refl _ _) h'
theorem heap_lt {w : World} {g : Nat} {o : Obj} (h : w.heap[g]? = some o) : g < w.heap.size := by
  rcases Nat.lt_or_ge g w.heap.size with hlt | hge
  · exact hlt
  · rw [Array.getElem?_eq_none hge] at h; cases h

def SealsSix (w : World) (e : Ending) (w' : World) : Prop := ∃ g, e = .returned (.slice (some ⟨g, 0, none⟩) 8 8) ∧ Row .u8 w' w'.heap.size (some ⟨g, 0, none⟩) eight ∧ Below w.heap.size w w'
theorem seal_six (w : World) : Calls Try.prog 19 #[.slice (some ⟨w.heap.size, 0, none⟩) 6 6] (w.alloc (.cells #[.int .u8 1, .int .u8 3, .int .u8 0, .int .u8 0, .int .u8 0, .int .u8 10] 5)) (SealsSix w) :=
  (Seal_16 _ 6 6 six (w.alloc (.cells (blk .u8 six) 5)) (row_lit w six (by decide)) rfl (by decide)).mono fun e w' ⟨he, hf, hb⟩ =>
    ⟨_, he, by rw [six_sealed] at hf; exact (Row.of_block hf eight eight_wf (List.prefix_refl _)).more (heap_lt hf), bel_lit hb⟩
def OpensIt (m : Nat) (w : World) (e : Ending) (w' : World) : Prop := ∃ g, e = .returned (.tuple #[.slice (some ⟨g, 0, none⟩) m m, .int .i64 0]) ∧ Below w.heap.size w w'
theorem open_eight (w : World) (A : Option Addr) (h : Row .u8 w w.heap.size A eight) : Calls Try.prog 21 #[.slice A 8 8] w (OpensIt 6 w) :=
  (Open_right_16 A 8 8 eight w h rfl (by decide) (by decide) (by decide) eight_right).mono fun e w' ⟨he, hf, hb⟩ => ⟨_, he, hb⟩
theorem open_five (w : World) : Calls Try.prog 21 #[.slice (some ⟨w.heap.size, 0, none⟩) 1 1] (w.alloc (.cells #[.int .u8 5] 5)) (Errs 1 w) :=
  (Open_short_16 _ 1 1 _ (by decide)).mono fun e w' ⟨he, hb⟩ => ⟨he, bel_lit hb⟩
theorem open_ff (w : World) : Calls Try.prog 21 #[.slice (some ⟨w.heap.size, 0, none⟩) 2 2] (w.alloc (.cells #[.int .u8 255, .int .u8 255] 5)) (OpensIt 0 w) :=
  (Open_right_16 _ 2 2 [255, 255] (w.alloc (.cells (blk .u8 [255, 255]) 5)) (row_lit w _ (by decide)) rfl (by decide) (by decide) (by decide) ff_right).mono fun e w' ⟨he, hf, hb⟩ => ⟨_, he, bel_lit hb⟩
theorem open_z4 (w : World) : Calls Try.prog 22 #[.slice (some ⟨w.heap.size, 0, none⟩) 4 4] (w.alloc (.cells #[.int .u8 0, .int .u8 0, .int .u8 0, .int .u8 0] 5)) (OpensIt 0 w) :=
  (Open_right_32 _ 4 4 [0, 0, 0, 0] (w.alloc (.cells (blk .u8 [0, 0, 0, 0]) 5)) (row_lit w _ (by decide)) rfl (by decide) (by decide) (by decide) z4_right).mono fun e w' ⟨he, hf, hb⟩ => ⟨_, he, bel_lit hb⟩
theorem open_z41 (w : World) : Calls Try.prog 22 #[.slice (some ⟨w.heap.size, 0, none⟩) 4 4] (w.alloc (.cells #[.int .u8 0, .int .u8 0, .int .u8 0, .int .u8 1] 5)) (Errs 5 w) :=
  (Open_wrong_32 _ 4 4 [0, 0, 0, 1] (w.alloc (.cells (blk .u8 [0, 0, 0, 1]) 5)) (row_lit w _ (by decide)) rfl (by decide) (by decide) (by decide) z41_wrong).mono fun e w' ⟨he, hb⟩ => ⟨he, bel_lit hb⟩
theorem open_z3 (w : World) : Calls Try.prog 22 #[.slice (some ⟨w.heap.size, 0, none⟩) 3 3] (w.alloc (.cells #[.int .u8 0, .int .u8 0, .int .u8 0] 5)) (Errs 1 w) :=
  (Open_short_32 _ 3 3 _ (by decide)).mono fun e w' ⟨he, hb⟩ => ⟨he, bel_lit hb⟩
theorem same_eight (w : World) (A : Option Addr) (h : Row .u8 w w.heap.size A eight) : Calls Try.prog 25 #[.slice A 8 8, .slice (some ⟨w.heap.size, 0, none⟩) 8 8] (w.alloc (.cells #[.int .u8 1, .int .u8 3, .int .u8 0, .int .u8 0, .int .u8 0, .int .u8 10, .int .u8 197, .int .u8 205] 5)) fun e w' => e = .returned (.bool true) ∧ Below w.heap.size w w' :=
  (same_yes_u8 A _ 8 8 8 eight (w.alloc (.cells (blk .u8 eight) 5)) _ _ (h.alloc (Nat.le_refl _) _) (row_lit w eight eight_wf) rfl (by decide)).mono fun e w' ⟨he, m, hw⟩ => ⟨he, by subst hw; exact bel_lit ⟨rfl, rfl, rfl, Nat.le_refl _, fun _ _ => rfl⟩⟩
theorem crc_nil16 (w : World) : Calls Try.prog 10 #[.slice none 0 0] w fun e w' => e = .returned (.int .u16 65535) ∧ w = w' := crc_16 none 0 0 [] w 0 (Row.nil _ _ _ _) rfl (by decide)
theorem more_nil16 (w : World) : Calls Try.prog 12 #[.int .u16 7, .slice none 0 0] w fun e w' => e = .returned (.int .u16 7) ∧ w = w' := more_16 7 none 0 0 [] (by decide) w 0 (Row.nil _ _ _ _) rfl (by decide)
theorem crc_nil32 (w : World) : Calls Try.prog 14 #[.slice none 0 0] w fun e w' => e = .returned (.int .u32 0) ∧ w = w' := crc_32 none 0 0 [] w 0 (Row.nil _ _ _ _) rfl (by decide)
theorem seven32 : more32 7 [] = 7 := by decide +kernel
theorem more_nil32 (w : World) : Calls Try.prog 16 #[.int .u32 7, .slice none 0 0] w fun e w' => e = .returned (.int .u32 7) ∧ w = w' :=
  (more_32 7 none 0 0 [] (by decide) w 0 (Row.nil _ _ _ _) rfl (by decide)).mono fun _ _ ⟨he, hw⟩ => ⟨by rw [he, seven32]; rfl, hw⟩

set_option maxHeartbeats 1000000 in
theorem walk_SumsKnown (w : World) : Calls Try.prog 8 #[] w fun e w' => e = .returned (.bool true) ∧ Below w.heap.size w w' := by
  go_enter Try.func8, Try.ntmps8
  go_wp2_with fail
  refine (seal_six _).mono ?_
  rintro e w1 ⟨gp, rfl, r1, b1⟩
  go_wp2_with fail
  refine (open_eight _ _ r1).mono ?_
  rintro e w2 ⟨ga, rfl, hb⟩
  have r2 := (r1.below hb).more hb.size
  have b2 := b1.trans (hb.mono b1.size)
  clear r1 hb
  go_wp2_with fail
  refine (open_five _).mono ?_
  rintro e w3 ⟨rfl, hb⟩
  have r3 := (r2.below hb).more hb.size
  have b3 := b2.trans (hb.mono b2.size)
  clear r2 hb
  go_wp2_with fail
  refine (open_ff _).mono ?_
  rintro e w4 ⟨gb, rfl, hb⟩
  have r4 := (r3.below hb).more hb.size
  have b4 := b3.trans (hb.mono b3.size)
  clear r3 hb
  go_wp2_with fail
  refine (open_z4 _).mono ?_
  rintro e w5 ⟨gc, rfl, hb⟩
  have r5 := (r4.below hb).more hb.size
  have b5 := b4.trans (hb.mono b4.size)
  clear r4 hb
  go_wp2_with fail
  refine (open_z41 _).mono ?_
  rintro e w6 ⟨rfl, hb⟩
  have r6 := (r5.below hb).more hb.size
  have b6 := b5.trans (hb.mono b5.size)
  clear r5 hb
  go_wp2_with fail
  refine (open_z3 _).mono ?_
  rintro e w7 ⟨rfl, hb⟩
  have r7 := (r6.below hb).more hb.size
  have b7 := b6.trans (hb.mono b6.size)
  clear r6 hb
  go_wp2_with fail
  refine (same_eight _ _ r7).mono ?_
  rintro e w8 ⟨rfl, hb⟩
  have b8 := b7.trans (hb.mono b7.size)
  clear r7 hb b1 b2 b3 b4 b5 b6 b7
  go_wp2_with fail
  refine (crc_nil16 _).mono ?_
  rintro e w' ⟨rfl, rfl⟩
  go_wp2_with fail
  refine (crc_nil32 _).mono ?_
  rintro e w' ⟨rfl, rfl⟩
  go_wp2_with fail
  refine (more_nil16 _).mono ?_
  rintro e w' ⟨rfl, rfl⟩
  go_wp2_with fail
  refine (more_nil32 _).mono ?_
  rintro e w' ⟨rfl, rfl⟩
  go_wp2_with fail
  refine (known_yes _).mono ?_
  rintro e w9 ⟨rfl, hb⟩
  have b9 := b8.trans (hb.mono b8.size)
  go_wp2
  go_ret
  exact ⟨rfl, b9⟩
end Go.Proofs.Ytogjamcefiegaaa
