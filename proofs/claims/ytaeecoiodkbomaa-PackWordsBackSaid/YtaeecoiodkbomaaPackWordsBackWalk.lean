/-
  The walk of PackWordsBack.
-/
import Derived.Test.YtaeecoiodkbomaaPkWAny
namespace Go.Proofs.Ytaeecoiodkbomaa
open Go.RowKit
set_option linter.unusedVariables false

set_option maxHeartbeats 4000000 in
set_option maxRecDepth 100000 in
theorem walk_PackWordsBack (a0 : Option Addr) (l0 c0 : Nat) (x0 : List Int) (a1 : Option Addr) (l1 c1 : Nat) (x1 : List Int) (w : World) (w0 : Row .u16 w w.heap.size a0 x0) (n0 : x0.length = l0) (s0 : l0 ≤ c0) (m0 : c0 ≤ 140737488351232) (w1 : Row .u8 w w.heap.size a1 x1) (n1 : x1.length = l1) (s1 : l1 ≤ c1) (m1 : c1 ≤ 140737488351232) :
    Calls Try.prog 10 #[.slice a0 l0 c0, .slice a1 l1 c1] w fun e w' => e = .returned (.bool true) ∧ Below w.heap.size w w' := by
  have hn0 := Lib.hid n0
  have hn1 := Lib.hid n1
  clear n0 n1
  by_cases hlong : 65536 < l0
  · go_enter Try.func10, Try.ntmps10
    go_wp2_with (go_at_call 12; refine (works_yes _).mono ?_; rintro e w' ⟨rfl, bel⟩)
    go_ret
    exact ⟨rfl, bel⟩
  by_cases hlong1 : 65536 < l1
  · go_enter Try.func10, Try.ntmps10
    go_wp2_with (go_at_call 12; refine (works_yes _).mono ?_; rintro e w' ⟨rfl, bel⟩)
    go_ret
    exact ⟨rfl, bel⟩
  have bwf := wbytes_wf x0
  have hbl : (wbytes x0).length = 2 * l0 := by rw [wbytes_length, hn0.out]
  have HBL := Lib.hid hbl
  have HWW := Lib.hid (wwords_wbytes x0 w0.1)
  clear hbl
  go_enter Try.func10, Try.ntmps10
  go_wp2_with fail
  refine (Bytes_any _ _ _ x0 _ w0 hn0.out (by omega)).mono ?_
  intro e w3 hL
  obtain ⟨rfl, li1, bel3⟩ := hL.li
  clear hL
  have r3 := li1.row HBL.out bwf
  clear li1
  go_wp2_with fail
  refine (Words_ok _ _ _ l0 (wbytes x0) _ r3 HBL.out (Nat.le_refl _) (by omega) rfl).mono ?_
  rintro e w' ⟨rfl, rfl⟩
  rw [HWW.out]
  have b4 : Below w3.heap.size w3 (w3.alloc (.cells (blk .u16 x0) 56)) := (Below.refl _ _).alloc (Nat.le_refl _) _
  have r4 := (Row.of_block (k := .u16) (heap_alloc_new w3 (.cells (blk .u16 x0) 56)) x0 w0.1 (List.prefix_refl _))
  have bel4 := bel3.trans (b4.mono bel3.size)
  clear b4 r3
  generalize w3.alloc (.cells (blk .u16 x0) 56) = w4 at *
  go_wp2_with fail
  refine (W.same_yes_u16 _ _ _ _ _ x0 _ _ _ r4 (w0.below bel4) hn0.out (by omega)).mono ?_
  rintro e w5 ⟨rfl, m5, rfl⟩
  have bel5 := below_drewN bel4 m5
  clear r4 bel4
  generalize w4.drewN m5 = w5 at *
  by_cases hodd : l1 % 2 = 1
  · have ho : ((l1 : Int) % 2 == 1) = true := by simp; omega
    go_wp2_with fail
    refine (Words_odd _ _ _ _ (by omega) hodd).mono ?_
    rintro e w' ⟨rfl, rfl⟩
    clear hodd
    go_wp2_with fail
    refine (works_yes _).mono ?_
    rintro e w' ⟨rfl, bel⟩
    go_wp2
    go_ret
    exact ⟨rfl, bel5.trans (bel.mono bel5.size)⟩
  · obtain ⟨m, hm⟩ : ∃ m, l1 = 2 * m := ⟨l1 / 2, by omega⟩
    have HM := Lib.hid hm
    have HE := Lib.hid (wbytes_wwords x1 w1.1 (by rw [hn1.out]; omega))
    have hml : Hid ((wwords x1).length = m) := Lib.hid (by rw [wwords_length, hn1.out]; omega)
    have hml2 : m ≤ 65536 := by omega
    have wwf := wwords_wf x1 w1.1
    clear hodd hm
    go_wp2_with fail
    refine (Words_ok _ _ _ m x1 _ ((w1.below bel5).more bel5.size) hn1.out s1 (by omega) HM.out).mono ?_
    rintro e w' ⟨rfl, rfl⟩
    have b6 : Below w5.heap.size w5 (w5.alloc (.cells (blk .u16 (wwords x1)) 56)) := (Below.refl _ _).alloc (Nat.le_refl _) _
    have r6 := (Row.of_block (k := .u16) (heap_alloc_new w5 (.cells (blk .u16 (wwords x1)) 56)) (wwords x1) wwf (List.prefix_refl _)).more (block_lt (heap_alloc_new w5 (.cells (blk .u16 (wwords x1)) 56)))
    have bel6 := bel5.trans (b6.mono bel5.size)
    clear b6
    generalize w5.alloc (.cells (blk .u16 (wwords x1)) 56) = w6 at *
    go_wp2_with fail
    refine (Bytes_any _ _ _ (wwords x1) _ r6 hml.out (by omega)).mono ?_
    intro e w7 hL
    obtain ⟨rfl, li7, b7⟩ := hL.li
    clear hL
    rw [HE.out] at li7
    have bel7 := bel6.trans (b7.mono bel6.size)
    have hl7 : Hid (x1.length = 2 * m) := Lib.hid (hn1.out.trans HM.out)
    have r7 := li7.row hl7.out w1.1
    clear li7 b7 r6
    obtain rfl : l1 = 2 * m := HM.out
    go_wp2_with fail
    refine (same_yes_u8 _ _ _ _ _ x1 _ _ _ r7 (w1.below bel7) hl7.out (by omega)).mono ?_
    rintro e w8 ⟨rfl, m8, rfl⟩
    have bel8 := below_drewN bel7 m8
    go_wp2_with fail
    refine (works_yes _).mono ?_
    rintro e w' ⟨rfl, bel⟩
    go_wp2
    go_ret
    exact ⟨rfl, bel8.trans (bel.mono bel8.size)⟩
end Go.Proofs.Ytaeecoiodkbomaa
