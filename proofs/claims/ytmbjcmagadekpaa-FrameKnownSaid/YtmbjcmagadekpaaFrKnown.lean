/-
  What each statement of layer 5 asks: one frame on a line, and one on a stream.
-/
import Derived.Test.YtmbjcmagadekpaaFrGet4
import Derived.Test.YtmbjcmagadekpaaFrOpen
namespace Go.Proofs.Ytmbjcmagadekpaa
open Go.RowKit
set_option linter.unusedVariables false

def kPdu : List Int := [3, 0, 0, 0, 10]
def kRtu : List Int := [1, 3, 0, 0, 0, 10, 197, 205]
def kTcp : List Int := [0, 1, 0, 0, 0, 2, 17, 7, 9]
theorem kRtu_e : rtuE 1 kPdu = 0 ∧ rtuL 1 kPdu = kRtu := by decide +kernel
theorem kOrt : ortE kRtu = 0 ∧ ortU kRtu = 1 ∧ ortL kRtu = kPdu := by decide +kernel
theorem kGot : frErr kTcp = 0 ∧ frLen kTcp = 8 ∧ (frGot kTcp).id = 1 ∧ (frGot kTcp).u = 17 ∧ (frGot kTcp).l = [7] := by decide +kernel
theorem lit_row (w : World) (t : TypeId) (l : List Int) (hw : ∀ x ∈ l, (Lit.int .u8 x).wf = true) : Row .u8 (w.alloc (.cells (blk .u8 l) t)) (w.alloc (.cells (blk .u8 l) t)).heap.size (some ⟨w.heap.size, 0, none⟩) l :=
  (Row.new .u8 w t l l hw (List.prefix_refl _)).more (by simp)
theorem lit_rowz (w : World) (z : Nat) (hz : w.heap.size = z) (t : TypeId) (l : List Int) (hw : ∀ x ∈ l, (Lit.int .u8 x).wf = true) : Row .u8 (w.alloc (.cells (blk .u8 l) t)) (w.alloc (.cells (blk .u8 l) t)).heap.size (some ⟨z, 0, none⟩) l := by
  subst hz; exact lit_row w t l hw
theorem kPdu_wf : ∀ x ∈ kPdu, (Lit.int .u8 x).wf = true := by decide
theorem kRtu_wf : ∀ x ∈ kRtu, (Lit.int .u8 x).wf = true := by decide
theorem kTcp_wf : ∀ x ∈ kTcp, (Lit.int .u8 x).wf = true := by decide
theorem kRtu_call (W : World) (A : Option Addr) (hr : Row .u8 W W.heap.size A kPdu) :
    Calls Try.prog 31 #[.int .u8 1, .slice A 5 5] W fun e w' => ∃ g, W.heap.size ≤ g ∧ e = .returned (.tuple #[.slice (some ⟨g, 0, none⟩) 8 8, .int .i64 0]) ∧ Bk w' g kRtu ∧ Below W.heap.size W w' :=
  (rtu_any A 5 5 1 kPdu W hr rfl).mono fun e w' ⟨A1, m, g, he, hm, hg, hl, hb⟩ => by
    rw [kRtu_e.1] at he
    rw [kRtu_e.2] at hm hl
    obtain rfl : m = 8 := hm.symm
    rcases hl with ⟨_, h0⟩ | ⟨h1, h2⟩
    · cases h0
    · subst h1; rw [List.append_nil] at h2; exact ⟨g, hg, he, h2, hb⟩
theorem kOrt_call (W : World) (A : Option Addr) (hr : Row .u8 W W.heap.size A kRtu) :
    Calls Try.prog 33 #[.slice A 8 8] W fun e w' => ∃ A1, e = .returned (.tuple #[.int .u8 1, .slice A1 5 5, .int .i64 0]) ∧ Row .u8 w' w'.heap.size A1 kPdu ∧ Below W.heap.size W w' :=
  (ort_any A 8 8 kRtu W hr rfl (Nat.le_refl _)).mono fun e w' ⟨A1, m, g, he, hm, hg, hl, hb⟩ => by
    rw [kOrt.1, kOrt.2.1] at he
    rw [kOrt.2.2] at hm hl
    obtain rfl : m = 5 := hm.symm
    exact ⟨A1, he, hl.row rfl kPdu_wf, hb⟩
theorem kGet_call (W : World) (A : Option Addr) (hr : Row .u8 W W.heap.size A kTcp) :
    Calls Try.prog 37 #[.slice A 9 9] W fun e w' => ∃ A1 c1, e = .returned (.tuple #[.agg #[.int .u16 1, .int .u8 17, .slice A1 1 c1], .int .i64 8, .int .i64 0]) ∧ Row .u8 w' w'.heap.size A1 [7] ∧ Below W.heap.size W w' :=
  (frGet_any A 9 9 kTcp W hr rfl (Nat.le_refl _)).mono fun e w' ⟨v, he, hv, hb⟩ => by
    obtain ⟨h1, h2, h3, h4, h5⟩ := kGot
    rw [h1, h2, h3, h4] at he
    rw [h5] at hv
    obtain ⟨A1, c1, rfl, hr1, _, _⟩ := hv.row (by decide)
    exact ⟨A1, c1, he, hr1, hb⟩

set_option maxHeartbeats 2000000 in
set_option maxRecDepth 100000 in
theorem known5_yes (w : World) : Calls Try.prog 44 #[] w fun e w' => e = .returned (.bool true) ∧ Below w.heap.size w w' := by
  go_enter Try.func44, Try.ntmps44
  go_wp2_with fail
  refine (kRtu_call _ _ (lit_row w 5 kPdu kPdu_wf)).mono ?_
  rintro e w1 ⟨g1, hg1, rfl, k1, b1⟩
  have bel1 : Below w.heap.size w w1 := (bel_alloc w _).trans (b1.mono (by simp))
  clear b1 hg1
  go_wp2_with fail
  refine (kOrt_call _ _ (lit_row w1 5 kRtu kRtu_wf)).mono ?_
  rintro e w2 ⟨A2, rfl, r2, b2⟩
  have bel12 : Below w1.heap.size w1 w2 := (bel_alloc w1 _).trans (b2.mono (by simp))
  have bel2 := bel1.trans (bel12.mono bel1.size)
  have k2 := k1.below bel12
  clear b2 bel12 k1 bel1
  go_wp2_with fail
  refine (kGet_call _ _ (lit_row w2 5 kTcp kTcp_wf)).mono ?_
  rintro e w3 ⟨A3, c3, rfl, r3, b3⟩
  have bel23 : Below w2.heap.size w2 w3 := (bel_alloc w2 _).trans (b3.mono (by simp))
  have bel3 := bel2.trans (bel23.mono bel2.size)
  have k3 := k2.below bel23
  have p3 := (r2.below bel23).more bel23.size
  clear b3 bel23 k2 r2 bel2
  have bx := Bx.new w3 (.cells #[.int .u16 1, .int .u8 17, .slice A3 1 c3] 57)
  have k4 := k3.below bx.2
  have p4 := (p3.below bx.2).more (Nat.le_of_lt bx.lt)
  have x4 := (r3.below bx.2).more (Nat.le_of_lt bx.lt)
  have bel4 := bel3.trans (bx.2.mono bel3.size)
  clear k3 p3 r3 bel3
  go_wp2_with fail
  refine (same_yes_u8 _ _ 8 _ _ kRtu _ _ _ ((k4.row kRtu kRtu_wf (List.prefix_refl _)).alloc (Nat.le_refl _) _) (lit_rowz (w3.alloc (.cells #[.int .u16 1, .int .u8 17, .slice A3 1 c3] 57)) _ (by simp) 5 kRtu kRtu_wf) rfl (by omega)).mono ?_
  rintro e w' ⟨rfl, m5, hw5⟩
  have bx5 := (bx.alloc (.cells (blk .u8 kRtu) 5)).drewN m5
  have p5 := ((p4.alloc (Nat.le_refl _) (.cells (blk .u8 kRtu) 5)).drewN m5).more (show _ ≤ (((w3.alloc (.cells #[.int .u16 1, .int .u8 17, .slice A3 1 c3] 57)).alloc (.cells (blk .u8 kRtu) 5)).drewN m5).heap.size by show _ ≤ ((w3.alloc _).alloc _).heap.size; simp)
  have x5 := ((x4.alloc (Nat.le_refl _) (.cells (blk .u8 kRtu) 5)).drewN m5).more (show _ ≤ (((w3.alloc (.cells #[.int .u16 1, .int .u8 17, .slice A3 1 c3] 57)).alloc (.cells (blk .u8 kRtu) 5)).drewN m5).heap.size by show _ ≤ ((w3.alloc _).alloc _).heap.size; simp)
  have bel5 : Below w.heap.size w w' := by rw [hw5]; exact below_drewN (bel4.alloc bel4.size _) _
  have hw6 : w' = ((w3.alloc (.cells #[.int .u16 1, .int .u8 17, .slice A3 1 c3] 57)).alloc (.cells (blk .u8 kRtu) 5)).drewN m5 := hw5
  rw [← hw6] at bx5 p5 x5
  clear hw5 hw6 bx k4 p4 x4 bel4
  obtain ⟨d0, d1, d2⟩ := cells3 bx5.1
  go_wp2_with fail
  refine (same_yes_u8 _ _ 5 _ _ kPdu _ _ _ (p5.alloc (Nat.le_refl _) _) (lit_rowz w' _ rfl 5 kPdu kPdu_wf) rfl (by omega)).mono ?_
  rintro e w7 ⟨rfl, m7, hw7⟩
  have hw8 : w7 = (w'.alloc (.cells (blk .u8 kPdu) 5)).drewN m7 := hw7
  have bx7 : Bx w3 w3.heap.size (.cells #[.int .u16 1, .int .u8 17, .slice A3 1 c3] 57 (0, 0)) w7 := by rw [hw8]; exact (bx5.alloc _).drewN _
  have bel7 : Below w.heap.size w w7 := by rw [hw8]; exact below_drewN (bel5.alloc bel5.size _) _
  have x7 : Row .u8 w7 w7.heap.size A3 [7] := by rw [hw8]; exact ((x5.alloc (Nat.le_refl _) _).drewN _).more (by show _ ≤ (w'.alloc _).heap.size; simp)
  clear hw7 hw8 bx5 p5 x5 bel5 d0 d1 d2
  obtain ⟨d0, d1, d2⟩ := cells3 bx7.1
  go_wp2_with fail
  refine (same_yes_u8 _ _ 1 _ _ [7] _ _ _ (x7.alloc (Nat.le_refl _) _) (lit_rowz w7 _ rfl 5 [7] (by decide)) rfl (by omega)).mono ?_
  rintro e w9 ⟨rfl, m9, rfl⟩
  go_wp2
  go_ret
  exact ⟨rfl, below_drewN (bel7.alloc bel7.size _) _⟩
end Go.Proofs.Ytmbjcmagadekpaa
