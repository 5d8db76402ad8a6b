/-
  The walk of AlarmKnown.
-/
import Derived.Test.YtlbblddpfijciaaAlarmStepsWalk
import Derived.Test.YtlbblddpfijciaaAlarmTellsWalk
import Derived.Test.YtlbblddpfijciaaAlarmRunsWalk
import Derived.Test.YtlbblddpfijciaaAlarmLatchedWalk
import Derived.Test.YtlbblddpfijciaaAlarmApartWalk
import Derived.Test.YtlbblddpfijciaaAlarmInsideWalk
namespace Go.Proofs.Ytlbblddpfijciaa
open Go.RowKit
set_option linter.unusedVariables false

/-- The values that are tried. -/
def vals8 : List Int := [-9223372036854775808, -1099511627777, -1099511627776, -1, 0, 1, 9, 10, 11, 12, 13, 17, 18, 19, 20, 21, 1099511627776, 1099511627777, 9223372036854775807]
theorem blk_vals8 : Obj.cells (blk .i64 vals8) 3 = .cells #[.int .i64 (-9223372036854775808), .int .i64 (-1099511627777), .int .i64 (-1099511627776), .int .i64 (-1), .int .i64 0, .int .i64 1, .int .i64 9, .int .i64 10, .int .i64 11, .int .i64 12, .int .i64 13, .int .i64 17, .int .i64 18, .int .i64 19, .int .i64 20, .int .i64 21, .int .i64 1099511627776, .int .i64 1099511627777, .int .i64 9223372036854775807] 3 := rfl
/-- The values' block is as it was laid, and what was there too. -/
def VB (w wr : World) : Prop := wr.heap[w.heap.size]? = some (.cells (blk .i64 vals8) 3 (0, 0)) ∧ Below w.heap.size w wr
theorem VB.new (w : World) : VB w (w.alloc (.cells (blk .i64 vals8) 3)) := ⟨heap_alloc_new _ _, bel_alloc _ _⟩
theorem VB.below {w wr w' : World} (h : VB w wr) (hb : Below wr.heap.size wr w') : VB w w' := ⟨keepB hb h.1, h.2.trans (hb.mono h.2.size)⟩
theorem VB.cell {w wr : World} (h : VB w wr) (k : Nat) (hk : k < 19) : wr.cell? ⟨w.heap.size, k, none⟩ = some (.int .i64 (nth vals8 k)) :=
  cell_of_row _ _ k _ _ _ (by rw [h.1]) |>.trans (by exact blk_get .i64 vals8 k hk)
theorem VB.lt {w wr : World} (h : VB w wr) : w.heap.size < wr.heap.size := block_lt h.1

/-- The values and acknowledgements of the last line. -/
def vls8 : List Int := [15, 10, 12, 13, 9, 25, 18, 17, 9, 15, 15]
def bls8 : List Bool := [false, false, false, false, false, false, false, false, false, true]
theorem row_vals (w : World) : Row .i64 (w.alloc (.cells (blk .i64 vls8) 3)) (w.alloc (.cells (blk .i64 vls8) 3)).heap.size (some ⟨w.heap.size, 0, none⟩) vls8 :=
  (Row.new .i64 w _ vls8 vls8 (by decide) (List.prefix_refl _)).more (by simp)
theorem row_bls (w : World) : L.Row () (w.alloc (.cells (L.blk () bls8) 4)) (w.alloc (.cells (L.blk () bls8) 4)).heap.size (some ⟨w.heap.size, 0, none⟩) bls8 :=
  (L.Row.new () w _ bls8 bls8 (by decide) (List.prefix_refl _)).more (by simp)
theorem ok8 : Lim.Ok ⟨true, true, false, 10, 20, 2⟩ := ⟨by decide, by decide, by decide⟩

set_option maxHeartbeats 4000000 in
set_option maxRecDepth 100000 in
theorem walk_AlarmKnown (w : World) : Calls Try.prog 9 #[] w fun e w' => e = .returned (.bool true) ∧ Below w.heap.size w w' := by
  have hv0 := VB.new w
  rw [blk_vals8] at hv0
  go_enter Try.func9, Try.ntmps9
  go_wp2_with fail
  generalize (w.alloc _ : World) = w0 at *
  go_loopw [2] (fun i wr => ∃ k : Nat, k ≤ 19 ∧ i = .int .i64 k ∧ Hid (VB w wr)) (fun i _ => 19 - (intOf i).toNat)
  case atStart => exact ⟨0, by omega, rfl, Lib.hid hv0⟩
  case round =>
    clear hv0
    obtain ⟨k, hk, rfl, hv⟩ := hrel
    by_cases hlt : k < 19
    · have hlt' : (k : Int) < 19 := by omega
      have hk0 : (0 : Int) ≤ k := by omega
      obtain ⟨x, hx⟩ : ∃ x, Hid (nth vals8 k = x) := ⟨_, Lib.hid rfl⟩
      go_wp2_with fail
      go_loopw [3] (fun i wr => ∃ j : Nat, j ≤ 8 ∧ i = .int .i64 j ∧ Hid (VB w wr)) (fun i _ => 8 - (intOf i).toNat)
      case atStart => exact ⟨0, by omega, rfl, hv⟩
      case round =>
        clear hv
        obtain ⟨j, hj, rfl, hv⟩ := hrel
        by_cases hltj : j < 8
        · have hltj' : (j : Int) < 8 := by omega
          go_wp2_with fail
          refine (band8_any _).mono ?_
          rintro e w1 ⟨rfl, b1⟩
          have hv1 := hv.out.below b1
          clear b1 hv
          go_upto_region 12 with fail
          generalize bits BinOp.and IntKind.i64 (j : Int) 1 = m1 at *
          generalize bits BinOp.and IntKind.i64 (j : Int) 2 = m2 at *
          generalize bits BinOp.and IntKind.i64 (j : Int) 4 = m3 at *
          generalize (m1 == 0) = ul at *
          generalize (m2 == 0) = uh at *
          generalize (m3 != 0) = la at *
          have hl1 := heap_alloc_new w1 (.cells #[.bool ul, .bool uh, .bool la, .int .i64 10, .int .i64 20, .int .i64 2] 23)
          have hv2 := Lib.hid (hv1.below (bel_alloc w1 (.cells #[.bool ul, .bool uh, .bool la, .int .i64 10, .int .i64 20, .int .i64 2] 23)))
          have hg1 : w.heap.size < w1.heap.size := hv1.lt
          clear hv1
          generalize w1.alloc (.cells #[.bool ul, .bool uh, .bool la, .int .i64 10, .int .i64 20, .int .i64 2] 23) = w2 at *
          generalize w1.heap.size = g4 at *
          obtain ⟨c1, c2, c3, c4, c5, c6⟩ := of6 hl1
          have z4 : w2.frozen? ⟨g4, 3, none⟩ = false := block_frozen _ _ 3 _ _ hl1
          go_upto_if 36 with fail
          go_cut [4] from 17 to 110 (fun s wx => s = .pointer (some ⟨g4, 0, none⟩) ∧ ∃ lo : Int, Hid (wx.heap[g4]? = some (.cells #[.bool ul, .bool uh, .bool la, .int .i64 lo, .int .i64 20, .int .i64 2] 23 (0, 0)) ∧ VB w wx))
          case first =>
            cases ul with
            | true =>
              go_wp2
              go_meet
              exact ⟨rfl, 10, Lib.hid ⟨hl1, hv2.out⟩⟩
            | false =>
              have hl2 := box_set hl1 3 (.int .i64 0)
              have hv3 : VB w (w2.setCell ⟨g4, 3, none⟩ (.int .i64 0)) := ⟨(Below.heap_setCell _ _ _ _ (by show w.heap.size ≠ g4; omega)).trans hv2.out.1, below_setCell hv2.out.2 (by omega) 3 _⟩
              go_wp2
              go_meet
              exact ⟨rfl, 0, Lib.hid ⟨hl2, hv3⟩⟩
          case rest =>
          obtain ⟨rfl, lo, hcl⟩ := hcut
          have hl3 := hcl.out.1
          clear c1 c2 c3 c4 c5 c6 z4 hl1 hv2
          obtain ⟨c1, c2, c3, c4, c5, c6⟩ := of6 hl3
          have z4 : wc.frozen? ⟨g4, 4, none⟩ = false := block_frozen _ _ 4 _ _ hl3
          go_upto_if 40 with fail
          go_cut [4] from 17 to 110 (fun s wx => s = .pointer (some ⟨g4, 0, none⟩) ∧ ∃ hi : Int, Hid (wx.heap[g4]? = some (.cells #[.bool ul, .bool uh, .bool la, .int .i64 lo, .int .i64 hi, .int .i64 2] 23 (0, 0)) ∧ VB w wx))
          case first =>
            cases uh with
            | true =>
              go_wp2
              go_meet
              exact ⟨rfl, 20, Lib.hid ⟨hl3, hcl.out.2⟩⟩
            | false =>
              have hl4 := box_set hl3 4 (.int .i64 0)
              have hv4 : VB w (wc.setCell ⟨g4, 4, none⟩ (.int .i64 0)) := ⟨(Below.heap_setCell _ _ _ _ (by show w.heap.size ≠ g4; omega)).trans hcl.out.2.1, below_setCell hcl.out.2.2 (by omega) 4 _⟩
              go_wp2
              go_meet
              exact ⟨rfl, 0, Lib.hid ⟨hl4, hv4⟩⟩
          case rest =>
          obtain ⟨rfl, hi, hch⟩ := hcut
          clear c1 c2 c3 c4 c5 c6 z4 hl3 hcl
          go_wp2_with fail
          go_loopw [5] (fun i wr => ∃ s : Int, -1 ≤ s ∧ s ≤ 4 ∧ i = .int .i64 s ∧ Hid (wr.heap[g4]? = some (.cells #[.bool ul, .bool uh, .bool la, .int .i64 lo, .int .i64 hi, .int .i64 2] 23 (0, 0)) ∧ VB w wr)) (fun i _ => (4 - intOf i).toNat)
          case atStart => exact ⟨-1, by omega, by omega, rfl, hch⟩
          case round =>
            clear hch
            obtain ⟨s, hs1, hs2, rfl, hch⟩ := hrel
            by_cases hlts : s ≤ 3
            · have hgw := block_lt hch.out.1
              have hvw := hch.out.2.lt
              have hrow : wr.cell? ⟨w.heap.size, k, none⟩ = some (.int .i64 x) := by rw [← hx.out]; exact hch.out.2.cell k hlt
              have hwr1 : IntKind.i64.wrap (s + 1) = s + 1 := by rw [IntKind.wrap_i64]; omega
              have HK : Hid (∀ w' : World, Below wr.heap.size wr w' → (Below wr.heap.size wr w' ∧ (w'.cell? ⟨g4, 0, none⟩ = some (.bool ul) ∧ w'.cell? ⟨g4, 1, none⟩ = some (.bool uh) ∧ w'.cell? ⟨g4, 2, none⟩ = some (.bool la) ∧ w'.cell? ⟨g4, 3, none⟩ = some (.int .i64 lo) ∧ w'.cell? ⟨g4, 4, none⟩ = some (.int .i64 hi) ∧ w'.cell? ⟨g4, 5, none⟩ = some (.int .i64 2)) ∧ w'.cell? ⟨w.heap.size, k, none⟩ = some (.int .i64 x))) := Lib.hid fun w' hw => ⟨hw, of6 (keepB hw (hch.out.1)), cellB hw (hvw) (hrow)⟩
              have belh : ∀ w' : World, (Below wr.heap.size wr w' ∧ (w'.cell? ⟨g4, 0, none⟩ = some (.bool ul) ∧ w'.cell? ⟨g4, 1, none⟩ = some (.bool uh) ∧ w'.cell? ⟨g4, 2, none⟩ = some (.bool la) ∧ w'.cell? ⟨g4, 3, none⟩ = some (.int .i64 lo) ∧ w'.cell? ⟨g4, 4, none⟩ = some (.int .i64 hi) ∧ w'.cell? ⟨g4, 5, none⟩ = some (.int .i64 2)) ∧ w'.cell? ⟨w.heap.size, k, none⟩ = some (.int .i64 x)) → Below wr.heap.size wr w' := fun w' h => h.1
              go_wp2
              go_region_held3 (fun w' => Below wr.heap.size wr w' ∧ (w'.cell? ⟨g4, 0, none⟩ = some (.bool ul) ∧ w'.cell? ⟨g4, 1, none⟩ = some (.bool uh) ∧ w'.cell? ⟨g4, 2, none⟩ = some (.bool la) ∧ w'.cell? ⟨g4, 3, none⟩ = some (.int .i64 lo) ∧ w'.cell? ⟨g4, 4, none⟩ = some (.int .i64 hi) ∧ w'.cell? ⟨g4, 5, none⟩ = some (.int .i64 2)) ∧ w'.cell? ⟨w.heap.size, k, none⟩ = some (.int .i64 x))
                ((refine HK.out _ ?_
                  repeat' (first
                    | with_reducible exact Below.refl _ _
                    | with_reducible exact bel6
                    | with_reducible exact bel5
                    | with_reducible exact belh _ (by assumption)
                    | with_reducible apply below_drew
                    | with_reducible apply below_drewN
                    | fail)))
                (first
                  | (go_at_call 3; refine (steps8_any _ _ _ _ _ _ _ _ _ _).mono ?_; rintro e w5 ⟨rfl, b5⟩; have bel5 : Below wr.heap.size wr w5 := Below.trans (belh _ (by assumption)) (b5.mono (Below.size (belh _ (by assumption)))))
                  | (go_at_call 5; refine (tells8_any _ _ _ _ _ _ _ _ _ _).mono ?_; rintro e w5 ⟨rfl, b5⟩; have bel6 : Below wr.heap.size wr w5 := Below.trans (belh _ (by assumption)) (b5.mono (Below.size (belh _ (by assumption)))))
                  | fail)
              have hch2 : Hid (w5.heap[g4]? = some (.cells #[.bool ul, .bool uh, .bool la, .int .i64 lo, .int .i64 hi, .int .i64 2] 23 (0, 0)) ∧ VB w w5) := Lib.hid ⟨keepB bel6 hch.out.1, hch.out.2.below bel6⟩
              clear HK belh hch bel5 bel6
              go_wp2
              go_roundw
              case rel => exact ⟨s + 1, by omega, by omega, rfl, hch2⟩
              case measure => simp [intOf]; omega
            · have hl5 := hch.out.1
              have hv5 := hch.out.2
              have hvw := hv5.lt
              have hrow : wr.cell? ⟨w.heap.size, k, none⟩ = some (.int .i64 x) := by rw [← hx.out]; exact hv5.cell k hlt
              obtain ⟨c1, c2, c3, c4, c5, c6⟩ := of6 hl5
              have r1 := cellB (bel_alloc wr (.cells #[.bool ul, .bool uh, .bool la, .int .i64 lo, .int .i64 hi, .int .i64 2] 23)) hvw hrow
              have k1 := bel_alloc wr (.cells #[.bool ul, .bool uh, .bool la, .int .i64 x, .int .i64 hi, .int .i64 2] 23)
              have a1 := heap_alloc_new wr (.cells #[.bool ul, .bool uh, .bool la, .int .i64 x, .int .i64 hi, .int .i64 2] 23)
              have l1 := keepB k1 hl5
              have q1 := cellB k1 hvw hrow
              obtain ⟨d1, d2, d3, d4, d5, d6⟩ := of6 l1
              have hvw1 : w.heap.size < (wr.alloc (.cells #[.bool ul, .bool uh, .bool la, .int .i64 x, .int .i64 hi, .int .i64 2] 23)).heap.size := by simp; omega
              have r2 := cellB (bel_alloc (wr.alloc (.cells #[.bool ul, .bool uh, .bool la, .int .i64 x, .int .i64 hi, .int .i64 2] 23)) (.cells #[.bool ul, .bool uh, .bool la, .int .i64 lo, .int .i64 hi, .int .i64 2] 23)) hvw1 q1
              have k2 := bel_alloc (wr.alloc (.cells #[.bool ul, .bool uh, .bool la, .int .i64 x, .int .i64 hi, .int .i64 2] 23)) (.cells #[.bool ul, .bool uh, .bool la, .int .i64 lo, .int .i64 x, .int .i64 2] 23)
              have b2 := heap_alloc_two wr (.cells #[.bool ul, .bool uh, .bool la, .int .i64 x, .int .i64 hi, .int .i64 2] 23) (.cells #[.bool ul, .bool uh, .bool la, .int .i64 lo, .int .i64 x, .int .i64 2] 23)
              have a2 := keepB k2 a1
              have l2 := keepB k2 l1
              have q2 := cellB k2 hvw1 q1
              obtain ⟨e1, e2, e3, e4, e5, e6⟩ := of6 l2
              have hvw2 : w.heap.size < ((wr.alloc (.cells #[.bool ul, .bool uh, .bool la, .int .i64 x, .int .i64 hi, .int .i64 2] 23)).alloc (.cells #[.bool ul, .bool uh, .bool la, .int .i64 lo, .int .i64 x, .int .i64 2] 23)).heap.size := by simp; omega
              have r3 := cellB (bel_alloc ((wr.alloc (.cells #[.bool ul, .bool uh, .bool la, .int .i64 x, .int .i64 hi, .int .i64 2] 23)).alloc (.cells #[.bool ul, .bool uh, .bool la, .int .i64 lo, .int .i64 x, .int .i64 2] 23)) (.cells #[.bool ul, .bool uh, .bool la, .int .i64 lo, .int .i64 hi, .int .i64 2] 23)) hvw2 q2
              have k3 := bel_alloc ((wr.alloc (.cells #[.bool ul, .bool uh, .bool la, .int .i64 x, .int .i64 hi, .int .i64 2] 23)).alloc (.cells #[.bool ul, .bool uh, .bool la, .int .i64 lo, .int .i64 x, .int .i64 2] 23)) (.cells #[.bool ul, .bool uh, .bool la, .int .i64 lo, .int .i64 hi, .int .i64 x] 23)
              have c3' := heap_alloc_new ((wr.alloc (.cells #[.bool ul, .bool uh, .bool la, .int .i64 x, .int .i64 hi, .int .i64 2] 23)).alloc (.cells #[.bool ul, .bool uh, .bool la, .int .i64 lo, .int .i64 x, .int .i64 2] 23)) (.cells #[.bool ul, .bool uh, .bool la, .int .i64 lo, .int .i64 hi, .int .i64 x] 23)
              rw [show ((wr.alloc (.cells #[.bool ul, .bool uh, .bool la, .int .i64 x, .int .i64 hi, .int .i64 2] 23)).alloc (.cells #[.bool ul, .bool uh, .bool la, .int .i64 lo, .int .i64 x, .int .i64 2] 23)).heap.size = wr.heap.size + 1 + 1 by simp] at c3'
              have a3 := keepB k3 a2
              have b3 := keepB k3 b2
              have v3 := ((hv5.below k1).below k2).below k3
              obtain ⟨f1, f2, f3, f4, f5, f6⟩ := of6 a3
              clear hch k1 a1 l1 q1 k2 a2 b2 l2 q2 k3 hl5 hv5
              go_wp2_with fail
              refine (steps8_any _ _ _ _ _ _ _ _ _ _).mono ?_
              rintro e w5 ⟨rfl, b5⟩
              have b4 := keepB b5 b3
              have c4' := keepB b5 c3'
              have v4 := v3.below b5
              clear b5 a3 b3 c3' v3 c1 c2 c3 c4 c5 c6 d1 d2 d3 d4 d5 d6 e1 e2 e3 e4 e5 e6 f1 f2 f3 f4 f5 f6 r1 r2 r3 hrow hvw1 hvw2
              obtain ⟨c1, c2, c3, c4, c5, c6⟩ := of6 b4
              go_wp2_with fail
              refine (steps8_any _ _ _ _ _ _ _ _ _ _).mono ?_
              rintro e w6 ⟨rfl, b6⟩
              have c5' := keepB b6 c4'
              have v5 := v4.below b6
              clear b6 b4 c4' v4 c1 c2 c3 c4 c5 c6
              obtain ⟨c1, c2, c3, c4, c5, c6⟩ := of6 c5'
              go_wp2_with fail
              refine (steps8_any _ _ _ _ _ _ _ _ _ _).mono ?_
              rintro e w7 ⟨rfl, b7⟩
              have v6 := Lib.hid (v5.below b7)
              clear b7 c5' v5 c1 c2 c3 c4 c5 c6
              go_wp2
              go_roundw
              case rel => exact ⟨j + 1, by omega, by go_num, v6⟩
              case measure => simp [intOf]; omega
        · go_wp2
          go_roundw
          case rel => exact ⟨k + 1, by omega, by go_num, hv⟩
          case measure => simp [intOf]; omega
    · have bel := hv.out.2
      have hnk : ¬ (k : Int) < 19 := by omega
      have r0 := row_vals wr
      have bel1 := bel.alloc bel.size (.cells (blk .i64 vls8) 3)
      clear hv hlt
      go_wp2_with fail
      refine (band8_any _).mono ?_
      rintro e w1 ⟨rfl, b1⟩
      have bel2 := bel1.trans (b1.mono bel1.size)
      have r1 := (r0.below b1).more b1.size
      have r2 := (r1.alloc (Nat.le_refl _) (.cells (L.blk () bls8) 4)).more (B' := (w1.alloc (.cells (L.blk () bls8) 4)).heap.size) (by simp)
      have q2 := row_bls w1
      have bel3 := bel2.alloc bel2.size (.cells (L.blk () bls8) 4)
      clear bel bel1 r0 b1 r1 bel2
      go_wp2_with fail
      refine (walk_AlarmRuns true true false 10 20 2 _ 11 11 vls8 _ 10 10 bls8 _ ok8 r2 rfl (Nat.le_refl _) (by omega) q2 rfl (Nat.le_refl _) (by omega)).mono ?_
      rintro e w2 ⟨rfl, b2⟩
      have bel4 := bel3.trans (b2.mono bel3.size)
      have r3 := (r2.below b2).more b2.size
      clear r2 q2 bel3 b2
      go_wp2_with fail
      refine (band8_any _).mono ?_
      rintro e w3 ⟨rfl, b3⟩
      have bel5 := bel4.trans (b3.mono bel4.size)
      have r4 := (r3.below b3).more b3.size
      clear r3 bel4 b3
      go_wp2_with fail
      refine (walk_AlarmLatched true true false 10 20 2 _ 11 11 vls8 _ ok8 r4 rfl (Nat.le_refl _) (by omega)).mono ?_
      rintro e w4 ⟨rfl, b4⟩
      have bel6 := bel5.trans (b4.mono bel5.size)
      have r5 := (r4.below b4).more b4.size
      clear r4 bel5 b4
      go_wp2_with fail
      refine (band8_any _).mono ?_
      rintro e w5 ⟨rfl, b5⟩
      have bel7 := bel6.trans (b5.mono bel6.size)
      have r6 := (r5.below b5).more b5.size
      clear r5 bel6 b5
      go_wp2_with fail
      refine (walk_AlarmApart true true false 10 20 2 _ 11 11 vls8 _ ok8 r6 rfl (Nat.le_refl _) (by omega)).mono ?_
      rintro e w6 ⟨rfl, b6⟩
      have bel8 := bel7.trans (b6.mono bel7.size)
      have r7 := (r6.below b6).more b6.size
      clear r6 bel7 b6
      go_wp2_with fail
      refine (band8_any _).mono ?_
      rintro e w7 ⟨rfl, b7⟩
      have bel9 := bel8.trans (b7.mono bel8.size)
      have r8 := (r7.below b7).more b7.size
      clear r7 bel8 b7
      go_wp2_with fail
      refine (walk_AlarmInside true true false 10 20 2 _ 11 11 vls8 true _ ok8 r8 rfl (Nat.le_refl _) (by omega)).mono ?_
      rintro e w8 ⟨rfl, b8⟩
      have bel10 := bel9.trans (b8.mono bel9.size)
      clear r8 bel9 b8
      go_wp2_with fail
      refine (works8_yes _).mono ?_
      rintro e w9 ⟨rfl, b9⟩
      go_wp2
      go_ret
      exact ⟨rfl, bel10.trans (b9.mono bel10.size)⟩
end Go.Proofs.Ytlbblddpfijciaa
