/-
  The walk of BandRuns.
-/
import Derived.Test.YtggijpfmcidpaaaBdRefRun
import Derived.Test.YtggijpfmcidpaaaBdApart
namespace Go.Proofs.Ytggijpfmcidpaaa
open Go.RowKit
set_option linter.unusedVariables false

theorem runP_ok {d q : Int} {h : Hd} {l : List Pt} (hl : ∀ p ∈ l, Pt.Ok p) : ∀ p ∈ runP d q h l, Pt.Ok p := fun p hp => hl p ((runP_sub d q h l).subset hp)
set_option maxHeartbeats 1000000 in
theorem walk_BandRuns (d q : Int) (A : Option Addr) (n c : Nat) (l : List Pt) (w : World) (wb : Pt.Ok (d, q)) (hr : Row .i64 w w.heap.size A (flP l)) (hn : l.length = n) (hc : n ≤ c) (hb : c * 16 ≤ 140737488351232) :
    Calls Try.prog 4 #[.agg #[.int .i64 d, .int .i64 q], .slice A n c] w fun e w' => e = .returned (.bool true) ∧ Below w.heap.size w w' := by
  obtain ⟨hd, hq⟩ := wb
  simp only at hd hq
  have hn' := Lib.hid hn
  have hnb : n * 16 ≤ 140737488351232 := by omega
  have hok := Lib.hid (flP_ok hr.1)
  have hlen := runP_len d q Hd.zero l
  rw [hn] at hlen
  obtain ⟨out, hout⟩ : ∃ out, Hid (runP d q Hd.zero l = out) := ⟨_, Lib.hid rfl⟩
  have hoo := Lib.hid (runP_ok (d := d) (q := q) (h := Hd.zero) hok.out)
  rw [hout.out] at hlen hoo
  have bx0 := Bx.new w (.cells #[.int .i64 d, .int .i64 q] 23)
  have hz0 : (w.alloc (.cells #[.int .i64 d, .int .i64 q] 23)).heap.size = w.heap.size + 1 := by simp
  clear hn hc hb
  go_enter Try.func4, Try.ntmps4
  go_wp2_with fail
  refine (lent_pt A n c l _ ((hr.below bx0.2).more bx0.2.size) hn'.out (by omega)).mono ?_
  rintro e w1 ⟨rfl, hw1⟩
  have hg1 : w1.heap[w.heap.size + 1]? = some (.cells (blk .i64 (flP (l ++ marksT))) 27 (0, 0)) := by rw [hw1, ← hz0]; exact heap_alloc_new _ _
  have bx1 : Bx w w.heap.size (.cells #[.int .i64 d, .int .i64 q] 23) w1 := by rw [hw1]; exact bx0.alloc _
  have hz1 : w1.heap.size = w.heap.size + 2 := by rw [hw1]; simp
  rw [hz0]
  clear hw1 bx0 hz0
  obtain ⟨a1, a2⟩ := cells2 bx1.1
  go_wp2_with fail
  refine (Run_any d q _ n _ l hd hq w1 (Row.pts_of_block hg1 hok.out) hn'.out (by omega)).mono ?_
  rw [hout.out]
  rintro e w2 ⟨v2, rfl, own2, b2⟩
  have hg2 := (b2.block _ (by omega)).trans hg1
  have bx2 := bx1.below b2
  have hs2 := b2.size
  clear a1 a2 b2 hg1 bx1
  obtain ⟨a1, a2⟩ := cells2 bx2.1
  go_wp2_with fail
  refine (refRun_any d q A n c l hd hq w2 ((hr.below bx2.2).more bx2.2.size) hn'.out (by omega)).mono ?_
  rw [hout.out]
  rintro e w3 ⟨v3, rfl, own3, b3⟩
  have hg3 := (b3.block _ (by omega)).trans hg2
  have bx3 := bx2.below b3
  have own23 := own2.below b3 (Nat.le_refl _)
  have hs3 := b3.size
  clear a1 a2 b3 hg2 bx2 own2
  obtain ⟨A2, c2, rfl, row2, _, _⟩ := own23.row hoo.out
  obtain ⟨A3, c3, rfl, row3, _, _⟩ := own3.row hoo.out
  have bel3 := bx3.2
  clear bx3 own3
  go_wp2_with fail
  refine (same_yes_pt A2 A3 out.length c2 c3 out w3 _ _ row2 row3 rfl (by omega)).mono ?_
  rintro e w4 ⟨rfl, m4, rfl⟩
  clear row2 row3
  go_wp2_with fail
  refine (kept_pt A n c (w.heap.size + 1) l _ w.heap.size ((hr.below bel3).drewN m4) hn'.out (by omega) (show (w3.drewN m4).heap[w.heap.size + 1]? = _ from hg3)).mono ?_
  rintro e w5 ⟨rfl, m5, rfl⟩
  rw [World.drewN_drewN]
  have bel5 := below_drewN bel3 (m4 + m5)
  have own5 := own23.drewN (m4 + m5)
  have hg5 : (w3.drewN (m4 + m5)).heap[w.heap.size + 1]? = some (.cells (blk .i64 (flP (l ++ marksT))) 27 (0, 0)) := hg3
  clear bel3 own23 hg3
  generalize w3.drewN (m4 + m5) = w6 at *
  go_wp2_with fail
  refine (apart2_pt w6 w.heap.size w1.heap.size (w.heap.size + 1) n _ out l _ own5 hoo.out (by omega) hg5 hok.out hn'.out (by omega) (by omega) (by omega) bel5.size).mono ?_
  rintro e w7 ⟨rfl, b7⟩
  go_wp2
  go_ret
  exact ⟨rfl, bel5.trans b7⟩
end Go.Proofs.Ytggijpfmcidpaaa
