/-
  Contract of SpoilParts: a list of parts is written over, its spare room too.
-/
import Derived.Test.YtojjcmkadmofdaaPtOwn
namespace Go.Proofs.Ytojjcmkadmofdaa
open Go.RowKit
set_option linter.unusedVariables false

set_option maxHeartbeats 400000 in
theorem spoil_part (g n c : Nat) (L : List Int) (w : World) (hg : w.heap[g]? = some (.cells (blk .i64 L) 47 (0, 0))) (hl : L.length = 3 * c) (hn : n ≤ c) (hc : c ≤ 9223372036854775807) :
    Calls Try.prog 59 #[.slice (some ⟨g, 0, none⟩) n c] w fun e w' => e = .returned (.tuple #[]) ∧ w.grownBy w' (some g) ∧ w'.heap.size = w.heap.size := by
  have hl' := Lib.hid hl
  clear hl
  go_enter Try.func59, Try.ntmps59
  go_wp2
  go_loopw [3] (fun i wr => ∃ (k : Nat) (M : List Int), k ≤ c ∧ i = .int .i64 k ∧ Hid (wr.heap[g]? = some (.cells (blk .i64 M) 47 (0, 0))) ∧ Hid (M.length = 3 * c) ∧ w.grownBy wr (some g) ∧ Hid (wr.heap.size = w.heap.size)) (fun i _ => c - (intOf i).toNat)
  case atStart => exact ⟨0, L, by omega, rfl, Lib.hid hg, hl', World.grownBy.refl _ _, Lib.hid rfl⟩
  case round =>
    obtain ⟨k, M, hk, rfl, hb, hM, hgr, hsz⟩ := hrel
    by_cases hlt : k < c
    · have hcell : ∀ i, i < 3 * c → wr.cell? ⟨g, i, none⟩ = some (.int .i64 (nth M i)) := fun i hi => by
        rw [cell_of_row wr g i _ _ _ hb.out, blk_get _ _ _ (by rw [hM.out]; exact hi)]
      have hc0 := hcell (k * 3) (by omega)
      have hc1 := hcell (k * 3 + 1) (by omega)
      have hc2 := hcell (k * 3 + 2) (by omega)
      have hfz0 := block_frozen wr g (k * 3) _ _ hb.out
      have hfz1 := block_frozen wr g (k * 3 + 1) _ _ hb.out
      have hfz2 := block_frozen wr g (k * 3 + 2) _ _ hb.out
      clear hcell
      have k1 := Lib.hid (block_setCell wr g (k * 3) .i64 47 _ (bits .xor .i64 (nth M (k * 3)) 77) hb.out)
      have k2 := Lib.hid (block_setCell _ g (k * 3 + 1) .i64 47 _ 0 k1.out)
      have k3 := Lib.hid (block_setCell _ g (k * 3 + 2) .i64 47 _ 0 k2.out)
      have g1 := grown_setCell hgr (k * 3) (.int .i64 (bits .xor .i64 (nth M (k * 3)) 77))
      have g2 := grown_setCell g1 (k * 3 + 1) (.int .i64 0)
      have g3 := grown_setCell g2 (k * 3 + 2) (.int .i64 0)
      have hz : Hid ((((wr.setCell ⟨g, k * 3, none⟩ (.int .i64 (bits .xor .i64 (nth M (k * 3)) 77))).setCell ⟨g, k * 3 + 1, none⟩ (.int .i64 0)).setCell ⟨g, k * 3 + 2, none⟩ (.int .i64 0)).heap.size = w.heap.size) := Lib.hid (by
        rw [← hsz.out]; simp [World.setCell])
      have hMl : Hid ((((M.set (k * 3) (bits .xor .i64 (nth M (k * 3)) 77)).set (k * 3 + 1) 0).set (k * 3 + 2) 0).length = 3 * c) := Lib.hid (by simp [hM.out])
      clear g1 g2 k1 k2
      go_wp2
      go_roundw
      case rel => exact ⟨k + 1, _, by omega, by go_num, k3, hMl, g3, hz⟩
      case measure => simp [intOf]; omega
    · obtain rfl : k = c := by omega
      go_wp2
      go_end0
      exact ⟨rfl, hgr, hsz.out⟩
theorem spoil_part_nil (w : World) :
    Calls Try.prog 59 #[.slice none 0 0] w fun e w' => e = .returned (.tuple #[]) ∧ w = w' := by
  go_enter Try.func59, Try.ntmps59
  go_wp2
  go_loop [3] (fun i => i = .int .i64 0) (fun _ => 0)
  case atStart => rfl
  case round =>
    subst hrel
    go_wp2
    go_end0
    exact ⟨rfl, rfl⟩
end Go.Proofs.Ytojjcmkadmofdaa
