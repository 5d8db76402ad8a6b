/-
  Contracts of SpoilBools and ApartBools: rows in blocks of their own are written over one by one.
-/
import Derived.Test.YtojjcmkadmofdaaProg
import Derived.Test.YtojjcmkadmofdaaOwnL
import Derived.Test.YtojjcmkadmofdaaBlockL
namespace Go.Proofs.Ytojjcmkadmofdaa.L
open Go.RowKit
set_option linter.unusedVariables false
set_option linter.unusedVariables false
/-- A list with each byte written over, up to a place. -/
def spoilL (k : Nat) (l : List Bool) : List Bool := (l.take k).map (! ·) ++ l.drop k
theorem spoilL_length (k : Nat) (l : List Bool) : (spoilL k l).length = l.length := by simp [spoilL]; omega
theorem bool_wf (x : Bool) : (Lit.bool x).wf = true := rfl
theorem spoilL_wf (k : Nat) (l : List Bool) (h : ∀ x ∈ l, (Lit.bool x).wf = true) : ∀ x ∈ spoilL k l, (Lit.bool x).wf = true := by
  intro x hx
  rcases List.mem_append.1 hx with hx | hx
  · obtain ⟨y, hy, rfl⟩ := List.mem_map.1 hx
    exact bool_wf _
  · exact h x (List.mem_of_mem_drop hx)
theorem spoilL_at (k : Nat) (l : List Bool) (hk : k < l.length) : nth (spoilL k l) k = nth l k := by
  have hl : ((l.take k).map (! ·)).length = k := by simp; omega
  have := nth_right ((l.take k).map (! ·)) (l.drop k) 0
  rw [hl, Nat.add_zero] at this
  rw [spoilL, this, nth, nth, List.getD_eq_getElem?_getD, List.getD_eq_getElem?_getD, List.getElem?_drop, Nat.add_zero]
theorem spoilL_set (k : Nat) (l : List Bool) (hk : k < l.length) : (spoilL k l).set k (!(nth l k)) = spoilL (k + 1) l := by
  have hl : ((l.take k).map (! ·)).length = k := by simp; omega
  have hd := List.drop_eq_getElem_cons hk
  rw [spoilL, List.set_append_right _ _ (by omega), hl, Nat.sub_self, spoilL, take_step l k hk]
  simp
  rw [hd]
  rfl
theorem spoilL_zero (l : List Bool) : spoilL 0 l = l := by simp [spoilL]

set_option maxHeartbeats 400000 in
theorem spoil_bool (g n c : Nat) (l r : List Bool) (w : World) (hg : w.heap[g]? = some (.cells (blk () (l ++ r)) 4 (0, 0))) (hl : l.length = c) (hn : n ≤ c) (hc : c ≤ 140737488355328) :
    Calls Try.prog 57 #[.slice (some ⟨g, 0, none⟩) n c] w fun e w' => e = .returned (.tuple #[]) ∧ w'.heap[g]? = some (.cells (blk () (spoilL c l ++ r)) 4 (0, 0)) ∧ w.grownBy w' (some g) ∧ w'.heap.size = w.heap.size := by
  have hl' := Lib.hid hl
  clear hl
  go_enter Try.func57, Try.ntmps57
  go_wp2
  go_loopw [3] (fun i wr => ∃ k : Nat, k ≤ c ∧ i = .int .i64 k ∧ Hid (wr.heap[g]? = some (.cells (blk () (spoilL k l ++ r)) 4 (0, 0))) ∧ w.grownBy wr (some g) ∧ Hid (wr.heap.size = w.heap.size)) (fun i _ => c - (intOf i).toNat)
  case atStart => exact ⟨0, by omega, rfl, Lib.hid (by rw [spoilL_zero]; exact hg), World.grownBy.refl _ _, Lib.hid rfl⟩
  case round =>
    obtain ⟨k, hk, rfl, hb, hgr, hsz⟩ := hrel
    by_cases hlt : k < c
    · have hc1 : wr.cell? ⟨g, k, none⟩ = some (.bool (nth l k)) := by
        rw [cell_of_row wr g k _ _ _ hb.out, blk_get _ _ _ (by rw [List.length_append, spoilL_length, hl'.out]; omega), nth_left _ _ _ (by rw [spoilL_length, hl'.out]; exact hlt), spoilL_at k l (by have := hl'.out; omega)]
      have hfz := block_frozen wr g k _ _ hb.out
      have hnew := Lib.hid (block_setCell wr g k () 4 _ (!(nth l k)) hb.out)
      rw [List.set_append_left _ _ (by rw [spoilL_length, hl'.out]; exact hlt), spoilL_set k l (by have := hl'.out; omega)] at hnew
      have hgr2 := grown_setCell hgr k (.bool (!(nth l k)))
      have hsz2 : Hid ((wr.setCell ⟨g, k, none⟩ (.bool (!(nth l k)))).heap.size = w.heap.size) := by
        show _ = _
        rw [← hsz.out]; simp [World.setCell]
      go_wp2
      go_roundw
      case rel => exact ⟨k + 1, by omega, by go_num, hnew, hgr2, hsz2⟩
      case measure => simp [intOf]; omega
    · obtain rfl : k = c := by omega
      go_wp2
      go_end0
      exact ⟨rfl, hb.out, hgr, hsz.out⟩
theorem spoil_nil (w : World) :
    Calls Try.prog 57 #[.slice none 0 0] w fun e w' => e = .returned (.tuple #[]) ∧ w = w' := by
  go_enter Try.func57, Try.ntmps57
  go_wp2
  go_loop [3] (fun i => i = .int .i64 0) (fun _ => 0)
  case atStart => rfl
  case round =>
    subst hrel
    go_wp2
    go_end0
    exact ⟨rfl, rfl⟩

end Go.Proofs.Ytojjcmkadmofdaa.L
