/-
  Contracts of SpoilWords and ApartWords: rows in blocks of their own are written over one by one.
-/
import Derived.Test.YtcnidddneiekfaaProg
import Derived.Test.YtcnidddneiekfaaOwn
import Derived.Test.YtcnidddneiekfaaBlock
namespace Go.Proofs.Ytcnidddneiekfaa.W
open Go.RowKit
set_option linter.unusedVariables false
/-- A list with each byte written over, up to a place. -/
def spoil16 (k : Nat) (l : List Int) : List Int := (l.take k).map (bits .xor .u16 · 23205) ++ l.drop k
theorem spoil16_length (k : Nat) (l : List Int) : (spoil16 k l).length = l.length := by simp [spoil16]; omega
theorem xor90_wf (x : Int) (h : (Lit.int .u16 x).wf = true) : (Lit.int .u16 (bits .xor .u16 x 23205)).wf = true := by
  have hx := wf_u16 h
  obtain ⟨n, rfl⟩ := Int.eq_ofNat_of_zero_le hx.1
  have hn : n < 65536 := by omega
  have := u16_xor_nat n 23205 hn (by omega)
  show (Lit.int .u16 (bits .xor .u16 (n : Int) ((23205 : Nat) : Int))).wf = true
  rw [this]
  have hlt : n ^^^ 23205 < 65536 := Nat.xor_lt_two_pow (n := 16) hn (by omega)
  simp [Lit.wf, IntKind.min, IntKind.max, IntKind.signed, IntKind.bits]; omega
theorem spoil16_wf (k : Nat) (l : List Int) (h : ∀ x ∈ l, (Lit.int .u16 x).wf = true) : ∀ x ∈ spoil16 k l, (Lit.int .u16 x).wf = true := by
  intro x hx
  rcases List.mem_append.1 hx with hx | hx
  · obtain ⟨y, hy, rfl⟩ := List.mem_map.1 hx
    exact xor90_wf y (h y (List.mem_of_mem_take hy))
  · exact h x (List.mem_of_mem_drop hx)
theorem spoil16_at (k : Nat) (l : List Int) (hk : k < l.length) : nth (spoil16 k l) k = nth l k := by
  have hl : ((l.take k).map (bits .xor .u16 · 23205)).length = k := by simp; omega
  have := nth_right ((l.take k).map (bits .xor .u16 · 23205)) (l.drop k) 0
  rw [hl, Nat.add_zero] at this
  rw [spoil16, this, nth, nth, List.getD_eq_getElem?_getD, List.getD_eq_getElem?_getD, List.getElem?_drop, Nat.add_zero]
theorem spoil16_set (k : Nat) (l : List Int) (hk : k < l.length) : (spoil16 k l).set k (bits .xor .u16 (nth l k) 23205) = spoil16 (k + 1) l := by
  have hl : ((l.take k).map (bits .xor .u16 · 23205)).length = k := by simp; omega
  have hd := List.drop_eq_getElem_cons hk
  rw [spoil16, List.set_append_right _ _ (by omega), hl, Nat.sub_self, spoil16, take_step l k hk]
  simp
  rw [hd]
  rfl
theorem spoil16_zero (l : List Int) : spoil16 0 l = l := by simp [spoil16]

set_option maxHeartbeats 400000 in
theorem spoil_u16 (g n c : Nat) (l r : List Int) (w : World) (hg : w.heap[g]? = some (.cells (blk .u16 (l ++ r)) 41 (0, 0))) (hl : l.length = c) (hn : n ≤ c) (hc : c ≤ 70368744177664) :
    Calls Try.prog 32 #[.slice (some ⟨g, 0, none⟩) n c] w fun e w' => e = .returned (.tuple #[]) ∧ w'.heap[g]? = some (.cells (blk .u16 (spoil16 c l ++ r)) 41 (0, 0)) ∧ w.grownBy w' (some g) ∧ w'.heap.size = w.heap.size := by
  have hl' := Lib.hid hl
  clear hl
  go_enter Try.func32, Try.ntmps32
  go_wp2
  go_loopw [3] (fun i wr => ∃ k : Nat, k ≤ c ∧ i = .int .i64 k ∧ Hid (wr.heap[g]? = some (.cells (blk .u16 (spoil16 k l ++ r)) 41 (0, 0))) ∧ w.grownBy wr (some g) ∧ Hid (wr.heap.size = w.heap.size)) (fun i _ => c - (intOf i).toNat)
  case atStart => exact ⟨0, by omega, rfl, Lib.hid (by rw [spoil16_zero]; exact hg), World.grownBy.refl _ _, Lib.hid rfl⟩
  case round =>
    obtain ⟨k, hk, rfl, hb, hgr, hsz⟩ := hrel
    by_cases hlt : k < c
    · have hc1 : wr.cell? ⟨g, k, none⟩ = some (.int .u16 (nth l k)) := by
        rw [cell_of_row wr g k _ _ _ hb.out, blk_get _ _ _ (by rw [List.length_append, spoil16_length, hl'.out]; omega), nth_left _ _ _ (by rw [spoil16_length, hl'.out]; exact hlt), spoil16_at k l (by have := hl'.out; omega)]
      have hfz := block_frozen wr g k _ _ hb.out
      have hnew := Lib.hid (block_setCell wr g k .u16 41 _ (bits .xor .u16 (nth l k) 23205) hb.out)
      rw [List.set_append_left _ _ (by rw [spoil16_length, hl'.out]; exact hlt), spoil16_set k l (by have := hl'.out; omega)] at hnew
      have hgr2 := grown_setCell hgr k (.int .u16 (bits .xor .u16 (nth l k) 23205))
      have hsz2 : Hid ((wr.setCell ⟨g, k, none⟩ (.int .u16 (bits .xor .u16 (nth l k) 23205))).heap.size = w.heap.size) := by
        show _ = _
        rw [← hsz.out]; simp [World.setCell]
      go_wp2
      go_roundw
      case rel => exact ⟨k + 1, by omega, by go_num, hnew, hgr2, hsz2⟩
      case measure => simp [intOf]; omega
    · obtain rfl : k = c := by omega
      go_wp2
      go_end0
      exact ⟨rfl, hb.out, hgr, hsz.out⟩
theorem spoil_nil (w : World) :
    Calls Try.prog 32 #[.slice none 0 0] w fun e w' => e = .returned (.tuple #[]) ∧ w = w' := by
  go_enter Try.func32, Try.ntmps32
  go_wp2
  go_loop [3] (fun i => i = .int .i64 0) (fun _ => 0)
  case atStart => rfl
  case round =>
    subst hrel
    go_wp2
    go_end0
    exact ⟨rfl, rfl⟩

end Go.Proofs.Ytcnidddneiekfaa.W
