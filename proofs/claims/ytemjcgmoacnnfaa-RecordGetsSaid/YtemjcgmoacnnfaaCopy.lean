/-
  Contract of CopyBytes.
-/
import Derived.Test.YtemjcgmoacnnfaaOwn
import Derived.Test.YtemjcgmoacnnfaaKit
namespace Go.Proofs.Ytemjcgmoacnnfaa
open Go.RowKit

/-- A call returns a new slice, its own, that holds xs; nothing that was there has turned. -/
def Makes (k : IntKind) (t : TypeId) (w : World) (xs : List Int) (e : Ending) (w' : World) : Prop := ∃ v, e = .returned v ∧ Own k t w' w.heap.size v xs ∧ Below w.heap.size w w'

/-- A call returns a slice that fills a new block, the first new one, with xs; nothing that was there has turned. -/
def Lays (k : IntKind) (t : TypeId) (w : World) (xs : List Int) (m : Nat) (e : Ending) (w' : World) : Prop :=
  e = .returned (.slice (some ⟨w.heap.size, 0, none⟩) m m) ∧ w'.heap[w.heap.size]? = some (.cells (blk k xs) t (0, 0)) ∧ Below w.heap.size w w'

set_option maxHeartbeats 400000 in
theorem copy_u8 (A : Option Addr) (n c : Nat) (xs : List Int) (w : World) (hr : Row .u8 w w.heap.size A xs) (hn : xs.length = n) (hb : n ≤ 140737488355328) : 
    Calls Try.prog 20 #[.slice A n c] w (Makes .u8 5 w xs) := by
  go_enter Try.func20, Try.ntmps20
  go_wp2
  go_loopw [3, 4] (fun v i wr => ∃ k : Nat, k ≤ n ∧ i = .int .i64 k ∧ Own .u8 5 wr w.heap.size v (xs.take k) ∧ Below w.heap.size w wr) (fun _ i _ => n - (intOf i).toNat)
  case atStart => exact ⟨0, by omega, rfl, Own.nil _ _ _ _, Below.refl _ _⟩
  case round =>
    obtain ⟨k, hk, rfl, hown, hbel⟩ := hrel
    by_cases hlt : k < n
    · obtain ⟨b, o, rfl, hb1, hc1⟩ := (hr.below hbel).at_ (i := k) (by omega)
      have hl : Hid ((xs.take k).length = k) := by show _ = _; simp; omega
      have hone := Row.one .u8 wr 5 (nth xs k) (hr.wf_at (by omega))
      have hsz := hbel.size
      have HT := Lib.hid (take_step xs k (by omega))
      go_wp2_with (at_builtin; refine wpList_append_row _ rfl _ _ 24 rfl w.heap.size .u8 5 1 Try.underlying24 info_u8 _ (xs.take k) rfl (hown.alloc _) _ _ 1 1 [nth xs k] rfl hone rfl (by rw [hl.out]; omega) (by rw [hl.out]; simp only [maxLen]; omega) (by simp; omega) ?_; intro v1 w1 hown1 hg1)
      have hbel1 := Below.own1 hbel hsz hown hg1
      rw [← HT.out] at hown1
      clear hone hc1 hg1 hown
      go_wp2
      go_roundw
      case rel => exact ⟨k + 1, by omega, by go_num, hown1, hbel1⟩
      case measure => simp [intOf]; omega
    · have hx : xs.take k = xs := List.take_of_length_le (by omega)
      rw [hx] at hown
      clear hx
      go_wp2
      go_ret
      exact ⟨_, rfl, hown, hbel⟩
end Go.Proofs.Ytemjcgmoacnnfaa
