/-
  Contracts of the document's Two, Packed and Put.
-/
import Derived.Test.YtojjcmkadmofdaaAskRef1
import Derived.Test.YtojjcmkadmofdaaAskKnown0
namespace Go.Proofs.Ytojjcmkadmofdaa
open Go.RowKit
set_option linter.unusedVariables false

theorem grown_of_alloc {w w' : World} {o : Obj} {row : Option Nat} (h : (w.alloc o).grownBy w' row) : w.grownBy w' row :=
  ⟨h.os, h.tape, h.output, by have := h.size; simp at this; omega, fun k hk hne => (h.block k (by simp; omega) hne).trans (heap_alloc_old w o hk)⟩
theorem refTwo_any (v : Value) (xs : List Int) (x : Int) (base : Nat) (w : World) (hown : Own .u8 5 w base v xs) (hx : 0 ≤ x ∧ x < 65536) (hl : xs.length ≤ 1000) (hb : base ≤ w.heap.size) :
    Calls Try.prog 40 #[v, .int .i64 x] w fun e w' => ∃ v', e = .returned v' ∧ Own .u8 5 w' base v' (xs ++ wbytes [x]) ∧ w.grownBy w' v.ownBlock ∧ (∀ g, v'.ownBlock = some g → v.ownBlock = some g ∨ w.heap.size ≤ g) := by
  have e1 : IntKind.u8.wrap (x / 256) = x / 256 := by rw [IntKind.wrap_u8]; omega
  have e2 : IntKind.u8.wrap (x % 256) = x % 256 := by rw [IntKind.wrap_u8]; omega
  have HW : Hid (wbytes [x] = [x / 256, x % 256]) := Lib.hid (by rw [wbytes_one _ _ hx]; rfl)
  have HR : Hid (Row .u8 (w.alloc (.cells #[.int .u8 (x / 256), .int .u8 (x % 256)] 5)) (w.heap.size + 1) (some ⟨w.heap.size, 0, none⟩) [x / 256, x % 256]) := Lib.hid (Row.lit_at .u8 w 5 [x / 256, x % 256] (by
    intro y hy
    simp only [List.mem_cons, List.not_mem_nil, or_false] at hy
    rcases hy with rfl | rfl
    · have := wf_byte (x / 256).toNat (by omega); rwa [show (((x / 256).toNat : Nat) : Int) = x / 256 by omega] at this
    · have := wf_byte (x % 256).toNat (by omega); rwa [show (((x % 256).toNat : Nat) : Int) = x % 256 by omega] at this) rfl)
  have hl' := Lib.hid hl
  rw [HW.out]
  clear hl
  obtain ⟨Av, nv, cv, rfl⟩ : ∃ Av nv cv, v = .slice Av nv cv := by
    rcases hown.2 with ⟨rfl, _⟩ | ⟨g, cap, cur, rfl, _⟩
    · exact ⟨_, _, _, rfl⟩
    · exact ⟨_, _, _, rfl⟩
  go_enter Try.func40, Try.ntmps40
  go_wp2_with (at_builtin; refine wpList_append_row2 _ rfl (.tmp 5) (.tmp 12) 32 rfl base .u8 5 1 Try.underlying32 info_u8 (.slice Av nv cv) xs rfl (hown.alloc _) _ _ 2 2 _ rfl HR.out rfl (by have := hl'.out; omega) (by have := hl'.out; simp only [maxLen]; omega) (by simp; omega) ?_; intro v1 w1 hown1 hg1 hat1)
  go_ret
  exact ⟨_, rfl, hown1, grown_of_alloc hg1, fun g hg => by
    rcases hat1 with h | h
    · exact .inl (h.symm.trans hg)
    · have h2 := hg.symm.trans h
      injection h2 with h2
      simp at h2
      exact .inr (by omega)⟩

theorem shl_pow (r : Nat) (h : r < 8) : (2 : Nat) ^ r < 256 := Nat.lt_of_le_of_lt (Nat.pow_le_pow_right (n := 2) (by omega) (show r ≤ 7 by omega)) (by omega)
set_option maxHeartbeats 2000000 in
set_option maxRecDepth 100000 in
theorem Packed_any (A : Option Addr) (n c : Nat) (bs : List Bool) (w : World) (hr : L.Row () w w.heap.size A bs) (hn : bs.length = n) (hb : n ≤ 100000) :
    Calls Try.prog 41 #[.slice A n c] w (Lays .u8 5 w (pk bs (need n)) (need n)) := by
  have hn' := Lib.hid hn
  clear hn
  have hne : need n ≤ 1000000 := by unfold need; omega
  have hne2 := Lib.hid (show ∀ k, k < n → k / 8 < need n by unfold need; omega)
  have em : ((n : Int) + 7) / 8 = ((need n : Nat) : Int) := by unfold need; omega
  obtain ⟨m, hm⟩ : ∃ m, Hid (need n = m) := ⟨_, Lib.hid rfl⟩
  rw [hm.out] at hne hne2 em ⊢
  have hmk := make_u8 m (by omega)
  have hz : List.replicate m (0 : Int) = pk (bs.take 0) m := by
    refine ext_nth _ _ (by rw [pk_length, List.length_replicate]) fun j hj => ?_
    rw [List.length_replicate] at hj
    rw [nth_replicate _ _ _ hj, pk_nth _ _ _ hj, bsum_stop _ _ 0 8 (by omega) (fun r _ => nth_take_off _ _ _ (by omega))]
    rfl
  rw [hz] at hmk
  clear hz
  have hg0 := Lib.hid (heap_alloc_new w (.cells (blk .u8 (pk (bs.take 0) m)) 5))
  have bel0 : Below w.heap.size w (w.alloc (.cells (blk .u8 (pk (bs.take 0) m)) 5)) := bel_alloc w _
  have hs0 : w.heap.size < (w.alloc (.cells (blk .u8 (pk (bs.take 0) m)) 5)).heap.size := by simp
  go_enter Try.func41, Try.ntmps41
  go_wp2
  go_loopw [4] (fun i wr => ∃ k : Nat, k ≤ n ∧ i = .int .i64 k ∧ Hid (wr.heap[w.heap.size]? = some (.cells (blk .u8 (pk (bs.take k) m)) 5 (0, 0))) ∧ Below w.heap.size w wr ∧ w.heap.size < wr.heap.size) (fun i _ => n - (intOf i).toNat)
  case atStart => exact ⟨0, by omega, rfl, hg0, bel0, hs0⟩
  case round =>
    clear bel0 hs0 hg0 hmk em
    obtain ⟨k, hk, rfl, hg, bel, hs⟩ := hrel
    by_cases hlt : k < n
    · obtain ⟨b, o, rfl, hb1, hc1⟩ := (hr.below bel).at_ (i := k) (by have := hn'.out; omega)
      obtain ⟨v, hv⟩ : ∃ v, Hid (L.nth bs k = v) := ⟨_, Lib.hid rfl⟩
      rw [hv.out] at hc1
      cases v with
      | false =>
        have hg1 := hg
        rw [← pk_off bs k m hv.out] at hg1
        go_wp2
        go_roundw
        case rel => exact ⟨k + 1, by omega, by go_num, hg1, bel, hs⟩
        case measure => simp [intOf]; omega
      | true =>
        have hk8 := hne2.out k hlt
        have hlow := pk_low bs k
        have hc2 : wr.cell? ⟨w.heap.size, k / 8, none⟩ = some (.int .u8 ((bsum (bs.take k) (k / 8) 8 : Nat) : Int)) := by
          rw [cell_of_row wr w.heap.size (k / 8) _ _ _ hg.out, blk_get _ _ _ (by rw [pk_length]; exact hk8), pk_nth _ _ _ hk8]
        have hfz := block_frozen wr w.heap.size (k / 8) _ _ hg.out
        have hnew := Lib.hid (block_setCell wr w.heap.size (k / 8) .u8 5 _ ((bsum (bs.take k) (k / 8) 8 + 2 ^ (k % 8) : Nat) : Int) hg.out)
        rw [pk_on bs k m hk8 hv.out] at hnew
        have bel2 : Below w.heap.size w (wr.setCell ⟨w.heap.size, k / 8, none⟩ (.int .u8 ((bsum (bs.take k) (k / 8) 8 + 2 ^ (k % 8) : Nat) : Int))) := bel.setCell (Nat.le_refl _) _
        have hs2 : w.heap.size < (wr.setCell ⟨w.heap.size, k / 8, none⟩ (.int .u8 ((bsum (bs.take k) (k / 8) 8 + 2 ^ (k % 8) : Nat) : Int))).heap.size := by simpa [World.setCell] using hs
        generalize bsum (bs.take k) (k / 8) 8 = a at *
        obtain ⟨j, hj⟩ : ∃ j, k / 8 = j := ⟨_, rfl⟩
        obtain ⟨r, hr8⟩ : ∃ r, k % 8 = r := ⟨_, rfl⟩
        have er : (k : Int) % 8 = (r : Int) := by omega
        have hr9 : r < 8 := by omega
        have e1 : (k : Int) / 8 = (j : Int) := by omega
        have e2 : (j : Int) < (m : Int) := by omega
        rw [hr8] at hlow hnew bel2 hs2
        rw [hj] at hc2 hfz hnew bel2 hs2 hk8
        clear hj hr8 hg
        obtain rfl | rfl | rfl | rfl | rfl | rfl | rfl | rfl : r = 0 ∨ r = 1 ∨ r = 2 ∨ r = 3 ∨ r = 4 ∨ r = 5 ∨ r = 6 ∨ r = 7 := by omega
        iterate 8
          · simp only [Nat.reducePow] at hlow hnew bel2 hs2
            push_cast at hnew bel2 hs2
            go_wp2
            go_roundw
            case rel => exact ⟨k + 1, by omega, by go_num, hnew, bel2, hs2⟩
            case measure => simp [intOf]; omega
    · obtain rfl : k = n := by omega
      have hx : bs.take k = bs := List.take_of_length_le (by have := hn'.out; omega)
      rw [hx] at hg
      clear hx
      go_wp2
      go_ret
      exact ⟨rfl, hg.out, bel⟩
end Go.Proofs.Ytojjcmkadmofdaa
