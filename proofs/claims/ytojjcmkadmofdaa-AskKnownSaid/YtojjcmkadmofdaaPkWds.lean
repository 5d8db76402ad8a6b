/-
  Contracts of Bytes and Words of package pack, and of the document's answers to them.
-/
import Derived.Test.YtojjcmkadmofdaaPkTake
import Derived.Test.YtojjcmkadmofdaaPkWMath
import Derived.Test.YtojjcmkadmofdaaHeldW
import Derived.StillTailTactics
import Derived.IntWalk
import Derived.Deep.RegionHeld3
import Derived.Deep.AppendLies
namespace Go.Proofs.Ytojjcmkadmofdaa
open Go.RowKit
set_option linter.unusedVariables false

theorem zeros_two (k m : Nat) : (List.replicate (2 * (m + 1)) (0 : Int)) = List.replicate 2 0 ++ List.replicate (2 * m) 0 := by
  rw [List.replicate_append_replicate]; congr 1; omega
set_option maxHeartbeats 1000000 in
theorem Bytes_any (A : Option Addr) (n c : Nat) (xs : List Int) (w : World) (hr : Row .u16 w w.heap.size A xs) (hn : xs.length = n) (hb : n ≤ 1000000) :
    Calls Try.prog 66 #[.slice A n c] w (Lays .u8 5 w (wbytes xs) (2 * n)) := by
  have hn' := Lib.hid hn
  clear hn
  have hmk := make_u8 (2 * n) (by omega)
  rw [show ((2 * n : Nat) : Int) = 2 * (n : Int) by omega] at hmk
  have hg0 := Lib.hid (heap_alloc_new w (.cells (blk .u8 (List.replicate (2 * n) 0)) 5))
  have bel0 : Below w.heap.size w (w.alloc (.cells (blk .u8 (List.replicate (2 * n) 0)) 5)) := (Below.refl _ _).alloc (Nat.le_refl _) _
  have hs0 : w.heap.size < (w.alloc (.cells (blk .u8 (List.replicate (2 * n) 0)) 5)).heap.size := by simp
  go_enter Try.func66, Try.ntmps66
  go_wp2
  go_loopw [4, 5, 12] (fun _ _ i wr => ∃ k : Nat, k ≤ n ∧ i = .int .i64 k ∧ Hid (wr.heap[w.heap.size]? = some (.cells (blk .u8 (wbytes (xs.take k) ++ List.replicate (2 * (n - k)) 0)) 5 (0, 0))) ∧ Below w.heap.size w wr ∧ w.heap.size < wr.heap.size) (fun _ _ i _ => n - (intOf i).toNat)
  case atStart => exact ⟨0, by omega, rfl, by simpa [wbytes] using hg0, bel0, hs0⟩
  case round =>
    clear bel0 hs0 hg0 hmk
    obtain ⟨k, hk, rfl, hg, bel, hs⟩ := hrel
    by_cases hlt : k < n
    · obtain ⟨b, o, rfl, hb1, hc1⟩ := (hr.below bel).at_ (i := k) (by have := hn'.out; omega)
      have hwf := wf_u16 (hr.wf_at (i := k) (by have := hn'.out; omega))
      have HT := Lib.hid (take_step xs k (by have := hn'.out; omega))
      have hl : Hid ((wbytes (xs.take k)).length = 2 * k) := Lib.hid (by have := hn'.out; rw [wbytes_length]; simp; omega)
      obtain ⟨j, hj⟩ : ∃ j, Hid (n = k + 1 + j) := ⟨n - (k + 1), Lib.hid (by omega)⟩
      have hz := zeros_two k j
      rw [show 2 * (j + 1) = 2 * (n - k) by have := hj.out; omega, show 2 * j = 2 * (n - (k + 1)) by have := hj.out; omega] at hz
      have hg1 : Hid (wr.heap[w.heap.size]? = some (.cells (blk .u8 (wbytes (xs.take k) ++ (List.replicate 2 0 ++ List.replicate (2 * (n - (k + 1))) 0))) 5 (0, 0))) := by rw [hz] at hg; exact hg
      clear hz hg
      obtain ⟨x, hx⟩ := Int.eq_ofNat_of_zero_le hwf.1
      have HS := Lib.hid (wbytes_snoc (xs.take k) (nth xs k))
      have HX := Lib.hid hx
      rw [hx] at hc1 hwf
      clear hx
      go_wp2_with (go_at_call 78; refine (lay_any w.heap.size (2 * k) _ _ x 2 (wbytes (xs.take k)) (List.replicate 2 0) (List.replicate (2 * (n - (k + 1))) 0) _ hg1.out hl.out rfl (by omega) (by omega) (by omega) (by omega)).mono ?_; rintro e w' ⟨rfl, hg2, hgr, hsz⟩)
      have bel2 : Below w.heap.size w w' := bel.grown hgr (Nat.le_of_lt hs) (fun k e => by injection e; omega)
      have hs2 : w.heap.size < w'.heap.size := by omega
      have hg3 : Hid (w'.heap[w.heap.size]? = some (.cells (blk .u8 (wbytes (xs.take (k + 1)) ++ List.replicate (2 * (n - (k + 1))) 0)) 5 (0, 0))) := Lib.hid (by
        rw [HT.out, HS.out, HX.out, Int.toNat_natCast, List.append_assoc]; exact hg2)
      clear hg2 hgr hsz hg1 bel hc1
      go_wp2
      go_roundw
      case rel => exact ⟨k + 1, by omega, by go_num, hg3, bel2, hs2⟩
      case measure => simp [intOf]; omega
    · obtain rfl : k = n := by omega
      have hx : xs.take k = xs := List.take_of_length_le (by have := hn'.out; omega)
      rw [hx, Nat.sub_self, Nat.mul_zero, List.replicate_zero, List.append_nil] at hg
      clear hx
      go_wp2
      go_ret
      exact ⟨rfl, hg.out, bel⟩

/-- A call returns a pair: no list, and an error. -/
theorem Words_odd (A : Option Addr) (n c : Nat) (w : World) (hb : n ≤ 1000000) (h : n % 2 = 1) :
    Calls Try.prog 83 #[.slice A n c] w (Errs 22 w) := by
  have h1 : ((n : Int) % 2 != 0) = true := by simp; omega
  have h2 : ((n : Int) % 2 == 0) = false := beq_false_of_ne (by omega)
  clear h
  go_enter Try.func83, Try.ntmps83
  go_wp2
  go_ret2
  exact ⟨rfl, rfl⟩
theorem wrap_word (ys : List Int) (hw : ∀ x ∈ ys, (Lit.int .u8 x).wf = true) (k : Nat) (h : k < ys.length / 2) : IntKind.u16.wrap (word ys k) = word ys k := by
  have := word_bound ys hw k h
  rw [IntKind.wrap_u16, word]; omega
set_option maxHeartbeats 1000000 in
theorem Words_ok (A : Option Addr) (n c m : Nat) (ys : List Int) (w : World) (hr : Row .u8 w w.heap.size A ys) (hn : ys.length = n) (hc : n ≤ c) (hb : n ≤ 1000000) (h : n = 2 * m) :
    Calls Try.prog 83 #[.slice A n c] w fun e w' => e = .returned (.tuple #[.slice (some ⟨w.heap.size, 0, none⟩) m m, .int .i64 0]) ∧ w' = w.alloc (.cells (blk .u16 (wwords ys)) 45) := by
  have hn' := Lib.hid hn
  have h1 : ((n : Int) % 2 != 0) = false := by simp; omega
  have h2 : ((n : Int) % 2 == 0) = true := by simp; omega
  have h3 : (n : Int) / 2 = (m : Int) := by omega
  have hy2 : Hid (ys.length / 2 = m) := Lib.hid (by omega)
  have hm' := Lib.hid h
  have hm2 : m ≤ 500000 := by omega
  clear hn h
  have hmk := W.make_u16 m (by omega)
  go_enter Try.func83, Try.ntmps83
  go_wp2
  clear hmk
  go_loopw [5, 16] (fun _ i wr => ∃ k : Nat, k ≤ m ∧ i = .int .i64 k ∧ wr = w.alloc (.cells (blk .u16 ((wwords ys).take k ++ List.replicate (m - k) 0)) 45)) (fun _ i _ => m - (intOf i).toNat)
  case atStart => exact ⟨0, by omega, rfl, by simp⟩
  case round =>
    obtain ⟨k, hk, rfl, rfl⟩ := hrel
    by_cases hlt : k < m
    · obtain ⟨b, o, rfl, hb1, hc1⟩ := hr.at_ (i := 2 * k) (by have := hn'.out; have := hm'.out; omega)
      have hrd := (hr.drop (2 * k)).alloc (Nat.le_refl _) (.cells (blk .u16 ((wwords ys).take k ++ List.replicate (m - k) 0)) 45)
      have hl : Hid ((ys.drop (2 * k)).length = n - 2 * k) := Lib.hid (by rw [List.length_drop, hn'.out])
      have hwr := Lib.hid (wrap_word ys hr.1 k (by have := hy2.out; omega))
      have hbv := Lib.hid (bval_word ys hr.1 k (by have := hy2.out; omega))
      have hlen : ((wwords ys).take k).length = k := by rw [List.length_take, wwords_length]; have := hy2.out; omega
      have hc2 := fill_cell .u16 ((wwords ys).take k) (m - k) k 0 hlen (by omega)
      have HS := Lib.hid (set_step ((wwords ys).take k) (m - (k + 1)) k 0 (word ys k) hlen)
      have HT := Lib.hid (wwords_take ys k (by have := hy2.out; omega))
      have hk2 : 2 * k < n := by have := hm'.out; omega
      clear hc1 hr hlen
      go_wp2_with (go_at_call 85; refine (number_any _ _ _ 2 (ys.drop (2 * k)) _ _ hrd hl.out (by omega) (by omega) (by omega)).mono ?_; rintro e w' ⟨rfl, rfl⟩; rw [hbv.out])
      go_roundw
      case rel => exact ⟨k + 1, by omega, by go_num, by rw [hwr.out, blk_set, show m - k = (m - (k + 1)) + 1 by omega, HS.out, HT.out]⟩
      case measure => simp [intOf]; omega
    · obtain rfl : k = m := by omega
      have hx : Hid ((wwords ys).take k = wwords ys) := Lib.hid (List.take_of_length_le (by rw [wwords_length]; have := hy2.out; omega))
      go_wp2
      go_ret2
      exact ⟨rfl, by rw [hx.out]⟩

end Go.Proofs.Ytojjcmkadmofdaa
