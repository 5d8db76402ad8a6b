/-
  Contracts of Bits and Unbits of package pack and of the document's answers to them.
-/
import Derived.Test.YtojjcmkadmofdaaPkTake
import Derived.Test.YtojjcmkadmofdaaPkBMath
import Derived.Test.YtojjcmkadmofdaaHeldL
import Derived.IntWalk
import Derived.Deep.RegionLaw
import Derived.Deep.RegionWith
namespace Go.Proofs.Ytojjcmkadmofdaa
open Go.RowKit
set_option linter.unusedVariables false

theorem bytesOf_any (n : Nat) (w : World) (h : n < 9223372036854775808) : Calls Try.prog 79 #[.int .i64 n] w fun e w' => e = .returned (.int .i64 (need n : Nat)) ∧ w = w' := by
  by_cases h8 : n % 8 = 0
  · have h1 : ((n : Int) % 8 != 0) = false := by simp; omega
    have h2 : ((n : Int) % 8 == 0) = true := by simp; omega
    have e : Hid ((n : Int) / 8 = ((need n : Nat) : Int)) := Lib.hid (by unfold need; omega)
    clear h8
    go_enter Try.func79, Try.ntmps79
    go_wp2
    go_ret
    exact ⟨congrArg (fun x => Ending.returned (Value.int .i64 x)) e.out, rfl⟩
  · have h1 : ((n : Int) % 8 != 0) = true := by simp; omega
    have h2 : ((n : Int) % 8 == 0) = false := beq_false_of_ne (by omega)
    have e : Hid ((n : Int) / 8 + 1 = ((need n : Nat) : Int)) := Lib.hid (by unfold need; omega)
    clear h8
    go_enter Try.func79, Try.ntmps79
    go_wp2
    go_ret
    exact ⟨congrArg (fun x => Ending.returned (Value.int .i64 x)) e.out, rfl⟩
theorem weight_any (i : Nat) (w : World) (h : i ≤ 9000000) : Calls Try.prog 80 #[.int .i64 i] w fun e w' => e = .returned (.int .u8 (2 ^ (i % 8) : Nat)) ∧ w' = w := by
  have hm : (i : Int) % 8 = ((i % 8 : Nat) : Int) := by omega
  obtain ⟨r, hr⟩ : ∃ r, i % 8 = r := ⟨_, rfl⟩
  have hr8 : r < 8 := by omega
  rw [hr] at hm ⊢
  clear hr
  obtain rfl | rfl | rfl | rfl | rfl | rfl | rfl | rfl : r = 0 ∨ r = 1 ∨ r = 2 ∨ r = 3 ∨ r = 4 ∨ r = 5 ∨ r = 6 ∨ r = 7 := by omega
  all_goals
    go_enter Try.func80, Try.ntmps80
    go_wp2
    go_ret
    exact ⟨rfl, rfl⟩
theorem and_all : ∀ (x : Fin 256) (r : Fin 8), ((x.val &&& 2 ^ r.val) != 0) = decide (x.val / 2 ^ r.val % 2 = 1) := by decide +kernel
theorem and_bit (x i : Nat) (hx : x < 256) : (bits .and .u8 (x : Int) ((2 ^ (i % 8) : Nat) : Int) != 0) = decide (x / 2 ^ (i % 8) % 2 = 1) := by
  have hp : 2 ^ (i % 8) < 256 := Nat.lt_of_le_of_lt (Nat.pow_le_pow_right (n := 2) (by omega) (show i % 8 ≤ 7 by omega)) (by omega)
  rw [u8_and_nat x _ hx hp]
  have := and_all ⟨x, hx⟩ ⟨i % 8, by omega⟩
  simp only at this
  rw [← this]
  cases h : (x &&& 2 ^ (i % 8)) with
  | zero => rfl
  | succ n =>
    have e1 : (((n + 1 : Nat) : Int) != 0) = true := by simp; omega
    rw [e1]; rfl
theorem isOn_any (A : Option Addr) (m c i : Nat) (ys : List Int) (w : World) (B : Nat) (hr : Row .u8 w B A ys) (hm : ys.length = m) (hb : m ≤ 1000000) (hi : i < 8 * m) :
    Calls Try.prog 87 #[.slice A m c, .int .i64 i] w fun e w' => e = .returned (.bool (bitAt ys i)) ∧ ∃ q, w' = w.drewN q := by
  obtain ⟨b, o, rfl, hb1, hc1⟩ := hr.at_ (i := i / 8) (by omega)
  have hwf := wf_u8 (hr.wf_at (i := i / 8) (by omega))
  have HB : Hid (bitAt ys i = decide ((nth ys (i / 8)).toNat / 2 ^ (i % 8) % 2 = 1)) := Lib.hid rfl
  obtain ⟨x, hx⟩ := Int.eq_ofNat_of_zero_le hwf.1
  rw [hx, Int.toNat_natCast] at HB
  rw [hx] at hc1 hwf
  have HA := Lib.hid (and_bit x i (by omega))
  rw [show ((2 ^ (i % 8) : Nat) : Int) = (2 : Int) ^ (i % 8) by simp] at HA
  obtain ⟨j, hj⟩ : ∃ j, i / 8 = j := ⟨_, rfl⟩
  have e1 : (i : Int) / 8 = (j : Int) := by omega
  have e2 : (j : Int) < (m : Int) := by omega
  have e3 : (i : Int).tdiv 8 = (j : Int) := by rw [Int.tdiv_eq_ediv_of_nonneg (by omega)]; omega
  have e4 : (0 : Int) ≤ (j : Int) := by omega
  rw [hj] at hc1
  clear hj
  clear hx hr hm
  go_enter Try.func87, Try.ntmps87
  go_wp2_with fail
  go_quiet ((go_at_call 80; refine Calls.quiet_of_same (weight_any _ _ (by omega))))
  go_wp2
  go_ret
  exact ⟨congrArg (fun x => Ending.returned (Value.bool x)) (HA.out.trans HB.out.symm), nq, rfl⟩

/-- A bit from n on is set. -/
def spareB (ys : List Int) (n : Nat) : Bool := (List.range (8 * ys.length)).any fun i => decide (n ≤ i) && bitAt ys i
theorem spareB_iff (ys : List Int) (n : Nat) : spareB ys n = true ↔ spare ys n := by
  simp only [spareB, List.any_eq_true, List.mem_range, Bool.and_eq_true, decide_eq_true_eq, spare]
  exact ⟨fun ⟨i, h1, h2, h3⟩ => ⟨i, h2, h1, h3⟩, fun ⟨i, h2, h1, h3⟩ => ⟨i, h1, h2, h3⟩⟩
theorem hasSpare_any (A : Option Addr) (m c n : Nat) (ys : List Int) (w : World) (B : Nat) (hr : Row .u8 w B A ys) (hm : ys.length = m) (hb : m ≤ 1000000) (hn : n ≤ 8 * m) :
    Calls Try.prog 86 #[.slice A m c, .int .i64 n] w fun e w' => e = .returned (.bool (spareB ys n)) ∧ ∃ q, w' = w.drewN q := by
  have hm' := Lib.hid hm
  clear hm
  go_enter Try.func86, Try.ntmps86
  go_wp2
  go_loopw [5] (fun i wr => ∃ k q : Nat, n ≤ k ∧ k ≤ 8 * m ∧ i = .int .i64 k ∧ Hid (∀ j, n ≤ j → j < k → bitAt ys j = false) ∧ wr = w.drewN q) (fun i _ => 8 * m - (intOf i).toNat)
  case atStart => exact ⟨n, 0, by omega, hn, rfl, Lib.hid (fun j h1 h2 => by omega), rfl⟩
  case round =>
    obtain ⟨k, q, hk0, hk, rfl, hz, rfl⟩ := hrel
    by_cases hlt : k < 8 * m
    · have hlt' : (k : Int) < 8 * (m : Int) := by omega
      obtain ⟨v, hv⟩ : ∃ v, Hid (bitAt ys k = v) := ⟨_, Lib.hid rfl⟩
      go_wp2_with fail
      refine (isOn_any _ _ _ k ys _ B (hr.drewN q) hm'.out hb hlt).mono ?_
      rintro e w' ⟨rfl, q2, rfl⟩
      rw [hv.out, World.drewN_drewN]
      cases v with
      | true =>
        have hs : spareB ys n = true := (spareB_iff ys n).2 ⟨k, hk0, by have := hm'.out; omega, hv.out⟩
        have HS := Lib.hid hs
        clear hs
        go_wp2
        go_ret
        exact ⟨congrArg (fun x => Ending.returned (Value.bool x)) HS.out.symm, _, rfl⟩
      | false =>
        go_wp2
        go_roundw
        case rel => exact ⟨k + 1, _, by omega, by omega, by go_num, Lib.hid (fun j h1 h2 => by
          rcases Nat.lt_succ_iff_lt_or_eq.1 h2 with h | h
          · exact hz.out j h1 h
          · subst h; exact hv.out), rfl⟩
        case measure => simp [intOf]; omega
    · have hlt' : ¬ ((k : Int) < 8 * (m : Int)) := by omega
      have hs : spareB ys n = false := by
        cases h : spareB ys n with
        | false => rfl
        | true =>
          obtain ⟨i, h1, h2, h3⟩ := (spareB_iff ys n).1 h
          rw [hz.out i h1 (by have := hm'.out; omega)] at h3
          cases h3
      have HS := Lib.hid hs
      clear hs
      go_wp2
      go_ret
      exact ⟨congrArg (fun x => Ending.returned (Value.bool x)) HS.out.symm, _, rfl⟩

theorem or_bit (a i : Nat) (h : a < 2 ^ (i % 8)) : bits .or .u8 (a : Int) ((2 : Int) ^ (i % 8)) = ((a + 2 ^ (i % 8) : Nat) : Int) := by
  have hp : 2 ^ (i % 8) < 256 := Nat.lt_of_le_of_lt (Nat.pow_le_pow_right (n := 2) (by omega) (show i % 8 ≤ 7 by omega)) (by omega)
  rw [show (2 : Int) ^ (i % 8) = ((2 ^ (i % 8) : Nat) : Int) by simp, u8_or_nat a _ (by omega) hp, or_high a _ h]
set_option maxHeartbeats 1000000 in
theorem Bits_any (A : Option Addr) (n c : Nat) (bs : List Bool) (w : World) (hr : L.Row () w w.heap.size A bs) (hn : bs.length = n) (hb : n ≤ 1000000) :
    Calls Try.prog 69 #[.slice A n c] w (Lays .u8 5 w (pk bs (need n)) (need n)) := by
  have hn' := Lib.hid hn
  clear hn
  have hne : need n ≤ 1000000 := by unfold need; omega
  have hne2 := Lib.hid (show ∀ k, k < n → k / 8 < need n by unfold need; omega)
  obtain ⟨m, hm⟩ : ∃ m, Hid (need n = m) := ⟨_, Lib.hid rfl⟩
  rw [hm.out] at hne hne2 ⊢
  have hmk := make_u8 m (by omega)
  have hz : List.replicate m (0 : Int) = pk (bs.take 0) m := by
    refine ext_nth _ _ (by rw [pk_length, List.length_replicate]) fun j hj => ?_
    rw [List.length_replicate] at hj
    rw [nth_replicate _ _ _ hj, pk_nth _ _ _ hj, bsum_stop _ _ 0 8 (by omega) (fun r _ => nth_take_off _ _ _ (by omega))]
    rfl
  rw [hz] at hmk
  clear hz
  have hg0 := Lib.hid (heap_alloc_new w (.cells (blk .u8 (pk (bs.take 0) m)) 5))
  have bel0 : Below w.heap.size w (w.alloc (.cells (blk .u8 (pk (bs.take 0) m)) 5)) := (Below.refl _ _).alloc (Nat.le_refl _) _
  have hs0 : w.heap.size < (w.alloc (.cells (blk .u8 (pk (bs.take 0) m)) 5)).heap.size := by simp
  go_enter Try.func69, Try.ntmps69
  go_wp2_with (go_at_call 79; refine (bytesOf_any n _ (by omega)).mono ?_; rintro e w' ⟨rfl, rfl⟩; rw [hm.out])
  go_loopw [4, 5, 12] (fun _ _ i wr => ∃ k : Nat, k ≤ n ∧ i = .int .i64 k ∧ Hid (wr.heap[w.heap.size]? = some (.cells (blk .u8 (pk (bs.take k) m)) 5 (0, 0))) ∧ Below w.heap.size w wr ∧ w.heap.size < wr.heap.size) (fun _ _ i _ => n - (intOf i).toNat)
  case atStart => exact ⟨0, by omega, rfl, hg0, bel0, hs0⟩
  case round =>
    clear bel0 hs0 hg0 hmk
    obtain ⟨k, hk, rfl, hg, bel, hs⟩ := hrel
    by_cases hlt : k < n
    · obtain ⟨b, o, rfl, hb1, hc1⟩ := (hr.below bel).at_ (i := k) (by have := hn'.out; omega)
      obtain ⟨v, hv⟩ : ∃ v, Hid (L.nth bs k = v) := ⟨_, Lib.hid rfl⟩
      rw [hv.out] at hc1
      cases v with
      | false =>
        have hg1 := hg
        rw [← pk_off bs k m hv.out] at hg1
        go_wp2
        go_roundw
        case rel => exact ⟨k + 1, by omega, by go_num, hg1, bel, hs⟩
        case measure => simp [intOf]; omega
      | true =>
        have hk8 := hne2.out k hlt
        have hlow := pk_low bs k
        have hor := or_bit _ k hlow
        have hc2 : wr.cell? ⟨w.heap.size, k / 8, none⟩ = some (.int .u8 ((bsum (bs.take k) (k / 8) 8 : Nat) : Int)) := by
          rw [cell_of_row wr w.heap.size (k / 8) _ _ _ hg.out, blk_get _ _ _ (by rw [pk_length]; exact hk8), pk_nth _ _ _ hk8]
        have hfz := block_frozen wr w.heap.size (k / 8) _ _ hg.out
        have hgd : wr.drew.heap[w.heap.size]? = some (.cells (blk .u8 (pk (bs.take k) m)) 5 (0, 0)) := hg.out
        have hnew := Lib.hid (block_setCell wr.drew w.heap.size (k / 8) .u8 5 _ ((bsum (bs.take k) (k / 8) 8 + 2 ^ (k % 8) : Nat) : Int) hgd)
        clear hgd
        rw [pk_on bs k m hk8 hv.out] at hnew
        have belD : Below w.heap.size w wr.drew := ⟨bel.os, bel.tape, bel.output, bel.size, bel.block⟩
        have bel2 : Below w.heap.size w (wr.drew.setCell ⟨w.heap.size, k / 8, none⟩ (.int .u8 ((bsum (bs.take k) (k / 8) 8 + 2 ^ (k % 8) : Nat) : Int))) := belD.setCell (Nat.le_refl _) _
        clear belD
        have hs2 : w.heap.size < (wr.drew.setCell ⟨w.heap.size, k / 8, none⟩ (.int .u8 ((bsum (bs.take k) (k / 8) 8 + 2 ^ (k % 8) : Nat) : Int))).heap.size := by simpa [World.setCell] using hs
        obtain ⟨z, hz⟩ : ∃ z : Int, Hid (((bsum (bs.take k) (k / 8) 8 + 2 ^ (k % 8) : Nat) : Int) = z) := ⟨_, Lib.hid rfl⟩
        rw [hz.out] at hnew bel2 hs2 hor
        generalize bsum (bs.take k) (k / 8) 8 = a at *
        obtain ⟨j, hj⟩ : ∃ j, k / 8 = j := ⟨_, rfl⟩
        rw [hj] at hc2 hfz hnew bel2 hs2 hk8
        have e1 : (k : Int) / 8 = (j : Int) := by omega
        have e2 : (j : Int) < (m : Int) := by omega
        have e3 : (k : Int).tdiv 8 = (j : Int) := by rw [Int.tdiv_eq_ediv_of_nonneg (by omega)]; omega
        have e4 : (0 : Int) ≤ (j : Int) := by omega
        have e5 : IntKind.i64.wrap (j : Int) = (j : Int) := IntWalk.i64_in _ (by omega)
        clear hj hlow hg
        go_wp2
        go_region_law ((go_simp; go_at_call 80; refine (weight_any _ _ (by omega)).mono ?_; rintro e w' ⟨rfl, rfl⟩))
        all_goals
          go_wp2
          go_roundw
          case rel => exact ⟨k + 1, by omega, by go_num, hnew, bel2, hs2⟩
          case measure => simp [intOf]; omega
    · obtain rfl : k = n := by omega
      have hx : bs.take k = bs := List.take_of_length_le (by have := hn'.out; omega)
      rw [hx] at hg
      clear hx
      go_wp2
      go_ret
      exact ⟨rfl, hg.out, bel⟩

/-- What Unbits tells: the bits, and the error. -/
def unbitsE (ys : List Int) (n : Int) : Int := if n < 0 then 3 else if ys.length ≠ need n.toNat then 22 else if spareB ys n.toNat = true then 4 else 0
def unbitsL (ys : List Int) (n : Int) : List Bool := if n < 0 then [] else if ys.length ≠ need n.toNat then [] else if spareB ys n.toNat = true then [] else unpk ys n.toNat
theorem Unbits_neg (A : Option Addr) (m c : Nat) (n : Int) (w : World) (h : n < 0) :
    Calls Try.prog 82 #[.slice A m c, .int .i64 n] w (Errs 3 w) := by
  go_enter Try.func82, Try.ntmps82
  go_wp2
  go_ret2
  exact ⟨rfl, rfl⟩
theorem Unbits_count (A : Option Addr) (m c n : Nat) (w : World) (hn : n < 9223372036854775808) (hm : m ≤ 1000000) (h : m ≠ need n) :
    Calls Try.prog 82 #[.slice A m c, .int .i64 n] w (Errs 22 w) := by
  obtain ⟨d, hd⟩ : ∃ d, Hid (need n = d) := ⟨_, Lib.hid rfl⟩
  rw [hd.out] at h
  have h1 : ((m : Int) != (d : Int)) = true := by simp; omega
  have h2 : ((m : Int) == (d : Int)) = false := beq_false_of_ne (by omega)
  clear h
  go_enter Try.func82, Try.ntmps82
  go_wp2_with (go_at_call 79; refine (bytesOf_any n _ hn).mono ?_; rintro e w' ⟨rfl, rfl⟩; rw [hd.out])
  go_ret2
  exact ⟨rfl, rfl⟩
theorem need_le (n m : Nat) (h : m = need n) : n ≤ 8 * m := by unfold need at h; omega
theorem Unbits_spare (A : Option Addr) (m c n : Nat) (ys : List Int) (w : World) (B : Nat) (hr : Row .u8 w B A ys) (hy : ys.length = m) (hm : m ≤ 1000000) (h : m = need n) (hs : spareB ys n = true) :
    Calls Try.prog 82 #[.slice A m c, .int .i64 n] w fun e w' => e = .returned (.tuple #[.slice none 0 0, .int .i64 4]) ∧ ∃ q, w' = w.drewN q := by
  have hle := need_le n m h
  have HM := Lib.hid h.symm
  have HY := Lib.hid hy
  have HS := Lib.hid hs
  clear h hy hs
  go_enter Try.func82, Try.ntmps82
  go_wp2_with fail
  refine (bytesOf_any n _ (by omega)).mono ?_
  rintro e w' ⟨rfl, rfl⟩
  rw [HM.out]
  go_wp2_with fail
  refine (hasSpare_any _ _ _ n ys _ B hr HY.out hm hle).mono ?_
  rintro e w' ⟨rfl, q, rfl⟩
  rw [HS.out]
  go_wp2
  go_ret2
  exact ⟨rfl, q, rfl⟩
set_option maxHeartbeats 1000000 in
theorem Unbits_ok (A : Option Addr) (m c n : Nat) (ys : List Int) (w : World) (hr : Row .u8 w w.heap.size A ys) (hy : ys.length = m) (hm : m ≤ 1000000) (h : m = need n) (hs : spareB ys n = false) :
    Calls Try.prog 82 #[.slice A m c, .int .i64 n] w fun e w' => ∃ g, Hid (w.heap.size = g) ∧ e = .returned (.tuple #[.slice (some ⟨g, 0, none⟩) n n, .int .i64 0]) ∧ L.Bk w' g (unpk ys n) ∧ Below w.heap.size w w' := by
  have hle := need_le n m h
  have HM := Lib.hid h.symm
  have HY := Lib.hid hy
  have HS := Lib.hid hs
  clear h hy hs
  have hmk := L.make_bool n (by omega)
  go_enter Try.func82, Try.ntmps82
  go_wp2_with fail
  refine (bytesOf_any n _ (by omega)).mono ?_
  rintro e w' ⟨rfl, rfl⟩
  rw [HM.out]
  go_wp2_with fail
  refine (hasSpare_any _ _ _ n ys _ _ hr HY.out hm hle).mono ?_
  rintro e w' ⟨rfl, q, rfl⟩
  rw [HS.out]
  have bel1 := bel_drewN w q
  have hz1 : Hid ((w.drewN q).heap.size = w.heap.size) := Lib.hid rfl
  have hg0 : Hid (((w.drewN q).alloc (.cells (L.blk () (List.replicate n false)) 4)).heap[(w.drewN q).heap.size]? = some (.cells (L.blk () (unpk ys 0 ++ List.replicate (n - 0) false)) 4 (0, 0))) := Lib.hid (heap_alloc_new _ _)
  have bel2 : Below w.heap.size w ((w.drewN q).alloc (.cells (L.blk () (List.replicate n false)) 4)) := bel1.alloc (Nat.le_refl _) _
  have hs2 : (w.drewN q).heap.size < ((w.drewN q).alloc (.cells (L.blk () (List.replicate n false)) 4)).heap.size := by simp
  clear bel1
  generalize w.drewN q = w1 at *
  go_wp2
  clear hmk
  generalize w1.heap.size = g at *
  obtain ⟨wo, hwo⟩ : ∃ wo : World, wo = w1.alloc (.cells (L.blk () (List.replicate n false)) 4) := ⟨_, rfl⟩
  rw [← hwo] at hg0 bel2 hs2 ⊢
  clear hwo
  go_loopw [7, 21] (fun _ i wr => ∃ k : Nat, k ≤ n ∧ i = .int .i64 k ∧ Hid (wr.heap[g]? = some (.cells (L.blk () (unpk ys k ++ List.replicate (n - k) false)) 4 (0, 0))) ∧ Below w.heap.size w wr ∧ g < wr.heap.size) (fun _ i _ => n - (intOf i).toNat)
  case atStart => exact ⟨0, by omega, rfl, hg0, bel2, hs2⟩
  case round =>
    clear hg0 bel2 hs2
    obtain ⟨k, hk, rfl, hg, bel, hs⟩ := hrel
    by_cases hlt : k < n
    · have hl : (unpk ys k).length = k := unpk_length ys k
      have hfc := L.fill_cell () (unpk ys k) (n - k) k false hl (by omega)
      have HS1 := L.set_step (unpk ys k) (n - (k + 1)) k false (bitAt ys k) hl
      rw [show n - (k + 1) + 1 = n - k by omega, ← unpk_step] at HS1
      go_wp2_with fail
      refine (isOn_any _ _ _ k ys _ _ (hr.below bel) HY.out hm (by omega)).mono ?_
      rintro e w' ⟨rfl, q2, rfl⟩
      have hg2 : (wr.drewN q2).heap[g]? = some (.cells (L.blk () (unpk ys k ++ List.replicate (n - k) false)) 4 (0, 0)) := hg.out
      have bel2 := below_drewN bel q2
      have hs2 : g < (wr.drewN q2).heap.size := hs
      clear hg bel hs
      generalize wr.drewN q2 = w2 at *
      have hc : w2.cell? ⟨g, k, none⟩ = some (.bool false) := (cell_of_row w2 g k _ _ _ hg2).trans hfc
      have hfz := L.block_frozen w2 g k _ _ hg2
      have hnew := L.block_setCell w2 g k () 4 _ (bitAt ys k) hg2
      rw [HS1] at hnew
      have HN := Lib.hid hnew
      have bel3 : Below w.heap.size w (w2.setCell ⟨g, k, none⟩ (.bool (bitAt ys k))) := bel2.setCell (Nat.le_of_eq hz1.out.symm) _
      have hs3 : g < (w2.setCell ⟨g, k, none⟩ (.bool (bitAt ys k))).heap.size := by simpa [World.setCell] using hs2
      generalize bitAt ys k = v at *
      clear hnew hg2 bel2 hs2 hfc HS1 hl
      go_wp2
      go_roundw
      case rel => exact ⟨k + 1, by omega, by go_num, HN, bel3, hs3⟩
      case measure => simp [intOf]; omega
    · obtain rfl : k = n := by omega
      have hf := hg.out
      rw [Nat.sub_self, List.replicate_zero, List.append_nil] at hf
      have HF : L.Bk wr g (unpk ys k) := hf
      clear hf hg
      have HZ := Lib.hid hz1.out.symm
      go_wp2
      go_ret2
      exact ⟨g, HZ, rfl, HF, bel⟩
theorem unbitsL_le (ys : List Int) (n : Int) (h : ys.length ≤ 1000000) : (unbitsL ys n).length ≤ 8000000 := by
  unfold unbitsL
  split
  · simp
  · split
    · simp
    · split
      · simp
      · rename_i h2 _
        have := need_le n.toNat ys.length (Decidable.not_not.1 h2)
        rw [unpk_length]; omega
theorem Unbits_any (A : Option Addr) (m c : Nat) (n : Int) (ys : List Int) (w : World) (hr : Row .u8 w w.heap.size A ys) (hy : ys.length = m) (hm : m ≤ 1000000) (hn : (Lit.int .i64 n).wf = true) :
    Calls Try.prog 82 #[.slice A m c, .int .i64 n] w (L.Gives w (unbitsL ys n) (unbitsE ys n)) := by
  subst hy
  by_cases h1 : n < 0
  · rw [unbitsL, unbitsE, if_pos h1, if_pos h1]
    exact (Unbits_neg _ _ _ _ _ h1).mono fun e w' ⟨he, hw⟩ => by subst hw; exact ⟨_, _, he, rfl, .inl ⟨rfl, rfl⟩, Below.refl _ _⟩
  · have hn2 := wf_i64 hn
    obtain ⟨n, rfl⟩ := Int.eq_ofNat_of_zero_le (show 0 ≤ n by omega)
    have hn3 : n < 9223372036854775808 := Int.ofNat_lt.1 hn2.2
    rw [unbitsL, unbitsE, if_neg h1, if_neg h1, Int.toNat_natCast]
    by_cases h2 : ys.length ≠ need n
    · rw [if_pos h2, if_pos h2]
      exact (Unbits_count _ _ _ _ _ hn3 hm h2).mono fun e w' ⟨he, hw⟩ => by subst hw; exact ⟨_, _, he, rfl, .inl ⟨rfl, rfl⟩, Below.refl _ _⟩
    · rw [if_neg h2, if_neg h2]
      have h2 := Decidable.not_not.1 h2
      by_cases h3 : spareB ys n = true
      · rw [if_pos h3, if_pos h3]
        exact (Unbits_spare _ _ _ _ ys _ _ hr rfl hm h2 h3).mono fun e w' ⟨he, q, hw⟩ => by subst hw; exact ⟨_, _, he, rfl, .inl ⟨rfl, rfl⟩, bel_drewN _ _⟩
      · rw [if_neg h3, if_neg h3]
        exact (Unbits_ok _ _ _ _ ys _ hr rfl hm h2 (by simpa using h3)).mono fun e w' ⟨g, hg, he, hb, hbl⟩ => by
          have hg := hg.out
          subst hg
          exact ⟨_, _, he, unpk_length _ _, .inr ⟨rfl, by rw [List.append_nil]; exact hb⟩, hbl⟩
end Go.Proofs.Ytojjcmkadmofdaa
