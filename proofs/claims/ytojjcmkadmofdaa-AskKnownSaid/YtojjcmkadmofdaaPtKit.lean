/-
  Contracts of the functions of outstationkit on lists of parts of files. Such a list lies in memory as a row of integers, three a part.
-/
import Derived.Test.YtojjcmkadmofdaaRows
import Derived.Test.YtojjcmkadmofdaaPlain
import Derived.Test.YtojjcmkadmofdaaOwn
import Derived.Test.YtojjcmkadmofdaaBlock
namespace Go.Proofs.Ytojjcmkadmofdaa
open Go.RowKit
set_option linter.unusedVariables false

/-- The three cells of the k-th part. -/
theorem Row.three {w : World} {B : Nat} {A : Option Addr} {fl : List Int} (h : Row .i64 w B A fl) {k : Nat} (hk : 3 * k + 3 ≤ fl.length) :
    ∃ b o, A = some ⟨b, o, none⟩ ∧ b < B ∧ w.cell? ⟨b, o + k * 3, none⟩ = some (.int .i64 (nth fl (3 * k))) ∧ w.cell? ⟨b, o + k * 3 + 1, none⟩ = some (.int .i64 (nth fl (3 * k + 1))) ∧ w.cell? ⟨b, o + k * 3 + 2, none⟩ = some (.int .i64 (nth fl (3 * k + 2))) := by
  obtain ⟨b, o, e, hb, hc⟩ := h.2 (by omega)
  refine ⟨b, o, e, hb, ?_, ?_, ?_⟩
  · rw [Nat.mul_comm k 3]; exact hc _ (by omega)
  · rw [Nat.mul_comm k 3, Nat.add_assoc]; exact hc _ (by omega)
  · rw [Nat.mul_comm k 3, Nat.add_assoc]; exact hc _ (by omega)

/-- SameParts, where the lists are the same. -/
theorem same_yes_part (A A' : Option Addr) (n c c' : Nat) (fl : List Int) (w : World) (B B' : Nat) (hr : Row .i64 w B A fl) (hr' : Row .i64 w B' A' fl) (hn : fl.length = 3 * n) (hb : n ≤ 1000000) :
    Calls Try.prog 56 #[.slice A n c, .slice A' n c'] w fun e w' => e = .returned (.bool true) ∧ ∃ m, w' = w.drewN m := by
  have hn' := Lib.hid hn
  clear hn
  go_enter Try.func56, Try.ntmps56
  go_wp2
  go_loopw [5] (fun i wr => ∃ k nq : Nat, k ≤ n ∧ i = .int .i64 k ∧ wr = w.drewN nq) (fun i _ => n - (intOf i).toNat)
  case atStart => exact ⟨0, 0, by omega, rfl, rfl⟩
  case round =>
    obtain ⟨k, nq, hk, rfl, rfl⟩ := hrel
    by_cases hlt : k < n
    · obtain ⟨b, o, rfl, hb1, hc1, hc2, hc3⟩ := hr.three (k := k) (by have := hn'.out; omega)
      obtain ⟨b', o', rfl, hb1', hc1', hc2', hc3'⟩ := hr'.three (k := k) (by have := hn'.out; omega)
      have hlt' : (k : Int) < (n : Int) := by omega
      go_wp2
      go_quiet (fail)
      go_wp2
      go_roundw
      case rel => exact ⟨k + 1, _, by omega, by go_num, rfl⟩
      case measure => simp [intOf]; omega
    · go_wp2
      go_ret
      exact ⟨rfl, nq, rfl⟩

theorem info_part : (Try.prog.info? 47).map (fun i => (i.zero, i.size, i.bytes)) = some (some (.agg #[.int .i64 0, .int .i64 0, .int .i64 0]), 3, 24) := by kernel_rfl

theorem made_three (n : Nat) : madeCells (Value.agg #[.int .i64 0, .int .i64 0, .int .i64 0]).cells (n * 3) = blk .i64 (List.replicate (3 * n) 0) := by
  have hc : (Value.agg #[.int .i64 0, .int .i64 0, .int .i64 0]).cells = #[.int .i64 0, .int .i64 0, .int .i64 0] := rfl
  apply Array.ext
  · rw [size_madeCells, blk_size, List.length_replicate, Nat.mul_comm]
  · intro i h1 h2
    rw [blk_size, List.length_replicate] at h2
    have e1 : (blk .i64 (List.replicate (3 * n) 0))[i] = .int .i64 0 := by simp [blk]
    rw [e1]
    simp only [madeCells, Array.getElem_map, Array.getElem_range, hc]
    have h3 : i % (#[Value.int .i64 0, .int .i64 0, .int .i64 0] : Array Value).size = i % 3 := rfl
    rw [h3]
    rcases (show i % 3 = 0 ∨ i % 3 = 1 ∨ i % 3 = 2 by omega) with h | h | h <;> rw [h] <;> rfl

theorem make_part (n : Nat) (hn : n ≤ 1000000) (W : World) :
    (Instr.makeSlice 24 (.int .i64 (n : Int)) (.int .i64 (n : Int))).run Try.prog W = .ok (.slice (some ⟨W.heap.size, 0, none⟩) n n) (W.alloc (.cells (blk .i64 (List.replicate (3 * n) 0)) 47)) := by
  obtain ⟨i, hi, hz, hs, hb⟩ := info_parts info_part
  have h := run_make (P := Try.prog) W 24 47 i (.agg #[.int .i64 0, .int .i64 0, .int .i64 0]) Try.underlying24 hi hz .i64 .i64 n n (by omega) (by omega) (by rw [hb]; omega) (by omega)
  rw [h, hs, Int.toNat_natCast, made_three]

def marksP : List Int := [-77, 0, 0, -77, 0, 0, -77, 0, 0, -77, 0, 0, -77, 0, 0]

theorem take_three (xs : List Int) (k : Nat) (h : 3 * k + 3 ≤ xs.length) : xs.take (3 * (k + 1)) = xs.take (3 * k) ++ [nth xs (3 * k), nth xs (3 * k + 1), nth xs (3 * k + 2)] := by
  rw [show 3 * (k + 1) = 3 * k + 1 + 1 + 1 by omega, take_step _ _ (by omega), take_step _ _ (by omega), take_step _ _ (by omega)]
  simp
/-- Three places of what is filled up to 3 k are written. -/
theorem set_three (l : List Int) (m k : Nat) (x y z : Int) (h : l.length = 3 * k) (hm : 3 ≤ m) : (((l ++ List.replicate m 0).set (k * 3) x).set (k * 3 + 1) y).set (k * 3 + 2) z = l ++ [x, y, z] ++ List.replicate (m - 3) 0 := by
  obtain ⟨j, rfl⟩ : ∃ j, m = j + 3 := ⟨m - 3, by omega⟩
  rw [List.set_append_right _ _ (by omega), List.set_append_right _ _ (by omega), List.set_append_right _ _ (by omega), h, show k * 3 - 3 * k = 0 by omega, show k * 3 + 1 - 3 * k = 1 by omega, show k * 3 + 2 - 3 * k = 2 by omega]
  simp [List.replicate_succ]

theorem lent_part (A : Option Addr) (n c : Nat) (fl : List Int) (w : World) (hr : Row .i64 w w.heap.size A fl) (hn : fl.length = 3 * n) (hb : n ≤ 100000) : 
    Calls Try.prog 33 #[.slice A n c] w fun e w' => e = .returned (.slice (some ⟨w.heap.size, 0, none⟩) n (n+5)) ∧ w' = w.alloc (.cells (blk .i64 (fl ++ marksP)) 47) := by
  have hn' := Lib.hid hn
  clear hn
  have hmk := make_part (n + 5) (by omega)
  rw [show ((n + 5 : Nat) : Int) = (n : Int) + 5 by omega] at hmk
  go_enter Try.func33, Try.ntmps33
  go_wp2
  go_loopw [4] (fun i wr => ∃ (k : Nat) (L : List Int), k ≤ n ∧ i = .int .i64 k ∧ Hid (L = fl.take (3 * k) ++ List.replicate (3 * (n + 5 - k)) 0) ∧ wr = w.alloc (.cells (blk .i64 L) 47)) (fun i _ => n - (intOf i).toNat)
  case atStart => exact ⟨0, _, by omega, rfl, Lib.hid (by simp), rfl⟩
  case round =>
    obtain ⟨k, L, hk, rfl, hL, rfl⟩ := hrel
    by_cases hlt : k < n
    · obtain ⟨b, o, rfl, hb1, hc1, hc2, hc3⟩ := hr.three (k := k) (by have := hn'.out; omega)
      have hf : ∀ j, j < 3 → (blk .i64 L)[k * 3 + j]? = some (.int .i64 0) := fun j hj => by
        rw [hL.out, blk_get _ _ _ (by have := hn'.out; simp; omega), show k * 3 + j = (fl.take (3 * k)).length + j by have := hn'.out; simp; omega, nth_right, nth_replicate _ _ _ (by omega)]
      have hf0 : (blk .i64 L)[k * 3]? = some (.int .i64 0) := hf 0 (by omega)
      have hf1 := hf 1 (by omega)
      have hf2 := hf 2 (by omega)
      clear hf
      go_wp2
      go_roundw
      case rel => exact ⟨k + 1, _, by omega, by go_num, Lib.hid rfl, by
        rw [blk_set, blk_set, blk_set, hL.out, set_three _ _ k _ _ _ (by have := hn'.out; simp; omega) (by omega), take_three fl k (by have := hn'.out; omega), show 3 * (n + 5 - k) - 3 = 3 * (n + 5 - (k + 1)) by omega]⟩
      case measure => simp [intOf]; omega
    · obtain rfl : k = n := by omega
      have hx : fl.take (3 * k) = fl := List.take_of_length_le (by have := hn'.out; omega)
      have hL2 : Hid (L = fl ++ List.replicate 15 0) := Lib.hid (by rw [hL.out, hx, show 3 * (k + 5 - k) = 15 by omega])
      clear hx hlt hk hL
      go_wp2
      go_loopw [5] (fun i wr => ∃ (j : Nat) (L : List Int), j ≤ 5 ∧ i = .int .i64 (k + j : Nat) ∧ Hid (L = fl ++ marksP.take (3 * j) ++ List.replicate (3 * (5 - j)) 0) ∧ wr = w.alloc (.cells (blk .i64 L) 47)) (fun i _ => k + 5 - (intOf i).toNat)
      case atStart => exact ⟨0, _, by omega, rfl, Lib.hid (by rw [hL2.out]; simp), rfl⟩
      case round =>
        obtain ⟨j, L, hj, rfl, hL, rfl⟩ := hrel
        by_cases hlt : j < 5
        · have hlen : (fl ++ marksP.take (3 * j)).length = 3 * (k + j) := by have := hn'.out; simp [marksP]; omega
          have hf : ∀ i, i < 3 → (blk .i64 L)[(k + j) * 3 + i]? = some (.int .i64 0) := fun i hi => by
            rw [hL.out, blk_get _ _ _ (by rw [List.length_append, hlen]; simp; omega), show (k + j) * 3 + i = (fl ++ marksP.take (3 * j)).length + i by rw [hlen]; omega, nth_right, nth_replicate _ _ _ (by omega)]
          have hf0 : (blk .i64 L)[(k + j) * 3]? = some (.int .i64 0) := hf 0 (by omega)
          have hf1 := hf 1 (by omega)
          have hf2 := hf 2 (by omega)
          have HS := Lib.hid (set_three (fl ++ marksP.take (3 * j)) (3 * (5 - j)) (k + j) (-77) 0 0 hlen (by omega))
          have HM : Hid (marksP.take (3 * (j + 1)) = marksP.take (3 * j) ++ [-77, 0, 0]) := Lib.hid (by rcases j with _ | _ | _ | _ | _ | j <;> first | rfl | omega)
          clear hf hlen
          go_wp2
          go_roundw
          case rel => exact ⟨j + 1, _, by omega, by go_num, Lib.hid rfl, by
            rw [blk_set, blk_set, blk_set, hL.out, HS.out, HM.out, show 3 * (5 - j) - 3 = 3 * (5 - (j + 1)) by omega, List.append_assoc fl]⟩
          case measure => simp [intOf]; omega
        · obtain rfl : j = 5 := by omega
          go_wp2
          go_ret
          exact ⟨rfl, by rw [hL.out]; simp [marksP]⟩

/-- KeptParts, where the list is in memory of its own with its five marks behind it. -/
theorem kept_part (A : Option Addr) (n c g : Nat) (fl : List Int) (w : World) (B : Nat) (hr : Row .i64 w B A fl) (hn : fl.length = 3 * n) (hb : n ≤ 100000)
    (hg : w.heap[g]? = some (.cells (blk .i64 (fl ++ marksP)) 47 (0, 0))) :
    Calls Try.prog 49 #[.slice (some ⟨g, 0, none⟩) n (n + 5), .slice A n c] w fun e w' => e = .returned (.bool true) ∧ ∃ m, w' = w.drewN m := by
  have hcell : ∀ i, w.cell? ⟨g, i, none⟩ = (blk .i64 (fl ++ marksP))[i]? := fun i => cell_of_row w g i _ _ _ hg
  have hrow : Row .i64 w (g + 1) (some ⟨g, 0, none⟩) fl := by
    refine ⟨hr.1, fun _ => ⟨_, _, rfl, Nat.lt_succ_self _, fun i hi => ?_⟩⟩
    rw [Nat.zero_add, hcell, blk_get _ _ _ (by simp; omega), nth_left _ _ _ hi]
  have hmark : ∀ j, j < 15 → w.cell? ⟨g, n * 3 + j, none⟩ = some (.int .i64 (nth marksP j)) := by
    intro j hj
    rw [hcell, blk_get _ _ _ (by simp [marksP]; omega), show n * 3 + j = fl.length + j by omega, nth_right]
  have HM := Lib.hid hmark
  clear hcell hmark hg
  go_enter Try.func49, Try.ntmps49
  go_wp2_with (go_at_call 56; refine (same_yes_part _ _ _ _ _ fl _ _ _ hrow hr hn (by omega)).mono ?_; rintro e w' ⟨rfl, m, rfl⟩)
  go_loop [6] (fun i => ∃ j : Nat, j ≤ 5 ∧ i = .int .i64 (n + j : Nat)) (fun i => n + 5 - (intOf i).toNat)
  case atStart => exact ⟨0, by omega, rfl⟩
  case round =>
    obtain ⟨j, hj, rfl⟩ := hrel
    by_cases hlt : j < 5
    · have hc0 : w.cell? ⟨g, (n + j) * 3, none⟩ = some (.int .i64 (-77)) := by
        rw [show (n + j) * 3 = n * 3 + 3 * j by omega, HM.out (3 * j) (by omega)]
        rcases j with _ | _ | _ | _ | _ | j <;> first | rfl | omega
      have hc1 : w.cell? ⟨g, (n + j) * 3 + 1, none⟩ = some (.int .i64 0) := by
        rw [show (n + j) * 3 + 1 = n * 3 + (3 * j + 1) by omega, HM.out (3 * j + 1) (by omega)]
        rcases j with _ | _ | _ | _ | _ | j <;> first | rfl | omega
      have hc2 : w.cell? ⟨g, (n + j) * 3 + 2, none⟩ = some (.int .i64 0) := by
        rw [show (n + j) * 3 + 2 = n * 3 + (3 * j + 2) by omega, HM.out (3 * j + 2) (by omega)]
        rcases j with _ | _ | _ | _ | _ | j <;> first | rfl | omega
      go_wp2
      go_round
      case rel => exact ⟨j + 1, by omega, by go_num⟩
      case measure => simp [intOf]; omega
    · go_wp2
      go_ret
      exact ⟨rfl, m, rfl⟩
end Go.Proofs.Ytojjcmkadmofdaa
