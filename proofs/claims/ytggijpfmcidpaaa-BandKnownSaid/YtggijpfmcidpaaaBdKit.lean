/-
  Contracts of the functions of outstationkit on lists of points. Such a list lies in memory as a row of integers, two a point.
-/
import Derived.Test.YtggijpfmcidpaaaRows
import Derived.Test.YtggijpfmcidpaaaBdMath
import Derived.Test.YtggijpfmcidpaaaMore
import Derived.Laws.AppendOwn
namespace Go.Proofs.Ytggijpfmcidpaaa
open Go.RowKit
set_option linter.unusedVariables false

theorem flP_set (l : List Pt) (k : Nat) (x y : Int) (h : k < l.length) : ((flP l).set (k * 2) x).set (k * 2 + 1) y = flP (l.set k (x, y)) := by
  induction l generalizing k with
  | nil => simp at h
  | cons p l ih =>
    cases k with
    | zero => rfl
    | succ k =>
      have hk : k < l.length := by simpa using h
      rw [List.set_cons_succ, flP_cons, flP_cons, show (k + 1) * 2 + 1 = k * 2 + 1 + 1 + 1 by omega, show (k + 1) * 2 = k * 2 + 1 + 1 by omega, List.set_cons_succ, List.set_cons_succ, List.set_cons_succ, List.set_cons_succ, ih k hk]
theorem blkP_x (l : List Pt) (k : Nat) (h : k < l.length) : (blk .i64 (flP l))[k * 2]? = some (.int .i64 (ptX l k)) := by
  rw [blk_get _ _ _ (by rw [flP_len]; omega), Nat.mul_comm, flP_x]
theorem blkP_y (l : List Pt) (k : Nat) (h : k < l.length) : (blk .i64 (flP l))[k * 2 + 1]? = some (.int .i64 (ptY l k)) := by
  rw [blk_get _ _ _ (by rw [flP_len]; omega), Nat.mul_comm, flP_y]
theorem ptX_left (l m : List Pt) (k : Nat) (h : k < l.length) : ptX (l ++ m) k = ptX l k := by simp [ptX, List.getD_eq_getElem?_getD, List.getElem?_append_left h]
theorem ptY_left (l m : List Pt) (k : Nat) (h : k < l.length) : ptY (l ++ m) k = ptY l k := by simp [ptY, List.getD_eq_getElem?_getD, List.getElem?_append_left h]
theorem set_pt (l m : List Pt) (k : Nat) (p q : Pt) (h : l.length = k) : (l ++ q :: m).set k p = l ++ p :: m := by
  rw [List.set_append_right _ _ (by omega), h, Nat.sub_self]; rfl

/-- The two cells of the k-th point. -/
theorem Row.pt {w : World} {B : Nat} {A : Option Addr} {l : List Pt} (h : Row .i64 w B A (flP l)) {k : Nat} (hk : k < l.length) :
    ∃ b o, A = some ⟨b, o, none⟩ ∧ b < B ∧ w.cell? ⟨b, o + k * 2, none⟩ = some (.int .i64 (ptX l k)) ∧ w.cell? ⟨b, o + k * 2 + 1, none⟩ = some (.int .i64 (ptY l k)) := by
  have hl := flP_len l
  obtain ⟨b, o, e, hb, hc⟩ := h.2 (by omega)
  refine ⟨b, o, e, hb, ?_, ?_⟩
  · rw [Nat.mul_comm k 2, ← flP_x]; exact hc _ (by omega)
  · rw [Nat.mul_comm k 2, Nat.add_assoc, ← flP_y]; exact hc _ (by omega)
theorem Row.pts_of_block {w : World} {g : Nat} {t : TypeId} {l m : List Pt} (hg : w.heap[g]? = some (.cells (blk .i64 (flP (l ++ m))) t (0, 0))) (hw : ∀ p ∈ l, Pt.Ok p) : Row .i64 w w.heap.size (some ⟨g, 0, none⟩) (flP l) :=
  (Row.of_block hg (flP l) (flP_wf hw) (by rw [flP_append]; exact List.prefix_append _ _)).more (block_lt hg)

/-- SamePoints, where the lists are the same. -/
theorem same_yes_pt (A A' : Option Addr) (n c c' : Nat) (l : List Pt) (w : World) (B B' : Nat) (hr : Row .i64 w B A (flP l)) (hr' : Row .i64 w B' A' (flP l)) (hn : l.length = n) (hb : n ≤ 4611686018427387904) :
    Calls Try.prog 15 #[.slice A n c, .slice A' n c'] w fun e w' => e = .returned (.bool true) ∧ ∃ m, w' = w.drewN m := by
  have hn' := Lib.hid hn
  clear hn
  go_enter Try.func15, Try.ntmps15
  go_wp2
  go_loopw [5] (fun i wr => ∃ k nq : Nat, k ≤ n ∧ i = .int .i64 k ∧ wr = w.drewN nq) (fun i _ => n - (intOf i).toNat)
  case atStart => exact ⟨0, 0, by omega, rfl, rfl⟩
  case round =>
    obtain ⟨k, nq, hk, rfl, rfl⟩ := hrel
    by_cases hlt : k < n
    · obtain ⟨b, o, rfl, hb1, hc1, hc2⟩ := hr.pt (k := k) (by have := hn'.out; omega)
      obtain ⟨b', o', rfl, hb1', hc1', hc2'⟩ := hr'.pt (k := k) (by have := hn'.out; omega)
      have hlt' : (k : Int) < (n : Int) := by omega
      go_wp2
      go_quiet (fail)
      go_wp2
      go_roundw
      case rel => exact ⟨k + 1, _, by omega, by go_num, rfl⟩
      case measure => simp [intOf]; omega
    · go_wp2
      go_ret
      exact ⟨rfl, nq, rfl⟩

theorem info_pt : (Try.prog.info? 27).map (fun i => (i.zero, i.size, i.bytes)) = some (some (.agg #[.int .i64 0, .int .i64 0]), 2, 16) := by kernel_rfl
def zeroP (n : Nat) : List Pt := List.replicate n (0, 0)
theorem zeroP_succ (n : Nat) : zeroP (n + 1) = (0, 0) :: zeroP n := List.replicate_succ
theorem flP_zero (n : Nat) : flP (zeroP n) = List.replicate (2 * n) 0 := by
  induction n with
  | zero => rfl
  | succ n ih => rw [zeroP_succ, flP_cons, ih, show 2 * (n + 1) = 2 * n + 1 + 1 by omega, List.replicate_succ, List.replicate_succ]
theorem zeroP_len (n : Nat) : (zeroP n).length = n := by simp [zeroP]
theorem made_two (n : Nat) : madeCells (Value.agg #[.int .i64 0, .int .i64 0]).cells (n * 2) = blk .i64 (flP (zeroP n)) := by
  rw [flP_zero]
  have hc : (Value.agg #[.int .i64 0, .int .i64 0]).cells = #[.int .i64 0, .int .i64 0] := rfl
  apply Array.ext
  · rw [size_madeCells, blk_size, List.length_replicate, Nat.mul_comm]
  · intro i h1 h2
    rw [blk_size, List.length_replicate] at h2
    have e1 : (blk .i64 (List.replicate (2 * n) 0))[i] = .int .i64 0 := by simp [blk]
    rw [e1]
    simp only [madeCells, Array.getElem_map, Array.getElem_range, hc]
    have h3 : i % (#[Value.int .i64 0, .int .i64 0] : Array Value).size = i % 2 := rfl
    rw [h3]
    rcases (show i % 2 = 0 ∨ i % 2 = 1 by omega) with h | h <;> rw [h] <;> rfl
theorem zero_two (m : Nat) : Builtin.zeroCells (Value.agg #[.int .i64 0, .int .i64 0]).cells m = blk .i64 (flP (zeroP m)) := by
  rw [← made_two m]; rfl
theorem make_pt (n : Nat) (hn : n * 16 ≤ 140737488355328) (W : World) :
    (Instr.makeSlice 33 (.int .i64 (n : Int)) (.int .i64 (n : Int))).run Try.prog W = .ok (.slice (some ⟨W.heap.size, 0, none⟩) n n) (W.alloc (.cells (blk .i64 (flP (zeroP n))) 27)) := by
  obtain ⟨i, hi, hz, hs, hb⟩ := info_parts info_pt
  have h := run_make (P := Try.prog) W 33 27 i (.agg #[.int .i64 0, .int .i64 0]) Try.underlying33 hi hz .i64 .i64 n n (by omega) (by omega) (by rw [hb]; omega) (by omega)
  rw [h, hs, Int.toNat_natCast, made_two]

def marksT : List Pt := [(-77, -77), (-77, -77), (-77, -77), (-77, -77), (-77, -77)]

theorem lent_pt (A : Option Addr) (n c : Nat) (l : List Pt) (w : World) (hr : Row .i64 w w.heap.size A (flP l)) (hn : l.length = n) (hb : (n + 5) * 16 ≤ 140737488355328) : 
    Calls Try.prog 13 #[.slice A n c] w fun e w' => e = .returned (.slice (some ⟨w.heap.size, 0, none⟩) n (n+5)) ∧ w' = w.alloc (.cells (blk .i64 (flP (l ++ marksT))) 27) := by
  have hn' := Lib.hid hn
  clear hn
  have hmk := make_pt (n + 5) hb
  rw [show ((n + 5 : Nat) : Int) = (n : Int) + 5 by omega] at hmk
  go_enter Try.func13, Try.ntmps13
  go_wp2
  go_loopw [4] (fun i wr => ∃ (k : Nat) (L : List Int), k ≤ n ∧ i = .int .i64 k ∧ Hid (L = flP (l.take k ++ zeroP (n + 5 - k))) ∧ wr = w.alloc (.cells (blk .i64 L) 27)) (fun i _ => n - (intOf i).toNat)
  case atStart => exact ⟨0, _, by omega, rfl, Lib.hid (by simp), rfl⟩
  case round =>
    obtain ⟨k, L, hk, rfl, hL, rfl⟩ := hrel
    by_cases hlt : k < n
    · obtain ⟨b, o, rfl, hb1, hc1, hc2⟩ := hr.pt (k := k) (by have := hn'.out; omega)
      have hlen : k < (l.take k ++ zeroP (n + 5 - k)).length := by have := hn'.out; rw [List.length_append, zeroP_len, List.length_take]; omega
      have hf0 : (blk .i64 L)[k * 2]? = some (.int .i64 (ptX (l.take k ++ zeroP (n + 5 - k)) k)) := by rw [hL.out]; exact blkP_x _ _ hlen
      have hf1 : (blk .i64 L)[k * 2 + 1]? = some (.int .i64 (ptY (l.take k ++ zeroP (n + 5 - k)) k)) := by rw [hL.out]; exact blkP_y _ _ hlen
      have HL := Lib.hid hlen
      clear hlen
      go_wp2
      go_roundw
      case rel => exact ⟨k + 1, _, by omega, by go_num, Lib.hid rfl, by
        rw [blk_set, blk_set, hL.out, flP_set _ _ _ _ HL.out, takeP_step l k (by have := hn'.out; omega), show n + 5 - k = (n + 5 - (k + 1)) + 1 by omega, zeroP_succ, set_pt _ _ _ _ _ (by have := hn'.out; rw [List.length_take]; omega), List.append_assoc]; rfl⟩
      case measure => simp [intOf]; omega
    · obtain rfl : k = n := by omega
      have hx : l.take k = l := List.take_of_length_le (by have := hn'.out; omega)
      have hL2 : Hid (L = flP (l ++ zeroP 5)) := Lib.hid (by rw [hL.out, hx, show k + 5 - k = 5 by omega])
      clear hx hlt hk hL
      go_wp2
      go_loopw [5] (fun i wr => ∃ (j : Nat) (L : List Int), j ≤ 5 ∧ i = .int .i64 (k + j : Nat) ∧ Hid (L = flP (l ++ marksT.take j ++ zeroP (5 - j))) ∧ wr = w.alloc (.cells (blk .i64 L) 27)) (fun i _ => k + 5 - (intOf i).toNat)
      case atStart => exact ⟨0, _, by omega, rfl, Lib.hid (by rw [hL2.out]; simp), rfl⟩
      case round =>
        obtain ⟨j, L, hj, rfl, hL, rfl⟩ := hrel
        by_cases hlt : j < 5
        · have hlen : (l ++ marksT.take j).length = k + j := by have := hn'.out; rw [List.length_append, List.length_take]; simp [marksT]; omega
          have hlen2 : k + j < (l ++ marksT.take j ++ zeroP (5 - j)).length := by rw [List.length_append, hlen, zeroP_len]; omega
          have hf0 : (blk .i64 L)[(k + j) * 2]? = some (.int .i64 (ptX (l ++ marksT.take j ++ zeroP (5 - j)) (k + j))) := by rw [hL.out]; exact blkP_x _ _ hlen2
          have hf1 : (blk .i64 L)[(k + j) * 2 + 1]? = some (.int .i64 (ptY (l ++ marksT.take j ++ zeroP (5 - j)) (k + j))) := by rw [hL.out]; exact blkP_y _ _ hlen2
          have HL := Lib.hid hlen
          have HL2 := Lib.hid hlen2
          have HM : Hid (marksT.take (j + 1) = marksT.take j ++ [(-77, -77)]) := Lib.hid (by rcases j with _ | _ | _ | _ | _ | j <;> first | rfl | omega)
          clear hlen hlen2
          go_wp2
          go_roundw
          case rel => exact ⟨j + 1, _, by omega, by go_num, Lib.hid rfl, by
            rw [blk_set, blk_set, hL.out, flP_set _ _ _ _ HL2.out, HM.out, show 5 - j = (5 - (j + 1)) + 1 by omega, zeroP_succ, set_pt _ _ _ _ _ HL.out]; simp⟩
          case measure => simp [intOf]; omega
        · obtain rfl : j = 5 := by omega
          go_wp2
          go_ret
          exact ⟨rfl, by rw [hL.out]; simp [marksT, zeroP]⟩

theorem marks_pt (j : Nat) (h : j < 5) : ptX marksT j = -77 ∧ ptY marksT j = -77 := by rcases j with _ | _ | _ | _ | _ | j <;> first | exact ⟨rfl, rfl⟩ | omega
theorem ptX_right (l m : List Pt) (i : Nat) : ptX (l ++ m) (l.length + i) = ptX m i := by simp [ptX, List.getD_eq_getElem?_getD, List.getElem?_append_right]
theorem ptY_right (l m : List Pt) (i : Nat) : ptY (l ++ m) (l.length + i) = ptY m i := by simp [ptY, List.getD_eq_getElem?_getD, List.getElem?_append_right]

/-- KeptPoints, where the list is in memory of its own with its five marks behind it. -/
theorem kept_pt (A : Option Addr) (n c g : Nat) (l : List Pt) (w : World) (B : Nat) (hr : Row .i64 w B A (flP l)) (hn : l.length = n) (hb : n ≤ 1152921504606846976)
    (hg : w.heap[g]? = some (.cells (blk .i64 (flP (l ++ marksT))) 27 (0, 0))) :
    Calls Try.prog 17 #[.slice (some ⟨g, 0, none⟩) n (n + 5), .slice A n c] w fun e w' => e = .returned (.bool true) ∧ ∃ m, w' = w.drewN m := by
  have hrow : Row .i64 w w.heap.size (some ⟨g, 0, none⟩) (flP l) := Row.pts_of_block hg (flP_ok hr.1)
  have hmark : ∀ j, j < 5 → w.cell? ⟨g, (n + j) * 2, none⟩ = some (.int .i64 (-77)) ∧ w.cell? ⟨g, (n + j) * 2 + 1, none⟩ = some (.int .i64 (-77)) := by
    intro j hj
    have hk : n + j < (l ++ marksT).length := by rw [List.length_append, hn]; simp [marksT]; omega
    obtain ⟨m1, m2⟩ := marks_pt j hj
    refine ⟨?_, ?_⟩
    · rw [cell_of_row w g _ _ _ _ hg, blkP_x _ _ hk, ← hn, ptX_right, m1]
    · rw [cell_of_row w g _ _ _ _ hg, blkP_y _ _ hk, ← hn, ptY_right, m2]
  have HM := Lib.hid hmark
  clear hmark hg
  go_enter Try.func17, Try.ntmps17
  go_wp2_with (go_at_call 15; refine (same_yes_pt _ _ _ _ _ l _ _ _ hrow hr hn (by omega)).mono ?_; rintro e w' ⟨rfl, m, rfl⟩)
  go_loop [6] (fun i => ∃ j : Nat, j ≤ 5 ∧ i = .int .i64 (n + j : Nat)) (fun i => n + 5 - (intOf i).toNat)
  case atStart => exact ⟨0, by omega, rfl⟩
  case round =>
    obtain ⟨j, hj, rfl⟩ := hrel
    by_cases hlt : j < 5
    · obtain ⟨hc0, hc1⟩ := HM.out j hlt
      go_wp2
      go_round
      case rel => exact ⟨j + 1, by omega, by go_num⟩
      case measure => simp [intOf]; omega
    · go_wp2
      go_ret
      exact ⟨rfl, m, rfl⟩
end Go.Proofs.Ytggijpfmcidpaaa
