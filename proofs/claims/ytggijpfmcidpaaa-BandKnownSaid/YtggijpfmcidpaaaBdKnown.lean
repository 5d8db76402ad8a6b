/-
  The statements' own functions of layer 7: far, points, known.
-/
import Derived.Test.YtggijpfmcidpaaaBdRun
import Derived.Test.YtggijpfmcidpaaaHeld
namespace Go.Proofs.Ytggijpfmcidpaaa
open Go.RowKit
set_option linter.unusedVariables false

theorem farB_lo (d a b : Int) : farB d a b = farB d b a := by unfold farB distI; rw [show max a b - min a b = max b a - min b a by omega]
theorem far_any (a b d : Int) (ha : (-9223372036854775808 ≤ a ∧ a < 9223372036854775808)) (hb : (-9223372036854775808 ≤ b ∧ b < 9223372036854775808)) (hd : (-9223372036854775808 ≤ d ∧ d < 9223372036854775808)) (w : World) : Calls Try.prog 20 #[.int .i64 a, .int .i64 b, .int .i64 d] w fun e w' => e = .returned (.bool (farB d a b)) ∧ w' = w := by
  rcases Int.lt_or_le d 0 with h | h
  · by_cases h2 : a < b
    · have e3 := sub_uint b a hb ha (by omega)
      have hf : Hid (farB d a b = decide (0 < b - a)) := Lib.hid (by rw [farB_neg a b h, distI_lo (by omega)])
      go_enter Try.func20, Try.ntmps20
      go_wp2
      all_goals (go_ret; refine ⟨?_, rfl⟩; rw [hf.out]; first | rfl | exact congrArg (fun z => Ending.returned (Value.bool z)) (decide_eq_decide.2 (by omega)) | exact congrArg (fun z => Ending.returned (Value.bool z)) (decide_eq_true (by omega)).symm | exact congrArg (fun z => Ending.returned (Value.bool z)) (decide_eq_false (by omega)).symm)
    · have e3 := sub_uint a b ha hb (by omega)
      have hf : Hid (farB d a b = decide (0 < a - b)) := Lib.hid (by rw [farB_neg a b h, distI_hi (by omega)])
      go_enter Try.func20, Try.ntmps20
      go_wp2
      all_goals (go_ret; refine ⟨?_, rfl⟩; rw [hf.out]; first | rfl | exact congrArg (fun z => Ending.returned (Value.bool z)) (decide_eq_decide.2 (by omega)) | exact congrArg (fun z => Ending.returned (Value.bool z)) (decide_eq_true (by omega)).symm | exact congrArg (fun z => Ending.returned (Value.bool z)) (decide_eq_false (by omega)).symm)
  · by_cases h2 : a < b
    · have e3 := sub_uint b a hb ha (by omega)
      have hf : Hid (farB d a b = decide (d < b - a)) := Lib.hid (by rw [farB_pos a b h, distI_lo (by omega)])
      go_enter Try.func20, Try.ntmps20
      go_wp2
      all_goals (go_ret; refine ⟨?_, rfl⟩; rw [hf.out]; first | rfl | exact congrArg (fun z => Ending.returned (Value.bool z)) (decide_eq_decide.2 (by omega)) | exact congrArg (fun z => Ending.returned (Value.bool z)) (decide_eq_true (by omega)).symm | exact congrArg (fun z => Ending.returned (Value.bool z)) (decide_eq_false (by omega)).symm)
    · have e3 := sub_uint a b ha hb (by omega)
      have hf : Hid (farB d a b = decide (d < a - b)) := Lib.hid (by rw [farB_pos a b h, distI_hi (by omega)])
      go_enter Try.func20, Try.ntmps20
      go_wp2
      all_goals (go_ret; refine ⟨?_, rfl⟩; rw [hf.out]; first | rfl | exact congrArg (fun z => Ending.returned (Value.bool z)) (decide_eq_decide.2 (by omega)) | exact congrArg (fun z => Ending.returned (Value.bool z)) (decide_eq_true (by omega)).symm | exact congrArg (fun z => Ending.returned (Value.bool z)) (decide_eq_false (by omega)).symm)

/-- Values at the times 0, 1, 2 and so on. -/
def idxP (k : Nat) (xs : List Int) : List Pt := (List.range k).map fun i => (nth xs i, (i : Int))
theorem idxP_succ (k : Nat) (xs : List Int) : idxP (k + 1) xs = idxP k xs ++ [(nth xs k, (k : Int))] := by simp [idxP, List.range_succ]
theorem idxP_len (k : Nat) (xs : List Int) : (idxP k xs).length = k := by simp [idxP]
set_option maxHeartbeats 400000 in
theorem points_any (A : Option Addr) (n c : Nat) (xs : List Int) (w : World) (hr : Row .i64 w w.heap.size A xs) (hn : xs.length = n) (hb : n * 16 ≤ 140737488355328) :
    Calls Try.prog 26 #[.slice A n c] w (MakesT w (idxP n xs)) := by
  have hn' := Lib.hid hn
  clear hn
  go_enter Try.func26, Try.ntmps26
  go_wp2
  go_loopw [3, 4] (fun v i wr => ∃ k : Nat, k ≤ n ∧ i = .int .i64 k ∧ PtOwn 27 wr w.heap.size v (idxP k xs) ∧ Below w.heap.size w wr) (fun _ i _ => n - (intOf i).toNat)
  case atStart => exact ⟨0, by omega, rfl, PtOwn.nil _ _ _, Below.refl _ _⟩
  case round =>
    obtain ⟨k, hk, rfl, hown, hbel⟩ := hrel
    by_cases hlt : k < n
    · obtain ⟨b, o, rfl, hb1, hc1⟩ := (hr.below hbel).at_ (i := k) (by have := hn'.out; omega)
      have hl : Hid (((idxP k xs).length + 1) * 16 ≤ 140737488355328) := Lib.hid (by rw [idxP_len]; omega)
      have hbox := box_two wr 27 (nth xs k) k
      have hsz := hbel.size
      have HT := Lib.hid (idxP_succ k xs)
      go_wp2_with (at_builtin; refine wpList_append_pt _ rfl _ _ 33 rfl w.heap.size 27 Try.underlying33 info_pt _ (idxP k xs) rfl (hown.alloc _) _ 1 _ _ rfl hbox hl.out (by simp; omega) ?_; intro v1 w1 hown1 hg1)
      have hbel1 := Below.ptown1 hbel hsz hown hg1
      rw [← HT.out] at hown1
      clear hbox hc1 hg1 hown
      go_wp2
      go_roundw
      case rel => exact ⟨k + 1, by omega, by go_num, hown1, hbel1⟩
      case measure => simp [intOf]; omega
    · obtain rfl : k = n := by omega
      go_wp2
      go_ret
      exact ⟨_, rfl, hown, hbel⟩

theorem row_lit (w : World) (l : List Pt) (h : ∀ p ∈ l, Pt.Ok p) : Row .i64 (w.alloc (.cells (blk .i64 (flP l)) 27)) (w.alloc (.cells (blk .i64 (flP l)) 27)).heap.size (some ⟨w.heap.size, 0, none⟩) (flP l) :=
  (Row.new .i64 w _ (flP l) (flP l) (flP_wf h) (List.prefix_refl _)).more (by simp)
def ptOkB (p : Pt) : Bool := decide (-9223372036854775808 ≤ p.1) && decide (p.1 < 9223372036854775808) && (decide (-9223372036854775808 ≤ p.2) && decide (p.2 < 9223372036854775808))
theorem pts_ok {l : List Pt} (h : l.all ptOkB = true) : ∀ p ∈ l, Pt.Ok p := fun p hp => by
  have := List.all_eq_true.1 h p hp
  simp only [ptOkB, Bool.and_eq_true, decide_eq_true_eq] at this
  exact this
/-- Run of a list that the call has laid out. -/
theorem Run_lit (d q : Int) (l r : List Pt) (v : Value) (m c : Nat) (hd : (-9223372036854775808 ≤ d ∧ d < 9223372036854775808)) (hq : (-9223372036854775808 ≤ q ∧ q < 9223372036854775808)) (w : World) (A : Option Addr) (hv : v = .slice A m c) (hr : Row .i64 w w.heap.size A (flP l)) (hm : l.length = m) (hb : m ≤ 1000000) (h : runP d q Hd.zero l = r) :
    Calls Try.prog 14 #[.agg #[.int .i64 d, .int .i64 q], v] w (MakesT w r) := by
  subst hv h
  exact Run_any d q A m c l hd hq w hr hm (by omega)

set_option maxHeartbeats 1000000 in
theorem known_yes (w : World) : Calls Try.prog 19 #[] w fun e w' => e = .returned (.bool true) ∧ Below w.heap.size w w' := by
  go_enter Try.func19, Try.ntmps19
  go_wp2_with fail
  refine (points_any _ 5 5 [10, 12, 15, 16, 10] _ ((Row.new .i64 w 3 [10, 12, 15, 16, 10] [10, 12, 15, 16, 10] (by decide) (List.prefix_refl _)).more (by simp)) rfl (by omega)).mono ?_
  rintro e w1 ⟨v1, rfl, own1, b1⟩
  have bel1 := (bel_alloc w _).trans (b1.mono (by simp))
  obtain ⟨A1, c1, rfl, row1, _, _⟩ := own1.row (pts_ok (by decide +kernel))
  have hs1 := b1.size
  clear b1
  go_wp2_with fail
  refine (Run_lit 5 0 (idxP 5 [10, 12, 15, 16, 10]) [(10, 0), (16, 3), (10, 4)] _ 5 c1 (by omega) (by omega) w1 A1 (by rw [idxP_len]) row1 (by rw [idxP_len]) (by omega) (by decide +kernel)).mono ?_
  rintro e w2 ⟨v2, rfl, own2, b2⟩
  have bel2 := bel1.trans (b2.mono bel1.size)
  obtain ⟨A2, c2, rfl, row2, _, _⟩ := own2.row (pts_ok (by decide +kernel))
  clear own1 row1 b2 bel1
  go_wp2_with fail
  refine (same_yes_pt A2 (some ⟨w2.heap.size, 0, none⟩) 3 c2 3 [(10, 0), (16, 3), (10, 4)] (w2.alloc (.cells (blk .i64 (flP [(10, 0), (16, 3), (10, 4)])) 27)) w2.heap.size _ (row2.alloc (Nat.le_refl _) _) (row_lit w2 [(10, 0), (16, 3), (10, 4)] (pts_ok (by decide +kernel))) rfl (by omega)).mono ?_
  rintro e w3 ⟨rfl, m, rfl⟩
  go_wp2
  go_ret
  exact ⟨rfl, below_drewN (bel2.alloc bel2.size _) m⟩
end Go.Proofs.Ytggijpfmcidpaaa
