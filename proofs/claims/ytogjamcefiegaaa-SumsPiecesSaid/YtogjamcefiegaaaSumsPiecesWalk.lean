/-
  The walk of SumsPieces.
-/
import Derived.Test.YtogjamcefiegaaaCopy
namespace Go.Proofs.Ytogjamcefiegaaa
open Go.RowKit
set_option linter.unusedVariables false

theorem pieces_16 (xs ys : List Int) : tkAll 40961 (tkAll 40961 65535 xs) ys = tkAll 40961 65535 (xs ++ ys) := (tkAll_append _ _ _ _).symm
theorem pieces_32 (xs ys : List Int) : more32 (more32 0 xs) ys = more32 0 (xs ++ ys) := by
  unfold more32
  rw [tkAll_append, ← Nat.xor_assoc 4294967295 4294967295, Nat.xor_self, Nat.zero_xor]

set_option maxHeartbeats 400000 in
theorem walk_SumsPieces (a0 : Option Addr) (l0 c0 : Nat) (x0 : List Int) (a1 : Option Addr) (l1 c1 : Nat) (x1 : List Int) (w : World)
    (w0 : Row .u8 w w.heap.size a0 x0) (n0 : x0.length = l0) (s0 : l0 ≤ c0) (m0 : c0 ≤ 140737488351232)
    (w1 : Row .u8 w w.heap.size a1 x1) (n1 : x1.length = l1) (s1 : l1 ≤ c1) (m1 : c1 ≤ 140737488351232) :
    Calls Try.prog 5 #[.slice a0 l0 c0, .slice a1 l1 c1] w fun e w' => e = .returned (.bool true) ∧ Below w.heap.size w w' := by
  have hn0 := Lib.hid n0
  have hn1 := Lib.hid n1
  clear n0 n1
  by_cases h0 : 65536 < l0
  · have t0 : decide ((65536 : Int) < (l0 : Int)) = true := by simp; omega
    go_enter Try.func5, Try.ntmps5
    go_wp2_with (go_at_call 29; refine (known_yes _).mono ?_; rintro e w' ⟨rfl, hb⟩)
    go_ret
    exact ⟨rfl, hb⟩
  by_cases h1 : 65536 < l1
  · have t0 : decide ((65536 : Int) < (l0 : Int)) = false := by simp; omega
    have t1 : decide ((65536 : Int) < (l1 : Int)) = true := by simp; omega
    go_enter Try.func5, Try.ntmps5
    go_wp2_with (go_at_call 29; refine (known_yes _).mono ?_; rintro e w' ⟨rfl, hb⟩)
    go_ret
    exact ⟨rfl, hb⟩
  have t0 : decide ((65536 : Int) < (l0 : Int)) = false := by simp; omega
  have t1 : decide ((65536 : Int) < (l1 : Int)) = false := by simp; omega
  go_enter Try.func5, Try.ntmps5
  go_wp2_with fail
  refine (copy_u8 _ _ _ x0 _ w0 hn0.out (by omega)).mono ?_
  rintro e w2 ⟨v2, rfl, own2, bel2⟩
  have hsz2 := bel2.size
  go_wp2_with (at_builtin; refine wpList_append_row _ rfl _ _ 22 rfl w.heap.size .u8 5 1 Try.underlying22 info_u8 v2 x0 rfl own2 _ _ l1 c1 x1 rfl (w1.below bel2) hn1.out (by rw [hn0.out]; omega) (by rw [hn0.out]; simp only [maxLen]; omega) hsz2 ?_; intro v3 w3 own3 hg3)
  have bel3 := Below.own bel2 hsz2 own2 hg3
  have hsz3 := bel3.size
  obtain ⟨A3, c3, rfl, row3, _, _⟩ := own3.row (wf_append w0.1 w1.1)
  have hl3 : (x0 ++ x1).length = l0 + l1 := by simp [hn0.out, hn1.out]
  rw [hl3]
  have HL3 := Lib.hid hl3
  clear hl3 own2 hg3 own3
  have b1 : tkAll 40961 65535 x0 < 65536 := tkAll_lt (b := 16) (by decide) (by decide) (by decide) _ (toNat_u8 w0.1)
  have b2 : more32 0 x0 < 4294967296 := more32_lt 0 x0 (by decide) w0.1
  have P1 := Lib.hid (pieces_16 x0 x1)
  have P2 := Lib.hid (pieces_32 x0 x1)
  have rx0 := w0.below bel3
  have rx1 := w1.below bel3
  go_wp2_with fail
  refine (crc_16 _ _ _ x0 _ _ rx0 hn0.out (by omega)).mono ?_
  rintro e w' ⟨rfl, rfl⟩
  go_wp2_with fail
  refine (more_16 _ _ _ _ x1 b1 _ _ rx1 hn1.out (by omega)).mono ?_
  rintro e w' ⟨rfl, rfl⟩
  rw [P1.out]
  go_wp2_with fail
  refine (crc_16 _ _ _ (x0 ++ x1) _ _ row3 HL3.out (by omega)).mono ?_
  rintro e w' ⟨rfl, rfl⟩
  go_wp2_with fail
  refine (crc_32 _ _ _ x0 _ _ rx0 hn0.out (by omega)).mono ?_
  rintro e w' ⟨rfl, rfl⟩
  go_wp2_with fail
  refine (more_32 _ _ _ _ x1 b2 _ _ rx1 hn1.out (by omega)).mono ?_
  rintro e w' ⟨rfl, rfl⟩
  rw [P2.out]
  go_wp2_with fail
  refine (crc_32 _ _ _ (x0 ++ x1) _ _ row3 HL3.out (by omega)).mono ?_
  rintro e w' ⟨rfl, rfl⟩
  go_wp2_with fail
  refine (known_yes _).mono ?_
  rintro e w' ⟨rfl, hb⟩
  go_wp2
  go_ret
  exact ⟨rfl, bel3.trans (hb.mono hsz3)⟩
end Go.Proofs.Ytogjamcefiegaaa
