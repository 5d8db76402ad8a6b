/-
  The walk of PackBack.
-/
import Derived.Test.YtaeecoiodkbomaaPkAny
import Derived.Test.YtaeecoiodkbomaaPkLeast
namespace Go.Proofs.Ytaeecoiodkbomaa
open Go.RowKit
set_option linter.unusedVariables false

theorem mod_lt_64 (v n : Nat) (hv : v < 18446744073709551616) : v % 256 ^ n < 18446744073709551616 := Nat.lt_of_le_of_lt (Nat.mod_le _ _) hv
theorem mod_lt_pow (v n : Nat) : v % 256 ^ n < 256 ^ n := Nat.mod_lt _ (Nat.pow_pos (by omega))
theorem back_val (x y : List Int) (n u m : Nat) (h : u < 256 ^ n) (hx : x.length = m) : bval (((x ++ be n u ++ y).drop m).take n) = u := by
  rw [List.append_assoc, List.drop_append_of_le_length (by omega), List.drop_of_length_le (by omega), List.nil_append, List.take_append_of_le_length (by rw [be_length]; exact Nat.le_refl _), List.take_of_length_le (by rw [be_length]; exact Nat.le_refl _), bval_be n u h]

set_option maxHeartbeats 4000000 in
set_option maxRecDepth 100000 in
theorem walk_PackBack (a0 : Option Addr) (l0 c0 : Nat) (x0 : List Int) (a1 : Option Addr) (l1 c1 : Nat) (x1 : List Int) (a2 : Int) (w : World) (w0 : Row .u8 w w.heap.size a0 x0) (n0 : x0.length = l0) (s0 : l0 ≤ c0) (m0 : c0 ≤ 140737488351232) (w1 : Row .u8 w w.heap.size a1 x1) (n1 : x1.length = l1) (s1 : l1 ≤ c1) (m1 : c1 ≤ 140737488351232) (w2 : (Lit.int .u64 a2).wf = true) :
    Calls Try.prog 7 #[.slice a0 l0 c0, .slice a1 l1 c1, .int .u64 a2] w fun e w' => e = .returned (.bool true) ∧ Below w.heap.size w w' := by
  have hn0 := Lib.hid n0
  have hn1 := Lib.hid n1
  have hv := wf_u64 w2
  obtain ⟨v, rfl⟩ := Int.eq_ofNat_of_zero_le hv.1
  have hv3 : v < 18446744073709551616 := Int.ofNat_lt.1 hv.2
  clear n0 n1 w2 hv
  by_cases hlong : 65536 < l0
  · go_enter Try.func7, Try.ntmps7
    go_wp2_with (go_at_call 12; refine (works_yes _).mono ?_; rintro e w' ⟨rfl, bel⟩)
    go_ret
    exact ⟨rfl, bel⟩
  by_cases hlong1 : 65536 < l1
  · go_enter Try.func7, Try.ntmps7
    go_wp2_with (go_at_call 12; refine (works_yes _).mono ?_; rintro e w' ⟨rfl, bel⟩)
    go_ret
    exact ⟨rfl, bel⟩
  go_enter Try.func7, Try.ntmps7
  go_wp2
  go_loopw [7, 8, 9, 10, 11, 12] (fun i _ _ _ _ _ wr => ∃ n : Nat, 1 ≤ n ∧ n ≤ 9 ∧ i = .int .i64 n ∧ Below w.heap.size w wr) (fun i _ _ _ _ _ _ => 9 - (intOf i).toNat)
  case atStart => exact ⟨1, by omega, by omega, rfl, Below.refl _ _⟩
  case round =>
    obtain ⟨n, hn, hn9, rfl, bel⟩ := hrel
    by_cases hlt : n ≤ 8
    · have hu1 := mod_lt_64 v n hv3
      have hu2 := Lib.hid (mod_lt_pow v n)
      have hsz := bel.size
      go_wp2_with fail
      refine (least_any v n hn hlt hv3 _).mono ?_
      rintro e w' ⟨rfl, rfl⟩
      generalize v % 256 ^ n = u at *
      go_wp2_with fail
      refine (Put_ok _ _ _ u n x0 _ ((w0.below bel).more bel.size) hn0.out (by omega) hn hlt hu1 hu2.out).mono ?_
      rintro e w2 ⟨rfl, hg, b2⟩
      have bel2 := bel.trans (b2.mono bel.size)
      have hl : Hid ((x0 ++ be n u).length = l0 + n) := Lib.hid (by rw [List.length_append, hn0.out, be_length])
      have hrow : Row .u8 w2 _ (some ⟨wr.heap.size, 0, none⟩) x0 := Row.of_block hg x0 w0.1 (List.prefix_append _ _)
      have own2 : Own .u8 5 w2 w.heap.size (.slice (some ⟨wr.heap.size, 0, none⟩) (l0 + n) (l0 + n)) (x0 ++ be n u) := Own.laid hg hsz hl.out (by simp only [maxLen]; omega)
      clear hg b2
      go_wp2_with fail
      refine (same_yes_u8 _ _ _ _ _ x0 _ _ _ hrow (w0.below bel2) hn0.out (by omega)).mono ?_
      rintro e w3 ⟨rfl, m3, rfl⟩
      have bel3 := below_drewN bel2 m3
      have own3 := own2.drewN m3
      clear own2 hrow bel2
      have hs3 := bel3.size
      generalize w2.drewN m3 = w3 at *
      go_wp2_with (at_builtin; refine wpList_append_row _ rfl _ _ 22 rfl w.heap.size .u8 5 1 Try.underlying22 info_u8 _ (x0 ++ be n u) rfl own3 _ _ l1 c1 x1 rfl (w1.below bel3) hn1.out (by rw [hl.out]; omega) (by rw [hl.out]; simp only [maxLen]; omega) hs3 ?_; intro v4 w4 own4 hg4)
      have bel4 := Below.own bel3 hs3 own3 hg4
      obtain ⟨A4, c4, rfl, r4, hc4, _⟩ := own4.row (wf_append (wf_append w0.1 (be_wf _ _)) w1.1)
      have hl4 : (x0 ++ be n u ++ x1).length = l0 + n + l1 := by rw [List.length_append, hl.out, hn1.out]
      have HL4 := Lib.hid hl4
      rw [hl4] at hc4
      rw [hl4]
      clear hl4 hg4 own3
      go_wp2_with fail
      refine (Get_ok _ _ _ l0 n (x0 ++ be n u ++ x1) _ _ r4 HL4.out hc4 (by omega) hn hlt (by omega)).mono ?_
      rintro e w' ⟨rfl, rfl⟩
      rw [back_val x0 x1 n u l0 hu2.out hn0.out]
      clear own4 r4
      go_wp2
      go_roundw
      case rel => exact ⟨n + 1, by omega, by omega, by go_num, bel4⟩
      case measure => simp [intOf]; omega
    · go_wp2_with fail
      refine (works_yes _).mono ?_
      rintro e w' ⟨rfl, b⟩
      go_wp2
      go_ret
      exact ⟨rfl, bel.trans (b.mono bel.size)⟩
end Go.Proofs.Ytaeecoiodkbomaa
