/-
  Contracts of Put of package frame, and of the document's answer to it.
-/
import Derived.Test.YtmbjcmagadekpaaFrLine
import Derived.Test.YtmbjcmagadekpaaBox
namespace Go.Proofs.Ytmbjcmagadekpaa
open Go.RowKit
set_option linter.unusedVariables false
theorem frPut_bad (id u : Int) (A : Option Addr) (n c : Nat) (l : List Int) (w : World) (hn : l.length = n) (h0 : frChk l ≠ 0) :
    Calls Try.prog 35 #[.agg #[.int .u16 id, .int .u8 u, .slice A n c]] w (GivesOwn w (frPut ⟨id, u, l⟩) (frChk l)) := by
  have HL : Hid (frPut ⟨id, u, l⟩ = []) := Lib.hid (by rw [frPut, if_neg h0])
  rw [HL.out]
  have HC := Lib.hid (checkPdu_any A n c l hn)
  obtain ⟨E, hE⟩ : ∃ E, Hid (frChk l = E) := ⟨_, Lib.hid rfl⟩
  rw [hE.out] at HC h0 ⊢
  have u1 : (E != 0) = true := by simpa using h0
  have u2 : (E == 0) = false := beq_false_of_ne h0
  clear h0 hn
  go_enter Try.func35, Try.ntmps35
  go_wp2_with fail
  refine (HC.out _).mono ?_
  rintro e w' ⟨rfl, hw⟩
  rw [hw]
  clear hw
  go_wp2
  go_ret2
  exact ⟨_, rfl, Own.nil _ _ _ _, bel_alloc _ _⟩
set_option maxHeartbeats 1000000 in
theorem frPut_yes (id u : Int) (A : Option Addr) (n c : Nat) (l : List Int) (w : World) (hr : Row .u8 w w.heap.size A l) (hn : l.length = n) (hi : 0 ≤ id ∧ id < 65536) (hu : 0 ≤ u ∧ u < 256) (h0 : frChk l = 0) :
    Calls Try.prog 35 #[.agg #[.int .u16 id, .int .u8 u, .slice A n c]] w (GivesOwn w (frPut ⟨id, u, l⟩) (frChk l)) := by
  have HL : Hid (frPut ⟨id, u, l⟩ = [id / 256, id % 256, 0, 0, (1 + (n : Int)) / 256, (1 + (n : Int)) % 256, u] ++ l) := Lib.hid (by rw [frPut, if_pos h0, frHead, hn])
  rw [HL.out]
  have HC := Lib.hid (checkPdu_any A n c l hn)
  rw [h0] at HC ⊢
  have hle := frChk_le h0
  rw [hn] at hle
  have HN := Lib.hid hn
  have bel0 := bel_alloc w (.cells #[.int .u16 id, .int .u8 u, .slice A n c] 57)
  have HR := Lib.hid (hr.below (bel0.alloc (by simp) (.cells (blk .u8 [id / 256, id % 256, 0, 0, (1 + (n : Int)) / 256, (1 + (n : Int)) % 256, u]) 5)))
  have hown := Own.laid (k := .u8) (base := w.heap.size) (g := w.heap.size + 1) (n := 7) (heap_alloc_two w (.cells #[.int .u16 id, .int .u8 u, .slice A n c] 57) (.cells (blk .u8 [id / 256, id % 256, 0, 0, (1 + (n : Int)) / 256, (1 + (n : Int)) % 256, u]) 5)) (by omega) (show [id / 256, id % 256, 0, 0, (1 + (n : Int)) / 256, (1 + (n : Int)) % 256, u].length = 7 from rfl) (by simp [maxLen])
  have e1 : IntKind.u8.wrap (id / 256) = id / 256 := by rw [IntKind.wrap_u8]; omega
  have e2 : IntKind.u8.wrap id = id % 256 := by rw [IntKind.wrap_u8]
  have e3 : IntKind.u8.wrap ((1 + (n : Int)) / 256) = (1 + (n : Int)) / 256 := by rw [IntKind.wrap_u8]; omega
  have e4 : IntKind.u8.wrap (1 + (n : Int)) = (1 + (n : Int)) % 256 := by rw [IntKind.wrap_u8]
  clear h0 hn hr
  go_enter Try.func35, Try.ntmps35
  go_wp2_with fail
  refine (HC.out _).mono ?_
  rintro e w' ⟨rfl, hw⟩
  rw [hw]
  clear hw
  go_wp2_with (at_builtin; refine wpList_append_row _ rfl _ _ 34 rfl w.heap.size .u8 5 1 Try.underlying34 info_u8 (.slice (some ⟨w.heap.size + 1, 0, none⟩) 7 7) [id / 256, id % 256, 0, 0, (1 + (n : Int)) / 256, (1 + (n : Int)) % 256, u] rfl hown _ _ n c l rfl HR.out HN.out (by simp <;> omega) (by simp [maxLen] <;> omega) (by simp <;> omega) ?_; intro v1 w1 hown1 hg1)
  have bel1 := Below.own (bel0.alloc (by simp) _) (by simp; omega) hown hg1
  go_ret2
  exact ⟨_, rfl, hown1, bel1⟩
theorem refFrPut_bad (id u : Int) (A : Option Addr) (n c : Nat) (l : List Int) (w : World) (hn : l.length = n) (h0 : frChk l ≠ 0) :
    Calls Try.prog 36 #[.agg #[.int .u16 id, .int .u8 u, .slice A n c]] w (GivesOwn w (frPut ⟨id, u, l⟩) (frChk l)) := by
  have HL : Hid (frPut ⟨id, u, l⟩ = []) := Lib.hid (by rw [frPut, if_neg h0])
  rw [HL.out]
  have HC := Lib.hid (refPdu_any A n c l hn)
  obtain ⟨E, hE⟩ : ∃ E, Hid (frChk l = E) := ⟨_, Lib.hid rfl⟩
  rw [hE.out] at HC h0 ⊢
  have u1 : (E != 0) = true := by simpa using h0
  have u2 : (E == 0) = false := beq_false_of_ne h0
  clear h0 hn
  go_enter Try.func36, Try.ntmps36
  go_wp2_with fail
  refine (HC.out _).mono ?_
  rintro e w' ⟨rfl, hw⟩
  rw [hw]
  clear hw
  go_wp2
  go_ret2
  exact ⟨_, rfl, Own.nil _ _ _ _, bel_alloc _ _⟩
set_option maxHeartbeats 1000000 in
theorem refFrPut_yes (id u : Int) (A : Option Addr) (n c : Nat) (l : List Int) (w : World) (hr : Row .u8 w w.heap.size A l) (hn : l.length = n) (hi : 0 ≤ id ∧ id < 65536) (hu : 0 ≤ u ∧ u < 256) (h0 : frChk l = 0) :
    Calls Try.prog 36 #[.agg #[.int .u16 id, .int .u8 u, .slice A n c]] w (GivesOwn w (frPut ⟨id, u, l⟩) (frChk l)) := by
  have HL : Hid (frPut ⟨id, u, l⟩ = [id / 256, id % 256, 0, 0, (1 + (n : Int)) / 256, (1 + (n : Int)) % 256, u] ++ l) := Lib.hid (by rw [frPut, if_pos h0, frHead, hn])
  rw [HL.out]
  have HC := Lib.hid (refPdu_any A n c l hn)
  rw [h0] at HC ⊢
  have hle := frChk_le h0
  rw [hn] at hle
  have HN := Lib.hid hn
  have bel0 := bel_alloc w (.cells #[.int .u16 id, .int .u8 u, .slice A n c] 57)
  have HR := Lib.hid (hr.below (bel0.alloc (by simp) (.cells (blk .u8 [id / 256, id % 256, 0, 0, (1 + (n : Int)) / 256, (1 + (n : Int)) % 256, u]) 5)))
  have hown := Own.laid (k := .u8) (base := w.heap.size) (g := w.heap.size + 1) (n := 7) (heap_alloc_two w (.cells #[.int .u16 id, .int .u8 u, .slice A n c] 57) (.cells (blk .u8 [id / 256, id % 256, 0, 0, (1 + (n : Int)) / 256, (1 + (n : Int)) % 256, u]) 5)) (by omega) (show [id / 256, id % 256, 0, 0, (1 + (n : Int)) / 256, (1 + (n : Int)) % 256, u].length = 7 from rfl) (by simp [maxLen])
  have e1 : id / 256 % 256 = id / 256 := by omega
  have e5 : IntKind.u16.wrap (id.tdiv 256) = id / 256 := by rw [Int.tdiv_eq_ediv_of_nonneg hi.1, IntKind.wrap_u16]; omega
  have e2 : IntKind.u8.wrap (id % 256) = id % 256 := by rw [IntKind.wrap_u8]; omega
  have e3 : IntKind.u8.wrap ((1 + (n : Int)) / 256) = (1 + (n : Int)) / 256 := by rw [IntKind.wrap_u8]; omega
  have e4 : IntKind.u8.wrap ((1 + (n : Int)) % 256) = (1 + (n : Int)) % 256 := by rw [IntKind.wrap_u8]; omega
  clear h0 hn hr
  go_enter Try.func36, Try.ntmps36
  go_wp2_with fail
  refine (HC.out _).mono ?_
  rintro e w' ⟨rfl, hw⟩
  rw [hw]
  clear hw
  go_wp2_with (at_builtin; refine wpList_append_row _ rfl _ _ 34 rfl w.heap.size .u8 5 1 Try.underlying34 info_u8 (.slice (some ⟨w.heap.size + 1, 0, none⟩) 7 7) [id / 256, id % 256, 0, 0, (1 + (n : Int)) / 256, (1 + (n : Int)) % 256, u] rfl hown _ _ n c l rfl HR.out HN.out (by simp <;> omega) (by simp [maxLen] <;> omega) (by simp <;> omega) ?_; intro v1 w1 hown1 hg1)
  have bel1 := Below.own (bel0.alloc (by simp) _) (by simp; omega) hown hg1
  go_ret2
  exact ⟨_, rfl, hown1, bel1⟩
theorem frPut_any (id u : Int) (A : Option Addr) (n c : Nat) (l : List Int) (w : World) (hr : Row .u8 w w.heap.size A l) (hn : l.length = n) (hi : 0 ≤ id ∧ id < 65536) (hu : 0 ≤ u ∧ u < 256) :
    Calls Try.prog 35 #[.agg #[.int .u16 id, .int .u8 u, .slice A n c]] w (GivesOwn w (frPut ⟨id, u, l⟩) (frChk l)) := by
  by_cases h0 : frChk l = 0
  · exact frPut_yes id u A n c l w hr hn hi hu h0
  · exact frPut_bad id u A n c l w hn h0
theorem refFrPut_any (id u : Int) (A : Option Addr) (n c : Nat) (l : List Int) (w : World) (hr : Row .u8 w w.heap.size A l) (hn : l.length = n) (hi : 0 ≤ id ∧ id < 65536) (hu : 0 ≤ u ∧ u < 256) :
    Calls Try.prog 36 #[.agg #[.int .u16 id, .int .u8 u, .slice A n c]] w (GivesOwn w (frPut ⟨id, u, l⟩) (frChk l)) := by
  by_cases h0 : frChk l = 0
  · exact refFrPut_yes id u A n c l w hr hn hi hu h0
  · exact refFrPut_bad id u A n c l w hn h0
end Go.Proofs.Ytmbjcmagadekpaa
