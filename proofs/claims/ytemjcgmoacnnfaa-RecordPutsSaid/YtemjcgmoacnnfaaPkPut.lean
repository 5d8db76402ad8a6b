/-
  Contracts of Put and Get of package pack and of the document's answer to them.
-/
import Derived.Test.YtemjcgmoacnnfaaPkNum
import Derived.Test.YtemjcgmoacnnfaaPkPosts
namespace Go.Proofs.Ytemjcgmoacnnfaa
open Go.RowKit
set_option linter.unusedVariables false
theorem Put_width (A : Option Addr) (m c : Nat) (v n : Int) (w : World) (h : ¬ (1 ≤ n ∧ n ≤ 8)) :
    Calls Try.prog 40 #[.slice A m c, .int .u64 v, .int .i64 n] w (Errs 3 w) := by
  have HW := Lib.hid h
  clear h
  go_enter Try.func40, Try.ntmps40
  go_wp2_with (go_at_call 48; refine (isWidth_no _ HW.out _).mono ?_; rintro e w' ⟨rfl, rfl⟩)
  go_ret2
  exact ⟨rfl, rfl⟩
theorem Put_great (A : Option Addr) (m c v n : Nat) (w : World) (h1 : 1 ≤ n) (h8 : n ≤ 8) (hv : v < 18446744073709551616) (h : ¬ v < 256 ^ n) :
    Calls Try.prog 40 #[.slice A m c, .int .u64 v, .int .i64 n] w (Errs 3 w) := by
  have HF := Lib.hid (decide_eq_false h)
  clear h
  go_enter Try.func40, Try.ntmps40
  go_wp2_with (first
    | (go_at_call 48; refine (isWidth_yes _ (by omega) (by omega) _).mono ?_; rintro e w' ⟨rfl, rfl⟩)
    | (go_at_call 49; refine (fits_any2 _ _ h1 h8 hv _).mono ?_; rintro e w' ⟨rfl, rfl⟩; rw [HF.out]))
  go_ret2
  exact ⟨rfl, rfl⟩

set_option maxHeartbeats 1000000 in
theorem Put_ok2 (A : Option Addr) (m c v n : Nat) (xs : List Int) (w : World) (hr : Row .u8 w w.heap.size A xs) (hm : xs.length = m) (hb : m ≤ 140737488351232) (h1 : 1 ≤ n) (h8 : n ≤ 8) (hv : v < 18446744073709551616) (h : v < 256 ^ n) :
    Calls Try.prog 40 #[.slice A m c, .int .u64 v, .int .i64 n] w (Opens w (xs ++ be n v) (m + n)) := by
  have HF := Lib.hid (decide_eq_true h)
  have hmk := make_u8 (m + n) (by omega)
  rw [show ((m + n : Nat) : Int) = (m : Int) + n by omega] at hmk
  have hcp := copy_new (P := Try.prog) .u8 w 24 3 5 A m c (m + n) (List.replicate (m + n) 0) xs Try.underlying24 info_size hr hm (by simp) (by omega) 5
  have hd : List.drop m (List.replicate (m + n) (0 : Int)) = List.replicate n 0 ++ [] := by simp
  rw [hd] at hcp
  have hm' := Lib.hid hm
  clear h hm hd
  have hg0 := Lib.hid (heap_alloc_new w (.cells (blk .u8 (xs ++ (List.replicate n 0 ++ []))) 5))
  have bel0 : Below w.heap.size w (w.alloc (.cells (blk .u8 (xs ++ (List.replicate n 0 ++ []))) 5)) := (Below.refl _ _).alloc (Nat.le_refl _) _
  have hs0 : w.heap.size < (w.alloc (.cells (blk .u8 (xs ++ (List.replicate n 0 ++ []))) 5)).heap.size := by simp
  obtain ⟨Y, hY⟩ : ∃ Y : List Int, Hid (Y = xs ++ (List.replicate n 0 ++ [])) := ⟨_, Lib.hid rfl⟩
  rw [← hY.out] at hcp hg0 bel0 hs0
  go_enter Try.func40, Try.ntmps40
  go_wp2_with (first
    | (go_at_call 48; refine (isWidth_yes _ (by omega) (by omega) _).mono ?_; rintro e w' ⟨rfl, rfl⟩)
    | (go_at_call 49; refine (fits_any2 _ _ h1 h8 hv _).mono ?_; rintro e w' ⟨rfl, rfl⟩; rw [HF.out])
    | (go_at_call 50; refine (lay_any w.heap.size m n n v n xs (List.replicate n 0) [] _ (by rw [← hY.out]; exact hg0.out) hm'.out (by simp) (Nat.le_refl _) (by omega) h8 hv).mono ?_; rintro e w' ⟨rfl, hg1, hgr, hsz⟩))
  go_ret2
  exact ⟨rfl, by rw [List.append_nil] at hg1; exact hg1, bel0.grown hgr (Nat.le_of_lt hs0) (fun k e => by injection e; omega)⟩
end Go.Proofs.Ytemjcgmoacnnfaa
