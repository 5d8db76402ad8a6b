/-
  Contracts of the sealing and opening functions of package sums and of the document's answer to them.
-/
import Derived.Test.YtmbjcmagadekpaaCopy
import Derived.Test.YtmbjcmagadekpaaSumsB
import Derived.Test.YtmbjcmagadekpaaMore
namespace Go.Proofs.Ytmbjcmagadekpaa
open Go.RowKit
set_option linter.unusedVariables false

/-- The n lowest bytes of a number, the lowest first. -/
def le (n s : Nat) : List Int := (List.range n).map fun i => ((s / 256 ^ i % 256 : Nat) : Int)
theorem le_length (n s : Nat) : (le n s).length = n := by simp [le]
theorem le_succ (n s : Nat) : le (n + 1) s = le n s ++ [((s / 256 ^ n % 256 : Nat) : Int)] := by simp [le, List.range_succ]
theorem le_wf (n s : Nat) : ∀ x ∈ le n s, (Lit.int .u8 x).wf = true := by
  intro x hx
  simp only [le, List.mem_map] at hx
  obtain ⟨i, _, rfl⟩ := hx
  exact wf_byte _ (Nat.mod_lt _ (by omega))
theorem div_step (s j : Nat) : s / 256 ^ j / 256 = s / 256 ^ (j + 1) := by rw [Nat.div_div_eq_div_mul, Nat.pow_succ]
theorem make0_u8 (n : Nat) (hn : n ≤ 140737488355328) (W : World) :
    (Instr.makeSlice 34 (.int .i64 0) (.int .i64 (n : Int))).run Try.prog W = .ok (.slice (some ⟨W.heap.size, 0, none⟩) 0 n) (W.alloc (.cells (blk .u8 (List.replicate n 0)) 5)) := by
  obtain ⟨i, hi, hz, hs, hb⟩ := info_parts info_u8
  have h := run_make (P := Try.prog) W 34 5 i (.int .u8 0) Try.underlying34 hi hz .i64 .i64 0 n (by omega) (by omega) (by rw [hb]; omega) (by omega)
  rw [h, hs, Int.toNat_natCast, made_zero]
  rfl

set_option maxHeartbeats 1000000 in
theorem seal_16 (A : Option Addr) (n c s : Nat) (xs : List Int) (w : World) (hr : Row .u8 w w.heap.size A xs) (hn : xs.length = n) (hm : n ≤ 140737488351232) (hs : s < 65536) :
    Calls Try.prog 114 #[.slice A n c, .int .u16 s, .int .i64 2] w (Lays .u8 5 w (xs ++ le 2 s) (n + 2)) := by
  have hn' := Lib.hid hn
  clear hn
  have hmk := make0_u8 (n + 2) (by omega)
  rw [show ((n + 2 : Nat) : Int) = (n : Int) + 2 by omega] at hmk
  have own0 := Own.made .u8 5 w (List.replicate (n + 2) 0) (by simp [maxLen]; omega)
  rw [List.length_replicate] at own0
  have bel0 : Below w.heap.size w (w.alloc (.cells (blk .u8 (List.replicate (n + 2) 0)) 5)) := (Below.refl _ _).alloc (Nat.le_refl _) _
  have row0 := hr.below bel0
  go_enter Try.func114, Try.ntmps114
  go_wp2_with (at_builtin; refine wpList_append_row_fits _ rfl _ _ 34 rfl w.heap.size .u8 5 1 Try.underlying34 info_u8 w.heap.size 0 (n + 2) [] rfl rfl own0 _ _ n c xs rfl row0 hn'.out (by omega) ?_; intro w1 own1 hg1)
  have bel1 : Below w.heap.size w w1 := bel0.grown hg1 (by simp) (fun k e => by injection e; omega)
  simp only [Nat.zero_add, List.nil_append] at own1 ⊢
  clear own0 bel0 row0 hg1 hmk
  go_loopw [1, 7, 17] (fun t v i wr => ∃ j : Nat, j ≤ 2 ∧ i = .int .i64 j ∧ t = .int .u16 (s / 256 ^ j : Nat) ∧ v = .slice (some ⟨w.heap.size, 0, none⟩) (n + j) (n + 2) ∧ Own .u8 5 wr w.heap.size (.slice (some ⟨w.heap.size, 0, none⟩) (n + j) (n + 2)) (xs ++ le j s) ∧ Below w.heap.size w wr ∧ w.heap.size < wr.heap.size) (fun _ _ i _ => 2 - (intOf i).toNat)
  case atStart => exact ⟨0, by omega, rfl, by simp, rfl, by simpa [le] using own1, bel1, (own1.block _ rfl).2⟩
  case round =>
    obtain ⟨j, hj, rfl, rfl, rfl, own2, bel2, hsz⟩ := hrel
    by_cases hlt : j < 2
    · have hb : s / 256 ^ j < 65536 := Nat.lt_of_le_of_lt (Nat.div_le_self _ _) hs
      have hq := Lib.hid (div_step s j)
      have hle := Lib.hid (le_succ j s)
      have hlen : Hid ((xs ++ le j s).length = n + j) := by show _ = _; rw [List.length_append, hn'.out, le_length]
      generalize s / 256 ^ j = q at *
      have hwr := wrap_u8_nat q
      have hone := Row.one .u8 wr 5 ((q % 256 : Nat) : Int) (wf_byte _ (Nat.mod_lt _ (by omega)))
      go_wp2_with (at_builtin; refine wpList_append_row_fits _ rfl _ _ 34 rfl w.heap.size .u8 5 1 Try.underlying34 info_u8 w.heap.size (n + j) (n + 2) (xs ++ le j s) rfl hlen.out (own2.alloc _) _ _ 1 1 [((q % 256 : Nat) : Int)] rfl hone rfl (by omega) ?_; intro w3 own3 hg3)
      have bel3 : Below w.heap.size w w3 := (bel2.alloc bel2.size _).grown hg3 (by simp; omega) (fun k e => by injection e; omega)
      have hsz3 := (own3.block _ rfl).2
      rw [List.append_assoc, ← hle.out, Nat.add_assoc] at own3
      clear hone hg3 hwr own2
      go_wp2
      go_roundw
      case rel => exact ⟨j + 1, by omega, by go_num, by rw [← hq.out]; go_num, by rw [Nat.add_assoc], own3, bel3, hsz3⟩
      case measure => simp [intOf]; omega
    · obtain rfl : j = 2 := by omega
      have hf := own2.full
      go_wp2
      go_ret
      exact ⟨rfl, hf, bel2⟩

end Go.Proofs.Ytmbjcmagadekpaa
