/-
  Contracts of the number functions of package pack (Put, Get and what they call) and of the document's answer to them.
-/
import Derived.Test.YtemjcgmoacnnfaaBlock
import Derived.Test.YtemjcgmoacnnfaaHeld
import Derived.Test.YtemjcgmoacnnfaaPkMath
import Derived.Laws.CopyOwn
namespace Go.Proofs.Ytemjcgmoacnnfaa
open Go.RowKit
set_option linter.unusedVariables false

theorem isWidth_yes (n : Int) (h1 : 1 ≤ n) (h2 : n ≤ 8) (w : World) : Calls Try.prog 48 #[.int .i64 n] w fun e w' => e = .returned (.bool true) ∧ w = w' := by
  go_enter Try.func48, Try.ntmps48
  go_wp2
  go_ret
  exact ⟨rfl, rfl⟩
theorem isWidth_no (n : Int) (h : ¬ (1 ≤ n ∧ n ≤ 8)) (w : World) : Calls Try.prog 48 #[.int .i64 n] w fun e w' => e = .returned (.bool false) ∧ w = w' := by
  by_cases h1 : 1 ≤ n
  · have h2 : ¬ n ≤ 8 := fun h2 => h ⟨h1, h2⟩
    clear h
    go_enter Try.func48, Try.ntmps48
    go_wp2
    go_ret
    exact ⟨rfl, rfl⟩
  · clear h
    go_enter Try.func48, Try.ntmps48
    go_wp2
    go_ret
    exact ⟨rfl, rfl⟩
theorem shl_or (a : Nat) (x : Int) (k : Nat) (h : k ≤ 7) (ha : a < 256 ^ k) (hx : 0 ≤ x ∧ x < 256) : bits .or .u64 (IntKind.u64.wrap ((a : Int) * 256)) x = ((a * 256 + x.toNat : Nat) : Int) := by
  have h1 := bval_pow_le h ha
  clear ha h
  obtain ⟨y, rfl⟩ := Int.eq_ofNat_of_zero_le hx.1
  have h3 : a * 256 < 18446744073709551616 := Nat.lt_of_le_of_lt (Nat.le_add_right _ _) h1
  have hy : y < 256 := by omega
  have h4 : y < 18446744073709551616 := Nat.lt_trans hy (by decide)
  have h2 : IntKind.u64.wrap ((a : Int) * 256) = ((a * 256 : Nat) : Int) := by
    have e : ((a : Int) * 256) = ((a * 256 : Nat) : Int) := rfl
    rw [IntKind.wrap_u64, e]
    exact Int.emod_eq_of_lt (Int.natCast_nonneg _) (Int.ofNat_lt.2 h3)
  have h5 := u64_or_nat (a * 256) y h3 h4
  rw [h2, h5, or_low a y hy, Int.toNat_natCast]
theorem number_any (A : Option Addr) (m c n : Nat) (xs : List Int) (w : World) (B : Nat) (hr : Row .u8 w B A xs) (hm : xs.length = m) (hn : n ≤ m) (h8 : n ≤ 8) (hb : m ≤ 140737488355328) :
    Calls Try.prog 54 #[.slice A m c, .int .i64 n] w fun e w' => e = .returned (.int .u64 (bval (xs.take n) : Nat)) ∧ w = w' := by
  go_enter Try.func54, Try.ntmps54
  go_wp2
  go_loop [5, 8] (fun t i => ∃ k : Nat, k ≤ n ∧ i = .int .i64 k ∧ t = .int .u64 (bval (xs.take k) : Nat)) (fun _ i => n - (intOf i).toNat)
  case atStart => exact ⟨0, by omega, rfl, rfl⟩
  case round =>
    obtain ⟨k, hk, rfl, rfl⟩ := hrel
    by_cases hlt : k < n
    · obtain ⟨b, o, rfl, hb1, hc1⟩ := hr.at_ (i := k) (by omega)
      have hwf := wf_u8 (hr.wf_at (i := k) (by omega))
      have hl := bval_lt (xs.take k) (fun x hx => hr.1 x (List.mem_of_mem_take hx))
      rw [show (xs.take k).length = k by simp; omega] at hl
      have HO := Lib.hid (shl_or (bval (xs.take k)) (nth xs k) k (by omega) hl hwf)
      have HT := Lib.hid (take_step xs k (by omega))
      have HS := Lib.hid (bval_snoc (xs.take k) (nth xs k))
      go_wp2
      go_round
      case rel => exact ⟨k + 1, by omega, by go_num, by rw [HO.out, HT.out, HS.out]⟩
      case measure => simp [intOf]; omega
    · obtain rfl : k = n := by omega
      go_wp2
      go_ret
      exact ⟨rfl, rfl⟩

set_option maxHeartbeats 1000000 in
theorem lay_any (g o m c v n : Nat) (P R Q : List Int) (w : World) (hg : w.heap[g]? = some (.cells (blk .u8 (P ++ (R ++ Q))) 5 (0, 0))) (hP : P.length = o) (hR : R.length = n) (hn : n ≤ m) (hm : m ≤ 140737488355328) (h8 : n ≤ 8) (hv : v < 18446744073709551616) :
    Calls Try.prog 50 #[.slice (some ⟨g, o, none⟩) m c, .int .u64 v, .int .i64 n] w fun e w' => e = .returned (.tuple #[]) ∧ w'.heap[g]? = some (.cells (blk .u8 (P ++ (be n v ++ Q))) 5 (0, 0)) ∧ w.grownBy w' (some g) ∧ w'.heap.size = w.heap.size := by
  have hP' := Lib.hid hP
  have hR' := Lib.hid hR
  clear hP hR
  go_enter Try.func50, Try.ntmps50
  go_wp2
  go_loopw [1, 8] (fun t i wr => ∃ k : Nat, k ≤ n ∧ i = .int .i64 k ∧ t = .int .u64 (v / 256 ^ k : Nat) ∧ Hid (wr.heap[g]? = some (.cells (blk .u8 (P ++ (R.take (n - k) ++ (be k v ++ Q)))) 5 (0, 0))) ∧ w.grownBy wr (some g) ∧ Hid (wr.heap.size = w.heap.size)) (fun _ i _ => n - (intOf i).toNat)
  case atStart => exact ⟨0, by omega, rfl, by simp, Lib.hid (by rw [Nat.sub_zero, List.take_of_length_le (by rw [hR'.out]; exact Nat.le_refl _)]; exact hg), World.grownBy.refl _ _, Lib.hid rfl⟩
  case round =>
    obtain ⟨k, hk, rfl, rfl, hb, hgr, hsz⟩ := hrel
    by_cases hlt : k < n
    · obtain ⟨j, rfl⟩ : ∃ j, n = k + 1 + j := ⟨n - (k + 1), by omega⟩
      have hc1 : wr.cell? ⟨g, o + j, none⟩ = some (.int .u8 (nth (P ++ (R.take (k + 1 + j - k) ++ (be k v ++ Q))) (o + j))) := by
        rw [cell_of_row wr g (o + j) _ _ _ hb.out, blk_get _ _ _ (by rw [lay_len _ _ _ _ _ _ (by omega) hR'.out, hP'.out]; omega)]
      have hfz := block_frozen wr g (o + j) _ _ hb.out
      have hv2 : v / 256 ^ k < 18446744073709551616 := Nat.lt_of_le_of_lt (Nat.div_le_self _ _) hv
      have hq := Lib.hid (div_step v k)
      have hnew := Lib.hid (block_setCell wr g (o + j) .u8 5 _ ((v / 256 ^ k % 256 : Nat) : Int) hb.out)
      have HL := lay_step P R Q (k + 1 + j) k v (by omega) hR'.out
      rw [hP'.out, show k + 1 + j - 1 - k = j by omega] at HL
      rw [HL] at hnew
      clear HL
      have hgr2 := grown_setCell hgr (o + j) (.int .u8 ((v / 256 ^ k % 256 : Nat) : Int))
      have hsz2 : Hid ((wr.setCell ⟨g, o + j, none⟩ (.int .u8 ((v / 256 ^ k % 256 : Nat) : Int))).heap.size = w.heap.size) := by
        show _ = _
        rw [← hsz.out]; simp [World.setCell]
      generalize v / 256 ^ k = q at *
      have hwr := wrap_u8_nat q
      rw [show ((q % 256 : Nat) : Int) = (q : Int) % 256 by omega] at hnew hgr2 hsz2 hwr
      go_wp2
      go_roundw
      case rel => exact ⟨k + 1, by omega, by go_num, by rw [← hq.out]; go_num, hnew, hgr2, hsz2⟩
      case measure => simp [intOf]; omega
    · obtain rfl : k = n := by omega
      have hf := hb.out
      rw [Nat.sub_self, List.take_zero, List.nil_append] at hf
      have HF := Lib.hid hf
      clear hf
      go_wp2
      go_end0
      exact ⟨rfl, HF.out, hgr, hsz.out⟩
end Go.Proofs.Ytemjcgmoacnnfaa
