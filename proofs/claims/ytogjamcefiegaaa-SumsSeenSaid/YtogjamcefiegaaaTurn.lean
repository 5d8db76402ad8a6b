/-
  Contracts of Pick and turned.
-/
import Derived.Test.YtogjamcefiegaaaSeenMath2
namespace Go.Proofs.Ytogjamcefiegaaa
open Go.RowKit
set_option linter.unusedVariables false

def Picks (n : Nat) (w : World) (e : Ending) (w' : World) : Prop := ∃ r : Nat, r < n ∧ e = .returned (.int .i64 r) ∧ w = w'
theorem wf_i64 {n : Int} (h : (Lit.int .i64 n).wf = true) : -9223372036854775808 ≤ n ∧ n ≤ 9223372036854775807 := by
  simp [Lit.wf, IntKind.min, IntKind.max, IntKind.signed, IntKind.bits] at h; omega
theorem pick (k : Int) (n : Nat) (hk : (Lit.int .i64 k).wf = true) (h1 : 1 ≤ n) (hn : n ≤ 10000000) (w : World) :
    Calls Try.prog 31 #[.int .i64 k, .int .i64 n] w (Picks n w) := by
  have hk' := wf_i64 hk
  have ht1 : k.tmod n < n := Int.tmod_lt_of_pos k (by omega)
  have ht2 : -(n : Int) < k.tmod n := by
    have := Int.lt_tmod_of_pos k (b := (n : Int)) (by omega)
    omega
  clear hk
  by_cases h0 : k.tmod n < 0
  · go_enter Try.func31, Try.ntmps31
    go_wp2
    go_ret
    exact ⟨(k.tmod n + n).toNat, by omega, by rw [Int.toNat_of_nonneg (by omega)]; rfl, rfl⟩
  · go_enter Try.func31, Try.ntmps31
    go_wp2
    go_ret
    exact ⟨(k.tmod n).toNat, by omega, by rw [Int.toNat_of_nonneg (by omega)]; rfl, rfl⟩

theorem mask_bit (mask j : Nat) : ((mask : Int) / 2 ^ j).tmod 2 = ((mask / 2 ^ j % 2 : Nat) : Int) := by
  have h : (mask : Int) / 2 ^ j = ((mask / 2 ^ j : Nat) : Int) := by rw [Int.natCast_ediv, Int.natCast_pow]; rfl
  rw [h]
  rfl
theorem mask_yes (mask j : Nat) (h : mask.testBit j = true) : (((mask : Int) / 2 ^ j).tmod 2 == 1) = true := by
  rw [mask_bit, beq_iff_eq]
  rw [Nat.testBit_eq_decide_div_mod_eq] at h
  have := of_decide_eq_true h
  omega
theorem mask_no (mask j : Nat) (h : ¬ mask.testBit j = true) : (((mask : Int) / 2 ^ j).tmod 2 == 1) = false := by
  rw [mask_bit, beq_eq_false_iff_ne]
  rw [Nat.testBit_eq_decide_div_mod_eq, decide_eq_true_iff] at h
  omega

theorem turn_byte (x : Int) (r : Nat) (hx : (Lit.int .u8 x).wf = true) (hr : r < 8) : bits .xor .u8 x (2 ^ r % 256) = ((x.toNat ^^^ 2 ^ r : Nat) : Int) := by
  have h := wf_u8 hx
  have h2 : 2 ^ r < 2 ^ 8 := Nat.pow_lt_pow_right (by omega) hr
  have e : (2 : Int) ^ r % 256 = ((2 ^ r : Nat) : Int) := by
    have : (2 : Int) ^ r = ((2 ^ r : Nat) : Int) := by rw [Int.natCast_pow]; rfl
    rw [this]
    generalize 2 ^ r = q at *
    omega
  rw [e]
  generalize 2 ^ r = q at *
  rw [u8_xor _ _ h.1 h.2 (by omega) (by omega), Int.toNat_natCast]

def TurnsIt (xs : List Int) (at_ mask : Nat) (w : World) (e : Ending) (w' : World) : Prop :=
  ∃ v ys cnt, e = .returned (.tuple #[v, .int .i64 ((cnt : Nat) : Int)]) ∧ Own .u8 5 w' w.heap.size v ys ∧ Turned xs ys at_ mask 32 cnt ∧ cnt ≤ 32 ∧ Below w.heap.size w w'
set_option maxHeartbeats 1000000 in
theorem turned_any (A : Option Addr) (n c : Nat) (xs : List Int) (at_ mask : Nat) (w : World) (hr : Row .u8 w w.heap.size A xs) (hn : xs.length = n) (hb : n ≤ 100000) (ha : at_ ≤ 1000000) (hm : mask < 4294967296) : 
    Calls Try.prog 32 #[.slice A n c, .int .i64 at_, .int .u32 mask] w (TurnsIt xs at_ mask w) := by
  have hn' := Lib.hid hn
  clear hn
  go_enter Try.func32, Try.ntmps32
  go_wp2_with fail
  refine (copy_u8 _ _ _ xs _ hr hn'.out (by omega)).mono ?_
  rintro e w1 ⟨v1, rfl, own1, bel1⟩
  obtain ⟨A1, c1, rfl, _, hc1, _⟩ := own1.row hr.1
  rw [hn'.out] at own1 hc1 ⊢
  go_wp2
  go_loopw [9, 10, 11] (fun q i _ wr => ∃ (j cnt : Nat) (L : List Int), j ≤ 32 ∧ i = .int .i64 j ∧ q = .int .i64 cnt ∧ cnt ≤ j ∧ Own .u8 5 wr w.heap.size (.slice A1 n c1) L ∧ Turned xs L at_ mask j cnt ∧ Below w.heap.size w wr) (fun _ i _ _ => 32 - (intOf i).toNat)
  case atStart => exact ⟨0, 0, xs, by omega, rfl, rfl, by omega, own1, Turned.zero xs at_ mask hr.1, bel1⟩
  case round =>
    obtain ⟨j, cnt, L, hj, rfl, rfl, hcj, own2, tur, bel2⟩ := hrel
    by_cases hlt : j < 32
    · by_cases hbit : mask.testBit j = true
      · have ht := mask_yes mask j hbit
        by_cases hin : at_ + j < 8 * n
        · have tur2 := tur.yes hbit (by rw [hn'.out]; exact hin) _ (turn_byte (nth L ((at_ + j) / 8)) ((at_ + j) % 8) (tur.wf _ (nth_mem L _ (by rw [tur.len, hn'.out]; omega))) (by omega))
          have hq : (at_ + j) / 8 < n := by omega
          have hq' : ((at_ : Int) + (j : Int)) / 8 < (n : Int) := by omega
          obtain ⟨g, rfl⟩ : ∃ g, A1 = some ⟨g, 0, none⟩ := by
            rcases own2.2 with ⟨h0, hz⟩ | ⟨g, cap, cur, h0, _⟩
            · have := tur.len; have := hn'.out; omega
            · injection h0 with h0; exact ⟨g, h0⟩
          have hLl := tur.len
          have own3 : wr.ownsRow w.heap.size 5 1 (.slice (some ⟨g, 0, none⟩) n c1) n (L.map (Value.int .u8)) := by
            have h := own2
            unfold Own at h
            rw [hLl, hn'.out] at h
            exact h
          have hcell := own3.cellAt ((at_ + j) / 8) (by omega)
          rw [List.getElem?_map, List.getElem?_eq_getElem (by have := hn'.out; omega), ← nth_eq L _ (by have := hn'.out; omega)] at hcell
          have hcell' : wr.cell? ⟨g, (at_ + j) / 8, none⟩ = some (.int .u8 (nth L ((at_ + j) / 8))) := hcell
          have hfz := own3.frozenAt ((at_ + j) / 8)
          have HO := Lib.hid own3
          clear hcell own3 hLl own1
          have hst := HO.out.stored ((at_ + j) / 8) (.int .u8 (bits .xor .u8 (nth L ((at_ + j) / 8)) (2 ^ ((at_ + j) % 8) % 256)))
          have own4 : Own .u8 5 (wr.setCell ⟨g, (at_ + j) / 8, none⟩ (.int .u8 (bits .xor .u8 (nth L ((at_ + j) / 8)) (2 ^ ((at_ + j) % 8) % 256)))) w.heap.size (.slice (some ⟨g, 0, none⟩) n c1) (L.set ((at_ + j) / 8) (bits .xor .u8 (nth L ((at_ + j) / 8)) (2 ^ ((at_ + j) % 8) % 256))) := by
            have h := hst.1
            unfold Own
            rw [List.map_set, List.length_set, tur.len, hn'.out]
            exact h
          have bel4 : Below w.heap.size w (wr.setCell ⟨g, (at_ + j) / 8, none⟩ (.int .u8 (bits .xor .u8 (nth L ((at_ + j) / 8)) (2 ^ ((at_ + j) % 8) % 256)))) := bel2.setCell (own2.block g rfl).1 _
          clear hst
          go_wp2
          go_roundw
          case rel => exact ⟨j + 1, cnt + 1, _, by omega, by go_num, by go_num, by omega, own4, tur2, bel4⟩
          case measure => simp [intOf]; omega
        · have tur2 := tur.no (by rw [hn'.out]; exact fun h => hin h.2)
          have hq' : ¬ ((at_ : Int) + (j : Int)) / 8 < (n : Int) := by omega
          go_wp2
          go_roundw
          case rel => exact ⟨j + 1, cnt, L, by omega, by go_num, rfl, by omega, own2, tur2, bel2⟩
          case measure => simp [intOf]; omega
      · have ht := mask_no mask j hbit
        have tur2 := tur.no (fun h => hbit h.1)
        clear hbit
        go_wp2
        go_roundw
        case rel => exact ⟨j + 1, cnt, L, by omega, by go_num, rfl, by omega, own2, tur2, bel2⟩
        case measure => simp [intOf]; omega
    · obtain rfl : j = 32 := by omega
      go_wp2
      go_ret2
      exact ⟨_, L, cnt, rfl, own2, tur, by omega, bel2⟩
end Go.Proofs.Ytogjamcefiegaaa
