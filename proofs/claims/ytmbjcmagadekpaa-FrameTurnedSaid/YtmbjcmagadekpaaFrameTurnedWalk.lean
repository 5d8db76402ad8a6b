/-
  The walk of FrameTurned.
-/
import Derived.Test.YtmbjcmagadekpaaFrTurn
import Derived.Test.YtmbjcmagadekpaaTurnB
import Derived.Test.YtmbjcmagadekpaaPick
import Derived.Test.YtmbjcmagadekpaaFrKnown
namespace Go.Proofs.Ytmbjcmagadekpaa
open Go.RowKit
set_option linter.unusedVariables false

set_option maxHeartbeats 4000000 in
set_option maxRecDepth 100000 in
theorem walk_FrameTurned (u : Int) (l : List Int) (A : Option Addr) (n c : Nat) (at_ mask : Int) (w : World) (w0 : Row .u8 w w.heap.size A l) (n0 : l.length = n) (s0 : n ≤ c) (m0 : c ≤ 140737488351232) (wu : (Lit.int .u8 u).wf = true) (wa : (Lit.int .i64 at_).wf = true) (wm : (Lit.int .u16 mask).wf = true) :
    Calls Try.prog 11 #[.agg #[.int .u8 u, .slice A n c, .int .i64 at_, .int .u16 mask]] w fun e w' => e = .returned (.bool true) ∧ Below w.heap.size w w' := by
  have hm := wf_u16 wm
  obtain ⟨mk, rfl⟩ := Int.eq_ofNat_of_zero_le hm.1
  have hmask : mk < 65536 := by omega
  have bx0 := Bx.new w (.cells #[.int .u8 u, .slice A n c, .int .i64 at_, .int .u16 mk] 70)
  have hn := Lib.hid n0
  have hwf := Lib.hid w0.1
  have WU := Lib.hid wu
  have WA := Lib.hid wa
  have hu8 := wf_u8 wu
  have R0 := Lib.hid ((w0.below bx0.2).more (Nat.le_of_lt bx0.lt))
  have W0 := Lib.hid w0
  clear hm wm n0 w0 wu wa
  obtain ⟨E, hE⟩ : ∃ E, Hid (rtuE u l = E) := ⟨_, Lib.hid rfl⟩
  go_enter Try.func11, Try.ntmps11
  go_wp2_with fail
  refine (rtu_any _ _ _ u l _ R0.out hn.out).mono ?_
  rintro e w1 ⟨A1, m1, g1, rfl, hm1, hg1, li1, b1⟩
  rw [hE.out]
  have HM1 := Lib.hid hm1
  have bx1 := bx0.below b1
  have hg1' : w.heap.size < g1 := by have := bx0.lt; omega
  clear bx0 b1 R0 hm1 hg1
  by_cases hE0 : E = 0
  · subst hE0
    obtain ⟨hlen, h4, h256⟩ := sealed_len hE.out
    have HL : Hid (rtuL u l = sealed16 (u :: l)) := Lib.hid (by rw [rtuL, hE.out]; rfl)
    rw [HL.out] at HM1 li1
    have hm3 : m1 = l.length + 3 := by rw [← HM1.out, hlen]
    have hm4 : 4 ≤ m1 ∧ m1 ≤ 256 := by omega
    have k1 : Bk w1 g1 (sealed16 (u :: l)) := by
      rcases li1 with ⟨h1, h2⟩ | ⟨h1, h2⟩
      · omega
      · rw [List.append_nil] at h2; exact h2
    obtain rfl : A1 = some ⟨g1, 0, none⟩ := by
      rcases li1 with ⟨h1, h2⟩ | ⟨h1, h2⟩
      · omega
      · exact h1
    have HWS := Lib.hid (sealed16_wf (wf_cons hwf.out WU.out))
    clear hlen h4 h256 li1 hm3
    obtain ⟨d0, d1, d2, d3⟩ : w1.cell? ⟨w.heap.size, 0, none⟩ = some (.int .u8 u) ∧ w1.cell? ⟨w.heap.size, 1, none⟩ = some (.slice A n c) ∧ w1.cell? ⟨w.heap.size, 2, none⟩ = some (.int .i64 at_) ∧ w1.cell? ⟨w.heap.size, 3, none⟩ = some (.int .u16 mk) :=
      ⟨cell_of_row _ _ 0 _ _ _ bx1.1, cell_of_row _ _ 1 _ _ _ bx1.1, cell_of_row _ _ 2 _ _ _ bx1.1, cell_of_row _ _ 3 _ _ _ bx1.1⟩
    go_wp2_with fail
    rw [show (8 * (m1 : Int)) = ((8 * m1 : Nat) : Int) by omega]
    refine (Pick_any at_ (8 * m1) _ (by omega) (by omega)).mono ?_
    rintro e w2 ⟨rfl, rfl⟩
    obtain ⟨p, hp⟩ : ∃ p, Hid (pick at_ (8 * m1) = p) := ⟨_, Lib.hid rfl⟩
    have hpl : p < 8 * m1 := by rw [← hp.out]; exact pick_lt _ _ (by omega)
    rw [hp.out]
    clear d0 d1 d2 d3
    go_wp2
    go_loopw [6, 7, 8] (fun q i _ wr => ∃ (j cnt : Nat) (L : List Int), j ≤ 16 ∧ i = .int .i64 j ∧ q = .int .i64 cnt ∧ cnt ≤ j ∧ Hid (Bk wr g1 L) ∧ Turned (sealed16 (u :: l)) L p mk j cnt ∧ Bx w w.heap.size (.cells #[.int .u8 u, .slice A n c, .int .i64 at_, .int .u16 mk] 70 (0, 0)) wr) (fun _ i _ _ => 16 - (intOf i).toNat)
    case atStart => exact ⟨0, 0, _, by omega, rfl, rfl, by omega, Lib.hid k1, Turned.zero _ p mk HWS.out, bx1⟩
    case round =>
      obtain ⟨j, cnt, L, hj, rfl, rfl, hcj, k2, tur, bx2⟩ := hrel
      have d3 : wr.cell? ⟨w.heap.size, 3, none⟩ = some (.int .u16 mk) := cell_of_row _ _ 3 _ _ _ bx2.1
      by_cases hlt : j < 16
      · by_cases hbit : mk.testBit j = true
        · have ht := mask_yes mk j hbit
          by_cases hin : p + j < 8 * m1
          · have tur2 := tur.yes hbit (by rw [HM1.out]; exact hin) _ (turn_byte (nth L ((p + j) / 8)) ((p + j) % 8) (tur.wf _ (nth_mem L _ (by rw [tur.len, HM1.out]; omega))) (by omega))
            have hq : (p + j) / 8 < m1 := by omega
            have hq' : ((p : Int) + (j : Int)) / 8 < (m1 : Int) := by omega
            have hlL : L.length = m1 := by rw [tur.len, HM1.out]
            have hcell : wr.cell? ⟨g1, (p + j) / 8, none⟩ = some (.int .u8 (nth L ((p + j) / 8))) := by rw [cell_of_row wr g1 _ _ _ _ k2.out, blk_get _ _ _ (by omega)]
            have hfz := block_frozen wr g1 ((p + j) / 8) _ _ k2.out
            have k3 := Lib.hid (block_setCell wr g1 ((p + j) / 8) .u8 5 _ (bits .xor .u8 (nth L ((p + j) / 8)) (2 ^ ((p + j) % 8) % 256)) k2.out)
            have bx3 := bx2.set hg1' ((p + j) / 8) (.int .u8 (bits .xor .u8 (nth L ((p + j) / 8)) (2 ^ ((p + j) % 8) % 256)))
            clear hlL
            go_wp2
            go_roundw
            case rel => exact ⟨j + 1, cnt + 1, _, by omega, by go_num, by go_num, by omega, k3, tur2, bx3⟩
            case measure => simp [intOf]; omega
          · have tur2 := tur.no (by rw [HM1.out]; exact fun h => hin h.2)
            have hq' : ¬ ((p : Int) + (j : Int)) / 8 < (m1 : Int) := by omega
            go_wp2
            go_roundw
            case rel => exact ⟨j + 1, cnt, L, by omega, by go_num, rfl, by omega, k2, tur2, bx2⟩
            case measure => simp [intOf]; omega
        · have ht := mask_no mk j hbit
          have tur2 := tur.no (fun h => hbit h.1)
          clear hbit
          go_wp2
          go_roundw
          case rel => exact ⟨j + 1, cnt, L, by omega, by go_num, rfl, by omega, k2, tur2, bx2⟩
          case measure => simp [intOf]; omega
      · obtain rfl : j = 16 := by omega
        have hlL : L.length = m1 := by rw [tur.len, HM1.out]
        have HLL := Lib.hid hlL
        have rL := Lib.hid (Row.more (Row.of_block k2.out L tur.wf (List.prefix_refl _)) (block_lt k2.out))
        have bel2 : Below w.heap.size w wr := bx2.2
        have rl : Hid (Row .u8 wr wr.heap.size A l) := Lib.hid ((W0.out.below bel2).more bel2.size)
        have hsame : cnt = 0 → ortE L = 0 ∧ ortU L = u ∧ ortL L = l := fun h => by rw [tur.same HWS.out h]; exact ort_sealed hwf.out WU.out hE.out
        have hturn : cnt ≠ 0 → ortE L = 5 ∧ ortU L = 0 ∧ ortL L = [] := fun h => ort_turned tur hwf.out WU.out hE.out h
        have HSAME := Lib.hid hsame
        have HTURN := Lib.hid hturn
        clear hlL k2 tur hsame hturn d3
        go_wp2_with fail
        refine (ort_any _ _ _ L _ rL.out HLL.out (Nat.le_refl _)).mono ?_
        rintro e w3 ⟨A3, m3, g3, rfl, hm3, hg3, x3, b3⟩
        have bx3 := bx2.below b3
        have rl3 := Lib.hid ((rl.out.below b3).more b3.size)
        have HM3 := Lib.hid hm3
        clear bx2 b3 rL rl hm3 hg3 bel2
        by_cases hc : cnt = 0
        · subst hc
          obtain ⟨v1, v2, v3⟩ := HSAME.out rfl
          rw [v1, v2]
          rw [v3] at x3 HM3
          have q3 := Lib.hid (x3.row HM3.out hwf.out)
          have hnm : n = m3 := by rw [← hn.out, HM3.out]
          subst hnm
          obtain ⟨d0, d1⟩ : w3.cell? ⟨w.heap.size, 0, none⟩ = some (.int .u8 u) ∧ w3.cell? ⟨w.heap.size, 1, none⟩ = some (.slice A n c) := ⟨cell_of_row _ _ 0 _ _ _ bx3.1, cell_of_row _ _ 1 _ _ _ bx3.1⟩
          have t1 : (u == u) = true := by simp
          clear v1 v2 v3 x3 HM3 HSAME HTURN
          go_wp2_with fail
          refine (same_yes_u8 _ _ _ _ _ l _ _ _ q3.out rl3.out hn.out (by omega)).mono ?_
          rintro e w4 ⟨rfl, m4, rfl⟩
          have bel4 := below_drewN bx3.2 m4
          clear bx3 d0 d1 q3 rl3
          generalize w3.drewN m4 = w4 at *
          go_wp2_with fail
          refine (known5_yes _).mono ?_
          rintro e w5 ⟨rfl, b5⟩
          go_wp2
          go_ret
          exact ⟨rfl, bel4.trans (b5.mono bel4.size)⟩
        · obtain ⟨v1, v2, v3⟩ := HTURN.out hc
          rw [v1, v2]
          rw [v3] at HM3
          obtain rfl : m3 = 0 := HM3.out.symm
          have t1 : ((cnt : Int) == 0) = false := beq_false_of_ne (by omega)
          have bel3 := bx3.2
          clear v1 v2 v3 x3 HM3 HSAME HTURN hc bx3
          go_wp2_with fail
          refine (known5_yes _).mono ?_
          rintro e w5 ⟨rfl, b5⟩
          go_wp2
          go_ret
          exact ⟨rfl, bel3.trans (b5.mono bel3.size)⟩
  · have u1 : (E != 0) = true := by simpa using hE0
    have u2 : (E == 0) = false := beq_false_of_ne hE0
    have bel1 := bx1.2
    clear hE0 li1
    go_wp2_with fail
    refine (known5_yes _).mono ?_
    rintro e w5 ⟨rfl, b5⟩
    go_wp2
    go_ret
    exact ⟨rfl, bel1.trans (b5.mono bel1.size)⟩
end Go.Proofs.Ytmbjcmagadekpaa
