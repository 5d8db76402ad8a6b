/-
  Texts of the proof of PlanKnown, joined.
-/
import Derived.Test.YtcmbdhmhkfhjfaaGreatJPlanKnownF
import Derived.Test.YtcmbdhmhkfhjfaaGreatJPlanKnownC
import Derived.Test.YtcmbdhmhkfhjfaaGreatJPlanKnownE
import Derived.Test.YtcmbdhmhkfhjfaaGreatJPlanKnownD
import Derived.Test.YtcmbdhmhkfhjfaaGreatProg
import Derived.Test.YtcmbdhmhkfhjfaaGreatJPlanKnownA
import Derived.Laws.CopyOwn
import Derived.IntWalk
import Derived.Deep.RegionLaw
import Derived.Deep.RegionWith
namespace Go.Proofs.YtcmbdhmhkfhjfaaGreat
open Go.RowKit
set_option linter.unusedVariables false

theorem or_far (x y : Nat) (hy : y < 65536) : (x * 65536) ||| y = x * 65536 + y := by
  have h := Nat.two_pow_add_eq_or_of_lt (i := 16) (b := y) (by omega) x
  rw [Nat.mul_comm x 65536]
  exact h.symm
theorem or_words (x y : Int) (hx : 0 ≤ x ∧ x < 65536) (hy : 0 ≤ y ∧ y < 65536) : bits .or .i64 (x * 65536) y = x * 65536 + y ∧ bits .or .i64 y (x * 65536) = x * 65536 + y := by
  obtain ⟨a, rfl⟩ := Int.eq_ofNat_of_zero_le hx.1
  obtain ⟨b, rfl⟩ := Int.eq_ofNat_of_zero_le hy.1
  have e1 : (a : Int) * 65536 = ((a * 65536 : Nat) : Int) := by omega
  have f1 : (BitVec.ofInt 64 ((a * 65536 : Nat) : Int)).toNat = a * 65536 := by rw [BitVec.ofInt_natCast, BitVec.toNat_ofNat]; exact Nat.mod_eq_of_lt (by omega)
  have f2 : (BitVec.ofInt 64 ((b : Nat) : Int)).toNat = b := by rw [BitVec.ofInt_natCast, BitVec.toNat_ofNat]; exact Nat.mod_eq_of_lt (by omega)
  constructor
  · show IntKind.i64.wrap ((BitVec.ofInt 64 ((a : Int) * 65536) ||| BitVec.ofInt 64 (b : Int)).toNat : Int) = _
    rw [e1, BitVec.toNat_or, f1, f2, or_far a b (by omega)]
    exact IntWalk.i64_in _ (by omega)
  · show IntKind.i64.wrap ((BitVec.ofInt 64 (b : Int) ||| BitVec.ofInt 64 ((a : Int) * 65536)).toNat : Int) = _
    rw [e1, BitVec.toNat_or, f1, f2, Nat.or_comm, or_far a b (by omega)]
    exact IntWalk.i64_in _ (by omega)
theorem or_zero (x : Int) (hx : 0 ≤ x ∧ x < 4294967296) : bits .or .i64 0 x = x := by
  obtain ⟨a, rfl⟩ := Int.eq_ofNat_of_zero_le hx.1
  have f1 : (BitVec.ofInt 64 ((a : Nat) : Int)).toNat = a := by rw [BitVec.ofInt_natCast, BitVec.toNat_ofNat]; exact Nat.mod_eq_of_lt (by omega)
  have f0 : (BitVec.ofInt 64 (0 : Int)).toNat = 0 := rfl
  show IntKind.i64.wrap ((BitVec.ofInt 64 (0 : Int) ||| BitVec.ofInt 64 (a : Int)).toNat : Int) = _
  rw [BitVec.toNat_or, f1, f0, Nat.zero_or]
  exact IntWalk.i64_in _ (by omega)

theorem nth_wf (xs : List Int) (h : ∀ x ∈ xs, (Lit.int .u16 x).wf = true) (i : Nat) : 0 ≤ nth xs i ∧ nth xs i < 65536 := by
  by_cases hi : i < xs.length
  · exact wf_u16 (h _ (nth_mem xs i hi))
  · simp [nth, List.getD_eq_getElem?_getD, List.getElem?_eq_none (Nat.le_of_not_lt hi)]
def accS (wd sw : Bool) (x y : Int) (k : Nat) : Int := if k = 0 then 0 else if wd then (if sw then (if k = 1 then x else y * 65536 + x) else (if k = 1 then x * 65536 else x * 65536 + y)) else x

theorem acc_step (wd sg sw : Bool) (mu di ad : Int) (x y : Int) (hx : 0 ≤ x ∧ x < 65536) (hy : 0 ≤ y ∧ y < 65536) (k : Nat) (hk : k < cntS (⟨wd, sg, sw, mu, di, ad⟩ : Sc)) (hsw : sw = true → wd = true) (z : Int) (hz : z = if k = 0 then x else y) :
    bits .or .i64 (accS wd sw x y k) (IntKind.i64.wrap (z * 2 ^ shfS wd sw k)) = accS wd sw x y (k + 1) := by
  have hk2 : k = 0 ∨ (k = 1 ∧ wd = true) := by cases wd <;> simp [cntS] at hk <;> simp <;> omega
  have w0 : ∀ v : Int, 0 ≤ v → v < 4294967296 → IntKind.i64.wrap v = v := fun v h1 h2 => IntWalk.i64_in _ (by omega)
  rcases hk2 with rfl | ⟨rfl, rfl⟩
  · have e0 : z = x := hz
    subst e0
    cases wd
    · cases sw
      · simp only [accS, shfS, if_true, Bool.false_eq_true, if_false, Nat.zero_add, Int.pow_zero, Int.mul_one, Nat.one_ne_zero]
        rw [w0 z hx.1 (by omega), or_zero z (by omega)]
      · cases hsw rfl
    · cases sw
      · simp only [accS, shfS, if_true, Bool.false_eq_true, if_false, Nat.zero_add, Nat.one_ne_zero]
        rw [show (2 : Int) ^ (16 * (1 - 0)) = 65536 from rfl, w0 _ (by omega) (by omega), or_zero _ (by omega)]
      · simp only [accS, shfS, if_true, Nat.zero_add, Nat.mul_zero, Int.pow_zero, Int.mul_one, Nat.one_ne_zero, if_false]
        rw [w0 z hx.1 (by omega), or_zero z (by omega)]
  · have e0 : z = y := hz
    subst e0
    cases sw
    · simp only [accS, shfS, if_true, Bool.false_eq_true, if_false, Nat.one_ne_zero, show (1 + 1 : Nat) ≠ 0 by omega, show (1 + 1 : Nat) ≠ 1 by omega]
      rw [show (2 : Int) ^ (16 * (1 - 1)) = 1 from rfl, Int.mul_one, w0 z hy.1 (by omega), (or_words x z hx hy).1]
    · simp only [accS, shfS, if_true, if_false, Nat.one_ne_zero, show (1 + 1 : Nat) ≠ 0 by omega, show (1 + 1 : Nat) ≠ 1 by omega]
      rw [show (2 : Int) ^ (16 * 1) = 65536 from rfl, w0 _ (by omega) (by omega), (or_words z x hy hx).2]
set_option maxHeartbeats 1000000 in
theorem Raw_any (wd sg sw : Bool) (mu di ad : Int) (A : Option Addr) (n c : Nat) (xs : List Int) (w : World) (hr : Row .u16 w w.heap.size A xs) (hn : xs.length = n) (hb : n ≤ 1000000) : Calls Tryz.prog 54 #[.agg #[.bool wd, .bool sg, .bool sw, .int .i64 mu, .int .i64 di, .int .i64 ad], .slice A n c] w fun e w' => e = .returned (.tuple #[.int .i64 (rawN (⟨wd, sg, sw, mu, di, ad⟩ : Sc) xs), .int .i64 (rawE (⟨wd, sg, sw, mu, di, ad⟩ : Sc) xs)]) ∧ Below w.heap.size w w' := by
  have bx0 := Bx.new w (.cells #[.bool wd, .bool sg, .bool sw, .int .i64 mu, .int .i64 di, .int .i64 ad] 45)
  by_cases hok : Sc.Ok (⟨wd, sg, sw, mu, di, ad⟩ : Sc)
  · have HC := Lib.hid (chkS_yes hok)
    have HN := Lib.hid hn
    by_cases hlen : n = cntS (⟨wd, sg, sw, mu, di, ad⟩ : Sc)
    · have HE : Hid (rawE (⟨wd, sg, sw, mu, di, ad⟩ : Sc) xs = 0) := Lib.hid (by unfold rawE; rw [if_pos hok, if_pos (by rw [HN.out]; exact hlen)])
      have HR : Hid (rawN (⟨wd, sg, sw, mu, di, ad⟩ : Sc) xs = signS (⟨wd, sg, sw, mu, di, ad⟩ : Sc) (baseS (⟨wd, sg, sw, mu, di, ad⟩ : Sc) xs)) := Lib.hid (by unfold rawN; rw [if_pos HE.out])
      have hlb := low_bound wd sg sw mu di ad
      have hsw : sw = true → wd = true := hok.2.2.2.2
      have HK := Lib.hid hlen
      have hn2 : n ≤ 2 ∧ 1 ≤ n := by rw [hlen]; cases wd <;> simp [cntS]
      obtain ⟨X, hX⟩ : ∃ X, Hid (nth xs 0 = X) := ⟨_, Lib.hid rfl⟩
      obtain ⟨Y, hY⟩ : ∃ Y, Hid (nth xs 1 = Y) := ⟨_, Lib.hid rfl⟩
      have hXb : 0 ≤ X ∧ X < 65536 := by rw [← hX.out]; exact nth_wf xs hr.1 0
      have hYb : 0 ≤ Y ∧ Y < 65536 := by rw [← hY.out]; exact nth_wf xs hr.1 1
      have HA : Hid (baseS (⟨wd, sg, sw, mu, di, ad⟩ : Sc) xs = accS wd sw X Y n) := Lib.hid (by
        rw [← hX.out, ← hY.out, hlen]
        cases wd <;> cases sw <;> first | rfl | (cases hsw rfl))
      obtain ⟨B, hB⟩ : ∃ B, Hid (accS wd sw X Y n = B) := ⟨_, Lib.hid rfl⟩
      have hBb : 0 ≤ B ∧ B < 4294967296 := by
        rw [← hB.out, hlen]; cases wd <;> cases sw <;> simp [accS, cntS] <;> omega
      have HS := Lib.hid (fun k (hk : k < n) z hz => acc_step wd sg sw mu di ad X Y hXb hYb k (by rw [← HK.out]; exact hk) hsw z hz)
      rw [HA.out, hB.out] at HR
      obtain ⟨lo, hlo⟩ : ∃ l, Hid (lowS (⟨wd, sg, sw, mu, di, ad⟩ : Sc) = l) := ⟨_, Lib.hid rfl⟩
      obtain ⟨m, hm⟩ : ∃ m, Hid (many6 (⟨wd, sg, sw, mu, di, ad⟩ : Sc) = m) := ⟨_, Lib.hid rfl⟩
      rw [hlo.out, hm.out] at hlb
      have HR2 : Hid (rawN (⟨wd, sg, sw, mu, di, ad⟩ : Sc) xs = if lo + m - 1 < B then B - m else B) := Lib.hid (by rw [HR.out, signS, hlo.out, hm.out])
      have t0 : ((n : Int) != ((cntS (⟨wd, sg, sw, mu, di, ad⟩ : Sc) : Nat) : Int)) = false := by rw [← HK.out]; simp
      obtain ⟨r1, r2, r3, r4, r5⟩ := hlb
      obtain ⟨k0, hk0⟩ : ∃ k, Hid (cntS (⟨wd, sg, sw, mu, di, ad⟩ : Sc) = k) := ⟨_, Lib.hid rfl⟩
      rw [hk0.out] at t0
      clear hok hn hlen HR HA
      have HROW := Lib.hid hr
      clear hr
      go_enter Tryz.func54, Tryz.ntmps54
      go_wp2_with fail
      refine (Check6_any wd sg sw mu di ad _).mono ?_
      rintro e w1 ⟨rfl, b1⟩
      rw [HC.out]
      have bx1 := bx0.below b1
      obtain ⟨d0, d1, d2, d3, d4, d5⟩ := bx1.six
      go_wp2_with fail
      refine (count_any wd sg sw mu di ad _).mono ?_
      rintro e w2 ⟨rfl, b2⟩
      rw [hk0.out]
      have bx2 := bx1.below b2
      clear d0 d1 d2 d3 d4 d5 b1 b2 bx0 bx1
      go_wp2
      go_loopw [7, 8, 9, 22] (fun a _ _ i wr => ∃ k : Nat, k ≤ n ∧ i = .int .i64 k ∧ a = .int .i64 (accS wd sw X Y k) ∧ Bx w w.heap.size (.cells #[.bool wd, .bool sg, .bool sw, .int .i64 mu, .int .i64 di, .int .i64 ad] 45 (0, 0)) wr) (fun _ _ _ i _ => n - (intOf i).toNat)
      case atStart => exact ⟨0, by omega, rfl, rfl, bx2⟩
      case round =>
        clear bx2
        obtain ⟨k, hk, rfl, rfl, bx3⟩ := hrel
        obtain ⟨d0, d1, d2, d3, d4, d5⟩ := bx3.six
        by_cases hlt : k < n
        · obtain ⟨b, o, rfl, hb1, hc1⟩ := (HROW.out.below bx3.2).at_ (i := k) (by rw [HN.out]; exact hlt)
          have hz : nth xs k = if k = 0 then X else Y := by rw [← hX.out, ← hY.out]; rcases (show k = 0 ∨ k = 1 by omega) with rfl | rfl <;> rfl
          obtain ⟨z, hzz⟩ : ∃ z, Hid (nth xs k = z) := ⟨_, Lib.hid rfl⟩
          have zb : 0 ≤ z ∧ z < 65536 := by rw [← hzz.out]; exact nth_wf xs HROW.out.1 k
          have HST := Lib.hid (HS.out k hlt z (by rw [← hzz.out]; exact hz))
          rw [hzz.out] at hc1
          clear hz
          obtain ⟨q, hq⟩ : ∃ q, Hid (accS wd sw X Y k = q) := ⟨_, Lib.hid rfl⟩
          rw [hq.out]
          go_wp2_with fail
          refine (shift_any wd sg sw mu di ad k (by rw [← HK.out]; exact hlt) _).mono ?_
          rintro e w3 ⟨rfl, b3⟩
          have bx4 := bx3.below b3
          obtain ⟨sh, hsh⟩ : ∃ sh, Hid (shfS wd sw k = sh) := ⟨_, Lib.hid rfl⟩
          have hsb : sh < 64 := by
            rw [← hsh.out]; rcases (show k = 0 ∨ k = 1 by omega) with rfl | rfl <;> cases sw <;> cases wd <;> decide
          have hst := HST.out
          rw [hq.out, hsh.out] at hst
          rw [hsh.out]
          clear d0 d1 d2 d3 d4 d5 b3 bx3 hc1 hb1
          go_wp2
          go_roundw
          case rel => exact ⟨k + 1, by omega, by go_num, by rw [← hst]; rw [IntWalk.i64_left], bx4⟩
          case measure => simp [intOf]; omega
        · obtain rfl : k = n := by omega
          rw [hB.out]
          go_wp2_with fail
          refine (highest_any wd sg sw mu di ad _).mono ?_
          rintro e w4 ⟨rfl, b4⟩
          rw [hlo.out, hm.out]
          have bx4 := bx3.below b4
          obtain ⟨d0, d1, d2, d3, d4, d5⟩ := bx4.six
          by_cases hneg : lo + m - 1 < B
          · have HR3 : Hid (rawN (⟨wd, sg, sw, mu, di, ad⟩ : Sc) xs = B - m) := Lib.hid (by rw [HR2.out, if_pos hneg])
            have hneg2 : B > lo + m - 1 := hneg
            go_wp2_with fail
            refine (span_any wd sg sw mu di ad _).mono ?_
            rintro e w5 ⟨rfl, b5⟩
            rw [hm.out]
            have bel5 := (bx4.below b5).2
            go_wp2
            go_ret2
            exact ⟨by rw [HR3.out, HE.out]; rfl, bel5⟩
          · have HR3 : Hid (rawN (⟨wd, sg, sw, mu, di, ad⟩ : Sc) xs = B) := Lib.hid (by rw [HR2.out, if_neg hneg])
            have bel4 := bx4.2
            go_wp2
            go_ret2
            exact ⟨by rw [HR3.out, HE.out]; rfl, bel4⟩
    · have HE : Hid (rawE (⟨wd, sg, sw, mu, di, ad⟩ : Sc) xs = 22) := Lib.hid (by unfold rawE; rw [if_pos hok, if_neg (by rw [HN.out]; exact hlen)])
      have HR : Hid (rawN (⟨wd, sg, sw, mu, di, ad⟩ : Sc) xs = 0) := Lib.hid (by unfold rawN; rw [if_neg (by rw [HE.out]; omega)])
      obtain ⟨k, hk⟩ : ∃ k, Hid (cntS (⟨wd, sg, sw, mu, di, ad⟩ : Sc) = k) := ⟨_, Lib.hid rfl⟩
      rw [hk.out] at hlen
      have t0 : ((n : Int) != (k : Int)) = true := by simp; omega
      clear hok hn hr hlen
      go_enter Tryz.func54, Tryz.ntmps54
      go_wp2_with fail
      refine (Check6_any wd sg sw mu di ad _).mono ?_
      rintro e w1 ⟨rfl, b1⟩
      rw [HC.out]
      have bx1 := bx0.below b1
      obtain ⟨d0, d1, d2, d3, d4, d5⟩ := bx1.six
      go_wp2_with fail
      refine (count_any wd sg sw mu di ad _).mono ?_
      rintro e w2 ⟨rfl, b2⟩
      rw [hk.out]
      have bel2 := (bx1.below b2).2
      go_wp2
      go_ret2
      exact ⟨by rw [HR.out, HE.out]; rfl, bel2⟩
  · have HC := Lib.hid (chkS_no hok)
    have HE : Hid (rawE (⟨wd, sg, sw, mu, di, ad⟩ : Sc) xs = 25) := Lib.hid (by unfold rawE; rw [if_neg hok])
    have HR : Hid (rawN (⟨wd, sg, sw, mu, di, ad⟩ : Sc) xs = 0) := Lib.hid (by unfold rawN; rw [if_neg (by rw [HE.out]; omega)])
    clear hok hn hr
    go_enter Tryz.func54, Tryz.ntmps54
    go_wp2_with fail
    refine (Check6_any wd sg sw mu di ad _).mono ?_
    rintro e w1 ⟨rfl, b1⟩
    rw [HC.out]
    have bel1 := (bx0.below b1).2
    go_wp2
    go_ret2
    exact ⟨by rw [HR.out, HE.out]; rfl, bel1⟩
end Go.Proofs.YtcmbdhmhkfhjfaaGreat
namespace Go.Proofs.YtcmbdhmhkfhjfaaGreat
open Go.RowKit
set_option linter.unusedVariables false

set_option maxHeartbeats 2000000 in
theorem refRaw_any (wd sg sw : Bool) (mu di ad : Int) (A : Option Addr) (n c : Nat) (xs : List Int) (w : World) (hr : Row .u16 w w.heap.size A xs) (hn : xs.length = n) (hb : n ≤ 1000000) : Calls Tryz.prog 62 #[.agg #[.bool wd, .bool sg, .bool sw, .int .i64 mu, .int .i64 di, .int .i64 ad], .slice A n c] w fun e w' => e = .returned (.tuple #[.int .i64 (rawN (⟨wd, sg, sw, mu, di, ad⟩ : Sc) xs), .int .i64 (rawE (⟨wd, sg, sw, mu, di, ad⟩ : Sc) xs)]) ∧ Below w.heap.size w w' := by
  have bx0 := Bx.new w (.cells #[.bool wd, .bool sg, .bool sw, .int .i64 mu, .int .i64 di, .int .i64 ad] 45)
  by_cases hok : Sc.Ok (⟨wd, sg, sw, mu, di, ad⟩ : Sc)
  · have HC := Lib.hid (chkS_yes hok)
    have HN := Lib.hid hn
    by_cases hlen : n = cntS (⟨wd, sg, sw, mu, di, ad⟩ : Sc)
    · have HE : Hid (rawE (⟨wd, sg, sw, mu, di, ad⟩ : Sc) xs = 0) := Lib.hid (by unfold rawE; rw [if_pos hok, if_pos (by rw [HN.out]; exact hlen)])
      have HR : Hid (rawN (⟨wd, sg, sw, mu, di, ad⟩ : Sc) xs = signS (⟨wd, sg, sw, mu, di, ad⟩ : Sc) (baseS (⟨wd, sg, sw, mu, di, ad⟩ : Sc) xs)) := Lib.hid (by unfold rawN; rw [if_pos HE.out])
      have hsw : sw = true → wd = true := hok.2.2.2.2
      obtain ⟨X, hX⟩ : ∃ X, Hid (nth xs 0 = X) := ⟨_, Lib.hid rfl⟩
      obtain ⟨Y, hY⟩ : ∃ Y, Hid (nth xs 1 = Y) := ⟨_, Lib.hid rfl⟩
      have hXb : 0 ≤ X ∧ X < 65536 := by rw [← hX.out]; exact nth_wf xs hr.1 0
      have hYb : 0 ≤ Y ∧ Y < 65536 := by rw [← hY.out]; exact nth_wf xs hr.1 1
      obtain ⟨m, hm⟩ : ∃ m, Hid (many6 (⟨wd, sg, sw, mu, di, ad⟩ : Sc) = m) := ⟨_, Lib.hid rfl⟩
      obtain ⟨B, hB⟩ : ∃ B, Hid (baseS (⟨wd, sg, sw, mu, di, ad⟩ : Sc) xs = B) := ⟨_, Lib.hid rfl⟩
      have hBm : 0 ≤ B ∧ B < m ∧ m ≤ 4294967296 := by
        rw [← hB.out, ← hm.out]
        unfold baseS many6
        rw [hX.out, hY.out]
        cases wd <;> cases sw <;> simp only [if_true, Bool.false_eq_true, if_false] <;> first | (cases hsw rfl; done) | omega
      have HL : Hid (lowS (⟨wd, sg, sw, mu, di, ad⟩ : Sc) = if sg then -(m / 2) else 0) := Lib.hid (by unfold lowS; rw [hm.out])
      have HR2 : Hid (rawN (⟨wd, sg, sw, mu, di, ad⟩ : Sc) xs = if sg = true ∧ m ≤ 2 * B then B - m else B) := Lib.hid (by
        rw [HR.out, signS, HL.out, hm.out, hB.out]
        have hm2 : m % 2 = 0 := by rw [← hm.out]; unfold many6; split <;> rfl
        cases sg
        · simp only [Bool.false_eq_true, if_false, false_and]; rw [if_neg (by omega)]
        · simp only [if_true, true_and]
          by_cases h : m ≤ 2 * B
          · rw [if_pos (by omega), if_pos h]
          · rw [if_neg (by omega), if_neg h])
      have HBD : Hid (B = if wd then (if sw then Y * 65536 + X else X * 65536 + Y) else X) := Lib.hid (by rw [← hB.out, ← hX.out, ← hY.out]; rfl)
      have HROW := Lib.hid hr
      clear hok hr HR HL hB
      cases wd
      case false =>
        have hsw2 : sw = false := by cases sw; rfl; cases hsw rfl
        subst hsw2
        have hBX : X = B := HBD.out.symm
        have hn1 : n = 1 := hlen
        subst hn1
        clear hsw hn HBD hlen
        obtain ⟨b, o, rfl, hb1, hc1⟩ := HROW.out.at_ (i := 0) (by rw [HN.out]; omega)
        rw [hX.out, hBX, Nat.add_zero] at hc1
        subst hBX
        go_enter Tryz.func62, Tryz.ntmps62
        go_wp2_with fail
        refine (refCheck6_any _ _ _ _ _ _ _).mono ?_
        rintro e w1 ⟨rfl, b1⟩
        rw [HC.out]
        have bx1 := bx0.below b1
        obtain ⟨d0, d1, d2, d3, d4, d5⟩ := bx1.six
        have bel1 := bx1.2
        have hc2 := (bel1.cell (p := ⟨b, o, none⟩) hb1).trans hc1
        cases sg
        case false =>
          have HR3 : Hid (rawN ⟨false, false, false, mu, di, ad⟩ xs = X) := Lib.hid (by rw [HR2.out, if_neg (by simp)])
          go_wp2
          go_ret2
          exact ⟨by rw [HR3.out, HE.out]; rfl, bel1⟩
        case true =>
          go_wp2_with fail
          refine (Many_any _ _ _ _ _ _ _).mono ?_
          rintro e w2 ⟨rfl, b2⟩
          rw [hm.out]
          have bx2 := bx1.below b2
          obtain ⟨d0, d1, d2, d3, d4, d5⟩ := bx2.six
          have bel2 := bx2.2
          by_cases hge : m ≤ 2 * (X)
          · have HR3 : Hid (rawN ⟨false, true, false, mu, di, ad⟩ xs = X - m) := Lib.hid (by rw [HR2.out, if_pos ⟨by trivial, hge⟩])
            have hge2 : 2 * (X) ≥ m := hge
            go_wp2_with fail
            refine (Many_any _ _ _ _ _ _ _).mono ?_
            rintro e w3 ⟨rfl, b3⟩
            rw [hm.out]
            have bel3 := (bx2.below b3).2
            go_wp2
            go_ret2
            exact ⟨by rw [HR3.out, HE.out]; rfl, bel3⟩
          · have HR3 : Hid (rawN ⟨false, true, false, mu, di, ad⟩ xs = X) := Lib.hid (by rw [HR2.out, if_neg (fun h => hge h.2)])
            go_wp2
            go_ret2
            exact ⟨by rw [HR3.out, HE.out]; rfl, bel2⟩
      case true =>
        have hn2 : n = 2 := hlen
        subst hn2
        clear hn hlen
        obtain ⟨b, o, rfl, hb1, hc1⟩ := HROW.out.at_ (i := 0) (by rw [HN.out]; omega)
        obtain ⟨b', o', e2, _, hf1⟩ := HROW.out.at_ (i := 1) (by rw [HN.out]; omega)
        injection e2 with e2
        injection e2 with e2 e3
        subst e2 e3
        rw [hX.out, Nat.add_zero] at hc1
        rw [hY.out] at hf1
        cases sw
        case false =>
          have hBX : B = X * 65536 + Y := HBD.out
          subst hBX
          go_enter Tryz.func62, Tryz.ntmps62
          go_wp2_with fail
          refine (refCheck6_any _ _ _ _ _ _ _).mono ?_
          rintro e w1 ⟨rfl, b1⟩
          rw [HC.out]
          have bx1 := bx0.below b1
          obtain ⟨d0, d1, d2, d3, d4, d5⟩ := bx1.six
          have bel1 := bx1.2
          have hc2 := (bel1.cell (p := ⟨b, o, none⟩) hb1).trans hc1
          have hf2 := (bel1.cell (p := ⟨b, o + 1, none⟩) hb1).trans hf1
          cases sg
          case false =>
            have HR3 : Hid (rawN ⟨true, false, false, mu, di, ad⟩ xs = X * 65536 + Y) := Lib.hid (by rw [HR2.out, if_neg (by simp)])
            go_wp2
            go_ret2
            exact ⟨by rw [HR3.out, HE.out]; rfl, bel1⟩
          case true =>
            go_wp2_with fail
            refine (Many_any _ _ _ _ _ _ _).mono ?_
            rintro e w2 ⟨rfl, b2⟩
            rw [hm.out]
            have bx2 := bx1.below b2
            obtain ⟨d0, d1, d2, d3, d4, d5⟩ := bx2.six
            have bel2 := bx2.2
            by_cases hge : m ≤ 2 * (X * 65536 + Y)
            · have HR3 : Hid (rawN ⟨true, true, false, mu, di, ad⟩ xs = X * 65536 + Y - m) := Lib.hid (by rw [HR2.out, if_pos ⟨by trivial, hge⟩])
              have hge2 : 2 * (X * 65536 + Y) ≥ m := hge
              go_wp2_with fail
              refine (Many_any _ _ _ _ _ _ _).mono ?_
              rintro e w3 ⟨rfl, b3⟩
              rw [hm.out]
              have bel3 := (bx2.below b3).2
              go_wp2
              go_ret2
              exact ⟨by rw [HR3.out, HE.out]; rfl, bel3⟩
            · have HR3 : Hid (rawN ⟨true, true, false, mu, di, ad⟩ xs = X * 65536 + Y) := Lib.hid (by rw [HR2.out, if_neg (fun h => hge h.2)])
              go_wp2
              go_ret2
              exact ⟨by rw [HR3.out, HE.out]; rfl, bel2⟩
        case true =>
          have hBX : B = Y * 65536 + X := HBD.out
          subst hBX
          go_enter Tryz.func62, Tryz.ntmps62
          go_wp2_with fail
          refine (refCheck6_any _ _ _ _ _ _ _).mono ?_
          rintro e w1 ⟨rfl, b1⟩
          rw [HC.out]
          have bx1 := bx0.below b1
          obtain ⟨d0, d1, d2, d3, d4, d5⟩ := bx1.six
          have bel1 := bx1.2
          have hc2 := (bel1.cell (p := ⟨b, o, none⟩) hb1).trans hc1
          have hf2 := (bel1.cell (p := ⟨b, o + 1, none⟩) hb1).trans hf1
          cases sg
          case false =>
            have HR3 : Hid (rawN ⟨true, false, true, mu, di, ad⟩ xs = Y * 65536 + X) := Lib.hid (by rw [HR2.out, if_neg (by simp)])
            go_wp2
            go_ret2
            exact ⟨by rw [HR3.out, HE.out]; rfl, bel1⟩
          case true =>
            go_wp2_with fail
            refine (Many_any _ _ _ _ _ _ _).mono ?_
            rintro e w2 ⟨rfl, b2⟩
            rw [hm.out]
            have bx2 := bx1.below b2
            obtain ⟨d0, d1, d2, d3, d4, d5⟩ := bx2.six
            have bel2 := bx2.2
            by_cases hge : m ≤ 2 * (Y * 65536 + X)
            · have HR3 : Hid (rawN ⟨true, true, true, mu, di, ad⟩ xs = Y * 65536 + X - m) := Lib.hid (by rw [HR2.out, if_pos ⟨by trivial, hge⟩])
              have hge2 : 2 * (Y * 65536 + X) ≥ m := hge
              go_wp2_with fail
              refine (Many_any _ _ _ _ _ _ _).mono ?_
              rintro e w3 ⟨rfl, b3⟩
              rw [hm.out]
              have bel3 := (bx2.below b3).2
              go_wp2
              go_ret2
              exact ⟨by rw [HR3.out, HE.out]; rfl, bel3⟩
            · have HR3 : Hid (rawN ⟨true, true, true, mu, di, ad⟩ xs = Y * 65536 + X) := Lib.hid (by rw [HR2.out, if_neg (fun h => hge h.2)])
              go_wp2
              go_ret2
              exact ⟨by rw [HR3.out, HE.out]; rfl, bel2⟩
    · have HE : Hid (rawE (⟨wd, sg, sw, mu, di, ad⟩ : Sc) xs = 22) := Lib.hid (by unfold rawE; rw [if_pos hok, if_neg (by rw [HN.out]; exact hlen)])
      have HR : Hid (rawN (⟨wd, sg, sw, mu, di, ad⟩ : Sc) xs = 0) := Lib.hid (by unfold rawN; rw [if_neg (by rw [HE.out]; omega)])
      clear hok hn hr
      cases wd
      case false =>
        have hlen2 : n ≠ 1 := hlen
        have t0 : ((n : Int) != 1) = true := by simp; omega
        clear hlen hlen2
        go_enter Tryz.func62, Tryz.ntmps62
        go_wp2_with fail
        refine (refCheck6_any _ _ _ _ _ _ _).mono ?_
        rintro e w1 ⟨rfl, b1⟩
        rw [HC.out]
        have bx1 := bx0.below b1
        obtain ⟨d0, d1, d2, d3, d4, d5⟩ := bx1.six
        have bel1 := bx1.2
        go_wp2
        go_ret2
        exact ⟨by rw [HR.out, HE.out]; rfl, bel1⟩
      case true =>
        have hlen2 : n ≠ 2 := hlen
        have t0 : ((n : Int) != 2) = true := by simp; omega
        clear hlen hlen2
        go_enter Tryz.func62, Tryz.ntmps62
        go_wp2_with fail
        refine (refCheck6_any _ _ _ _ _ _ _).mono ?_
        rintro e w1 ⟨rfl, b1⟩
        rw [HC.out]
        have bx1 := bx0.below b1
        obtain ⟨d0, d1, d2, d3, d4, d5⟩ := bx1.six
        have bel1 := bx1.2
        go_wp2
        go_ret2
        exact ⟨by rw [HR.out, HE.out]; rfl, bel1⟩
  · have HC := Lib.hid (chkS_no hok)
    have HE : Hid (rawE (⟨wd, sg, sw, mu, di, ad⟩ : Sc) xs = 25) := Lib.hid (by unfold rawE; rw [if_neg hok])
    have HR : Hid (rawN (⟨wd, sg, sw, mu, di, ad⟩ : Sc) xs = 0) := Lib.hid (by unfold rawN; rw [if_neg (by rw [HE.out]; omega)])
    clear hok hn hr
    go_enter Tryz.func62, Tryz.ntmps62
    go_wp2_with fail
    refine (refCheck6_any wd sg sw mu di ad _).mono ?_
    rintro e w1 ⟨rfl, b1⟩
    rw [HC.out]
    have bel1 := (bx0.below b1).2
    go_wp2
    go_ret2
    exact ⟨by rw [HR.out, HE.out]; rfl, bel1⟩
end Go.Proofs.YtcmbdhmhkfhjfaaGreat
namespace Go.Proofs.YtcmbdhmhkfhjfaaGreat
open Go.RowKit
set_option linter.unusedVariables false

def put4 (w : World) (g : Nat) (v0 v1 v2 v3 : Value) : World := (((w.setCell ⟨g, 0, none⟩ v0).setCell ⟨g, 1, none⟩ v1).setCell ⟨g, 2, none⟩ v2).setCell ⟨g, 3, none⟩ v3
theorem put4_heap {w : World} {g : Nat} {t : TypeId} {u0 u1 u2 u3 : Value} (h : w.heap[g]? = some (.cells #[u0, u1, u2, u3] t (0, 0))) (v0 v1 v2 v3 : Value) :
    (put4 w g v0 v1 v2 v3).heap[g]? = some (.cells #[v0, v1, v2, v3] t (0, 0)) := box_set (box_set (box_set (box_set h 0 v0) 1 v1) 2 v2) 3 v3
theorem below_put4 {B : Nat} {a w : World} {g : Nat} (h : Below B a w) (hg : B ≤ g) (v0 v1 v2 v3 : Value) : Below B a (put4 w g v0 v1 v2 v3) :=
  below_setCell (below_setCell (below_setCell (below_setCell h hg 0 v0) hg 1 v1) hg 2 v2) hg 3 v3
theorem TB.put4 {w0 w : World} {B : Nat} {o1 : Obj} {t : TypeId} {u0 u1 u2 u3 : Value} (h : TB w0 B o1 (.cells #[u0, u1, u2, u3] t (0, 0)) w) (v0 v1 v2 v3 : Value) :
    (put4 w (B + 1) v0 v1 v2 v3).heap[B + 1]? = some (.cells #[v0, v1, v2, v3] t (0, 0)) ∧ Below B w0 (put4 w (B + 1) v0 v1 v2 v3) :=
  ⟨put4_heap h.box v0 v1 v2 v3, below_put4 h.bel (Nat.le_succ _) v0 v1 v2 v3⟩

def RpGot (w : World) (r : Rep) (E : Int) (e : Ending) (w' : World) : Prop :=
  ∃ (Bo Bs Bf : Option Addr) (mo ms mf eo es ef : Nat), e = .returned (.tuple #[.agg #[.int .i64 r.x, .slice Bo mo eo, .slice Bs ms es, .slice Bf mf ef], .int .i64 E]) ∧ Repd w' w'.heap.size r Bo Bs Bf mo ms mf ∧ Below w.heap.size w w'
end Go.Proofs.YtcmbdhmhkfhjfaaGreat
namespace Go.Proofs.YtcmbdhmhkfhjfaaGreat
open Go.RowKit
set_option linter.unusedVariables false
theorem TB.below2 {w0 w w' : World} {B z : Nat} {o1 o2 : Obj} (h : TB w0 B o1 o2 w) (hb : Below z w w') (hz : B + 1 < z) : TB w0 B o1 o2 w' :=
  ⟨(hb.block B (by omega)).trans h.ret, (hb.block (B + 1) hz).trans h.box, h.bel.trans (hb.mono (by omega))⟩

end Go.Proofs.YtcmbdhmhkfhjfaaGreat
namespace Go.Proofs.YtcmbdhmhkfhjfaaGreat
open Go.RowKit
set_option linter.unusedVariables false
theorem TB.far {w0 w : World} {B g : Nat} {o1 o2 : Obj} (h : TB w0 B o1 o2 w) (hg : B + 1 < g) (i : Nat) (v : Value) : TB w0 B o1 o2 (w.setCell ⟨g, i, none⟩ v) :=
  ⟨(Below.heap_setCell w ⟨g, i, none⟩ v B (by simp; omega)).trans h.ret, (Below.heap_setCell w ⟨g, i, none⟩ v (B + 1) (by simp; omega)).trans h.box, below_setCell h.bel (by omega) i v⟩
end Go.Proofs.YtcmbdhmhkfhjfaaGreat
namespace Go.Proofs.YtcmbdhmhkfhjfaaGreat
open Go.RowKit
set_option linter.unusedVariables false

end Go.Proofs.YtcmbdhmhkfhjfaaGreat
namespace Go.Proofs.YtcmbdhmhkfhjfaaGreat
open Go.RowKit
set_option linter.unusedVariables false

theorem Bx.four {w0 w : World} {g : Nat} {t : TypeId} {v0 v1 v2 v3 : Value} (h : Bx w0 g (.cells #[v0, v1, v2, v3] t (0, 0)) w) :
    w.cell? ⟨g, 0, none⟩ = some v0 ∧ w.cell? ⟨g, 1, none⟩ = some v1 ∧ w.cell? ⟨g, 2, none⟩ = some v2 ∧ w.cell? ⟨g, 3, none⟩ = some v3 :=
  ⟨cell_of_row w g 0 _ _ _ h.1, cell_of_row w g 1 _ _ _ h.1, cell_of_row w g 2 _ _ _ h.1, cell_of_row w g 3 _ _ _ h.1⟩

def sumMin (fs : List (List Int)) : Nat → Nat
  | 0 => 0
  | k + 1 => sumMin fs k + min (nthF fs k).length 70000
theorem sumMin_le (fs : List (List Int)) (k j : Nat) : sumMin fs k ≤ sumMin fs (k + j) := by
  induction j with
  | zero => exact Nat.le_refl _
  | succ j ih => exact Nat.le_trans ih (by rw [Nat.add_succ, sumMin]; omega)
def longR (mo ms mf : Nat) (fs : List (List Int)) : Bool := decide (70000 < mo ∨ 70000 < ms ∨ 1000 < mf ∨ 70000 < sumMin fs mf)
def longA (lo ls lp : Nat) : Bool := decide (70000 < lo ∨ 70000 < ls ∨ 70000 < lp)

set_option maxHeartbeats 1000000 in
theorem LongReply_any (r : Rep) (Bo Bs Bf : Option Addr) (mo ms mf eo es ef : Nat) (w : World) (hr : Repd w w.heap.size r Bo Bs Bf mo ms mf) :
    Calls Tryz.prog 5 #[.agg #[.int .i64 r.x, .slice Bo mo eo, .slice Bs ms es, .slice Bf mf ef]] w fun e w' => e = .returned (.bool (longR mo ms mf r.fs)) ∧ Below w.heap.size w w' := by
  have bx := Bx.new w (.cells #[.int .i64 r.x, .slice Bo mo eo, .slice Bs ms es, .slice Bf mf ef] 30)
  have HF := Lib.hid hr.fs
  have HMF := Lib.hid hr.mf
  clear hr
  obtain ⟨v, hv⟩ : ∃ v, Hid (longR mo ms mf r.fs = v) := ⟨_, Lib.hid rfl⟩
  rw [hv.out]
  by_cases h1 : 70000 < mo
  · have h1' : (70000 : Int) < (mo : Int) := by omega
    have HVT : Hid (v = true) := Lib.hid (by rw [← hv.out]; exact decide_eq_true (by omega))
    go_enter Tryz.func5, Tryz.ntmps5
    go_wp2
    go_ret
    exact ⟨by rw [HVT.out]; rfl, bx.2⟩
  have h1' : ¬ (70000 : Int) < (mo : Int) := by omega
  by_cases h2 : 70000 < ms
  · have h2' : (70000 : Int) < (ms : Int) := by omega
    have HVT : Hid (v = true) := Lib.hid (by rw [← hv.out]; exact decide_eq_true (by omega))
    go_enter Tryz.func5, Tryz.ntmps5
    go_wp2
    go_ret
    exact ⟨by rw [HVT.out]; rfl, bx.2⟩
  have h2' : ¬ (70000 : Int) < (ms : Int) := by omega
  by_cases h3 : 1000 < mf
  · have h3' : (1000 : Int) < (mf : Int) := by omega
    have HVT : Hid (v = true) := Lib.hid (by rw [← hv.out]; exact decide_eq_true (by omega))
    go_enter Tryz.func5, Tryz.ntmps5
    go_wp2
    go_ret
    exact ⟨by rw [HVT.out]; rfl, bx.2⟩
  have h3' : ¬ (1000 : Int) < (mf : Int) := by omega
  have HVS : Hid (v = decide (70000 < sumMin r.fs mf)) := Lib.hid (by rw [← hv.out]; unfold longR; congr 1; rw [eq_iff_iff]; omega)
  go_enter Tryz.func5, Tryz.ntmps5
  go_wp2
  go_loopw [3, 4] (fun n i wr => ∃ k s : Nat, k ≤ mf ∧ i = .int .i64 k ∧ n = .int .i64 s ∧ s ≤ 70000 ∧ Hid (sumMin r.fs k = s) ∧ Bx w w.heap.size (.cells #[.int .i64 r.x, .slice Bo mo eo, .slice Bs ms es, .slice Bf mf ef] 30 (0, 0)) wr) (fun _ i _ => mf - (intOf i).toNat)
  case atStart => exact ⟨0, 0, by omega, rfl, rfl, by omega, Lib.hid rfl, bx⟩
  case round =>
    clear bx
    obtain ⟨k, s, hk, rfl, rfl, hs, hsum, bx⟩ := hrel
    obtain ⟨d0, d1, d2, d3⟩ := bx.four
    by_cases hlt : k < mf
    · obtain ⟨b, o, hA, hb, hc⟩ := HF.out (by have := HMF.out; omega)
      obtain ⟨Ai, ci, hci, _, _⟩ := hc k (by have := HMF.out; omega)
      subst hA
      obtain ⟨z, hz⟩ : ∃ z, (nthF r.fs k).length = z := ⟨_, rfl⟩
      have HZ := Lib.hid hz
      rw [hz] at hci
      have hci2 := (bx.2.cell (p := ⟨b, o + k, none⟩) hb).trans hci
      clear hci hc hz
      by_cases hz7 : z ≤ 70000
      · have hz8 : (z : Int) ≤ 70000 := by omega
        have ea : IntKind.i64.wrap ((s : Int) + (z : Int)) = (s : Int) + (z : Int) := IntWalk.i64_in _ (by omega)
        by_cases hgt : 70000 < s + z
        · have hgt' : (70000 : Int) < (s : Int) + (z : Int) := by omega
          have HVT : Hid (v = true) := Lib.hid (by
            rw [HVS.out]
            refine decide_eq_true ?_
            have h5 := sumMin_le r.fs (k + 1) (mf - (k + 1))
            rw [show k + 1 + (mf - (k + 1)) = mf by omega, sumMin, hsum.out, HZ.out] at h5
            omega)
          go_wp2
          go_ret
          exact ⟨by rw [HVT.out]; rfl, bx.2⟩
        · have hgt' : ¬ (70000 : Int) < (s : Int) + (z : Int) := by omega
          go_wp2
          go_roundw
          case rel => exact ⟨k + 1, s + z, by omega, by go_num, by first | rfl | go_num | (congr 1; omega), by omega, Lib.hid (by rw [sumMin, hsum.out, HZ.out]; omega), bx⟩
          case measure => simp [intOf]; omega
      · have hz8 : ¬ (z : Int) ≤ 70000 := by omega
        have ea : IntKind.i64.wrap ((s : Int) + 70000) = (s : Int) + 70000 := IntWalk.i64_in _ (by omega)
        by_cases hgt : 70000 < s + 70000
        · have hgt' : (70000 : Int) < (s : Int) + 70000 := by omega
          have HVT : Hid (v = true) := Lib.hid (by
            rw [HVS.out]
            refine decide_eq_true ?_
            have h5 := sumMin_le r.fs (k + 1) (mf - (k + 1))
            rw [show k + 1 + (mf - (k + 1)) = mf by omega, sumMin, hsum.out, HZ.out] at h5
            omega)
          go_wp2
          go_ret
          exact ⟨by rw [HVT.out]; rfl, bx.2⟩
        · have hgt' : ¬ (70000 : Int) < (s : Int) + 70000 := by omega
          go_wp2
          go_roundw
          case rel => exact ⟨k + 1, s + 70000, by omega, by go_num, by first | rfl | go_num | (congr 1; omega), by omega, Lib.hid (by rw [sumMin, hsum.out, HZ.out]; omega), bx⟩
          case measure => simp [intOf]; omega
    · obtain rfl : k = mf := by omega
      have HVF : Hid (v = false) := Lib.hid (by rw [HVS.out, hsum.out]; exact decide_eq_false (by omega))
      go_wp2
      go_ret
      exact ⟨by rw [HVF.out]; rfl, bx.2⟩

end Go.Proofs.YtcmbdhmhkfhjfaaGreat
namespace Go.Proofs.YtcmbdhmhkfhjfaaGreat
open Go.RowKit
set_option linter.unusedVariables false

theorem FRow.at_ {w : World} {B : Nat} {A : Option Addr} {fs : List (List Int)} (h : FRow w B A fs) {i : Nat} (hi : i < fs.length) :
    ∃ b o Ai ci, A = some ⟨b, o, none⟩ ∧ b < B ∧ w.cell? ⟨b, o + i, none⟩ = some (.slice Ai (nthF fs i).length ci) ∧ Row .u16 w B Ai (nthF fs i) ∧ (nthF fs i).length ≤ ci := by
  obtain ⟨b, o, hA, hb, hc⟩ := h (by omega)
  obtain ⟨Ai, ci, h1, h2, h3⟩ := hc i hi
  exact ⟨b, o, Ai, ci, hA, hb, h1, h2, h3⟩
theorem FRow.drewN {w : World} {B : Nat} {A : Option Addr} {fs : List (List Int)} (h : FRow w B A fs) (n : Nat) : FRow (w.drewN n) B A fs := h

set_option maxHeartbeats 1000000 in
theorem SameFiles_yes (A A' : Option Addr) (n c c' : Nat) (fs : List (List Int)) (w : World) (B B' : Nat) (hr : FRow w B A fs) (hr' : FRow w B' A' fs) (hn : fs.length = n) (hb : n ≤ 1000000) (hl : ∀ i, i < n → (nthF fs i).length ≤ 70368744177664) :
    Calls Tryz.prog 38 #[.slice A n c, .slice A' n c'] w fun e w' => e = .returned (.bool true) ∧ ∃ m, w' = w.drewN m := by
  have HR := Lib.hid hr
  have HR' := Lib.hid hr'
  have HN := Lib.hid hn
  have HL := Lib.hid hl
  have t0 : ((n : Int) != (n : Int)) = false := by simp
  clear hr hr' hn hl
  go_enter Tryz.func38, Tryz.ntmps38
  go_wp2
  go_loopw [5] (fun i wr => ∃ k m : Nat, k ≤ n ∧ i = .int .i64 k ∧ wr = w.drewN m) (fun i _ => n - (intOf i).toNat)
  case atStart => exact ⟨0, 0, by omega, rfl, rfl⟩
  case round =>
    obtain ⟨k, m, hk, rfl, hw0⟩ := hrel
    have HW := Lib.hid hw0
    have HRw := Lib.hid (show FRow wr B A fs by rw [hw0]; exact HR.out.drewN m)
    have HRw' := Lib.hid (show FRow wr B' A' fs by rw [hw0]; exact HR'.out.drewN m)
    clear hw0
    by_cases hlt : k < n
    · obtain ⟨b, o, Ai, ci, rfl, hb1, hc1, r1, _⟩ := HRw.out.at_ (i := k) (by have := HN.out; omega)
      obtain ⟨b', o', Ai', ci', rfl, hb1', hc1', r1', _⟩ := HRw'.out.at_ (i := k) (by have := HN.out; omega)
      have hlen := HL.out k hlt
      obtain ⟨xs, hxs⟩ : ∃ xs, nthF fs k = xs := ⟨_, rfl⟩
      rw [hxs] at hc1 hc1' r1 r1' hlen
      obtain ⟨z, hz⟩ : ∃ z, Hid (xs.length = z) := ⟨_, Lib.hid rfl⟩
      rw [hz.out] at hc1 hc1' hlen
      clear hxs
      have HS : Hid (∀ p, Calls Tryz.prog 37 #[.slice Ai z ci, .slice Ai' z ci'] (wr.drewN p) fun e w' => e = .returned (.bool true) ∧ ∃ n, w' = (wr.drewN p).drewN n) := Lib.hid (fun p => W.same_yes_u16 _ _ _ _ _ xs _ _ _ (r1.drewN p) (r1'.drewN p) hz.out hlen)
      go_wp2_with fail
      go_quiet ((go_at_call 37; refine Calls.quiet_of (HS.out _)))
      go_wp2
      go_roundw
      case rel => exact ⟨k + 1, m + nq, by omega, by go_num, by rw [HW.out, World.drewN_drewN]⟩
      case measure => simp [intOf]; omega
    · obtain rfl : k = n := by omega
      go_wp2
      go_ret
      exact ⟨rfl, m, HW.out⟩
end Go.Proofs.YtcmbdhmhkfhjfaaGreat
namespace Go.Proofs.YtcmbdhmhkfhjfaaGreat
open Go.RowKit
set_option linter.unusedVariables false

theorem Own.front {k : IntKind} {e : TypeId} {w : World} {base n c m : Nat} {A : Option Addr} {xs : List Int} (h : Own k e w base (.slice A n c) xs) (hm : m ≤ xs.length) : Own k e w base (.slice A m c) (xs.take m) := by
  rcases h with ⟨h0, ⟨hv, hl⟩ | ⟨g, cap, cur, hv, h1, h2, h3, h4, h5, h6⟩⟩
  · have hx : xs = [] := List.eq_nil_of_length_eq_zero hl
    subst hx
    obtain rfl : m = 0 := by simpa using hm
    injection hv with a b c'
    subst a c'
    exact ⟨by simp, .inl ⟨rfl, rfl⟩⟩
  · injection hv with a b c'
    subst a c'
    refine ⟨by simp, .inr ⟨g, c, cur, ?_, h1, h2, ?_, h4, h5, ?_⟩⟩
    · simp [Nat.min_eq_left hm]
    · simp [Nat.min_eq_left hm]; omega
    · simp only [Nat.mul_one] at h6 ⊢
      have hlen : (xs.take m).length = m := by simp [Nat.min_eq_left hm]
      rw [hlen, List.map_take, ← h6, List.take_take, Nat.min_eq_left hm]

end Go.Proofs.YtcmbdhmhkfhjfaaGreat
namespace Go.Proofs.YtcmbdhmhkfhjfaaGreat
open Go.RowKit
set_option linter.unusedVariables false
end Go.Proofs.YtcmbdhmhkfhjfaaGreat
namespace Go.Proofs.YtcmbdhmhkfhjfaaGreat
open Go.RowKit
set_option linter.unusedVariables false

def fbytes (fs : List (List Int)) : Nat → List Int
  | 0 => []
  | k + 1 => fbytes fs k ++ [((1 + 2 * (nthF fs k).length : Nat) : Int), 6] ++ wbytes (nthF fs k)
end Go.Proofs.YtcmbdhmhkfhjfaaGreat
namespace Go.Proofs.YtcmbdhmhkfhjfaaGreat
open Go.RowKit
set_option linter.unusedVariables false

end Go.Proofs.YtcmbdhmhkfhjfaaGreat
namespace Go.Proofs.YtcmbdhmhkfhjfaaGreat
open Go.RowKit
set_option linter.unusedVariables false

def formR (q : Req) (r : Rep) : List Int :=
  if q.c = 1 ∨ q.c = 2 then q.c :: ((need r.on.length : Nat) : Int) :: pk r.on (need r.on.length)
  else if q.c = 3 ∨ q.c = 4 then q.c :: 2 * (r.set.length : Int) :: wbytes r.set
  else if q.c = 20 then 20 :: (((fbytes r.fs r.fs.length).length : Nat) : Int) :: fbytes r.fs r.fs.length
  else (putL q).take 5
def putR (q : Req) (r : Rep) : List Int := if chkR q r ≠ 0 then [] else if r.x ≠ 0 then [q.c + 128, r.x] else formR q r

end Go.Proofs.YtcmbdhmhkfhjfaaGreat
namespace Go.Proofs.YtcmbdhmhkfhjfaaGreat
open Go.RowKit
set_option linter.unusedVariables false

def lenF (fl : List Int) (i : Nat) : Nat := (nth fl (3 * i + 2)).toNat
def posF (fl : List Int) : Nat → Nat
  | 0 => 2
  | k + 1 => posF fl k + (2 + 2 * lenF fl k)
def fileAt (fl ys : List Int) (i : Nat) : List Int := wwords ((ys.drop (posF fl i + 2)).take (2 * lenF fl i))
def headAt (fl ys : List Int) (i : Nat) : Bool := decide (nth ys (posF fl i) = ((1 + 2 * lenF fl i : Nat) : Int)) && decide (nth ys (posF fl i + 1) = 6)
def filesR (fl ys : List Int) (k : Nat) : List (List Int) := (List.range k).map (fileAt fl ys)
def headsR (fl ys : List Int) : Nat → Bool
  | 0 => true
  | k + 1 => headsR fl ys k && headAt fl ys k
def sizeR (q : Req) : Nat := if q.c = 1 ∨ q.c = 2 then 2 + need q.n.toNat else if q.c = 3 ∨ q.c = 4 then 2 + 2 * q.n.toNat else if q.c = 20 then posF q.fl (q.fl.length / 3) else 5
def rdOkR (q : Req) (ys : List Int) : Bool :=
  if q.c = 1 ∨ q.c = 2 then decide (nth ys 1 = ((need q.n.toNat : Nat) : Int)) && !spareB (ys.drop 2) q.n.toNat
  else if q.c = 3 ∨ q.c = 4 then decide (nth ys 1 = ((2 * q.n.toNat : Nat) : Int))
  else if q.c = 20 then decide (nth ys 1 = ((ys.length - 2 : Nat) : Int)) && headsR q.fl ys (q.fl.length / 3)
  else decide (ys = (putL q).take 5)
def rdR (q : Req) (ys : List Int) : Rep :=
  if q.c = 1 ∨ q.c = 2 then ⟨0, unpk (ys.drop 2) q.n.toNat, [], []⟩
  else if q.c = 3 ∨ q.c = 4 then ⟨0, [], wwords (ys.drop 2), []⟩
  else if q.c = 20 then ⟨0, [], [], filesR q.fl ys (q.fl.length / 3)⟩
  else Rep.zero
def getRE (q : Req) (ys : List Int) : Int :=
  if chkQ q ≠ 0 then chkQ q else if ys.length = 0 then 1
  else if nth ys 0 = q.c + 128 then (if ys.length < 2 then 1 else if 2 < ys.length then 2 else if 1 ≤ nth ys 1 ∧ nth ys 1 ≤ 127 then 0 else 3)
  else if nth ys 0 = q.c then (if ys.length < sizeR q then 1 else if sizeR q < ys.length then 2 else if rdOkR q ys = true then 0 else 4)
  else 20
def getR (q : Req) (ys : List Int) : Rep := if getRE q ys ≠ 0 then Rep.zero else if nth ys 0 = q.c + 128 then ⟨nth ys 1, [], [], []⟩ else rdR q ys

end Go.Proofs.YtcmbdhmhkfhjfaaGreat
namespace Go.Proofs.YtcmbdhmhkfhjfaaGreat
open Go.RowKit
set_option linter.unusedVariables false

def clB (c : Int) : Bool := decide (c = 1 ∨ c = 2)
def clW (c : Int) : Bool := decide (c = 3 ∨ c = 4)
def clF (c : Int) : Bool := decide (c = 20)
theorem refKindBits_any (c a n : Int) (Ao As Ap : Option Addr) (lo co ls cs lp cp : Nat) (w : World) :
    Calls Tryz.prog 58 #[.agg #[.int .i64 c, .int .i64 a, .int .i64 n, .slice Ao lo co, .slice As ls cs, .slice Ap lp cp]] w fun e w' => e = .returned (.bool (clB c)) ∧ Below w.heap.size w w' := by
  have h : clB c = (c == 1 || c == 2) := by by_cases h1 : c = 1 <;> by_cases h2 : c = 2 <;> simp [clB, h1, h2]
  rw [h]
  clear h
  go_enter Tryz.func58, Tryz.ntmps58
  go_wp2
  all_goals (go_ret; refine ⟨?_, bel_alloc _ _⟩; first | rfl | simp [*])
theorem refWords_kind (c a n : Int) (Ao As Ap : Option Addr) (lo co ls cs lp cp : Nat) (w : World) :
    Calls Tryz.prog 59 #[.agg #[.int .i64 c, .int .i64 a, .int .i64 n, .slice Ao lo co, .slice As ls cs, .slice Ap lp cp]] w fun e w' => e = .returned (.bool (clW c)) ∧ Below w.heap.size w w' := by
  have h : clW c = (c == 3 || c == 4) := by by_cases h1 : c = 3 <;> by_cases h2 : c = 4 <;> simp [clW, h1, h2]
  rw [h]
  clear h
  go_enter Tryz.func59, Tryz.ntmps59
  go_wp2
  all_goals (go_ret; refine ⟨?_, bel_alloc _ _⟩; first | rfl | simp [*])
theorem refFiles_kind (c a n : Int) (Ao As Ap : Option Addr) (lo co ls cs lp cp : Nat) (w : World) :
    Calls Tryz.prog 60 #[.agg #[.int .i64 c, .int .i64 a, .int .i64 n, .slice Ao lo co, .slice As ls cs, .slice Ap lp cp]] w fun e w' => e = .returned (.bool (clF c)) ∧ Below w.heap.size w w' := by
  have h : clF c = (c == 20) := by by_cases h1 : c = 20 <;> simp [clF, h1]
  rw [h]
  clear h
  go_enter Tryz.func60, Tryz.ntmps60
  go_wp2
  all_goals (go_ret; refine ⟨?_, bel_alloc _ _⟩; first | rfl | simp [*])

set_option maxHeartbeats 4000000 in
set_option maxRecDepth 100000 in
theorem refRp_bad (q : Req) (r : Rep) (Ao As Ap Bo Bs Bf : Option Addr) (lo ls lp co cs cp mo ms mf eo es ef : Nat) (w : World) (h : Asked w w.heap.size q Ao As Ap lo ls lp) (hr : Repd w w.heap.size r Bo Bs Bf mo ms mf) (hb : lp ≤ 100000) (hk : chkQ q ≠ 0) :
    Calls Tryz.prog 30 #[.agg #[.int .i64 q.c, .int .i64 q.a, .int .i64 q.n, .slice Ao lo co, .slice As ls cs, .slice Ap lp cp], .agg #[.int .i64 r.x, .slice Bo mo eo, .slice Bs ms es, .slice Bf mf ef]] w fun e w' => e = .returned (.int .i64 (chkR q r)) ∧ Below w.heap.size w w' := by
  have tb := TB.new2 w #[.int .i64 q.c, .int .i64 q.a, .int .i64 q.n, .slice Ao lo co, .slice As ls cs, .slice Ap lp cp] #[.int .i64 r.x, .slice Bo mo eo, .slice Bs ms es, .slice Bf mf ef] 68 30
  have hsz : w.heap.size ≤ ((w.alloc (.cells #[.int .i64 q.c, .int .i64 q.a, .int .i64 q.n, .slice Ao lo co, .slice As ls cs, .slice Ap lp cp] 68)).alloc (.cells #[.int .i64 r.x, .slice Bo mo eo, .slice Bs ms es, .slice Bf mf ef] 30)).heap.size := tb.bel.size
  have H0 := Lib.hid h
  have HR0 := Lib.hid hr
  have H := Lib.hid ((h.below tb.bel).more hsz)
  obtain ⟨E, hE⟩ : ∃ E, Hid (chkR q r = E) := ⟨_, Lib.hid rfl⟩
  rw [hE.out]
  have HMO := Lib.hid hr.mo
  have HMS := Lib.hid hr.ms
  have HMF := Lib.hid hr.mf
  obtain ⟨k, hk2⟩ : ∃ k, Hid (chkQ q = k) := ⟨_, Lib.hid rfl⟩
  have HC := Lib.hid (refCheck_any q Ao As Ap lo ls lp co cs cp _ H.out)
  rw [chkQ_of H.out, hk2.out] at HC
  have HE : Hid (E = k) := Lib.hid (by rw [← hE.out]; unfold chkR; rw [if_pos hk]; exact hk2.out)
  rw [hk2.out] at hk
  have u1 : (k != 0) = true := by simpa using hk
  have u2 : (k == 0) = false := beq_false_of_ne hk
  clear h hr hk
  go_enter Tryz.func30, Tryz.ntmps30
  go_wp2_with fail
  refine HC.out.mono ?_
  rintro e w1 ⟨rfl, b1⟩
  have tb := tb.below b1
  clear b1
  obtain ⟨d0, d1, d2, d3, d4⟩ := tb.c4; obtain ⟨r0, r1, r2, r3, r4, r5, r6⟩ := tb.r6
  go_wp2
  go_ret
  exact ⟨by rw [HE.out]; rfl, tb.bel⟩

set_option maxHeartbeats 4000000 in
set_option maxRecDepth 100000 in
theorem refRp_exc (q : Req) (r : Rep) (Ao As Ap Bo Bs Bf : Option Addr) (lo ls lp co cs cp mo ms mf eo es ef : Nat) (w : World) (h : Asked w w.heap.size q Ao As Ap lo ls lp) (hr : Repd w w.heap.size r Bo Bs Bf mo ms mf) (hb : lp ≤ 100000) (hk : chkQ q = 0) (hx : r.x ≠ 0) :
    Calls Tryz.prog 30 #[.agg #[.int .i64 q.c, .int .i64 q.a, .int .i64 q.n, .slice Ao lo co, .slice As ls cs, .slice Ap lp cp], .agg #[.int .i64 r.x, .slice Bo mo eo, .slice Bs ms es, .slice Bf mf ef]] w fun e w' => e = .returned (.int .i64 (chkR q r)) ∧ Below w.heap.size w w' := by
  have tb := TB.new2 w #[.int .i64 q.c, .int .i64 q.a, .int .i64 q.n, .slice Ao lo co, .slice As ls cs, .slice Ap lp cp] #[.int .i64 r.x, .slice Bo mo eo, .slice Bs ms es, .slice Bf mf ef] 68 30
  have hsz : w.heap.size ≤ ((w.alloc (.cells #[.int .i64 q.c, .int .i64 q.a, .int .i64 q.n, .slice Ao lo co, .slice As ls cs, .slice Ap lp cp] 68)).alloc (.cells #[.int .i64 r.x, .slice Bo mo eo, .slice Bs ms es, .slice Bf mf ef] 30)).heap.size := tb.bel.size
  have H0 := Lib.hid h
  have HR0 := Lib.hid hr
  have H := Lib.hid ((h.below tb.bel).more hsz)
  obtain ⟨E, hE⟩ : ∃ E, Hid (chkR q r = E) := ⟨_, Lib.hid rfl⟩
  rw [hE.out]
  have HMO := Lib.hid hr.mo
  have HMS := Lib.hid hr.ms
  have HMF := Lib.hid hr.mf
  have HC := Lib.hid (refCheck_any q Ao As Ap lo ls lp co cs cp _ H.out)
  rw [chkQ_of H.out, hk] at HC
  have HE : Hid ((if 1 ≤ r.x ∧ r.x ≤ 127 then (if anyB mo ms mf = true then 23 else 0) else 3) = E) := Lib.hid (by
    rw [← hE.out]; unfold chkR; rw [if_neg (show ¬ chkQ q ≠ 0 by rw [hk]; simp), if_pos hx, HMO.out, HMS.out, HMF.out])
  have u1 : (r.x != 0) = true := by simpa using hx
  have u2 : (r.x == 0) = false := beq_false_of_ne hx
  clear h hr hk hx
  by_cases h1 : r.x < 1
  · have h1' : Hid (E = 3) := Lib.hid (by rw [← HE.out, if_neg (by omega)])
    go_enter Tryz.func30, Tryz.ntmps30
    go_wp2_with fail
    refine HC.out.mono ?_
    rintro e w1 ⟨rfl, b1⟩
    have tb := tb.below b1
    clear b1
    obtain ⟨d0, d1, d2, d3, d4⟩ := tb.c4; obtain ⟨r0, r1, r2, r3, r4, r5, r6⟩ := tb.r6
    go_wp2
    go_ret
    exact ⟨by rw [h1'.out]; rfl, tb.bel⟩
  by_cases h2 : 127 < r.x
  · have h1' : Hid (E = 3) := Lib.hid (by rw [← HE.out, if_neg (by omega)])
    go_enter Tryz.func30, Tryz.ntmps30
    go_wp2_with fail
    refine HC.out.mono ?_
    rintro e w1 ⟨rfl, b1⟩
    have tb := tb.below b1
    clear b1
    obtain ⟨d0, d1, d2, d3, d4⟩ := tb.c4; obtain ⟨r0, r1, r2, r3, r4, r5, r6⟩ := tb.r6
    go_wp2
    go_ret
    exact ⟨by rw [h1'.out]; rfl, tb.bel⟩
  have HE2 : Hid ((if anyB mo ms mf = true then 23 else 0) = E) := Lib.hid (by rw [← HE.out, if_pos (show 1 ≤ r.x ∧ r.x ≤ 127 from ⟨by omega, by omega⟩)])
  clear HE hE
  by_cases g1 : 0 < mo
  · have g1' : (0 : Int) < (mo : Int) := by omega
    have hl : Hid (E = 23) := Lib.hid (by rw [← HE2.out]; simp [anyB]; omega)
    clear HE2
    go_enter Tryz.func30, Tryz.ntmps30
    go_wp2_with fail
    refine HC.out.mono ?_
    rintro e w1 ⟨rfl, b1⟩
    have tb := tb.below b1
    clear b1
    obtain ⟨d0, d1, d2, d3, d4⟩ := tb.c4; obtain ⟨r0, r1, r2, r3, r4, r5, r6⟩ := tb.r6
    go_wp2
    go_ret
    exact ⟨by rw [hl.out]; rfl, tb.bel⟩
  have g1' : ¬ (0 : Int) < (mo : Int) := by omega
  by_cases g2 : 0 < ms
  · have g2' : (0 : Int) < (ms : Int) := by omega
    have hl : Hid (E = 23) := Lib.hid (by rw [← HE2.out]; simp [anyB]; omega)
    clear HE2
    go_enter Tryz.func30, Tryz.ntmps30
    go_wp2_with fail
    refine HC.out.mono ?_
    rintro e w1 ⟨rfl, b1⟩
    have tb := tb.below b1
    clear b1
    obtain ⟨d0, d1, d2, d3, d4⟩ := tb.c4; obtain ⟨r0, r1, r2, r3, r4, r5, r6⟩ := tb.r6
    go_wp2
    go_ret
    exact ⟨by rw [hl.out]; rfl, tb.bel⟩
  have g2' : ¬ (0 : Int) < (ms : Int) := by omega
  by_cases g3 : 0 < mf
  · have g3' : (0 : Int) < (mf : Int) := by omega
    have hl : Hid (E = 23) := Lib.hid (by rw [← HE2.out]; simp [anyB]; omega)
    clear HE2
    go_enter Tryz.func30, Tryz.ntmps30
    go_wp2_with fail
    refine HC.out.mono ?_
    rintro e w1 ⟨rfl, b1⟩
    have tb := tb.below b1
    clear b1
    obtain ⟨d0, d1, d2, d3, d4⟩ := tb.c4; obtain ⟨r0, r1, r2, r3, r4, r5, r6⟩ := tb.r6
    go_wp2
    go_ret
    exact ⟨by rw [hl.out]; rfl, tb.bel⟩
  · have g3' : ¬ (0 : Int) < (mf : Int) := by omega
    have hl : Hid (E = 0) := Lib.hid (by rw [← HE2.out]; simp [anyB]; omega)
    clear HE2
    go_enter Tryz.func30, Tryz.ntmps30
    go_wp2_with fail
    refine HC.out.mono ?_
    rintro e w1 ⟨rfl, b1⟩
    have tb := tb.below b1
    clear b1
    obtain ⟨d0, d1, d2, d3, d4⟩ := tb.c4; obtain ⟨r0, r1, r2, r3, r4, r5, r6⟩ := tb.r6
    go_wp2
    go_ret
    exact ⟨by rw [hl.out]; rfl, tb.bel⟩
end Go.Proofs.YtcmbdhmhkfhjfaaGreat
namespace Go.Proofs.YtcmbdhmhkfhjfaaGreat
open Go.RowKit
set_option linter.unusedVariables false
def spoil8 (k : Nat) (l : List Int) : List Int := (l.take k).map (bits .xor .u8 · 90) ++ l.drop k
theorem spoil8_length (k : Nat) (l : List Int) : (spoil8 k l).length = l.length := by simp [spoil8]; omega
theorem xor90_wf (x : Int) (h : (Lit.int .u8 x).wf = true) : (Lit.int .u8 (bits .xor .u8 x 90)).wf = true := by
  have hx := wf_u8 h
  obtain ⟨n, rfl⟩ := Int.eq_ofNat_of_zero_le hx.1
  have hn : n < 256 := by omega
  have := u8_xor_nat n 90 hn (by omega)
  show (Lit.int .u8 (bits .xor .u8 (n : Int) ((90 : Nat) : Int))).wf = true
  rw [this]
  have hlt : n ^^^ 90 < 256 := Nat.xor_lt_two_pow (n := 8) hn (by omega)
  simp [Lit.wf, IntKind.min, IntKind.max, IntKind.signed, IntKind.bits]; omega
theorem spoil8_wf (k : Nat) (l : List Int) (h : ∀ x ∈ l, (Lit.int .u8 x).wf = true) : ∀ x ∈ spoil8 k l, (Lit.int .u8 x).wf = true := by
  intro x hx
  rcases List.mem_append.1 hx with hx | hx
  · obtain ⟨y, hy, rfl⟩ := List.mem_map.1 hx
    exact xor90_wf y (h y (List.mem_of_mem_take hy))
  · exact h x (List.mem_of_mem_drop hx)
end Go.Proofs.YtcmbdhmhkfhjfaaGreat
namespace Go.Proofs.YtcmbdhmhkfhjfaaGreat
open Go.RowKit
set_option linter.unusedVariables false
structure Parts (w : World) (B gl m : Nat) (A : Nat → Option Addr) (n c : Nat → Nat) (l r : Nat → List Int) : Prop where
  at_ : ∀ k, k < m → w.cell? ⟨gl, k, none⟩ = some (.slice (A k) (n k) (c k))
  size : ∀ k, k < m → n k ≤ c k ∧ c k ≤ 140737488355328 ∧ (l k).length = c k
  wf : ∀ k, k < m → ∀ x ∈ l k, (Lit.int .u8 x).wf = true
  lies : ∀ k, k < m → (A k = none ∧ n k = 0 ∧ c k = 0) ∨ ∃ g, A k = some ⟨g, 0, none⟩ ∧ B ≤ g ∧ g ≠ gl ∧ w.heap[g]? = some (.cells (blk .u8 (l k ++ r k)) 5 (0, 0))
  apart : ∀ i k, i < m → k < m → i ≠ k → ∀ g, A i = some ⟨g, 0, none⟩ → A k ≠ some ⟨g, 0, none⟩
  gl_lt : gl < w.heap.size

theorem Parts.row {w : World} {B gl m : Nat} {A : Nat → Option Addr} {n c : Nat → Nat} {l r : Nat → List Int} (h : Parts w B gl m A n c l r) {k : Nat} (hk : k < m) :
    Row .u8 w w.heap.size (A k) ((l k).take (n k)) ∧ ((l k).take (n k)).length = n k := by
  have hs := h.size k hk
  refine ⟨?_, by simp; omega⟩
  rcases h.lies k hk with ⟨ha, hn, hc⟩ | ⟨g, ha, _, _, hg⟩
  · rw [hn, List.take_zero]; exact Row.nil _ _ _ _
  · rw [ha]
    exact (Row.of_block hg _ (fun x hx => h.wf k hk x (List.mem_of_mem_take hx)) ((List.take_prefix _ _).trans (List.prefix_append _ _))).more (block_lt hg)
theorem Parts.below {w w' : World} {B gl m : Nat} {A : Nat → Option Addr} {n c : Nat → Nat} {l r : Nat → List Int} (h : Parts w B gl m A n c l r) (hb : Below w.heap.size w w') : Parts w' B gl m A n c l r where
  at_ := fun k hk => (hb.cell (p := ⟨gl, k, none⟩) h.gl_lt).trans (h.at_ k hk)
  size := h.size
  wf := h.wf
  lies := fun k hk => by
    rcases h.lies k hk with h0 | ⟨g, ha, hB, hne, hg⟩
    · exact .inl h0
    · exact .inr ⟨g, ha, hB, hne, (hb.block g (block_lt hg)).trans hg⟩
  apart := h.apart
  gl_lt := Nat.lt_of_lt_of_le h.gl_lt hb.size
theorem Parts.spoil {w w' : World} {B gl m : Nat} {A : Nat → Option Addr} {n c : Nat → Nat} {l r : Nat → List Int} (h : Parts w B gl m A n c l r) {i g : Nat} (hi : i < m) (ha : A i = some ⟨g, 0, none⟩)
    (hg : w'.heap[g]? = some (.cells (blk .u8 (spoil8 (c i) (l i) ++ r i)) 5 (0, 0))) (hgr : w.grownBy w' (some g)) : Parts w' B gl m A n c (fun k => if k = i then spoil8 (c i) (l i) else l k) r where
  at_ := fun k hk => by
    rcases h.lies i hi with ⟨h0, _⟩ | ⟨g', ha', _, hne, _⟩
    · rw [ha] at h0; cases h0
    · rw [ha] at ha'
      injection ha' with ha'
      injection ha' with ha'
      subst ha'
      exact (World.cell?_of_block (hgr.block gl h.gl_lt (fun e => hne (by injection e with e; exact e.symm)))).trans (h.at_ k hk)
  size := fun k hk => by
    have := h.size k hk
    refine ⟨this.1, this.2.1, ?_⟩
    split
    · rename_i e; subst e; rw [spoil8_length]; exact this.2.2
    · exact this.2.2
  wf := fun k hk => by
    show ∀ x ∈ (if k = i then spoil8 (c i) (l i) else l k), _
    split
    · exact spoil8_wf _ _ (h.wf i hi)
    · exact h.wf k hk
  lies := fun k hk => by
    by_cases e : k = i
    · subst e
      rcases h.lies k hi with ⟨h0, _⟩ | ⟨g', ha', hB, hne, _⟩
      · rw [ha] at h0; cases h0
      · rw [ha] at ha'
        injection ha' with ha'
        injection ha' with ha'
        subst ha'
        exact .inr ⟨g, ha, hB, hne, by rw [if_pos rfl]; exact hg⟩
    · rcases h.lies k hk with h0 | ⟨g', ha', hB, hne, hg'⟩
      · exact .inl h0
      · refine .inr ⟨g', ha', hB, hne, ?_⟩
        rw [if_neg e, hgr.block g' (block_lt hg') (fun e' => ?_)]
        · exact hg'
        · injection e' with e'
          subst e'
          exact h.apart k i hk hi e _ ha' ha
  apart := h.apart
  gl_lt := Nat.lt_of_lt_of_le h.gl_lt hgr.size

structure Ent where
  a : Option Nat
  n : Nat
  c : Nat
  l : List Int
  r : List Int
def Ent.none_ : Ent := ⟨none, 0, 0, [], []⟩
def Ent.adr (e : Ent) : Option Addr := e.a.map fun g => ⟨g, 0, none⟩
def Ent.val (e : Ent) : Value := .slice e.adr e.n e.c
structure Ent.Ok (w : World) (B : Nat) (e : Ent) : Prop where
  size : e.n ≤ e.c ∧ e.c ≤ 140737488355328 ∧ e.l.length = e.c
  wf : ∀ x ∈ e.l, (Lit.int .u8 x).wf = true
  lies : (e.a = none ∧ e.n = 0 ∧ e.c = 0) ∨ ∃ g, e.a = some g ∧ B ≤ g ∧ w.heap[g]? = some (.cells (blk .u8 (e.l ++ e.r)) 5 (0, 0))
def Ent.Far (e e' : Ent) : Prop := ∀ g, e.a = some g → e'.a ≠ some g
theorem Ent.adr_some {e : Ent} {g : Nat} (h : e.adr = some ⟨g, 0, none⟩) : e.a = some g := by
  unfold Ent.adr at h
  cases ha : e.a with
  | none => rw [ha] at h; cases h
  | some q => rw [ha] at h; simp at h; rw [h]

theorem parts_of_list (w : World) (B : Nat) (L : List Ent) (t : TypeId) (hok : ∀ e ∈ L, e.Ok w B) (hfar : L.Pairwise Ent.Far) :
    Parts (w.alloc (.cells (L.map Ent.val).toArray t)) B w.heap.size L.length (fun k => (L.getD k Ent.none_).adr) (fun k => (L.getD k Ent.none_).n) (fun k => (L.getD k Ent.none_).c) (fun k => (L.getD k Ent.none_).l) (fun k => (L.getD k Ent.none_).r) where
  at_ := fun k hk => by
    rw [World.cell?_alloc_at _ _ _ _ rfl]
    simp [List.getElem?_eq_getElem hk, List.getD_eq_getElem?_getD, Ent.val]
  size := fun k hk => by
    simp only [List.getD_eq_getElem?_getD, List.getElem?_eq_getElem hk, Option.getD_some]
    exact (hok _ (List.getElem_mem hk)).size
  wf := fun k hk => by
    simp only [List.getD_eq_getElem?_getD, List.getElem?_eq_getElem hk, Option.getD_some]
    exact (hok _ (List.getElem_mem hk)).wf
  lies := fun k hk => by
    simp only [List.getD_eq_getElem?_getD, List.getElem?_eq_getElem hk, Option.getD_some]
    rcases (hok _ (List.getElem_mem hk)).lies with ⟨h1, h2⟩ | ⟨g, h1, h2, h3⟩
    · exact .inl ⟨by rw [Ent.adr, h1]; rfl, h2⟩
    · have := block_lt h3
      exact .inr ⟨g, by rw [Ent.adr, h1]; rfl, h2, by omega, (Below.heap_alloc w _ g this).trans h3⟩
  apart := fun i k hi hk hne g h1 h2 => by
    simp only [List.getD_eq_getElem?_getD, List.getElem?_eq_getElem hi, List.getElem?_eq_getElem hk, Option.getD_some] at h1 h2
    have h1 := Ent.adr_some h1
    have h2 := Ent.adr_some h2
    rcases Nat.lt_or_gt_of_ne hne with h | h
    · exact List.pairwise_iff_getElem.1 hfar i k hi hk h g h1 h2
    · exact List.pairwise_iff_getElem.1 hfar k i hk hi h g h2 h1
  gl_lt := by simp

end Go.Proofs.YtcmbdhmhkfhjfaaGreat
namespace Go.Proofs.YtcmbdhmhkfhjfaaGreat
open Go.RowKit
set_option linter.unusedVariables false
end Go.Proofs.YtcmbdhmhkfhjfaaGreat
namespace Go.Proofs.YtcmbdhmhkfhjfaaGreat
open Go.RowKit
set_option linter.unusedVariables false

end Go.Proofs.YtcmbdhmhkfhjfaaGreat
namespace Go.Proofs.YtcmbdhmhkfhjfaaGreat
open Go.RowKit
set_option linter.unusedVariables false
end Go.Proofs.YtcmbdhmhkfhjfaaGreat
namespace Go.Proofs.YtcmbdhmhkfhjfaaGreat.L
open Go.RowKit
set_option linter.unusedVariables false
set_option linter.unusedVariables false
structure Parts (w : World) (B gl m : Nat) (A : Nat → Option Addr) (n c : Nat → Nat) (l r : Nat → List Bool) : Prop where
  at_ : ∀ k, k < m → w.cell? ⟨gl, k, none⟩ = some (.slice (A k) (n k) (c k))
  size : ∀ k, k < m → n k ≤ c k ∧ c k ≤ 140737488355328 ∧ (l k).length = c k
  wf : ∀ k, k < m → ∀ x ∈ l k, (Lit.bool x).wf = true
  lies : ∀ k, k < m → (A k = none ∧ n k = 0 ∧ c k = 0) ∨ ∃ g, A k = some ⟨g, 0, none⟩ ∧ B ≤ g ∧ g ≠ gl ∧ w.heap[g]? = some (.cells (blk () (l k ++ r k)) 4 (0, 0))
  apart : ∀ i k, i < m → k < m → i ≠ k → ∀ g, A i = some ⟨g, 0, none⟩ → A k ≠ some ⟨g, 0, none⟩
  gl_lt : gl < w.heap.size

theorem Parts.row {w : World} {B gl m : Nat} {A : Nat → Option Addr} {n c : Nat → Nat} {l r : Nat → List Bool} (h : Parts w B gl m A n c l r) {k : Nat} (hk : k < m) :
    Row () w w.heap.size (A k) ((l k).take (n k)) ∧ ((l k).take (n k)).length = n k := by
  have hs := h.size k hk
  refine ⟨?_, by simp; omega⟩
  rcases h.lies k hk with ⟨ha, hn, hc⟩ | ⟨g, ha, _, _, hg⟩
  · rw [hn, List.take_zero]; exact Row.nil _ _ _ _
  · rw [ha]
    exact (Row.of_block hg _ (fun x hx => h.wf k hk x (List.mem_of_mem_take hx)) ((List.take_prefix _ _).trans (List.prefix_append _ _))).more (block_lt hg)
theorem Parts.below {w w' : World} {B gl m : Nat} {A : Nat → Option Addr} {n c : Nat → Nat} {l r : Nat → List Bool} (h : Parts w B gl m A n c l r) (hb : Below w.heap.size w w') : Parts w' B gl m A n c l r where
  at_ := fun k hk => (hb.cell (p := ⟨gl, k, none⟩) h.gl_lt).trans (h.at_ k hk)
  size := h.size
  wf := h.wf
  lies := fun k hk => by
    rcases h.lies k hk with h0 | ⟨g, ha, hB, hne, hg⟩
    · exact .inl h0
    · exact .inr ⟨g, ha, hB, hne, (hb.block g (block_lt hg)).trans hg⟩
  apart := h.apart
  gl_lt := Nat.lt_of_lt_of_le h.gl_lt hb.size
theorem Parts.spoil {w w' : World} {B gl m : Nat} {A : Nat → Option Addr} {n c : Nat → Nat} {l r : Nat → List Bool} (h : Parts w B gl m A n c l r) {i g : Nat} (hi : i < m) (ha : A i = some ⟨g, 0, none⟩)
    (hg : w'.heap[g]? = some (.cells (blk () (spoilL (c i) (l i) ++ r i)) 4 (0, 0))) (hgr : w.grownBy w' (some g)) : Parts w' B gl m A n c (fun k => if k = i then spoilL (c i) (l i) else l k) r where
  at_ := fun k hk => by
    rcases h.lies i hi with ⟨h0, _⟩ | ⟨g', ha', _, hne, _⟩
    · rw [ha] at h0; cases h0
    · rw [ha] at ha'
      injection ha' with ha'
      injection ha' with ha'
      subst ha'
      exact (World.cell?_of_block (hgr.block gl h.gl_lt (fun e => hne (by injection e with e; exact e.symm)))).trans (h.at_ k hk)
  size := fun k hk => by
    have := h.size k hk
    refine ⟨this.1, this.2.1, ?_⟩
    split
    · rename_i e; subst e; rw [spoilL_length]; exact this.2.2
    · exact this.2.2
  wf := fun k hk => by
    show ∀ x ∈ (if k = i then spoilL (c i) (l i) else l k), _
    split
    · exact spoilL_wf _ _ (h.wf i hi)
    · exact h.wf k hk
  lies := fun k hk => by
    by_cases e : k = i
    · subst e
      rcases h.lies k hi with ⟨h0, _⟩ | ⟨g', ha', hB, hne, _⟩
      · rw [ha] at h0; cases h0
      · rw [ha] at ha'
        injection ha' with ha'
        injection ha' with ha'
        subst ha'
        exact .inr ⟨g, ha, hB, hne, by rw [if_pos rfl]; exact hg⟩
    · rcases h.lies k hk with h0 | ⟨g', ha', hB, hne, hg'⟩
      · exact .inl h0
      · refine .inr ⟨g', ha', hB, hne, ?_⟩
        rw [if_neg e, hgr.block g' (block_lt hg') (fun e' => ?_)]
        · exact hg'
        · injection e' with e'
          subst e'
          exact h.apart k i hk hi e _ ha' ha
  apart := h.apart
  gl_lt := Nat.lt_of_lt_of_le h.gl_lt hgr.size

structure Ent where
  a : Option Nat
  n : Nat
  c : Nat
  l : List Bool
  r : List Bool
def Ent.none_ : Ent := ⟨none, 0, 0, [], []⟩
def Ent.adr (e : Ent) : Option Addr := e.a.map fun g => ⟨g, 0, none⟩
def Ent.val (e : Ent) : Value := .slice e.adr e.n e.c
structure Ent.Ok (w : World) (B : Nat) (e : Ent) : Prop where
  size : e.n ≤ e.c ∧ e.c ≤ 140737488355328 ∧ e.l.length = e.c
  wf : ∀ x ∈ e.l, (Lit.bool x).wf = true
  lies : (e.a = none ∧ e.n = 0 ∧ e.c = 0) ∨ ∃ g, e.a = some g ∧ B ≤ g ∧ w.heap[g]? = some (.cells (blk () (e.l ++ e.r)) 4 (0, 0))
def Ent.Far (e e' : Ent) : Prop := ∀ g, e.a = some g → e'.a ≠ some g
theorem Ent.adr_some {e : Ent} {g : Nat} (h : e.adr = some ⟨g, 0, none⟩) : e.a = some g := by
  unfold Ent.adr at h
  cases ha : e.a with
  | none => rw [ha] at h; cases h
  | some q => rw [ha] at h; simp at h; rw [h]

theorem parts_of_list (w : World) (B : Nat) (L : List Ent) (t : TypeId) (hok : ∀ e ∈ L, e.Ok w B) (hfar : L.Pairwise Ent.Far) :
    Parts (w.alloc (.cells (L.map Ent.val).toArray t)) B w.heap.size L.length (fun k => (L.getD k Ent.none_).adr) (fun k => (L.getD k Ent.none_).n) (fun k => (L.getD k Ent.none_).c) (fun k => (L.getD k Ent.none_).l) (fun k => (L.getD k Ent.none_).r) where
  at_ := fun k hk => by
    rw [World.cell?_alloc_at _ _ _ _ rfl]
    simp [List.getElem?_eq_getElem hk, List.getD_eq_getElem?_getD, Ent.val]
  size := fun k hk => by
    simp only [List.getD_eq_getElem?_getD, List.getElem?_eq_getElem hk, Option.getD_some]
    exact (hok _ (List.getElem_mem hk)).size
  wf := fun k hk => by
    simp only [List.getD_eq_getElem?_getD, List.getElem?_eq_getElem hk, Option.getD_some]
    exact (hok _ (List.getElem_mem hk)).wf
  lies := fun k hk => by
    simp only [List.getD_eq_getElem?_getD, List.getElem?_eq_getElem hk, Option.getD_some]
    rcases (hok _ (List.getElem_mem hk)).lies with ⟨h1, h2⟩ | ⟨g, h1, h2, h3⟩
    · exact .inl ⟨by rw [Ent.adr, h1]; rfl, h2⟩
    · have := block_lt h3
      exact .inr ⟨g, by rw [Ent.adr, h1]; rfl, h2, by omega, (Below.heap_alloc w _ g this).trans h3⟩
  apart := fun i k hi hk hne g h1 h2 => by
    simp only [List.getD_eq_getElem?_getD, List.getElem?_eq_getElem hi, List.getElem?_eq_getElem hk, Option.getD_some] at h1 h2
    have h1 := Ent.adr_some h1
    have h2 := Ent.adr_some h2
    rcases Nat.lt_or_gt_of_ne hne with h | h
    · exact List.pairwise_iff_getElem.1 hfar i k hi hk h g h1 h2
    · exact List.pairwise_iff_getElem.1 hfar k i hk hi h g h2 h1
  gl_lt := by simp

end Go.Proofs.YtcmbdhmhkfhjfaaGreat.L
namespace Go.Proofs.YtcmbdhmhkfhjfaaGreat.L
open Go.RowKit
set_option linter.unusedVariables false
set_option linter.unusedVariables false
theorem Li.ent {w : World} {A : Option Addr} {m g B : Nat} {l r : List Bool} (h : Li w A m g l r) (hm : l.length = m) (hw : ∀ x ∈ l, (Lit.bool x).wf = true) (hB : B ≤ g) (hmm : m ≤ 140737488351232) :
    ∃ E : Ent, E.val = .slice A m m ∧ E.Ok w B ∧ (E.a = none ∨ E.a = some g) ∧ (A = none → E.a = none) := by
  rcases h with ⟨h1, h2⟩ | ⟨h1, h2⟩
  · subst h1 h2
    exact ⟨⟨none, 0, 0, l, r⟩, rfl, ⟨⟨Nat.le_refl _, by show 0 ≤ _; omega, hm⟩, hw, .inl ⟨rfl, rfl, rfl⟩⟩, .inl rfl, fun _ => rfl⟩
  · subst h1
    exact ⟨⟨some g, m, m, l, r⟩, rfl, ⟨⟨Nat.le_refl _, by show m ≤ _; omega, hm⟩, hw, .inr ⟨g, rfl, hB, h2⟩⟩, .inr rfl, fun h => by cases h⟩

end Go.Proofs.YtcmbdhmhkfhjfaaGreat.L
namespace Go.Proofs.YtcmbdhmhkfhjfaaGreat
open Go.RowKit
set_option linter.unusedVariables false

end Go.Proofs.YtcmbdhmhkfhjfaaGreat
namespace Go.Proofs.YtcmbdhmhkfhjfaaGreat
open Go.RowKit
set_option linter.unusedVariables false

end Go.Proofs.YtcmbdhmhkfhjfaaGreat
namespace Go.Proofs.YtcmbdhmhkfhjfaaGreat
open Go.RowKit
set_option linter.unusedVariables false

end Go.Proofs.YtcmbdhmhkfhjfaaGreat
namespace Go.Proofs.YtcmbdhmhkfhjfaaGreat
open Go.RowKit
set_option linter.unusedVariables false

def exA : Req := ⟨3, 0, 2, [], [], []⟩
def exR : Rep := ⟨0, [], [1, 512], []⟩
abbrev exAO : Obj := .cells #[.int .i64 3, .int .i64 0, .int .i64 2, .slice none 0 0, .slice none 0 0, .slice none 0 0] 68 (0, 0)
end Go.Proofs.YtcmbdhmhkfhjfaaGreat
namespace Go.Proofs.YtcmbdhmhkfhjfaaGreat
open Go.RowKit
set_option linter.unusedVariables false

set_option maxHeartbeats 1000000 in
set_option maxRecDepth 100000 in
theorem SameReply_yes (x : Int) (on : List Bool) (set : List Int) (fs : List (List Int)) (Bo Bs Bf Bo' Bs' Bf' : Option Addr) (mo ms mf eo es ef eo' es' ef' : Nat) (w : World) (h1 : L.Row () w w.heap.size Bo on) (h2 : Row .u16 w w.heap.size Bs set) (h1' : L.Row () w w.heap.size Bo' on) (h2' : Row .u16 w w.heap.size Bs' set) (h3 : FRow w w.heap.size Bf fs) (h3' : FRow w w.heap.size Bf' fs) (l1 : on.length = mo) (l2 : set.length = ms) (l3 : fs.length = mf) (c1 : mo ≤ 70368744177664) (c2 : ms ≤ 70368744177664) (c3 : mf ≤ 1000000) (c4 : ∀ i, i < mf → (nthF fs i).length ≤ 70368744177664) :
    Calls Tryz.prog 15 #[.agg #[.int .i64 x, .slice Bo mo eo, .slice Bs ms es, .slice Bf mf ef], .agg #[.int .i64 x, .slice Bo' mo eo', .slice Bs' ms es', .slice Bf' mf ef']] w fun e w' => e = .returned (.bool true) ∧ Below w.heap.size w w' := by
  have t0 := TB.new2 w #[.int .i64 x, .slice Bo mo eo, .slice Bs ms es, .slice Bf mf ef] #[.int .i64 x, .slice Bo' mo eo', .slice Bs' ms es', .slice Bf' mf ef'] 30 30
  have bel := t0.bel
  have H1 := Lib.hid (h1.below bel)
  have H2 := Lib.hid (h2.below bel)
  have H3 := Lib.hid (h3.below bel)
  have H3' := Lib.hid (h3'.below bel)
  have L3 := Lib.hid l3
  have C4 := Lib.hid c4
  have H1' := Lib.hid (h1'.below bel)
  have H2' := Lib.hid (h2'.below bel)
  have L1 := Lib.hid l1
  have L2 := Lib.hid l2
  have ex : (x == x) = true := by simp
  clear h1 h2 h1' h2' h3 h3' l1 l2 l3 c4 t0
  go_enter Tryz.func15, Tryz.ntmps15
  go_wp2_with fail
  refine (L.same_yes_bool _ _ _ _ _ on _ _ _ H1.out H1'.out L1.out (by omega)).mono ?_
  rintro e w' ⟨rfl, m1, rfl⟩
  go_wp2_with fail
  refine (W.same_yes_u16 _ _ _ _ _ set _ _ _ (H2.out.drewN m1) (H2'.out.drewN m1) L2.out (by omega)).mono ?_
  rintro e w' ⟨rfl, m2, rfl⟩
  rw [World.drewN_drewN]
  go_wp2_with fail
  refine (SameFiles_yes _ _ mf _ _ fs _ _ _ (H3.out.drewN (m1 + m2)) (H3'.out.drewN (m1 + m2)) L3.out c3 C4.out).mono ?_
  rintro e w' ⟨rfl, m3, rfl⟩
  rw [World.drewN_drewN]
  go_wp2
  go_ret
  exact ⟨rfl, below_drewN bel _⟩

end Go.Proofs.YtcmbdhmhkfhjfaaGreat
