/-
  Contracts of Raw of package scale and of the document's answer to it; the statements' example.
-/
import Derived.Test.YtcnidddneiekfaaScSmall
import Derived.Test.YtcnidddneiekfaaScVal
import Derived.Test.YtcnidddneiekfaaKitW
namespace Go.Proofs.Ytcnidddneiekfaa
open Go.RowKit
set_option linter.unusedVariables false

theorem or_far (x y : Nat) (hy : y < 65536) : (x * 65536) ||| y = x * 65536 + y := by
  have h := Nat.two_pow_add_eq_or_of_lt (i := 16) (b := y) (by omega) x
  rw [Nat.mul_comm x 65536]
  exact h.symm
theorem or_words (x y : Int) (hx : 0 ≤ x ∧ x < 65536) (hy : 0 ≤ y ∧ y < 65536) : bits .or .i64 (x * 65536) y = x * 65536 + y ∧ bits .or .i64 y (x * 65536) = x * 65536 + y := by
  obtain ⟨a, rfl⟩ := Int.eq_ofNat_of_zero_le hx.1
  obtain ⟨b, rfl⟩ := Int.eq_ofNat_of_zero_le hy.1
  have e1 : (a : Int) * 65536 = ((a * 65536 : Nat) : Int) := by omega
  have f1 : (BitVec.ofInt 64 ((a * 65536 : Nat) : Int)).toNat = a * 65536 := by rw [BitVec.ofInt_natCast, BitVec.toNat_ofNat]; exact Nat.mod_eq_of_lt (by omega)
  have f2 : (BitVec.ofInt 64 ((b : Nat) : Int)).toNat = b := by rw [BitVec.ofInt_natCast, BitVec.toNat_ofNat]; exact Nat.mod_eq_of_lt (by omega)
  constructor
  · show IntKind.i64.wrap ((BitVec.ofInt 64 ((a : Int) * 65536) ||| BitVec.ofInt 64 (b : Int)).toNat : Int) = _
    rw [e1, BitVec.toNat_or, f1, f2, or_far a b (by omega)]
    exact IntWalk.i64_in _ (by omega)
  · show IntKind.i64.wrap ((BitVec.ofInt 64 (b : Int) ||| BitVec.ofInt 64 ((a : Int) * 65536)).toNat : Int) = _
    rw [e1, BitVec.toNat_or, f1, f2, Nat.or_comm, or_far a b (by omega)]
    exact IntWalk.i64_in _ (by omega)
theorem or_zero (x : Int) (hx : 0 ≤ x ∧ x < 4294967296) : bits .or .i64 0 x = x := by
  obtain ⟨a, rfl⟩ := Int.eq_ofNat_of_zero_le hx.1
  have f1 : (BitVec.ofInt 64 ((a : Nat) : Int)).toNat = a := by rw [BitVec.ofInt_natCast, BitVec.toNat_ofNat]; exact Nat.mod_eq_of_lt (by omega)
  have f0 : (BitVec.ofInt 64 (0 : Int)).toNat = 0 := rfl
  show IntKind.i64.wrap ((BitVec.ofInt 64 (0 : Int) ||| BitVec.ofInt 64 (a : Int)).toNat : Int) = _
  rw [BitVec.toNat_or, f1, f0, Nat.zero_or]
  exact IntWalk.i64_in _ (by omega)

theorem nth_wf (xs : List Int) (h : ∀ x ∈ xs, (Lit.int .u16 x).wf = true) (i : Nat) : 0 ≤ nth xs i ∧ nth xs i < 65536 := by
  by_cases hi : i < xs.length
  · exact wf_u16 (h _ (nth_mem xs i hi))
  · simp [nth, List.getD_eq_getElem?_getD, List.getElem?_eq_none (Nat.le_of_not_lt hi)]
/-- What Raw has gathered ahead of a word. -/
def accS (wd sw : Bool) (x y : Int) (k : Nat) : Int := if k = 0 then 0 else if wd then (if sw then (if k = 1 then x else y * 65536 + x) else (if k = 1 then x * 65536 else x * 65536 + y)) else x

theorem acc_step (wd sg sw : Bool) (mu di ad : Int) (x y : Int) (hx : 0 ≤ x ∧ x < 65536) (hy : 0 ≤ y ∧ y < 65536) (k : Nat) (hk : k < cntS (⟨wd, sg, sw, mu, di, ad⟩ : Sc)) (hsw : sw = true → wd = true) (z : Int) (hz : z = if k = 0 then x else y) :
    bits .or .i64 (accS wd sw x y k) (IntKind.i64.wrap (z * 2 ^ shfS wd sw k)) = accS wd sw x y (k + 1) := by
  have hk2 : k = 0 ∨ (k = 1 ∧ wd = true) := by cases wd <;> simp [cntS] at hk <;> simp <;> omega
  have w0 : ∀ v : Int, 0 ≤ v → v < 4294967296 → IntKind.i64.wrap v = v := fun v h1 h2 => IntWalk.i64_in _ (by omega)
  rcases hk2 with rfl | ⟨rfl, rfl⟩
  · have e0 : z = x := hz
    subst e0
    cases wd
    · cases sw
      · simp only [accS, shfS, if_true, Bool.false_eq_true, if_false, Nat.zero_add, Int.pow_zero, Int.mul_one, Nat.one_ne_zero]
        rw [w0 z hx.1 (by omega), or_zero z (by omega)]
      · cases hsw rfl
    · cases sw
      · simp only [accS, shfS, if_true, Bool.false_eq_true, if_false, Nat.zero_add, Nat.one_ne_zero]
        rw [show (2 : Int) ^ (16 * (1 - 0)) = 65536 from rfl, w0 _ (by omega) (by omega), or_zero _ (by omega)]
      · simp only [accS, shfS, if_true, Nat.zero_add, Nat.mul_zero, Int.pow_zero, Int.mul_one, Nat.one_ne_zero, if_false]
        rw [w0 z hx.1 (by omega), or_zero z (by omega)]
  · have e0 : z = y := hz
    subst e0
    cases sw
    · simp only [accS, shfS, if_true, Bool.false_eq_true, if_false, Nat.one_ne_zero, show (1 + 1 : Nat) ≠ 0 by omega, show (1 + 1 : Nat) ≠ 1 by omega]
      rw [show (2 : Int) ^ (16 * (1 - 1)) = 1 from rfl, Int.mul_one, w0 z hy.1 (by omega), (or_words x z hx hy).1]
    · simp only [accS, shfS, if_true, if_false, Nat.one_ne_zero, show (1 + 1 : Nat) ≠ 0 by omega, show (1 + 1 : Nat) ≠ 1 by omega]
      rw [show (2 : Int) ^ (16 * 1) = 65536 from rfl, w0 _ (by omega) (by omega), (or_words z x hy hx).2]
set_option maxHeartbeats 1000000 in
theorem Raw_any (wd sg sw : Bool) (mu di ad : Int) (A : Option Addr) (n c : Nat) (xs : List Int) (w : World) (hr : Row .u16 w w.heap.size A xs) (hn : xs.length = n) (hb : n ≤ 1000000) : Calls Try.prog 13 #[.agg #[.bool wd, .bool sg, .bool sw, .int .i64 mu, .int .i64 di, .int .i64 ad], .slice A n c] w fun e w' => e = .returned (.tuple #[.int .i64 (rawN (⟨wd, sg, sw, mu, di, ad⟩ : Sc) xs), .int .i64 (rawE (⟨wd, sg, sw, mu, di, ad⟩ : Sc) xs)]) ∧ Below w.heap.size w w' := by
  have bx0 := Bx.new w (.cells #[.bool wd, .bool sg, .bool sw, .int .i64 mu, .int .i64 di, .int .i64 ad] 23)
  by_cases hok : Sc.Ok (⟨wd, sg, sw, mu, di, ad⟩ : Sc)
  · have HC := Lib.hid (chkS_yes hok)
    have HN := Lib.hid hn
    by_cases hlen : n = cntS (⟨wd, sg, sw, mu, di, ad⟩ : Sc)
    · have HE : Hid (rawE (⟨wd, sg, sw, mu, di, ad⟩ : Sc) xs = 0) := Lib.hid (by unfold rawE; rw [if_pos hok, if_pos (by rw [HN.out]; exact hlen)])
      have HR : Hid (rawN (⟨wd, sg, sw, mu, di, ad⟩ : Sc) xs = signS (⟨wd, sg, sw, mu, di, ad⟩ : Sc) (baseS (⟨wd, sg, sw, mu, di, ad⟩ : Sc) xs)) := Lib.hid (by unfold rawN; rw [if_pos HE.out])
      have hlb := low_bound wd sg sw mu di ad
      have hsw : sw = true → wd = true := hok.2.2.2.2
      have HK := Lib.hid hlen
      have hn2 : n ≤ 2 ∧ 1 ≤ n := by rw [hlen]; cases wd <;> simp [cntS]
      obtain ⟨X, hX⟩ : ∃ X, Hid (nth xs 0 = X) := ⟨_, Lib.hid rfl⟩
      obtain ⟨Y, hY⟩ : ∃ Y, Hid (nth xs 1 = Y) := ⟨_, Lib.hid rfl⟩
      have hXb : 0 ≤ X ∧ X < 65536 := by rw [← hX.out]; exact nth_wf xs hr.1 0
      have hYb : 0 ≤ Y ∧ Y < 65536 := by rw [← hY.out]; exact nth_wf xs hr.1 1
      have HA : Hid (baseS (⟨wd, sg, sw, mu, di, ad⟩ : Sc) xs = accS wd sw X Y n) := Lib.hid (by
        rw [← hX.out, ← hY.out, hlen]
        cases wd <;> cases sw <;> first | rfl | (cases hsw rfl))
      obtain ⟨B, hB⟩ : ∃ B, Hid (accS wd sw X Y n = B) := ⟨_, Lib.hid rfl⟩
      have hBb : 0 ≤ B ∧ B < 4294967296 := by
        rw [← hB.out, hlen]; cases wd <;> cases sw <;> simp [accS, cntS] <;> omega
      have HS := Lib.hid (fun k (hk : k < n) z hz => acc_step wd sg sw mu di ad X Y hXb hYb k (by rw [← HK.out]; exact hk) hsw z hz)
      rw [HA.out, hB.out] at HR
      obtain ⟨lo, hlo⟩ : ∃ l, Hid (lowS (⟨wd, sg, sw, mu, di, ad⟩ : Sc) = l) := ⟨_, Lib.hid rfl⟩
      obtain ⟨m, hm⟩ : ∃ m, Hid (many (⟨wd, sg, sw, mu, di, ad⟩ : Sc) = m) := ⟨_, Lib.hid rfl⟩
      rw [hlo.out, hm.out] at hlb
      have HR2 : Hid (rawN (⟨wd, sg, sw, mu, di, ad⟩ : Sc) xs = if lo + m - 1 < B then B - m else B) := Lib.hid (by rw [HR.out, signS, hlo.out, hm.out])
      have t0 : ((n : Int) != ((cntS (⟨wd, sg, sw, mu, di, ad⟩ : Sc) : Nat) : Int)) = false := by rw [← HK.out]; simp
      obtain ⟨r1, r2, r3, r4, r5⟩ := hlb
      obtain ⟨k0, hk0⟩ : ∃ k, Hid (cntS (⟨wd, sg, sw, mu, di, ad⟩ : Sc) = k) := ⟨_, Lib.hid rfl⟩
      rw [hk0.out] at t0
      clear hok hn hlen HR HA
      have HROW := Lib.hid hr
      clear hr
      go_enter Try.func13, Try.ntmps13
      go_wp2_with fail
      refine (Check_any wd sg sw mu di ad _).mono ?_
      rintro e w1 ⟨rfl, b1⟩
      rw [HC.out]
      have bx1 := bx0.below b1
      obtain ⟨d0, d1, d2, d3, d4, d5⟩ := bx1.six
      go_wp2_with fail
      refine (count_any wd sg sw mu di ad _).mono ?_
      rintro e w2 ⟨rfl, b2⟩
      rw [hk0.out]
      have bx2 := bx1.below b2
      clear d0 d1 d2 d3 d4 d5 b1 b2 bx0 bx1
      go_wp2
      go_loopw [7, 8, 9, 22] (fun a _ _ i wr => ∃ k : Nat, k ≤ n ∧ i = .int .i64 k ∧ a = .int .i64 (accS wd sw X Y k) ∧ Bx w w.heap.size (.cells #[.bool wd, .bool sg, .bool sw, .int .i64 mu, .int .i64 di, .int .i64 ad] 23 (0, 0)) wr) (fun _ _ _ i _ => n - (intOf i).toNat)
      case atStart => exact ⟨0, by omega, rfl, rfl, bx2⟩
      case round =>
        clear bx2
        obtain ⟨k, hk, rfl, rfl, bx3⟩ := hrel
        obtain ⟨d0, d1, d2, d3, d4, d5⟩ := bx3.six
        by_cases hlt : k < n
        · obtain ⟨b, o, rfl, hb1, hc1⟩ := (HROW.out.below bx3.2).at_ (i := k) (by rw [HN.out]; exact hlt)
          have hz : nth xs k = if k = 0 then X else Y := by rw [← hX.out, ← hY.out]; rcases (show k = 0 ∨ k = 1 by omega) with rfl | rfl <;> rfl
          obtain ⟨z, hzz⟩ : ∃ z, Hid (nth xs k = z) := ⟨_, Lib.hid rfl⟩
          have zb : 0 ≤ z ∧ z < 65536 := by rw [← hzz.out]; exact nth_wf xs HROW.out.1 k
          have HST := Lib.hid (HS.out k hlt z (by rw [← hzz.out]; exact hz))
          rw [hzz.out] at hc1
          clear hz
          obtain ⟨q, hq⟩ : ∃ q, Hid (accS wd sw X Y k = q) := ⟨_, Lib.hid rfl⟩
          rw [hq.out]
          go_wp2_with fail
          refine (shift_any wd sg sw mu di ad k (by rw [← HK.out]; exact hlt) _).mono ?_
          rintro e w3 ⟨rfl, b3⟩
          have bx4 := bx3.below b3
          obtain ⟨sh, hsh⟩ : ∃ sh, Hid (shfS wd sw k = sh) := ⟨_, Lib.hid rfl⟩
          have hsb : sh < 64 := by
            rw [← hsh.out]; rcases (show k = 0 ∨ k = 1 by omega) with rfl | rfl <;> cases sw <;> cases wd <;> decide
          have hst := HST.out
          rw [hq.out, hsh.out] at hst
          rw [hsh.out]
          clear d0 d1 d2 d3 d4 d5 b3 bx3 hc1 hb1
          go_wp2
          go_roundw
          case rel => exact ⟨k + 1, by omega, by go_num, by rw [← hst]; rw [IntWalk.i64_left], bx4⟩
          case measure => simp [intOf]; omega
        · obtain rfl : k = n := by omega
          rw [hB.out]
          go_wp2_with fail
          refine (highest_any wd sg sw mu di ad _).mono ?_
          rintro e w4 ⟨rfl, b4⟩
          rw [hlo.out, hm.out]
          have bx4 := bx3.below b4
          obtain ⟨d0, d1, d2, d3, d4, d5⟩ := bx4.six
          by_cases hneg : lo + m - 1 < B
          · have HR3 : Hid (rawN (⟨wd, sg, sw, mu, di, ad⟩ : Sc) xs = B - m) := Lib.hid (by rw [HR2.out, if_pos hneg])
            have hneg2 : B > lo + m - 1 := hneg
            go_wp2_with fail
            refine (span_any wd sg sw mu di ad _).mono ?_
            rintro e w5 ⟨rfl, b5⟩
            rw [hm.out]
            have bel5 := (bx4.below b5).2
            go_wp2
            go_ret2
            exact ⟨by rw [HR3.out, HE.out]; rfl, bel5⟩
          · have HR3 : Hid (rawN (⟨wd, sg, sw, mu, di, ad⟩ : Sc) xs = B) := Lib.hid (by rw [HR2.out, if_neg hneg])
            have bel4 := bx4.2
            go_wp2
            go_ret2
            exact ⟨by rw [HR3.out, HE.out]; rfl, bel4⟩
    · have HE : Hid (rawE (⟨wd, sg, sw, mu, di, ad⟩ : Sc) xs = 22) := Lib.hid (by unfold rawE; rw [if_pos hok, if_neg (by rw [HN.out]; exact hlen)])
      have HR : Hid (rawN (⟨wd, sg, sw, mu, di, ad⟩ : Sc) xs = 0) := Lib.hid (by unfold rawN; rw [if_neg (by rw [HE.out]; omega)])
      obtain ⟨k, hk⟩ : ∃ k, Hid (cntS (⟨wd, sg, sw, mu, di, ad⟩ : Sc) = k) := ⟨_, Lib.hid rfl⟩
      rw [hk.out] at hlen
      have t0 : ((n : Int) != (k : Int)) = true := by simp; omega
      clear hok hn hr hlen
      go_enter Try.func13, Try.ntmps13
      go_wp2_with fail
      refine (Check_any wd sg sw mu di ad _).mono ?_
      rintro e w1 ⟨rfl, b1⟩
      rw [HC.out]
      have bx1 := bx0.below b1
      obtain ⟨d0, d1, d2, d3, d4, d5⟩ := bx1.six
      go_wp2_with fail
      refine (count_any wd sg sw mu di ad _).mono ?_
      rintro e w2 ⟨rfl, b2⟩
      rw [hk.out]
      have bel2 := (bx1.below b2).2
      go_wp2
      go_ret2
      exact ⟨by rw [HR.out, HE.out]; rfl, bel2⟩
  · have HC := Lib.hid (chkS_no hok)
    have HE : Hid (rawE (⟨wd, sg, sw, mu, di, ad⟩ : Sc) xs = 25) := Lib.hid (by unfold rawE; rw [if_neg hok])
    have HR : Hid (rawN (⟨wd, sg, sw, mu, di, ad⟩ : Sc) xs = 0) := Lib.hid (by unfold rawN; rw [if_neg (by rw [HE.out]; omega)])
    clear hok hn hr
    go_enter Try.func13, Try.ntmps13
    go_wp2_with fail
    refine (Check_any wd sg sw mu di ad _).mono ?_
    rintro e w1 ⟨rfl, b1⟩
    rw [HC.out]
    have bel1 := (bx0.below b1).2
    go_wp2
    go_ret2
    exact ⟨by rw [HR.out, HE.out]; rfl, bel1⟩
end Go.Proofs.Ytcnidddneiekfaa
