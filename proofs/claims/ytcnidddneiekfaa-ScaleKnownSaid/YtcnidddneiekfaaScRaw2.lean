/-
  Contract of the document's Raw of layer 6; the statements' example.
-/
import Derived.Test.YtcnidddneiekfaaScRaw
namespace Go.Proofs.Ytcnidddneiekfaa
open Go.RowKit
set_option linter.unusedVariables false

set_option maxHeartbeats 2000000 in
theorem refRaw_any (wd sg sw : Bool) (mu di ad : Int) (A : Option Addr) (n c : Nat) (xs : List Int) (w : World) (hr : Row .u16 w w.heap.size A xs) (hn : xs.length = n) (hb : n ≤ 1000000) : Calls Try.prog 14 #[.agg #[.bool wd, .bool sg, .bool sw, .int .i64 mu, .int .i64 di, .int .i64 ad], .slice A n c] w fun e w' => e = .returned (.tuple #[.int .i64 (rawN (⟨wd, sg, sw, mu, di, ad⟩ : Sc) xs), .int .i64 (rawE (⟨wd, sg, sw, mu, di, ad⟩ : Sc) xs)]) ∧ Below w.heap.size w w' := by
  have bx0 := Bx.new w (.cells #[.bool wd, .bool sg, .bool sw, .int .i64 mu, .int .i64 di, .int .i64 ad] 23)
  by_cases hok : Sc.Ok (⟨wd, sg, sw, mu, di, ad⟩ : Sc)
  · have HC := Lib.hid (chkS_yes hok)
    have HN := Lib.hid hn
    by_cases hlen : n = cntS (⟨wd, sg, sw, mu, di, ad⟩ : Sc)
    · have HE : Hid (rawE (⟨wd, sg, sw, mu, di, ad⟩ : Sc) xs = 0) := Lib.hid (by unfold rawE; rw [if_pos hok, if_pos (by rw [HN.out]; exact hlen)])
      have HR : Hid (rawN (⟨wd, sg, sw, mu, di, ad⟩ : Sc) xs = signS (⟨wd, sg, sw, mu, di, ad⟩ : Sc) (baseS (⟨wd, sg, sw, mu, di, ad⟩ : Sc) xs)) := Lib.hid (by unfold rawN; rw [if_pos HE.out])
      have hsw : sw = true → wd = true := hok.2.2.2.2
      obtain ⟨X, hX⟩ : ∃ X, Hid (nth xs 0 = X) := ⟨_, Lib.hid rfl⟩
      obtain ⟨Y, hY⟩ : ∃ Y, Hid (nth xs 1 = Y) := ⟨_, Lib.hid rfl⟩
      have hXb : 0 ≤ X ∧ X < 65536 := by rw [← hX.out]; exact nth_wf xs hr.1 0
      have hYb : 0 ≤ Y ∧ Y < 65536 := by rw [← hY.out]; exact nth_wf xs hr.1 1
      obtain ⟨m, hm⟩ : ∃ m, Hid (many (⟨wd, sg, sw, mu, di, ad⟩ : Sc) = m) := ⟨_, Lib.hid rfl⟩
      obtain ⟨B, hB⟩ : ∃ B, Hid (baseS (⟨wd, sg, sw, mu, di, ad⟩ : Sc) xs = B) := ⟨_, Lib.hid rfl⟩
      have hBm : 0 ≤ B ∧ B < m ∧ m ≤ 4294967296 := by
        rw [← hB.out, ← hm.out]
        unfold baseS many
        rw [hX.out, hY.out]
        cases wd <;> cases sw <;> simp only [if_true, Bool.false_eq_true, if_false] <;> first | (cases hsw rfl; done) | omega
      have HL : Hid (lowS (⟨wd, sg, sw, mu, di, ad⟩ : Sc) = if sg then -(m / 2) else 0) := Lib.hid (by unfold lowS; rw [hm.out])
      have HR2 : Hid (rawN (⟨wd, sg, sw, mu, di, ad⟩ : Sc) xs = if sg = true ∧ m ≤ 2 * B then B - m else B) := Lib.hid (by
        rw [HR.out, signS, HL.out, hm.out, hB.out]
        have hm2 : m % 2 = 0 := by rw [← hm.out]; unfold many; split <;> rfl
        cases sg
        · simp only [Bool.false_eq_true, if_false, false_and]; rw [if_neg (by omega)]
        · simp only [if_true, true_and]
          by_cases h : m ≤ 2 * B
          · rw [if_pos (by omega), if_pos h]
          · rw [if_neg (by omega), if_neg h])
      have HBD : Hid (B = if wd then (if sw then Y * 65536 + X else X * 65536 + Y) else X) := Lib.hid (by rw [← hB.out, ← hX.out, ← hY.out]; rfl)
      have HROW := Lib.hid hr
      clear hok hr HR HL hB
      cases wd
      case false =>
        have hsw2 : sw = false := by cases sw; rfl; cases hsw rfl
        subst hsw2
        have hBX : X = B := HBD.out.symm
        have hn1 : n = 1 := hlen
        subst hn1
        clear hsw hn HBD hlen
        obtain ⟨b, o, rfl, hb1, hc1⟩ := HROW.out.at_ (i := 0) (by rw [HN.out]; omega)
        rw [hX.out, hBX, Nat.add_zero] at hc1
        subst hBX
        go_enter Try.func14, Try.ntmps14
        go_wp2_with fail
        refine (refCheck_any _ _ _ _ _ _ _).mono ?_
        rintro e w1 ⟨rfl, b1⟩
        rw [HC.out]
        have bx1 := bx0.below b1
        obtain ⟨d0, d1, d2, d3, d4, d5⟩ := bx1.six
        have bel1 := bx1.2
        have hc2 := (bel1.cell (p := ⟨b, o, none⟩) hb1).trans hc1
        cases sg
        case false =>
          have HR3 : Hid (rawN ⟨false, false, false, mu, di, ad⟩ xs = X) := Lib.hid (by rw [HR2.out, if_neg (by simp)])
          go_wp2
          go_ret2
          exact ⟨by rw [HR3.out, HE.out]; rfl, bel1⟩
        case true =>
          go_wp2_with fail
          refine (Many_any _ _ _ _ _ _ _).mono ?_
          rintro e w2 ⟨rfl, b2⟩
          rw [hm.out]
          have bx2 := bx1.below b2
          obtain ⟨d0, d1, d2, d3, d4, d5⟩ := bx2.six
          have bel2 := bx2.2
          by_cases hge : m ≤ 2 * (X)
          · have HR3 : Hid (rawN ⟨false, true, false, mu, di, ad⟩ xs = X - m) := Lib.hid (by rw [HR2.out, if_pos ⟨by trivial, hge⟩])
            have hge2 : 2 * (X) ≥ m := hge
            go_wp2_with fail
            refine (Many_any _ _ _ _ _ _ _).mono ?_
            rintro e w3 ⟨rfl, b3⟩
            rw [hm.out]
            have bel3 := (bx2.below b3).2
            go_wp2
            go_ret2
            exact ⟨by rw [HR3.out, HE.out]; rfl, bel3⟩
          · have HR3 : Hid (rawN ⟨false, true, false, mu, di, ad⟩ xs = X) := Lib.hid (by rw [HR2.out, if_neg (fun h => hge h.2)])
            go_wp2
            go_ret2
            exact ⟨by rw [HR3.out, HE.out]; rfl, bel2⟩
      case true =>
        have hn2 : n = 2 := hlen
        subst hn2
        clear hn hlen
        obtain ⟨b, o, rfl, hb1, hc1⟩ := HROW.out.at_ (i := 0) (by rw [HN.out]; omega)
        obtain ⟨b', o', e2, _, hf1⟩ := HROW.out.at_ (i := 1) (by rw [HN.out]; omega)
        injection e2 with e2
        injection e2 with e2 e3
        subst e2 e3
        rw [hX.out, Nat.add_zero] at hc1
        rw [hY.out] at hf1
        cases sw
        case false =>
          have hBX : B = X * 65536 + Y := HBD.out
          subst hBX
          go_enter Try.func14, Try.ntmps14
          go_wp2_with fail
          refine (refCheck_any _ _ _ _ _ _ _).mono ?_
          rintro e w1 ⟨rfl, b1⟩
          rw [HC.out]
          have bx1 := bx0.below b1
          obtain ⟨d0, d1, d2, d3, d4, d5⟩ := bx1.six
          have bel1 := bx1.2
          have hc2 := (bel1.cell (p := ⟨b, o, none⟩) hb1).trans hc1
          have hf2 := (bel1.cell (p := ⟨b, o + 1, none⟩) hb1).trans hf1
          cases sg
          case false =>
            have HR3 : Hid (rawN ⟨true, false, false, mu, di, ad⟩ xs = X * 65536 + Y) := Lib.hid (by rw [HR2.out, if_neg (by simp)])
            go_wp2
            go_ret2
            exact ⟨by rw [HR3.out, HE.out]; rfl, bel1⟩
          case true =>
            go_wp2_with fail
            refine (Many_any _ _ _ _ _ _ _).mono ?_
            rintro e w2 ⟨rfl, b2⟩
            rw [hm.out]
            have bx2 := bx1.below b2
            obtain ⟨d0, d1, d2, d3, d4, d5⟩ := bx2.six
            have bel2 := bx2.2
            by_cases hge : m ≤ 2 * (X * 65536 + Y)
            · have HR3 : Hid (rawN ⟨true, true, false, mu, di, ad⟩ xs = X * 65536 + Y - m) := Lib.hid (by rw [HR2.out, if_pos ⟨by trivial, hge⟩])
              have hge2 : 2 * (X * 65536 + Y) ≥ m := hge
              go_wp2_with fail
              refine (Many_any _ _ _ _ _ _ _).mono ?_
              rintro e w3 ⟨rfl, b3⟩
              rw [hm.out]
              have bel3 := (bx2.below b3).2
              go_wp2
              go_ret2
              exact ⟨by rw [HR3.out, HE.out]; rfl, bel3⟩
            · have HR3 : Hid (rawN ⟨true, true, false, mu, di, ad⟩ xs = X * 65536 + Y) := Lib.hid (by rw [HR2.out, if_neg (fun h => hge h.2)])
              go_wp2
              go_ret2
              exact ⟨by rw [HR3.out, HE.out]; rfl, bel2⟩
        case true =>
          have hBX : B = Y * 65536 + X := HBD.out
          subst hBX
          go_enter Try.func14, Try.ntmps14
          go_wp2_with fail
          refine (refCheck_any _ _ _ _ _ _ _).mono ?_
          rintro e w1 ⟨rfl, b1⟩
          rw [HC.out]
          have bx1 := bx0.below b1
          obtain ⟨d0, d1, d2, d3, d4, d5⟩ := bx1.six
          have bel1 := bx1.2
          have hc2 := (bel1.cell (p := ⟨b, o, none⟩) hb1).trans hc1
          have hf2 := (bel1.cell (p := ⟨b, o + 1, none⟩) hb1).trans hf1
          cases sg
          case false =>
            have HR3 : Hid (rawN ⟨true, false, true, mu, di, ad⟩ xs = Y * 65536 + X) := Lib.hid (by rw [HR2.out, if_neg (by simp)])
            go_wp2
            go_ret2
            exact ⟨by rw [HR3.out, HE.out]; rfl, bel1⟩
          case true =>
            go_wp2_with fail
            refine (Many_any _ _ _ _ _ _ _).mono ?_
            rintro e w2 ⟨rfl, b2⟩
            rw [hm.out]
            have bx2 := bx1.below b2
            obtain ⟨d0, d1, d2, d3, d4, d5⟩ := bx2.six
            have bel2 := bx2.2
            by_cases hge : m ≤ 2 * (Y * 65536 + X)
            · have HR3 : Hid (rawN ⟨true, true, true, mu, di, ad⟩ xs = Y * 65536 + X - m) := Lib.hid (by rw [HR2.out, if_pos ⟨by trivial, hge⟩])
              have hge2 : 2 * (Y * 65536 + X) ≥ m := hge
              go_wp2_with fail
              refine (Many_any _ _ _ _ _ _ _).mono ?_
              rintro e w3 ⟨rfl, b3⟩
              rw [hm.out]
              have bel3 := (bx2.below b3).2
              go_wp2
              go_ret2
              exact ⟨by rw [HR3.out, HE.out]; rfl, bel3⟩
            · have HR3 : Hid (rawN ⟨true, true, true, mu, di, ad⟩ xs = Y * 65536 + X) := Lib.hid (by rw [HR2.out, if_neg (fun h => hge h.2)])
              go_wp2
              go_ret2
              exact ⟨by rw [HR3.out, HE.out]; rfl, bel2⟩
    · have HE : Hid (rawE (⟨wd, sg, sw, mu, di, ad⟩ : Sc) xs = 22) := Lib.hid (by unfold rawE; rw [if_pos hok, if_neg (by rw [HN.out]; exact hlen)])
      have HR : Hid (rawN (⟨wd, sg, sw, mu, di, ad⟩ : Sc) xs = 0) := Lib.hid (by unfold rawN; rw [if_neg (by rw [HE.out]; omega)])
      clear hok hn hr
      cases wd
      case false =>
        have hlen2 : n ≠ 1 := hlen
        have t0 : ((n : Int) != 1) = true := by simp; omega
        clear hlen hlen2
        go_enter Try.func14, Try.ntmps14
        go_wp2_with fail
        refine (refCheck_any _ _ _ _ _ _ _).mono ?_
        rintro e w1 ⟨rfl, b1⟩
        rw [HC.out]
        have bx1 := bx0.below b1
        obtain ⟨d0, d1, d2, d3, d4, d5⟩ := bx1.six
        have bel1 := bx1.2
        go_wp2
        go_ret2
        exact ⟨by rw [HR.out, HE.out]; rfl, bel1⟩
      case true =>
        have hlen2 : n ≠ 2 := hlen
        have t0 : ((n : Int) != 2) = true := by simp; omega
        clear hlen hlen2
        go_enter Try.func14, Try.ntmps14
        go_wp2_with fail
        refine (refCheck_any _ _ _ _ _ _ _).mono ?_
        rintro e w1 ⟨rfl, b1⟩
        rw [HC.out]
        have bx1 := bx0.below b1
        obtain ⟨d0, d1, d2, d3, d4, d5⟩ := bx1.six
        have bel1 := bx1.2
        go_wp2
        go_ret2
        exact ⟨by rw [HR.out, HE.out]; rfl, bel1⟩
  · have HC := Lib.hid (chkS_no hok)
    have HE : Hid (rawE (⟨wd, sg, sw, mu, di, ad⟩ : Sc) xs = 25) := Lib.hid (by unfold rawE; rw [if_neg hok])
    have HR : Hid (rawN (⟨wd, sg, sw, mu, di, ad⟩ : Sc) xs = 0) := Lib.hid (by unfold rawN; rw [if_neg (by rw [HE.out]; omega)])
    clear hok hn hr
    go_enter Try.func14, Try.ntmps14
    go_wp2_with fail
    refine (refCheck_any wd sg sw mu di ad _).mono ?_
    rintro e w1 ⟨rfl, b1⟩
    rw [HC.out]
    have bel1 := (bx0.below b1).2
    go_wp2
    go_ret2
    exact ⟨by rw [HR.out, HE.out]; rfl, bel1⟩
end Go.Proofs.Ytcnidddneiekfaa
