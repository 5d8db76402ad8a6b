/-
  Contracts of Value of package scale, of what it calls, and of the document's answer to it.
-/
import Derived.Test.YtcnidddneiekfaaScRef
import Derived.BigQuiet
namespace Go.Proofs.Ytcnidddneiekfaa
open Go.RowKit
set_option linter.unusedVariables false

theorem nearest_pos (a b : Int) (h0 : 0 ≤ a) (ha : a ≤ 4294967295000000) (hb : 1 ≤ b) (hb2 : b ≤ 1000000) (w : World) : Calls Try.prog 33 #[.int .i64 a, .int .i64 b] w fun e w' => e = .returned (.int .i64 (near a b)) ∧ w' = w := by
  have hn : Hid (near a b = (2 * a + b) / (2 * b)) := Lib.hid (by unfold near; rw [if_neg (by omega)])
  have hq : Hid ((2 * a + b).tdiv (2 * b) = (2 * a + b) / (2 * b)) := Lib.hid (Int.tdiv_eq_ediv_of_nonneg (by omega))
  have hlt : ¬ a < 0 := by omega
  go_enter Try.func33, Try.ntmps33
  go_wp2
  go_ret
  exact ⟨by rw [hn.out]; rfl, rfl⟩
theorem nearest_any (a b : Int) (ha : -4294967295000000 ≤ a ∧ a ≤ 4294967295000000) (hb : 1 ≤ b) (hb2 : b ≤ 1000000) (w : World) : Calls Try.prog 33 #[.int .i64 a, .int .i64 b] w fun e w' => e = .returned (.int .i64 (near a b)) ∧ w' = w := by
  by_cases hlt : a < 0
  · have hn : Hid (near a b = -near (-a) b) := Lib.hid (by rw [near_neg a b (by omega), Int.neg_neg])
    have hbd := near_bound (a := -a) (b := b) (by omega) (by omega)
    go_enter Try.func33, Try.ntmps33
    go_wp2_with (go_at_call 33; refine (nearest_pos (-a) b (by omega) (by omega) hb hb2 _).mono ?_; rintro e w' ⟨rfl, rfl⟩)
    go_ret
    exact ⟨by rw [hn.out]; rfl, rfl⟩
  · exact nearest_pos a b (by omega) ha.2 hb hb2 w
theorem refNearest_any (a b : Int) (ha : -4294967295000000 ≤ a ∧ a ≤ 4294967295000000) (hb : 1 ≤ b) (hb2 : b ≤ 1000000) (w : World) : Calls Try.prog 35 #[.int .i64 a, .int .i64 b] w fun e w' => e = .returned (.int .i64 (near a b)) ∧ w' = w := by
  have hn := Lib.hid (near_ref a b (by omega))
  have hr1 := Int.tmod_lt_of_pos a (by omega : 0 < b)
  have hr2 : -b < a.tmod b := by
    have := Int.tmod_lt_of_pos (-a) (by omega : 0 < b)
    rw [Int.neg_tmod] at this; omega
  have hq : -4294967295000000 ≤ a.tdiv b ∧ a.tdiv b ≤ 4294967295000000 := by
    have h1 := Int.natAbs_tdiv_le_natAbs a b
    omega
  obtain ⟨q, hqq⟩ : ∃ q, Hid (a.tdiv b = q) := ⟨_, Lib.hid rfl⟩
  obtain ⟨r, hrr⟩ : ∃ r, Hid (a.tmod b = r) := ⟨_, Lib.hid rfl⟩
  have eq1 := hqq.out
  have er1 := hrr.out
  rw [hqq.out] at hq
  rw [hrr.out] at hr1 hr2
  have hn2 : Hid (near a b = if b ≤ 2 * r then q + 1 else if 2 * r ≤ -b then q - 1 else q) := Lib.hid (by rw [hn.out, hqq.out, hrr.out])
  clear hn
  by_cases h1 : b ≤ 2 * r
  · have hn3 : Hid (near a b = q + 1) := Lib.hid (by rw [hn2.out, if_pos h1])
    go_enter Try.func35, Try.ntmps35
    go_wp2
    go_ret
    exact ⟨by rw [hn3.out]; rfl, rfl⟩
  by_cases h2 : 2 * r ≤ -b
  · have hn3 : Hid (near a b = q - 1) := Lib.hid (by rw [hn2.out, if_neg h1, if_pos h2])
    go_enter Try.func35, Try.ntmps35
    go_wp2
    go_ret
    exact ⟨by rw [hn3.out]; rfl, rfl⟩
  · have hn3 : Hid (near a b = q) := Lib.hid (by rw [hn2.out, if_neg h1, if_neg h2])
    go_enter Try.func35, Try.ntmps35
    go_wp2
    go_ret
    exact ⟨by rw [hn3.out]; rfl, rfl⟩
theorem refNearest_q {a b q : Int} (ha : -4294967295000000 ≤ a ∧ a ≤ 4294967295000000) (hb : 1 ≤ b ∧ b ≤ 1000000) (hq : Hid (near a b = q)) (w : World) : Calls Try.prog 35 #[.int .i64 a, .int .i64 b] w fun e w' => e = .returned (.int .i64 q) ∧ w' = w := by
  rw [← hq.out]; exact refNearest_any a b ha hb.1 hb.2 w

set_option maxHeartbeats 1000000 in
theorem Value_any (wd sg sw : Bool) (mu di ad : Int) (n : Int) (w : World) : Calls Try.prog 22 #[.agg #[.bool wd, .bool sg, .bool sw, .int .i64 mu, .int .i64 di, .int .i64 ad], .int .i64 n] w fun e w' => e = .returned (.tuple #[.int .i64 (valN (⟨wd, sg, sw, mu, di, ad⟩ : Sc) n), .int .i64 (valE (⟨wd, sg, sw, mu, di, ad⟩ : Sc) n)]) ∧ Below w.heap.size w w' := by
  have bx0 := Bx.new w (.cells #[.bool wd, .bool sg, .bool sw, .int .i64 mu, .int .i64 di, .int .i64 ad] 23)
  by_cases hok : Sc.Ok (⟨wd, sg, sw, mu, di, ad⟩ : Sc)
  · have HC := Lib.hid (chkS_yes hok)
    obtain ⟨g0, g1, g2, g3, g4⟩ := hok
    simp only at g0 g1 g2 g3
    by_cases hin : -2147483648 ≤ n ∧ n ≤ 4294967295
    · have HE : Hid (valE (⟨wd, sg, sw, mu, di, ad⟩ : Sc) n = 0) := Lib.hid (by unfold valE; rw [if_pos ⟨g0, g1, g2, g3, g4⟩, if_pos hin])
      have HV : Hid (valN (⟨wd, sg, sw, mu, di, ad⟩ : Sc) n = cut (near (n * mu) di + ad)) := Lib.hid (by unfold valN; rw [if_pos HE.out])
      have HB : Hid (liesB n (-2147483648) 4294967295 = true) := Lib.hid (decide_eq_true hin)
      have pb := prod_bound hin g1
      obtain ⟨p, hp⟩ : ∃ p, Hid (n * mu = p) := ⟨_, Lib.hid rfl⟩
      rw [hp.out] at pb HV
      have ep := hp.out
      have nb := near_bound (a := p) (b := di) (by omega) pb
      have hw1 : IntKind.i64.wrap (n * mu) = p := by rw [ep]; exact IntWalk.i64_in _ (by omega)
      clear g0
      go_enter Try.func22, Try.ntmps22
      go_wp2_with fail
      refine (Check_any wd sg sw mu di ad _).mono ?_
      rintro e w1 ⟨rfl, b1⟩
      rw [HC.out]
      have bx1 := bx0.below b1
      obtain ⟨d0, d1, d2, d3, d4, d5⟩ := bx1.six
      have bel1 := bx1.2
      go_wp2_with fail
      refine (lies_at (by omega) HB _).mono ?_
      rintro e w2 ⟨rfl, rfl⟩
      go_wp2
      go_quiet ((go_at_call 33; refine Calls.quiet_of_same (nearest_any p di pb (by omega) (by omega) _)))
      go_wp2_with fail
      refine (bring_any _ _ _ _).mono ?_
      rintro e w3 ⟨rfl, rfl⟩
      go_wp2
      go_ret2
      exact ⟨by rw [HV.out, HE.out]; rfl, below_drewN bel1 _⟩
    · have HE : Hid (valE (⟨wd, sg, sw, mu, di, ad⟩ : Sc) n = 3) := Lib.hid (by unfold valE; rw [if_pos ⟨g0, g1, g2, g3, g4⟩, if_neg hin])
      have HV : Hid (valN (⟨wd, sg, sw, mu, di, ad⟩ : Sc) n = 0) := Lib.hid (by unfold valN; rw [if_neg (by rw [HE.out]; omega)])
      have HB : Hid (liesB n (-2147483648) 4294967295 = false) := Lib.hid (decide_eq_false hin)
      clear hin
      go_enter Try.func22, Try.ntmps22
      go_wp2_with fail
      refine (Check_any wd sg sw mu di ad _).mono ?_
      rintro e w1 ⟨rfl, b1⟩
      rw [HC.out]
      have bx1 := bx0.below b1
      have bel1 := bx1.2
      go_wp2_with fail
      refine (lies_at (by omega) HB _).mono ?_
      rintro e w2 ⟨rfl, rfl⟩
      go_wp2
      go_ret2
      exact ⟨by rw [HV.out, HE.out]; rfl, bel1⟩
  · have HC := Lib.hid (chkS_no hok)
    have HE : Hid (valE (⟨wd, sg, sw, mu, di, ad⟩ : Sc) n = 25) := Lib.hid (by unfold valE; rw [if_neg hok])
    have HV : Hid (valN (⟨wd, sg, sw, mu, di, ad⟩ : Sc) n = 0) := Lib.hid (by unfold valN; rw [if_neg (by rw [HE.out]; omega)])
    clear hok
    go_enter Try.func22, Try.ntmps22
    go_wp2_with fail
    refine (Check_any wd sg sw mu di ad _).mono ?_
    rintro e w1 ⟨rfl, b1⟩
    rw [HC.out]
    have bel1 := (bx0.below b1).2
    go_wp2
    go_ret2
    exact ⟨by rw [HV.out, HE.out]; rfl, bel1⟩

set_option maxHeartbeats 1000000 in
theorem refValue_any (wd sg sw : Bool) (mu di ad : Int) (n : Int) (w : World) : Calls Try.prog 23 #[.agg #[.bool wd, .bool sg, .bool sw, .int .i64 mu, .int .i64 di, .int .i64 ad], .int .i64 n] w fun e w' => e = .returned (.tuple #[.int .i64 (valN (⟨wd, sg, sw, mu, di, ad⟩ : Sc) n), .int .i64 (valE (⟨wd, sg, sw, mu, di, ad⟩ : Sc) n)]) ∧ Below w.heap.size w w' := by
  have bx0 := Bx.new w (.cells #[.bool wd, .bool sg, .bool sw, .int .i64 mu, .int .i64 di, .int .i64 ad] 23)
  by_cases hok : Sc.Ok (⟨wd, sg, sw, mu, di, ad⟩ : Sc)
  · have HC := Lib.hid (chkS_yes hok)
    obtain ⟨g0, g1, g2, g3, g4⟩ := hok
    simp only at g0 g1 g2 g3
    by_cases hlo : n < -2147483648
    · have HE : Hid (valE (⟨wd, sg, sw, mu, di, ad⟩ : Sc) n = 3) := Lib.hid (by unfold valE; rw [if_pos ⟨g0, g1, g2, g3, g4⟩, if_neg (by omega)])
      have HV : Hid (valN (⟨wd, sg, sw, mu, di, ad⟩ : Sc) n = 0) := Lib.hid (by unfold valN; rw [if_neg (by rw [HE.out]; omega)])
      go_enter Try.func23, Try.ntmps23
      go_wp2_with fail
      refine (refCheck_any wd sg sw mu di ad _).mono ?_
      rintro e w1 ⟨rfl, b1⟩
      rw [HC.out]
      have bel1 := (bx0.below b1).2
      go_wp2
      go_ret2
      exact ⟨by rw [HV.out, HE.out]; rfl, bel1⟩
    by_cases hhi : 4294967295 < n
    · have HE : Hid (valE (⟨wd, sg, sw, mu, di, ad⟩ : Sc) n = 3) := Lib.hid (by unfold valE; rw [if_pos ⟨g0, g1, g2, g3, g4⟩, if_neg (by omega)])
      have HV : Hid (valN (⟨wd, sg, sw, mu, di, ad⟩ : Sc) n = 0) := Lib.hid (by unfold valN; rw [if_neg (by rw [HE.out]; omega)])
      go_enter Try.func23, Try.ntmps23
      go_wp2_with fail
      refine (refCheck_any wd sg sw mu di ad _).mono ?_
      rintro e w1 ⟨rfl, b1⟩
      rw [HC.out]
      have bel1 := (bx0.below b1).2
      go_wp2
      go_ret2
      exact ⟨by rw [HV.out, HE.out]; rfl, bel1⟩
    have hin : -2147483648 ≤ n ∧ n ≤ 4294967295 := ⟨by omega, by omega⟩
    have HE : Hid (valE (⟨wd, sg, sw, mu, di, ad⟩ : Sc) n = 0) := Lib.hid (by unfold valE; rw [if_pos ⟨g0, g1, g2, g3, g4⟩, if_pos hin])
    have HV : Hid (valN (⟨wd, sg, sw, mu, di, ad⟩ : Sc) n = cut (near (n * mu) di + ad)) := Lib.hid (by unfold valN; rw [if_pos HE.out])
    have pb := prod_bound hin g1
    obtain ⟨p, hp⟩ : ∃ p, Hid (n * mu = p) := ⟨_, Lib.hid rfl⟩
    rw [hp.out] at pb HV
    have ep := hp.out
    have nb := near_bound (a := p) (b := di) (by omega) pb
    have hw1 : IntKind.i64.wrap (n * mu) = p := by rw [ep]; exact IntWalk.i64_in _ (by omega)
    obtain ⟨q, hq⟩ : ∃ q, Hid (near p di = q) := ⟨_, Lib.hid rfl⟩
    rw [hq.out] at nb HV
    clear g0 hp
    have common : ∀ z : Int, cut (q + ad) = z → Hid (valN (⟨wd, sg, sw, mu, di, ad⟩ : Sc) n = z) := fun z h => Lib.hid (HV.out.trans h)
    by_cases c1 : q + ad < -1099511627776
    · have HZ := common (-1099511627776) (by unfold cut; omega)
      clear common HV
      go_enter Try.func23, Try.ntmps23
      go_wp2_with fail
      refine (refCheck_any wd sg sw mu di ad _).mono ?_
      rintro e w1 ⟨rfl, b1⟩
      rw [HC.out]
      have bx1 := bx0.below b1
      obtain ⟨d0, d1, d2, d3, d4, d5⟩ := bx1.six
      have bel1 := bx1.2
      go_wp2_with fail
      go_quiet ((go_at_call 35; refine Calls.quiet_of_same (refNearest_q pb g2 hq _)))
      go_wp2
      go_ret2
      exact ⟨by rw [HZ.out, HE.out]; rfl, below_drewN bel1 _⟩
    by_cases c2 : 1099511627776 < q + ad
    · have HZ := common 1099511627776 (by unfold cut; omega)
      clear common HV
      go_enter Try.func23, Try.ntmps23
      go_wp2_with fail
      refine (refCheck_any wd sg sw mu di ad _).mono ?_
      rintro e w1 ⟨rfl, b1⟩
      rw [HC.out]
      have bx1 := bx0.below b1
      obtain ⟨d0, d1, d2, d3, d4, d5⟩ := bx1.six
      have bel1 := bx1.2
      go_wp2_with fail
      go_quiet ((go_at_call 35; refine Calls.quiet_of_same (refNearest_q pb g2 hq _)))
      go_wp2
      go_ret2
      exact ⟨by rw [HZ.out, HE.out]; rfl, below_drewN bel1 _⟩
    · have HZ := common (q + ad) (by unfold cut; omega)
      clear common HV
      go_enter Try.func23, Try.ntmps23
      go_wp2_with fail
      refine (refCheck_any wd sg sw mu di ad _).mono ?_
      rintro e w1 ⟨rfl, b1⟩
      rw [HC.out]
      have bx1 := bx0.below b1
      obtain ⟨d0, d1, d2, d3, d4, d5⟩ := bx1.six
      have bel1 := bx1.2
      go_wp2_with fail
      go_quiet ((go_at_call 35; refine Calls.quiet_of_same (refNearest_q pb g2 hq _)))
      go_wp2
      go_ret2
      exact ⟨by rw [HZ.out, HE.out]; rfl, below_drewN bel1 _⟩
  · have HC := Lib.hid (chkS_no hok)
    have HE : Hid (valE (⟨wd, sg, sw, mu, di, ad⟩ : Sc) n = 25) := Lib.hid (by unfold valE; rw [if_neg hok])
    have HV : Hid (valN (⟨wd, sg, sw, mu, di, ad⟩ : Sc) n = 0) := Lib.hid (by unfold valN; rw [if_neg (by rw [HE.out]; omega)])
    clear hok
    go_enter Try.func23, Try.ntmps23
    go_wp2_with fail
    refine (refCheck_any wd sg sw mu di ad _).mono ?_
    rintro e w1 ⟨rfl, b1⟩
    rw [HC.out]
    have bel1 := (bx0.below b1).2
    go_wp2
    go_ret2
    exact ⟨by rw [HV.out, HE.out]; rfl, bel1⟩
end Go.Proofs.Ytcnidddneiekfaa
