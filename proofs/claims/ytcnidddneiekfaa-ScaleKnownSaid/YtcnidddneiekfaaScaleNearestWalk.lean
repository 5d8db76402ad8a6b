/-
  The walk of ScaleNearest.
-/
import Derived.Test.YtcnidddneiekfaaScWorks
namespace Go.Proofs.Ytcnidddneiekfaa
open Go.RowKit
set_option linter.unusedVariables false

set_option maxHeartbeats 1000000 in
theorem walk_ScaleNearest (s : Sc) (n : Int) (w : World) (hf : s.fits) (wn : (Lit.int .i64 n).wf = true) :
    Calls Try.prog 7 #[.agg #[.bool s.wide, .bool s.signed, .bool s.swap, .int .i64 s.mul, .int .i64 s.div, .int .i64 s.add], .int .i64 n] w fun e w' => e = .returned (.bool true) ∧ Below w.heap.size w w' := by
  obtain ⟨wd, sg, sw, mu, di, ad⟩ := s
  simp only at *
  clear hf
  have bx0 := Bx.new w (.cells #[.bool wd, .bool sg, .bool sw, .int .i64 mu, .int .i64 di, .int .i64 ad] 23)
  obtain ⟨v, hv⟩ : ∃ v, Hid (valN (⟨wd, sg, sw, mu, di, ad⟩ : Sc) n = v) := ⟨_, Lib.hid rfl⟩
  obtain ⟨e0, he⟩ : ∃ e0, Hid (valE (⟨wd, sg, sw, mu, di, ad⟩ : Sc) n = e0) := ⟨_, Lib.hid rfl⟩
  by_cases hE : e0 = 0
  · subst hE
    have hV : Hid (v = cut (near (n * mu) di + ad)) := Lib.hid (by rw [← hv.out]; unfold valN; rw [if_pos he.out])
    have hok : Sc.Ok (⟨wd, sg, sw, mu, di, ad⟩ : Sc) := by
      have h := he.out
      unfold valE at h
      by_cases g : Sc.Ok (⟨wd, sg, sw, mu, di, ad⟩ : Sc)
      · exact g
      · rw [if_neg g] at h; cases h
    have hin : -2147483648 ≤ n ∧ n ≤ 4294967295 := by
      have h := he.out
      unfold valE at h
      rw [if_pos hok] at h
      by_cases g : -2147483648 ≤ n ∧ n ≤ 4294967295
      · exact g
      · rw [if_neg g] at h; cases h
    obtain ⟨g0, g1, g2, g3, g4⟩ := hok
    simp only at g1 g2 g3
    clear g0 g4
    have pb := prod_bound hin g1
    obtain ⟨p, hp⟩ : ∃ p, Hid (n * mu = p) := ⟨_, Lib.hid rfl⟩
    have ep := hp.out
    rw [ep] at pb
    have nb := near_bound (a := p) (b := di) (by omega) pb
    have na := near_away p di (by omega)
    obtain ⟨q, hq⟩ : ∃ q, Hid (near p di = q) := ⟨_, Lib.hid rfl⟩
    have hV2 : v = cut (q + ad) := by rw [hV.out, hp.out, hq.out]
    rw [hq.out] at nb na
    obtain ⟨t, ht⟩ : ∃ t, Hid (q * di = t) := ⟨_, Lib.hid rfl⟩
    rw [ht.out] at na
    have hvb : -1099511627776 ≤ v ∧ v ≤ 1099511627776 := by rw [hV2]; unfold cut; omega
    have HV2 := Lib.hid hV2
    clear hV2 hV
    by_cases hlow : v = -1099511627776
    · subst hlow
      go_enter Try.func7, Try.ntmps7
      go_wp2_with fail
      refine (Value_lit _ hv.out he.out).mono ?_
      rintro e w1 ⟨rfl, b1⟩
      have bel1 := (bx0.below b1).2
      go_wp2_with fail
      refine (works_yes _).mono ?_
      rintro e w3 ⟨rfl, b3⟩
      go_wp2
      go_ret
      exact ⟨rfl, bel1.trans (b3.mono bel1.size)⟩
    by_cases hhigh : v = 1099511627776
    · subst hhigh
      go_enter Try.func7, Try.ntmps7
      go_wp2_with fail
      refine (Value_lit _ hv.out he.out).mono ?_
      rintro e w1 ⟨rfl, b1⟩
      have bel1 := (bx0.below b1).2
      go_wp2_with fail
      refine (works_yes _).mono ?_
      rintro e w3 ⟨rfl, b3⟩
      go_wp2
      go_ret
      exact ⟨rfl, bel1.trans (b3.mono bel1.size)⟩
    have hvq : v = q + ad := by have := HV2.out; unfold cut at this; omega
    have f1 : (v == -1099511627776) = false := beq_false_of_ne hlow
    have f2 : (v == 1099511627776) = false := beq_false_of_ne hhigh
    have e1 : IntKind.i64.wrap (v - ad) = q := by rw [hvq, show q + ad - ad = q by omega]; exact IntWalk.i64_in _ (by omega)
    have e1' : v - ad = q := by omega
    have e2 : IntKind.i64.wrap (q * di) = t := by rw [ht.out]; exact IntWalk.i64_in _ (by omega)
    have e2' := ht.out
    have e3 : IntKind.i64.wrap (n * mu) = p := by rw [ep]; exact IntWalk.i64_in _ (by omega)
    have h1 : ¬ (di < 2 * (t - p)) := by omega
    have h2 : ¬ (2 * (t - p) < -di) := by omega
    have HA := Lib.hid na
    clear hlow hhigh na
    obtain ⟨a, ha⟩ : ∃ a, Hid (2 * (t - p) = a) := ⟨_, Lib.hid rfl⟩
    have e4 : IntKind.i64.wrap (2 * (t - p)) = a := by rw [ha.out]; exact IntWalk.i64_in _ (by have := ha.out; omega)
    have e4' := ha.out
    have k1 : ¬ (di < a) := by omega
    have k2 : ¬ (a < -di) := by omega
    have fin : ∀ (b1 b2 : Bool), Hid ((a == di) = b1) → Hid ((a == -di) = b2) → (b1 = true → ¬ p < 0) ∧ (b2 = true → ¬ 0 < p) := by
      intro b1 b2 h1 h2
      refine ⟨fun h => ?_, fun h => ?_⟩
      · subst h; have := beq_iff_eq.1 h1.out; have := HA.out; omega
      · subst h; have := beq_iff_eq.1 h2.out; have := HA.out; omega
    obtain ⟨b1, hb1⟩ : ∃ b, Hid ((a == di) = b) := ⟨_, Lib.hid rfl⟩
    obtain ⟨b2, hb2⟩ : ∃ b, Hid ((a == -di) = b) := ⟨_, Lib.hid rfl⟩
    obtain ⟨c1, c2⟩ := fin b1 b2 hb1 hb2
    have t1 := hb1.out
    have t2 := hb2.out
    have r1 : ¬ v < -1099511627776 := by omega
    have r2 : ¬ 1099511627776 < v := by omega
    clear fin h1 h2 hvq ep
    cases b1 <;> cases b2
    all_goals
      (try have c1 := c1 rfl)
      (try have c2 := c2 rfl)
      go_enter Try.func7, Try.ntmps7
      go_wp2_with fail
      refine (Value_lit _ hv.out he.out).mono ?_
      rintro e w1 ⟨rfl, b1⟩
      have bx1 := bx0.below b1
      obtain ⟨d0, d1, d2, d3, d4, d5⟩ := bx1.six
      have bel1 := bx1.2
      go_wp2_with fail
      refine (works_yes _).mono ?_
      rintro e w3 ⟨rfl, b3⟩
      go_wp2
      go_ret
      exact ⟨rfl, bel1.trans (b3.mono bel1.size)⟩
  · have hV : valN (⟨wd, sg, sw, mu, di, ad⟩ : Sc) n = 0 := by unfold valN; rw [if_neg (by rw [he.out]; exact hE)]
    have f1 : (e0 != 0) = true := by simpa using hE
    have f2 : (e0 == 0) = false := beq_false_of_ne hE
    clear hE
    go_enter Try.func7, Try.ntmps7
    go_wp2_with fail
    refine (Value_lit _ hV he.out).mono ?_
    rintro e w1 ⟨rfl, b1⟩
    have bel1 := (bx0.below b1).2
    go_wp2_with fail
    refine (works_yes _).mono ?_
    rintro e w3 ⟨rfl, b3⟩
    go_wp2
    go_ret
    exact ⟨rfl, bel1.trans (b3.mono bel1.size)⟩
end Go.Proofs.Ytcnidddneiekfaa
