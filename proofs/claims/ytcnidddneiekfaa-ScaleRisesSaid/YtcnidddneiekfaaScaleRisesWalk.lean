/-
  The walk of ScaleRises.
-/
import Derived.Test.YtcnidddneiekfaaScWorks
namespace Go.Proofs.Ytcnidddneiekfaa
open Go.RowKit
set_option linter.unusedVariables false

theorem valE_zero {s : Sc} {n : Int} (h : valE s n = 0) : s.Ok ∧ -2147483648 ≤ n ∧ n ≤ 4294967295 := by
  unfold valE at h
  by_cases g : s.Ok
  · rw [if_pos g] at h
    by_cases g2 : -2147483648 ≤ n ∧ n ≤ 4294967295
    · exact ⟨g, g2⟩
    · rw [if_neg g2] at h; cases h
  · rw [if_neg g] at h; cases h
theorem cut_mono {a b : Int} (h : a ≤ b) : cut a ≤ cut b := by unfold cut; omega
theorem valN_mono {s : Sc} {a b : Int} (ha : valE s a = 0) (hb : valE s b = 0) (h : a < b) : (0 < s.mul → valN s a ≤ valN s b) ∧ (s.mul < 0 → valN s b ≤ valN s a) := by
  have hok := (valE_zero ha).1
  have hd : 0 < s.div := by have := hok.2.2.1.1; omega
  unfold valN
  rw [if_pos ha, if_pos hb]
  refine ⟨fun hm => cut_mono ?_, fun hm => cut_mono ?_⟩
  · have := near_mono (a * s.mul) (b * s.mul) s.div hd (Int.mul_le_mul_of_nonneg_right (by omega) (by omega))
    omega
  · have := near_mono (b * s.mul) (a * s.mul) s.div hd (Int.mul_le_mul_of_nonpos_right (by omega) (by omega))
    omega

set_option maxHeartbeats 1000000 in
theorem walk_ScaleRises (s : Sc) (a b : Int) (w : World) (hf : s.fits) (wa : (Lit.int .i64 a).wf = true) (wb : (Lit.int .i64 b).wf = true) :
    Calls Try.prog 8 #[.agg #[.bool s.wide, .bool s.signed, .bool s.swap, .int .i64 s.mul, .int .i64 s.div, .int .i64 s.add], .int .i64 a, .int .i64 b] w fun e w' => e = .returned (.bool true) ∧ Below w.heap.size w w' := by
  obtain ⟨wd, sg, sw, mu, di, ad⟩ := s
  simp only at *
  clear hf wa wb
  have bx0 := Bx.new w (.cells #[.bool wd, .bool sg, .bool sw, .int .i64 mu, .int .i64 di, .int .i64 ad] 23)
  obtain ⟨va, hva⟩ : ∃ v, Hid (valN (⟨wd, sg, sw, mu, di, ad⟩ : Sc) a = v) := ⟨_, Lib.hid rfl⟩
  obtain ⟨ea, hea⟩ : ∃ e0, Hid (valE (⟨wd, sg, sw, mu, di, ad⟩ : Sc) a = e0) := ⟨_, Lib.hid rfl⟩
  obtain ⟨vb, hvb⟩ : ∃ v, Hid (valN (⟨wd, sg, sw, mu, di, ad⟩ : Sc) b = v) := ⟨_, Lib.hid rfl⟩
  obtain ⟨eb, heb⟩ : ∃ e0, Hid (valE (⟨wd, sg, sw, mu, di, ad⟩ : Sc) b = e0) := ⟨_, Lib.hid rfl⟩
  by_cases hab : a = b
  · subst hab
    have e1 : vb = va := hvb.out.symm.trans hva.out
    have e2 : eb = ea := heb.out.symm.trans hea.out
    subst e1 e2
    go_enter Try.func8, Try.ntmps8
    go_wp2_with fail
    refine (Value_lit _ hva.out hea.out).mono ?_
    rintro e w1 ⟨rfl, b1⟩
    have bx1 := bx0.below b1
    obtain ⟨d0, d1, d2, d3, d4, d5⟩ := bx1.six
    go_wp2_with fail
    refine (Value_lit _ hva.out hea.out).mono ?_
    rintro e w2 ⟨rfl, b2⟩
    have bel2 := (bx1.below b2).2
    by_cases hE : vb = 0
    all_goals
      go_wp2_with (go_at_call 11; refine (works_yes _).mono ?_; rintro e w3 ⟨rfl, b3⟩)
      all_goals (go_ret; exact ⟨rfl, bel2.trans (b3.mono bel2.size)⟩)
  · have t0 : (a == b) = false := beq_false_of_ne hab
    have t1 : (a != b) = true := by simpa using hab
    by_cases hE : ea = 0 ∧ eb = 0
    · obtain ⟨rfl, rfl⟩ := hE
      have hm0 : mu ≠ 0 := (valE_zero hea.out).1.1
      have key : (a < b → 0 < mu → va ≤ vb) ∧ (a < b → mu < 0 → vb ≤ va) ∧ (b < a → 0 < mu → vb ≤ va) ∧ (b < a → mu < 0 → va ≤ vb) := by
        rw [← hva.out, ← hvb.out]
        exact ⟨fun h => (valN_mono hea.out heb.out h).1, fun h => (valN_mono hea.out heb.out h).2, fun h => (valN_mono heb.out hea.out h).1, fun h => (valN_mono heb.out hea.out h).2⟩
      have cases4 : (a < b ∧ 0 < mu ∧ va ≤ vb) ∨ (a < b ∧ ¬ 0 < mu ∧ vb ≤ va) ∨ (¬ a < b ∧ 0 < mu ∧ vb ≤ va) ∨ (¬ a < b ∧ ¬ 0 < mu ∧ va ≤ vb) := by omega
      clear key hm0 hab
      rcases cases4 with ⟨h1, h2, h3⟩ | ⟨h1, h2, h3⟩ | ⟨h1, h2, h3⟩ | ⟨h1, h2, h3⟩
      all_goals
        go_enter Try.func8, Try.ntmps8
        go_wp2_with fail
        refine (Value_lit _ hva.out hea.out).mono ?_
        rintro e w1 ⟨rfl, b1⟩
        have bx1 := bx0.below b1
        obtain ⟨d0, d1, d2, d3, d4, d5⟩ := bx1.six
        go_wp2_with fail
        refine (Value_lit _ hvb.out heb.out).mono ?_
        rintro e w2 ⟨rfl, b2⟩
        have bx2 := bx1.below b2
        clear d0 d1 d2 d3 d4 d5 b1 b2 bx0 bx1
        obtain ⟨d0, d1, d2, d3, d4, d5⟩ := bx2.six
        have bel2 := bx2.2
        go_wp2_with fail
        refine (works_yes _).mono ?_
        rintro e w3 ⟨rfl, b3⟩
        go_wp2
        go_ret
        exact ⟨rfl, bel2.trans (b3.mono bel2.size)⟩
    · by_cases hE2 : ea = 0
      · have hE3 : eb ≠ 0 := fun h => hE ⟨hE2, h⟩
        have f1 : (eb != 0) = true := by simpa using hE3
        have f2 : (eb == 0) = false := beq_false_of_ne hE3
        subst hE2
        clear hE hE3 hab
        go_enter Try.func8, Try.ntmps8
        go_wp2_with fail
        refine (Value_lit _ hva.out hea.out).mono ?_
        rintro e w1 ⟨rfl, b1⟩
        have bx1 := bx0.below b1
        obtain ⟨d0, d1, d2, d3, d4, d5⟩ := bx1.six
        go_wp2_with fail
        refine (Value_lit _ hvb.out heb.out).mono ?_
        rintro e w2 ⟨rfl, b2⟩
        have bel2 := (bx1.below b2).2
        go_wp2_with fail
        refine (works_yes _).mono ?_
        rintro e w3 ⟨rfl, b3⟩
        go_wp2
        go_ret
        exact ⟨rfl, bel2.trans (b3.mono bel2.size)⟩
      · have f1 : (ea != 0) = true := by simpa using hE2
        have f2 : (ea == 0) = false := beq_false_of_ne hE2
        clear hE hE2 hab
        go_enter Try.func8, Try.ntmps8
        go_wp2_with fail
        refine (Value_lit _ hva.out hea.out).mono ?_
        rintro e w1 ⟨rfl, b1⟩
        have bx1 := bx0.below b1
        obtain ⟨d0, d1, d2, d3, d4, d5⟩ := bx1.six
        go_wp2_with fail
        refine (Value_lit _ hvb.out heb.out).mono ?_
        rintro e w2 ⟨rfl, b2⟩
        have bel2 := (bx1.below b2).2
        go_wp2_with fail
        refine (works_yes _).mono ?_
        rintro e w3 ⟨rfl, b3⟩
        go_wp2
        go_ret
        exact ⟨rfl, bel2.trans (b3.mono bel2.size)⟩
end Go.Proofs.Ytcnidddneiekfaa
