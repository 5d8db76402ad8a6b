/-
  The walk of ScaleTurned.
-/
import Derived.Test.YtcnidddneiekfaaScWorks
namespace Go.Proofs.Ytcnidddneiekfaa
open Go.RowKit
set_option linter.unusedVariables false

def Sc.neg (s : Sc) : Sc := ⟨s.wide, s.signed, s.swap, -s.mul, s.div, -s.add⟩
theorem ok_neg {s : Sc} (h : s.Ok) : s.neg.Ok := by
  obtain ⟨h0, h1, h2, h3, h4⟩ := h
  exact ⟨by show -s.mul ≠ 0; omega, ⟨by show _ ≤ -s.mul; omega, by show -s.mul ≤ _; omega⟩, h2, ⟨by show _ ≤ -s.add; omega, by show -s.add ≤ _; omega⟩, h4⟩
theorem valE_neg {s : Sc} (h : s.Ok) (n : Int) : valE s.neg n = valE s n := by
  unfold valE; rw [if_pos h, if_pos (ok_neg h)]
theorem valN_neg {s : Sc} (h : s.Ok) (n : Int) : valN s.neg n = -valN s n := by
  unfold valN
  rw [valE_neg h]
  split
  · have hd : 0 < s.div := by have := h.2.2.1.1; omega
    show cut (near (n * -s.mul) s.div + -s.add) = -cut (near (n * s.mul) s.div + s.add)
    rw [Int.mul_neg, near_neg _ _ hd]
    unfold cut
    omega
  · rfl
set_option maxHeartbeats 1000000 in
theorem walk_ScaleTurned (s : Sc) (n : Int) (w : World) (hf : s.fits) (wn : (Lit.int .i64 n).wf = true) :
    Calls Try.prog 9 #[.agg #[.bool s.wide, .bool s.signed, .bool s.swap, .int .i64 s.mul, .int .i64 s.div, .int .i64 s.add], .int .i64 n] w fun e w' => e = .returned (.bool true) ∧ Below w.heap.size w w' := by
  obtain ⟨wd, sg, sw, mu, di, ad⟩ := s
  simp only at *
  clear hf wn
  have bx0 := Bx.new w (.cells #[.bool wd, .bool sg, .bool sw, .int .i64 mu, .int .i64 di, .int .i64 ad] 23)
  by_cases hok : Sc.Ok (⟨wd, sg, sw, mu, di, ad⟩ : Sc)
  · have HC := Lib.hid (chkS_yes hok)
    have HC2 : Hid (chkS ⟨wd, sg, sw, -mu, di, -ad⟩ = 0) := Lib.hid (chkS_yes (ok_neg hok))
    obtain ⟨v, hv⟩ : ∃ v, Hid (valN (⟨wd, sg, sw, mu, di, ad⟩ : Sc) n = v) := ⟨_, Lib.hid rfl⟩
    obtain ⟨e0, he⟩ : ∃ e0, Hid (valE (⟨wd, sg, sw, mu, di, ad⟩ : Sc) n = e0) := ⟨_, Lib.hid rfl⟩
    have HV : Hid (valN ⟨wd, sg, sw, -mu, di, -ad⟩ n = -v) := Lib.hid (by rw [← hv.out]; exact valN_neg hok n)
    have HE : Hid (valE ⟨wd, sg, sw, -mu, di, -ad⟩ n = e0) := Lib.hid (by rw [← he.out]; exact valE_neg hok n)
    have hvb : -1099511627776 ≤ v ∧ v ≤ 1099511627776 := by
      rw [← hv.out]; unfold valN cut; split <;> omega
    have m1 : IntKind.i64.wrap (-mu) = -mu := by
      have h := hok.2.1; simp only at h; exact IntWalk.i64_in _ (by omega)
    have a1 : IntKind.i64.wrap (-ad) = -ad := by
      have h := hok.2.2.2.1; simp only at h; exact IntWalk.i64_in _ (by omega)
    have v1 : IntKind.i64.wrap (-v) = -v := IntWalk.i64_in _ (by omega)
    clear hok
    go_enter Try.func9, Try.ntmps9
    go_wp2_with fail
    refine (Check_any wd sg sw mu di ad _).mono ?_
    rintro e w1 ⟨rfl, b1⟩
    rw [HC.out]
    have bx1 := bx0.below b1
    obtain ⟨d0, d1, d2, d3, d4, d5⟩ := bx1.six
    have cA := (bx1.alloc (.cells #[.bool wd, .bool sg, .bool sw, .int .i64 mu, .int .i64 di, .int .i64 ad] 23)).six.2.2.2.1
    have cB := (bx1.alloc (.cells #[.bool wd, .bool sg, .bool sw, .int .i64 (-mu), .int .i64 di, .int .i64 ad] 23)).six.2.2.2.2.2
    have bx2 := bx1.alloc (.cells #[.bool wd, .bool sg, .bool sw, .int .i64 (-mu), .int .i64 di, .int .i64 (-ad)] 23)
    have bn2 := Bx.new w1 (.cells #[.bool wd, .bool sg, .bool sw, .int .i64 (-mu), .int .i64 di, .int .i64 (-ad)] 23)
    obtain ⟨f0, f1, f2, f3, f4, f5⟩ := bx2.six
    clear b1 bx0
    go_wp2_with fail
    refine (Value_lit _ hv.out he.out).mono ?_
    rintro e w3 ⟨rfl, b3⟩
    have bx3 := bx2.below b3
    have bn3 := bn2.below b3
    clear d0 d1 d2 d3 d4 d5 f0 f1 f2 f3 f4 f5 cA cB bx1 bx2 bn2 b3
    obtain ⟨d0, d1, d2, d3, d4, d5⟩ := bn3.six
    go_wp2_with fail
    refine (Value_lit _ HV.out HE.out).mono ?_
    rintro e w4 ⟨rfl, b4⟩
    have bx4 := bx3.below b4
    have bn4 := bn3.below b4
    clear d0 d1 d2 d3 d4 d5 bx3 bn3 b4
    obtain ⟨d0, d1, d2, d3, d4, d5⟩ := bn4.six
    go_wp2_with fail
    refine (Check_any _ _ _ _ _ _ _).mono ?_
    rintro e w5 ⟨rfl, b5⟩
    rw [HC2.out]
    have bel5 := (bx4.below b5).2
    go_wp2_with fail
    refine (works_yes _).mono ?_
    rintro e w6 ⟨rfl, b6⟩
    go_wp2
    go_ret
    exact ⟨rfl, bel5.trans (b6.mono bel5.size)⟩
  · have HC := Lib.hid (chkS_no hok)
    clear hok
    go_enter Try.func9, Try.ntmps9
    go_wp2_with fail
    refine (Check_any wd sg sw mu di ad _).mono ?_
    rintro e w1 ⟨rfl, b1⟩
    rw [HC.out]
    have bel1 := (bx0.below b1).2
    go_wp2_with fail
    refine (works_yes _).mono ?_
    rintro e w3 ⟨rfl, b3⟩
    go_wp2
    go_ret
    exact ⟨rfl, bel1.trans (b3.mono bel1.size)⟩
end Go.Proofs.Ytcnidddneiekfaa
