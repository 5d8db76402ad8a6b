/-
  Contract of the document's Unbits.
-/
import Derived.Test.YtaeecoiodkbomaaPkRBits
namespace Go.Proofs.Ytaeecoiodkbomaa
open Go.RowKit
set_option linter.unusedVariables false

theorem refUnbits_neg (A : Option Addr) (m c : Nat) (n : Int) (w : World) (h : n < 0) :
    Calls Try.prog 26 #[.slice A m c, .int .i64 n] w (Errs 3 w) := by
  go_enter Try.func26, Try.ntmps26
  go_wp2
  go_ret2
  exact ⟨rfl, rfl⟩
theorem refUnbits_count (A : Option Addr) (m c n : Nat) (w : World) (hn : n < 9223372036854775808) (hm : m ≤ 1000000) (h : m ≠ need n) :
    Calls Try.prog 26 #[.slice A m c, .int .i64 n] w (Errs 22 w) := by
  obtain ⟨d, hd⟩ : ∃ d, Hid (need n = d) := ⟨_, Lib.hid rfl⟩
  rw [hd.out] at h
  have h1 : ((m : Int) != (d : Int)) = true := by simp; omega
  have h2 : ((m : Int) == (d : Int)) = false := beq_false_of_ne (by omega)
  clear h
  go_enter Try.func26, Try.ntmps26
  go_wp2_with (go_at_call 50; refine (refNeed_any n _ hn).mono ?_; rintro e w' ⟨rfl, rfl⟩; rw [hd.out])
  go_ret2
  exact ⟨rfl, rfl⟩
theorem refWeight_q (r q : Nat) (w : World) (h : r < 8) (hq : 2 ^ r = q) : Calls Try.prog 47 #[.int .i64 r] w fun e w' => e = .returned (.int .i64 q) ∧ w' = w := by
  subst hq; exact refWeight_any r w h
/-- The bits up to k of the first n. -/
theorem unpk_min (ys : List Int) (k n : Nat) (h : k < n) : unpk ys (min (k + 1) n) = unpk ys (min k n) ++ [bitAt ys k] := by
  rw [Nat.min_eq_left (by omega), Nat.min_eq_left (by omega), unpk_step]
theorem unpk_min_out (ys : List Int) (k n : Nat) (h : n ≤ k) : unpk ys (min (k + 1) n) = unpk ys (min k n) := by
  rw [Nat.min_eq_right (by omega), Nat.min_eq_right (by omega)]
set_option maxHeartbeats 1000000 in
theorem refUnbits_loop (A : Option Addr) (m c n : Nat) (ys : List Int) (w : World) (hr : Row .u8 w w.heap.size A ys) (hy : ys.length = m) (hm : m ≤ 1000000) (h : m = need n) :
    Calls Try.prog 26 #[.slice A m c, .int .i64 n] w (L.GivesOwn w (if spareB ys n = true then [] else unpk ys n) (if spareB ys n = true then 4 else 0)) := by
  have hle := need_le n m h
  have HM := Lib.hid h.symm
  have HY := Lib.hid hy
  clear h hy
  obtain ⟨lo, hlo⟩ : ∃ l, Hid ((if spareB ys n = true then [] else unpk ys n) = l) := ⟨_, Lib.hid rfl⟩
  obtain ⟨eo, heo⟩ : ∃ l : Int, Hid ((if spareB ys n = true then 4 else 0) = l) := ⟨_, Lib.hid rfl⟩
  rw [hlo.out, heo.out]
  go_enter Try.func26, Try.ntmps26
  go_wp2_with fail
  refine (refNeed_any n _ (by omega)).mono ?_
  rintro e w' ⟨rfl, rfl⟩
  rw [HM.out]
  go_wp2
  go_loopw [6, 7] (fun t i wr => ∃ k : Nat, k ≤ 8 * m ∧ i = .int .i64 k ∧ L.Own () 4 wr w.heap.size t (unpk ys (min k n)) ∧ Hid (∀ j, n ≤ j → j < k → bitAt ys j = false) ∧ Below w.heap.size w wr) (fun _ i _ => 8 * m - (intOf i).toNat)
  case atStart => exact ⟨0, by omega, rfl, by rw [Nat.zero_min]; exact L.Own.nil _ _ _ _, Lib.hid (fun j h1 h2 => by omega), Below.refl _ _⟩
  case round =>
    obtain ⟨k, hk, rfl, hown, hz, hbel⟩ := hrel
    by_cases hlt : k < 8 * m
    · have hlt' : (k : Int) < 8 * (m : Int) := by omega
      obtain ⟨b, o, rfl, hb1, hc1⟩ := (hr.below hbel).at_ (i := k / 8) (by have := HY.out; omega)
      have hwf := wf_u8 (hr.wf_at (i := k / 8) (by have := HY.out; omega))
      have HB : Hid (bitAt ys k = decide ((nth ys (k / 8)).toNat / 2 ^ (k % 8) % 2 = 1)) := Lib.hid rfl
      obtain ⟨x, hx⟩ := Int.eq_ofNat_of_zero_le hwf.1
      rw [hx, Int.toNat_natCast] at HB
      rw [hx] at hc1 hwf
      obtain ⟨r, hr8⟩ : ∃ r, k % 8 = r := ⟨_, rfl⟩
      obtain ⟨j, hj⟩ : ∃ j, k / 8 = j := ⟨_, rfl⟩
      have e6 : (k : Int) % 8 = ((r : Nat) : Int) := by omega
      have e7 : (k : Int).tmod 8 = ((r : Nat) : Int) := by rw [Int.tmod_eq_emod_of_nonneg (by omega)]; omega
      have hr9 : r < 8 := by omega
      have e1 : (k : Int) / 8 = (j : Int) := by omega
      have e3 : (k : Int).tdiv 8 = (j : Int) := by rw [Int.tdiv_eq_ediv_of_nonneg (by omega)]; omega
      have e4 : (0 : Int) ≤ (j : Int) := by omega
      have e2 : (j : Int) < (m : Int) := by omega
      have e9 : IntKind.i64.wrap (j : Int) = (j : Int) := IntWalk.i64_in _ (by omega)
      have e10 : IntKind.i64.wrap (r : Int) = (r : Int) := IntWalk.i64_in _ (by omega)
      rw [hr8] at HB
      rw [hj] at hc1
      clear hr8 hj hx
      have hp : 1 ≤ 2 ^ r := Nat.pow_pos (by omega)
      have hp8 : 2 ^ r ≤ 128 := Nat.pow_le_pow_right (n := 2) (by omega) (show r ≤ 7 by omega)
      obtain ⟨q, hq⟩ : ∃ q : Nat, 2 ^ r = q := ⟨_, rfl⟩
      have HQ := Lib.hid hq
      rw [hq] at HB hp hp8
      clear hq
      obtain ⟨y, hy⟩ : ∃ y : Nat, x / q = y := ⟨_, rfl⟩
      have hyx : y ≤ x := by rw [← hy]; exact Nat.div_le_self _ _
      have f1 : IntKind.i64.wrap (x : Int) = (x : Int) := IntWalk.i64_in _ (by omega)
      have f2 : (x : Int) / (q : Int) = (y : Int) := by rw [← hy]; rfl
      have f3 : (x : Int).tdiv (q : Int) = (y : Int) := by rw [Int.tdiv_eq_ediv_of_nonneg (by omega)]; exact f2
      have f4 : IntKind.i64.wrap (y : Int) = (y : Int) := IntWalk.i64_in _ (by omega)
      have f5 : ((q : Int) == 0) = false := beq_false_of_ne (by omega)
      have f6 : (q : Int) ≠ 0 := by omega
      obtain ⟨v, hv⟩ : ∃ v, Hid (bitAt ys k = v) := ⟨_, Lib.hid rfl⟩
      have hv2 := HB.out.symm.trans hv.out
      rw [hy] at hv2
      have f7 : ((y : Int) % 2 == 1) = v := by
        rw [← hv2]
        by_cases h : y % 2 = 1
        · have : (y : Int) % 2 = 1 := by omega
          rw [this, decide_eq_true h]; rfl
        · rw [decide_eq_false h]; exact beq_false_of_ne (by omega)
      clear hv2 hy HB
      have hnl : Hid ((unpk ys (min k n)).length ≤ 8000000) := Lib.hid (by rw [unpk_length]; omega)
      have hsz := hbel.size
      by_cases hkn : k < n
      · have hkn1 : ¬ ((n : Int) ≤ (k : Int)) := by omega
        have hkn2 : (k : Int) < (n : Int) := by omega
        have HT := unpk_min ys k n hkn
        rw [hv.out] at HT
        have HT := Lib.hid HT
        go_wp2_with fail
        go_quiet ((go_at_call 47; refine Calls.quiet_of_same (refWeight_q r q _ hr9 HQ.out)))
        have hone := L.Row.one () (wr.drewN nq) 4 v rfl
        have hbelq := below_drewN hbel nq
        have hsz2 : w.heap.size ≤ (wr.drewN nq).heap.size := hsz
        have hownq := hown.drewN nq
        clear hown hbel hc1
        generalize wr.drewN nq = w2 at *
        go_wp2_with (at_builtin; refine L.wpList_append_row _ rfl _ _ 35 rfl w.heap.size () 4 1 Try.underlying35 L.info_bool _ _ rfl (hownq.alloc _) _ _ 1 1 [v] rfl hone rfl (by have := hnl.out; omega) (by have := hnl.out; simp only [maxLen]; omega) (by simp; omega) ?_; intro v1 w1 hown1 hg1; have hbel1 := L.Below.own1 hbelq hsz2 hownq hg1; rw [← HT.out] at hown1; clear hg1)
        go_roundw
        case rel => exact ⟨k + 1, by omega, by go_num, hown1, Lib.hid (fun j h1 h2 => hz.out j h1 (by omega)), hbel1⟩
        case measure => simp [intOf]; omega
      · have hkn1 : (n : Int) ≤ (k : Int) := by omega
        have hkn2 : ¬ ((k : Int) < (n : Int)) := by omega
        cases v with
        | true =>
          have hs : spareB ys n = true := (spareB_iff ys n).2 ⟨k, by omega, by have := HY.out; omega, hv.out⟩
          have hl1 := hlo.out
          have hl2 := heo.out
          rw [if_pos hs] at hl1 hl2
          subst hl1 hl2
          clear hlo heo hs
          go_wp2_with fail
          go_quiet ((go_at_call 47; refine Calls.quiet_of_same (refWeight_q r q _ hr9 HQ.out)))
          go_wp2
          go_ret2
          exact ⟨_, rfl, L.Own.nil _ _ _ _, below_drewN hbel nq⟩
        | false =>
          have HT := Lib.hid (unpk_min_out ys k n (by omega))
          go_wp2_with fail
          go_quiet ((go_at_call 47; refine Calls.quiet_of_same (refWeight_q r q _ hr9 HQ.out)))
          have hownq := hown.drewN nq
          have hbelq := below_drewN hbel nq
          go_wp2
          go_roundw
          case rel => exact ⟨k + 1, by omega, by go_num, by rw [HT.out]; exact hownq, Lib.hid (fun j h1 h2 => by
            rcases Nat.lt_succ_iff_lt_or_eq.1 h2 with h | h
            · exact hz.out j h1 h
            · subst h; exact hv.out), hbelq⟩
          case measure => simp [intOf]; omega
    · have hlt' : ¬ ((k : Int) < 8 * (m : Int)) := by omega
      have hs : ¬ spareB ys n = true := by
        intro h
        obtain ⟨i, h1, h2, h3⟩ := (spareB_iff ys n).1 h
        rw [hz.out i h1 (by have := HY.out; omega)] at h3
        cases h3
      have hl1 := hlo.out
      have hl2 := heo.out
      rw [if_neg hs] at hl1 hl2
      have hmn : min k n = n := Nat.min_eq_right (by omega)
      rw [hmn, hl1] at hown
      subst hl2
      clear hlo heo hs hmn hl1
      go_wp2
      go_ret2
      exact ⟨_, rfl, hown, hbel⟩
theorem refUnbits_any (A : Option Addr) (m c : Nat) (n : Int) (ys : List Int) (w : World) (hr : Row .u8 w w.heap.size A ys) (hy : ys.length = m) (hm : m ≤ 1000000) (hn : (Lit.int .i64 n).wf = true) :
    Calls Try.prog 26 #[.slice A m c, .int .i64 n] w (L.GivesOwn w (unbitsL ys n) (unbitsE ys n)) := by
  subst hy
  by_cases h1 : n < 0
  · rw [unbitsL, unbitsE, if_pos h1, if_pos h1]
    exact (refUnbits_neg _ _ _ _ _ h1).mono fun e w' ⟨he, hw⟩ => by subst hw; exact ⟨_, he, L.Own.nil _ _ _ _, Below.refl _ _⟩
  · have hn2 := wf_i64 hn
    obtain ⟨n, rfl⟩ := Int.eq_ofNat_of_zero_le (show 0 ≤ n by omega)
    have hn3 : n < 9223372036854775808 := Int.ofNat_lt.1 hn2.2
    rw [unbitsL, unbitsE, if_neg h1, if_neg h1, Int.toNat_natCast]
    by_cases h2 : ys.length ≠ need n
    · rw [if_pos h2, if_pos h2]
      exact (refUnbits_count _ _ _ _ _ hn3 hm h2).mono fun e w' ⟨he, hw⟩ => by subst hw; exact ⟨_, he, L.Own.nil _ _ _ _, Below.refl _ _⟩
    · rw [if_neg h2, if_neg h2]
      exact refUnbits_loop _ _ _ _ ys _ hr rfl hm (Decidable.not_not.1 h2)
end Go.Proofs.Ytaeecoiodkbomaa
