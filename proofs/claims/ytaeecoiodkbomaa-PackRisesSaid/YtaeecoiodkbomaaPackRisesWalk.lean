/-
  The walk of PackRises.
-/
import Derived.Test.YtaeecoiodkbomaaPackBackWalk
namespace Go.Proofs.Ytaeecoiodkbomaa
open Go.RowKit
set_option linter.unusedVariables false

theorem be_decides (n u v i : Nat) (hu : u < 256 ^ n) (hv : v < 256 ^ n) (hi : i < n) (he : ∀ j, j < i → nth (be n u) j = nth (be n v) j) :
    (nth (be n u) i < nth (be n v) i → u < v) ∧ (nth (be n v) i < nth (be n u) i → v < u) := by
  have := be_first n u v i hi he
  rwa [Nat.mod_eq_of_lt hu, Nat.mod_eq_of_lt hv] at this
theorem be_equal (n u v : Nat) (hu : u < 256 ^ n) (hv : v < 256 ^ n) (he : ∀ j, j < n → nth (be n u) j = nth (be n v) j) : u = v := by
  have := be_same n u v he
  rwa [Nat.mod_eq_of_lt hu, Nat.mod_eq_of_lt hv] at this

theorem Put_nil (u n : Nat) (w : World) (h1 : 1 ≤ n) (h8 : n ≤ 8) (hv : u < 18446744073709551616) (h : u < 256 ^ n) :
    Calls Try.prog 14 #[.slice none 0 0, .int .u64 u, .int .i64 n] w (Opens w (be n u) n) := by
  have := Put_ok none 0 0 u n [] w (Row.nil _ _ _ _) rfl (by omega) h1 h8 hv h
  rwa [List.nil_append, Nat.zero_add] at this

set_option maxHeartbeats 1000000 in
set_option maxRecDepth 100000 in
theorem walk_PackRises (a0 a1 : Int) (w : World) (w0 : (Lit.int .u64 a0).wf = true) (w1 : (Lit.int .u64 a1).wf = true) :
    Calls Try.prog 8 #[.int .u64 a0, .int .u64 a1] w fun e w' => e = .returned (.bool true) ∧ Below w.heap.size w w' := by
  have hv := wf_u64 w0
  obtain ⟨v, rfl⟩ := Int.eq_ofNat_of_zero_le hv.1
  have hv3 : v < 18446744073709551616 := Int.ofNat_lt.1 hv.2
  have hx := wf_u64 w1
  obtain ⟨x, rfl⟩ := Int.eq_ofNat_of_zero_le hx.1
  have hx3 : x < 18446744073709551616 := Int.ofNat_lt.1 hx.2
  clear w0 w1 hv hx
  go_enter Try.func8, Try.ntmps8
  go_wp2
  go_loopw [5, 6, 7, 8, 9, 10, 11, 12] (fun i _ _ _ _ _ _ _ wr => ∃ n : Nat, 1 ≤ n ∧ n ≤ 9 ∧ i = .int .i64 n ∧ Below w.heap.size w wr) (fun i _ _ _ _ _ _ _ _ => 9 - (intOf i).toNat)
  case atStart => exact ⟨1, by omega, by omega, rfl, Below.refl _ _⟩
  case round =>
    obtain ⟨n, hn, hn9, rfl, bel⟩ := hrel
    by_cases hlt : n ≤ 8
    · have hu1 := mod_lt_64 v n hv3
      have hu2 := Lib.hid (mod_lt_pow v n)
      have hy1 := mod_lt_64 x n hx3
      have hy2 := Lib.hid (mod_lt_pow x n)
      have hsz := bel.size
      go_wp2_with fail
      refine (least_any v n hn hlt hv3 _).mono ?_
      rintro e w' ⟨rfl, rfl⟩
      generalize v % 256 ^ n = u at *
      go_wp2_with fail
      refine (least_any x n hn hlt hx3 _).mono ?_
      rintro e w' ⟨rfl, rfl⟩
      generalize x % 256 ^ n = y at *
      go_wp2_with fail
      refine (Put_nil u n _ hn hlt hu1 hu2.out).mono ?_
      rintro e w2 ⟨rfl, hg, b2⟩
      have hg1 : Bk w2 wr.heap.size (be n u) := hg
      have bel2 := bel.trans (b2.mono bel.size)
      clear hg b2
      go_wp2_with fail
      refine (Put_nil y n _ hn hlt hy1 hy2.out).mono ?_
      rintro e w3 ⟨rfl, hg, b3⟩
      have hg2 : Bk w3 w2.heap.size (be n y) := hg
      have hg3 := hg1.below b3
      have bel3 := bel2.trans (b3.mono bel2.size)
      clear hg b3 hg1 bel2
      have rx := hg3.row (be n u) (be_wf _ _) (List.prefix_refl _)
      have ry := hg2.row (be n y) (be_wf _ _) (List.prefix_refl _)
      clear hg2 hg3
      go_wp2
      obtain ⟨wo, hwo⟩ : ∃ wo : World, wo = w3 := ⟨_, rfl⟩
      subst hwo
      clear bel hsz
      go_loopw [12] (fun i wr => ∃ k q : Nat, k ≤ n ∧ i = .int .i64 k ∧ Hid (∀ j, j < k → nth (be n u) j = nth (be n y) j) ∧ wr = wo.drewN q) (fun i _ => n - (intOf i).toNat)
      case atStart => exact ⟨0, 0, by omega, rfl, Lib.hid (fun j hj => by omega), rfl⟩
      case round =>
        obtain ⟨k, q, hk, rfl, he, rfl⟩ := hrel
        by_cases hlk : k < n
        · obtain ⟨b, o, e1, _, hc1⟩ := rx.at_ (i := k) (by rw [be_length]; exact hlk)
          obtain ⟨b', o', e2, _, hc2⟩ := ry.at_ (i := k) (by rw [be_length]; exact hlk)
          injection e1 with e1
          injection e1 with e1 e1'
          injection e2 with e2
          injection e2 with e2 e2'
          subst e1 e1' e2 e2'
          rw [Nat.zero_add] at hc1 hc2
          have hlk' : (k : Int) < (n : Int) := by omega
          have hbd := be_decides n u y k hu2.out hy2.out hlk he.out
          have HE := he.out
          obtain ⟨p, hp⟩ : ∃ p, Hid (nth (be n u) k = p) := ⟨_, Lib.hid rfl⟩
          obtain ⟨r, hr⟩ : ∃ r, Hid (nth (be n y) k = r) := ⟨_, Lib.hid rfl⟩
          rw [hp.out] at hc1 hbd
          rw [hr.out] at hc2 hbd
          have hb1 := Lib.hid hbd.1
          have hb2 := Lib.hid hbd.2
          clear hbd HE
          by_cases hpr : p = r
          · subst hpr
            go_wp2
            go_quiet (fail)
            go_wp2
            go_roundw
            case rel => exact ⟨k + 1, _, by omega, by go_num, Lib.hid (fun j hj => by
              rcases Nat.lt_succ_iff_lt_or_eq.1 hj with h | h
              · exact he.out j h
              · subst h; rw [hp.out, hr.out]), rfl⟩
            case measure => simp [intOf]; omega
          · have hne : (p == r) = false := by simpa using hpr
            rcases Int.lt_or_gt_of_ne hpr with h | h
            · have huy := hb1.out h
              clear hb1 hb2
              have f1 : ((u : Int) == (y : Int)) = false := beq_false_of_ne (by omega)
              have f2 : ((k : Int) == (n : Int)) = false := beq_false_of_ne (by omega)
              have f3 : decide ((u : Int) < (y : Int)) = true := decide_eq_true (by omega)
              have f4 : decide ((y : Int) < (u : Int)) = false := decide_eq_false (by omega)
              have f5 : decide (u < y) = true := decide_eq_true huy
              have f6 : decide (y < u) = false := decide_eq_false (by omega)
              have f7 : decide (r ≤ p) = false := decide_eq_false (by omega)
              go_wp2
              go_quiet (fail)
              go_wp2
              go_quiet (fail)
              go_wp2
              go_roundw
              case rel => exact ⟨n + 1, by omega, by omega, by go_num, below_drewN bel3 _⟩
              case measure => simp [intOf]; omega
            · have huy := hb2.out h
              clear hb1 hb2
              have f1 : ((u : Int) == (y : Int)) = false := beq_false_of_ne (by omega)
              have f2 : ((k : Int) == (n : Int)) = false := beq_false_of_ne (by omega)
              have f3 : decide ((y : Int) < (u : Int)) = true := decide_eq_true (by omega)
              have f4 : decide ((u : Int) < (y : Int)) = false := decide_eq_false (by omega)
              have f5 : decide (y < u) = true := decide_eq_true huy
              have f6 : decide (u < y) = false := decide_eq_false (by omega)
              have f7 : decide (p ≤ r) = false := decide_eq_false (by omega)
              go_wp2
              go_quiet (fail)
              go_wp2
              go_quiet (fail)
              go_wp2
              go_roundw
              case rel => exact ⟨n + 1, by omega, by omega, by go_num, below_drewN bel3 _⟩
              case measure => simp [intOf]; omega
        · obtain rfl : k = n := by omega
          have huy := be_equal k u y hu2.out hy2.out he.out
          subst huy
          go_wp2
          go_quiet (fail)
          go_wp2
          go_quiet (fail)
          go_wp2
          go_roundw
          case rel => exact ⟨k + 1, by omega, by omega, by go_num, below_drewN bel3 _⟩
          case measure => simp [intOf]; omega
    · go_wp2_with fail
      refine (works_yes _).mono ?_
      rintro e w' ⟨rfl, b⟩
      go_wp2
      go_ret
      exact ⟨rfl, bel.trans (b.mono bel.size)⟩
end Go.Proofs.Ytaeecoiodkbomaa
