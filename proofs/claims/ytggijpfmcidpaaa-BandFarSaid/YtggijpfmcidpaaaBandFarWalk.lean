/-
  The walk of BandFar.
-/
import Derived.Test.YtggijpfmcidpaaaBdKnown
import Derived.Test.YtggijpfmcidpaaaBdNearMath
import Derived.BigQuiet
namespace Go.Proofs.Ytggijpfmcidpaaa
open Go.RowKit
set_option linter.unusedVariables false

theorem runP_okF {d q : Int} {h : Hd} {l : List Pt} (hl : ∀ p ∈ l, Pt.Ok p) : ∀ p ∈ runP d q h l, Pt.Ok p := fun p hp => hl p ((runP_sub d q h l).subset hp)
set_option maxHeartbeats 1000000 in
theorem walk_BandFar (d : Int) (A : Option Addr) (n c : Nat) (l : List Pt) (w : World) (wd : (Lit.int .i64 d).wf = true) (hr : Row .i64 w w.heap.size A (flP l)) (hn : l.length = n) (hc : n ≤ c) (hb : c * 16 ≤ 140737488351232) :
    Calls Try.prog 6 #[.int .i64 d, .slice A n c] w fun e w' => e = .returned (.bool true) ∧ Below w.heap.size w w' := by
  have hd := wf_i64 wd
  by_cases hbig : (16384 : Int) < n
  · go_enter Try.func6, Try.ntmps6
    go_wp2_with fail
    refine (known_yes _).mono ?_
    rintro e w1 ⟨rfl, b1⟩
    go_wp2
    go_ret
    exact ⟨rfl, b1⟩
  have hn' := Lib.hid hn
  have hok := Lib.hid (flP_ok hr.1)
  have hlen := runP_len d 0 Hd.zero l
  have hnone := run_none d 0 l
  rw [hn] at hlen hnone
  have hag := Lib.hid (run_again d l)
  have hch := Lib.hid (fun i => chain_far (chain_run d Hd.zero l) i)
  obtain ⟨out, hout⟩ : ∃ out, Hid (runP d 0 Hd.zero l = out) := ⟨_, Lib.hid rfl⟩
  have hoo := Lib.hid (runP_okF (d := d) (q := 0) (h := Hd.zero) hok.out)
  rw [hout.out] at hlen hoo hnone hag hch
  have bx0 := Bx.new w (.cells #[.int .i64 d, .int .i64 0] 23)
  clear hn hc hb
  have hz : ¬ (0 : Int) > 9223372036854775808 := by omega
  go_enter Try.func6, Try.ntmps6
  go_wp2_with fail
  refine (Run_any d 0 A n c l hd (by omega) _ ((hr.below bx0.2).more bx0.2.size) hn'.out (by omega)).mono ?_
  rw [hout.out]
  rintro e w1 ⟨v1, rfl, own1, b1⟩
  have bx1 := bx0.below b1
  clear b1 bx0
  obtain ⟨A1, c1, rfl, row1, _, _⟩ := own1.row hoo.out
  obtain ⟨m, hm⟩ : ∃ m, out.length = m := ⟨_, rfl⟩
  have HM := Lib.hid hm
  rw [hm] at hlen hnone
  rw [hm]
  clear hm own1
  go_wp2
  go_loopw [7] (fun i wr => ∃ j nq : Nat, j ≤ m ∧ i = .int .i64 (j + 1 : Nat) ∧ Hid (wr = w1.drewN nq)) (fun i _ => m + 1 - (intOf i).toNat)
  case atStart => exact ⟨0, 0, by omega, rfl, Lib.hid rfl⟩
  case round =>
    obtain ⟨j, nq, hk2, rfl, hwr⟩ := hrel
    by_cases hlt : j + 1 < m
    · have rowr : Row .i64 wr w1.heap.size A1 (flP out) := by rw [hwr.out]; exact row1.drewN nq
      obtain ⟨b, o, e1, hb1, hc1, hc2⟩ := rowr.pt (k := j + 1) (by have := HM.out; omega)
      obtain ⟨b', o', e2, hb1', hc1', hc2'⟩ := rowr.pt (k := j) (by have := HM.out; omega)
      have HF := Lib.hid (hch.out j (by have := HM.out; omega))
      have OK1 := Lib.hid (pt_ok hoo.out (k := j + 1) (by have := HM.out; omega))
      have OK2 := Lib.hid (pt_ok hoo.out (k := j) (by have := HM.out; omega))
      subst e1
      injection e2 with e2
      injection e2 with e2 e3
      subst e2 e3
      have HFA := Lib.hid (fun W => far_any (ptX out (j + 1)) (ptX out j) d OK1.out.1 OK2.out.1 hd W)
      rw [HF.out] at HFA
      have n1 : (j : Int) + 1 < (m : Int) := by omega
      have n2 : (0 : Int) ≤ (j : Int) + 1 := by omega
      have n3 : (j : Int) < (m : Int) := by omega
      have n4 : ((j : Int) + 1).toNat = j + 1 := by omega
      have n5 : IntKind.i64.wrap (j : Int) = j := by rw [IntKind.wrap_i64]; omega
      go_wp2
      go_quiet ((go_at_call 20; refine Calls.quiet_of_same (HFA.out _)))
      go_wp2
      go_roundw
      case rel => exact ⟨j + 1, _, by omega, by go_num, Lib.hid (by rw [hwr.out, World.drewN_drewN])⟩
      case measure => simp [intOf]; omega
    · obtain rfl : wr = w1.drewN nq := hwr.out
      have hlt2 : ¬ ((j : Int) + 1 < (m : Int)) := by omega
      have hs1 := bx1.lt
      have bx2 := bx1.drewN nq
      obtain ⟨a1, a2⟩ := cells2 bx2.1
      go_wp2_with fail
      refine (Run_any d 0 A1 m c1 out hd (by omega) _ (row1.drewN nq) HM.out (by omega)).mono ?_
      rw [hag.out]
      rintro e w3 ⟨v3, rfl, own3, b3⟩
      obtain ⟨A3, c3, rfl, row3, _, _⟩ := own3.row hoo.out
      have row13 := (row1.drewN nq).below b3
      have bel3 := (bx2.below b3).2
      rw [HM.out]
      clear a1 a2 own3 b3 bx2 bx1
      go_wp2_with fail
      refine (same_yes_pt A3 A1 m c3 c1 out w3 _ _ row3 row13 HM.out (by omega)).mono ?_
      rintro e w4 ⟨rfl, m4, rfl⟩
      have bel4 := below_drewN bel3 m4
      clear row3 row13 bel3
      generalize w3.drewN m4 = w5 at *
      by_cases h0 : n = 0
      · have h1 : m = 0 := hnone.1 h0
        subst h0 h1
        go_wp2_with fail
        refine (known_yes _).mono ?_
        rintro e w6 ⟨rfl, b6⟩
        go_wp2
        go_ret
        exact ⟨rfl, bel4.trans (b6.mono bel4.size)⟩
      · have h1 : ¬ m = 0 := fun h => h0 (hnone.2 h)
        have h2 : ((n : Int) == 0) = false := beq_false_of_ne (by omega)
        have h3 : ((m : Int) == 0) = false := beq_false_of_ne (by omega)
        go_wp2_with fail
        refine (known_yes _).mono ?_
        rintro e w6 ⟨rfl, b6⟩
        go_wp2
        go_ret
        exact ⟨rfl, bel4.trans (b6.mono bel4.size)⟩
end Go.Proofs.Ytggijpfmcidpaaa
