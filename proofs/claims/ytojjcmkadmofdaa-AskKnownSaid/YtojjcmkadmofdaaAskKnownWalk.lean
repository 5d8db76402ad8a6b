/-
  The walk of AskKnown.
-/
import Derived.Test.YtojjcmkadmofdaaAskKnownMath
namespace Go.Proofs.Ytojjcmkadmofdaa
open Go.RowKit
set_option linter.unusedVariables false

theorem same_below_u8 (A A' : Option Addr) (n c c' : Nat) (xs : List Int) (w : World) (B B' : Nat) (hr : Row .u8 w B A xs) (hr' : Row .u8 w B' A' xs) (hn : xs.length = n) (hb : n ≤ 140737488355328) :
    Calls Try.prog 19 #[.slice A n c, .slice A' n c'] w fun e w' => e = .returned (.bool true) ∧ Below w.heap.size w w' :=
  (same_yes_u8 A A' n c c' xs w B B' hr hr' hn hb).mono fun e w' ⟨he, m, hw⟩ => ⟨he, by subst hw; exact bel_drewN w m⟩
set_option maxHeartbeats 2000000 in
set_option maxRecDepth 100000 in
theorem walk_AskKnown (w : World) : Calls Try.prog 9 #[] w fun e w' => e = .returned (.bool true) ∧ Below w.heap.size w w' := by
  go_enter Try.func9, Try.ntmps9
  go_wp2_with fail
  go_loopw [4] (fun i wr => ∃ k : Nat, k ≤ 4 ∧ i = .int .i64 k ∧ Kn w w.heap.size wr) (fun i _ => 4 - (intOf i).toNat)
  case atStart =>
    refine ⟨0, by omega, rfl, ?_⟩
    constructor
    · repeat (first | exact Below.refl _ _ | refine Below.alloc ?_ (by simp <;> omega) _)
    · simp
    · repeat (first | exact heap_new_at _ _ (by simp) | refine (heap_alloc_old _ _ (by simp <;> omega)).trans ?_)
    · repeat (first | exact heap_new_at _ _ (by simp) | refine (heap_alloc_old _ _ (by simp <;> omega)).trans ?_)
    · repeat (first | exact heap_new_at _ _ (by simp) | refine (heap_alloc_old _ _ (by simp <;> omega)).trans ?_)
    · repeat (first | exact heap_new_at _ _ (by simp) | refine (heap_alloc_old _ _ (by simp <;> omega)).trans ?_)
    · repeat (first | exact heap_new_at _ _ (by simp) | refine (heap_alloc_old _ _ (by simp <;> omega)).trans ?_)
    · intro k hk
      rcases (show k = 0 ∨ k = 1 ∨ k = 2 ∨ k = 3 by omega) with rfl | rfl | rfl | rfl
      all_goals (repeat (first | exact heap_new_at _ _ (by simp) | refine (heap_alloc_old _ _ (by simp <;> omega)).trans ?_))
    · repeat (first | exact heap_new_at _ _ (by simp) | refine (heap_alloc_old _ _ (by simp <;> omega)).trans ?_)
  case round =>
    obtain ⟨k, hk, rfl, hK⟩ := hrel
    by_cases hlt : k < 4
    · have hlt' : (k : Int) < 4 := by omega
      obtain ⟨c0, c1, c2, c3, c4, c5⟩ := hK.cells hlt
      have hKs := hK.size
      go_wp2_with fail
      clear c0 c1 c2 c3 c4 c5
      have hp := Put_any (Qs k) (Aos w.heap.size k) (Ass w.heap.size k) (Aps w.heap.size k) (los k) (lss k) (lps k) (los k) (lss k) (lps k) wr (hK.asked hlt)
      rw [(Qs_put hlt).1, (Qs_put hlt).2] at hp
      refine hp.mono ?_
      rintro e w1 ⟨v1, rfl, own1, b1⟩
      obtain ⟨A1, cc1, rfl, row1, _, _⟩ := own1.row (Ps_wf hlt)
      have hK1 := hK.below b1
      have R1 := Lib.hid row1
      have hKs1 := hK1.size
      have hc9 := hK1.cell hlt
      rw [(Ps_len hlt).1]
      clear hp own1 row1 b1 hK hKs
      go_wp2_with fail
      clear hc9
      have hg := Get_view (some ⟨w.heap.size + 5 + k, 0, none⟩) (pls k) (pls k) (Ps k) w1 (hK1.row hlt) (Ps_len hlt).1 (Nat.le_refl _) (by have := (Ps_len hlt).2; omega)
      rw [(Ps_get hlt).1, (Ps_get hlt).2] at hg
      refine hg.mono ?_
      rintro e w2 ⟨A2, A3, A4, m2, m3, n4, c4, rfl, ask2, b2⟩
      have hK2 := hK1.below b2
      have R2 := Lib.hid ((R1.out.below b2).more b2.size)
      have HA := Lib.hid ask2
      have HQ := Lib.hid (hK2.asked hlt)
      obtain rfl : m2 = los k := ask2.lo.symm.trans HQ.out.lo
      obtain rfl : m3 = lss k := ask2.ls.symm.trans HQ.out.ls
      obtain rfl : n4 = lps k := by have h1 := ask2.lp; have h2 := HQ.out.lp; omega
      clear hg ask2 b2 hK1 R1 hKs1
      have y0 := Bx.new w2 (.cells #[.int .i64 (Qs k).c, .int .i64 (Qs k).a, .int .i64 (Qs k).n, .slice A2 (los k) (los k), .slice A3 (lss k) (lss k), .slice A4 (lps k) c4] 26)
      have hKs2 := hK2.size
      have hl3 := lps_le hlt
      have hpl := (Ps_len hlt).2
      have HPL := Lib.hid (Ps_len hlt).1
      have HK := Lib.hid hK2
      clear hK2
      go_wp2_with fail
      go_region_held3 (fun w' => Bx w2 w2.heap.size (.cells #[.int .i64 (Qs k).c, .int .i64 (Qs k).a, .int .i64 (Qs k).n, .slice A2 (los k) (los k), .slice A3 (lss k) (lss k), .slice A4 (lps k) c4] 26) w' ∧ w'.cell? ⟨w.heap.size + 9, k, none⟩ = some (.slice (some ⟨w.heap.size + 5 + k, 0, none⟩) (pls k) (pls k)) ∧ (w'.cell? ⟨w2.heap.size, 0, none⟩ = some (.int .i64 (Qs k).c) ∧ w'.cell? ⟨w2.heap.size, 1, none⟩ = some (.int .i64 (Qs k).a) ∧ w'.cell? ⟨w2.heap.size, 2, none⟩ = some (.int .i64 (Qs k).n) ∧ w'.cell? ⟨w2.heap.size, 3, none⟩ = some (.slice A2 (los k) (los k)) ∧ w'.cell? ⟨w2.heap.size, 4, none⟩ = some (.slice A3 (lss k) (lss k)) ∧ w'.cell? ⟨w2.heap.size, 5, none⟩ = some (.slice A4 (lps k) c4)) ∧ (w'.cell? ⟨w.heap.size + 4, k * 6, none⟩ = some (.int .i64 (Qs k).c) ∧ w'.cell? ⟨w.heap.size + 4, k * 6 + 1, none⟩ = some (.int .i64 (Qs k).a) ∧ w'.cell? ⟨w.heap.size + 4, k * 6 + 2, none⟩ = some (.int .i64 (Qs k).n) ∧ w'.cell? ⟨w.heap.size + 4, k * 6 + 3, none⟩ = some (.slice (Aos w.heap.size k) (los k) (los k)) ∧ w'.cell? ⟨w.heap.size + 4, k * 6 + 4, none⟩ = some (.slice (Ass w.heap.size k) (lss k) (lss k)) ∧ w'.cell? ⟨w.heap.size + 4, k * 6 + 5, none⟩ = some (.slice (Aps w.heap.size k) (lps k) (lps k))))
        ((first
          | exact ⟨y8, (HK.out.below y8.2).cell hlt, y8.six, (HK.out.below y8.2).cells hlt⟩
          | exact ⟨y7, (HK.out.below y7.2).cell hlt, y7.six, (HK.out.below y7.2).cells hlt⟩
          | exact ⟨y0.drew, (HK.out.below y0.drew.2).cell hlt, y0.drew.six, (HK.out.below y0.drew.2).cells hlt⟩
          | exact ⟨y0, (HK.out.below y0.2).cell hlt, y0.six, (HK.out.below y0.2).cells hlt⟩))
        (first
          | (go_at_call 19; refine (same_below_u8 _ _ (pls k) _ _ (Ps k) _ w2.heap.size _ (by exact R2.out.below y0.drew.2) (by exact (HK.out.below y0.drew.2).row hlt) HPL.out (by omega)).mono ?_; rintro e w7 ⟨rfl, b7⟩; have y7 := y0.drew.below b7)
          | (go_at_call 24; refine (SameAsk_yes (Qs k) A2 A3 A4 (Aos w.heap.size k) (Ass w.heap.size k) (Aps w.heap.size k) (los k) (lss k) (lps k) (los k) (lss k) c4 (los k) (lss k) (lps k) _ (by exact (HA.out.below y7.2).more (Nat.le_of_lt y7.lt)) (by exact (HK.out.below y7.2).asked hlt) (by omega) (by omega) (by omega)).mono ?_; rintro e w8 ⟨rfl, b8⟩; have y8 := y7.below b8))
      have hK8 := HK.out.below y8.2
      clear y0 y7 y8 b7 b8 HK HQ HA R2
      go_wp2
      go_roundw
      case rel => exact ⟨k + 1, by omega, by go_num, hK8⟩
      case measure => simp [intOf]; omega
    · have e4 : (k : Int) = 4 := by omega
      rw [e4]
      clear e4
      have bel0 := hK.bel
      clear hK
      obtain ⟨wo, hwo⟩ : ∃ wo : World, wo = wr := ⟨_, rfl⟩
      subst hwo
      go_wp2_with fail
      go_loopw [11] (fun i wq => ∃ k : Nat, k ≤ 12 ∧ i = .int .i64 k ∧ Kb wo wo.heap.size wq) (fun i _ => 12 - (intOf i).toNat)
      case atStart =>
        refine ⟨0, by omega, rfl, ?_⟩
        constructor
        · repeat (first | exact Below.refl _ _ | refine Below.alloc ?_ (by simp <;> omega) _)
        · simp
        · intro k hk
          rcases (show k = 0 ∨ k = 1 ∨ k = 2 ∨ k = 3 ∨ k = 4 ∨ k = 5 ∨ k = 6 ∨ k = 7 ∨ k = 8 ∨ k = 9 ∨ k = 10 by omega) with rfl | rfl | rfl | rfl | rfl | rfl | rfl | rfl | rfl | rfl | rfl
          all_goals (repeat (first | exact heap_new_at _ _ (by simp) | refine (heap_alloc_old _ _ (by simp <;> omega)).trans ?_))
        · repeat (first | exact heap_new_at _ _ (by simp) | refine (heap_alloc_old _ _ (by simp <;> omega)).trans ?_)
        · repeat (first | exact heap_new_at _ _ (by simp) | refine (heap_alloc_old _ _ (by simp <;> omega)).trans ?_)
      case round =>
        obtain ⟨k, hk, rfl, hB⟩ := hrel
        by_cases hlt : k < 12
        · have hlt' : (k : Int) < 12 := by omega
          have hc := hB.cell hlt
          have hBs := hB.size
          obtain ⟨f1, f2, f3, _⟩ := Bs_facts hlt
          have hr := EsL_range hlt
          have hg := Get_view (Bad wo.heap.size k) (bls k) (bls k) (Bs k) _ (hB.row hlt) f2 (Nat.le_refl _) (by omega)
          rw [f1] at hg
          have HG := Lib.hid hg
          have HBk := Lib.hid hB
          have HNo := Lib.hid (fun V (h : Kb wo wo.heap.size V) => h.no hlt)
          clear hg f1 f2
          generalize nth EsL k = ev at *
          have te : (ev != ev) = false := by simp
          go_wp2_with fail
          clear hc
          refine HG.out.mono ?_
          rintro e w2 ⟨A2, A3, A4, m2, m3, n4, c4, rfl, ask2, b2⟩
          have hB2 := HBk.out.below b2
          have hB3 := hB2.below (bel_alloc w2 (.cells #[.int .i64 (getQ (Bs k)).c, .int .i64 (getQ (Bs k)).a, .int .i64 (getQ (Bs k)).n, .slice A2 m2 m2, .slice A3 m3 m3, .slice A4 n4 c4] 26))
          have hc2 := HNo.out _ hB3
          have hBs2 := hB2.size
          clear ask2 b2 HG
          go_wp2
          go_roundw
          case rel => exact ⟨k + 1, by omega, by go_num, hB3⟩
          case measure => simp [intOf]; omega
        · obtain rfl : k = 12 := by omega
          have bel1 := bel0.trans (hB.bel.mono bel0.size)
          clear hB bel0
          go_wp2_with fail
          refine (ends_yes _).mono ?_
          rintro e w3 ⟨rfl, b3⟩
          have bel3 := bel1.trans (b3.mono bel1.size)
          clear bel1 b3
          go_wp2_with fail
          refine (known_yes _).mono ?_
          rintro e w4 ⟨rfl, b4⟩
          go_wp2
          go_ret
          exact ⟨rfl, bel3.trans (b4.mono bel3.size)⟩
end Go.Proofs.Ytojjcmkadmofdaa
