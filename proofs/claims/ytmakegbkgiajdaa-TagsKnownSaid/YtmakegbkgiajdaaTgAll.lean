/-
  The document's contract of CheckAll of layer 9.
-/
import Derived.Test.YtmakegbkgiajdaaTgCheck
import Derived.Test.YtmakegbkgiajdaaTgFind
namespace Go.Proofs.Ytmakegbkgiajdaa
open Go.RowKit
set_option linter.unusedVariables false
attribute [local go_sem ↓] ldTag_fold

theorem refCheck9_t (t : Tg) (w : World) (hs : t.nm.size ≤ maxLen) : Calls Try.prog 14 #[tgV t] w fun e w' => e = .returned (.int .i64 (chkT t)) ∧ Below w.heap.size w w' := by
  obtain ⟨nm, un, ki, ad, ev, we, sg, sw, mu, di, aa, de, qu, ul, uh, la, lo, hi, hy⟩ := t
  exact refCheck9_any nm un ki ad ev we sg sw mu di aa de qu ul uh la lo hi hy w hs
/-- A tag of a list in memory is loaded whole. -/
theorem VRow.load {w : World} {B : Nat} {A : Option Addr} {l : List Tg} (h : VRow w B A (flatV tgC l)) {i : Nat} (hi : i < l.length) :
    ∃ b o, A = some ⟨b, o, none⟩ ∧ b < B ∧ (ldTag (.pointer (some ⟨b, o + i * 19, none⟩))).run Try.prog w = .ok (tgV l[i]) w ∧ w.cell? ⟨b, o + i * 19, none⟩ = some (.string l[i].nm) := by
  obtain ⟨b, o, e, hb, hc⟩ := h.elem tgC_len (by omega) hi
  exact ⟨b, o, e, hb, ldTag_run rfl hc, hc 0 _ rfl⟩
set_option maxHeartbeats 1000000 in
theorem refCheckAll_any (A : Option Addr) (n c : Nat) (l : List Tg) (w : World) (hr : VRow w w.heap.size A (flatV tgC l)) (hn : l.length = n) (hb : n ≤ 4611686018427387904) (hok : ∀ t ∈ l, Tg.Ok t) :
    Calls Try.prog 17 #[.slice A n c] w fun e w' => e = .returned (.tuple #[.int .i64 (chkAll l).1, .int .i64 (chkAll l).2]) ∧ Below w.heap.size w w' := by
  by_cases hbig : 64 < n
  · have HA : Hid (chkAll l = (34, 0)) := Lib.hid (chkAll_many (by omega))
    have hbig' : (64 : Int) < n := by omega
    rw [HA.out]
    go_enter Try.func17, Try.ntmps17
    go_wp2
    (try simp only [Exit.inBlock, Exit.then])
    refine bodyPost_ret (v := .tuple #[.int .i64 34, .int .i64 0]) (by simp [results, Try.results17, go_sem, *]) rfl ?_
    exact ⟨rfl, Below.refl _ _⟩
  have H64 : Hid (¬ 64 < l.length) := Lib.hid (by omega)
  have hbig' : ¬ (64 : Int) < n := by omega
  have hn' := Lib.hid hn
  have HOK := Lib.hid hok
  clear hn hok
  go_enter Try.func17, Try.ntmps17
  go_wp2
  go_loopw [4] (fun i wr => ∃ k : Nat, k ≤ n ∧ i = .int .i64 k ∧ Hid (∀ j, j < k → badAt l j = 0) ∧ Hid (Below w.heap.size w wr)) (fun i _ => n - (intOf i).toNat)
  case atStart => exact ⟨0, by omega, rfl, Lib.hid (fun j hj => absurd hj (by omega)), Lib.hid (Below.refl _ _)⟩
  case round =>
    obtain ⟨k, hk, rfl, hall, hbel⟩ := hrel
    by_cases hlt : k < n
    · have hkl : k < l.length := by have := hn'.out; omega
      obtain ⟨b, o, rfl, hb1, hld, hc1⟩ := (hr.below hbel.out).load hkl
      have hlt' : (k : Int) < (n : Int) := by omega
      have hk0 : (0 : Int) ≤ k := by omega
      go_wp2_with fail
      refine (refCheck9_t l[k] _ (HOK.out _ (List.getElem_mem hkl)).1).mono ?_
      rintro e w1 ⟨rfl, b1⟩
      have hbel1 := Lib.hid (hbel.out.trans (b1.mono hbel.out.size))
      clear hld hc1 hbel
      by_cases hc : chkT l[k] = 0
      case neg =>
        have HA : Hid (chkAll l = (chkT l[k], (k : Int))) := Lib.hid (chkAll_at H64.out hkl (badAt_chk hkl hc) hc hall.out)
        generalize chkT l[k] = ec at *
        go_wp2
        (try simp only [Exit.inBlock, Exit.then])
        refine bodyPost_ret (v := .tuple #[.int .i64 ec, .int .i64 k]) (by simp [results, Try.results17, go_sem, *]) rfl ?_
        exact ⟨by rw [HA.out], hbel1.out⟩
      case pos =>
      rw [hc]
      have HC := Lib.hid hc
      clear hc
      cases k with
      | zero =>
        have hall2 : Hid (∀ j, j < 0 + 1 → badAt l j = 0) := Lib.hid (fun j hj => by
          obtain rfl : j = 0 := by omega
          rw [badAt_first hkl]; exact HC.out)
        go_wp2
        go_quiet (fail)
        have hbel2 := below_drewN hbel1.out nq
        clear hbel1
        generalize w1.drewN nq = w2 at *
        go_wp2
        go_quiet (fail)
        go_wp2
        go_roundw
        case rel => exact ⟨1, by omega, rfl, hall2, Lib.hid (below_drewN hbel2 _)⟩
        case measure => simp [intOf]; omega
      | succ k =>
        have hkl0 : k < l.length := by omega
        have rr := hr.below hbel1.out
        obtain ⟨b', o', e2, _, hp1⟩ := rr.name hkl
        injection e2 with e2
        injection e2 with e2 e3
        subst e2 e3
        obtain ⟨b', o', e2, _, hp2⟩ := rr.name hkl0
        injection e2 with e2
        injection e2 with e2 e3
        subst e2 e3
        have HN := Lib.hid (badAt_next hkl HC.out)
        obtain ⟨s1, hs1⟩ : ∃ s1, l[k + 1].nm = s1 := ⟨_, rfl⟩
        obtain ⟨s0, hs0⟩ : ∃ s0, l[k].nm = s0 := ⟨_, rfl⟩
        have HB : Hid (badAt l (k + 1) = bif s1.toList == s0.toList then 7 else bif Op.bytesLess s1.toList s0.toList then 29 else 0) := Lib.hid (by rw [HN.out, badN, hs1, hs0])
        rw [hs1] at hp1
        rw [hs0] at hp2
        clear hs1 hs0 HN rr
        have n1 : (k : Int) + 1 < (n : Int) := by omega
        have n2 : (0 : Int) ≤ (k : Int) + 1 := by omega
        have n3 : (k : Int) < (n : Int) := by omega
        have n4 : ((k : Int) + 1).toNat = k + 1 := by omega
        have n5 : IntKind.i64.wrap (k : Int) = k := by rw [IntKind.wrap_i64]; omega
        have n6 : (k : Int) + 1 > 0 := by omega
        have n7 : (0 : Int) ≤ (k : Int) := by omega
        cases heq : s1.toList == s0.toList with
        | true =>
          have HA : Hid (chkAll l = (7, ((k + 1 : Nat) : Int))) := Lib.hid (chkAll_at H64.out hkl (by rw [HB.out, heq]; rfl) (by omega) hall.out)
          go_wp2
          go_quiet (fail)
          go_wp2
          (try simp only [Exit.inBlock, Exit.then])
          refine bodyPost_ret (v := .tuple #[.int .i64 7, .int .i64 ((k : Int) + 1)]) (by simp [results, Try.results17, go_sem, *]) rfl ?_
          exact ⟨by rw [HA.out]; simp, below_drewN hbel1.out _⟩
        | false =>
          cases hls : Op.bytesLess s1.toList s0.toList with
          | true =>
            have HA : Hid (chkAll l = (29, ((k + 1 : Nat) : Int))) := Lib.hid (chkAll_at H64.out hkl (by rw [HB.out, heq, hls]; rfl) (by omega) hall.out)
            go_wp2
            go_quiet (fail)
            have hbel2 := below_drewN hbel1.out nq
            have q1 : (w1.drewN nq).cell? ⟨b, o + (k + 1) * 19, none⟩ = _ := hp1
            have q2 : (w1.drewN nq).cell? ⟨b, o + k * 19, none⟩ = _ := hp2
            clear hbel1 hp1 hp2
            generalize w1.drewN nq = w2 at *
            go_wp2
            go_quiet (fail)
            go_wp2
            (try simp only [Exit.inBlock, Exit.then])
            refine bodyPost_ret (v := .tuple #[.int .i64 29, .int .i64 ((k : Int) + 1)]) (by simp [results, Try.results17, go_sem, *]) rfl ?_
            exact ⟨by rw [HA.out]; simp, below_drewN hbel2 _⟩
          | false =>
            have hall2 : Hid (∀ j, j < k + 1 + 1 → badAt l j = 0) := Lib.hid (fun j hj => by
              rcases Nat.lt_or_ge j (k + 1) with h | h
              · exact hall.out j h
              · obtain rfl : j = k + 1 := by omega
                rw [HB.out, heq, hls]; rfl)
            go_wp2
            go_quiet (fail)
            have hbel2 := below_drewN hbel1.out nq
            have q1 : (w1.drewN nq).cell? ⟨b, o + (k + 1) * 19, none⟩ = _ := hp1
            have q2 : (w1.drewN nq).cell? ⟨b, o + k * 19, none⟩ = _ := hp2
            clear hbel1 hp1 hp2
            generalize w1.drewN nq = w2 at *
            go_wp2
            go_quiet (fail)
            go_wp2
            go_roundw
            case rel => exact ⟨k + 1 + 1, by omega, by go_num, hall2, Lib.hid (below_drewN hbel2 _)⟩
            case measure => simp [intOf]; omega
    · have HA : Hid (chkAll l = (0, 0)) := Lib.hid (chkAll_none H64.out (fun j hj => hall.out j (by have := hn'.out; omega)))
      go_wp2
      (try simp only [Exit.inBlock, Exit.then])
      refine bodyPost_ret (v := .tuple #[.int .i64 0, .int .i64 0]) (by simp [results, Try.results17, go_sem, *]) rfl ?_
      exact ⟨by rw [HA.out], hbel.out⟩
end Go.Proofs.Ytmakegbkgiajdaa
