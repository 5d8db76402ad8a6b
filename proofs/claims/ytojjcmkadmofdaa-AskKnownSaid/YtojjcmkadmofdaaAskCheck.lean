/-
  Contracts of Check of package ask and of what it calls.
-/
import Derived.Test.YtojjcmkadmofdaaAskFields
import Derived.IntWalk
namespace Go.Proofs.Ytojjcmkadmofdaa
open Go.RowKit
set_option linter.unusedVariables false
theorem inPlace_any (f r l : Int) (w : World) :
    Calls Try.prog 65 #[.agg #[.int .i64 f, .int .i64 r, .int .i64 l]] w fun e w' => e = .returned (.bool (inPl f r l)) ∧ Below w.heap.size w w' := by
  by_cases hr : 0 ≤ r ∧ r ≤ 9999
  · have hw : IntKind.i64.wrap (10000 - r) = 10000 - r := IntWalk.i64_in _ (by omega)
    go_enter Try.func65, Try.ntmps65
    go_wp2
    all_goals (go_ret; refine ⟨?_, bel_alloc _ _⟩; show Ending.returned (Value.bool _) = Ending.returned (Value.bool (inPl f r l)); congr 2; rw [Bool.eq_iff_iff, inPl_iff]; (simp <;> omega))
  · go_enter Try.func65, Try.ntmps65
    go_wp2
    all_goals (go_ret; refine ⟨?_, bel_alloc _ _⟩; show Ending.returned (Value.bool _) = Ending.returned (Value.bool (inPl f r l)); congr 2; rw [Bool.eq_iff_iff, inPl_iff]; (simp <;> omega))

set_option maxHeartbeats 1000000 in
theorem checkParts_any (A : Option Addr) (n c : Nat) (fl : List Int) (w : World) (hr : Row .i64 w w.heap.size A fl) (hn : fl.length = 3 * n) (hb : n ≤ 35) :
    Calls Try.prog 38 #[.slice A n c] w fun e w' => e = .returned (.int .i64 (ptsE fl n)) ∧ Below w.heap.size w w' := by
  have hn' := Lib.hid hn
  clear hn
  go_enter Try.func38, Try.ntmps38
  go_wp2
  go_loopw [3, 8] (fun s i wr => ∃ k : Nat, k ≤ n ∧ i = .int .i64 k ∧ s = .int .i64 (sumTo fl k) ∧ allOk fl k = true ∧ Below w.heap.size w wr) (fun _ i _ => n - (intOf i).toNat)
  case atStart => exact ⟨0, by omega, rfl, rfl, rfl, Below.refl _ _⟩
  case round =>
    obtain ⟨k, hk, rfl, rfl, hok, hbel⟩ := hrel
    by_cases hlt : k < n
    · obtain ⟨b, o, rfl, hb1, hc1, hc2, hc3⟩ := (hr.below hbel).three (k := k) (by have := hn'.out; omega)
      have hs := sumTo_range hok
      have hbel2 := hbel.alloc hbel.size (.cells #[.int .i64 (nth fl (3 * k)), .int .i64 (nth fl (3 * k + 1)), .int .i64 (nth fl (3 * k + 2))] 47)
      have HS : Hid (sumTo fl (k + 1) = sumTo fl k + (2 + 2 * nth fl (3 * k + 2))) := Lib.hid rfl
      have HO : Hid (allOk fl (k + 1) = (allOk fl k && inPl (nth fl (3 * k)) (nth fl (3 * k + 1)) (nth fl (3 * k + 2)))) := Lib.hid rfl
      have HN : Hid (inPl (nth fl (3 * k)) (nth fl (3 * k + 1)) (nth fl (3 * k + 2)) = false → allOk fl n = false) := Lib.hid (fun h => allOk_no hlt h)
      have hbx := heap_alloc_new wr (.cells #[.int .i64 (nth fl (3 * k)), .int .i64 (nth fl (3 * k + 1)), .int .i64 (nth fl (3 * k + 2))] 47)
      have HB := Lib.hid hbx
      clear hbx
      generalize nth fl (3 * k) = x at *
      generalize nth fl (3 * k + 1) = y at *
      generalize nth fl (3 * k + 2) = z at *
      generalize sumTo fl k = s at *
      go_wp2_with fail
      refine (inPlace_any x y z _).mono ?_
      rintro e w1 ⟨rfl, b1⟩
      have hbel3 := hbel2.trans (b1.mono hbel2.size)
      have HB2 := Lib.hid ((b1.block wr.heap.size (by simp)).trans HB.out)
      have hc := cell_of_row w1 wr.heap.size 2 _ _ _ HB2.out
      clear hbel hbel2 b1 HB hc1 hc2 hc3
      cases hin : inPl x y z with
      | false =>
        have he := HN.out hin
        have hp : Hid (ptsE fl n = 3) := Lib.hid (by rw [ptsE, he]; rfl)
        clear HN HO HS he hc HB2
        go_wp2
        go_ret
        exact ⟨by rw [hp.out]; rfl, hbel3⟩
      | true =>
        have hz := (inPl_iff _ _ _).1 hin
        have e1 : IntKind.i64.wrap (2 * z) = 2 * z := IntWalk.i64_in _ (by omega)
        have e2 : IntKind.i64.wrap (2 + 2 * z) = 2 + 2 * z := IntWalk.i64_in _ (by omega)
        have e3 : IntKind.i64.wrap (s + (2 + 2 * z)) = s + (2 + 2 * z) := IntWalk.i64_in _ (by omega)
        have HO2 : Hid (allOk fl (k + 1) = true) := Lib.hid (by rw [HO.out, hok, hin]; rfl)
        clear HN HO
        go_wp2
        go_roundw
        case rel => exact ⟨k + 1, by omega, by go_num, by rw [HS.out], HO2.out, hbel3⟩
        case measure => simp [intOf]; omega
    · obtain rfl : k = n := by omega
      by_cases hl : 245 < sumTo fl k
      · have hp : Hid (ptsE fl k = 2) := Lib.hid (by rw [ptsE, if_pos hok, if_pos hl])
        go_wp2
        go_ret
        exact ⟨by rw [hp.out]; rfl, hbel⟩
      · have hp : Hid (ptsE fl k = 0) := Lib.hid (by rw [ptsE, if_pos hok, if_neg hl])
        go_wp2
        go_ret
        exact ⟨by rw [hp.out]; rfl, hbel⟩

set_option maxHeartbeats 2000000 in
theorem Check_any (q : Req) (Ao As Ap : Option Addr) (lo ls lp co cs cp : Nat) (w : World) (h : Asked w w.heap.size q Ao As Ap lo ls lp) :
    Calls Try.prog 13 #[.agg #[.int .i64 q.c, .int .i64 q.a, .int .i64 q.n, .slice Ao lo co, .slice As ls cs, .slice Ap lp cp]] w
      fun e w' => e = .returned (.int .i64 (chk q.c q.a q.n lo ls lp q.fl)) ∧ Below w.heap.size w w' := by
  have H := Lib.hid h.fl
  have HL := Lib.hid h.lp
  clear h
  have hmr := mm_range q.c
  obtain ⟨c, a, n, on, set, fl⟩ := q
  simp only at H HL hmr ⊢
  have hbox := Lib.hid (heap_alloc_new w (.cells #[.int .i64 c, .int .i64 a, .int .i64 n, .slice Ao lo co, .slice As ls cs, .slice Ap lp cp] 26))
  have bel0 := bel_alloc w (.cells #[.int .i64 c, .int .i64 a, .int .i64 n, .slice Ao lo co, .slice As ls cs, .slice Ap lp cp] 26)
  obtain ⟨r, hr⟩ : ∃ r, Hid (chk c a n lo ls lp fl = r) := ⟨_, Lib.hid rfl⟩
  rw [hr.out]
  go_enter Try.func13, Try.ntmps13
  go_wp2_with fail
  refine (isCode_any c _).mono ?_
  rintro e w1 ⟨rfl, rfl⟩
  by_cases hc : 0 < mm c
  rotate_left
  · have e0 : Hid (r = 20) := Lib.hid (by rw [← hr.out, chk, if_pos (by omega)])
    have e1 : decide (0 < mm c) = false := decide_eq_false hc
    clear hbox
    go_wp2
    go_ret
    exact ⟨by rw [e0.out]; rfl, bel0⟩
  have e1 : decide (0 < mm c) = true := decide_eq_true hc
  go_wp2_with fail
  clear e1
  refine (hasStray_any c a n Ao As Ap lo co ls cs lp cp _ hc).mono ?_
  rintro e w1 ⟨rfl, b1⟩
  have hbox1 := Lib.hid ((b1.block w.heap.size (by simp)).trans hbox.out)
  have bel1 := bel0.trans (b1.mono bel0.size)
  have hs1 := b1.size
  have hs0 : w.heap.size < w1.heap.size := by simp at hs1; omega
  clear b1 hbox bel0 hs1
  obtain ⟨⟨d10, d11, d12⟩, ⟨d13, d14, d15⟩, d16⟩ := cells6 hbox1.out
  cases hst : stray c a n lo ls lp with
  | true =>
    have e0 : Hid (r = 23) := Lib.hid (by rw [← hr.out, chk, if_neg (by omega), if_pos hst])
    clear d10 d11 d12 d13 d14 d15 d16
    go_wp2
    go_ret
    exact ⟨by rw [e0.out]; rfl, bel1⟩
  | false =>
    by_cases ha : a < 0 ∨ 65536 ≤ a
    · have e0 : Hid (r = 21) := Lib.hid (by rw [← hr.out, chk, if_neg (by omega), if_neg (by simp [hst]), if_pos ha])
      by_cases ha0 : a < 0
      · go_wp2
        go_ret
        exact ⟨by rw [e0.out]; rfl, bel1⟩
      · have ha1 : 65536 ≤ a := by omega
        go_wp2
        go_ret
        exact ⟨by rw [e0.out]; rfl, bel1⟩
    have ha0 : ¬ a < 0 := by omega
    have ha1 : ¬ 65536 ≤ a := by omega
    go_wp2_with fail
    clear d10 d11 d12 d13 d14 d15 d16
    refine (howMany_any c a n Ao As Ap lo co ls cs lp cp _ hc).mono ?_
    rintro e w2 ⟨rfl, b1⟩
    have hbox2 := Lib.hid ((b1.block w.heap.size hs0).trans hbox1.out)
    have bel2 := bel1.trans (b1.mono bel1.size)
    have hs2 := b1.size
    have hs3 : w.heap.size < w2.heap.size := by omega
    clear b1 hbox1 bel1 hs2 hs0
    obtain ⟨⟨d10, d11, d12⟩, ⟨d13, d14, d15⟩, d16⟩ := cells6 hbox2.out
    have HM : Hid (many c n lo ls lp = many c n lo ls lp) := Lib.hid rfl
    have hm20 : Hid (c = 20 → many c n lo ls lp = (lp : Int)) := Lib.hid (by rintro rfl; rfl)
    obtain ⟨m, hm⟩ : ∃ m, Hid (many c n lo ls lp = m) := ⟨_, Lib.hid rfl⟩
    rw [hm.out] at hm20 ⊢
    clear HM
    by_cases hm1 : m < 1
    · have e0 : Hid (r = 22) := Lib.hid (by rw [← hr.out, chk, if_neg (by omega), if_neg (by simp [hst]), if_neg ha, if_pos (by rw [hm.out]; exact .inl hm1)])
      go_wp2
      go_ret
      exact ⟨by rw [e0.out]; rfl, bel2⟩
    go_wp2_with fail
    refine (maxMany_any c _).mono ?_
    rintro e w3 ⟨rfl, rfl⟩
    by_cases hm2 : mm c < m
    · have e0 : Hid (r = 22) := Lib.hid (by rw [← hr.out, chk, if_neg (by omega), if_neg (by simp [hst]), if_neg ha, if_pos (by rw [hm.out]; exact .inr hm2)])
      go_wp2
      go_ret
      exact ⟨by rw [e0.out]; rfl, bel2⟩
    have hm3 : m ≤ mm c := by omega
    by_cases h20 : c = 20
    · have e0 : Hid (r = ptsE fl lp) := Lib.hid (by rw [← hr.out, chk, if_neg (by omega), if_neg (by simp [hst]), if_neg ha, if_neg (by rw [hm.out]; omega), if_pos h20])
      have hlp : lp ≤ 35 := by
        have := hm20.out h20
        subst h20
        have e35 : mm 20 = 35 := rfl
        omega
      clear hm20 hm hr
      subst h20
      go_wp2_with fail
      refine (checkParts_any Ap lp cp fl _ ((H.out.below bel2).more bel2.size) HL.out hlp).mono ?_
      rintro e w4 ⟨rfl, b1⟩
      have bel3 := bel2.trans (b1.mono bel2.size)
      go_wp2
      go_ret
      exact ⟨by rw [e0.out]; rfl, bel3⟩
    · have b20 : (c == 20) = false := beq_false_of_ne h20
      have e1 : IntKind.i64.wrap (a + m) = a + m := IntWalk.i64_in _ (by omega)
      by_cases hend : 65536 < a + m
      · have e0 : Hid (r = 21) := Lib.hid (by rw [← hr.out, chk, if_neg (by omega), if_neg (by simp [hst]), if_neg ha, if_neg (by rw [hm.out]; omega), if_neg h20, hm.out, if_pos hend])
        go_wp2
        go_ret
        exact ⟨by rw [e0.out]; rfl, bel2⟩
      · have e0 : Hid (r = 0) := Lib.hid (by rw [← hr.out, chk, if_neg (by omega), if_neg (by simp [hst]), if_neg ha, if_neg (by rw [hm.out]; omega), if_neg h20, hm.out, if_neg hend])
        go_wp2
        go_ret
        exact ⟨by rw [e0.out]; rfl, bel2⟩
end Go.Proofs.Ytojjcmkadmofdaa
