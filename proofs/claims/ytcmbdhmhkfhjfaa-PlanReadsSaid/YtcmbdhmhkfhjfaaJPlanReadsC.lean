/-
  Texts of the proof of PlanReads, joined.
-/
import Derived.Test.YtcmbdhmhkfhjfaaJPlanReadsB
import Derived.IntWalk
import Derived.Deep.RegionHeld3
import Derived.Deep.AppendLies
import Derived.Test.YtcmbdhmhkfhjfaaJPlanReadsA
import Derived.Maps.AppendAt
import Derived.WalkMore
import Derived.Deep.LoopGhost
namespace Go.Proofs.Ytcmbdhmhkfhjfaa
open Go.RowKit
set_option linter.unusedVariables false
theorem inPlace_any (f r l : Int) (w : World) :
    Calls Try.prog 61 #[.agg #[.int .i64 f, .int .i64 r, .int .i64 l]] w fun e w' => e = .returned (.bool (inPl f r l)) ∧ Below w.heap.size w w' := by
  by_cases hr : 0 ≤ r ∧ r ≤ 9999
  · have hw : IntKind.i64.wrap (10000 - r) = 10000 - r := IntWalk.i64_in _ (by omega)
    go_enter Try.func61, Try.ntmps61
    go_wp2
    all_goals (go_ret; refine ⟨?_, bel_alloc _ _⟩; show Ending.returned (Value.bool _) = Ending.returned (Value.bool (inPl f r l)); congr 2; rw [Bool.eq_iff_iff, inPl_iff]; (simp <;> omega))
  · go_enter Try.func61, Try.ntmps61
    go_wp2
    all_goals (go_ret; refine ⟨?_, bel_alloc _ _⟩; show Ending.returned (Value.bool _) = Ending.returned (Value.bool (inPl f r l)); congr 2; rw [Bool.eq_iff_iff, inPl_iff]; (simp <;> omega))

set_option maxHeartbeats 1000000 in
theorem checkParts_any (A : Option Addr) (n c : Nat) (fl : List Int) (w : World) (hr : Row .i64 w w.heap.size A fl) (hn : fl.length = 3 * n) (hb : n ≤ 35) :
    Calls Try.prog 37 #[.slice A n c] w fun e w' => e = .returned (.int .i64 (ptsE fl n)) ∧ Below w.heap.size w w' := by
  have hn' := Lib.hid hn
  clear hn
  go_enter Try.func37, Try.ntmps37
  go_wp2
  go_loopw [3, 8] (fun s i wr => ∃ k : Nat, k ≤ n ∧ i = .int .i64 k ∧ s = .int .i64 (sumTo fl k) ∧ allOk fl k = true ∧ Below w.heap.size w wr) (fun _ i _ => n - (intOf i).toNat)
  case atStart => exact ⟨0, by omega, rfl, rfl, rfl, Below.refl _ _⟩
  case round =>
    obtain ⟨k, hk, rfl, rfl, hok, hbel⟩ := hrel
    by_cases hlt : k < n
    · obtain ⟨b, o, rfl, hb1, hc1, hc2, hc3⟩ := (hr.below hbel).three (k := k) (by have := hn'.out; omega)
      have hs := sumTo_range hok
      have hbel2 := hbel.alloc hbel.size (.cells #[.int .i64 (nth fl (3 * k)), .int .i64 (nth fl (3 * k + 1)), .int .i64 (nth fl (3 * k + 2))] 83)
      have HS : Hid (sumTo fl (k + 1) = sumTo fl k + (2 + 2 * nth fl (3 * k + 2))) := Lib.hid rfl
      have HO : Hid (allOk fl (k + 1) = (allOk fl k && inPl (nth fl (3 * k)) (nth fl (3 * k + 1)) (nth fl (3 * k + 2)))) := Lib.hid rfl
      have HN : Hid (inPl (nth fl (3 * k)) (nth fl (3 * k + 1)) (nth fl (3 * k + 2)) = false → allOk fl n = false) := Lib.hid (fun h => allOk_no hlt h)
      have hbx := heap_alloc_new wr (.cells #[.int .i64 (nth fl (3 * k)), .int .i64 (nth fl (3 * k + 1)), .int .i64 (nth fl (3 * k + 2))] 83)
      have HB := Lib.hid hbx
      clear hbx
      generalize nth fl (3 * k) = x at *
      generalize nth fl (3 * k + 1) = y at *
      generalize nth fl (3 * k + 2) = z at *
      generalize sumTo fl k = s at *
      go_wp2_with fail
      refine (inPlace_any x y z _).mono ?_
      rintro e w1 ⟨rfl, b1⟩
      have hbel3 := hbel2.trans (b1.mono hbel2.size)
      have HB2 := Lib.hid ((b1.block wr.heap.size (by simp)).trans HB.out)
      have hc := cell_of_row w1 wr.heap.size 2 _ _ _ HB2.out
      clear hbel hbel2 b1 HB hc1 hc2 hc3
      cases hin : inPl x y z with
      | false =>
        have he := HN.out hin
        have hp : Hid (ptsE fl n = 3) := Lib.hid (by rw [ptsE, he]; rfl)
        clear HN HO HS he hc HB2
        go_wp2
        go_ret
        exact ⟨by rw [hp.out]; rfl, hbel3⟩
      | true =>
        have hz := (inPl_iff _ _ _).1 hin
        have e1 : IntKind.i64.wrap (2 * z) = 2 * z := IntWalk.i64_in _ (by omega)
        have e2 : IntKind.i64.wrap (2 + 2 * z) = 2 + 2 * z := IntWalk.i64_in _ (by omega)
        have e3 : IntKind.i64.wrap (s + (2 + 2 * z)) = s + (2 + 2 * z) := IntWalk.i64_in _ (by omega)
        have HO2 : Hid (allOk fl (k + 1) = true) := Lib.hid (by rw [HO.out, hok, hin]; rfl)
        clear HN HO
        go_wp2
        go_roundw
        case rel => exact ⟨k + 1, by omega, by go_num, by rw [HS.out], HO2.out, hbel3⟩
        case measure => simp [intOf]; omega
    · obtain rfl : k = n := by omega
      by_cases hl : 245 < sumTo fl k
      · have hp : Hid (ptsE fl k = 2) := Lib.hid (by rw [ptsE, if_pos hok, if_pos hl])
        go_wp2
        go_ret
        exact ⟨by rw [hp.out]; rfl, hbel⟩
      · have hp : Hid (ptsE fl k = 0) := Lib.hid (by rw [ptsE, if_pos hok, if_neg hl])
        go_wp2
        go_ret
        exact ⟨by rw [hp.out]; rfl, hbel⟩

set_option maxHeartbeats 2000000 in
theorem Check_any (q : Req) (Ao As Ap : Option Addr) (lo ls lp co cs cp : Nat) (w : World) (h : Asked w w.heap.size q Ao As Ap lo ls lp) :
    Calls Try.prog 17 #[.agg #[.int .i64 q.c, .int .i64 q.a, .int .i64 q.n, .slice Ao lo co, .slice As ls cs, .slice Ap lp cp]] w
      fun e w' => e = .returned (.int .i64 (chk q.c q.a q.n lo ls lp q.fl)) ∧ Below w.heap.size w w' := by
  have H := Lib.hid h.fl
  have HL := Lib.hid h.lp
  clear h
  have hmr := mm_range q.c
  obtain ⟨c, a, n, on, set, fl⟩ := q
  simp only at H HL hmr ⊢
  have hbox := Lib.hid (heap_alloc_new w (.cells #[.int .i64 c, .int .i64 a, .int .i64 n, .slice Ao lo co, .slice As ls cs, .slice Ap lp cp] 29))
  have bel0 := bel_alloc w (.cells #[.int .i64 c, .int .i64 a, .int .i64 n, .slice Ao lo co, .slice As ls cs, .slice Ap lp cp] 29)
  obtain ⟨r, hr⟩ : ∃ r, Hid (chk c a n lo ls lp fl = r) := ⟨_, Lib.hid rfl⟩
  rw [hr.out]
  go_enter Try.func17, Try.ntmps17
  go_wp2_with fail
  refine (isCode_any c _).mono ?_
  rintro e w1 ⟨rfl, rfl⟩
  by_cases hc : 0 < mm c
  rotate_left
  · have e0 : Hid (r = 20) := Lib.hid (by rw [← hr.out, chk, if_pos (by omega)])
    have e1 : decide (0 < mm c) = false := decide_eq_false hc
    clear hbox
    go_wp2
    go_ret
    exact ⟨by rw [e0.out]; rfl, bel0⟩
  have e1 : decide (0 < mm c) = true := decide_eq_true hc
  go_wp2_with fail
  clear e1
  refine (hasStray_any c a n Ao As Ap lo co ls cs lp cp _ hc).mono ?_
  rintro e w1 ⟨rfl, b1⟩
  have hbox1 := Lib.hid ((b1.block w.heap.size (by simp)).trans hbox.out)
  have bel1 := bel0.trans (b1.mono bel0.size)
  have hs1 := b1.size
  have hs0 : w.heap.size < w1.heap.size := by simp at hs1; omega
  clear b1 hbox bel0 hs1
  obtain ⟨⟨d10, d11, d12⟩, ⟨d13, d14, d15⟩, d16⟩ := cells6 hbox1.out
  cases hst : stray c a n lo ls lp with
  | true =>
    have e0 : Hid (r = 23) := Lib.hid (by rw [← hr.out, chk, if_neg (by omega), if_pos hst])
    clear d10 d11 d12 d13 d14 d15 d16
    go_wp2
    go_ret
    exact ⟨by rw [e0.out]; rfl, bel1⟩
  | false =>
    by_cases ha : a < 0 ∨ 65536 ≤ a
    · have e0 : Hid (r = 21) := Lib.hid (by rw [← hr.out, chk, if_neg (by omega), if_neg (by simp [hst]), if_pos ha])
      by_cases ha0 : a < 0
      · go_wp2
        go_ret
        exact ⟨by rw [e0.out]; rfl, bel1⟩
      · have ha1 : 65536 ≤ a := by omega
        go_wp2
        go_ret
        exact ⟨by rw [e0.out]; rfl, bel1⟩
    have ha0 : ¬ a < 0 := by omega
    have ha1 : ¬ 65536 ≤ a := by omega
    go_wp2_with fail
    clear d10 d11 d12 d13 d14 d15 d16
    refine (howMany_any c a n Ao As Ap lo co ls cs lp cp _ hc).mono ?_
    rintro e w2 ⟨rfl, b1⟩
    have hbox2 := Lib.hid ((b1.block w.heap.size hs0).trans hbox1.out)
    have bel2 := bel1.trans (b1.mono bel1.size)
    have hs2 := b1.size
    have hs3 : w.heap.size < w2.heap.size := by omega
    clear b1 hbox1 bel1 hs2 hs0
    obtain ⟨⟨d10, d11, d12⟩, ⟨d13, d14, d15⟩, d16⟩ := cells6 hbox2.out
    have HM : Hid (many c n lo ls lp = many c n lo ls lp) := Lib.hid rfl
    have hm20 : Hid (c = 20 → many c n lo ls lp = (lp : Int)) := Lib.hid (by rintro rfl; rfl)
    obtain ⟨m, hm⟩ : ∃ m, Hid (many c n lo ls lp = m) := ⟨_, Lib.hid rfl⟩
    rw [hm.out] at hm20 ⊢
    clear HM
    by_cases hm1 : m < 1
    · have e0 : Hid (r = 22) := Lib.hid (by rw [← hr.out, chk, if_neg (by omega), if_neg (by simp [hst]), if_neg ha, if_pos (by rw [hm.out]; exact .inl hm1)])
      go_wp2
      go_ret
      exact ⟨by rw [e0.out]; rfl, bel2⟩
    go_wp2_with fail
    refine (maxMany_any c _).mono ?_
    rintro e w3 ⟨rfl, rfl⟩
    by_cases hm2 : mm c < m
    · have e0 : Hid (r = 22) := Lib.hid (by rw [← hr.out, chk, if_neg (by omega), if_neg (by simp [hst]), if_neg ha, if_pos (by rw [hm.out]; exact .inr hm2)])
      go_wp2
      go_ret
      exact ⟨by rw [e0.out]; rfl, bel2⟩
    have hm3 : m ≤ mm c := by omega
    by_cases h20 : c = 20
    · have e0 : Hid (r = ptsE fl lp) := Lib.hid (by rw [← hr.out, chk, if_neg (by omega), if_neg (by simp [hst]), if_neg ha, if_neg (by rw [hm.out]; omega), if_pos h20])
      have hlp : lp ≤ 35 := by
        have := hm20.out h20
        subst h20
        have e35 : mm 20 = 35 := rfl
        omega
      clear hm20 hm hr
      subst h20
      go_wp2_with fail
      refine (checkParts_any Ap lp cp fl _ ((H.out.below bel2).more bel2.size) HL.out hlp).mono ?_
      rintro e w4 ⟨rfl, b1⟩
      have bel3 := bel2.trans (b1.mono bel2.size)
      go_wp2
      go_ret
      exact ⟨by rw [e0.out]; rfl, bel3⟩
    · have b20 : (c == 20) = false := beq_false_of_ne h20
      have e1 : IntKind.i64.wrap (a + m) = a + m := IntWalk.i64_in _ (by omega)
      by_cases hend : 65536 < a + m
      · have e0 : Hid (r = 21) := Lib.hid (by rw [← hr.out, chk, if_neg (by omega), if_neg (by simp [hst]), if_neg ha, if_neg (by rw [hm.out]; omega), if_neg h20, hm.out, if_pos hend])
        go_wp2
        go_ret
        exact ⟨by rw [e0.out]; rfl, bel2⟩
      · have e0 : Hid (r = 0) := Lib.hid (by rw [← hr.out, chk, if_neg (by omega), if_neg (by simp [hst]), if_neg ha, if_neg (by rw [hm.out]; omega), if_neg h20, hm.out, if_neg hend])
        go_wp2
        go_ret
        exact ⟨by rw [e0.out]; rfl, bel2⟩
end Go.Proofs.Ytcmbdhmhkfhjfaa
namespace Go.Proofs.Ytcmbdhmhkfhjfaa
open Go.RowKit
set_option linter.unusedVariables false

set_option maxHeartbeats 2000000 in
theorem refKnown_any (c : Int) (w : World) : Calls Try.prog 38 #[.int .i64 c] w fun e w' => e = .returned (.bool (decide (0 < mm c))) ∧ w' = w := by
  rcases codes c with rfl | rfl | rfl | rfl | rfl | rfl | rfl | rfl | rfl | ⟨h1, h2, h3, h4, h5, h6, h7, h8, h9⟩
  iterate 9
    · go_enter Try.func38, Try.ntmps38
      go_wp2
      go_ret
      exact ⟨rfl, rfl⟩
  have e : Hid (decide (0 < mm c) = false) := Lib.hid (by simp [mm, *])
  rw [e.out]
  have b7 := beq_false_of_ne h7
  have b8 := beq_false_of_ne h8
  have b9 := beq_false_of_ne h9
  by_cases hc : 1 ≤ c
  · have hc6 : ¬ c ≤ 6 := by omega
    clear h1 h2 h3 h4 h5 h6 h7 h8 h9
    go_enter Try.func38, Try.ntmps38
    go_wp2
    go_ret
    exact ⟨rfl, rfl⟩
  · clear h1 h2 h3 h4 h5 h6 h7 h8 h9
    go_enter Try.func38, Try.ntmps38
    go_wp2
    go_ret
    exact ⟨rfl, rfl⟩
set_option maxHeartbeats 2000000 in
theorem refMost_any (c : Int) (w : World) (h : 0 < mm c) : Calls Try.prog 41 #[.int .i64 c] w fun e w' => e = .returned (.int .i64 (mm c)) ∧ w' = w := by
  rcases mm_pos h with rfl | rfl | rfl | rfl | rfl | rfl | rfl | rfl | rfl
  iterate 9
    · go_enter Try.func41, Try.ntmps41
      go_wp2
      go_ret
      exact ⟨rfl, rfl⟩
set_option maxHeartbeats 2000000 in
theorem refMany_any (c a n : Int) (Ao As Ap : Option Addr) (lo co ls cs lp cp : Nat) (w : World) (h : 0 < mm c) :
    Calls Try.prog 40 #[.agg #[.int .i64 c, .int .i64 a, .int .i64 n, .slice Ao lo co, .slice As ls cs, .slice Ap lp cp]] w fun e w' => e = .returned (.int .i64 (many c n lo ls lp)) ∧ Below w.heap.size w w' := by
  rcases mm_pos h with rfl | rfl | rfl | rfl | rfl | rfl | rfl | rfl | rfl
  iterate 9
    · go_enter Try.func40, Try.ntmps40
      go_wp2
      go_ret
      exact ⟨rfl, bel_alloc _ _⟩
set_option maxHeartbeats 4000000 in
set_option maxRecDepth 100000 in
theorem refField_any (c a n : Int) (Ao As Ap : Option Addr) (lo co ls cs lp cp : Nat) (w : World) (h : 0 < mm c) :
    Calls Try.prog 39 #[.agg #[.int .i64 c, .int .i64 a, .int .i64 n, .slice Ao lo co, .slice As ls cs, .slice Ap lp cp]] w fun e w' => e = .returned (.bool (stray c a n lo ls lp)) ∧ Below w.heap.size w w' := by
  rcases mm_pos h with rfl | rfl | rfl | rfl | rfl | rfl | rfl | rfl | rfl
  iterate 9
    · go_enter Try.func39, Try.ntmps39
      go_wp2
      all_goals (go_ret; refine ⟨?_, bel_alloc _ _⟩; (simp [stray, *] <;> omega))

set_option maxHeartbeats 2000000 in
set_option maxRecDepth 100000 in
theorem refParts_any (A : Option Addr) (n c : Nat) (fl : List Int) (w : World) (hr : Row .i64 w w.heap.size A fl) (hn : fl.length = 3 * n) (hb : n ≤ 35) :
    Calls Try.prog 42 #[.slice A n c] w fun e w' => e = .returned (.int .i64 (ptsE fl n)) ∧ Below w.heap.size w w' := by
  have hn' := Lib.hid hn
  clear hn
  go_enter Try.func42, Try.ntmps42
  go_wp2
  go_loopw [3, 4] (fun s i wr => ∃ k : Nat, k ≤ n ∧ i = .int .i64 k ∧ s = .int .i64 (sumTo fl k) ∧ allOk fl k = true ∧ Below w.heap.size w wr) (fun _ i _ => n - (intOf i).toNat)
  case atStart => exact ⟨0, by omega, rfl, rfl, rfl, Below.refl _ _⟩
  case round =>
    obtain ⟨k, hk, rfl, rfl, hok, hbel⟩ := hrel
    by_cases hlt : k < n
    · obtain ⟨b, o, rfl, hb1, hc1, hc2, hc3⟩ := (hr.below hbel).three (k := k) (by have := hn'.out; omega)
      have hs := sumTo_range hok
      have hbel2 := hbel.alloc hbel.size (.cells #[.int .i64 (nth fl (3 * k)), .int .i64 (nth fl (3 * k + 1)), .int .i64 (nth fl (3 * k + 2))] 83)
      have HS : Hid (sumTo fl (k + 1) = sumTo fl k + (2 + 2 * nth fl (3 * k + 2))) := Lib.hid rfl
      have HO : Hid (allOk fl (k + 1) = (allOk fl k && inPl (nth fl (3 * k)) (nth fl (3 * k + 1)) (nth fl (3 * k + 2)))) := Lib.hid rfl
      have HN : Hid (inPl (nth fl (3 * k)) (nth fl (3 * k + 1)) (nth fl (3 * k + 2)) = false → allOk fl n = false) := Lib.hid (fun h => allOk_no hlt h)
      generalize nth fl (3 * k) = x at *
      generalize nth fl (3 * k + 1) = y at *
      generalize nth fl (3 * k + 2) = z at *
      have HK := Lib.hid hok
      clear hok
      generalize sumTo fl k = s at *
      cases hin : inPl x y z with
      | false =>
        have he := HN.out hin
        have hp : Hid (ptsE fl n = 3) := Lib.hid (by rw [ptsE, he]; rfl)
        have hne : ¬ ((1 ≤ x ∧ x ≤ 65535) ∧ (0 ≤ y ∧ y ≤ 9999) ∧ (1 ≤ z ∧ z ≤ 10000 - y)) := fun h => by rw [(inPl_iff x y z).2 h] at hin; cases hin
        clear HN HO HS he hin
        rcases (show x < 1 ∨ (1 ≤ x ∧ 65535 < x) ∨ (1 ≤ x ∧ x ≤ 65535 ∧ y < 0) ∨ (1 ≤ x ∧ x ≤ 65535 ∧ 0 ≤ y ∧ 9999 < y) ∨ (1 ≤ x ∧ x ≤ 65535 ∧ 0 ≤ y ∧ y ≤ 9999 ∧ z < 1) ∨ (1 ≤ x ∧ x ≤ 65535 ∧ 0 ≤ y ∧ y ≤ 9999 ∧ 1 ≤ z ∧ 10000 - y < z) by omega) with h | h | h | h | h | h
        iterate 5
          · clear hne
            go_wp2
            go_ret
            exact ⟨by rw [hp.out]; rfl, hbel2⟩
        have e0 : IntKind.i64.wrap (10000 - y) = 10000 - y := IntWalk.i64_in _ (by omega)
        clear hne
        go_wp2
        go_ret
        exact ⟨by rw [hp.out]; rfl, hbel2⟩
      | true =>
        have hz := (inPl_iff _ _ _).1 hin
        have e0 : IntKind.i64.wrap (10000 - y) = 10000 - y := IntWalk.i64_in _ (by omega)
        have e1 : IntKind.i64.wrap (2 * z) = 2 * z := IntWalk.i64_in _ (by omega)
        have e2 : IntKind.i64.wrap (s + 2) = s + 2 := IntWalk.i64_in _ (by omega)
        have e3 : IntKind.i64.wrap (s + 2 + 2 * z) = s + 2 + 2 * z := IntWalk.i64_in _ (by omega)
        have HO2 : Hid (allOk fl (k + 1) = true) := Lib.hid (by rw [HO.out, HK.out, hin]; rfl)
        have HS2 : Hid (sumTo fl (k + 1) = s + 2 + 2 * z) := Lib.hid (by rw [HS.out]; omega)
        clear HN HO hin
        go_wp2
        go_roundw
        case rel => exact ⟨k + 1, by omega, by go_num, by rw [HS2.out], HO2.out, hbel2⟩
        case measure => simp [intOf]; omega
    · obtain rfl : k = n := by omega
      by_cases hl : 245 < sumTo fl k
      · have hp : Hid (ptsE fl k = 2) := Lib.hid (by rw [ptsE, if_pos hok, if_pos hl])
        go_wp2
        go_ret
        exact ⟨by rw [hp.out]; rfl, hbel⟩
      · have hp : Hid (ptsE fl k = 0) := Lib.hid (by rw [ptsE, if_pos hok, if_neg hl])
        go_wp2
        go_ret
        exact ⟨by rw [hp.out]; rfl, hbel⟩

set_option maxHeartbeats 2000000 in
theorem refCheck_any (q : Req) (Ao As Ap : Option Addr) (lo ls lp co cs cp : Nat) (w : World) (h : Asked w w.heap.size q Ao As Ap lo ls lp) :
    Calls Try.prog 18 #[.agg #[.int .i64 q.c, .int .i64 q.a, .int .i64 q.n, .slice Ao lo co, .slice As ls cs, .slice Ap lp cp]] w
      fun e w' => e = .returned (.int .i64 (chk q.c q.a q.n lo ls lp q.fl)) ∧ Below w.heap.size w w' := by
  have H := Lib.hid h.fl
  have HL := Lib.hid h.lp
  clear h
  have hmr := mm_range q.c
  obtain ⟨c, a, n, on, set, fl⟩ := q
  simp only at H HL hmr ⊢
  have hbox := Lib.hid (heap_alloc_new w (.cells #[.int .i64 c, .int .i64 a, .int .i64 n, .slice Ao lo co, .slice As ls cs, .slice Ap lp cp] 29))
  have bel0 := bel_alloc w (.cells #[.int .i64 c, .int .i64 a, .int .i64 n, .slice Ao lo co, .slice As ls cs, .slice Ap lp cp] 29)
  obtain ⟨r, hr⟩ : ∃ r, Hid (chk c a n lo ls lp fl = r) := ⟨_, Lib.hid rfl⟩
  rw [hr.out]
  go_enter Try.func18, Try.ntmps18
  go_wp2_with fail
  refine (refKnown_any c _).mono ?_
  rintro e w1 ⟨rfl, rfl⟩
  by_cases hc : 0 < mm c
  rotate_left
  · have e0 : Hid (r = 20) := Lib.hid (by rw [← hr.out, chk, if_pos (by omega)])
    have e1 : decide (0 < mm c) = false := decide_eq_false hc
    clear hbox
    go_wp2
    go_ret
    exact ⟨by rw [e0.out]; rfl, bel0⟩
  have e1 : decide (0 < mm c) = true := decide_eq_true hc
  go_wp2_with fail
  clear e1
  refine (refField_any c a n Ao As Ap lo co ls cs lp cp _ hc).mono ?_
  rintro e w1 ⟨rfl, b1⟩
  have hbox1 := Lib.hid ((b1.block w.heap.size (by simp)).trans hbox.out)
  have bel1 := bel0.trans (b1.mono bel0.size)
  have hs1 := b1.size
  have hs0 : w.heap.size < w1.heap.size := by simp at hs1; omega
  clear b1 hbox bel0 hs1
  obtain ⟨⟨d10, d11, d12⟩, ⟨d13, d14, d15⟩, d16⟩ := cells6 hbox1.out
  cases hst : stray c a n lo ls lp with
  | true =>
    have e0 : Hid (r = 23) := Lib.hid (by rw [← hr.out, chk, if_neg (by omega), if_pos hst])
    clear d10 d11 d12 d13 d14 d15 d16
    go_wp2
    go_ret
    exact ⟨by rw [e0.out]; rfl, bel1⟩
  | false =>
    by_cases ha : a < 0 ∨ 65536 ≤ a
    · have e0 : Hid (r = 21) := Lib.hid (by rw [← hr.out, chk, if_neg (by omega), if_neg (by simp [hst]), if_pos ha])
      by_cases ha0 : a < 0
      · go_wp2
        go_ret
        exact ⟨by rw [e0.out]; rfl, bel1⟩
      · have ha1 : 65536 ≤ a := by omega
        go_wp2
        go_ret
        exact ⟨by rw [e0.out]; rfl, bel1⟩
    have ha0 : ¬ a < 0 := by omega
    have ha1 : ¬ 65536 ≤ a := by omega
    go_wp2_with fail
    clear d10 d11 d12 d13 d14 d15 d16
    refine (refMany_any c a n Ao As Ap lo co ls cs lp cp _ hc).mono ?_
    rintro e w2 ⟨rfl, b1⟩
    have hbox2 := Lib.hid ((b1.block w.heap.size hs0).trans hbox1.out)
    have bel2 := bel1.trans (b1.mono bel1.size)
    have hs2 := b1.size
    have hs3 : w.heap.size < w2.heap.size := by omega
    clear b1 hbox1 bel1 hs2 hs0
    obtain ⟨⟨d10, d11, d12⟩, ⟨d13, d14, d15⟩, d16⟩ := cells6 hbox2.out
    have HM : Hid (many c n lo ls lp = many c n lo ls lp) := Lib.hid rfl
    have hm20 : Hid (c = 20 → many c n lo ls lp = (lp : Int)) := Lib.hid (by rintro rfl; rfl)
    obtain ⟨m, hm⟩ : ∃ m, Hid (many c n lo ls lp = m) := ⟨_, Lib.hid rfl⟩
    rw [hm.out] at hm20 ⊢
    clear HM
    by_cases hm1 : m < 1
    · have e0 : Hid (r = 22) := Lib.hid (by rw [← hr.out, chk, if_neg (by omega), if_neg (by simp [hst]), if_neg ha, if_pos (by rw [hm.out]; exact .inl hm1)])
      go_wp2
      go_ret
      exact ⟨by rw [e0.out]; rfl, bel2⟩
    go_wp2_with fail
    refine (refMost_any c _ hc).mono ?_
    rintro e w3 ⟨rfl, rfl⟩
    by_cases hm2 : mm c < m
    · have e0 : Hid (r = 22) := Lib.hid (by rw [← hr.out, chk, if_neg (by omega), if_neg (by simp [hst]), if_neg ha, if_pos (by rw [hm.out]; exact .inr hm2)])
      go_wp2
      go_ret
      exact ⟨by rw [e0.out]; rfl, bel2⟩
    have hm3 : m ≤ mm c := by omega
    by_cases h20 : c = 20
    · have e0 : Hid (r = ptsE fl lp) := Lib.hid (by rw [← hr.out, chk, if_neg (by omega), if_neg (by simp [hst]), if_neg ha, if_neg (by rw [hm.out]; omega), if_pos h20])
      have hlp : lp ≤ 35 := by
        have := hm20.out h20
        subst h20
        have e35 : mm 20 = 35 := rfl
        omega
      clear hm20 hm hr
      subst h20
      go_wp2_with fail
      refine (refParts_any Ap lp cp fl _ ((H.out.below bel2).more bel2.size) HL.out hlp).mono ?_
      rintro e w4 ⟨rfl, b1⟩
      have bel3 := bel2.trans (b1.mono bel2.size)
      go_wp2
      go_ret
      exact ⟨by rw [e0.out]; rfl, bel3⟩
    · have b20 : (c == 20) = false := beq_false_of_ne h20
      have e1 : IntKind.i64.wrap (a + m) = a + m := IntWalk.i64_in _ (by omega)
      by_cases hend : 65536 < a + m
      · have e0 : Hid (r = 21) := Lib.hid (by rw [← hr.out, chk, if_neg (by omega), if_neg (by simp [hst]), if_neg ha, if_neg (by rw [hm.out]; omega), if_neg h20, hm.out, if_pos hend])
        go_wp2
        go_ret
        exact ⟨by rw [e0.out]; rfl, bel2⟩
      · have e0 : Hid (r = 0) := Lib.hid (by rw [← hr.out, chk, if_neg (by omega), if_neg (by simp [hst]), if_neg ha, if_neg (by rw [hm.out]; omega), if_neg h20, hm.out, if_neg hend])
        go_wp2
        go_ret
        exact ⟨by rw [e0.out]; rfl, bel2⟩
end Go.Proofs.Ytcmbdhmhkfhjfaa
namespace Go.Proofs.Ytcmbdhmhkfhjfaa
open Go.RowKit
set_option linter.unusedVariables false

/-- The first k parts as they stand in a PDU. -/
def pbytes (fl : List Int) : Nat → List Int
  | 0 => []
  | k + 1 => pbytes fl k ++ (6 :: wbytes [nth fl (3 * k), nth fl (3 * k + 1), nth fl (3 * k + 2)])
theorem pbytes_length (fl : List Int) (k : Nat) : (pbytes fl k).length = 7 * k := by
  induction k with
  | zero => rfl
  | succ k ih => rw [pbytes, List.length_append, ih, List.length_cons, wbytes_length]; simp; omega
theorem pbytes_wf (fl : List Int) (k : Nat) : ∀ x ∈ pbytes fl k, (Lit.int .u8 x).wf = true := by
  induction k with
  | zero => simp [pbytes]
  | succ k ih =>
    rw [pbytes]
    refine wf_append ih fun x hx => ?_
    rcases List.mem_cons.1 hx with rfl | hx
    · decide
    · exact wbytes_wf _ x hx
/-- What stands behind the code in a PDU. -/
def tl (c a n : Int) (on : List Bool) (set fl : List Int) (lo ls lp : Nat) : List Int :=
  if c = 5 then wbytes [a, if L.nth on 0 = true then 65280 else 0]
  else if c = 6 then wbytes [a, nth set 0]
  else if c = 15 then wbytes [a, (lo : Int)] ++ ((need lo : Nat) : Int) :: pk on (need lo)
  else if c = 16 then wbytes [a, (ls : Int)] ++ ((2 * ls : Nat) : Int) :: wbytes set
  else if c = 20 then ((7 * lp : Nat) : Int) :: pbytes fl lp
  else wbytes [a, n]

theorem chk_zero {c a n : Int} {lo ls lp : Nat} {fl : List Int} (h : chk c a n lo ls lp fl = 0) :
    0 < mm c ∧ stray c a n lo ls lp = false ∧ (0 ≤ a ∧ a < 65536) ∧ (1 ≤ many c n lo ls lp ∧ many c n lo ls lp ≤ mm c) ∧ (c = 20 → allOk fl lp = true ∧ sumTo fl lp ≤ 245) ∧ (c ≠ 20 → a + many c n lo ls lp ≤ 65536) := by
  unfold chk at h
  split at h
  · cases h
  split at h
  · cases h
  split at h
  · cases h
  split at h
  · cases h
  rename_i h1 h2 h3 h4
  refine ⟨by omega, by simpa using h2, by omega, by omega, ?_, ?_⟩
  · intro h20
    rw [if_pos h20, ptsE] at h
    split at h
    · rename_i hok
      refine ⟨hok, ?_⟩
      split at h
      · cases h
      · omega
    · cases h
  · intro h20
    rw [if_neg h20] at h
    split at h
    · cases h
    · omega

/-- One element's box, wherever it stands. -/
theorem Row.one_at (k : IntKind) (w : World) (t : TypeId) (x : Int) (h : (Lit.int k x).wf = true) {g : Nat} (hg : w.heap.size = g) : Row k (w.alloc (.cells #[.int k x] t)) (g + 1) (some ⟨g, 0, none⟩) [x] := by
  subst hg; exact Row.one k w t x h
theorem Row.lit_at (k : IntKind) (w : World) (t : TypeId) (xs : List Int) (h : ∀ x ∈ xs, (Lit.int k x).wf = true) {g : Nat} (hg : w.heap.size = g) : Row k (w.alloc (.cells (blk k xs) t)) (g + 1) (some ⟨g, 0, none⟩) xs := by
  subst hg; exact Row.new k w t xs xs h (List.prefix_refl _)

theorem Row.grown {k : IntKind} {w w' : World} {B : Nat} {A : Option Addr} {xs : List Int} {row : Option Nat} (h : Row k w B A xs) (hg : w.grownBy w' row) (hB : B ≤ w.heap.size) (hne : ∀ b o, A = some ⟨b, o, none⟩ → some b ≠ row) : Row k w' B A xs := by
  refine ⟨h.1, fun hn => ?_⟩
  obtain ⟨b, o, e, hb, hc⟩ := h.2 hn
  exact ⟨b, o, e, hb, fun i hi => hg.cell (hc i hi) (hne b o e)⟩

end Go.Proofs.Ytcmbdhmhkfhjfaa
namespace Go.Proofs.Ytcmbdhmhkfhjfaa
open Go.RowKit
set_option linter.unusedVariables false
/-- The cells of a request in its box. -/


theorem wf_two {a n : Int} (ha : 0 ≤ a ∧ a < 65536) (hn : 0 ≤ n ∧ n < 65536) : ∀ v ∈ [a, n], (Lit.int .u16 v).wf = true := by
  intro v hv
  simp only [List.mem_cons, List.not_mem_nil, or_false] at hv
  rcases hv with rfl | rfl
  · exact wf_word16 ha
  · exact wf_word16 hn
abbrev reqBox (c a n : Int) (Ao As Ap : Option Addr) (lo co ls cs lp cp : Nat) : Obj := .cells #[.int .i64 c, .int .i64 a, .int .i64 n, .slice Ao lo co, .slice As ls cs, .slice Ap lp cp] 29

end Go.Proofs.Ytcmbdhmhkfhjfaa
namespace Go.Proofs.Ytcmbdhmhkfhjfaa
open Go.RowKit

section
variable {P : Program}
theorem run_append_row (w : World) (base : Nat) (t ty : TypeId) (k : IntKind) (e : TypeId) (bytes : Nat) (ht : P.underlying t = some (.slice e)) (hi : (P.info? e).map (fun i => (i.zero, i.size, i.bytes)) = some (some (.int k 0), 1, bytes))
    (v : Value) (xs : List Int) (hown : Own k e w base v xs) (B : Nat) (A : Option Addr) (m c : Nat) (ys : List Int) (hr : Row k w B A ys) (hm : ys.length = m)
    (hbytes : (xs.length + m) * bytes ≤ 140737488355328) (h63 : xs.length + m ≤ maxLen) (hbase : base ≤ w.heap.size) :
    ∃ v' w', (Builtin.append_ #[t, t] ty #[v, .slice A m c]).run P w = .ok v' w' ∧ Own k e w' base v' (xs ++ ys) ∧ w.grownBy w' v.ownBlock := by
  obtain ⟨i, hi1, hz, hsz, hby⟩ := info_parts hi
  cases A with
  | none =>
    have hm0 : m = 0 := by
      rcases Nat.eq_zero_or_pos m with h0 | h0
      · exact h0
      · obtain ⟨b, o, h, _⟩ := hr.2 (by omega); cases h
    subst hm0
    have hy : ys = [] := List.eq_nil_of_length_eq_zero hm
    subst hy
    exact ⟨v, w, run_append_none (P := P) w t ty e i ht hi1 base v _ _ hown c, by simpa using hown, World.grownBy.refl _ _⟩
  | some ad =>
    have hcells : ∀ j u, (ys.map (Value.int k))[j]? = some u → w.cell? (ad.add j) = some u := by
      intro j u hu
      rw [List.getElem?_map] at hu
      by_cases hj : j < ys.length
      · obtain ⟨b, o, e1, _, hc⟩ := hr.2 (by omega)
        injection e1 with e1
        subst e1
        rw [List.getElem?_eq_getElem hj] at hu
        rw [Go.WideShapes.add_plain, hc j hj, nth_eq ys j hj]
        exact hu
      · rw [List.getElem?_eq_none (by omega)] at hu
        cases hu
    obtain ⟨v', w', hrun, h2, h3, _, _⟩ := run_append_own_at (P := P) w base t ty e i (.int k 0) 1 bytes ht hi1 hz hsz hby rfl (by omega) v _ _ hown ad m c (ys.map (Value.int k)) (by simp [hm]) hcells (ints_oneCell k ys) h63 hbytes hbase
    exact ⟨v', w', hrun, by simpa [Own, hm] using h2, h3⟩

theorem run_append_row2 (w : World) (base : Nat) (t ty : TypeId) (k : IntKind) (e : TypeId) (bytes : Nat) (ht : P.underlying t = some (.slice e)) (hi : (P.info? e).map (fun i => (i.zero, i.size, i.bytes)) = some (some (.int k 0), 1, bytes))
    (v : Value) (xs : List Int) (hown : Own k e w base v xs) (B : Nat) (A : Option Addr) (m c : Nat) (ys : List Int) (hr : Row k w B A ys) (hm : ys.length = m)
    (hbytes : (xs.length + m) * bytes ≤ 140737488355328) (h63 : xs.length + m ≤ maxLen) (hbase : base ≤ w.heap.size) :
    ∃ v' w', (Builtin.append_ #[t, t] ty #[v, .slice A m c]).run P w = .ok v' w' ∧ Own k e w' base v' (xs ++ ys) ∧ w.grownBy w' v.ownBlock ∧ (v'.ownBlock = v.ownBlock ∨ v'.ownBlock = some w.heap.size) := by
  obtain ⟨i, hi1, hz, hsz, hby⟩ := info_parts hi
  cases A with
  | none =>
    have hm0 : m = 0 := by
      rcases Nat.eq_zero_or_pos m with h0 | h0
      · exact h0
      · obtain ⟨b, o, h, _⟩ := hr.2 (by omega); cases h
    subst hm0
    have hy : ys = [] := List.eq_nil_of_length_eq_zero hm
    subst hy
    exact ⟨v, w, run_append_none (P := P) w t ty e i ht hi1 base v _ _ hown c, by simpa using hown, World.grownBy.refl _ _, .inl rfl⟩
  | some ad =>
    have hcells : ∀ j u, (ys.map (Value.int k))[j]? = some u → w.cell? (ad.add j) = some u := by
      intro j u hu
      rw [List.getElem?_map] at hu
      by_cases hj : j < ys.length
      · obtain ⟨b, o, e1, _, hc⟩ := hr.2 (by omega)
        injection e1 with e1
        subst e1
        rw [List.getElem?_eq_getElem hj] at hu
        rw [Go.WideShapes.add_plain, hc j hj, nth_eq ys j hj]
        exact hu
      · rw [List.getElem?_eq_none (by omega)] at hu
        cases hu
    obtain ⟨v', w', hrun, h2, h3, _, h5⟩ := run_append_own_at (P := P) w base t ty e i (.int k 0) 1 bytes ht hi1 hz hsz hby rfl (by omega) v _ _ hown ad m c (ys.map (Value.int k)) (by simp [hm]) hcells (ints_oneCell k ys) h63 hbytes hbase
    exact ⟨v', w', hrun, by simpa [Own, hm] using h2, h3, h5⟩

/-- 'append(v, src...)': v owned, src whatever row of integers; where the new row lies. -/
theorem wpList_append_row2 {ops : Array Oper} {rest : List Oper} {o : Oper} {a : Act} {Q : Exit → Act → World → Prop} (w : World) (hgd : o.guard = none) (s x : Operand) (t : TypeId)
    (ho : o.op = .call { callee := .builtin .append, args := #[s, x], argTypes := #[t, t] })
    (base : Nat) (k : IntKind) (e : TypeId) (bytes : Nat) (ht : P.underlying t = some (.slice e)) (hi : (P.info? e).map (fun i => (i.zero, i.size, i.bytes)) = some (some (.int k 0), 1, bytes))
    (v : Value) (xs : List Int) (hs : a.eval s = v) (hown : Own k e w base v xs) (B : Nat) (A : Option Addr) (m c : Nat) (ys : List Int) (hx : a.eval x = .slice A m c) (hr : Row k w B A ys) (hm : ys.length = m)
    (hbytes : (xs.length + m) * bytes ≤ 140737488355328) (h63 : xs.length + m ≤ maxLen) (hbase : base ≤ w.heap.size)
    (h : ∀ v' w', Own k e w' base v' (xs ++ ys) → w.grownBy w' v.ownBlock → (v'.ownBlock = v.ownBlock ∨ v'.ownBlock = some w.heap.size) → wpList P ops Q rest (a.put o.dst v') w') : wpList P ops Q (o :: rest) a w := by
  obtain ⟨v', w', hrun, h1, h2, h3⟩ := run_append_row2 (P := P) w base t o.type k e bytes ht hi v xs hown B A m c ys hr hm hbytes h63 hbase
  refine wpList_plain hgd fun K hK => ?_
  unfold Oper.wp
  simp [execOp, ho, resolve, invoke, builtin, hs, hx, hrun, Result.andThen]
  exact hK _ _ (h v' w' h1 h2 h3)

theorem step_append_row {ops : Array Oper} {o : Oper} {a : Act} {K : Act → World → Prop} {Q : Exit → Act → World → Prop} {E : Prop} (w : World) (hgd : o.guard = none) (s x : Operand) (t : TypeId)
    (ho : o.op = .call { callee := .builtin .append, args := #[s, x], argTypes := #[t, t] })
    (base : Nat) (k : IntKind) (e : TypeId) (bytes : Nat) (ht : P.underlying t = some (.slice e)) (hi : (P.info? e).map (fun i => (i.zero, i.size, i.bytes)) = some (some (.int k 0), 1, bytes))
    (v : Value) (xs : List Int) (hs : a.eval s = v) (hown : Own k e w base v xs) (B : Nat) (A : Option Addr) (m c : Nat) (ys : List Int) (hx : a.eval x = .slice A m c) (hr : Row k w B A ys) (hm : ys.length = m)
    (hbytes : (xs.length + m) * bytes ≤ 140737488355328) (h63 : xs.length + m ≤ maxLen) (hbase : base ≤ w.heap.size)
    (h : ∀ v' w', Own k e w' base v' (xs ++ ys) → w.grownBy w' v.ownBlock → K (a.put o.dst v') w') :
    if Region.wanted o (yielded ops a.tmps) = true then Oper.wp P o a w K Q else E := by
  have hw : Region.wanted o (yielded ops a.tmps) = true := by simp [Region.wanted, hgd]
  rw [if_pos hw]
  obtain ⟨v', w', hrun, h1, h2⟩ := run_append_row (P := P) w base t o.type k e bytes ht hi v xs hown B A m c ys hr hm hbytes h63 hbase
  unfold Oper.wp execOp
  simp only [ho, resolve, invoke, builtin, Sem.run_bind, Sem.run_pure, Result.andThen_ok, List.map_toArray, List.map_cons, List.map_nil, hs, hx, hrun]
  exact h v' w' h1 h2
end
end Go.Proofs.Ytcmbdhmhkfhjfaa
namespace Go.Proofs.Ytcmbdhmhkfhjfaa
open Go.RowKit
set_option linter.unusedVariables false

/-- The bounds of a right request. -/
theorem right_many {c a n : Int} {lo ls lp : Nat} {fl : List Int} (h : chk c a n lo ls lp fl = 0) : (lo ≤ 1968 ∧ ls ≤ 123) ∧ lp ≤ 35 := by
  obtain ⟨h1, h2, h3, h4, h5, h6⟩ := chk_zero h
  rcases mm_pos h1 with rfl | rfl | rfl | rfl | rfl | rfl | rfl | rfl | rfl <;> simp [stray, many, mm] at h2 h4 <;> omega
def pduOf (q : Req) (lo ls lp : Nat) : List Int := q.c :: tl q.c q.a q.n q.on q.set q.fl lo ls lp
theorem tl_length (c a n : Int) (on : List Bool) (set fl : List Int) (lo ls lp : Nat) : (tl c a n on set fl lo ls lp).length ≤ 5 + need lo + 2 * set.length + 7 * lp := by
  unfold tl
  split
  · rw [wbytes_length]; simp; omega
  · split
    · rw [wbytes_length]; simp; omega
    · split
      · simp [wbytes_length, pk_length]; omega
      · split
        · simp [wbytes_length]; omega
        · split
          · rw [List.length_cons, pbytes_length]; omega
          · rw [wbytes_length]; simp; omega
theorem tl_wf {c a n : Int} {on : List Bool} {set fl : List Int} {lo ls lp : Nat} (h : need lo ≤ 255 ∧ 2 * ls ≤ 255 ∧ 7 * lp ≤ 255) : ∀ x ∈ tl c a n on set fl lo ls lp, (Lit.int .u8 x).wf = true := by
  have hcons : ∀ (m : Nat) (l : List Int), m ≤ 255 → (∀ x ∈ l, (Lit.int .u8 x).wf = true) → ∀ x ∈ (m : Int) :: l, (Lit.int .u8 x).wf = true := by
    intro m l hm hl x hx
    rcases List.mem_cons.1 hx with rfl | hx
    · exact wf_byte m (by omega)
    · exact hl x hx
  unfold tl
  split
  · exact wbytes_wf _
  · split
    · exact wbytes_wf _
    · split
      · exact wf_append (wbytes_wf _) (hcons _ _ h.1 (pk_wf _ _))
      · split
        · exact wf_append (wbytes_wf _) (hcons _ _ h.2.1 (wbytes_wf _))
        · split
          · exact hcons _ _ h.2.2 (pbytes_wf _ _)
          · exact wbytes_wf _

theorem Asked.drew {w : World} {B : Nat} {q : Req} {Ao As Ap : Option Addr} {lo ls lp : Nat} (h : Asked w B q Ao As Ap lo ls lp) : Asked w.drew B q Ao As Ap lo ls lp := ⟨h.on, h.set, h.fl, h.lo, h.ls, h.lp⟩
theorem Asked.upDrew {w : World} {q : Req} {Ao As Ap : Option Addr} {lo ls lp : Nat} (h : Asked w w.heap.size q Ao As Ap lo ls lp) : Asked w.drew w.drew.heap.size q Ao As Ap lo ls lp := h.drew
theorem Asked.upAlloc {w : World} {q : Req} {Ao As Ap : Option Addr} {lo ls lp : Nat} (h : Asked w w.heap.size q Ao As Ap lo ls lp) (o : Obj) : Asked (w.alloc o) (w.alloc o).heap.size q Ao As Ap lo ls lp := h.up (bel_alloc w o)
theorem Bx.grown {w0 w w' : World} {g : Nat} {o : Obj} {row : Option Nat} (h : Bx w0 g o w) (hg : w.grownBy w' row) (hr : ∀ k, row = some k → g < k) : Bx w0 g o w' :=
  ⟨(hg.block g h.lt (fun e => by have := hr g e.symm; omega)).trans h.1, h.2.grown hg (Nat.le_of_lt h.lt) (fun k e => by have := hr k e; omega)⟩

end Go.Proofs.Ytcmbdhmhkfhjfaa
namespace Go.Proofs.Ytcmbdhmhkfhjfaa
open Go.RowKit
set_option linter.unusedVariables false

/-- The word that stands at a place. -/
def at2 (ys : List Int) (i : Nat) : Int := nth ys i * 256 + nth ys (i + 1)
theorem at2_range (ys : List Int) (hw : ∀ x ∈ ys, (Lit.int .u8 x).wf = true) (i : Nat) (h : i + 2 ≤ ys.length) : 0 ≤ at2 ys i ∧ at2 ys i < 65536 := by
  have h1 := wf_u8 (hw _ (nth_mem ys i (by omega)))
  have h2 := wf_u8 (hw _ (nth_mem ys (i + 1) (by omega)))
  unfold at2; omega
theorem bval_at2 (ys : List Int) (hw : ∀ x ∈ ys, (Lit.int .u8 x).wf = true) (i : Nat) (h : i + 2 ≤ ys.length) : ((bval ((ys.drop i).take 2) : Nat) : Int) = at2 ys i := by
  have h1 := wf_u8 (hw _ (nth_mem ys i (by omega)))
  have h2 := wf_u8 (hw _ (nth_mem ys (i + 1) (by omega)))
  rw [bval_two ys i h, at2]; omega
/-- How many bytes a PDU must have. -/
def szOf (ys : List Int) : Int :=
  if nth ys 0 = 15 ∨ nth ys 0 = 16 then (if ys.length < 6 then 6 else 6 + nth ys 5)
  else if nth ys 0 = 20 then (if ys.length < 2 then 2 else 2 + nth ys 1) else 5
/-- The numbers of the first k parts. -/
def flOf (ys : List Int) : Nat → List Int
  | 0 => []
  | k + 1 => flOf ys k ++ [at2 ys (7 * k + 1), at2 ys (7 * k + 3), at2 ys (7 * k + 5)]
theorem flOf_length (ys : List Int) (k : Nat) : (flOf ys k).length = 3 * k := by
  induction k with
  | zero => rfl
  | succ k ih => rw [flOf, List.length_append, ih]; simp; omega
/-- Do the first k parts begin with their mark? -/
def mkOk (ys : List Int) : Nat → Bool
  | 0 => true
  | k + 1 => mkOk ys k && decide (nth ys (7 * k) = 6)
theorem mkOk_le {ys : List Int} {n : Nat} (h : mkOk ys n = true) : ∀ k, k < n → nth ys (7 * k) = 6 := by
  induction n with
  | zero => intro k hk; omega
  | succ n ih =>
    rw [mkOk, Bool.and_eq_true, decide_eq_true_eq] at h
    intro k hk
    rcases Nat.lt_or_ge k n with h1 | h1
    · exact ih h.1 k h1
    · obtain rfl : k = n := by omega
      exact h.2
theorem mkOk_no {ys : List Int} {n k : Nat} (hk : k < n) (h : nth ys (7 * k) ≠ 6) : mkOk ys n = false := by
  cases hn : mkOk ys n with
  | false => rfl
  | true => exact absurd (mkOk_le hn k hk) h
theorem flOf_wf (ys : List Int) (hw : ∀ x ∈ ys, (Lit.int .u8 x).wf = true) (k : Nat) (h : 7 * k ≤ ys.length) : ∀ x ∈ flOf ys k, 0 ≤ x ∧ x < 65536 := by
  induction k with
  | zero => simp [flOf]
  | succ k ih =>
    intro x hx
    rw [flOf] at hx
    rcases List.mem_append.1 hx with hx | hx
    · exact ih (by omega) x hx
    · simp only [List.mem_cons, List.not_mem_nil, or_false] at hx
      rcases hx with rfl | rfl | rfl <;> exact at2_range ys hw _ (by omega)

/-- The bit that a word says of a coil. -/
def coilL (m : Int) : List Bool := if m = 65280 then [true] else if m = 0 then [false] else []
/-- Are bytes just n bits? -/
def bitsOk (ys : List Int) (n : Nat) : Bool := decide (ys.length = need n) && !spareB ys n
/-- Are bytes just parts? -/
def partsOk (ys : List Int) : Bool := decide (ys.length % 7 = 0) && mkOk ys (ys.length / 7)
/-- Parts are told, or it is said that there are none. -/
def PartsPost (w : World) (ys : List Int) (m : Nat) (e : Ending) (w' : World) : Prop :=
  (mkOk ys m = true ∧ ∃ v, e = .returned (.tuple #[v, .int .i64 0]) ∧ POwn 83 w' w.heap.size v (flOf ys m) ∧ Below w.heap.size w w') ∨
  (mkOk ys m = false ∧ e = .returned (.tuple #[.slice none 0 0, .int .i64 4]) ∧ Below w.heap.size w w')
end Go.Proofs.Ytcmbdhmhkfhjfaa
namespace Go.Proofs.Ytcmbdhmhkfhjfaa
open Go.RowKit
set_option linter.unusedVariables false

/-- A call returns a request in memory of its own, and a number. -/
def Told (w : World) (q : Req) (err : Int) (e : Ending) (w' : World) : Prop :=
  ∃ (A1 A2 : Option Addr) (m1 m2 g1 g2 : Nat) (vp : Value), e = .returned (.tuple #[.agg #[.int .i64 q.c, .int .i64 q.a, .int .i64 q.n, .slice A1 m1 m1, .slice A2 m2 m2, vp], .int .i64 err]) ∧
    L.Li w' A1 m1 g1 q.on [] ∧ W.Li w' A2 m2 g2 q.set [] ∧ POwn 83 w' w.heap.size vp q.fl ∧ (q.on.length = m1 ∧ q.set.length = m2) ∧ (w.heap.size ≤ g1 ∧ w.heap.size ≤ g2) ∧ Below w.heap.size w w'
/-- Do bytes of the right size say a request? -/
def rdOk (ys : List Int) : Bool :=
  if nth ys 0 = 20 then partsOk (ys.drop 2) else if nth ys 0 = 5 then decide (at2 ys 3 = 65280 ∨ at2 ys 3 = 0)
  else if nth ys 0 = 15 then bitsOk (ys.drop 6) (at2 ys 3).toNat else if nth ys 0 = 16 then decide ((ys.drop 6).length = 2 * (at2 ys 3).toNat) else true
/-- That request. -/
def rdQ (ys : List Int) : Req :=
  if nth ys 0 = 20 then ⟨20, 0, 0, [], [], flOf (ys.drop 2) ((ys.drop 2).length / 7)⟩
  else if nth ys 0 = 5 then ⟨5, at2 ys 1, 0, coilL (at2 ys 3), [], []⟩
  else if nth ys 0 = 6 then ⟨6, at2 ys 1, 0, [], [at2 ys 3], []⟩
  else if nth ys 0 = 15 then ⟨15, at2 ys 1, 0, unpk (ys.drop 6) (at2 ys 3).toNat, [], []⟩
  else if nth ys 0 = 16 then ⟨16, at2 ys 1, 0, [], wwords (ys.drop 6), []⟩
  else ⟨nth ys 0, at2 ys 1, at2 ys 3, [], [], []⟩

theorem row_head {w : World} {B : Nat} {A : Option Addr} {ys : List Int} (h : Row .u8 w B A ys) (h1 : 1 ≤ ys.length) :
    ∃ b o, A = some ⟨b, o, none⟩ ∧ b < B ∧ w.cell? ⟨b, o, none⟩ = some (.int .u8 (nth ys 0)) ∧ (0 ≤ nth ys 0 ∧ nth ys 0 < 256) := by
  obtain ⟨b, o, rfl, hb, hc⟩ := h.at_ (i := 0) (by omega)
  exact ⟨b, o, rfl, hb, by rwa [Nat.add_zero] at hc, wf_u8 (h.wf_at (i := 0) (by omega))⟩

end Go.Proofs.Ytcmbdhmhkfhjfaa
namespace Go.Proofs.Ytcmbdhmhkfhjfaa
open Go.RowKit
set_option linter.unusedVariables false

/-- What read tells: the request that the bytes say, or that they say none. -/
def Readd (w : World) (ys : List Int) (e : Ending) (w' : World) : Prop :=
  ∃ q E, Told w q E e w' ∧ (rdOk ys = true ∧ q = rdQ ys ∧ E = 0 ∨ rdOk ys = false ∧ E = 4)
/-- A list of bits that a call has made, and a number. -/
def LGot (w : World) (ok : Bool) (l0 : List Bool) (e : Ending) (w' : World) : Prop :=
  ∃ (A : Option Addr) (m g : Nat) (l : List Bool) (E : Int), e = .returned (.tuple #[.slice A m m, .int .i64 E]) ∧ L.Li w' A m g l [] ∧ l.length = m ∧ w.heap.size ≤ g ∧ Below w.heap.size w w' ∧ (ok = true ∧ l = l0 ∧ E = 0 ∨ ok = false ∧ E = 4)
def WGot (w : World) (ok : Bool) (l0 : List Int) (e : Ending) (w' : World) : Prop :=
  ∃ (A : Option Addr) (m g : Nat) (l : List Int) (E : Int), e = .returned (.tuple #[.slice A m m, .int .i64 E]) ∧ W.Li w' A m g l [] ∧ l.length = m ∧ w.heap.size ≤ g ∧ Below w.heap.size w w' ∧ (ok = true ∧ l = l0 ∧ E = 0 ∨ ok = false ∧ E = 4)
def PGot (w : World) (ok : Bool) (l0 : List Int) (e : Ending) (w' : World) : Prop :=
  ∃ (v : Value) (l : List Int) (E : Int), e = .returned (.tuple #[v, .int .i64 E]) ∧ POwn 83 w' w.heap.size v l ∧ Below w.heap.size w w' ∧ (ok = true ∧ l = l0 ∧ E = 0 ∨ ok = false ∧ E = 4)

theorem POwn.form {e : TypeId} {w : World} {base : Nat} {v : Value} {fl : List Int} (h : POwn e w base v fl) : ∃ A n c, v = .slice A n c := by
  rcases h with ⟨rfl, _⟩ | ⟨g, n, cap, r, rfl, _⟩
  · exact ⟨_, _, _, rfl⟩
  · exact ⟨_, _, _, rfl⟩
theorem L.Bk.set {w : World} {g g' : Nat} {l : List Bool} (h : L.Bk w g l) (hne : g ≠ g') (i : Nat) (u : Value) : L.Bk (w.setCell ⟨g', i, none⟩ u) g l := (Below.heap_setCell w ⟨g', i, none⟩ u g (by simpa using hne)).trans h
theorem W.Bk.set {w : World} {g g' : Nat} {l : List Int} (h : W.Bk w g l) (hne : g ≠ g') (i : Nat) (u : Value) : W.Bk (w.setCell ⟨g', i, none⟩ u) g l := (Below.heap_setCell w ⟨g', i, none⟩ u g (by simpa using hne)).trans h
theorem L.Li.set {w : World} {A : Option Addr} {m g g' : Nat} {l r : List Bool} (h : L.Li w A m g l r) (hne : g ≠ g') (i : Nat) (u : Value) : L.Li (w.setCell ⟨g', i, none⟩ u) A m g l r := by
  rcases h with h | ⟨h1, h2⟩
  · exact .inl h
  · exact .inr ⟨h1, h2.set hne i u⟩
theorem W.Li.set {w : World} {A : Option Addr} {m g g' : Nat} {l r : List Int} (h : W.Li w A m g l r) (hne : g ≠ g') (i : Nat) (u : Value) : W.Li (w.setCell ⟨g', i, none⟩ u) A m g l r := by
  rcases h with h | ⟨h1, h2⟩
  · exact .inl h
  · exact .inr ⟨h1, h2.set hne i u⟩
theorem L.Li.put6 {w : World} {A : Option Addr} {m g g' : Nat} {l r : List Bool} (h : L.Li w A m g l r) (hne : g ≠ g') (v0 v1 v2 v3 v4 v5 : Value) : L.Li (put6 w g' v0 v1 v2 v3 v4 v5) A m g l r :=
  (((((h.set hne 0 v0).set hne 1 v1).set hne 2 v2).set hne 3 v3).set hne 4 v4).set hne 5 v5
theorem W.Li.put6 {w : World} {A : Option Addr} {m g g' : Nat} {l r : List Int} (h : W.Li w A m g l r) (hne : g ≠ g') (v0 v1 v2 v3 v4 v5 : Value) : W.Li (put6 w g' v0 v1 v2 v3 v4 v5) A m g l r :=
  (((((h.set hne 0 v0).set hne 1 v1).set hne 2 v2).set hne 3 v3).set hne 4 v4).set hne 5 v5

end Go.Proofs.Ytcmbdhmhkfhjfaa
namespace Go.Proofs.Ytcmbdhmhkfhjfaa
open Go.RowKit
set_option linter.unusedVariables false
theorem L.Li.grown {w w' : World} {A : Option Addr} {m g : Nat} {l r : List Bool} (h : L.Li w A m g l r) {row : Option Nat} (hg : w.grownBy w' row) (hne : A = none ∨ some g ≠ row) : L.Li w' A m g l r := by
  rcases h with h | ⟨h1, h2⟩
  · exact .inl h
  · exact .inr ⟨h1, (hg.block g (block_lt h2) (hne.resolve_left (by rw [h1]; simp))).trans h2⟩
theorem W.Li.grown {w w' : World} {A : Option Addr} {m g : Nat} {l r : List Int} (h : W.Li w A m g l r) {row : Option Nat} (hg : w.grownBy w' row) (hne : A = none ∨ some g ≠ row) : W.Li w' A m g l r := by
  rcases h with h | ⟨h1, h2⟩
  · exact .inl h
  · exact .inr ⟨h1, (hg.block g (block_lt h2) (hne.resolve_left (by rw [h1]; simp))).trans h2⟩
theorem POwn.grown {e : TypeId} {w w' : World} {base : Nat} {v : Value} {fl : List Int} (h : POwn e w base v fl) {row : Option Nat} (hg : w.grownBy w' row) (hne : ∀ g, v.ownBlock = some g → some g ≠ row) : POwn e w' base v fl := by
  rcases h with h | ⟨g, n, cap, r, rfl, h2, h3, h4, h5⟩
  · exact .inl h
  · exact .inr ⟨g, n, cap, r, rfl, h2, h3, (hg.block g (block_lt h4) (hne g rfl)).trans h4, h5⟩
/-- Blocks of different types are different ones. -/
theorem blocks_ne {w : World} {g g' : Nat} {cs cs' : Array Value} {t t' : TypeId} {f f' : Nat × Nat} (h : w.heap[g]? = some (.cells cs t f)) (h' : w.heap[g']? = some (.cells cs' t' f')) (hne : t ≠ t') : g ≠ g' := by
  rintro rfl
  rw [h] at h'
  injection h' with h'
  injection h' with _ h2
  exact hne h2

end Go.Proofs.Ytcmbdhmhkfhjfaa
namespace Go.Proofs.Ytcmbdhmhkfhjfaa
open Go.RowKit
set_option linter.unusedVariables false

/-- What is wrong with a request. -/
def chkQ (q : Req) : Int := chk q.c q.a q.n q.on.length q.set.length (q.fl.length / 3) q.fl
/-- What is wrong with bytes. -/
def getE (ys : List Int) : Int :=
  if ys.length = 0 then 1 else if mm (nth ys 0) ≤ 0 then 20 else if (ys.length : Int) < szOf ys then 1 else if szOf ys < (ys.length : Int) then 2 else if rdOk ys = false then 4 else chkQ (rdQ ys)
def getQ (ys : List Int) : Req := if getE ys = 0 then rdQ ys else Req.zero

theorem Told.zero_ {w w' : World} {err : Int} {e : Ending} (h : e = .returned (.tuple #[.agg #[.int .i64 0, .int .i64 0, .int .i64 0, .slice none 0 0, .slice none 0 0, .slice none 0 0], .int .i64 err])) (hb : Below w.heap.size w w') : Told w Req.zero err e w' :=
  ⟨none, none, 0, 0, w.heap.size, w.heap.size, _, h, .inl ⟨rfl, rfl⟩, .inl ⟨rfl, rfl⟩, POwn.nil _ _ _, ⟨rfl, rfl⟩, ⟨Nat.le_refl _, Nat.le_refl _⟩, hb⟩

theorem POwn.row_at {e : TypeId} {w : World} {base n c : Nat} {A : Option Addr} {fl : List Int} (h : POwn e w base (.slice A n c) fl) (hw : ∀ x ∈ fl, (Lit.int .i64 x).wf = true) : Row .i64 w w.heap.size A fl ∧ fl.length = 3 * n := by
  obtain ⟨A', n', c', hv, hr, hl, _⟩ := h.row hw
  injection hv with h1 h2 h3
  subst h1 h2
  exact ⟨hr, hl⟩
theorem wf_i64_16 {x : Int} (h : 0 ≤ x ∧ x < 65536) : (Lit.int .i64 x).wf = true := by
  simp [Lit.wf, IntKind.min, IntKind.max, IntKind.signed, IntKind.bits]; omega
/-- What the lists of the request that bytes say hold. -/
theorem rdQ_wf (ys : List Int) (hw : ∀ x ∈ ys, (Lit.int .u8 x).wf = true) (h5 : nth ys 0 ≠ 20 → 5 ≤ ys.length) : (∀ x ∈ (rdQ ys).set, (Lit.int .u16 x).wf = true) ∧ ∀ x ∈ (rdQ ys).fl, (Lit.int .i64 x).wf = true := by
  unfold rdQ
  split
  · exact ⟨by simp, fun x hx => wf_i64_16 (flOf_wf _ (fun x hx => hw x (List.mem_of_mem_drop hx)) _ (by omega) x hx)⟩
  · split
    · exact ⟨by simp, by simp⟩
    · split
      · refine ⟨fun x hx => ?_, by simp⟩
        simp only [List.mem_singleton] at hx
        subst hx
        exact wf_word16 (at2_range ys hw 3 (h5 (by omega)))
      · split
        · exact ⟨by simp, by simp⟩
        · split
          · exact ⟨wwords_wf _ (fun x hx => hw x (List.mem_of_mem_drop hx)), by simp⟩
          · exact ⟨by simp, by simp⟩
theorem Told.asked {w : World} {q : Req} {A1 A2 A3 : Option Addr} {m1 m2 g1 g2 n3 c3 base : Nat} (h1 : L.Li w A1 m1 g1 q.on []) (h2 : W.Li w A2 m2 g2 q.set []) (h3 : POwn 83 w base (.slice A3 n3 c3) q.fl) (hl : q.on.length = m1 ∧ q.set.length = m2) (hw : (∀ x ∈ q.set, (Lit.int .u16 x).wf = true) ∧ ∀ x ∈ q.fl, (Lit.int .i64 x).wf = true) :
    Asked w w.heap.size q A1 A2 A3 m1 m2 n3 :=
  ⟨h1.row hl.1 (fun _ _ => rfl), h2.row hl.2 hw.1, (h3.row_at hw.2).1, hl.1, hl.2, (h3.row_at hw.2).2⟩
theorem szOf_le (ys : List Int) (hw : ∀ x ∈ ys, (Lit.int .u8 x).wf = true) : szOf ys ≤ 300 := by
  unfold szOf
  split
  · split
    · omega
    · have := wf_u8 (hw _ (nth_mem ys 5 (by omega))); omega
  · split
    · split
      · omega
      · have := wf_u8 (hw _ (nth_mem ys 1 (by omega))); omega
    · omega
theorem szOf_five (ys : List Int) (hw : ∀ x ∈ ys, (Lit.int .u8 x).wf = true) (hs : (ys.length : Int) = szOf ys) : nth ys 0 ≠ 20 → 5 ≤ ys.length := by
  intro h20
  unfold szOf at hs
  rw [if_neg h20] at hs
  split at hs
  · split at hs
    · omega
    · have := wf_u8 (hw _ (nth_mem ys 5 (by omega))); omega
  · omega

end Go.Proofs.Ytcmbdhmhkfhjfaa
namespace Go.Proofs.Ytcmbdhmhkfhjfaa
open Go.RowKit
set_option linter.unusedVariables false

def pduQ (q : Req) : List Int := pduOf q q.on.length q.set.length (q.fl.length / 3)
theorem nth_zero (x : Int) (l : List Int) : nth (x :: l) 0 = x := rfl
theorem nth_succ (x : Int) (l : List Int) (i : Nat) : nth (x :: l) (i + 1) = nth l i := by simp [nth]
theorem nth_pre (l : List Int) (k i : Nat) (h : i < k) : nth (l.take k) i = nth l i := by
  simp only [nth, List.getD_eq_getElem?_getD, List.getElem?_take_of_lt h]
theorem wbytes_one (a : Int) (l : List Int) (h : 0 ≤ a ∧ a < 65536) : wbytes (a :: l) = (a / 256) :: (a % 256) :: wbytes l := by
  rw [wbytes, be_two]
  have e1 : ((a.toNat / 256 % 256 : Nat) : Int) = a / 256 := by omega
  have e2 : ((a.toNat % 256 : Nat) : Int) = a % 256 := by omega
  rw [e1, e2]; rfl
theorem at2_one (x a : Int) (l : List Int) : at2 (x :: (a / 256) :: (a % 256) :: l) 1 = a := by
  rw [at2, nth_succ, nth_zero, nth_succ, nth_succ, nth_zero]; omega
theorem at2_three (x y z a : Int) (l : List Int) : at2 (x :: y :: z :: (a / 256) :: (a % 256) :: l) 3 = a := by
  rw [at2, nth_succ, nth_succ, nth_succ, nth_zero, nth_succ, nth_succ, nth_succ, nth_succ, nth_zero]; omega
theorem nil_of_not_lt {α : Type} {l : List α} (h : decide (0 < l.length) = false) : l = [] := by
  have : ¬ 0 < l.length := of_decide_eq_false h
  exact List.eq_nil_of_length_eq_zero (by omega)
theorem one_of_length {α : Type} {l : List α} (h : l.length = 1) : ∃ x, l = [x] := by
  match l, h with
  | [x], _ => exact ⟨x, rfl⟩
theorem flOf_pbytes (fl : List Int) (m : Nat) (hl : fl.length = 3 * m) (hok : allOk fl m = true) : mkOk (pbytes fl m) m = true ∧ flOf (pbytes fl m) m = fl := by
  have key : ∀ k, k ≤ m → ∀ r : List Int, mkOk (pbytes fl k ++ r) k = true ∧ flOf (pbytes fl k ++ r) k = fl.take (3 * k) := by
    intro k
    induction k with
    | zero => intro _ r; exact ⟨rfl, by simp [flOf]⟩
    | succ k ih =>
      intro hk r
      have hin := (inPl_iff _ _ _).1 (allOk_le hok k (by omega))
      rw [pbytes, List.append_assoc]
      obtain ⟨h1, h2⟩ := ih (by omega) (6 :: wbytes [nth fl (3 * k), nth fl (3 * k + 1), nth fl (3 * k + 2)] ++ r)
      have hpl := pbytes_length fl k
      have hT : (6 :: wbytes [nth fl (3 * k), nth fl (3 * k + 1), nth fl (3 * k + 2)] ++ r) = 6 :: (nth fl (3 * k) / 256) :: (nth fl (3 * k) % 256) :: (nth fl (3 * k + 1) / 256) :: (nth fl (3 * k + 1) % 256) :: (nth fl (3 * k + 2) / 256) :: (nth fl (3 * k + 2) % 256) :: r := by
        rw [wbytes_one _ _ (by omega), wbytes_one _ _ (by omega), wbytes_one _ _ (by omega)]; rfl
      rw [hT] at h1 h2 ⊢
      clear hT
      generalize hTT : (6 :: (nth fl (3 * k) / 256) :: (nth fl (3 * k) % 256) :: (nth fl (3 * k + 1) / 256) :: (nth fl (3 * k + 1) % 256) :: (nth fl (3 * k + 2) / 256) :: (nth fl (3 * k + 2) % 256) :: r) = T at *
      have hn : ∀ j, nth (pbytes fl k ++ T) (7 * k + j) = nth T j := by intro j; rw [← hpl, nth_right]
      have a1 : ∀ i, at2 (pbytes fl k ++ T) (7 * k + i) = at2 T i := by intro i; unfold at2; rw [hn i, Nat.add_assoc, hn (i + 1)]
      have n0 := hn 0
      rw [Nat.add_zero] at n0
      refine ⟨?_, ?_⟩
      · rw [mkOk, h1, Bool.true_and, n0, ← hTT]; rfl
      · rw [flOf, h2, take_three fl k (by omega), a1 1, a1 3, a1 5, ← hTT]
        simp only [at2, nth_succ, nth_zero]
        congr 1
        congr 1
        · omega
        · congr 1
          · omega
          · congr 1
            omega
  have := key m (Nat.le_refl _) []
  rw [List.append_nil, List.take_of_length_le (by omega)] at this
  exact this

theorem getE_ok {ys : List Int} (h0 : ys.length ≠ 0) (hm : 0 < mm (nth ys 0)) (hs : (ys.length : Int) = szOf ys) (hr : rdOk ys = true) (hk : chkQ (rdQ ys) = 0) : getE ys = 0 := by
  rw [getE, if_neg h0, if_neg (by omega), if_neg (by omega), if_neg (by omega), if_neg (by simp [hr]), hk]

set_option maxHeartbeats 1000000 in
/-- A right request is said by its PDU. -/
theorem pdu_back (q : Req) (hset : ∀ x ∈ q.set, (Lit.int .u16 x).wf = true) (h3 : q.fl.length % 3 = 0) (hk : chkQ q = 0) : getE (pduQ q) = 0 ∧ rdQ (pduQ q) = q ∧ (5 ≤ (pduQ q).length ∧ (pduQ q).length ≤ 253) := by
  obtain ⟨c, a, n, on, set, fl⟩ := q
  have hk' := hk
  simp only [chkQ] at hk
  obtain ⟨h1, h2, ha, h4, h5, h6⟩ := chk_zero hk
  simp only at hset h3
  simp only [pduQ, pduOf]
  have fin : ∀ ys : List Int, ys.length ≠ 0 → nth ys 0 = c → (ys.length : Int) = szOf ys → rdOk ys = true → rdQ ys = ⟨c, a, n, on, set, fl⟩ → (5 ≤ ys.length ∧ ys.length ≤ 253) → getE ys = 0 ∧ rdQ ys = ⟨c, a, n, on, set, fl⟩ ∧ (5 ≤ ys.length ∧ ys.length ≤ 253) := by
    intro ys g0 g1 g2 g3 g4 g5
    exact ⟨getE_ok g0 (by rw [g1]; exact h1) g2 g3 (by rw [g4]; exact hk'), g4, g5⟩
  clear hk' hk
  rcases mm_pos h1 with rfl | rfl | rfl | rfl | rfl | rfl | rfl | rfl | rfl
  iterate 4
    · have h4 : 1 ≤ n ∧ n ≤ 2000 := by simp only [many, mm] at h4; omega
      simp [stray] at h2
      obtain ⟨⟨rfl, rfl⟩, h2⟩ := h2
      obtain rfl : fl = [] := List.eq_nil_of_length_eq_zero (by omega)
      simp only [tl]
      rw [if_neg (by omega), if_neg (by omega), if_neg (by omega), if_neg (by omega), if_neg (by omega), wbytes_one _ _ ha, wbytes_one _ _ (by omega)]
      refine fin _ (by simp) rfl rfl rfl ?_ (by simp [wbytes])
      unfold rdQ
      rw [if_neg (by rw [nth_zero]; omega), if_neg (by rw [nth_zero]; omega), if_neg (by rw [nth_zero]; omega), if_neg (by rw [nth_zero]; omega), if_neg (by rw [nth_zero]; omega), at2_one, at2_three, nth_zero]
  · -- 5
    have h4 : 1 ≤ (on.length : Int) ∧ (on.length : Int) ≤ 1 := h4
    simp [stray] at h2
    obtain ⟨⟨rfl, rfl⟩, h2⟩ := h2
    obtain rfl : fl = [] := List.eq_nil_of_length_eq_zero (by omega)
    obtain ⟨b, rfl⟩ := one_of_length (l := on) (by omega)
    have hb : 0 ≤ (if b = true then (65280 : Int) else 0) ∧ (if b = true then (65280 : Int) else 0) < 65536 := by split <;> omega
    have e : tl 5 a 0 [b] [] [] [b].length ([] : List Int).length (([] : List Int).length / 3) = wbytes [a, if b = true then 65280 else 0] := rfl
    rw [e, wbytes_one _ _ ha, wbytes_one _ _ hb]
    refine fin _ (by simp) rfl rfl ?_ ?_ (by simp [wbytes])
    · unfold rdOk
      rw [if_neg (by rw [nth_zero]; omega), if_pos (nth_zero _ _), at2_three]
      cases b <;> decide
    · unfold rdQ
      rw [if_neg (by rw [nth_zero]; omega), if_pos (nth_zero _ _), at2_one, at2_three]
      cases b <;> rfl
  · -- 6
    have h4 : 1 ≤ (set.length : Int) ∧ (set.length : Int) ≤ 1 := h4
    simp [stray] at h2
    obtain ⟨⟨rfl, rfl⟩, h2⟩ := h2
    obtain rfl : fl = [] := List.eq_nil_of_length_eq_zero (by omega)
    obtain ⟨x, rfl⟩ := one_of_length (l := set) (by omega)
    have hx := wf_u16 (hset x (by simp))
    have e : tl 6 a 0 [] [x] [] ([] : List Bool).length [x].length (([] : List Int).length / 3) = wbytes [a, x] := rfl
    rw [e, wbytes_one _ _ ha, wbytes_one _ _ hx]
    refine fin _ (by simp) rfl rfl rfl ?_ (by simp [wbytes])
    unfold rdQ
    rw [if_neg (by rw [nth_zero]; omega), if_neg (by rw [nth_zero]; omega), if_pos (nth_zero _ _), at2_one, at2_three]
  · -- 15
    have h4 : 1 ≤ (on.length : Int) ∧ (on.length : Int) ≤ 1968 := h4
    simp [stray] at h2
    obtain ⟨⟨rfl, rfl⟩, h2⟩ := h2
    obtain rfl : fl = [] := List.eq_nil_of_length_eq_zero (by omega)
    have e : tl 15 a 0 on [] [] on.length ([] : List Int).length (([] : List Int).length / 3) = wbytes [a, (on.length : Int)] ++ ((need on.length : Nat) : Int) :: pk on (need on.length) := rfl
    have hne : 1 ≤ need on.length ∧ need on.length ≤ 246 := by unfold need; omega
    have hpl := pk_length on (need on.length)
    have hnn : ((on.length : Int)).toNat = on.length := by omega
    rw [e, wbytes_one _ _ ha, wbytes_one _ _ (by omega)]
    refine fin _ (by simp) rfl ?_ ?_ ?_ (by simp [wbytes, hpl]; omega)
    · unfold szOf
      rw [if_pos (by left; rfl), if_neg (by simp [wbytes])]
      show _ = 6 + ((need on.length : Nat) : Int)
      simp [wbytes, hpl]; omega
    · unfold rdOk
      rw [if_neg (by rw [nth_zero]; omega), if_neg (by rw [nth_zero]; omega), if_pos (nth_zero _ _)]
      show bitsOk (pk on (need on.length)) (at2 (15 :: (a / 256) :: (a % 256) :: ((on.length : Int) / 256) :: ((on.length : Int) % 256) :: (wbytes [] ++ ((need on.length : Nat) : Int) :: pk on (need on.length))) 3).toNat = true
      rw [at2_three, hnn, bitsOk, hpl, decide_eq_true rfl, Bool.true_and]
      cases hs : spareB (pk on (need on.length)) on.length with
      | false => rfl
      | true => exact absurd ((spareB_iff _ _).1 hs) (no_spare_pk on)
    · unfold rdQ
      rw [if_neg (by rw [nth_zero]; omega), if_neg (by rw [nth_zero]; omega), if_neg (by rw [nth_zero]; omega), if_pos (nth_zero _ _)]
      show (⟨15, at2 (15 :: (a / 256) :: (a % 256) :: ((on.length : Int) / 256) :: ((on.length : Int) % 256) :: (wbytes [] ++ ((need on.length : Nat) : Int) :: pk on (need on.length))) 1, 0, unpk (pk on (need on.length)) (at2 (15 :: (a / 256) :: (a % 256) :: ((on.length : Int) / 256) :: ((on.length : Int) % 256) :: (wbytes [] ++ ((need on.length : Nat) : Int) :: pk on (need on.length))) 3).toNat, [], []⟩ : Req) = _
      rw [at2_one, at2_three, hnn, unpk_pk]
  · -- 16
    have h4 : 1 ≤ (set.length : Int) ∧ (set.length : Int) ≤ 123 := h4
    simp [stray] at h2
    obtain ⟨⟨rfl, rfl⟩, h2⟩ := h2
    obtain rfl : fl = [] := List.eq_nil_of_length_eq_zero (by omega)
    have e : tl 16 a 0 [] set [] ([] : List Bool).length set.length (([] : List Int).length / 3) = wbytes [a, (set.length : Int)] ++ ((2 * set.length : Nat) : Int) :: wbytes set := rfl
    have hpl := wbytes_length set
    have hnn : ((set.length : Int)).toNat = set.length := by omega
    rw [e, wbytes_one _ _ ha, wbytes_one _ _ (by omega)]
    refine fin _ (by simp) rfl ?_ ?_ ?_ (by simp [wbytes, hpl]; omega)
    · unfold szOf
      rw [if_pos (by right; rfl), if_neg (by simp [wbytes])]
      show _ = 6 + ((2 * set.length : Nat) : Int)
      simp [wbytes, hpl]; omega
    · unfold rdOk
      rw [if_neg (by rw [nth_zero]; omega), if_neg (by rw [nth_zero]; omega), if_neg (by rw [nth_zero]; omega), if_pos (nth_zero _ _)]
      show decide ((wbytes set).length = 2 * (at2 (16 :: (a / 256) :: (a % 256) :: ((set.length : Int) / 256) :: ((set.length : Int) % 256) :: (wbytes [] ++ ((2 * set.length : Nat) : Int) :: wbytes set)) 3).toNat) = true
      rw [at2_three, hnn, hpl]; simp
    · unfold rdQ
      rw [if_neg (by rw [nth_zero]; omega), if_neg (by rw [nth_zero]; omega), if_neg (by rw [nth_zero]; omega), if_neg (by rw [nth_zero]; omega), if_pos (nth_zero _ _)]
      show (⟨16, at2 (16 :: (a / 256) :: (a % 256) :: ((set.length : Int) / 256) :: ((set.length : Int) % 256) :: (wbytes [] ++ ((2 * set.length : Nat) : Int) :: wbytes set)) 1, 0, [], wwords (wbytes set), []⟩ : Req) = _
      rw [at2_one, wwords_wbytes set hset]
  · -- 20
    have h4 : 1 ≤ ((fl.length / 3 : Nat) : Int) ∧ ((fl.length / 3 : Nat) : Int) ≤ 35 := h4
    simp [stray] at h2
    obtain ⟨⟨⟨rfl, rfl⟩, rfl⟩, rfl⟩ := h2
    obtain ⟨m, hm⟩ : ∃ m, fl.length = 3 * m := ⟨fl.length / 3, by omega⟩
    have hd : fl.length / 3 = m := by omega
    rw [hd] at h4 h5 ⊢
    have hok := (h5 rfl).1
    obtain ⟨k1, k2⟩ := flOf_pbytes fl m hm hok
    have hpl := pbytes_length fl m
    have e : tl 20 0 0 [] [] fl ([] : List Bool).length ([] : List Int).length m = ((7 * m : Nat) : Int) :: pbytes fl m := rfl
    rw [e]
    have hd7 : (pbytes fl m).length / 7 = m := by rw [hpl]; omega
    refine fin _ (by simp) rfl ?_ ?_ ?_ (by simp [hpl]; omega)
    · unfold szOf
      rw [if_neg (by rw [nth_zero]; omega), if_pos (nth_zero _ _), if_neg (by simp)]
      show _ = 2 + ((7 * m : Nat) : Int)
      simp [hpl]; omega
    · unfold rdOk
      rw [if_pos (nth_zero _ _)]
      show partsOk (pbytes fl m) = true
      rw [partsOk, hd7, k1, hpl, decide_eq_true (by omega)]; rfl
    · unfold rdQ
      rw [if_pos (nth_zero _ _)]
      show (⟨20, 0, 0, [], [], flOf (pbytes fl m) ((pbytes fl m).length / 7)⟩ : Req) = _
      rw [hd7, k2]

/-- What is left of parts that were read is put again. -/
theorem pbytes_flOf (ys : List Int) (hw : ∀ x ∈ ys, (Lit.int .u8 x).wf = true) (m : Nat) (hl : ys.length = 7 * m) (hok : mkOk ys m = true) : pbytes (flOf ys m) m = ys := by
  have hfl : ∀ k, k ≤ m → flOf ys k = (flOf ys m).take (3 * k) := by
    intro k hk
    have : ∀ d, flOf ys k = (flOf ys (k + d)).take (3 * k) := by
      intro d
      induction d with
      | zero => rw [Nat.add_zero, List.take_of_length_le (by rw [flOf_length]; omega)]
      | succ d ih =>
        rw [← Nat.add_assoc, flOf, List.take_append_of_le_length (by rw [flOf_length]; omega)]
        exact ih
    have h2 := this (m - k)
    rwa [show k + (m - k) = m by omega] at h2
  have hnth : ∀ k i, k < m → i < 3 → nth (flOf ys m) (3 * k + i) = at2 ys (7 * k + (1 + 2 * i)) := by
    intro k i hk hi
    rw [← nth_pre (flOf ys m) (3 * (k + 1)) (3 * k + i) (by omega), ← hfl (k + 1) (by omega), flOf]
    have hfk := flOf_length ys k
    rw [← hfk, nth_right]
    rcases (show i = 0 ∨ i = 1 ∨ i = 2 by omega) with rfl | rfl | rfl <;> rfl
  have key : ∀ k, k ≤ m → pbytes (flOf ys m) k = ys.take (7 * k) := by
    intro k
    induction k with
    | zero => intro _; rfl
    | succ k ih =>
      intro hk
      have h6 := mkOk_le hok k (by omega)
      have hb : ∀ i, i < 7 → (0 ≤ nth ys (7 * k + i) ∧ nth ys (7 * k + i) < 256) := fun i hi => wf_u8 (hw _ (nth_mem ys _ (by omega)))
      have r1 := at2_range ys hw (7 * k + 1) (by omega)
      have r3 := at2_range ys hw (7 * k + 3) (by omega)
      have r5 := at2_range ys hw (7 * k + 5) (by omega)
      have b1 := hb 1 (by omega)
      have b2 := hb 2 (by omega)
      have b3 := hb 3 (by omega)
      have b4 := hb 4 (by omega)
      have b5 := hb 5 (by omega)
      have b6 := hb 6 (by omega)
      have e0 := hnth k 0 (by omega) (by omega)
      have e1 := hnth k 1 (by omega) (by omega)
      have e2 := hnth k 2 (by omega) (by omega)
      simp only [Nat.add_zero, Nat.mul_zero, Nat.mul_one] at e0 e1 e2
      rw [pbytes, ih (by omega), e0, e1, e2, show 1 + 2 * 2 = 5 from rfl, show 1 + 2 = 3 from rfl, wbytes_one _ _ r1, wbytes_one _ _ r3, wbytes_one _ _ r5]
      rw [show 7 * (k + 1) = 7 * k + 1 + 1 + 1 + 1 + 1 + 1 + 1 by omega, take_step _ _ (by omega), take_step _ _ (by omega), take_step _ _ (by omega), take_step _ _ (by omega), take_step _ _ (by omega), take_step _ _ (by omega), take_step _ _ (by omega)]
      simp only [List.append_assoc, List.cons_append, List.nil_append]
      unfold at2
      rw [h6]
      simp only [Nat.add_assoc, Nat.reduceAdd, wbytes]
      congr 2
      congr 1
      · omega
      · congr 1
        · omega
        · congr 1
          · omega
          · congr 1
            · omega
            · congr 1
              · omega
              · congr 1
                omega
  rw [key m (Nat.le_refl _), List.take_of_length_le (by omega)]
theorem cons_of_length {α : Type} {l : List α} {n : Nat} (h : l.length = n + 1) : ∃ x t, l = x :: t ∧ t.length = n := by
  match l, h with
  | x :: t, h => exact ⟨x, t, rfl, by simpa using h⟩
theorem five_of {l : List Int} (h : l.length = 5) : ∃ x0 x1 x2 x3 x4, l = [x0, x1, x2, x3, x4] := by
  match l, h with
  | [x0, x1, x2, x3, x4], _ => exact ⟨_, _, _, _, _, rfl⟩
theorem six_of {l : List Int} (h : 6 ≤ l.length) : ∃ x0 x1 x2 x3 x4 x5 t, l = x0 :: x1 :: x2 :: x3 :: x4 :: x5 :: t := by
  match l, h with
  | x0 :: x1 :: x2 :: x3 :: x4 :: x5 :: t, _ => exact ⟨_, _, _, _, _, _, _, rfl⟩
theorem two_of {l : List Int} (h : 2 ≤ l.length) : ∃ x0 x1 t, l = x0 :: x1 :: t := by
  match l, h with
  | x0 :: x1 :: t, _ => exact ⟨_, _, _, rfl⟩
end Go.Proofs.Ytcmbdhmhkfhjfaa
namespace Go.Proofs.Ytcmbdhmhkfhjfaa
open Go.RowKit
set_option linter.unusedVariables false

theorem getE_zero {ys : List Int} (h : getE ys = 0) : ys.length ≠ 0 ∧ 0 < mm (nth ys 0) ∧ (ys.length : Int) = szOf ys ∧ rdOk ys = true ∧ chkQ (rdQ ys) = 0 := by
  unfold getE at h
  split at h
  · cases h
  split at h
  · cases h
  split at h
  · cases h
  split at h
  · cases h
  split at h
  · cases h
  rename_i h1 h2 h3 h4 h5
  exact ⟨h1, by omega, by omega, by simpa using h5, h⟩

set_option maxHeartbeats 1000000 in
theorem pdu_only (ys : List Int) (hw : ∀ x ∈ ys, (Lit.int .u8 x).wf = true) (h : getE ys = 0) : pduQ (rdQ ys) = ys := by
  obtain ⟨h0, hm, hs, hr, hk⟩ := getE_zero h
  have hb : ∀ i, i < ys.length → 0 ≤ nth ys i ∧ nth ys i < 256 := fun i hi => wf_u8 (hw _ (nth_mem ys i hi))
  have five : nth ys 0 ≠ 20 → nth ys 0 ≠ 15 → nth ys 0 ≠ 16 → ys.length = 5 := by
    intro a b c
    unfold szOf at hs
    rw [if_neg (by omega), if_neg a] at hs
    omega
  rcases mm_pos hm with hc | hc | hc | hc | hc | hc | hc | hc | hc
  iterate 4
    · obtain ⟨x0, x1, x2, x3, x4, rfl⟩ := five_of (five (by omega) (by omega) (by omega))
      rw [nth_zero] at hc
      have b1 := hb 1 (by simp)
      have b2 := hb 2 (by simp)
      have b3 := hb 3 (by simp)
      have b4 := hb 4 (by simp)
      simp only [nth_succ, nth_zero] at b1 b2 b3 b4
      have e : rdQ [x0, x1, x2, x3, x4] = ⟨x0, x1 * 256 + x2, x3 * 256 + x4, [], [], []⟩ := by
        unfold rdQ
        rw [if_neg (by rw [nth_zero]; omega), if_neg (by rw [nth_zero]; omega), if_neg (by rw [nth_zero]; omega), if_neg (by rw [nth_zero]; omega), if_neg (by rw [nth_zero]; omega)]
        rfl
      rw [e]
      show x0 :: tl x0 (x1 * 256 + x2) (x3 * 256 + x4) [] [] [] ([] : List Bool).length ([] : List Int).length (([] : List Int).length / 3) = _
      unfold tl
      rw [if_neg (by omega), if_neg (by omega), if_neg (by omega), if_neg (by omega), if_neg (by omega), wbytes_one _ _ (by omega), wbytes_one _ _ (by omega)]
      congr 1
      congr 1
      · omega
      · congr 1
        · omega
        · congr 1
          · omega
          · congr 1
            omega
  · -- 5
    obtain ⟨x0, x1, x2, x3, x4, rfl⟩ := five_of (five (by omega) (by omega) (by omega))
    rw [nth_zero] at hc
    subst hc
    have b1 := hb 1 (by simp)
    have b2 := hb 2 (by simp)
    have b3 := hb 3 (by simp)
    have b4 := hb 4 (by simp)
    simp only [nth_succ, nth_zero] at b1 b2 b3 b4
    have ea : at2 [5, x1, x2, x3, x4] 3 = x3 * 256 + x4 := rfl
    unfold rdOk at hr
    rw [if_neg (by rw [nth_zero]; omega), if_pos (nth_zero _ _), ea, decide_eq_true_eq] at hr
    have e : rdQ [5, x1, x2, x3, x4] = ⟨5, x1 * 256 + x2, 0, coilL (x3 * 256 + x4), [], []⟩ := by
      unfold rdQ
      rw [if_neg (by rw [nth_zero]; omega), if_pos (nth_zero _ _)]
      rfl
    rw [e]
    have e2 : ∀ on : List Bool, pduQ ⟨5, x1 * 256 + x2, 0, on, [], []⟩ = 5 :: wbytes [x1 * 256 + x2, if L.nth on 0 = true then 65280 else 0] := fun _ => rfl
    rw [e2, wbytes_one _ _ (by omega), wbytes_one _ _ (by split <;> omega)]
    rcases hr with hr | hr
    · have e3 : (if L.nth (coilL (x3 * 256 + x4)) 0 = true then (65280 : Int) else 0) = 65280 := by rw [hr]; rfl
      rw [e3]
      congr 1
      congr 1
      · omega
      · congr 1
        · omega
        · congr 1
          · omega
          · congr 1
            omega
    · have e3 : (if L.nth (coilL (x3 * 256 + x4)) 0 = true then (65280 : Int) else 0) = 0 := by rw [hr]; rfl
      rw [e3]
      congr 1
      congr 1
      · omega
      · congr 1
        · omega
        · congr 1
          · omega
          · congr 1
            omega
  · -- 6
    obtain ⟨x0, x1, x2, x3, x4, rfl⟩ := five_of (five (by omega) (by omega) (by omega))
    rw [nth_zero] at hc
    subst hc
    have b1 := hb 1 (by simp)
    have b2 := hb 2 (by simp)
    have b3 := hb 3 (by simp)
    have b4 := hb 4 (by simp)
    simp only [nth_succ, nth_zero] at b1 b2 b3 b4
    have e : rdQ [6, x1, x2, x3, x4] = ⟨6, x1 * 256 + x2, 0, [], [x3 * 256 + x4], []⟩ := by
      unfold rdQ
      rw [if_neg (by rw [nth_zero]; omega), if_neg (by rw [nth_zero]; omega), if_pos (nth_zero _ _)]
      rfl
    rw [e]
    have e2 : ∀ x : Int, pduQ ⟨6, x1 * 256 + x2, 0, [], [x], []⟩ = 6 :: wbytes [x1 * 256 + x2, x] := fun _ => rfl
    rw [e2, wbytes_one _ _ (by omega), wbytes_one _ _ (by omega)]
    congr 1
    congr 1
    · omega
    · congr 1
      · omega
      · congr 1
        · omega
        · congr 1
          omega
  · -- 15
    have hlen : 6 ≤ ys.length := by
      unfold szOf at hs
      rw [if_pos (.inl hc)] at hs
      split at hs <;> omega
    obtain ⟨x0, x1, x2, x3, x4, x5, t, rfl⟩ := six_of hlen
    rw [nth_zero] at hc
    subst hc
    have b1 := hb 1 (by simp)
    have b2 := hb 2 (by simp)
    have b3 := hb 3 (by simp)
    have b4 := hb 4 (by simp)
    have b5 := hb 5 (by simp)
    simp only [nth_succ, nth_zero] at b1 b2 b3 b4 b5
    have ht : (t.length : Int) = x5 := by
      unfold szOf at hs
      rw [if_pos (.inl (nth_zero _ _)), if_neg (by simp)] at hs
      simp only [nth_succ, nth_zero, List.length_cons] at hs
      omega
    have hwt : ∀ x ∈ t, (Lit.int .u8 x).wf = true := fun x hx => hw x (by simp [hx])
    obtain ⟨n, hn⟩ : ∃ n : Nat, x3 * 256 + x4 = n := ⟨(x3 * 256 + x4).toNat, by omega⟩
    have ea : at2 (15 :: x1 :: x2 :: x3 :: x4 :: x5 :: t) 3 = n := hn
    have e : rdQ (15 :: x1 :: x2 :: x3 :: x4 :: x5 :: t) = ⟨15, x1 * 256 + x2, 0, unpk t n, [], []⟩ := by
      unfold rdQ
      rw [if_neg (by rw [nth_zero]; omega), if_neg (by rw [nth_zero]; omega), if_neg (by rw [nth_zero]; omega), if_pos (nth_zero _ _), ea, Int.toNat_natCast]
      rfl
    unfold rdOk at hr
    rw [if_neg (by rw [nth_zero]; omega), if_neg (by rw [nth_zero]; omega), if_pos (nth_zero _ _), ea, Int.toNat_natCast] at hr
    have hr : bitsOk t n = true := hr
    simp only [bitsOk, Bool.and_eq_true, decide_eq_true_eq, Bool.not_eq_true'] at hr
    have hsp : ¬ spare t n := fun h => by rw [(spareB_iff t n).2 h] at hr; cases hr.2
    rw [e]
    have e2 : pduQ ⟨15, x1 * 256 + x2, 0, unpk t n, [], []⟩ = 15 :: (wbytes [x1 * 256 + x2, ((unpk t n).length : Int)] ++ ((need (unpk t n).length : Nat) : Int) :: pk (unpk t n) (need (unpk t n).length)) := rfl
    rw [e2, unpk_length, pk_unpk t n hwt hr.1 hsp, wbytes_one _ _ (by omega), wbytes_one _ _ (by omega)]
    show 15 :: (x1 * 256 + x2) / 256 :: (x1 * 256 + x2) % 256 :: (n : Int) / 256 :: (n : Int) % 256 :: ((need n : Nat) : Int) :: t = _
    congr 1
    congr 1
    · omega
    · congr 1
      · omega
      · congr 1
        · omega
        · congr 1
          · omega
          · congr 1
            omega
  · -- 16
    have hlen : 6 ≤ ys.length := by
      unfold szOf at hs
      rw [if_pos (.inr hc)] at hs
      split at hs <;> omega
    obtain ⟨x0, x1, x2, x3, x4, x5, t, rfl⟩ := six_of hlen
    rw [nth_zero] at hc
    subst hc
    have b1 := hb 1 (by simp)
    have b2 := hb 2 (by simp)
    have b3 := hb 3 (by simp)
    have b4 := hb 4 (by simp)
    have b5 := hb 5 (by simp)
    simp only [nth_succ, nth_zero] at b1 b2 b3 b4 b5
    have ht : (t.length : Int) = x5 := by
      unfold szOf at hs
      rw [if_pos (.inr (nth_zero _ _)), if_neg (by simp)] at hs
      simp only [nth_succ, nth_zero, List.length_cons] at hs
      omega
    have hwt : ∀ x ∈ t, (Lit.int .u8 x).wf = true := fun x hx => hw x (by simp [hx])
    obtain ⟨n, hn⟩ : ∃ n : Nat, x3 * 256 + x4 = n := ⟨(x3 * 256 + x4).toNat, by omega⟩
    have ea : at2 (16 :: x1 :: x2 :: x3 :: x4 :: x5 :: t) 3 = n := hn
    have e : rdQ (16 :: x1 :: x2 :: x3 :: x4 :: x5 :: t) = ⟨16, x1 * 256 + x2, 0, [], wwords t, []⟩ := by
      unfold rdQ
      rw [if_neg (by rw [nth_zero]; omega), if_neg (by rw [nth_zero]; omega), if_neg (by rw [nth_zero]; omega), if_neg (by rw [nth_zero]; omega), if_pos (nth_zero _ _)]
      rfl
    unfold rdOk at hr
    rw [if_neg (by rw [nth_zero]; omega), if_neg (by rw [nth_zero]; omega), if_neg (by rw [nth_zero]; omega), if_pos (nth_zero _ _), ea, Int.toNat_natCast, decide_eq_true_eq] at hr
    have hr : t.length = 2 * n := hr
    rw [e]
    have e2 : pduQ ⟨16, x1 * 256 + x2, 0, [], wwords t, []⟩ = 16 :: (wbytes [x1 * 256 + x2, ((wwords t).length : Int)] ++ ((2 * (wwords t).length : Nat) : Int) :: wbytes (wwords t)) := rfl
    have hwl : (wwords t).length = n := by rw [wwords_length]; omega
    rw [e2, hwl, wbytes_wwords t hwt (by omega), wbytes_one _ _ (by omega), wbytes_one _ _ (by omega)]
    show 16 :: (x1 * 256 + x2) / 256 :: (x1 * 256 + x2) % 256 :: (n : Int) / 256 :: (n : Int) % 256 :: ((2 * n : Nat) : Int) :: t = _
    congr 1
    congr 1
    · omega
    · congr 1
      · omega
      · congr 1
        · omega
        · congr 1
          · omega
          · congr 1
            omega
  · -- 20
    have hlen : 2 ≤ ys.length := by
      unfold szOf at hs
      rw [if_neg (by omega), if_pos hc] at hs
      split at hs <;> omega
    obtain ⟨x0, x1, t, rfl⟩ := two_of hlen
    rw [nth_zero] at hc
    subst hc
    have ht : (t.length : Int) = x1 := by
      unfold szOf at hs
      rw [if_neg (by rw [nth_zero]; omega), if_pos (nth_zero _ _), if_neg (by simp)] at hs
      simp only [nth_succ, nth_zero, List.length_cons] at hs
      omega
    have hwt : ∀ x ∈ t, (Lit.int .u8 x).wf = true := fun x hx => hw x (by simp [hx])
    have e : rdQ (20 :: x1 :: t) = ⟨20, 0, 0, [], [], flOf t (t.length / 7)⟩ := by
      unfold rdQ
      rw [if_pos (nth_zero _ _)]
      rfl
    unfold rdOk at hr
    rw [if_pos (nth_zero _ _)] at hr
    have hr : partsOk t = true := hr
    simp only [partsOk, Bool.and_eq_true, decide_eq_true_eq] at hr
    have hl3 : (flOf t (t.length / 7)).length / 3 = t.length / 7 := by rw [flOf_length]; omega
    rw [e]
    have e2 : ∀ m, (flOf t (t.length / 7)).length / 3 = m → pduQ ⟨20, 0, 0, [], [], flOf t (t.length / 7)⟩ = 20 :: ((7 * m : Nat) : Int) :: pbytes (flOf t (t.length / 7)) m := fun m hm => by subst hm; rfl
    rw [e2 _ hl3, pbytes_flOf t hwt _ (by omega) hr.2]
    congr 2
    omega

theorem szOf_take {ys : List Int} (hs : (ys.length : Int) = szOf ys) {k : Nat} (h1 : 1 ≤ k) (h2 : k < ys.length) : (k : Int) < szOf (ys.take k) := by
  have hl : (ys.take k).length = k := by simp; omega
  have h0 := nth_pre ys k 0 (by omega)
  unfold szOf at hs ⊢
  rw [h0, hl]
  split
  · rename_i hc
    rw [if_pos hc] at hs
    split
    · omega
    · rw [if_neg (by omega)] at hs
      rw [nth_pre ys k 5 (by omega)]
      omega
  · rename_i hc
    rw [if_neg hc] at hs
    split
    · rename_i h20
      rw [if_pos h20] at hs
      split
      · omega
      · rw [if_neg (by omega)] at hs
        rw [nth_pre ys k 1 (by omega)]
        omega
    · rename_i h20
      rw [if_neg h20] at hs
      omega
/-- A beginning of a PDU is too short. -/
theorem getE_take {ys : List Int} (h : getE ys = 0) (k : Nat) (hk : k < ys.length) : getE (ys.take k) = 1 := by
  obtain ⟨h0, hm, hs, hr, hc⟩ := getE_zero h
  have hl : (ys.take k).length = k := by simp; omega
  unfold getE
  rw [hl]
  split
  · rfl
  · rename_i hk0
    rw [nth_pre ys k 0 (by omega), if_neg (by omega), if_pos (szOf_take hs (by omega) hk)]
/-- A PDU with more bytes behind it is too long. -/
theorem getE_more {ys : List Int} (h : getE ys = 0) (more : List Int) (hm0 : 0 < more.length) : getE (ys ++ more) = 2 := by
  obtain ⟨h0, hm, hs, hr, hc⟩ := getE_zero h
  have hl : (ys ++ more).length = ys.length + more.length := List.length_append
  have n0 : nth (ys ++ more) 0 = nth ys 0 := nth_left _ _ _ (by omega)
  have hsz : szOf (ys ++ more) = szOf ys := by
    unfold szOf at hs ⊢
    rw [n0, hl]
    split
    · rename_i hc
      rw [if_pos hc] at hs
      split at hs
      · omega
      · rw [if_neg (by omega), if_neg (by omega), nth_left _ _ _ (by omega)]
    · rename_i hc
      rw [if_neg hc] at hs
      split
      · rename_i h20
        rw [if_pos h20] at hs
        split at hs
        · omega
        · rw [if_neg (by omega), if_neg (by omega), nth_left _ _ _ (by omega)]
      · rfl
  unfold getE
  rw [hl, n0, hsz, if_neg (by omega), if_neg (by omega), if_neg (by omega), if_pos (by omega)]
end Go.Proofs.Ytcmbdhmhkfhjfaa
namespace Go.Proofs.Ytcmbdhmhkfhjfaa
open Go.RowKit
set_option linter.unusedVariables false

/-- What Put tells: the PDU. -/
def putL (q : Req) : List Int := if chkQ q = 0 then pduQ q else []
theorem chkQ_of {w : World} {B : Nat} {q : Req} {Ao As Ap : Option Addr} {lo ls lp : Nat} (h : Asked w B q Ao As Ap lo ls lp) : chk q.c q.a q.n lo ls lp q.fl = chkQ q := by
  rw [chkQ, h.lo, h.ls, h.lp, Nat.mul_div_cancel_left lp (by omega)]
theorem pduQ_of {w : World} {B : Nat} {q : Req} {Ao As Ap : Option Addr} {lo ls lp : Nat} (h : Asked w B q Ao As Ap lo ls lp) : pduOf q lo ls lp = pduQ q := by
  rw [pduQ, h.lo, h.ls, h.lp, Nat.mul_div_cancel_left lp (by omega)]
theorem right_lengths {q : Req} (hk : chkQ q = 0) : (q.on.length ≤ 1968 ∧ q.set.length ≤ 123) ∧ q.fl.length / 3 ≤ 35 := right_many hk
theorem putL_len (q : Req) (hset : ∀ x ∈ q.set, (Lit.int .u16 x).wf = true) (h3 : q.fl.length % 3 = 0) : (putL q).length ≤ 253 := by
  unfold putL
  split
  · rename_i hk; exact (pdu_back q hset h3 hk).2.2.2
  · simp
theorem putL_wf (q : Req) : ∀ x ∈ putL q, (Lit.int .u8 x).wf = true := by
  unfold putL
  split
  · rename_i hk
    have h2 := right_lengths hk
    have hc := mm_pos (chk_zero hk).1
    intro x hx
    rw [pduQ, pduOf] at hx
    rcases List.mem_cons.1 hx with rfl | hx
    · have := wf_byte q.c.toNat (by omega)
      rwa [show ((q.c.toNat : Nat) : Int) = q.c by omega] at this
    · exact tl_wf (by unfold need; omega) x hx
  · intro x hx; cases hx
/-- Check, of any request. -/
theorem Check_Q (q : Req) (Ao As Ap : Option Addr) (lo ls lp co cs cp : Nat) (w : World) (h : Asked w w.heap.size q Ao As Ap lo ls lp) :
    Calls Try.prog 17 #[.agg #[.int .i64 q.c, .int .i64 q.a, .int .i64 q.n, .slice Ao lo co, .slice As ls cs, .slice Ap lp cp]] w fun e w' => e = .returned (.int .i64 (chkQ q)) ∧ Below w.heap.size w w' := by
  have h2 := Check_any q Ao As Ap lo ls lp co cs cp w h
  rwa [chkQ_of h] at h2

def ex3 : Req := ⟨3, 107, 3, [], [], []⟩
def ex3L : List Int := [3, 0, 107, 0, 3]
theorem ex3_put : putL ex3 = ex3L := by decide
theorem ex3_chk : chkQ ex3 = 0 := by decide
theorem ex3_getE : getE ex3L = 0 := by decide
theorem ex3_getQ : getQ ex3L = ex3 := by
  unfold getQ
  rw [if_pos ex3_getE]
  rfl
theorem ex3_wf : ∀ x ∈ ex3L, (Lit.int .u8 x).wf = true := by decide
theorem Asked.of_nil (w : World) (B : Nat) (c a n : Int) : Asked w B ⟨c, a, n, [], [], []⟩ none none none 0 0 0 := ⟨L.Row.nil _ _ _ _, Row.nil _ _ _ _, Row.nil _ _ _ _, rfl, rfl, rfl⟩
/-- A request of the call's own, told with a number, reads as its lists. -/
theorem Told.view {w w' : World} {q : Req} {err : Int} {e : Ending} (h : Told w q err e w') (hw : (∀ x ∈ q.set, (Lit.int .u16 x).wf = true) ∧ ∀ x ∈ q.fl, (Lit.int .i64 x).wf = true) :
    ∃ (A1 A2 A3 : Option Addr) (m1 m2 n3 c3 : Nat), e = .returned (.tuple #[.agg #[.int .i64 q.c, .int .i64 q.a, .int .i64 q.n, .slice A1 m1 m1, .slice A2 m2 m2, .slice A3 n3 c3], .int .i64 err]) ∧ Asked w' w'.heap.size q A1 A2 A3 m1 m2 n3 ∧ Below w.heap.size w w' := by
  obtain ⟨A1, A2, m1, m2, g1, g2, vp, he, h1, h2, h3, hl, hg, hb⟩ := h
  obtain ⟨A3, n3, c3, rfl⟩ := h3.form
  exact ⟨A1, A2, A3, m1, m2, n3, c3, he, Told.asked h1 h2 h3 hl hw, hb⟩
/-- Get of what is refused, or of what is right, holds what it may. -/
theorem getQ_wf (ys : List Int) (hw : ∀ x ∈ ys, (Lit.int .u8 x).wf = true) : (∀ x ∈ (getQ ys).set, (Lit.int .u16 x).wf = true) ∧ ∀ x ∈ (getQ ys).fl, (Lit.int .i64 x).wf = true := by
  unfold getQ
  split
  · rename_i h
    obtain ⟨h0, hm, hs, hr, hk⟩ := getE_zero h
    exact rdQ_wf ys hw (szOf_five ys hw hs)
  · exact ⟨by simp [Req.zero], by simp [Req.zero]⟩
end Go.Proofs.Ytcmbdhmhkfhjfaa
namespace Go.Proofs.Ytcmbdhmhkfhjfaa
open Go.RowKit
set_option linter.unusedVariables false

theorem grown_of_alloc {w w' : World} {o : Obj} {row : Option Nat} (h : (w.alloc o).grownBy w' row) : w.grownBy w' row :=
  ⟨h.os, h.tape, h.output, by have := h.size; simp at this; omega, fun k hk hne => (h.block k (by simp; omega) hne).trans (heap_alloc_old w o hk)⟩
theorem shl_pow (r : Nat) (h : r < 8) : (2 : Nat) ^ r < 256 := Nat.lt_of_le_of_lt (Nat.pow_le_pow_right (n := 2) (by omega) (show r ≤ 7 by omega)) (by omega)
end Go.Proofs.Ytcmbdhmhkfhjfaa
namespace Go.Proofs.Ytcmbdhmhkfhjfaa
open Go.RowKit
set_option linter.unusedVariables false
theorem wbytes_cons (a : Int) (l : List Int) : wbytes (a :: l) = wbytes [a] ++ wbytes l := by simp [wbytes]
theorem Bx.old {w0 w : World} {g : Nat} {o : Obj} (h : Bx w0 g o w) {b i : Nat} {v : Value} (hb : b < g) (hc : w0.cell? ⟨b, i, none⟩ = some v) : w.cell? ⟨b, i, none⟩ = some v := (h.2.cell (p := ⟨b, i, none⟩) hb).trans hc

end Go.Proofs.Ytcmbdhmhkfhjfaa
namespace Go.Proofs.Ytcmbdhmhkfhjfaa
open Go.RowKit
set_option linter.unusedVariables false

end Go.Proofs.Ytcmbdhmhkfhjfaa
namespace Go.Proofs.Ytcmbdhmhkfhjfaa
open Go.RowKit
set_option linter.unusedVariables false
/-- Where a part lies, in whatever world a box above it is kept. -/
theorem Bx.parts {w0 w : World} {g : Nat} {t : TypeId} {v0 v1 v2 v3 v4 v5 p0 p1 p2 : Value} {b i : Nat} (h : Bx w0 g (.cells #[v0, v1, v2, v3, v4, v5] t (0, 0)) w) (hb : b < g) (h0 : w0.cell? ⟨b, i, none⟩ = some p0) (h1 : w0.cell? ⟨b, i + 1, none⟩ = some p1) (h2 : w0.cell? ⟨b, i + 2, none⟩ = some p2) :
    w.cell? ⟨b, i, none⟩ = some p0 ∧ w.cell? ⟨b, i + 1, none⟩ = some p1 ∧ w.cell? ⟨b, i + 2, none⟩ = some p2 ∧ w.cell? ⟨g, 0, none⟩ = some v0 ∧ w.cell? ⟨g, 1, none⟩ = some v1 ∧ w.cell? ⟨g, 2, none⟩ = some v2 ∧ w.cell? ⟨g, 3, none⟩ = some v3 ∧ w.cell? ⟨g, 4, none⟩ = some v4 ∧ w.cell? ⟨g, 5, none⟩ = some v5 :=
  ⟨h.old hb h0, h.old hb h1, h.old hb h2, h.six⟩

/-- Does a request write? -/
def wrB (c : Int) : Bool := decide (c = 5 ∨ c = 6 ∨ c = 15 ∨ c = 16)
end Go.Proofs.Ytcmbdhmhkfhjfaa
namespace Go.Proofs.Ytcmbdhmhkfhjfaa
open Go.RowKit
set_option linter.unusedVariables false
/-- How long a PDU is that begins so, or -1: that can't be told yet. -/
def lenR (ys : List Int) : Int := if (nth ys 0 = 15 ∨ nth ys 0 = 16) ∧ ys.length < 6 then -1 else if nth ys 0 = 20 ∧ ys.length < 2 then -1 else szOf ys
end Go.Proofs.Ytcmbdhmhkfhjfaa
namespace Go.Proofs.Ytcmbdhmhkfhjfaa
open Go.RowKit
set_option linter.unusedVariables false

/-- The box of the result and the box of the request under way; what lies below is as it was. -/
structure TB (w0 : World) (B : Nat) (o1 o2 : Obj) (w : World) : Prop where
  ret : w.heap[B]? = some o1
  box : w.heap[B + 1]? = some o2
  bel : Below B w0 w
theorem TB.lt {w0 w : World} {B : Nat} {o1 o2 : Obj} (h : TB w0 B o1 o2 w) : B + 1 < w.heap.size := block_lt h.box
theorem TB.below {w0 w w' : World} {B : Nat} {o1 o2 : Obj} (h : TB w0 B o1 o2 w) (hb : Below w.heap.size w w') : TB w0 B o1 o2 w' := by
  have h1 := h.lt
  exact ⟨(hb.block B (by omega)).trans h.ret, (hb.block (B + 1) (by omega)).trans h.box, h.bel.trans (hb.mono (by omega))⟩
theorem TB.grown {w0 w w' : World} {B : Nat} {o1 o2 : Obj} {row : Option Nat} (h : TB w0 B o1 o2 w) (hg : w.grownBy w' row) (hr : ∀ g, row = some g → B + 2 ≤ g) : TB w0 B o1 o2 w' := by
  have h1 := h.lt
  have hn : ∀ k, k < B + 2 → some k ≠ row := fun k hk e => by have := hr k e.symm; omega
  refine ⟨(hg.block B (by omega) (hn _ (by omega))).trans h.ret, (hg.block (B + 1) (by omega) (hn _ (by omega))).trans h.box, ?_⟩
  exact ⟨hg.os.trans h.bel.os, hg.tape.trans h.bel.tape, hg.output.trans h.bel.output, by have := h.bel.size; have := hg.size; omega, fun k hk => (hg.block k (by omega) (hn _ (by omega))).trans (h.bel.block k hk)⟩
theorem TB.new (w : World) (c1 c2 : Array Value) (t : TypeId) : TB w w.heap.size (.cells c1 t (0, 0)) (.cells c2 t (0, 0)) ((w.alloc (.cells c1 t)).alloc (.cells c2 t)) :=
  ⟨(heap_alloc_old _ _ (by simp)).trans (heap_alloc_new w _), heap_new_at _ _ (by simp), (bel_alloc w _).alloc (by simp) _⟩
theorem TB.set {w0 w : World} {B : Nat} {o1 : Obj} {cs : Array Value} {t : TypeId} (h : TB w0 B o1 (.cells cs t (0, 0)) w) (i : Nat) (v : Value) : TB w0 B o1 (.cells (cs.setIfInBounds i v) t (0, 0)) (w.setCell ⟨B + 1, i, none⟩ v) :=
  ⟨(Below.heap_setCell w ⟨B + 1, i, none⟩ v B (by simp)).trans h.ret, box_set h.box i v, below_setCell h.bel (Nat.le_succ _) i v⟩
theorem L.Own.laid {k : Unit} {t : TypeId} {w : World} {base g : Nat} {l : List Bool} {n : Nat} (hg : w.heap[g]? = some (.cells (L.blk k l) t (0, 0))) (hb : base ≤ g) (hl : l.length = n) (hm : n ≤ maxLen) : L.Own k t w base (.slice (some ⟨g, 0, none⟩) n n) l := by
  subst hl
  exact ⟨by simp, .inr ⟨g, _, _, rfl, hb, hg, Nat.le_refl _, hm, by simp [L.blk], by rw [Nat.mul_one, List.take_of_length_le (by simp [L.blk])]; simp [L.blk]⟩⟩
theorem TB.c6 {w0 w : World} {B : Nat} {o1 : Obj} {t : TypeId} {v0 v1 v2 v3 v4 v5 : Value} (h : TB w0 B o1 (.cells #[v0, v1, v2, v3, v4, v5] t (0, 0)) w) :
    w.cell? ⟨B + 1, 0, none⟩ = some v0 ∧ w.cell? ⟨B + 1, 1, none⟩ = some v1 ∧ w.cell? ⟨B + 1, 2, none⟩ = some v2 ∧ w.cell? ⟨B + 1, 3, none⟩ = some v3 ∧ w.cell? ⟨B + 1, 4, none⟩ = some v4 ∧ w.cell? ⟨B + 1, 5, none⟩ = some v5 ∧ ∀ i, w.frozen? ⟨B + 1, i, none⟩ = false := by
  obtain ⟨⟨a, b, c⟩, ⟨d, e, f⟩, g⟩ := cells6 h.box
  exact ⟨a, b, c, d, e, f, g⟩
theorem TB.r6 {w0 w : World} {B : Nat} {o2 : Obj} {t : TypeId} {v0 v1 v2 v3 v4 v5 : Value} (h : TB w0 B (.cells #[v0, v1, v2, v3, v4, v5] t (0, 0)) o2 w) :
    w.cell? ⟨B, 0, none⟩ = some v0 ∧ w.cell? ⟨B, 1, none⟩ = some v1 ∧ w.cell? ⟨B, 2, none⟩ = some v2 ∧ w.cell? ⟨B, 3, none⟩ = some v3 ∧ w.cell? ⟨B, 4, none⟩ = some v4 ∧ w.cell? ⟨B, 5, none⟩ = some v5 ∧ ∀ i, w.frozen? ⟨B, i, none⟩ = false := by
  obtain ⟨⟨a, b, c⟩, ⟨d, e, f⟩, g⟩ := cells6 h.ret
  exact ⟨a, b, c, d, e, f, g⟩
theorem TB.put {w0 w : World} {B : Nat} {o2 : Obj} {t : TypeId} {u0 u1 u2 u3 u4 u5 : Value} (h : TB w0 B (.cells #[u0, u1, u2, u3, u4, u5] t (0, 0)) o2 w) (v0 v1 v2 v3 v4 v5 : Value) :
    (put6 w B v0 v1 v2 v3 v4 v5).heap[B]? = some (.cells #[v0, v1, v2, v3, v4, v5] t (0, 0)) ∧ Below B w0 (put6 w B v0 v1 v2 v3 v4 v5) :=
  ⟨put6_heap h.ret v0 v1 v2 v3 v4 v5, below_put6 h.bel (Nat.le_refl _) v0 v1 v2 v3 v4 v5⟩

theorem TB.drew {w0 w : World} {B : Nat} {o1 o2 : Obj} (h : TB w0 B o1 o2 w) : TB w0 B o1 o2 w.drew := h.below ⟨rfl, rfl, rfl, Nat.le_refl _, fun _ _ => rfl⟩
theorem TB.alloc {w0 w : World} {B : Nat} {o1 o2 : Obj} (h : TB w0 B o1 o2 w) (o : Obj) : TB w0 B o1 o2 (w.alloc o) := h.below (bel_alloc w o)
theorem TB.all {w0 w : World} {B : Nat} {o1 : Obj} {t : TypeId} {v0 v1 v2 v3 v4 v5 u : Value} {b i : Nat} (h : TB w0 B o1 (.cells #[v0, v1, v2, v3, v4, v5] t (0, 0)) w) (hb : b < B) (hc : w0.cell? ⟨b, i, none⟩ = some u) :
    w.cell? ⟨b, i, none⟩ = some u ∧ w.cell? ⟨B + 1, 0, none⟩ = some v0 ∧ w.cell? ⟨B + 1, 1, none⟩ = some v1 ∧ w.cell? ⟨B + 1, 2, none⟩ = some v2 ∧ w.cell? ⟨B + 1, 3, none⟩ = some v3 ∧ w.cell? ⟨B + 1, 4, none⟩ = some v4 ∧ w.cell? ⟨B + 1, 5, none⟩ = some v5 ∧ ∀ i, w.frozen? ⟨B + 1, i, none⟩ = false :=
  ⟨(h.bel.cell (p := ⟨b, i, none⟩) hb).trans hc, h.c6⟩

theorem TB.set3 {w0 w : World} {B : Nat} {o1 : Obj} {t : TypeId} {v0 v1 v2 v3 v4 v5 : Value} (h : TB w0 B o1 (.cells #[v0, v1, v2, v3, v4, v5] t (0, 0)) w) (u : Value) : TB w0 B o1 (.cells #[v0, v1, v2, u, v4, v5] t (0, 0)) (w.setCell ⟨B + 1, 3, none⟩ u) := h.set 3 u
theorem TB.set4 {w0 w : World} {B : Nat} {o1 : Obj} {t : TypeId} {v0 v1 v2 v3 v4 v5 : Value} (h : TB w0 B o1 (.cells #[v0, v1, v2, v3, v4, v5] t (0, 0)) w) (u : Value) : TB w0 B o1 (.cells #[v0, v1, v2, v3, u, v5] t (0, 0)) (w.setCell ⟨B + 1, 4, none⟩ u) := h.set 4 u
theorem TB.set5 {w0 w : World} {B : Nat} {o1 : Obj} {t : TypeId} {v0 v1 v2 v3 v4 v5 : Value} (h : TB w0 B o1 (.cells #[v0, v1, v2, v3, v4, v5] t (0, 0)) w) (u : Value) : TB w0 B o1 (.cells #[v0, v1, v2, v3, v4, u] t (0, 0)) (w.setCell ⟨B + 1, 5, none⟩ u) := h.set 5 u
theorem TB.st {w0 w : World} {B : Nat} {o1 : Obj} {t : TypeId} {v0 v1 v2 v3 v4 v5 u : Value} {b i : Nat} (h : TB w0 B o1 (.cells #[v0, v1, v2, v3, v4, v5] t (0, 0)) w) (hb : b < B) (hc : w0.cell? ⟨b, i, none⟩ = some u) :
    w.cell? ⟨b, i, none⟩ = some u ∧ ∀ i, w.frozen? ⟨B + 1, i, none⟩ = false :=
  ⟨(h.bel.cell (p := ⟨b, i, none⟩) hb).trans hc, h.c6.2.2.2.2.2.2⟩

/-- Whatever lies at A lies in a block from B on. -/
def Fresh (B : Nat) (A : Option Addr) : Prop := ∀ b o f, A = some ⟨b, o, f⟩ → B ≤ b
theorem Fresh.nil (B : Nat) : Fresh B none := fun _ _ _ h => by cases h
theorem Fresh.at {B g o : Nat} {f : Option Nat} (h : B ≤ g) : Fresh B (some ⟨g, o, f⟩) := fun b o f e => by injection e with e; injection e with e1; omega
theorem Fresh.own {k : IntKind} {e : TypeId} {w : World} {base n c B : Nat} {A : Option Addr} {xs : List Int} (h : Own k e w base (.slice A n c) xs) (hB : B ≤ base) : Fresh B A := by
  rcases h.2 with ⟨h, _⟩ | ⟨g, cap, cur, h, hb, _⟩
  · injection h with h; subst h; exact Fresh.nil _
  · injection h with h; subst h; exact Fresh.at (Nat.le_trans hB hb)
theorem Fresh.ownL {k : Unit} {e : TypeId} {w : World} {base n c B : Nat} {A : Option Addr} {xs : List Bool} (h : L.Own k e w base (.slice A n c) xs) (hB : B ≤ base) : Fresh B A := by
  rcases h.2 with ⟨h, _⟩ | ⟨g, cap, cur, h, hb, _⟩
  · injection h with h; subst h; exact Fresh.nil _
  · injection h with h; subst h; exact Fresh.at (Nat.le_trans hB hb)
theorem Fresh.ownP {e : TypeId} {w : World} {base n c B : Nat} {A : Option Addr} {fl : List Int} (h : POwn e w base (.slice A n c) fl) (hB : B ≤ base) : Fresh B A := by
  rcases h with ⟨h, _⟩ | ⟨g, n, cap, r, h, hb, _⟩
  · injection h with h; subst h; exact Fresh.nil _
  · injection h with h; subst h; exact Fresh.at (Nat.le_trans hB hb)

/-- What said tells: the request that the bytes say, or that they say none. -/
def RSaid (w : World) (ys : List Int) (e : Ending) (w' : World) : Prop :=
  ∃ (q : Req) (A1 A2 A3 : Option Addr) (m1 m2 m3 c1 c2 c3 : Nat) (ok : Bool), e = .returned (.tuple #[.agg #[.int .i64 q.c, .int .i64 q.a, .int .i64 q.n, .slice A1 m1 c1, .slice A2 m2 c2, .slice A3 m3 c3], .bool ok]) ∧
    Asked w' w'.heap.size q A1 A2 A3 m1 m2 m3 ∧ Below w.heap.size w w' ∧ (Fresh w.heap.size A1 ∧ Fresh w.heap.size A2 ∧ Fresh w.heap.size A3) ∧ (ok = true ∧ rdOk ys = true ∧ q = rdQ ys ∨ ok = false ∧ rdOk ys = false)
theorem Row.tb {k : IntKind} {w0 w : World} {B : Nat} {o1 o2 : Obj} {A : Option Addr} {xs : List Int} (h : Row k w0 B A xs) (ht : TB w0 B o1 o2 w) : Row k w B A xs := h.below ht.bel

end Go.Proofs.Ytcmbdhmhkfhjfaa
namespace Go.Proofs.Ytcmbdhmhkfhjfaa
open Go.RowKit
set_option linter.unusedVariables false

/-- An answer: its number, its bits, its words, and its files. -/
structure Rep where
  x : Int
  on : List Bool
  set : List Int
  fs : List (List Int)
def Rep.zero : Rep := ⟨0, [], [], []⟩
def nthF (fs : List (List Int)) (i : Nat) : List Int := fs.getD i []
/-- A list of lists of words: each in a slice of its own. -/
def FRow (w : World) (B : Nat) (A : Option Addr) (fs : List (List Int)) : Prop :=
  0 < fs.length → ∃ b o, A = some ⟨b, o, none⟩ ∧ b < B ∧ ∀ i, i < fs.length → ∃ Ai ci, w.cell? ⟨b, o + i, none⟩ = some (.slice Ai (nthF fs i).length ci) ∧ Row .u16 w B Ai (nthF fs i) ∧ (nthF fs i).length ≤ ci
theorem FRow.nil (w : World) (B : Nat) (A : Option Addr) : FRow w B A [] := fun h => absurd h (by simp)
theorem FRow.below {w w' : World} {B : Nat} {A : Option Addr} {fs : List (List Int)} (h : FRow w B A fs) (hb : Below B w w') : FRow w' B A fs := fun h0 => by
  obtain ⟨b, o, hA, hB, hc⟩ := h h0
  refine ⟨b, o, hA, hB, fun i hi => ?_⟩
  obtain ⟨Ai, ci, h1, h2, h3⟩ := hc i hi
  exact ⟨Ai, ci, (hb.cell (p := ⟨b, o + i, none⟩) hB).trans h1, h2.below hb, h3⟩
theorem FRow.more {w : World} {B B' : Nat} {A : Option Addr} {fs : List (List Int)} (h : FRow w B A fs) (hB : B ≤ B') : FRow w B' A fs := fun h0 => by
  obtain ⟨b, o, hA, hb, hc⟩ := h h0
  refine ⟨b, o, hA, by omega, fun i hi => ?_⟩
  obtain ⟨Ai, ci, h1, h2, h3⟩ := hc i hi
  exact ⟨Ai, ci, h1, h2.more hB, h3⟩
/-- The three lists of an answer, where they lie and how long they are. -/
structure Repd (w : World) (B : Nat) (r : Rep) (Bo Bs Bf : Option Addr) (mo ms mf : Nat) : Prop where
  on : L.Row () w B Bo r.on
  set : Row .u16 w B Bs r.set
  fs : FRow w B Bf r.fs
  mo : r.on.length = mo
  ms : r.set.length = ms
  mf : r.fs.length = mf
theorem Repd.below {w w' : World} {B : Nat} {r : Rep} {Bo Bs Bf : Option Addr} {mo ms mf : Nat} (h : Repd w B r Bo Bs Bf mo ms mf) (hb : Below B w w') : Repd w' B r Bo Bs Bf mo ms mf :=
  ⟨h.on.below hb, h.set.below hb, h.fs.below hb, h.mo, h.ms, h.mf⟩
theorem Repd.more {w : World} {B B' : Nat} {r : Rep} {Bo Bs Bf : Option Addr} {mo ms mf : Nat} (h : Repd w B r Bo Bs Bf mo ms mf) (hB : B ≤ B') : Repd w B' r Bo Bs Bf mo ms mf :=
  ⟨h.on.more hB, h.set.more hB, h.fs.more hB, h.mo, h.ms, h.mf⟩
theorem Repd.up {w w' : World} {r : Rep} {Bo Bs Bf : Option Addr} {mo ms mf : Nat} (h : Repd w w.heap.size r Bo Bs Bf mo ms mf) (hb : Below w.heap.size w w') : Repd w' w'.heap.size r Bo Bs Bf mo ms mf :=
  (h.below hb).more hb.size
theorem Repd.zero (w : World) (B : Nat) (x : Int) : Repd w B ⟨x, [], [], []⟩ none none none 0 0 0 := ⟨L.Row.nil _ _ _ _, Row.nil _ _ _ _, FRow.nil _ _ _, rfl, rfl, rfl⟩

theorem TB.c4 {w0 w : World} {B : Nat} {o1 : Obj} {t : TypeId} {v0 v1 v2 v3 : Value} (h : TB w0 B o1 (.cells #[v0, v1, v2, v3] t (0, 0)) w) :
    w.cell? ⟨B + 1, 0, none⟩ = some v0 ∧ w.cell? ⟨B + 1, 1, none⟩ = some v1 ∧ w.cell? ⟨B + 1, 2, none⟩ = some v2 ∧ w.cell? ⟨B + 1, 3, none⟩ = some v3 ∧ ∀ i, w.frozen? ⟨B + 1, i, none⟩ = false :=
  ⟨cell_of_row w _ 0 _ _ _ h.box, cell_of_row w _ 1 _ _ _ h.box, cell_of_row w _ 2 _ _ _ h.box, cell_of_row w _ 3 _ _ _ h.box, fun i => block_frozen w _ i _ _ h.box⟩

theorem isExc_any (n : Int) (w : World) : Calls Try.prog 86 #[.int .i64 n] w fun e w' => e = .returned (.bool (decide (1 ≤ n ∧ n ≤ 127))) ∧ w' = w := by
  go_enter Try.func86, Try.ntmps86
  go_wp2
  all_goals (go_ret; refine ⟨?_, rfl⟩; first | rfl | (simp [*]; done) | (simp [*]; omega))

def anyB (mo ms mf : Nat) : Bool := decide (0 < mo) || decide (0 < ms) || decide (0 < mf)
theorem hasList_any (x : Int) (Bo Bs Bf : Option Addr) (mo ms mf eo es ef : Nat) (w : World) :
    Calls Try.prog 87 #[.agg #[.int .i64 x, .slice Bo mo eo, .slice Bs ms es, .slice Bf mf ef]] w fun e w' => e = .returned (.bool (anyB mo ms mf)) ∧ Below w.heap.size w w' := by
  have h : anyB mo ms mf = (decide (0 < (mo : Int)) || decide (0 < (ms : Int)) || decide (0 < (mf : Int))) := by simp [anyB]
  rw [h]
  clear h
  go_enter Try.func87, Try.ntmps87
  go_wp2
  all_goals (go_ret; refine ⟨?_, bel_alloc _ _⟩; first | rfl | (simp [*]; done) | (simp [*]; omega))

/-- Something stands in a list that an answer to the code does not have. -/
def strayB (c : Int) (mo ms mf : Nat) : Bool := anyB (if c = 1 ∨ c = 2 then 0 else mo) (if c = 3 ∨ c = 4 then 0 else ms) (if c = 20 then 0 else mf)
theorem rpStray_bits (c x : Int) (Bo Bs Bf : Option Addr) (mo ms mf eo es ef : Nat) (w : World) (hc : c = 1 ∨ c = 2) :
    Calls Try.prog 69 #[.int .i64 c, .agg #[.int .i64 x, .slice Bo mo eo, .slice Bs ms es, .slice Bf mf ef]] w fun e w' => e = .returned (.bool (strayB c mo ms mf)) ∧ Below w.heap.size w w' := by
  have HS : Hid (strayB c mo ms mf = anyB 0 ms mf) := Lib.hid (by rw [strayB, if_pos hc, if_neg (by omega), if_neg (by omega)])
  rw [HS.out]
  rcases hc with rfl | rfl
  all_goals
    go_enter Try.func69, Try.ntmps69
    go_wp2_with fail
    refine (hasList_any x none Bs Bf 0 ms mf 0 es ef _).mono ?_
    rintro e w1 ⟨rfl, b1⟩
    go_wp2
    go_ret
    exact ⟨rfl, (bel_alloc w _).trans (b1.mono (by simp))⟩
theorem rpStray_words (c x : Int) (Bo Bs Bf : Option Addr) (mo ms mf eo es ef : Nat) (w : World) (hc : c = 3 ∨ c = 4) :
    Calls Try.prog 69 #[.int .i64 c, .agg #[.int .i64 x, .slice Bo mo eo, .slice Bs ms es, .slice Bf mf ef]] w fun e w' => e = .returned (.bool (strayB c mo ms mf)) ∧ Below w.heap.size w w' := by
  have HS : Hid (strayB c mo ms mf = anyB mo 0 mf) := Lib.hid (by rw [strayB, if_neg (by omega), if_pos hc, if_neg (by omega)])
  rw [HS.out]
  rcases hc with rfl | rfl
  all_goals
    go_enter Try.func69, Try.ntmps69
    go_wp2_with fail
    refine (hasList_any x Bo none Bf mo 0 mf eo 0 ef _).mono ?_
    rintro e w1 ⟨rfl, b1⟩
    go_wp2
    go_ret
    exact ⟨rfl, (bel_alloc w _).trans (b1.mono (by simp))⟩
theorem rpStray_file (x : Int) (Bo Bs Bf : Option Addr) (mo ms mf eo es ef : Nat) (w : World) :
    Calls Try.prog 69 #[.int .i64 20, .agg #[.int .i64 x, .slice Bo mo eo, .slice Bs ms es, .slice Bf mf ef]] w fun e w' => e = .returned (.bool (strayB 20 mo ms mf)) ∧ Below w.heap.size w w' := by
  have HS : Hid (strayB 20 mo ms mf = anyB mo ms 0) := Lib.hid (by rw [strayB, if_neg (by omega), if_neg (by omega), if_pos rfl])
  rw [HS.out]
  go_enter Try.func69, Try.ntmps69
  go_wp2_with fail
  refine (hasList_any x Bo Bs none mo ms 0 eo es 0 _).mono ?_
  rintro e w1 ⟨rfl, b1⟩
  go_wp2
  go_ret
  exact ⟨rfl, (bel_alloc w _).trans (b1.mono (by simp))⟩
theorem rpStray_else (c x : Int) (Bo Bs Bf : Option Addr) (mo ms mf eo es ef : Nat) (w : World) (h1 : ¬ (c = 1 ∨ c = 2)) (h2 : ¬ (c = 3 ∨ c = 4)) (h3 : c ≠ 20) :
    Calls Try.prog 69 #[.int .i64 c, .agg #[.int .i64 x, .slice Bo mo eo, .slice Bs ms es, .slice Bf mf ef]] w fun e w' => e = .returned (.bool (strayB c mo ms mf)) ∧ Below w.heap.size w w' := by
  have HS : Hid (strayB c mo ms mf = anyB mo ms mf) := Lib.hid (by rw [strayB, if_neg h1, if_neg h2, if_neg h3])
  rw [HS.out]
  have b1 : (c == 1) = false := beq_false_of_ne (by omega)
  have b2 : (c == 2) = false := beq_false_of_ne (by omega)
  have b3 : (c == 3) = false := beq_false_of_ne (by omega)
  have b4 : (c == 4) = false := beq_false_of_ne (by omega)
  have b5 : (c == 20) = false := beq_false_of_ne h3
  clear h1 h2 h3
  go_enter Try.func69, Try.ntmps69
  go_wp2_with fail
  refine (hasList_any x Bo Bs Bf mo ms mf eo es ef _).mono ?_
  rintro e w1 ⟨rfl, b1⟩
  go_wp2
  go_ret
  exact ⟨rfl, (bel_alloc w _).trans (b1.mono (by simp))⟩
theorem rpStray_any (c x : Int) (Bo Bs Bf : Option Addr) (mo ms mf eo es ef : Nat) (w : World) :
    Calls Try.prog 69 #[.int .i64 c, .agg #[.int .i64 x, .slice Bo mo eo, .slice Bs ms es, .slice Bf mf ef]] w fun e w' => e = .returned (.bool (strayB c mo ms mf)) ∧ Below w.heap.size w w' := by
  by_cases h1 : c = 1 ∨ c = 2
  · exact rpStray_bits c x Bo Bs Bf mo ms mf eo es ef w h1
  · by_cases h2 : c = 3 ∨ c = 4
    · exact rpStray_words c x Bo Bs Bf mo ms mf eo es ef w h2
    · by_cases h3 : c = 20
      · subst h3; exact rpStray_file x Bo Bs Bf mo ms mf eo es ef w
      · exact rpStray_else c x Bo Bs Bf mo ms mf eo es ef w h1 h2 h3

theorem checkExc_any (x : Int) (Bo Bs Bf : Option Addr) (mo ms mf eo es ef : Nat) (w : World) :
    Calls Try.prog 68 #[.agg #[.int .i64 x, .slice Bo mo eo, .slice Bs ms es, .slice Bf mf ef]] w fun e w' => e = .returned (.int .i64 (if 1 ≤ x ∧ x ≤ 127 then (if anyB mo ms mf = true then 23 else 0) else 3)) ∧ Below w.heap.size w w' := by
  obtain ⟨u, hu⟩ : ∃ u, Hid (decide (1 ≤ x ∧ x ≤ 127) = u) := ⟨_, Lib.hid rfl⟩
  obtain ⟨v, hv⟩ : ∃ v, Hid (anyB mo ms mf = v) := ⟨_, Lib.hid rfl⟩
  obtain ⟨E, hE⟩ : ∃ E : Int, Hid ((if 1 ≤ x ∧ x ≤ 127 then (if anyB mo ms mf = true then 23 else 0) else 3) = E) := ⟨_, Lib.hid rfl⟩
  rw [hE.out]
  have bx := bel_alloc w (.cells #[.int .i64 x, .slice Bo mo eo, .slice Bs ms es, .slice Bf mf ef] 56)
  cases u with
  | false =>
    have h1 : Hid (E = 3) := Lib.hid (by rw [← hE.out, if_neg (of_decide_eq_false hu.out)])
    go_enter Try.func68, Try.ntmps68
    go_wp2_with fail
    refine (isExc_any x _).mono ?_
    rintro e w1 ⟨rfl, rfl⟩
    rw [hu.out]
    go_wp2
    go_ret
    exact ⟨by rw [h1.out]; rfl, bx⟩
  | true =>
    have h1 : Hid (E = if v = true then 23 else 0) := Lib.hid (by rw [← hE.out, if_pos (of_decide_eq_true hu.out), hv.out])
    cases v with
    | true =>
      go_enter Try.func68, Try.ntmps68
      go_wp2_with fail
      refine (isExc_any x _).mono ?_
      rintro e w1 ⟨rfl, rfl⟩
      rw [hu.out]
      go_wp2_with fail
      refine (hasList_any x Bo Bs Bf mo ms mf eo es ef _).mono ?_
      rintro e w1 ⟨rfl, b1⟩
      rw [hv.out]
      go_wp2
      go_ret
      exact ⟨by rw [h1.out]; rfl, bx.trans (b1.mono (by simp))⟩
    | false =>
      go_enter Try.func68, Try.ntmps68
      go_wp2_with fail
      refine (isExc_any x _).mono ?_
      rintro e w1 ⟨rfl, rfl⟩
      rw [hu.out]
      go_wp2_with fail
      refine (hasList_any x Bo Bs Bf mo ms mf eo es ef _).mono ?_
      rintro e w1 ⟨rfl, b1⟩
      rw [hv.out]
      go_wp2
      go_ret
      exact ⟨by rw [h1.out]; rfl, bx.trans (b1.mono (by simp))⟩
end Go.Proofs.Ytcmbdhmhkfhjfaa
namespace Go.Proofs.Ytcmbdhmhkfhjfaa
open Go.RowKit
set_option linter.unusedVariables false

/-- Is there a list for each part, of as many words? -/
def fitsB (fl : List Int) (fs : List (List Int)) : Bool := decide (fl.length = 3 * fs.length) && (List.range fs.length).all fun i => decide (((nthF fs i).length : Int) = nth fl (3 * i + 2))
theorem fitsB_len {fl : List Int} {fs : List (List Int)} (h : fl.length ≠ 3 * fs.length) : fitsB fl fs = false := by rw [fitsB, decide_eq_false h, Bool.false_and]
theorem fitsB_no {fl : List Int} {fs : List (List Int)} {i : Nat} (hi : i < fs.length) (h : ((nthF fs i).length : Int) ≠ nth fl (3 * i + 2)) : fitsB fl fs = false := by
  rw [fitsB, Bool.and_eq_false_iff]
  right
  rw [List.all_eq_false]
  exact ⟨i, List.mem_range.2 hi, by rw [decide_eq_false h]; simp⟩
theorem fitsB_yes {fl : List Int} {fs : List (List Int)} (hl : fl.length = 3 * fs.length) (h : ∀ i, i < fs.length → ((nthF fs i).length : Int) = nth fl (3 * i + 2)) : fitsB fl fs = true := by
  rw [fitsB, Bool.and_eq_true, decide_eq_true_eq, List.all_eq_true]
  exact ⟨hl, fun i hi => decide_eq_true (h i (List.mem_range.1 hi))⟩

set_option maxHeartbeats 1000000 in
theorem fitParts_any (Ap Bf : Option Addr) (lp cp mf ef : Nat) (fl : List Int) (fs : List (List Int)) (w : World) (hp : Row .i64 w w.heap.size Ap fl) (hl : fl.length = 3 * lp) (hf : FRow w w.heap.size Bf fs) (hm : fs.length = mf) (hb : lp ≤ 100000) :
    Calls Try.prog 88 #[.slice Ap lp cp, .slice Bf mf ef] w fun e w' => e = .returned (.bool (fitsB fl fs)) ∧ Below w.heap.size w w' := by
  obtain ⟨u, hu⟩ : ∃ u, Hid (fitsB fl fs = u) := ⟨_, Lib.hid rfl⟩
  rw [hu.out]
  have HL := Lib.hid hl
  have HM := Lib.hid hm
  have HP := Lib.hid hp
  have HF := Lib.hid hf
  clear hl hm hp hf
  by_cases hne : mf = lp
  · subst hne
    have t0 : ((mf : Int) != (mf : Int)) = false := by simp
    go_enter Try.func88, Try.ntmps88
    go_wp2
    go_loopw [5, 6, 14] (fun _ _ i wr => ∃ k : Nat, k ≤ mf ∧ i = .int .i64 k ∧ Hid (∀ j, j < k → ((nthF fs j).length : Int) = nth fl (3 * j + 2)) ∧ Below w.heap.size w wr) (fun _ _ i _ => mf - (intOf i).toNat)
    case atStart => exact ⟨0, by omega, rfl, Lib.hid (fun j h => by omega), Below.refl _ _⟩
    case round =>
      obtain ⟨k, hk, rfl, hs, bel⟩ := hrel
      by_cases hlt : k < mf
      · obtain ⟨b, o, rfl, hb1, hc1, hc2, hc3⟩ := (HP.out.below bel).three (k := k) (by have := HL.out; omega)
        obtain ⟨b2, o2, rfl, hb2, hcf⟩ := HF.out (by have := HM.out; omega)
        obtain ⟨Ai, ci, hci, _, _⟩ := hcf k (by have := HM.out; omega)
        have hci2 := (bel.cell (p := ⟨b2, o2 + k, none⟩) hb2).trans hci
        obtain ⟨p, hpp⟩ : ∃ p, Hid (nth fl (3 * k + 2) = p) := ⟨_, Lib.hid rfl⟩
        obtain ⟨q, hqq⟩ : ∃ q, Hid ((nthF fs k).length = q) := ⟨_, Lib.hid rfl⟩
        rw [hpp.out] at hc3
        rw [hqq.out] at hci2
        generalize nth fl (3 * k) = y0 at *
        generalize nth fl (3 * k + 1) = y1 at *
        clear hci hcf
        have hbelB : Below w.heap.size w (wr.alloc (.cells #[.int .i64 y0, .int .i64 y1, .int .i64 p] 83)) := bel.alloc bel.size _
        have hci3 : (wr.alloc (.cells #[.int .i64 y0, .int .i64 y1, .int .i64 p] 83)).cell? ⟨b2, o2 + k, none⟩ = some (.slice Ai q ci) := by
          have h1 := bel.size
          exact (World.cell?_alloc_some wr ⟨b2, o2 + k, none⟩ _ (by rw [hci2]; rfl)).trans hci2
        by_cases he : (q : Int) = p
        · have u1 : ((q : Int) != p) = false := by simp [he]
          have u2 : ((q : Int) == p) = true := by simp [he]
          have HE := Lib.hid he
          clear he
          go_wp2_with fail
          go_quiet (fail)
          have hb3 := below_drewN hbelB nq
          go_wp2
          go_roundw
          case rel => exact ⟨k + 1, by omega, by go_num, Lib.hid (fun j hj => by
            rcases Nat.lt_succ_iff_lt_or_eq.1 hj with h | h
            · exact hs.out j h
            · subst h; rw [hqq.out, hpp.out]; exact HE.out), hb3⟩
          case measure => simp [intOf]; omega
        · have u1 : ((q : Int) != p) = true := by simpa using he
          have u2 : ((q : Int) == p) = false := beq_false_of_ne he
          have HU : Hid (u = false) := Lib.hid (by rw [← hu.out]; exact fitsB_no (i := k) (by rw [HM.out]; exact hlt) (by rw [hqq.out, hpp.out]; exact he))
          clear he
          go_wp2_with fail
          go_quiet (fail)
          have hb3 := below_drewN hbelB nq
          go_wp2
          go_ret
          exact ⟨by rw [HU.out]; rfl, hb3⟩
      · obtain rfl : k = mf := by omega
        have HU : Hid (u = true) := Lib.hid (by rw [← hu.out]; exact fitsB_yes (by rw [HL.out, HM.out]) (fun i hi => hs.out i (by rw [← HM.out]; exact hi)))
        go_wp2
        go_ret
        exact ⟨by rw [HU.out]; rfl, bel⟩
  · have HU : Hid (u = false) := Lib.hid (by rw [← hu.out]; exact fitsB_len (by rw [HL.out, HM.out]; omega))
    have t0 : ((mf : Int) != (lp : Int)) = true := by simp; omega
    have t1 : ((mf : Int) == (lp : Int)) = false := beq_false_of_ne (by omega)
    clear hne
    go_enter Try.func88, Try.ntmps88
    go_wp2
    go_ret
    exact ⟨by rw [HU.out]; rfl, Below.refl _ _⟩

/-- Does the list that an answer has hold what was asked for? -/
def manyB (q : Req) (r : Rep) : Bool :=
  if q.c = 1 ∨ q.c = 2 then decide ((r.on.length : Int) = q.n) else if q.c = 3 ∨ q.c = 4 then decide ((r.set.length : Int) = q.n) else if q.c = 20 then fitsB q.fl r.fs else true

theorem TB.new2 (w : World) (c1 c2 : Array Value) (t u : TypeId) : TB w w.heap.size (.cells c1 t (0, 0)) (.cells c2 u (0, 0)) ((w.alloc (.cells c1 t)).alloc (.cells c2 u)) :=
  ⟨(heap_alloc_old _ _ (by simp)).trans (heap_alloc_new w _), heap_new_at _ _ (by simp), (bel_alloc w _).alloc (by simp) _⟩
set_option maxHeartbeats 1000000 in
theorem hasAsMany_any (q : Req) (r : Rep) (Ao As Ap Bo Bs Bf : Option Addr) (lo ls lp co cs cp mo ms mf eo es ef : Nat) (w : World) (h : Asked w w.heap.size q Ao As Ap lo ls lp) (hr : Repd w w.heap.size r Bo Bs Bf mo ms mf) (hb : lp ≤ 100000) :
    Calls Try.prog 70 #[.agg #[.int .i64 q.c, .int .i64 q.a, .int .i64 q.n, .slice Ao lo co, .slice As ls cs, .slice Ap lp cp], .agg #[.int .i64 r.x, .slice Bo mo eo, .slice Bs ms es, .slice Bf mf ef]] w fun e w' => e = .returned (.bool (manyB q r)) ∧ Below w.heap.size w w' := by
  have t0 := TB.new2 w #[.int .i64 q.c, .int .i64 q.a, .int .i64 q.n, .slice Ao lo co, .slice As ls cs, .slice Ap lp cp] #[.int .i64 r.x, .slice Bo mo eo, .slice Bs ms es, .slice Bf mf ef] 29 56
  have H := Lib.hid (h.below t0.bel)
  have HR := Lib.hid (hr.below t0.bel)
  have bel0 := t0.bel
  have hsz : w.heap.size ≤ ((w.alloc (.cells #[.int .i64 q.c, .int .i64 q.a, .int .i64 q.n, .slice Ao lo co, .slice As ls cs, .slice Ap lp cp] 29)).alloc (.cells #[.int .i64 r.x, .slice Bo mo eo, .slice Bs ms es, .slice Bf mf ef] 56)).heap.size := bel0.size
  have HMO := Lib.hid hr.mo
  have HMS := Lib.hid hr.ms
  obtain ⟨u, hu⟩ : ∃ u, Hid (manyB q r = u) := ⟨_, Lib.hid rfl⟩
  rw [hu.out]
  obtain ⟨c, a, n, on, set, fl⟩ := q
  obtain ⟨x, ron, rset, fs⟩ := r
  simp only at *
  clear h hr t0
  by_cases h1 : c = 1 ∨ c = 2
  · have HU : Hid (decide ((mo : Int) = n) = u) := Lib.hid (by rw [← hu.out]; unfold manyB; rw [if_pos h1, HMO.out])
    have e1 : ((mo : Int) == n) = u := by rw [← HU.out]; by_cases h : (mo : Int) = n <;> simp [h]
    rcases h1 with rfl | rfl
    all_goals
      go_enter Try.func70, Try.ntmps70
      go_wp2
      go_ret
      exact ⟨rfl, bel0⟩
  · by_cases h2 : c = 3 ∨ c = 4
    · have HU : Hid (decide ((ms : Int) = n) = u) := Lib.hid (by rw [← hu.out]; unfold manyB; rw [if_neg h1, if_pos h2, HMS.out])
      have e1 : ((ms : Int) == n) = u := by rw [← HU.out]; by_cases h : (ms : Int) = n <;> simp [h]
      clear h1
      rcases h2 with rfl | rfl
      all_goals
        go_enter Try.func70, Try.ntmps70
        go_wp2
        go_ret
        exact ⟨rfl, bel0⟩
    · by_cases h3 : c = 20
      · have HU : Hid (fitsB fl fs = u) := Lib.hid (by rw [← hu.out]; unfold manyB; rw [if_neg h1, if_neg h2, if_pos h3])
        subst h3
        clear h1 h2
        go_enter Try.func70, Try.ntmps70
        go_wp2_with fail
        refine (fitParts_any Ap Bf lp cp mf ef fl fs _ (H.out.fl.more hsz) H.out.lp (HR.out.fs.more hsz) HR.out.mf hb).mono ?_
        rintro e w1 ⟨rfl, b1⟩
        rw [HU.out]
        go_wp2
        go_ret
        exact ⟨rfl, bel0.trans (b1.mono hsz)⟩
      · have HU : Hid (u = true) := Lib.hid (by rw [← hu.out]; unfold manyB; rw [if_neg h1, if_neg h2, if_neg h3])
        have b1 : (c == 1) = false := beq_false_of_ne (by omega)
        have b2 : (c == 2) = false := beq_false_of_ne (by omega)
        have b3 : (c == 3) = false := beq_false_of_ne (by omega)
        have b4 : (c == 4) = false := beq_false_of_ne (by omega)
        have b5 : (c == 20) = false := beq_false_of_ne h3
        clear h1 h2 h3
        go_enter Try.func70, Try.ntmps70
        go_wp2
        go_ret
        exact ⟨by rw [HU.out]; rfl, bel0⟩

/-- What is wrong with an answer to a request. -/
def chkR (q : Req) (r : Rep) : Int :=
  if chkQ q ≠ 0 then chkQ q else if r.x ≠ 0 then (if 1 ≤ r.x ∧ r.x ≤ 127 then (if anyB r.on.length r.set.length r.fs.length = true then 23 else 0) else 3)
  else if strayB q.c r.on.length r.set.length r.fs.length = true then 23 else if manyB q r = false then 22 else 0

set_option maxHeartbeats 1000000 in
theorem rpCheck_any (q : Req) (r : Rep) (Ao As Ap Bo Bs Bf : Option Addr) (lo ls lp co cs cp mo ms mf eo es ef : Nat) (w : World) (h : Asked w w.heap.size q Ao As Ap lo ls lp) (hr : Repd w w.heap.size r Bo Bs Bf mo ms mf) (hb : lp ≤ 100000) :
    Calls Try.prog 50 #[.agg #[.int .i64 q.c, .int .i64 q.a, .int .i64 q.n, .slice Ao lo co, .slice As ls cs, .slice Ap lp cp], .agg #[.int .i64 r.x, .slice Bo mo eo, .slice Bs ms es, .slice Bf mf ef]] w fun e w' => e = .returned (.int .i64 (chkR q r)) ∧ Below w.heap.size w w' := by
  have t0 := TB.new2 w #[.int .i64 q.c, .int .i64 q.a, .int .i64 q.n, .slice Ao lo co, .slice As ls cs, .slice Ap lp cp] #[.int .i64 r.x, .slice Bo mo eo, .slice Bs ms es, .slice Bf mf ef] 29 56
  have hsz : w.heap.size ≤ ((w.alloc (.cells #[.int .i64 q.c, .int .i64 q.a, .int .i64 q.n, .slice Ao lo co, .slice As ls cs, .slice Ap lp cp] 29)).alloc (.cells #[.int .i64 r.x, .slice Bo mo eo, .slice Bs ms es, .slice Bf mf ef] 56)).heap.size := t0.bel.size
  have H := Lib.hid ((h.below t0.bel).more hsz)
  have HR := Lib.hid ((hr.below t0.bel).more hsz)
  obtain ⟨E, hE⟩ : ∃ E, Hid (chkR q r = E) := ⟨_, Lib.hid rfl⟩
  rw [hE.out]
  obtain ⟨k, hk⟩ : ∃ k, Hid (chkQ q = k) := ⟨_, Lib.hid rfl⟩
  have HC := Lib.hid (Check_Q q Ao As Ap lo ls lp co cs cp _ H.out)
  rw [hk.out] at HC
  clear h hr
  by_cases hk0 : k = 0
  · have HK0 := Lib.hid hk0
    subst hk0
    by_cases hx : r.x = 0
    · have u1 : (r.x != 0) = false := by simp [hx]
      have u2 : (r.x == 0) = true := by simp [hx]
      have HX := Lib.hid hx
      obtain ⟨s, hs⟩ : ∃ s, Hid (strayB q.c mo ms mf = s) := ⟨_, Lib.hid rfl⟩
      obtain ⟨m, hm⟩ : ∃ m, Hid (manyB q r = m) := ⟨_, Lib.hid rfl⟩
      have HE : Hid (E = if s = true then 23 else if m = false then 22 else 0) := Lib.hid (by
        rw [← hE.out]; unfold chkR; rw [if_neg (show ¬ chkQ q ≠ 0 by rw [hk.out]; simp), if_neg (show ¬ r.x ≠ 0 by simp [hx]), HR.out.mo, HR.out.ms, HR.out.mf, hs.out, hm.out])
      clear hx
      go_enter Try.func50, Try.ntmps50
      go_wp2_with fail
      refine HC.out.mono ?_
      rintro e w1 ⟨rfl, b1⟩
      have t1 := t0.below b1
      have H1 := Lib.hid (H.out.up b1)
      have HR1 := Lib.hid (HR.out.up b1)
      clear t0 b1
      obtain ⟨d0, d1, d2, d3, d4⟩ := t1.c4
      obtain ⟨r0, r1, r2, r3, r4, r5, r6⟩ := t1.r6
      go_wp2_with fail
      clear d0 d1 d2 d3 d4 r0 r1 r2 r3 r4 r5 r6
      refine (rpStray_any q.c r.x Bo Bs Bf mo ms mf eo es ef _).mono ?_
      rintro e w2 ⟨rfl, b2⟩
      rw [hs.out]
      have t2 := t1.below b2
      have H2 := Lib.hid (H1.out.up b2)
      have HR2 := Lib.hid (HR1.out.up b2)
      clear t1 b2
      obtain ⟨d0, d1, d2, d3, d4⟩ := t2.c4
      obtain ⟨r0, r1, r2, r3, r4, r5, r6⟩ := t2.r6
      cases s with
      | true =>
        go_wp2
        go_ret
        exact ⟨by rw [HE.out]; rfl, t2.bel⟩
      | false =>
        go_wp2_with fail
        clear d0 d1 d2 d3 d4 r0 r1 r2 r3 r4 r5 r6
        refine (hasAsMany_any q r Ao As Ap Bo Bs Bf lo ls lp co cs cp mo ms mf eo es ef _ H2.out HR2.out hb).mono ?_
        rintro e w3 ⟨rfl, b3⟩
        rw [hm.out]
        have t3 := t2.below b3
        clear t2 b3
        cases m with
        | true =>
          go_wp2
          go_ret
          exact ⟨by rw [HE.out]; rfl, t3.bel⟩
        | false =>
          go_wp2
          go_ret
          exact ⟨by rw [HE.out]; rfl, t3.bel⟩
    · have u1 : (r.x != 0) = true := by simpa using hx
      have u2 : (r.x == 0) = false := beq_false_of_ne hx
      have HE : Hid ((if 1 ≤ r.x ∧ r.x ≤ 127 then (if anyB mo ms mf = true then 23 else 0) else 3) = E) := Lib.hid (by
        rw [← hE.out]; unfold chkR; rw [if_neg (show ¬ chkQ q ≠ 0 by rw [hk.out]; simp), if_pos hx, HR.out.mo, HR.out.ms, HR.out.mf])
      clear hx
      go_enter Try.func50, Try.ntmps50
      go_wp2_with fail
      refine HC.out.mono ?_
      rintro e w1 ⟨rfl, b1⟩
      have t1 := t0.below b1
      clear t0 b1
      obtain ⟨d0, d1, d2, d3, d4⟩ := t1.c4
      obtain ⟨r0, r1, r2, r3, r4, r5, r6⟩ := t1.r6
      go_wp2_with fail
      clear d0 d1 d2 d3 d4 r0 r1 r2 r3 r4 r5 r6
      refine (checkExc_any r.x Bo Bs Bf mo ms mf eo es ef _).mono ?_
      rintro e w2 ⟨rfl, b2⟩
      rw [HE.out]
      have t2 := t1.below b2
      go_wp2
      go_ret
      exact ⟨rfl, t2.bel⟩
  · have u1 : (k != 0) = true := by simpa using hk0
    have u2 : (k == 0) = false := beq_false_of_ne hk0
    have HE : Hid (E = k) := Lib.hid (by rw [← hE.out]; unfold chkR; rw [hk.out, if_pos hk0])
    clear hk0
    go_enter Try.func50, Try.ntmps50
    go_wp2_with fail
    refine HC.out.mono ?_
    rintro e w1 ⟨rfl, b1⟩
    have t1 := t0.below b1
    go_wp2
    go_ret
    exact ⟨by rw [HE.out]; rfl, t1.bel⟩
end Go.Proofs.Ytcmbdhmhkfhjfaa
