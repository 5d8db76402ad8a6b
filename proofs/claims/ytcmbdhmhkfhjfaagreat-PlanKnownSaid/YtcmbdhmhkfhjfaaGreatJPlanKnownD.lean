/-
  Texts of the proof of PlanKnown, joined.
-/
import Derived.Test.YtcmbdhmhkfhjfaaGreatJPlanKnownC
import Derived.IntWalk
import Derived.Deep.RegionHeld3
import Derived.Deep.AppendLies
import Derived.Test.YtcmbdhmhkfhjfaaGreatJPlanKnownA
import Derived.Maps.AppendAt
import Derived.WalkMore
import Derived.Deep.LoopGhost
namespace Go.Proofs.YtcmbdhmhkfhjfaaGreat
open Go.RowKit
set_option linter.unusedVariables false
theorem inPlace_any (f r l : Int) (w : World) :
    Calls Tryz.prog 117 #[.agg #[.int .i64 f, .int .i64 r, .int .i64 l]] w fun e w' => e = .returned (.bool (inPl f r l)) ∧ Below w.heap.size w w' := by
  by_cases hr : 0 ≤ r ∧ r ≤ 9999
  · have hw : IntKind.i64.wrap (10000 - r) = 10000 - r := IntWalk.i64_in _ (by omega)
    go_enter Tryz.func117, Tryz.ntmps117
    go_wp2
    all_goals (go_ret; refine ⟨?_, bel_alloc _ _⟩; show Ending.returned (Value.bool _) = Ending.returned (Value.bool (inPl f r l)); congr 2; rw [Bool.eq_iff_iff, inPl_iff]; (simp <;> omega))
  · go_enter Tryz.func117, Tryz.ntmps117
    go_wp2
    all_goals (go_ret; refine ⟨?_, bel_alloc _ _⟩; show Ending.returned (Value.bool _) = Ending.returned (Value.bool (inPl f r l)); congr 2; rw [Bool.eq_iff_iff, inPl_iff]; (simp <;> omega))

set_option maxHeartbeats 1000000 in
theorem checkParts_any (A : Option Addr) (n c : Nat) (fl : List Int) (w : World) (hr : Row .i64 w w.heap.size A fl) (hn : fl.length = 3 * n) (hb : n ≤ 35) :
    Calls Tryz.prog 104 #[.slice A n c] w fun e w' => e = .returned (.int .i64 (ptsE fl n)) ∧ Below w.heap.size w w' := by
  have hn' := Lib.hid hn
  clear hn
  go_enter Tryz.func104, Tryz.ntmps104
  go_wp2
  go_loopw [3, 8] (fun s i wr => ∃ k : Nat, k ≤ n ∧ i = .int .i64 k ∧ s = .int .i64 (sumTo fl k) ∧ allOk fl k = true ∧ Below w.heap.size w wr) (fun _ i _ => n - (intOf i).toNat)
  case atStart => exact ⟨0, by omega, rfl, rfl, rfl, Below.refl _ _⟩
  case round =>
    obtain ⟨k, hk, rfl, rfl, hok, hbel⟩ := hrel
    by_cases hlt : k < n
    · obtain ⟨b, o, rfl, hb1, hc1, hc2, hc3⟩ := (hr.below hbel).three (k := k) (by have := hn'.out; omega)
      have hs := sumTo_range hok
      have hbel2 := hbel.alloc hbel.size (.cells #[.int .i64 (nth fl (3 * k)), .int .i64 (nth fl (3 * k + 1)), .int .i64 (nth fl (3 * k + 2))] 94)
      have HS : Hid (sumTo fl (k + 1) = sumTo fl k + (2 + 2 * nth fl (3 * k + 2))) := Lib.hid rfl
      have HO : Hid (allOk fl (k + 1) = (allOk fl k && inPl (nth fl (3 * k)) (nth fl (3 * k + 1)) (nth fl (3 * k + 2)))) := Lib.hid rfl
      have HN : Hid (inPl (nth fl (3 * k)) (nth fl (3 * k + 1)) (nth fl (3 * k + 2)) = false → allOk fl n = false) := Lib.hid (fun h => allOk_no hlt h)
      have hbx := heap_alloc_new wr (.cells #[.int .i64 (nth fl (3 * k)), .int .i64 (nth fl (3 * k + 1)), .int .i64 (nth fl (3 * k + 2))] 94)
      have HB := Lib.hid hbx
      clear hbx
      generalize nth fl (3 * k) = x at *
      generalize nth fl (3 * k + 1) = y at *
      generalize nth fl (3 * k + 2) = z at *
      generalize sumTo fl k = s at *
      go_wp2_with fail
      refine (inPlace_any x y z _).mono ?_
      rintro e w1 ⟨rfl, b1⟩
      have hbel3 := hbel2.trans (b1.mono hbel2.size)
      have HB2 := Lib.hid ((b1.block wr.heap.size (by simp)).trans HB.out)
      have hc := cell_of_row w1 wr.heap.size 2 _ _ _ HB2.out
      clear hbel hbel2 b1 HB hc1 hc2 hc3
      cases hin : inPl x y z with
      | false =>
        have he := HN.out hin
        have hp : Hid (ptsE fl n = 3) := Lib.hid (by rw [ptsE, he]; rfl)
        clear HN HO HS he hc HB2
        go_wp2
        go_ret
        exact ⟨by rw [hp.out]; rfl, hbel3⟩
      | true =>
        have hz := (inPl_iff _ _ _).1 hin
        have e1 : IntKind.i64.wrap (2 * z) = 2 * z := IntWalk.i64_in _ (by omega)
        have e2 : IntKind.i64.wrap (2 + 2 * z) = 2 + 2 * z := IntWalk.i64_in _ (by omega)
        have e3 : IntKind.i64.wrap (s + (2 + 2 * z)) = s + (2 + 2 * z) := IntWalk.i64_in _ (by omega)
        have HO2 : Hid (allOk fl (k + 1) = true) := Lib.hid (by rw [HO.out, hok, hin]; rfl)
        clear HN HO
        go_wp2
        go_roundw
        case rel => exact ⟨k + 1, by omega, by go_num, by rw [HS.out], HO2.out, hbel3⟩
        case measure => simp [intOf]; omega
    · obtain rfl : k = n := by omega
      by_cases hl : 245 < sumTo fl k
      · have hp : Hid (ptsE fl k = 2) := Lib.hid (by rw [ptsE, if_pos hok, if_pos hl])
        go_wp2
        go_ret
        exact ⟨by rw [hp.out]; rfl, hbel⟩
      · have hp : Hid (ptsE fl k = 0) := Lib.hid (by rw [ptsE, if_pos hok, if_neg hl])
        go_wp2
        go_ret
        exact ⟨by rw [hp.out]; rfl, hbel⟩

set_option maxHeartbeats 2000000 in
theorem Check_any (q : Req) (Ao As Ap : Option Addr) (lo ls lp co cs cp : Nat) (w : World) (h : Asked w w.heap.size q Ao As Ap lo ls lp) :
    Calls Tryz.prog 67 #[.agg #[.int .i64 q.c, .int .i64 q.a, .int .i64 q.n, .slice Ao lo co, .slice As ls cs, .slice Ap lp cp]] w
      fun e w' => e = .returned (.int .i64 (chk q.c q.a q.n lo ls lp q.fl)) ∧ Below w.heap.size w w' := by
  have H := Lib.hid h.fl
  have HL := Lib.hid h.lp
  clear h
  have hmr := mm_range q.c
  obtain ⟨c, a, n, on, set, fl⟩ := q
  simp only at H HL hmr ⊢
  have hbox := Lib.hid (heap_alloc_new w (.cells #[.int .i64 c, .int .i64 a, .int .i64 n, .slice Ao lo co, .slice As ls cs, .slice Ap lp cp] 68))
  have bel0 := bel_alloc w (.cells #[.int .i64 c, .int .i64 a, .int .i64 n, .slice Ao lo co, .slice As ls cs, .slice Ap lp cp] 68)
  obtain ⟨r, hr⟩ : ∃ r, Hid (chk c a n lo ls lp fl = r) := ⟨_, Lib.hid rfl⟩
  rw [hr.out]
  go_enter Tryz.func67, Tryz.ntmps67
  go_wp2_with fail
  refine (isCode_any c _).mono ?_
  rintro e w1 ⟨rfl, rfl⟩
  by_cases hc : 0 < mm c
  rotate_left
  · have e0 : Hid (r = 20) := Lib.hid (by rw [← hr.out, chk, if_pos (by omega)])
    have e1 : decide (0 < mm c) = false := decide_eq_false hc
    clear hbox
    go_wp2
    go_ret
    exact ⟨by rw [e0.out]; rfl, bel0⟩
  have e1 : decide (0 < mm c) = true := decide_eq_true hc
  go_wp2_with fail
  clear e1
  refine (hasStray_any c a n Ao As Ap lo co ls cs lp cp _ hc).mono ?_
  rintro e w1 ⟨rfl, b1⟩
  have hbox1 := Lib.hid ((b1.block w.heap.size (by simp)).trans hbox.out)
  have bel1 := bel0.trans (b1.mono bel0.size)
  have hs1 := b1.size
  have hs0 : w.heap.size < w1.heap.size := by simp at hs1; omega
  clear b1 hbox bel0 hs1
  obtain ⟨⟨d10, d11, d12⟩, ⟨d13, d14, d15⟩, d16⟩ := cells6 hbox1.out
  cases hst : stray c a n lo ls lp with
  | true =>
    have e0 : Hid (r = 23) := Lib.hid (by rw [← hr.out, chk, if_neg (by omega), if_pos hst])
    clear d10 d11 d12 d13 d14 d15 d16
    go_wp2
    go_ret
    exact ⟨by rw [e0.out]; rfl, bel1⟩
  | false =>
    by_cases ha : a < 0 ∨ 65536 ≤ a
    · have e0 : Hid (r = 21) := Lib.hid (by rw [← hr.out, chk, if_neg (by omega), if_neg (by simp [hst]), if_pos ha])
      by_cases ha0 : a < 0
      · go_wp2
        go_ret
        exact ⟨by rw [e0.out]; rfl, bel1⟩
      · have ha1 : 65536 ≤ a := by omega
        go_wp2
        go_ret
        exact ⟨by rw [e0.out]; rfl, bel1⟩
    have ha0 : ¬ a < 0 := by omega
    have ha1 : ¬ 65536 ≤ a := by omega
    go_wp2_with fail
    clear d10 d11 d12 d13 d14 d15 d16
    refine (howMany_any c a n Ao As Ap lo co ls cs lp cp _ hc).mono ?_
    rintro e w2 ⟨rfl, b1⟩
    have hbox2 := Lib.hid ((b1.block w.heap.size hs0).trans hbox1.out)
    have bel2 := bel1.trans (b1.mono bel1.size)
    have hs2 := b1.size
    have hs3 : w.heap.size < w2.heap.size := by omega
    clear b1 hbox1 bel1 hs2 hs0
    obtain ⟨⟨d10, d11, d12⟩, ⟨d13, d14, d15⟩, d16⟩ := cells6 hbox2.out
    have HM : Hid (many c n lo ls lp = many c n lo ls lp) := Lib.hid rfl
    have hm20 : Hid (c = 20 → many c n lo ls lp = (lp : Int)) := Lib.hid (by rintro rfl; rfl)
    obtain ⟨m, hm⟩ : ∃ m, Hid (many c n lo ls lp = m) := ⟨_, Lib.hid rfl⟩
    rw [hm.out] at hm20 ⊢
    clear HM
    by_cases hm1 : m < 1
    · have e0 : Hid (r = 22) := Lib.hid (by rw [← hr.out, chk, if_neg (by omega), if_neg (by simp [hst]), if_neg ha, if_pos (by rw [hm.out]; exact .inl hm1)])
      go_wp2
      go_ret
      exact ⟨by rw [e0.out]; rfl, bel2⟩
    go_wp2_with fail
    refine (maxMany_any c _).mono ?_
    rintro e w3 ⟨rfl, rfl⟩
    by_cases hm2 : mm c < m
    · have e0 : Hid (r = 22) := Lib.hid (by rw [← hr.out, chk, if_neg (by omega), if_neg (by simp [hst]), if_neg ha, if_pos (by rw [hm.out]; exact .inr hm2)])
      go_wp2
      go_ret
      exact ⟨by rw [e0.out]; rfl, bel2⟩
    have hm3 : m ≤ mm c := by omega
    by_cases h20 : c = 20
    · have e0 : Hid (r = ptsE fl lp) := Lib.hid (by rw [← hr.out, chk, if_neg (by omega), if_neg (by simp [hst]), if_neg ha, if_neg (by rw [hm.out]; omega), if_pos h20])
      have hlp : lp ≤ 35 := by
        have := hm20.out h20
        subst h20
        have e35 : mm 20 = 35 := rfl
        omega
      clear hm20 hm hr
      subst h20
      go_wp2_with fail
      refine (checkParts_any Ap lp cp fl _ ((H.out.below bel2).more bel2.size) HL.out hlp).mono ?_
      rintro e w4 ⟨rfl, b1⟩
      have bel3 := bel2.trans (b1.mono bel2.size)
      go_wp2
      go_ret
      exact ⟨by rw [e0.out]; rfl, bel3⟩
    · have b20 : (c == 20) = false := beq_false_of_ne h20
      have e1 : IntKind.i64.wrap (a + m) = a + m := IntWalk.i64_in _ (by omega)
      by_cases hend : 65536 < a + m
      · have e0 : Hid (r = 21) := Lib.hid (by rw [← hr.out, chk, if_neg (by omega), if_neg (by simp [hst]), if_neg ha, if_neg (by rw [hm.out]; omega), if_neg h20, hm.out, if_pos hend])
        go_wp2
        go_ret
        exact ⟨by rw [e0.out]; rfl, bel2⟩
      · have e0 : Hid (r = 0) := Lib.hid (by rw [← hr.out, chk, if_neg (by omega), if_neg (by simp [hst]), if_neg ha, if_neg (by rw [hm.out]; omega), if_neg h20, hm.out, if_neg hend])
        go_wp2
        go_ret
        exact ⟨by rw [e0.out]; rfl, bel2⟩
end Go.Proofs.YtcmbdhmhkfhjfaaGreat
namespace Go.Proofs.YtcmbdhmhkfhjfaaGreat
open Go.RowKit
set_option linter.unusedVariables false

set_option maxHeartbeats 2000000 in
theorem refKnown_any (c : Int) (w : World) : Calls Tryz.prog 91 #[.int .i64 c] w fun e w' => e = .returned (.bool (decide (0 < mm c))) ∧ w' = w := by
  rcases codes c with rfl | rfl | rfl | rfl | rfl | rfl | rfl | rfl | rfl | ⟨h1, h2, h3, h4, h5, h6, h7, h8, h9⟩
  iterate 9
    · go_enter Tryz.func91, Tryz.ntmps91
      go_wp2
      go_ret
      exact ⟨rfl, rfl⟩
  have e : Hid (decide (0 < mm c) = false) := Lib.hid (by simp [mm, *])
  rw [e.out]
  have b7 := beq_false_of_ne h7
  have b8 := beq_false_of_ne h8
  have b9 := beq_false_of_ne h9
  by_cases hc : 1 ≤ c
  · have hc6 : ¬ c ≤ 6 := by omega
    clear h1 h2 h3 h4 h5 h6 h7 h8 h9
    go_enter Tryz.func91, Tryz.ntmps91
    go_wp2
    go_ret
    exact ⟨rfl, rfl⟩
  · clear h1 h2 h3 h4 h5 h6 h7 h8 h9
    go_enter Tryz.func91, Tryz.ntmps91
    go_wp2
    go_ret
    exact ⟨rfl, rfl⟩
set_option maxHeartbeats 2000000 in
theorem refMost_any (c : Int) (w : World) (h : 0 < mm c) : Calls Tryz.prog 94 #[.int .i64 c] w fun e w' => e = .returned (.int .i64 (mm c)) ∧ w' = w := by
  rcases mm_pos h with rfl | rfl | rfl | rfl | rfl | rfl | rfl | rfl | rfl
  iterate 9
    · go_enter Tryz.func94, Tryz.ntmps94
      go_wp2
      go_ret
      exact ⟨rfl, rfl⟩
set_option maxHeartbeats 2000000 in
theorem refMany_any (c a n : Int) (Ao As Ap : Option Addr) (lo co ls cs lp cp : Nat) (w : World) (h : 0 < mm c) :
    Calls Tryz.prog 93 #[.agg #[.int .i64 c, .int .i64 a, .int .i64 n, .slice Ao lo co, .slice As ls cs, .slice Ap lp cp]] w fun e w' => e = .returned (.int .i64 (many c n lo ls lp)) ∧ Below w.heap.size w w' := by
  rcases mm_pos h with rfl | rfl | rfl | rfl | rfl | rfl | rfl | rfl | rfl
  iterate 9
    · go_enter Tryz.func93, Tryz.ntmps93
      go_wp2
      go_ret
      exact ⟨rfl, bel_alloc _ _⟩
set_option maxHeartbeats 4000000 in
set_option maxRecDepth 100000 in
theorem refField_any (c a n : Int) (Ao As Ap : Option Addr) (lo co ls cs lp cp : Nat) (w : World) (h : 0 < mm c) :
    Calls Tryz.prog 92 #[.agg #[.int .i64 c, .int .i64 a, .int .i64 n, .slice Ao lo co, .slice As ls cs, .slice Ap lp cp]] w fun e w' => e = .returned (.bool (stray c a n lo ls lp)) ∧ Below w.heap.size w w' := by
  rcases mm_pos h with rfl | rfl | rfl | rfl | rfl | rfl | rfl | rfl | rfl
  iterate 9
    · go_enter Tryz.func92, Tryz.ntmps92
      go_wp2
      all_goals (go_ret; refine ⟨?_, bel_alloc _ _⟩; (simp [stray, *] <;> omega))

set_option maxHeartbeats 2000000 in
set_option maxRecDepth 100000 in
theorem refParts_any (A : Option Addr) (n c : Nat) (fl : List Int) (w : World) (hr : Row .i64 w w.heap.size A fl) (hn : fl.length = 3 * n) (hb : n ≤ 35) :
    Calls Tryz.prog 95 #[.slice A n c] w fun e w' => e = .returned (.int .i64 (ptsE fl n)) ∧ Below w.heap.size w w' := by
  have hn' := Lib.hid hn
  clear hn
  go_enter Tryz.func95, Tryz.ntmps95
  go_wp2
  go_loopw [3, 4] (fun s i wr => ∃ k : Nat, k ≤ n ∧ i = .int .i64 k ∧ s = .int .i64 (sumTo fl k) ∧ allOk fl k = true ∧ Below w.heap.size w wr) (fun _ i _ => n - (intOf i).toNat)
  case atStart => exact ⟨0, by omega, rfl, rfl, rfl, Below.refl _ _⟩
  case round =>
    obtain ⟨k, hk, rfl, rfl, hok, hbel⟩ := hrel
    by_cases hlt : k < n
    · obtain ⟨b, o, rfl, hb1, hc1, hc2, hc3⟩ := (hr.below hbel).three (k := k) (by have := hn'.out; omega)
      have hs := sumTo_range hok
      have hbel2 := hbel.alloc hbel.size (.cells #[.int .i64 (nth fl (3 * k)), .int .i64 (nth fl (3 * k + 1)), .int .i64 (nth fl (3 * k + 2))] 94)
      have HS : Hid (sumTo fl (k + 1) = sumTo fl k + (2 + 2 * nth fl (3 * k + 2))) := Lib.hid rfl
      have HO : Hid (allOk fl (k + 1) = (allOk fl k && inPl (nth fl (3 * k)) (nth fl (3 * k + 1)) (nth fl (3 * k + 2)))) := Lib.hid rfl
      have HN : Hid (inPl (nth fl (3 * k)) (nth fl (3 * k + 1)) (nth fl (3 * k + 2)) = false → allOk fl n = false) := Lib.hid (fun h => allOk_no hlt h)
      generalize nth fl (3 * k) = x at *
      generalize nth fl (3 * k + 1) = y at *
      generalize nth fl (3 * k + 2) = z at *
      have HK := Lib.hid hok
      clear hok
      generalize sumTo fl k = s at *
      cases hin : inPl x y z with
      | false =>
        have he := HN.out hin
        have hp : Hid (ptsE fl n = 3) := Lib.hid (by rw [ptsE, he]; rfl)
        have hne : ¬ ((1 ≤ x ∧ x ≤ 65535) ∧ (0 ≤ y ∧ y ≤ 9999) ∧ (1 ≤ z ∧ z ≤ 10000 - y)) := fun h => by rw [(inPl_iff x y z).2 h] at hin; cases hin
        clear HN HO HS he hin
        rcases (show x < 1 ∨ (1 ≤ x ∧ 65535 < x) ∨ (1 ≤ x ∧ x ≤ 65535 ∧ y < 0) ∨ (1 ≤ x ∧ x ≤ 65535 ∧ 0 ≤ y ∧ 9999 < y) ∨ (1 ≤ x ∧ x ≤ 65535 ∧ 0 ≤ y ∧ y ≤ 9999 ∧ z < 1) ∨ (1 ≤ x ∧ x ≤ 65535 ∧ 0 ≤ y ∧ y ≤ 9999 ∧ 1 ≤ z ∧ 10000 - y < z) by omega) with h | h | h | h | h | h
        iterate 5
          · clear hne
            go_wp2
            go_ret
            exact ⟨by rw [hp.out]; rfl, hbel2⟩
        have e0 : IntKind.i64.wrap (10000 - y) = 10000 - y := IntWalk.i64_in _ (by omega)
        clear hne
        go_wp2
        go_ret
        exact ⟨by rw [hp.out]; rfl, hbel2⟩
      | true =>
        have hz := (inPl_iff _ _ _).1 hin
        have e0 : IntKind.i64.wrap (10000 - y) = 10000 - y := IntWalk.i64_in _ (by omega)
        have e1 : IntKind.i64.wrap (2 * z) = 2 * z := IntWalk.i64_in _ (by omega)
        have e2 : IntKind.i64.wrap (s + 2) = s + 2 := IntWalk.i64_in _ (by omega)
        have e3 : IntKind.i64.wrap (s + 2 + 2 * z) = s + 2 + 2 * z := IntWalk.i64_in _ (by omega)
        have HO2 : Hid (allOk fl (k + 1) = true) := Lib.hid (by rw [HO.out, HK.out, hin]; rfl)
        have HS2 : Hid (sumTo fl (k + 1) = s + 2 + 2 * z) := Lib.hid (by rw [HS.out]; omega)
        clear HN HO hin
        go_wp2
        go_roundw
        case rel => exact ⟨k + 1, by omega, by go_num, by rw [HS2.out], HO2.out, hbel2⟩
        case measure => simp [intOf]; omega
    · obtain rfl : k = n := by omega
      by_cases hl : 245 < sumTo fl k
      · have hp : Hid (ptsE fl k = 2) := Lib.hid (by rw [ptsE, if_pos hok, if_pos hl])
        go_wp2
        go_ret
        exact ⟨by rw [hp.out]; rfl, hbel⟩
      · have hp : Hid (ptsE fl k = 0) := Lib.hid (by rw [ptsE, if_pos hok, if_neg hl])
        go_wp2
        go_ret
        exact ⟨by rw [hp.out]; rfl, hbel⟩

set_option maxHeartbeats 2000000 in
theorem refCheck_any (q : Req) (Ao As Ap : Option Addr) (lo ls lp co cs cp : Nat) (w : World) (h : Asked w w.heap.size q Ao As Ap lo ls lp) :
    Calls Tryz.prog 57 #[.agg #[.int .i64 q.c, .int .i64 q.a, .int .i64 q.n, .slice Ao lo co, .slice As ls cs, .slice Ap lp cp]] w
      fun e w' => e = .returned (.int .i64 (chk q.c q.a q.n lo ls lp q.fl)) ∧ Below w.heap.size w w' := by
  have H := Lib.hid h.fl
  have HL := Lib.hid h.lp
  clear h
  have hmr := mm_range q.c
  obtain ⟨c, a, n, on, set, fl⟩ := q
  simp only at H HL hmr ⊢
  have hbox := Lib.hid (heap_alloc_new w (.cells #[.int .i64 c, .int .i64 a, .int .i64 n, .slice Ao lo co, .slice As ls cs, .slice Ap lp cp] 68))
  have bel0 := bel_alloc w (.cells #[.int .i64 c, .int .i64 a, .int .i64 n, .slice Ao lo co, .slice As ls cs, .slice Ap lp cp] 68)
  obtain ⟨r, hr⟩ : ∃ r, Hid (chk c a n lo ls lp fl = r) := ⟨_, Lib.hid rfl⟩
  rw [hr.out]
  go_enter Tryz.func57, Tryz.ntmps57
  go_wp2_with fail
  refine (refKnown_any c _).mono ?_
  rintro e w1 ⟨rfl, rfl⟩
  by_cases hc : 0 < mm c
  rotate_left
  · have e0 : Hid (r = 20) := Lib.hid (by rw [← hr.out, chk, if_pos (by omega)])
    have e1 : decide (0 < mm c) = false := decide_eq_false hc
    clear hbox
    go_wp2
    go_ret
    exact ⟨by rw [e0.out]; rfl, bel0⟩
  have e1 : decide (0 < mm c) = true := decide_eq_true hc
  go_wp2_with fail
  clear e1
  refine (refField_any c a n Ao As Ap lo co ls cs lp cp _ hc).mono ?_
  rintro e w1 ⟨rfl, b1⟩
  have hbox1 := Lib.hid ((b1.block w.heap.size (by simp)).trans hbox.out)
  have bel1 := bel0.trans (b1.mono bel0.size)
  have hs1 := b1.size
  have hs0 : w.heap.size < w1.heap.size := by simp at hs1; omega
  clear b1 hbox bel0 hs1
  obtain ⟨⟨d10, d11, d12⟩, ⟨d13, d14, d15⟩, d16⟩ := cells6 hbox1.out
  cases hst : stray c a n lo ls lp with
  | true =>
    have e0 : Hid (r = 23) := Lib.hid (by rw [← hr.out, chk, if_neg (by omega), if_pos hst])
    clear d10 d11 d12 d13 d14 d15 d16
    go_wp2
    go_ret
    exact ⟨by rw [e0.out]; rfl, bel1⟩
  | false =>
    by_cases ha : a < 0 ∨ 65536 ≤ a
    · have e0 : Hid (r = 21) := Lib.hid (by rw [← hr.out, chk, if_neg (by omega), if_neg (by simp [hst]), if_pos ha])
      by_cases ha0 : a < 0
      · go_wp2
        go_ret
        exact ⟨by rw [e0.out]; rfl, bel1⟩
      · have ha1 : 65536 ≤ a := by omega
        go_wp2
        go_ret
        exact ⟨by rw [e0.out]; rfl, bel1⟩
    have ha0 : ¬ a < 0 := by omega
    have ha1 : ¬ 65536 ≤ a := by omega
    go_wp2_with fail
    clear d10 d11 d12 d13 d14 d15 d16
    refine (refMany_any c a n Ao As Ap lo co ls cs lp cp _ hc).mono ?_
    rintro e w2 ⟨rfl, b1⟩
    have hbox2 := Lib.hid ((b1.block w.heap.size hs0).trans hbox1.out)
    have bel2 := bel1.trans (b1.mono bel1.size)
    have hs2 := b1.size
    have hs3 : w.heap.size < w2.heap.size := by omega
    clear b1 hbox1 bel1 hs2 hs0
    obtain ⟨⟨d10, d11, d12⟩, ⟨d13, d14, d15⟩, d16⟩ := cells6 hbox2.out
    have HM : Hid (many c n lo ls lp = many c n lo ls lp) := Lib.hid rfl
    have hm20 : Hid (c = 20 → many c n lo ls lp = (lp : Int)) := Lib.hid (by rintro rfl; rfl)
    obtain ⟨m, hm⟩ : ∃ m, Hid (many c n lo ls lp = m) := ⟨_, Lib.hid rfl⟩
    rw [hm.out] at hm20 ⊢
    clear HM
    by_cases hm1 : m < 1
    · have e0 : Hid (r = 22) := Lib.hid (by rw [← hr.out, chk, if_neg (by omega), if_neg (by simp [hst]), if_neg ha, if_pos (by rw [hm.out]; exact .inl hm1)])
      go_wp2
      go_ret
      exact ⟨by rw [e0.out]; rfl, bel2⟩
    go_wp2_with fail
    refine (refMost_any c _ hc).mono ?_
    rintro e w3 ⟨rfl, rfl⟩
    by_cases hm2 : mm c < m
    · have e0 : Hid (r = 22) := Lib.hid (by rw [← hr.out, chk, if_neg (by omega), if_neg (by simp [hst]), if_neg ha, if_pos (by rw [hm.out]; exact .inr hm2)])
      go_wp2
      go_ret
      exact ⟨by rw [e0.out]; rfl, bel2⟩
    have hm3 : m ≤ mm c := by omega
    by_cases h20 : c = 20
    · have e0 : Hid (r = ptsE fl lp) := Lib.hid (by rw [← hr.out, chk, if_neg (by omega), if_neg (by simp [hst]), if_neg ha, if_neg (by rw [hm.out]; omega), if_pos h20])
      have hlp : lp ≤ 35 := by
        have := hm20.out h20
        subst h20
        have e35 : mm 20 = 35 := rfl
        omega
      clear hm20 hm hr
      subst h20
      go_wp2_with fail
      refine (refParts_any Ap lp cp fl _ ((H.out.below bel2).more bel2.size) HL.out hlp).mono ?_
      rintro e w4 ⟨rfl, b1⟩
      have bel3 := bel2.trans (b1.mono bel2.size)
      go_wp2
      go_ret
      exact ⟨by rw [e0.out]; rfl, bel3⟩
    · have b20 : (c == 20) = false := beq_false_of_ne h20
      have e1 : IntKind.i64.wrap (a + m) = a + m := IntWalk.i64_in _ (by omega)
      by_cases hend : 65536 < a + m
      · have e0 : Hid (r = 21) := Lib.hid (by rw [← hr.out, chk, if_neg (by omega), if_neg (by simp [hst]), if_neg ha, if_neg (by rw [hm.out]; omega), if_neg h20, hm.out, if_pos hend])
        go_wp2
        go_ret
        exact ⟨by rw [e0.out]; rfl, bel2⟩
      · have e0 : Hid (r = 0) := Lib.hid (by rw [← hr.out, chk, if_neg (by omega), if_neg (by simp [hst]), if_neg ha, if_neg (by rw [hm.out]; omega), if_neg h20, hm.out, if_neg hend])
        go_wp2
        go_ret
        exact ⟨by rw [e0.out]; rfl, bel2⟩
end Go.Proofs.YtcmbdhmhkfhjfaaGreat
namespace Go.Proofs.YtcmbdhmhkfhjfaaGreat
open Go.RowKit
set_option linter.unusedVariables false

def pbytes (fl : List Int) : Nat → List Int
  | 0 => []
  | k + 1 => pbytes fl k ++ (6 :: wbytes [nth fl (3 * k), nth fl (3 * k + 1), nth fl (3 * k + 2)])
def tl (c a n : Int) (on : List Bool) (set fl : List Int) (lo ls lp : Nat) : List Int :=
  if c = 5 then wbytes [a, if L.nth on 0 = true then 65280 else 0]
  else if c = 6 then wbytes [a, nth set 0]
  else if c = 15 then wbytes [a, (lo : Int)] ++ ((need lo : Nat) : Int) :: pk on (need lo)
  else if c = 16 then wbytes [a, (ls : Int)] ++ ((2 * ls : Nat) : Int) :: wbytes set
  else if c = 20 then ((7 * lp : Nat) : Int) :: pbytes fl lp
  else wbytes [a, n]

theorem Row.grown {k : IntKind} {w w' : World} {B : Nat} {A : Option Addr} {xs : List Int} {row : Option Nat} (h : Row k w B A xs) (hg : w.grownBy w' row) (hB : B ≤ w.heap.size) (hne : ∀ b o, A = some ⟨b, o, none⟩ → some b ≠ row) : Row k w' B A xs := by
  refine ⟨h.1, fun hn => ?_⟩
  obtain ⟨b, o, e, hb, hc⟩ := h.2 hn
  exact ⟨b, o, e, hb, fun i hi => hg.cell (hc i hi) (hne b o e)⟩

end Go.Proofs.YtcmbdhmhkfhjfaaGreat
namespace Go.Proofs.YtcmbdhmhkfhjfaaGreat
open Go.RowKit
set_option linter.unusedVariables false
abbrev reqBox (c a n : Int) (Ao As Ap : Option Addr) (lo co ls cs lp cp : Nat) : Obj := .cells #[.int .i64 c, .int .i64 a, .int .i64 n, .slice Ao lo co, .slice As ls cs, .slice Ap lp cp] 68

end Go.Proofs.YtcmbdhmhkfhjfaaGreat
namespace Go.Proofs.YtcmbdhmhkfhjfaaGreat
open Go.RowKit

section
variable {P : Program}
end
end Go.Proofs.YtcmbdhmhkfhjfaaGreat
namespace Go.Proofs.YtcmbdhmhkfhjfaaGreat
open Go.RowKit
set_option linter.unusedVariables false

def pduOf (q : Req) (lo ls lp : Nat) : List Int := q.c :: tl q.c q.a q.n q.on q.set q.fl lo ls lp
theorem Asked.drew {w : World} {B : Nat} {q : Req} {Ao As Ap : Option Addr} {lo ls lp : Nat} (h : Asked w B q Ao As Ap lo ls lp) : Asked w.drew B q Ao As Ap lo ls lp := ⟨h.on, h.set, h.fl, h.lo, h.ls, h.lp⟩
theorem Bx.grown {w0 w w' : World} {g : Nat} {o : Obj} {row : Option Nat} (h : Bx w0 g o w) (hg : w.grownBy w' row) (hr : ∀ k, row = some k → g < k) : Bx w0 g o w' :=
  ⟨(hg.block g h.lt (fun e => by have := hr g e.symm; omega)).trans h.1, h.2.grown hg (Nat.le_of_lt h.lt) (fun k e => by have := hr k e; omega)⟩

end Go.Proofs.YtcmbdhmhkfhjfaaGreat
namespace Go.Proofs.YtcmbdhmhkfhjfaaGreat
open Go.RowKit
set_option linter.unusedVariables false

def at2 (ys : List Int) (i : Nat) : Int := nth ys i * 256 + nth ys (i + 1)
def szOf (ys : List Int) : Int :=
  if nth ys 0 = 15 ∨ nth ys 0 = 16 then (if ys.length < 6 then 6 else 6 + nth ys 5)
  else if nth ys 0 = 20 then (if ys.length < 2 then 2 else 2 + nth ys 1) else 5
def flOf (ys : List Int) : Nat → List Int
  | 0 => []
  | k + 1 => flOf ys k ++ [at2 ys (7 * k + 1), at2 ys (7 * k + 3), at2 ys (7 * k + 5)]
def mkOk (ys : List Int) : Nat → Bool
  | 0 => true
  | k + 1 => mkOk ys k && decide (nth ys (7 * k) = 6)
def coilL (m : Int) : List Bool := if m = 65280 then [true] else if m = 0 then [false] else []
def bitsOk (ys : List Int) (n : Nat) : Bool := decide (ys.length = need n) && !spareB ys n
def partsOk (ys : List Int) : Bool := decide (ys.length % 7 = 0) && mkOk ys (ys.length / 7)
def PartsPost (w : World) (ys : List Int) (m : Nat) (e : Ending) (w' : World) : Prop :=
  (mkOk ys m = true ∧ ∃ v, e = .returned (.tuple #[v, .int .i64 0]) ∧ POwn 94 w' w.heap.size v (flOf ys m) ∧ Below w.heap.size w w') ∨
  (mkOk ys m = false ∧ e = .returned (.tuple #[.slice none 0 0, .int .i64 4]) ∧ Below w.heap.size w w')
end Go.Proofs.YtcmbdhmhkfhjfaaGreat
namespace Go.Proofs.YtcmbdhmhkfhjfaaGreat
open Go.RowKit
set_option linter.unusedVariables false

def Told (w : World) (q : Req) (err : Int) (e : Ending) (w' : World) : Prop :=
  ∃ (A1 A2 : Option Addr) (m1 m2 g1 g2 : Nat) (vp : Value), e = .returned (.tuple #[.agg #[.int .i64 q.c, .int .i64 q.a, .int .i64 q.n, .slice A1 m1 m1, .slice A2 m2 m2, vp], .int .i64 err]) ∧
    L.Li w' A1 m1 g1 q.on [] ∧ W.Li w' A2 m2 g2 q.set [] ∧ POwn 94 w' w.heap.size vp q.fl ∧ (q.on.length = m1 ∧ q.set.length = m2) ∧ (w.heap.size ≤ g1 ∧ w.heap.size ≤ g2) ∧ Below w.heap.size w w'
def rdOk (ys : List Int) : Bool :=
  if nth ys 0 = 20 then partsOk (ys.drop 2) else if nth ys 0 = 5 then decide (at2 ys 3 = 65280 ∨ at2 ys 3 = 0)
  else if nth ys 0 = 15 then bitsOk (ys.drop 6) (at2 ys 3).toNat else if nth ys 0 = 16 then decide ((ys.drop 6).length = 2 * (at2 ys 3).toNat) else true
def rdQ (ys : List Int) : Req :=
  if nth ys 0 = 20 then ⟨20, 0, 0, [], [], flOf (ys.drop 2) ((ys.drop 2).length / 7)⟩
  else if nth ys 0 = 5 then ⟨5, at2 ys 1, 0, coilL (at2 ys 3), [], []⟩
  else if nth ys 0 = 6 then ⟨6, at2 ys 1, 0, [], [at2 ys 3], []⟩
  else if nth ys 0 = 15 then ⟨15, at2 ys 1, 0, unpk (ys.drop 6) (at2 ys 3).toNat, [], []⟩
  else if nth ys 0 = 16 then ⟨16, at2 ys 1, 0, [], wwords (ys.drop 6), []⟩
  else ⟨nth ys 0, at2 ys 1, at2 ys 3, [], [], []⟩

end Go.Proofs.YtcmbdhmhkfhjfaaGreat
namespace Go.Proofs.YtcmbdhmhkfhjfaaGreat
open Go.RowKit
set_option linter.unusedVariables false

def Readd (w : World) (ys : List Int) (e : Ending) (w' : World) : Prop :=
  ∃ q E, Told w q E e w' ∧ (rdOk ys = true ∧ q = rdQ ys ∧ E = 0 ∨ rdOk ys = false ∧ E = 4)
def LGot (w : World) (ok : Bool) (l0 : List Bool) (e : Ending) (w' : World) : Prop :=
  ∃ (A : Option Addr) (m g : Nat) (l : List Bool) (E : Int), e = .returned (.tuple #[.slice A m m, .int .i64 E]) ∧ L.Li w' A m g l [] ∧ l.length = m ∧ w.heap.size ≤ g ∧ Below w.heap.size w w' ∧ (ok = true ∧ l = l0 ∧ E = 0 ∨ ok = false ∧ E = 4)
def WGot (w : World) (ok : Bool) (l0 : List Int) (e : Ending) (w' : World) : Prop :=
  ∃ (A : Option Addr) (m g : Nat) (l : List Int) (E : Int), e = .returned (.tuple #[.slice A m m, .int .i64 E]) ∧ W.Li w' A m g l [] ∧ l.length = m ∧ w.heap.size ≤ g ∧ Below w.heap.size w w' ∧ (ok = true ∧ l = l0 ∧ E = 0 ∨ ok = false ∧ E = 4)
def PGot (w : World) (ok : Bool) (l0 : List Int) (e : Ending) (w' : World) : Prop :=
  ∃ (v : Value) (l : List Int) (E : Int), e = .returned (.tuple #[v, .int .i64 E]) ∧ POwn 94 w' w.heap.size v l ∧ Below w.heap.size w w' ∧ (ok = true ∧ l = l0 ∧ E = 0 ∨ ok = false ∧ E = 4)

theorem L.Bk.set {w : World} {g g' : Nat} {l : List Bool} (h : L.Bk w g l) (hne : g ≠ g') (i : Nat) (u : Value) : L.Bk (w.setCell ⟨g', i, none⟩ u) g l := (Below.heap_setCell w ⟨g', i, none⟩ u g (by simpa using hne)).trans h
theorem W.Bk.set {w : World} {g g' : Nat} {l : List Int} (h : W.Bk w g l) (hne : g ≠ g') (i : Nat) (u : Value) : W.Bk (w.setCell ⟨g', i, none⟩ u) g l := (Below.heap_setCell w ⟨g', i, none⟩ u g (by simpa using hne)).trans h
theorem L.Li.set {w : World} {A : Option Addr} {m g g' : Nat} {l r : List Bool} (h : L.Li w A m g l r) (hne : g ≠ g') (i : Nat) (u : Value) : L.Li (w.setCell ⟨g', i, none⟩ u) A m g l r := by
  rcases h with h | ⟨h1, h2⟩
  · exact .inl h
  · exact .inr ⟨h1, h2.set hne i u⟩
theorem W.Li.set {w : World} {A : Option Addr} {m g g' : Nat} {l r : List Int} (h : W.Li w A m g l r) (hne : g ≠ g') (i : Nat) (u : Value) : W.Li (w.setCell ⟨g', i, none⟩ u) A m g l r := by
  rcases h with h | ⟨h1, h2⟩
  · exact .inl h
  · exact .inr ⟨h1, h2.set hne i u⟩
theorem L.Li.put6 {w : World} {A : Option Addr} {m g g' : Nat} {l r : List Bool} (h : L.Li w A m g l r) (hne : g ≠ g') (v0 v1 v2 v3 v4 v5 : Value) : L.Li (put6 w g' v0 v1 v2 v3 v4 v5) A m g l r :=
  (((((h.set hne 0 v0).set hne 1 v1).set hne 2 v2).set hne 3 v3).set hne 4 v4).set hne 5 v5
theorem W.Li.put6 {w : World} {A : Option Addr} {m g g' : Nat} {l r : List Int} (h : W.Li w A m g l r) (hne : g ≠ g') (v0 v1 v2 v3 v4 v5 : Value) : W.Li (put6 w g' v0 v1 v2 v3 v4 v5) A m g l r :=
  (((((h.set hne 0 v0).set hne 1 v1).set hne 2 v2).set hne 3 v3).set hne 4 v4).set hne 5 v5

end Go.Proofs.YtcmbdhmhkfhjfaaGreat
namespace Go.Proofs.YtcmbdhmhkfhjfaaGreat
open Go.RowKit
set_option linter.unusedVariables false
theorem L.Li.grown {w w' : World} {A : Option Addr} {m g : Nat} {l r : List Bool} (h : L.Li w A m g l r) {row : Option Nat} (hg : w.grownBy w' row) (hne : A = none ∨ some g ≠ row) : L.Li w' A m g l r := by
  rcases h with h | ⟨h1, h2⟩
  · exact .inl h
  · exact .inr ⟨h1, (hg.block g (block_lt h2) (hne.resolve_left (by rw [h1]; simp))).trans h2⟩
theorem W.Li.grown {w w' : World} {A : Option Addr} {m g : Nat} {l r : List Int} (h : W.Li w A m g l r) {row : Option Nat} (hg : w.grownBy w' row) (hne : A = none ∨ some g ≠ row) : W.Li w' A m g l r := by
  rcases h with h | ⟨h1, h2⟩
  · exact .inl h
  · exact .inr ⟨h1, (hg.block g (block_lt h2) (hne.resolve_left (by rw [h1]; simp))).trans h2⟩
theorem POwn.grown {e : TypeId} {w w' : World} {base : Nat} {v : Value} {fl : List Int} (h : POwn e w base v fl) {row : Option Nat} (hg : w.grownBy w' row) (hne : ∀ g, v.ownBlock = some g → some g ≠ row) : POwn e w' base v fl := by
  rcases h with h | ⟨g, n, cap, r, rfl, h2, h3, h4, h5⟩
  · exact .inl h
  · exact .inr ⟨g, n, cap, r, rfl, h2, h3, (hg.block g (block_lt h4) (hne g rfl)).trans h4, h5⟩
end Go.Proofs.YtcmbdhmhkfhjfaaGreat
namespace Go.Proofs.YtcmbdhmhkfhjfaaGreat
open Go.RowKit
set_option linter.unusedVariables false

def chkQ (q : Req) : Int := chk q.c q.a q.n q.on.length q.set.length (q.fl.length / 3) q.fl
def getE (ys : List Int) : Int :=
  if ys.length = 0 then 1 else if mm (nth ys 0) ≤ 0 then 20 else if (ys.length : Int) < szOf ys then 1 else if szOf ys < (ys.length : Int) then 2 else if rdOk ys = false then 4 else chkQ (rdQ ys)
def getQ (ys : List Int) : Req := if getE ys = 0 then rdQ ys else Req.zero

end Go.Proofs.YtcmbdhmhkfhjfaaGreat
namespace Go.Proofs.YtcmbdhmhkfhjfaaGreat
open Go.RowKit
set_option linter.unusedVariables false

def pduQ (q : Req) : List Int := pduOf q q.on.length q.set.length (q.fl.length / 3)
end Go.Proofs.YtcmbdhmhkfhjfaaGreat
namespace Go.Proofs.YtcmbdhmhkfhjfaaGreat
open Go.RowKit
set_option linter.unusedVariables false

end Go.Proofs.YtcmbdhmhkfhjfaaGreat
namespace Go.Proofs.YtcmbdhmhkfhjfaaGreat
open Go.RowKit
set_option linter.unusedVariables false

def putL (q : Req) : List Int := if chkQ q = 0 then pduQ q else []
theorem chkQ_of {w : World} {B : Nat} {q : Req} {Ao As Ap : Option Addr} {lo ls lp : Nat} (h : Asked w B q Ao As Ap lo ls lp) : chk q.c q.a q.n lo ls lp q.fl = chkQ q := by
  rw [chkQ, h.lo, h.ls, h.lp, Nat.mul_div_cancel_left lp (by omega)]
theorem Check_Q (q : Req) (Ao As Ap : Option Addr) (lo ls lp co cs cp : Nat) (w : World) (h : Asked w w.heap.size q Ao As Ap lo ls lp) :
    Calls Tryz.prog 67 #[.agg #[.int .i64 q.c, .int .i64 q.a, .int .i64 q.n, .slice Ao lo co, .slice As ls cs, .slice Ap lp cp]] w fun e w' => e = .returned (.int .i64 (chkQ q)) ∧ Below w.heap.size w w' := by
  have h2 := Check_any q Ao As Ap lo ls lp co cs cp w h
  rwa [chkQ_of h] at h2

def ex3 : Req := ⟨3, 107, 3, [], [], []⟩
def ex3L : List Int := [3, 0, 107, 0, 3]
end Go.Proofs.YtcmbdhmhkfhjfaaGreat
namespace Go.Proofs.YtcmbdhmhkfhjfaaGreat
open Go.RowKit
set_option linter.unusedVariables false

end Go.Proofs.YtcmbdhmhkfhjfaaGreat
namespace Go.Proofs.YtcmbdhmhkfhjfaaGreat
open Go.RowKit
set_option linter.unusedVariables false
end Go.Proofs.YtcmbdhmhkfhjfaaGreat
namespace Go.Proofs.YtcmbdhmhkfhjfaaGreat
open Go.RowKit
set_option linter.unusedVariables false

end Go.Proofs.YtcmbdhmhkfhjfaaGreat
namespace Go.Proofs.YtcmbdhmhkfhjfaaGreat
open Go.RowKit
set_option linter.unusedVariables false
def wrB (c : Int) : Bool := decide (c = 5 ∨ c = 6 ∨ c = 15 ∨ c = 16)
end Go.Proofs.YtcmbdhmhkfhjfaaGreat
namespace Go.Proofs.YtcmbdhmhkfhjfaaGreat
open Go.RowKit
set_option linter.unusedVariables false
def lenR (ys : List Int) : Int := if (nth ys 0 = 15 ∨ nth ys 0 = 16) ∧ ys.length < 6 then -1 else if nth ys 0 = 20 ∧ ys.length < 2 then -1 else szOf ys
end Go.Proofs.YtcmbdhmhkfhjfaaGreat
namespace Go.Proofs.YtcmbdhmhkfhjfaaGreat
open Go.RowKit
set_option linter.unusedVariables false

structure TB (w0 : World) (B : Nat) (o1 o2 : Obj) (w : World) : Prop where
  ret : w.heap[B]? = some o1
  box : w.heap[B + 1]? = some o2
  bel : Below B w0 w
theorem TB.lt {w0 w : World} {B : Nat} {o1 o2 : Obj} (h : TB w0 B o1 o2 w) : B + 1 < w.heap.size := block_lt h.box
theorem TB.below {w0 w w' : World} {B : Nat} {o1 o2 : Obj} (h : TB w0 B o1 o2 w) (hb : Below w.heap.size w w') : TB w0 B o1 o2 w' := by
  have h1 := h.lt
  exact ⟨(hb.block B (by omega)).trans h.ret, (hb.block (B + 1) (by omega)).trans h.box, h.bel.trans (hb.mono (by omega))⟩
theorem TB.grown {w0 w w' : World} {B : Nat} {o1 o2 : Obj} {row : Option Nat} (h : TB w0 B o1 o2 w) (hg : w.grownBy w' row) (hr : ∀ g, row = some g → B + 2 ≤ g) : TB w0 B o1 o2 w' := by
  have h1 := h.lt
  have hn : ∀ k, k < B + 2 → some k ≠ row := fun k hk e => by have := hr k e.symm; omega
  refine ⟨(hg.block B (by omega) (hn _ (by omega))).trans h.ret, (hg.block (B + 1) (by omega) (hn _ (by omega))).trans h.box, ?_⟩
  exact ⟨hg.os.trans h.bel.os, hg.tape.trans h.bel.tape, hg.output.trans h.bel.output, by have := h.bel.size; have := hg.size; omega, fun k hk => (hg.block k (by omega) (hn _ (by omega))).trans (h.bel.block k hk)⟩
theorem TB.new (w : World) (c1 c2 : Array Value) (t : TypeId) : TB w w.heap.size (.cells c1 t (0, 0)) (.cells c2 t (0, 0)) ((w.alloc (.cells c1 t)).alloc (.cells c2 t)) :=
  ⟨(heap_alloc_old _ _ (by simp)).trans (heap_alloc_new w _), heap_new_at _ _ (by simp), (bel_alloc w _).alloc (by simp) _⟩
theorem TB.set {w0 w : World} {B : Nat} {o1 : Obj} {cs : Array Value} {t : TypeId} (h : TB w0 B o1 (.cells cs t (0, 0)) w) (i : Nat) (v : Value) : TB w0 B o1 (.cells (cs.setIfInBounds i v) t (0, 0)) (w.setCell ⟨B + 1, i, none⟩ v) :=
  ⟨(Below.heap_setCell w ⟨B + 1, i, none⟩ v B (by simp)).trans h.ret, box_set h.box i v, below_setCell h.bel (Nat.le_succ _) i v⟩
theorem L.Own.laid {k : Unit} {t : TypeId} {w : World} {base g : Nat} {l : List Bool} {n : Nat} (hg : w.heap[g]? = some (.cells (L.blk k l) t (0, 0))) (hb : base ≤ g) (hl : l.length = n) (hm : n ≤ maxLen) : L.Own k t w base (.slice (some ⟨g, 0, none⟩) n n) l := by
  subst hl
  exact ⟨by simp, .inr ⟨g, _, _, rfl, hb, hg, Nat.le_refl _, hm, by simp [L.blk], by rw [Nat.mul_one, List.take_of_length_le (by simp [L.blk])]; simp [L.blk]⟩⟩
theorem TB.c6 {w0 w : World} {B : Nat} {o1 : Obj} {t : TypeId} {v0 v1 v2 v3 v4 v5 : Value} (h : TB w0 B o1 (.cells #[v0, v1, v2, v3, v4, v5] t (0, 0)) w) :
    w.cell? ⟨B + 1, 0, none⟩ = some v0 ∧ w.cell? ⟨B + 1, 1, none⟩ = some v1 ∧ w.cell? ⟨B + 1, 2, none⟩ = some v2 ∧ w.cell? ⟨B + 1, 3, none⟩ = some v3 ∧ w.cell? ⟨B + 1, 4, none⟩ = some v4 ∧ w.cell? ⟨B + 1, 5, none⟩ = some v5 ∧ ∀ i, w.frozen? ⟨B + 1, i, none⟩ = false := by
  obtain ⟨⟨a, b, c⟩, ⟨d, e, f⟩, g⟩ := cells6 h.box
  exact ⟨a, b, c, d, e, f, g⟩
theorem TB.r6 {w0 w : World} {B : Nat} {o2 : Obj} {t : TypeId} {v0 v1 v2 v3 v4 v5 : Value} (h : TB w0 B (.cells #[v0, v1, v2, v3, v4, v5] t (0, 0)) o2 w) :
    w.cell? ⟨B, 0, none⟩ = some v0 ∧ w.cell? ⟨B, 1, none⟩ = some v1 ∧ w.cell? ⟨B, 2, none⟩ = some v2 ∧ w.cell? ⟨B, 3, none⟩ = some v3 ∧ w.cell? ⟨B, 4, none⟩ = some v4 ∧ w.cell? ⟨B, 5, none⟩ = some v5 ∧ ∀ i, w.frozen? ⟨B, i, none⟩ = false := by
  obtain ⟨⟨a, b, c⟩, ⟨d, e, f⟩, g⟩ := cells6 h.ret
  exact ⟨a, b, c, d, e, f, g⟩
theorem TB.put {w0 w : World} {B : Nat} {o2 : Obj} {t : TypeId} {u0 u1 u2 u3 u4 u5 : Value} (h : TB w0 B (.cells #[u0, u1, u2, u3, u4, u5] t (0, 0)) o2 w) (v0 v1 v2 v3 v4 v5 : Value) :
    (put6 w B v0 v1 v2 v3 v4 v5).heap[B]? = some (.cells #[v0, v1, v2, v3, v4, v5] t (0, 0)) ∧ Below B w0 (put6 w B v0 v1 v2 v3 v4 v5) :=
  ⟨put6_heap h.ret v0 v1 v2 v3 v4 v5, below_put6 h.bel (Nat.le_refl _) v0 v1 v2 v3 v4 v5⟩

theorem TB.drew {w0 w : World} {B : Nat} {o1 o2 : Obj} (h : TB w0 B o1 o2 w) : TB w0 B o1 o2 w.drew := h.below ⟨rfl, rfl, rfl, Nat.le_refl _, fun _ _ => rfl⟩
theorem TB.alloc {w0 w : World} {B : Nat} {o1 o2 : Obj} (h : TB w0 B o1 o2 w) (o : Obj) : TB w0 B o1 o2 (w.alloc o) := h.below (bel_alloc w o)
theorem TB.all {w0 w : World} {B : Nat} {o1 : Obj} {t : TypeId} {v0 v1 v2 v3 v4 v5 u : Value} {b i : Nat} (h : TB w0 B o1 (.cells #[v0, v1, v2, v3, v4, v5] t (0, 0)) w) (hb : b < B) (hc : w0.cell? ⟨b, i, none⟩ = some u) :
    w.cell? ⟨b, i, none⟩ = some u ∧ w.cell? ⟨B + 1, 0, none⟩ = some v0 ∧ w.cell? ⟨B + 1, 1, none⟩ = some v1 ∧ w.cell? ⟨B + 1, 2, none⟩ = some v2 ∧ w.cell? ⟨B + 1, 3, none⟩ = some v3 ∧ w.cell? ⟨B + 1, 4, none⟩ = some v4 ∧ w.cell? ⟨B + 1, 5, none⟩ = some v5 ∧ ∀ i, w.frozen? ⟨B + 1, i, none⟩ = false :=
  ⟨(h.bel.cell (p := ⟨b, i, none⟩) hb).trans hc, h.c6⟩

theorem TB.st {w0 w : World} {B : Nat} {o1 : Obj} {t : TypeId} {v0 v1 v2 v3 v4 v5 u : Value} {b i : Nat} (h : TB w0 B o1 (.cells #[v0, v1, v2, v3, v4, v5] t (0, 0)) w) (hb : b < B) (hc : w0.cell? ⟨b, i, none⟩ = some u) :
    w.cell? ⟨b, i, none⟩ = some u ∧ ∀ i, w.frozen? ⟨B + 1, i, none⟩ = false :=
  ⟨(h.bel.cell (p := ⟨b, i, none⟩) hb).trans hc, h.c6.2.2.2.2.2.2⟩

def Fresh (B : Nat) (A : Option Addr) : Prop := ∀ b o f, A = some ⟨b, o, f⟩ → B ≤ b
theorem Fresh.nil (B : Nat) : Fresh B none := fun _ _ _ h => by cases h
theorem Fresh.at {B g o : Nat} {f : Option Nat} (h : B ≤ g) : Fresh B (some ⟨g, o, f⟩) := fun b o f e => by injection e with e; injection e with e1; omega
theorem Fresh.own {k : IntKind} {e : TypeId} {w : World} {base n c B : Nat} {A : Option Addr} {xs : List Int} (h : Own k e w base (.slice A n c) xs) (hB : B ≤ base) : Fresh B A := by
  rcases h.2 with ⟨h, _⟩ | ⟨g, cap, cur, h, hb, _⟩
  · injection h with h; subst h; exact Fresh.nil _
  · injection h with h; subst h; exact Fresh.at (Nat.le_trans hB hb)
def RSaid (w : World) (ys : List Int) (e : Ending) (w' : World) : Prop :=
  ∃ (q : Req) (A1 A2 A3 : Option Addr) (m1 m2 m3 c1 c2 c3 : Nat) (ok : Bool), e = .returned (.tuple #[.agg #[.int .i64 q.c, .int .i64 q.a, .int .i64 q.n, .slice A1 m1 c1, .slice A2 m2 c2, .slice A3 m3 c3], .bool ok]) ∧
    Asked w' w'.heap.size q A1 A2 A3 m1 m2 m3 ∧ Below w.heap.size w w' ∧ (Fresh w.heap.size A1 ∧ Fresh w.heap.size A2 ∧ Fresh w.heap.size A3) ∧ (ok = true ∧ rdOk ys = true ∧ q = rdQ ys ∨ ok = false ∧ rdOk ys = false)
theorem Row.tb {k : IntKind} {w0 w : World} {B : Nat} {o1 o2 : Obj} {A : Option Addr} {xs : List Int} (h : Row k w0 B A xs) (ht : TB w0 B o1 o2 w) : Row k w B A xs := h.below ht.bel

end Go.Proofs.YtcmbdhmhkfhjfaaGreat
namespace Go.Proofs.YtcmbdhmhkfhjfaaGreat
open Go.RowKit
set_option linter.unusedVariables false

structure Rep where
  x : Int
  on : List Bool
  set : List Int
  fs : List (List Int)
def Rep.zero : Rep := ⟨0, [], [], []⟩
def nthF (fs : List (List Int)) (i : Nat) : List Int := fs.getD i []
def FRow (w : World) (B : Nat) (A : Option Addr) (fs : List (List Int)) : Prop :=
  0 < fs.length → ∃ b o, A = some ⟨b, o, none⟩ ∧ b < B ∧ ∀ i, i < fs.length → ∃ Ai ci, w.cell? ⟨b, o + i, none⟩ = some (.slice Ai (nthF fs i).length ci) ∧ Row .u16 w B Ai (nthF fs i) ∧ (nthF fs i).length ≤ ci
theorem FRow.nil (w : World) (B : Nat) (A : Option Addr) : FRow w B A [] := fun h => absurd h (by simp)
theorem FRow.below {w w' : World} {B : Nat} {A : Option Addr} {fs : List (List Int)} (h : FRow w B A fs) (hb : Below B w w') : FRow w' B A fs := fun h0 => by
  obtain ⟨b, o, hA, hB, hc⟩ := h h0
  refine ⟨b, o, hA, hB, fun i hi => ?_⟩
  obtain ⟨Ai, ci, h1, h2, h3⟩ := hc i hi
  exact ⟨Ai, ci, (hb.cell (p := ⟨b, o + i, none⟩) hB).trans h1, h2.below hb, h3⟩
theorem FRow.more {w : World} {B B' : Nat} {A : Option Addr} {fs : List (List Int)} (h : FRow w B A fs) (hB : B ≤ B') : FRow w B' A fs := fun h0 => by
  obtain ⟨b, o, hA, hb, hc⟩ := h h0
  refine ⟨b, o, hA, by omega, fun i hi => ?_⟩
  obtain ⟨Ai, ci, h1, h2, h3⟩ := hc i hi
  exact ⟨Ai, ci, h1, h2.more hB, h3⟩
structure Repd (w : World) (B : Nat) (r : Rep) (Bo Bs Bf : Option Addr) (mo ms mf : Nat) : Prop where
  on : L.Row () w B Bo r.on
  set : Row .u16 w B Bs r.set
  fs : FRow w B Bf r.fs
  mo : r.on.length = mo
  ms : r.set.length = ms
  mf : r.fs.length = mf
theorem Repd.below {w w' : World} {B : Nat} {r : Rep} {Bo Bs Bf : Option Addr} {mo ms mf : Nat} (h : Repd w B r Bo Bs Bf mo ms mf) (hb : Below B w w') : Repd w' B r Bo Bs Bf mo ms mf :=
  ⟨h.on.below hb, h.set.below hb, h.fs.below hb, h.mo, h.ms, h.mf⟩
theorem Repd.more {w : World} {B B' : Nat} {r : Rep} {Bo Bs Bf : Option Addr} {mo ms mf : Nat} (h : Repd w B r Bo Bs Bf mo ms mf) (hB : B ≤ B') : Repd w B' r Bo Bs Bf mo ms mf :=
  ⟨h.on.more hB, h.set.more hB, h.fs.more hB, h.mo, h.ms, h.mf⟩
theorem Repd.up {w w' : World} {r : Rep} {Bo Bs Bf : Option Addr} {mo ms mf : Nat} (h : Repd w w.heap.size r Bo Bs Bf mo ms mf) (hb : Below w.heap.size w w') : Repd w' w'.heap.size r Bo Bs Bf mo ms mf :=
  (h.below hb).more hb.size
theorem Repd.zero (w : World) (B : Nat) (x : Int) : Repd w B ⟨x, [], [], []⟩ none none none 0 0 0 := ⟨L.Row.nil _ _ _ _, Row.nil _ _ _ _, FRow.nil _ _ _, rfl, rfl, rfl⟩

theorem TB.c4 {w0 w : World} {B : Nat} {o1 : Obj} {t : TypeId} {v0 v1 v2 v3 : Value} (h : TB w0 B o1 (.cells #[v0, v1, v2, v3] t (0, 0)) w) :
    w.cell? ⟨B + 1, 0, none⟩ = some v0 ∧ w.cell? ⟨B + 1, 1, none⟩ = some v1 ∧ w.cell? ⟨B + 1, 2, none⟩ = some v2 ∧ w.cell? ⟨B + 1, 3, none⟩ = some v3 ∧ ∀ i, w.frozen? ⟨B + 1, i, none⟩ = false :=
  ⟨cell_of_row w _ 0 _ _ _ h.box, cell_of_row w _ 1 _ _ _ h.box, cell_of_row w _ 2 _ _ _ h.box, cell_of_row w _ 3 _ _ _ h.box, fun i => block_frozen w _ i _ _ h.box⟩

theorem isExc_any (n : Int) (w : World) : Calls Tryz.prog 108 #[.int .i64 n] w fun e w' => e = .returned (.bool (decide (1 ≤ n ∧ n ≤ 127))) ∧ w' = w := by
  go_enter Tryz.func108, Tryz.ntmps108
  go_wp2
  all_goals (go_ret; refine ⟨?_, rfl⟩; first | rfl | (simp [*]; done) | (simp [*]; omega))

def anyB (mo ms mf : Nat) : Bool := decide (0 < mo) || decide (0 < ms) || decide (0 < mf)
theorem hasList_any (x : Int) (Bo Bs Bf : Option Addr) (mo ms mf eo es ef : Nat) (w : World) :
    Calls Tryz.prog 109 #[.agg #[.int .i64 x, .slice Bo mo eo, .slice Bs ms es, .slice Bf mf ef]] w fun e w' => e = .returned (.bool (anyB mo ms mf)) ∧ Below w.heap.size w w' := by
  have h : anyB mo ms mf = (decide (0 < (mo : Int)) || decide (0 < (ms : Int)) || decide (0 < (mf : Int))) := by simp [anyB]
  rw [h]
  clear h
  go_enter Tryz.func109, Tryz.ntmps109
  go_wp2
  all_goals (go_ret; refine ⟨?_, bel_alloc _ _⟩; first | rfl | (simp [*]; done) | (simp [*]; omega))

def strayB (c : Int) (mo ms mf : Nat) : Bool := anyB (if c = 1 ∨ c = 2 then 0 else mo) (if c = 3 ∨ c = 4 then 0 else ms) (if c = 20 then 0 else mf)
theorem rpStray_bits (c x : Int) (Bo Bs Bf : Option Addr) (mo ms mf eo es ef : Nat) (w : World) (hc : c = 1 ∨ c = 2) :
    Calls Tryz.prog 77 #[.int .i64 c, .agg #[.int .i64 x, .slice Bo mo eo, .slice Bs ms es, .slice Bf mf ef]] w fun e w' => e = .returned (.bool (strayB c mo ms mf)) ∧ Below w.heap.size w w' := by
  have HS : Hid (strayB c mo ms mf = anyB 0 ms mf) := Lib.hid (by rw [strayB, if_pos hc, if_neg (by omega), if_neg (by omega)])
  rw [HS.out]
  rcases hc with rfl | rfl
  all_goals
    go_enter Tryz.func77, Tryz.ntmps77
    go_wp2_with fail
    refine (hasList_any x none Bs Bf 0 ms mf 0 es ef _).mono ?_
    rintro e w1 ⟨rfl, b1⟩
    go_wp2
    go_ret
    exact ⟨rfl, (bel_alloc w _).trans (b1.mono (by simp))⟩
theorem rpStray_words (c x : Int) (Bo Bs Bf : Option Addr) (mo ms mf eo es ef : Nat) (w : World) (hc : c = 3 ∨ c = 4) :
    Calls Tryz.prog 77 #[.int .i64 c, .agg #[.int .i64 x, .slice Bo mo eo, .slice Bs ms es, .slice Bf mf ef]] w fun e w' => e = .returned (.bool (strayB c mo ms mf)) ∧ Below w.heap.size w w' := by
  have HS : Hid (strayB c mo ms mf = anyB mo 0 mf) := Lib.hid (by rw [strayB, if_neg (by omega), if_pos hc, if_neg (by omega)])
  rw [HS.out]
  rcases hc with rfl | rfl
  all_goals
    go_enter Tryz.func77, Tryz.ntmps77
    go_wp2_with fail
    refine (hasList_any x Bo none Bf mo 0 mf eo 0 ef _).mono ?_
    rintro e w1 ⟨rfl, b1⟩
    go_wp2
    go_ret
    exact ⟨rfl, (bel_alloc w _).trans (b1.mono (by simp))⟩
theorem rpStray_file (x : Int) (Bo Bs Bf : Option Addr) (mo ms mf eo es ef : Nat) (w : World) :
    Calls Tryz.prog 77 #[.int .i64 20, .agg #[.int .i64 x, .slice Bo mo eo, .slice Bs ms es, .slice Bf mf ef]] w fun e w' => e = .returned (.bool (strayB 20 mo ms mf)) ∧ Below w.heap.size w w' := by
  have HS : Hid (strayB 20 mo ms mf = anyB mo ms 0) := Lib.hid (by rw [strayB, if_neg (by omega), if_neg (by omega), if_pos rfl])
  rw [HS.out]
  go_enter Tryz.func77, Tryz.ntmps77
  go_wp2_with fail
  refine (hasList_any x Bo Bs none mo ms 0 eo es 0 _).mono ?_
  rintro e w1 ⟨rfl, b1⟩
  go_wp2
  go_ret
  exact ⟨rfl, (bel_alloc w _).trans (b1.mono (by simp))⟩
theorem rpStray_else (c x : Int) (Bo Bs Bf : Option Addr) (mo ms mf eo es ef : Nat) (w : World) (h1 : ¬ (c = 1 ∨ c = 2)) (h2 : ¬ (c = 3 ∨ c = 4)) (h3 : c ≠ 20) :
    Calls Tryz.prog 77 #[.int .i64 c, .agg #[.int .i64 x, .slice Bo mo eo, .slice Bs ms es, .slice Bf mf ef]] w fun e w' => e = .returned (.bool (strayB c mo ms mf)) ∧ Below w.heap.size w w' := by
  have HS : Hid (strayB c mo ms mf = anyB mo ms mf) := Lib.hid (by rw [strayB, if_neg h1, if_neg h2, if_neg h3])
  rw [HS.out]
  have b1 : (c == 1) = false := beq_false_of_ne (by omega)
  have b2 : (c == 2) = false := beq_false_of_ne (by omega)
  have b3 : (c == 3) = false := beq_false_of_ne (by omega)
  have b4 : (c == 4) = false := beq_false_of_ne (by omega)
  have b5 : (c == 20) = false := beq_false_of_ne h3
  clear h1 h2 h3
  go_enter Tryz.func77, Tryz.ntmps77
  go_wp2_with fail
  refine (hasList_any x Bo Bs Bf mo ms mf eo es ef _).mono ?_
  rintro e w1 ⟨rfl, b1⟩
  go_wp2
  go_ret
  exact ⟨rfl, (bel_alloc w _).trans (b1.mono (by simp))⟩
theorem rpStray_any (c x : Int) (Bo Bs Bf : Option Addr) (mo ms mf eo es ef : Nat) (w : World) :
    Calls Tryz.prog 77 #[.int .i64 c, .agg #[.int .i64 x, .slice Bo mo eo, .slice Bs ms es, .slice Bf mf ef]] w fun e w' => e = .returned (.bool (strayB c mo ms mf)) ∧ Below w.heap.size w w' := by
  by_cases h1 : c = 1 ∨ c = 2
  · exact rpStray_bits c x Bo Bs Bf mo ms mf eo es ef w h1
  · by_cases h2 : c = 3 ∨ c = 4
    · exact rpStray_words c x Bo Bs Bf mo ms mf eo es ef w h2
    · by_cases h3 : c = 20
      · subst h3; exact rpStray_file x Bo Bs Bf mo ms mf eo es ef w
      · exact rpStray_else c x Bo Bs Bf mo ms mf eo es ef w h1 h2 h3

theorem checkExc_any (x : Int) (Bo Bs Bf : Option Addr) (mo ms mf eo es ef : Nat) (w : World) :
    Calls Tryz.prog 76 #[.agg #[.int .i64 x, .slice Bo mo eo, .slice Bs ms es, .slice Bf mf ef]] w fun e w' => e = .returned (.int .i64 (if 1 ≤ x ∧ x ≤ 127 then (if anyB mo ms mf = true then 23 else 0) else 3)) ∧ Below w.heap.size w w' := by
  obtain ⟨u, hu⟩ : ∃ u, Hid (decide (1 ≤ x ∧ x ≤ 127) = u) := ⟨_, Lib.hid rfl⟩
  obtain ⟨v, hv⟩ : ∃ v, Hid (anyB mo ms mf = v) := ⟨_, Lib.hid rfl⟩
  obtain ⟨E, hE⟩ : ∃ E : Int, Hid ((if 1 ≤ x ∧ x ≤ 127 then (if anyB mo ms mf = true then 23 else 0) else 3) = E) := ⟨_, Lib.hid rfl⟩
  rw [hE.out]
  have bx := bel_alloc w (.cells #[.int .i64 x, .slice Bo mo eo, .slice Bs ms es, .slice Bf mf ef] 30)
  cases u with
  | false =>
    have h1 : Hid (E = 3) := Lib.hid (by rw [← hE.out, if_neg (of_decide_eq_false hu.out)])
    go_enter Tryz.func76, Tryz.ntmps76
    go_wp2_with fail
    refine (isExc_any x _).mono ?_
    rintro e w1 ⟨rfl, rfl⟩
    rw [hu.out]
    go_wp2
    go_ret
    exact ⟨by rw [h1.out]; rfl, bx⟩
  | true =>
    have h1 : Hid (E = if v = true then 23 else 0) := Lib.hid (by rw [← hE.out, if_pos (of_decide_eq_true hu.out), hv.out])
    cases v with
    | true =>
      go_enter Tryz.func76, Tryz.ntmps76
      go_wp2_with fail
      refine (isExc_any x _).mono ?_
      rintro e w1 ⟨rfl, rfl⟩
      rw [hu.out]
      go_wp2_with fail
      refine (hasList_any x Bo Bs Bf mo ms mf eo es ef _).mono ?_
      rintro e w1 ⟨rfl, b1⟩
      rw [hv.out]
      go_wp2
      go_ret
      exact ⟨by rw [h1.out]; rfl, bx.trans (b1.mono (by simp))⟩
    | false =>
      go_enter Tryz.func76, Tryz.ntmps76
      go_wp2_with fail
      refine (isExc_any x _).mono ?_
      rintro e w1 ⟨rfl, rfl⟩
      rw [hu.out]
      go_wp2_with fail
      refine (hasList_any x Bo Bs Bf mo ms mf eo es ef _).mono ?_
      rintro e w1 ⟨rfl, b1⟩
      rw [hv.out]
      go_wp2
      go_ret
      exact ⟨by rw [h1.out]; rfl, bx.trans (b1.mono (by simp))⟩
end Go.Proofs.YtcmbdhmhkfhjfaaGreat
