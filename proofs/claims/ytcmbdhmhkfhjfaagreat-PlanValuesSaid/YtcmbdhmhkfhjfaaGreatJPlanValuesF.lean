/-
  Texts of the proof of PlanValues, joined.
-/
import Derived.Test.YtcmbdhmhkfhjfaaGreatJPlanValuesE
import Derived.Test.YtcmbdhmhkfhjfaaGreatJPlanValuesC
import Derived.Laws.MakeOwn
import Derived.Laws.Strings
namespace Go.Proofs.YtcmbdhmhkfhjfaaGreat
open Go.RowKit
set_option linter.unusedVariables false
set_option maxRecDepth 100000
attribute [local go_sem ↓] ldTag_fold

theorem Width9_any (nm : ByteArray) (un ki ad ev : Int) (we sg sw : Bool) (mu di aa de qu : Int) (ul uh la : Bool) (lo hi hy : Int) (w : World) : Calls Tryz.prog 44 #[.agg #[.string nm, .int .i64 un, .int .i64 ki, .int .i64 ad, .int .i64 ev, .bool we, .bool sg, .bool sw, .int .i64 mu, .int .i64 di, .int .i64 aa, .int .i64 de, .int .i64 qu, .bool ul, .bool uh, .bool la, .int .i64 lo, .int .i64 hi, .int .i64 hy]] w fun e w' => e = .returned (.int .i64 (widT ⟨nm, un, ki, ad, ev, we, sg, sw, mu, di, aa, de, qu, ul, uh, la, lo, hi, hy⟩)) ∧ Below w.heap.size w w' := by
  have bel := bel_alloc w (.cells #[.string nm, .int .i64 un, .int .i64 ki, .int .i64 ad, .int .i64 ev, .bool we, .bool sg, .bool sw, .int .i64 mu, .int .i64 di, .int .i64 aa, .int .i64 de, .int .i64 qu, .bool ul, .bool uh, .bool la, .int .i64 lo, .int .i64 hi, .int .i64 hy] 51)
  cases we
  · have HW : Hid (widT ⟨nm, un, ki, ad, ev, false, sg, sw, mu, di, aa, de, qu, ul, uh, la, lo, hi, hy⟩ = 1) := Lib.hid (by simp [widT])
    rw [HW.out]
    go_enter Tryz.func44, Tryz.ntmps44
    go_wp2
    go_ret
    exact ⟨rfl, bel⟩
  by_cases h3 : ki = 3
  · subst h3
    have HW : Hid (widT ⟨nm, un, 3, ad, ev, true, sg, sw, mu, di, aa, de, qu, ul, uh, la, lo, hi, hy⟩ = 2) := Lib.hid rfl
    rw [HW.out]
    go_enter Tryz.func44, Tryz.ntmps44
    go_wp2
    go_ret
    exact ⟨rfl, bel⟩
  by_cases h4 : ki = 4
  · subst h4
    have HW : Hid (widT ⟨nm, un, 4, ad, ev, true, sg, sw, mu, di, aa, de, qu, ul, uh, la, lo, hi, hy⟩ = 2) := Lib.hid rfl
    rw [HW.out]
    go_enter Tryz.func44, Tryz.ntmps44
    go_wp2
    go_ret
    exact ⟨rfl, bel⟩
  · have HW : Hid (widT ⟨nm, un, ki, ad, ev, true, sg, sw, mu, di, aa, de, qu, ul, uh, la, lo, hi, hy⟩ = 1) := Lib.hid (by simp [widT, h3, h4])
    have e3 : (ki == 3) = false := beq_false_of_ne h3
    have e4 : (ki == 4) = false := beq_false_of_ne h4
    rw [HW.out]
    go_enter Tryz.func44, Tryz.ntmps44
    go_wp2
    go_ret
    exact ⟨rfl, bel⟩

def lieB (v a b : Int) : Bool := decide (v ≥ a) && decide (v ≤ b)
theorem lies_any (v a b : Int) (w : World) : Calls Tryz.prog 115 #[.int .i64 v, .int .i64 a, .int .i64 b] w fun e w' => e = .returned (.bool (lieB v a b)) ∧ w' = w := by
  by_cases h : v ≥ a
  · have HB : Hid (lieB v a b = decide (v ≤ b)) := Lib.hid (by unfold lieB; rw [decide_eq_true h, Bool.true_and])
    rw [HB.out]
    go_enter Tryz.func115, Tryz.ntmps115
    go_wp2
    go_ret
    exact ⟨rfl, rfl⟩
  · have HB : Hid (lieB v a b = false) := Lib.hid (by unfold lieB; rw [decide_eq_false h, Bool.false_and])
    rw [HB.out]
    go_enter Tryz.func115, Tryz.ntmps115
    go_wp2
    go_ret
    exact ⟨rfl, rfl⟩
theorem lieB_yes {v a b : Int} (h1 : ¬ v < a) (h2 : ¬ v > b) : lieB v a b = true := by
  unfold lieB; rw [decide_eq_true (show v ≥ a by omega), decide_eq_true (show v ≤ b by omega)]; rfl
theorem lieB_low {v a b : Int} (h1 : v < a) : lieB v a b = false := by
  unfold lieB; rw [decide_eq_false (show ¬ v ≥ a by omega)]; rfl
theorem lieB_high {v a b : Int} (h1 : v > b) : lieB v a b = false := by
  unfold lieB; rw [decide_eq_false (show ¬ v ≤ b by omega), Bool.and_false]

/-- What is wrong with what a tag's words mean. -/
def meanT (t : Tg) : Int :=
  bif !decide (t.sc.Ok) then 25
  else bif decide (t.ki ≤ 2) && !bitS t then 25
  else bif !decide (chkB t.de t.qu = 0) then 26
  else chkL t.li
theorem mean_cases (t : Tg) (P : Prop) (c10 : chkS t.sc = 25 → meanT t = 25 → P) (c11 : chkS t.sc = 0 → t.ki ≤ 2 → bitS t = false → meanT t = 25 → P)
    (c12 : chkS t.sc = 0 → (¬ t.ki ≤ 2 ∨ bitS t = true) → chkB t.de t.qu = 26 → meanT t = 26 → P)
    (c13 : chkS t.sc = 0 → (¬ t.ki ≤ 2 ∨ bitS t = true) → chkB t.de t.qu = 0 → meanT t = chkL t.li → P) : P := by
  unfold meanT at c10 c11 c12 c13
  by_cases h10 : t.sc.Ok
  case neg => exact c10 (chkS_no h10) (by simp [h10])
  have hs := chkS_yes h10
  by_cases h11 : t.ki ≤ 2 ∧ bitS t = false
  · exact c11 hs h11.1 h11.2 (by simp [h10, h11])
  have h12 : (decide (t.ki ≤ 2) && !bitS t) = false := by
    by_cases h : t.ki ≤ 2
    · cases hb : bitS t
      · exact absurd ⟨h, hb⟩ h11
      · simp
    · simp [h]
  have h13 : ¬ t.ki ≤ 2 ∨ bitS t = true := by
    by_cases h : t.ki ≤ 2
    · cases hb : bitS t
      · exact absurd ⟨h, hb⟩ h11
      · exact .inr rfl
    · exact .inl h
  rcases chkB_two t.de t.qu with hb | hb
  · exact c13 hs h13 hb (by simp only [decide_eq_true h10, h12, hb]; rfl)
  · exact c12 hs h13 hb (by simp only [decide_eq_true h10, h12, hb]; rfl)
set_option maxHeartbeats 1000000 in
theorem cm_10 (nm : ByteArray) (un ki ad ev : Int) (we sg sw : Bool) (mu di aa de qu : Int) (ul uh la : Bool) (lo hi hy : Int) (w : World) (S0 : chkS ⟨we, sg, sw, mu, di, aa⟩ = 25) : Calls Tryz.prog 116 #[.agg #[.string nm, .int .i64 un, .int .i64 ki, .int .i64 ad, .int .i64 ev, .bool we, .bool sg, .bool sw, .int .i64 mu, .int .i64 di, .int .i64 aa, .int .i64 de, .int .i64 qu, .bool ul, .bool uh, .bool la, .int .i64 lo, .int .i64 hi, .int .i64 hy]] w fun e w' => e = .returned (.int .i64 25) ∧ Below w.heap.size w w' := by
  have h0 := heap_alloc_new w (.cells #[.string nm, .int .i64 un, .int .i64 ki, .int .i64 ad, .int .i64 ev, .bool we, .bool sg, .bool sw, .int .i64 mu, .int .i64 di, .int .i64 aa, .int .i64 de, .int .i64 qu, .bool ul, .bool uh, .bool la, .int .i64 lo, .int .i64 hi, .int .i64 hy] 51)
  have bel0 := bel_alloc w (.cells #[.string nm, .int .i64 un, .int .i64 ki, .int .i64 ad, .int .i64 ev, .bool we, .bool sg, .bool sw, .int .i64 mu, .int .i64 di, .int .i64 aa, .int .i64 de, .int .i64 qu, .bool ul, .bool uh, .bool la, .int .i64 lo, .int .i64 hi, .int .i64 hy] 51)
  have hld := ldTag_run (b := w.heap.size) (o := 0) rfl (rangeB (cs := [.string nm, .int .i64 un, .int .i64 ki, .int .i64 ad, .int .i64 ev, .bool we, .bool sg, .bool sw, .int .i64 mu, .int .i64 di, .int .i64 aa, .int .i64 de, .int .i64 qu, .bool ul, .bool uh, .bool la, .int .i64 lo, .int .i64 hi, .int .i64 hy]) h0)
  go_enter Tryz.func116, Tryz.ntmps116
  go_wp2_with fail
  refine (Check6_any we sg sw mu di aa _).mono ?_
  rintro e w1 ⟨rfl, b1⟩
  rw [S0]
  have h1 := keepB b1 h0
  have bel1 := bel0.trans (b1.mono bel0.size)
  clear hld b1 h0 bel0
  obtain ⟨c0, c1, c2, c3, c4, c5, c6, c7, c8, c9, c10, c11, c12, c13, c14, c15, c16, c17, c18⟩ := of19 nm un ki ad ev we sg sw mu di aa de qu ul uh la lo hi hy h1
  go_wp2
  go_ret
  exact ⟨rfl, bel1⟩
set_option maxHeartbeats 1000000 in
theorem cm_11we1 (nm : ByteArray) (un ad ev : Int) (sg sw : Bool) (mu di aa de qu : Int) (ul uh la : Bool) (lo hi hy : Int) (w : World) (S : chkS ⟨true, sg, sw, mu, di, aa⟩ = 0)  : Calls Tryz.prog 116 #[.agg #[.string nm, .int .i64 un, .int .i64 1, .int .i64 ad, .int .i64 ev, .bool true, .bool sg, .bool sw, .int .i64 mu, .int .i64 di, .int .i64 aa, .int .i64 de, .int .i64 qu, .bool ul, .bool uh, .bool la, .int .i64 lo, .int .i64 hi, .int .i64 hy]] w fun e w' => e = .returned (.int .i64 25) ∧ Below w.heap.size w w' := by
  have h0 := heap_alloc_new w (.cells #[.string nm, .int .i64 un, .int .i64 1, .int .i64 ad, .int .i64 ev, .bool true, .bool sg, .bool sw, .int .i64 mu, .int .i64 di, .int .i64 aa, .int .i64 de, .int .i64 qu, .bool ul, .bool uh, .bool la, .int .i64 lo, .int .i64 hi, .int .i64 hy] 51)
  have bel0 := bel_alloc w (.cells #[.string nm, .int .i64 un, .int .i64 1, .int .i64 ad, .int .i64 ev, .bool true, .bool sg, .bool sw, .int .i64 mu, .int .i64 di, .int .i64 aa, .int .i64 de, .int .i64 qu, .bool ul, .bool uh, .bool la, .int .i64 lo, .int .i64 hi, .int .i64 hy] 51)
  have hld := ldTag_run (b := w.heap.size) (o := 0) rfl (rangeB (cs := [.string nm, .int .i64 un, .int .i64 1, .int .i64 ad, .int .i64 ev, .bool true, .bool sg, .bool sw, .int .i64 mu, .int .i64 di, .int .i64 aa, .int .i64 de, .int .i64 qu, .bool ul, .bool uh, .bool la, .int .i64 lo, .int .i64 hi, .int .i64 hy]) h0)
  go_enter Tryz.func116, Tryz.ntmps116
  go_wp2_with fail
  refine (Check6_any true sg sw mu di aa _).mono ?_
  rintro e w1 ⟨rfl, b1⟩
  rw [S]
  have h1 := keepB b1 h0
  have bel1 := bel0.trans (b1.mono bel0.size)
  clear hld b1 h0 bel0
  obtain ⟨c0, c1, c2, c3, c4, c5, c6, c7, c8, c9, c10, c11, c12, c13, c14, c15, c16, c17, c18⟩ := of19 nm un 1 ad ev true sg sw mu di aa de qu ul uh la lo hi hy h1
  go_wp2
  go_ret
  exact ⟨rfl, bel1⟩
set_option maxHeartbeats 1000000 in
theorem cm_11sg1 (nm : ByteArray) (un ad ev : Int) (we sw : Bool) (mu di aa de qu : Int) (ul uh la : Bool) (lo hi hy : Int) (w : World) (S : chkS ⟨we, true, sw, mu, di, aa⟩ = 0)  : Calls Tryz.prog 116 #[.agg #[.string nm, .int .i64 un, .int .i64 1, .int .i64 ad, .int .i64 ev, .bool we, .bool true, .bool sw, .int .i64 mu, .int .i64 di, .int .i64 aa, .int .i64 de, .int .i64 qu, .bool ul, .bool uh, .bool la, .int .i64 lo, .int .i64 hi, .int .i64 hy]] w fun e w' => e = .returned (.int .i64 25) ∧ Below w.heap.size w w' := by
  have h0 := heap_alloc_new w (.cells #[.string nm, .int .i64 un, .int .i64 1, .int .i64 ad, .int .i64 ev, .bool we, .bool true, .bool sw, .int .i64 mu, .int .i64 di, .int .i64 aa, .int .i64 de, .int .i64 qu, .bool ul, .bool uh, .bool la, .int .i64 lo, .int .i64 hi, .int .i64 hy] 51)
  have bel0 := bel_alloc w (.cells #[.string nm, .int .i64 un, .int .i64 1, .int .i64 ad, .int .i64 ev, .bool we, .bool true, .bool sw, .int .i64 mu, .int .i64 di, .int .i64 aa, .int .i64 de, .int .i64 qu, .bool ul, .bool uh, .bool la, .int .i64 lo, .int .i64 hi, .int .i64 hy] 51)
  have hld := ldTag_run (b := w.heap.size) (o := 0) rfl (rangeB (cs := [.string nm, .int .i64 un, .int .i64 1, .int .i64 ad, .int .i64 ev, .bool we, .bool true, .bool sw, .int .i64 mu, .int .i64 di, .int .i64 aa, .int .i64 de, .int .i64 qu, .bool ul, .bool uh, .bool la, .int .i64 lo, .int .i64 hi, .int .i64 hy]) h0)
  go_enter Tryz.func116, Tryz.ntmps116
  go_wp2_with fail
  refine (Check6_any we true sw mu di aa _).mono ?_
  rintro e w1 ⟨rfl, b1⟩
  rw [S]
  have h1 := keepB b1 h0
  have bel1 := bel0.trans (b1.mono bel0.size)
  clear hld b1 h0 bel0
  obtain ⟨c0, c1, c2, c3, c4, c5, c6, c7, c8, c9, c10, c11, c12, c13, c14, c15, c16, c17, c18⟩ := of19 nm un 1 ad ev we true sw mu di aa de qu ul uh la lo hi hy h1
  go_wp2
  go_ret
  exact ⟨rfl, bel1⟩
set_option maxHeartbeats 1000000 in
theorem cm_11sw1 (nm : ByteArray) (un ad ev : Int) (we sg : Bool) (mu di aa de qu : Int) (ul uh la : Bool) (lo hi hy : Int) (w : World) (S : chkS ⟨we, sg, true, mu, di, aa⟩ = 0)  : Calls Tryz.prog 116 #[.agg #[.string nm, .int .i64 un, .int .i64 1, .int .i64 ad, .int .i64 ev, .bool we, .bool sg, .bool true, .int .i64 mu, .int .i64 di, .int .i64 aa, .int .i64 de, .int .i64 qu, .bool ul, .bool uh, .bool la, .int .i64 lo, .int .i64 hi, .int .i64 hy]] w fun e w' => e = .returned (.int .i64 25) ∧ Below w.heap.size w w' := by
  have h0 := heap_alloc_new w (.cells #[.string nm, .int .i64 un, .int .i64 1, .int .i64 ad, .int .i64 ev, .bool we, .bool sg, .bool true, .int .i64 mu, .int .i64 di, .int .i64 aa, .int .i64 de, .int .i64 qu, .bool ul, .bool uh, .bool la, .int .i64 lo, .int .i64 hi, .int .i64 hy] 51)
  have bel0 := bel_alloc w (.cells #[.string nm, .int .i64 un, .int .i64 1, .int .i64 ad, .int .i64 ev, .bool we, .bool sg, .bool true, .int .i64 mu, .int .i64 di, .int .i64 aa, .int .i64 de, .int .i64 qu, .bool ul, .bool uh, .bool la, .int .i64 lo, .int .i64 hi, .int .i64 hy] 51)
  have hld := ldTag_run (b := w.heap.size) (o := 0) rfl (rangeB (cs := [.string nm, .int .i64 un, .int .i64 1, .int .i64 ad, .int .i64 ev, .bool we, .bool sg, .bool true, .int .i64 mu, .int .i64 di, .int .i64 aa, .int .i64 de, .int .i64 qu, .bool ul, .bool uh, .bool la, .int .i64 lo, .int .i64 hi, .int .i64 hy]) h0)
  go_enter Tryz.func116, Tryz.ntmps116
  go_wp2_with fail
  refine (Check6_any we sg true mu di aa _).mono ?_
  rintro e w1 ⟨rfl, b1⟩
  rw [S]
  have h1 := keepB b1 h0
  have bel1 := bel0.trans (b1.mono bel0.size)
  clear hld b1 h0 bel0
  obtain ⟨c0, c1, c2, c3, c4, c5, c6, c7, c8, c9, c10, c11, c12, c13, c14, c15, c16, c17, c18⟩ := of19 nm un 1 ad ev we sg true mu di aa de qu ul uh la lo hi hy h1
  go_wp2
  go_ret
  exact ⟨rfl, bel1⟩
set_option maxHeartbeats 1000000 in
theorem cm_11mu1 (nm : ByteArray) (un ad ev : Int) (we sg sw : Bool) (mu di aa de qu : Int) (ul uh la : Bool) (lo hi hy : Int) (w : World) (S : chkS ⟨we, sg, sw, mu, di, aa⟩ = 0) (hx : mu ≠ 1) : Calls Tryz.prog 116 #[.agg #[.string nm, .int .i64 un, .int .i64 1, .int .i64 ad, .int .i64 ev, .bool we, .bool sg, .bool sw, .int .i64 mu, .int .i64 di, .int .i64 aa, .int .i64 de, .int .i64 qu, .bool ul, .bool uh, .bool la, .int .i64 lo, .int .i64 hi, .int .i64 hy]] w fun e w' => e = .returned (.int .i64 25) ∧ Below w.heap.size w w' := by
  have hx2 : (mu == 1) = false := beq_false_of_ne hx
  have h0 := heap_alloc_new w (.cells #[.string nm, .int .i64 un, .int .i64 1, .int .i64 ad, .int .i64 ev, .bool we, .bool sg, .bool sw, .int .i64 mu, .int .i64 di, .int .i64 aa, .int .i64 de, .int .i64 qu, .bool ul, .bool uh, .bool la, .int .i64 lo, .int .i64 hi, .int .i64 hy] 51)
  have bel0 := bel_alloc w (.cells #[.string nm, .int .i64 un, .int .i64 1, .int .i64 ad, .int .i64 ev, .bool we, .bool sg, .bool sw, .int .i64 mu, .int .i64 di, .int .i64 aa, .int .i64 de, .int .i64 qu, .bool ul, .bool uh, .bool la, .int .i64 lo, .int .i64 hi, .int .i64 hy] 51)
  have hld := ldTag_run (b := w.heap.size) (o := 0) rfl (rangeB (cs := [.string nm, .int .i64 un, .int .i64 1, .int .i64 ad, .int .i64 ev, .bool we, .bool sg, .bool sw, .int .i64 mu, .int .i64 di, .int .i64 aa, .int .i64 de, .int .i64 qu, .bool ul, .bool uh, .bool la, .int .i64 lo, .int .i64 hi, .int .i64 hy]) h0)
  go_enter Tryz.func116, Tryz.ntmps116
  go_wp2_with fail
  refine (Check6_any we sg sw mu di aa _).mono ?_
  rintro e w1 ⟨rfl, b1⟩
  rw [S]
  have h1 := keepB b1 h0
  have bel1 := bel0.trans (b1.mono bel0.size)
  clear hld b1 h0 bel0
  obtain ⟨c0, c1, c2, c3, c4, c5, c6, c7, c8, c9, c10, c11, c12, c13, c14, c15, c16, c17, c18⟩ := of19 nm un 1 ad ev we sg sw mu di aa de qu ul uh la lo hi hy h1
  go_wp2
  go_ret
  exact ⟨rfl, bel1⟩
set_option maxHeartbeats 1000000 in
theorem cm_11di1 (nm : ByteArray) (un ad ev : Int) (we sg sw : Bool) (mu di aa de qu : Int) (ul uh la : Bool) (lo hi hy : Int) (w : World) (S : chkS ⟨we, sg, sw, mu, di, aa⟩ = 0) (hx : di ≠ 1) : Calls Tryz.prog 116 #[.agg #[.string nm, .int .i64 un, .int .i64 1, .int .i64 ad, .int .i64 ev, .bool we, .bool sg, .bool sw, .int .i64 mu, .int .i64 di, .int .i64 aa, .int .i64 de, .int .i64 qu, .bool ul, .bool uh, .bool la, .int .i64 lo, .int .i64 hi, .int .i64 hy]] w fun e w' => e = .returned (.int .i64 25) ∧ Below w.heap.size w w' := by
  have hx2 : (di == 1) = false := beq_false_of_ne hx
  have h0 := heap_alloc_new w (.cells #[.string nm, .int .i64 un, .int .i64 1, .int .i64 ad, .int .i64 ev, .bool we, .bool sg, .bool sw, .int .i64 mu, .int .i64 di, .int .i64 aa, .int .i64 de, .int .i64 qu, .bool ul, .bool uh, .bool la, .int .i64 lo, .int .i64 hi, .int .i64 hy] 51)
  have bel0 := bel_alloc w (.cells #[.string nm, .int .i64 un, .int .i64 1, .int .i64 ad, .int .i64 ev, .bool we, .bool sg, .bool sw, .int .i64 mu, .int .i64 di, .int .i64 aa, .int .i64 de, .int .i64 qu, .bool ul, .bool uh, .bool la, .int .i64 lo, .int .i64 hi, .int .i64 hy] 51)
  have hld := ldTag_run (b := w.heap.size) (o := 0) rfl (rangeB (cs := [.string nm, .int .i64 un, .int .i64 1, .int .i64 ad, .int .i64 ev, .bool we, .bool sg, .bool sw, .int .i64 mu, .int .i64 di, .int .i64 aa, .int .i64 de, .int .i64 qu, .bool ul, .bool uh, .bool la, .int .i64 lo, .int .i64 hi, .int .i64 hy]) h0)
  go_enter Tryz.func116, Tryz.ntmps116
  go_wp2_with fail
  refine (Check6_any we sg sw mu di aa _).mono ?_
  rintro e w1 ⟨rfl, b1⟩
  rw [S]
  have h1 := keepB b1 h0
  have bel1 := bel0.trans (b1.mono bel0.size)
  clear hld b1 h0 bel0
  obtain ⟨c0, c1, c2, c3, c4, c5, c6, c7, c8, c9, c10, c11, c12, c13, c14, c15, c16, c17, c18⟩ := of19 nm un 1 ad ev we sg sw mu di aa de qu ul uh la lo hi hy h1
  go_wp2
  go_ret
  exact ⟨rfl, bel1⟩
set_option maxHeartbeats 1000000 in
theorem cm_11aa1 (nm : ByteArray) (un ad ev : Int) (we sg sw : Bool) (mu di aa de qu : Int) (ul uh la : Bool) (lo hi hy : Int) (w : World) (S : chkS ⟨we, sg, sw, mu, di, aa⟩ = 0) (hx : aa ≠ 0) : Calls Tryz.prog 116 #[.agg #[.string nm, .int .i64 un, .int .i64 1, .int .i64 ad, .int .i64 ev, .bool we, .bool sg, .bool sw, .int .i64 mu, .int .i64 di, .int .i64 aa, .int .i64 de, .int .i64 qu, .bool ul, .bool uh, .bool la, .int .i64 lo, .int .i64 hi, .int .i64 hy]] w fun e w' => e = .returned (.int .i64 25) ∧ Below w.heap.size w w' := by
  have hx2 : (aa == 0) = false := beq_false_of_ne hx
  have h0 := heap_alloc_new w (.cells #[.string nm, .int .i64 un, .int .i64 1, .int .i64 ad, .int .i64 ev, .bool we, .bool sg, .bool sw, .int .i64 mu, .int .i64 di, .int .i64 aa, .int .i64 de, .int .i64 qu, .bool ul, .bool uh, .bool la, .int .i64 lo, .int .i64 hi, .int .i64 hy] 51)
  have bel0 := bel_alloc w (.cells #[.string nm, .int .i64 un, .int .i64 1, .int .i64 ad, .int .i64 ev, .bool we, .bool sg, .bool sw, .int .i64 mu, .int .i64 di, .int .i64 aa, .int .i64 de, .int .i64 qu, .bool ul, .bool uh, .bool la, .int .i64 lo, .int .i64 hi, .int .i64 hy] 51)
  have hld := ldTag_run (b := w.heap.size) (o := 0) rfl (rangeB (cs := [.string nm, .int .i64 un, .int .i64 1, .int .i64 ad, .int .i64 ev, .bool we, .bool sg, .bool sw, .int .i64 mu, .int .i64 di, .int .i64 aa, .int .i64 de, .int .i64 qu, .bool ul, .bool uh, .bool la, .int .i64 lo, .int .i64 hi, .int .i64 hy]) h0)
  go_enter Tryz.func116, Tryz.ntmps116
  go_wp2_with fail
  refine (Check6_any we sg sw mu di aa _).mono ?_
  rintro e w1 ⟨rfl, b1⟩
  rw [S]
  have h1 := keepB b1 h0
  have bel1 := bel0.trans (b1.mono bel0.size)
  clear hld b1 h0 bel0
  obtain ⟨c0, c1, c2, c3, c4, c5, c6, c7, c8, c9, c10, c11, c12, c13, c14, c15, c16, c17, c18⟩ := of19 nm un 1 ad ev we sg sw mu di aa de qu ul uh la lo hi hy h1
  go_wp2
  go_ret
  exact ⟨rfl, bel1⟩
set_option maxHeartbeats 1000000 in
theorem cm_11we2 (nm : ByteArray) (un ad ev : Int) (sg sw : Bool) (mu di aa de qu : Int) (ul uh la : Bool) (lo hi hy : Int) (w : World) (S : chkS ⟨true, sg, sw, mu, di, aa⟩ = 0)  : Calls Tryz.prog 116 #[.agg #[.string nm, .int .i64 un, .int .i64 2, .int .i64 ad, .int .i64 ev, .bool true, .bool sg, .bool sw, .int .i64 mu, .int .i64 di, .int .i64 aa, .int .i64 de, .int .i64 qu, .bool ul, .bool uh, .bool la, .int .i64 lo, .int .i64 hi, .int .i64 hy]] w fun e w' => e = .returned (.int .i64 25) ∧ Below w.heap.size w w' := by
  have h0 := heap_alloc_new w (.cells #[.string nm, .int .i64 un, .int .i64 2, .int .i64 ad, .int .i64 ev, .bool true, .bool sg, .bool sw, .int .i64 mu, .int .i64 di, .int .i64 aa, .int .i64 de, .int .i64 qu, .bool ul, .bool uh, .bool la, .int .i64 lo, .int .i64 hi, .int .i64 hy] 51)
  have bel0 := bel_alloc w (.cells #[.string nm, .int .i64 un, .int .i64 2, .int .i64 ad, .int .i64 ev, .bool true, .bool sg, .bool sw, .int .i64 mu, .int .i64 di, .int .i64 aa, .int .i64 de, .int .i64 qu, .bool ul, .bool uh, .bool la, .int .i64 lo, .int .i64 hi, .int .i64 hy] 51)
  have hld := ldTag_run (b := w.heap.size) (o := 0) rfl (rangeB (cs := [.string nm, .int .i64 un, .int .i64 2, .int .i64 ad, .int .i64 ev, .bool true, .bool sg, .bool sw, .int .i64 mu, .int .i64 di, .int .i64 aa, .int .i64 de, .int .i64 qu, .bool ul, .bool uh, .bool la, .int .i64 lo, .int .i64 hi, .int .i64 hy]) h0)
  go_enter Tryz.func116, Tryz.ntmps116
  go_wp2_with fail
  refine (Check6_any true sg sw mu di aa _).mono ?_
  rintro e w1 ⟨rfl, b1⟩
  rw [S]
  have h1 := keepB b1 h0
  have bel1 := bel0.trans (b1.mono bel0.size)
  clear hld b1 h0 bel0
  obtain ⟨c0, c1, c2, c3, c4, c5, c6, c7, c8, c9, c10, c11, c12, c13, c14, c15, c16, c17, c18⟩ := of19 nm un 2 ad ev true sg sw mu di aa de qu ul uh la lo hi hy h1
  go_wp2
  go_ret
  exact ⟨rfl, bel1⟩
set_option maxHeartbeats 1000000 in
theorem cm_11sg2 (nm : ByteArray) (un ad ev : Int) (we sw : Bool) (mu di aa de qu : Int) (ul uh la : Bool) (lo hi hy : Int) (w : World) (S : chkS ⟨we, true, sw, mu, di, aa⟩ = 0)  : Calls Tryz.prog 116 #[.agg #[.string nm, .int .i64 un, .int .i64 2, .int .i64 ad, .int .i64 ev, .bool we, .bool true, .bool sw, .int .i64 mu, .int .i64 di, .int .i64 aa, .int .i64 de, .int .i64 qu, .bool ul, .bool uh, .bool la, .int .i64 lo, .int .i64 hi, .int .i64 hy]] w fun e w' => e = .returned (.int .i64 25) ∧ Below w.heap.size w w' := by
  have h0 := heap_alloc_new w (.cells #[.string nm, .int .i64 un, .int .i64 2, .int .i64 ad, .int .i64 ev, .bool we, .bool true, .bool sw, .int .i64 mu, .int .i64 di, .int .i64 aa, .int .i64 de, .int .i64 qu, .bool ul, .bool uh, .bool la, .int .i64 lo, .int .i64 hi, .int .i64 hy] 51)
  have bel0 := bel_alloc w (.cells #[.string nm, .int .i64 un, .int .i64 2, .int .i64 ad, .int .i64 ev, .bool we, .bool true, .bool sw, .int .i64 mu, .int .i64 di, .int .i64 aa, .int .i64 de, .int .i64 qu, .bool ul, .bool uh, .bool la, .int .i64 lo, .int .i64 hi, .int .i64 hy] 51)
  have hld := ldTag_run (b := w.heap.size) (o := 0) rfl (rangeB (cs := [.string nm, .int .i64 un, .int .i64 2, .int .i64 ad, .int .i64 ev, .bool we, .bool true, .bool sw, .int .i64 mu, .int .i64 di, .int .i64 aa, .int .i64 de, .int .i64 qu, .bool ul, .bool uh, .bool la, .int .i64 lo, .int .i64 hi, .int .i64 hy]) h0)
  go_enter Tryz.func116, Tryz.ntmps116
  go_wp2_with fail
  refine (Check6_any we true sw mu di aa _).mono ?_
  rintro e w1 ⟨rfl, b1⟩
  rw [S]
  have h1 := keepB b1 h0
  have bel1 := bel0.trans (b1.mono bel0.size)
  clear hld b1 h0 bel0
  obtain ⟨c0, c1, c2, c3, c4, c5, c6, c7, c8, c9, c10, c11, c12, c13, c14, c15, c16, c17, c18⟩ := of19 nm un 2 ad ev we true sw mu di aa de qu ul uh la lo hi hy h1
  go_wp2
  go_ret
  exact ⟨rfl, bel1⟩
set_option maxHeartbeats 1000000 in
theorem cm_11sw2 (nm : ByteArray) (un ad ev : Int) (we sg : Bool) (mu di aa de qu : Int) (ul uh la : Bool) (lo hi hy : Int) (w : World) (S : chkS ⟨we, sg, true, mu, di, aa⟩ = 0)  : Calls Tryz.prog 116 #[.agg #[.string nm, .int .i64 un, .int .i64 2, .int .i64 ad, .int .i64 ev, .bool we, .bool sg, .bool true, .int .i64 mu, .int .i64 di, .int .i64 aa, .int .i64 de, .int .i64 qu, .bool ul, .bool uh, .bool la, .int .i64 lo, .int .i64 hi, .int .i64 hy]] w fun e w' => e = .returned (.int .i64 25) ∧ Below w.heap.size w w' := by
  have h0 := heap_alloc_new w (.cells #[.string nm, .int .i64 un, .int .i64 2, .int .i64 ad, .int .i64 ev, .bool we, .bool sg, .bool true, .int .i64 mu, .int .i64 di, .int .i64 aa, .int .i64 de, .int .i64 qu, .bool ul, .bool uh, .bool la, .int .i64 lo, .int .i64 hi, .int .i64 hy] 51)
  have bel0 := bel_alloc w (.cells #[.string nm, .int .i64 un, .int .i64 2, .int .i64 ad, .int .i64 ev, .bool we, .bool sg, .bool true, .int .i64 mu, .int .i64 di, .int .i64 aa, .int .i64 de, .int .i64 qu, .bool ul, .bool uh, .bool la, .int .i64 lo, .int .i64 hi, .int .i64 hy] 51)
  have hld := ldTag_run (b := w.heap.size) (o := 0) rfl (rangeB (cs := [.string nm, .int .i64 un, .int .i64 2, .int .i64 ad, .int .i64 ev, .bool we, .bool sg, .bool true, .int .i64 mu, .int .i64 di, .int .i64 aa, .int .i64 de, .int .i64 qu, .bool ul, .bool uh, .bool la, .int .i64 lo, .int .i64 hi, .int .i64 hy]) h0)
  go_enter Tryz.func116, Tryz.ntmps116
  go_wp2_with fail
  refine (Check6_any we sg true mu di aa _).mono ?_
  rintro e w1 ⟨rfl, b1⟩
  rw [S]
  have h1 := keepB b1 h0
  have bel1 := bel0.trans (b1.mono bel0.size)
  clear hld b1 h0 bel0
  obtain ⟨c0, c1, c2, c3, c4, c5, c6, c7, c8, c9, c10, c11, c12, c13, c14, c15, c16, c17, c18⟩ := of19 nm un 2 ad ev we sg true mu di aa de qu ul uh la lo hi hy h1
  go_wp2
  go_ret
  exact ⟨rfl, bel1⟩
set_option maxHeartbeats 1000000 in
theorem cm_11mu2 (nm : ByteArray) (un ad ev : Int) (we sg sw : Bool) (mu di aa de qu : Int) (ul uh la : Bool) (lo hi hy : Int) (w : World) (S : chkS ⟨we, sg, sw, mu, di, aa⟩ = 0) (hx : mu ≠ 1) : Calls Tryz.prog 116 #[.agg #[.string nm, .int .i64 un, .int .i64 2, .int .i64 ad, .int .i64 ev, .bool we, .bool sg, .bool sw, .int .i64 mu, .int .i64 di, .int .i64 aa, .int .i64 de, .int .i64 qu, .bool ul, .bool uh, .bool la, .int .i64 lo, .int .i64 hi, .int .i64 hy]] w fun e w' => e = .returned (.int .i64 25) ∧ Below w.heap.size w w' := by
  have hx2 : (mu == 1) = false := beq_false_of_ne hx
  have h0 := heap_alloc_new w (.cells #[.string nm, .int .i64 un, .int .i64 2, .int .i64 ad, .int .i64 ev, .bool we, .bool sg, .bool sw, .int .i64 mu, .int .i64 di, .int .i64 aa, .int .i64 de, .int .i64 qu, .bool ul, .bool uh, .bool la, .int .i64 lo, .int .i64 hi, .int .i64 hy] 51)
  have bel0 := bel_alloc w (.cells #[.string nm, .int .i64 un, .int .i64 2, .int .i64 ad, .int .i64 ev, .bool we, .bool sg, .bool sw, .int .i64 mu, .int .i64 di, .int .i64 aa, .int .i64 de, .int .i64 qu, .bool ul, .bool uh, .bool la, .int .i64 lo, .int .i64 hi, .int .i64 hy] 51)
  have hld := ldTag_run (b := w.heap.size) (o := 0) rfl (rangeB (cs := [.string nm, .int .i64 un, .int .i64 2, .int .i64 ad, .int .i64 ev, .bool we, .bool sg, .bool sw, .int .i64 mu, .int .i64 di, .int .i64 aa, .int .i64 de, .int .i64 qu, .bool ul, .bool uh, .bool la, .int .i64 lo, .int .i64 hi, .int .i64 hy]) h0)
  go_enter Tryz.func116, Tryz.ntmps116
  go_wp2_with fail
  refine (Check6_any we sg sw mu di aa _).mono ?_
  rintro e w1 ⟨rfl, b1⟩
  rw [S]
  have h1 := keepB b1 h0
  have bel1 := bel0.trans (b1.mono bel0.size)
  clear hld b1 h0 bel0
  obtain ⟨c0, c1, c2, c3, c4, c5, c6, c7, c8, c9, c10, c11, c12, c13, c14, c15, c16, c17, c18⟩ := of19 nm un 2 ad ev we sg sw mu di aa de qu ul uh la lo hi hy h1
  go_wp2
  go_ret
  exact ⟨rfl, bel1⟩
set_option maxHeartbeats 1000000 in
theorem cm_11di2 (nm : ByteArray) (un ad ev : Int) (we sg sw : Bool) (mu di aa de qu : Int) (ul uh la : Bool) (lo hi hy : Int) (w : World) (S : chkS ⟨we, sg, sw, mu, di, aa⟩ = 0) (hx : di ≠ 1) : Calls Tryz.prog 116 #[.agg #[.string nm, .int .i64 un, .int .i64 2, .int .i64 ad, .int .i64 ev, .bool we, .bool sg, .bool sw, .int .i64 mu, .int .i64 di, .int .i64 aa, .int .i64 de, .int .i64 qu, .bool ul, .bool uh, .bool la, .int .i64 lo, .int .i64 hi, .int .i64 hy]] w fun e w' => e = .returned (.int .i64 25) ∧ Below w.heap.size w w' := by
  have hx2 : (di == 1) = false := beq_false_of_ne hx
  have h0 := heap_alloc_new w (.cells #[.string nm, .int .i64 un, .int .i64 2, .int .i64 ad, .int .i64 ev, .bool we, .bool sg, .bool sw, .int .i64 mu, .int .i64 di, .int .i64 aa, .int .i64 de, .int .i64 qu, .bool ul, .bool uh, .bool la, .int .i64 lo, .int .i64 hi, .int .i64 hy] 51)
  have bel0 := bel_alloc w (.cells #[.string nm, .int .i64 un, .int .i64 2, .int .i64 ad, .int .i64 ev, .bool we, .bool sg, .bool sw, .int .i64 mu, .int .i64 di, .int .i64 aa, .int .i64 de, .int .i64 qu, .bool ul, .bool uh, .bool la, .int .i64 lo, .int .i64 hi, .int .i64 hy] 51)
  have hld := ldTag_run (b := w.heap.size) (o := 0) rfl (rangeB (cs := [.string nm, .int .i64 un, .int .i64 2, .int .i64 ad, .int .i64 ev, .bool we, .bool sg, .bool sw, .int .i64 mu, .int .i64 di, .int .i64 aa, .int .i64 de, .int .i64 qu, .bool ul, .bool uh, .bool la, .int .i64 lo, .int .i64 hi, .int .i64 hy]) h0)
  go_enter Tryz.func116, Tryz.ntmps116
  go_wp2_with fail
  refine (Check6_any we sg sw mu di aa _).mono ?_
  rintro e w1 ⟨rfl, b1⟩
  rw [S]
  have h1 := keepB b1 h0
  have bel1 := bel0.trans (b1.mono bel0.size)
  clear hld b1 h0 bel0
  obtain ⟨c0, c1, c2, c3, c4, c5, c6, c7, c8, c9, c10, c11, c12, c13, c14, c15, c16, c17, c18⟩ := of19 nm un 2 ad ev we sg sw mu di aa de qu ul uh la lo hi hy h1
  go_wp2
  go_ret
  exact ⟨rfl, bel1⟩
set_option maxHeartbeats 1000000 in
theorem cm_11aa2 (nm : ByteArray) (un ad ev : Int) (we sg sw : Bool) (mu di aa de qu : Int) (ul uh la : Bool) (lo hi hy : Int) (w : World) (S : chkS ⟨we, sg, sw, mu, di, aa⟩ = 0) (hx : aa ≠ 0) : Calls Tryz.prog 116 #[.agg #[.string nm, .int .i64 un, .int .i64 2, .int .i64 ad, .int .i64 ev, .bool we, .bool sg, .bool sw, .int .i64 mu, .int .i64 di, .int .i64 aa, .int .i64 de, .int .i64 qu, .bool ul, .bool uh, .bool la, .int .i64 lo, .int .i64 hi, .int .i64 hy]] w fun e w' => e = .returned (.int .i64 25) ∧ Below w.heap.size w w' := by
  have hx2 : (aa == 0) = false := beq_false_of_ne hx
  have h0 := heap_alloc_new w (.cells #[.string nm, .int .i64 un, .int .i64 2, .int .i64 ad, .int .i64 ev, .bool we, .bool sg, .bool sw, .int .i64 mu, .int .i64 di, .int .i64 aa, .int .i64 de, .int .i64 qu, .bool ul, .bool uh, .bool la, .int .i64 lo, .int .i64 hi, .int .i64 hy] 51)
  have bel0 := bel_alloc w (.cells #[.string nm, .int .i64 un, .int .i64 2, .int .i64 ad, .int .i64 ev, .bool we, .bool sg, .bool sw, .int .i64 mu, .int .i64 di, .int .i64 aa, .int .i64 de, .int .i64 qu, .bool ul, .bool uh, .bool la, .int .i64 lo, .int .i64 hi, .int .i64 hy] 51)
  have hld := ldTag_run (b := w.heap.size) (o := 0) rfl (rangeB (cs := [.string nm, .int .i64 un, .int .i64 2, .int .i64 ad, .int .i64 ev, .bool we, .bool sg, .bool sw, .int .i64 mu, .int .i64 di, .int .i64 aa, .int .i64 de, .int .i64 qu, .bool ul, .bool uh, .bool la, .int .i64 lo, .int .i64 hi, .int .i64 hy]) h0)
  go_enter Tryz.func116, Tryz.ntmps116
  go_wp2_with fail
  refine (Check6_any we sg sw mu di aa _).mono ?_
  rintro e w1 ⟨rfl, b1⟩
  rw [S]
  have h1 := keepB b1 h0
  have bel1 := bel0.trans (b1.mono bel0.size)
  clear hld b1 h0 bel0
  obtain ⟨c0, c1, c2, c3, c4, c5, c6, c7, c8, c9, c10, c11, c12, c13, c14, c15, c16, c17, c18⟩ := of19 nm un 2 ad ev we sg sw mu di aa de qu ul uh la lo hi hy h1
  go_wp2
  go_ret
  exact ⟨rfl, bel1⟩
set_option maxHeartbeats 1000000 in
theorem cm_121 (nm : ByteArray) (un ad ev : Int) (de qu : Int) (ul uh la : Bool) (lo hi hy : Int) (w : World) (S : chkS ⟨false, false, false, 1, 1, 0⟩ = 0) (B0 : chkB de qu = 26) : Calls Tryz.prog 116 #[.agg #[.string nm, .int .i64 un, .int .i64 1, .int .i64 ad, .int .i64 ev, .bool false, .bool false, .bool false, .int .i64 1, .int .i64 1, .int .i64 0, .int .i64 de, .int .i64 qu, .bool ul, .bool uh, .bool la, .int .i64 lo, .int .i64 hi, .int .i64 hy]] w fun e w' => e = .returned (.int .i64 26) ∧ Below w.heap.size w w' := by
  have h0 := heap_alloc_new w (.cells #[.string nm, .int .i64 un, .int .i64 1, .int .i64 ad, .int .i64 ev, .bool false, .bool false, .bool false, .int .i64 1, .int .i64 1, .int .i64 0, .int .i64 de, .int .i64 qu, .bool ul, .bool uh, .bool la, .int .i64 lo, .int .i64 hi, .int .i64 hy] 51)
  have bel0 := bel_alloc w (.cells #[.string nm, .int .i64 un, .int .i64 1, .int .i64 ad, .int .i64 ev, .bool false, .bool false, .bool false, .int .i64 1, .int .i64 1, .int .i64 0, .int .i64 de, .int .i64 qu, .bool ul, .bool uh, .bool la, .int .i64 lo, .int .i64 hi, .int .i64 hy] 51)
  have hld := ldTag_run (b := w.heap.size) (o := 0) rfl (rangeB (cs := [.string nm, .int .i64 un, .int .i64 1, .int .i64 ad, .int .i64 ev, .bool false, .bool false, .bool false, .int .i64 1, .int .i64 1, .int .i64 0, .int .i64 de, .int .i64 qu, .bool ul, .bool uh, .bool la, .int .i64 lo, .int .i64 hi, .int .i64 hy]) h0)
  go_enter Tryz.func116, Tryz.ntmps116
  go_wp2_with fail
  refine (Check6_any false false false 1 1 0 _).mono ?_
  rintro e w1 ⟨rfl, b1⟩
  rw [S]
  have h1 := keepB b1 h0
  have bel1 := bel0.trans (b1.mono bel0.size)
  clear hld b1 h0 bel0
  obtain ⟨c0, c1, c2, c3, c4, c5, c6, c7, c8, c9, c10, c11, c12, c13, c14, c15, c16, c17, c18⟩ := of19 nm un 1 ad ev false false false 1 1 0 de qu ul uh la lo hi hy h1
  go_wp2_with fail
  refine (Check7_any de qu _).mono ?_
  rintro e w2 ⟨rfl, b2⟩
  rw [B0]
  have h2 := keepB b2 h1
  have bel2 := bel1.trans (b2.mono bel1.size)
  clear c0 c1 c2 c3 c4 c5 c6 c7 c8 c9 c10 c11 c12 c13 c14 c15 c16 c17 c18 b2 h1 bel1
  obtain ⟨c0, c1, c2, c3, c4, c5, c6, c7, c8, c9, c10, c11, c12, c13, c14, c15, c16, c17, c18⟩ := of19 nm un 1 ad ev false false false 1 1 0 de qu ul uh la lo hi hy h2
  go_wp2
  go_ret
  exact ⟨rfl, bel2⟩
set_option maxHeartbeats 1000000 in
theorem cm_131 (nm : ByteArray) (un ad ev : Int) (de qu : Int) (ul uh la : Bool) (lo hi hy : Int) (w : World) (S : chkS ⟨false, false, false, 1, 1, 0⟩ = 0) (B0 : chkB de qu = 0) : Calls Tryz.prog 116 #[.agg #[.string nm, .int .i64 un, .int .i64 1, .int .i64 ad, .int .i64 ev, .bool false, .bool false, .bool false, .int .i64 1, .int .i64 1, .int .i64 0, .int .i64 de, .int .i64 qu, .bool ul, .bool uh, .bool la, .int .i64 lo, .int .i64 hi, .int .i64 hy]] w fun e w' => e = .returned (.int .i64 (chkL ⟨ul, uh, la, lo, hi, hy⟩)) ∧ Below w.heap.size w w' := by
  have h0 := heap_alloc_new w (.cells #[.string nm, .int .i64 un, .int .i64 1, .int .i64 ad, .int .i64 ev, .bool false, .bool false, .bool false, .int .i64 1, .int .i64 1, .int .i64 0, .int .i64 de, .int .i64 qu, .bool ul, .bool uh, .bool la, .int .i64 lo, .int .i64 hi, .int .i64 hy] 51)
  have bel0 := bel_alloc w (.cells #[.string nm, .int .i64 un, .int .i64 1, .int .i64 ad, .int .i64 ev, .bool false, .bool false, .bool false, .int .i64 1, .int .i64 1, .int .i64 0, .int .i64 de, .int .i64 qu, .bool ul, .bool uh, .bool la, .int .i64 lo, .int .i64 hi, .int .i64 hy] 51)
  have hld := ldTag_run (b := w.heap.size) (o := 0) rfl (rangeB (cs := [.string nm, .int .i64 un, .int .i64 1, .int .i64 ad, .int .i64 ev, .bool false, .bool false, .bool false, .int .i64 1, .int .i64 1, .int .i64 0, .int .i64 de, .int .i64 qu, .bool ul, .bool uh, .bool la, .int .i64 lo, .int .i64 hi, .int .i64 hy]) h0)
  go_enter Tryz.func116, Tryz.ntmps116
  go_wp2_with fail
  refine (Check6_any false false false 1 1 0 _).mono ?_
  rintro e w1 ⟨rfl, b1⟩
  rw [S]
  have h1 := keepB b1 h0
  have bel1 := bel0.trans (b1.mono bel0.size)
  clear hld b1 h0 bel0
  obtain ⟨c0, c1, c2, c3, c4, c5, c6, c7, c8, c9, c10, c11, c12, c13, c14, c15, c16, c17, c18⟩ := of19 nm un 1 ad ev false false false 1 1 0 de qu ul uh la lo hi hy h1
  go_wp2_with fail
  refine (Check7_any de qu _).mono ?_
  rintro e w2 ⟨rfl, b2⟩
  rw [B0]
  have h2 := keepB b2 h1
  have bel2 := bel1.trans (b2.mono bel1.size)
  clear c0 c1 c2 c3 c4 c5 c6 c7 c8 c9 c10 c11 c12 c13 c14 c15 c16 c17 c18 b2 h1 bel1
  obtain ⟨c0, c1, c2, c3, c4, c5, c6, c7, c8, c9, c10, c11, c12, c13, c14, c15, c16, c17, c18⟩ := of19 nm un 1 ad ev false false false 1 1 0 de qu ul uh la lo hi hy h2
  go_wp2_with fail
  refine (Check8_any ul uh la lo hi hy _).mono ?_
  rintro e w3 ⟨rfl, b3⟩
  go_wp2
  go_ret
  exact ⟨rfl, bel2.trans (b3.mono bel2.size)⟩
set_option maxHeartbeats 1000000 in
theorem cm_122 (nm : ByteArray) (un ad ev : Int) (de qu : Int) (ul uh la : Bool) (lo hi hy : Int) (w : World) (S : chkS ⟨false, false, false, 1, 1, 0⟩ = 0) (B0 : chkB de qu = 26) : Calls Tryz.prog 116 #[.agg #[.string nm, .int .i64 un, .int .i64 2, .int .i64 ad, .int .i64 ev, .bool false, .bool false, .bool false, .int .i64 1, .int .i64 1, .int .i64 0, .int .i64 de, .int .i64 qu, .bool ul, .bool uh, .bool la, .int .i64 lo, .int .i64 hi, .int .i64 hy]] w fun e w' => e = .returned (.int .i64 26) ∧ Below w.heap.size w w' := by
  have h0 := heap_alloc_new w (.cells #[.string nm, .int .i64 un, .int .i64 2, .int .i64 ad, .int .i64 ev, .bool false, .bool false, .bool false, .int .i64 1, .int .i64 1, .int .i64 0, .int .i64 de, .int .i64 qu, .bool ul, .bool uh, .bool la, .int .i64 lo, .int .i64 hi, .int .i64 hy] 51)
  have bel0 := bel_alloc w (.cells #[.string nm, .int .i64 un, .int .i64 2, .int .i64 ad, .int .i64 ev, .bool false, .bool false, .bool false, .int .i64 1, .int .i64 1, .int .i64 0, .int .i64 de, .int .i64 qu, .bool ul, .bool uh, .bool la, .int .i64 lo, .int .i64 hi, .int .i64 hy] 51)
  have hld := ldTag_run (b := w.heap.size) (o := 0) rfl (rangeB (cs := [.string nm, .int .i64 un, .int .i64 2, .int .i64 ad, .int .i64 ev, .bool false, .bool false, .bool false, .int .i64 1, .int .i64 1, .int .i64 0, .int .i64 de, .int .i64 qu, .bool ul, .bool uh, .bool la, .int .i64 lo, .int .i64 hi, .int .i64 hy]) h0)
  go_enter Tryz.func116, Tryz.ntmps116
  go_wp2_with fail
  refine (Check6_any false false false 1 1 0 _).mono ?_
  rintro e w1 ⟨rfl, b1⟩
  rw [S]
  have h1 := keepB b1 h0
  have bel1 := bel0.trans (b1.mono bel0.size)
  clear hld b1 h0 bel0
  obtain ⟨c0, c1, c2, c3, c4, c5, c6, c7, c8, c9, c10, c11, c12, c13, c14, c15, c16, c17, c18⟩ := of19 nm un 2 ad ev false false false 1 1 0 de qu ul uh la lo hi hy h1
  go_wp2_with fail
  refine (Check7_any de qu _).mono ?_
  rintro e w2 ⟨rfl, b2⟩
  rw [B0]
  have h2 := keepB b2 h1
  have bel2 := bel1.trans (b2.mono bel1.size)
  clear c0 c1 c2 c3 c4 c5 c6 c7 c8 c9 c10 c11 c12 c13 c14 c15 c16 c17 c18 b2 h1 bel1
  obtain ⟨c0, c1, c2, c3, c4, c5, c6, c7, c8, c9, c10, c11, c12, c13, c14, c15, c16, c17, c18⟩ := of19 nm un 2 ad ev false false false 1 1 0 de qu ul uh la lo hi hy h2
  go_wp2
  go_ret
  exact ⟨rfl, bel2⟩
set_option maxHeartbeats 1000000 in
theorem cm_132 (nm : ByteArray) (un ad ev : Int) (de qu : Int) (ul uh la : Bool) (lo hi hy : Int) (w : World) (S : chkS ⟨false, false, false, 1, 1, 0⟩ = 0) (B0 : chkB de qu = 0) : Calls Tryz.prog 116 #[.agg #[.string nm, .int .i64 un, .int .i64 2, .int .i64 ad, .int .i64 ev, .bool false, .bool false, .bool false, .int .i64 1, .int .i64 1, .int .i64 0, .int .i64 de, .int .i64 qu, .bool ul, .bool uh, .bool la, .int .i64 lo, .int .i64 hi, .int .i64 hy]] w fun e w' => e = .returned (.int .i64 (chkL ⟨ul, uh, la, lo, hi, hy⟩)) ∧ Below w.heap.size w w' := by
  have h0 := heap_alloc_new w (.cells #[.string nm, .int .i64 un, .int .i64 2, .int .i64 ad, .int .i64 ev, .bool false, .bool false, .bool false, .int .i64 1, .int .i64 1, .int .i64 0, .int .i64 de, .int .i64 qu, .bool ul, .bool uh, .bool la, .int .i64 lo, .int .i64 hi, .int .i64 hy] 51)
  have bel0 := bel_alloc w (.cells #[.string nm, .int .i64 un, .int .i64 2, .int .i64 ad, .int .i64 ev, .bool false, .bool false, .bool false, .int .i64 1, .int .i64 1, .int .i64 0, .int .i64 de, .int .i64 qu, .bool ul, .bool uh, .bool la, .int .i64 lo, .int .i64 hi, .int .i64 hy] 51)
  have hld := ldTag_run (b := w.heap.size) (o := 0) rfl (rangeB (cs := [.string nm, .int .i64 un, .int .i64 2, .int .i64 ad, .int .i64 ev, .bool false, .bool false, .bool false, .int .i64 1, .int .i64 1, .int .i64 0, .int .i64 de, .int .i64 qu, .bool ul, .bool uh, .bool la, .int .i64 lo, .int .i64 hi, .int .i64 hy]) h0)
  go_enter Tryz.func116, Tryz.ntmps116
  go_wp2_with fail
  refine (Check6_any false false false 1 1 0 _).mono ?_
  rintro e w1 ⟨rfl, b1⟩
  rw [S]
  have h1 := keepB b1 h0
  have bel1 := bel0.trans (b1.mono bel0.size)
  clear hld b1 h0 bel0
  obtain ⟨c0, c1, c2, c3, c4, c5, c6, c7, c8, c9, c10, c11, c12, c13, c14, c15, c16, c17, c18⟩ := of19 nm un 2 ad ev false false false 1 1 0 de qu ul uh la lo hi hy h1
  go_wp2_with fail
  refine (Check7_any de qu _).mono ?_
  rintro e w2 ⟨rfl, b2⟩
  rw [B0]
  have h2 := keepB b2 h1
  have bel2 := bel1.trans (b2.mono bel1.size)
  clear c0 c1 c2 c3 c4 c5 c6 c7 c8 c9 c10 c11 c12 c13 c14 c15 c16 c17 c18 b2 h1 bel1
  obtain ⟨c0, c1, c2, c3, c4, c5, c6, c7, c8, c9, c10, c11, c12, c13, c14, c15, c16, c17, c18⟩ := of19 nm un 2 ad ev false false false 1 1 0 de qu ul uh la lo hi hy h2
  go_wp2_with fail
  refine (Check8_any ul uh la lo hi hy _).mono ?_
  rintro e w3 ⟨rfl, b3⟩
  go_wp2
  go_ret
  exact ⟨rfl, bel2.trans (b3.mono bel2.size)⟩
set_option maxHeartbeats 1000000 in
theorem cm_123 (nm : ByteArray) (un ad ev : Int) (we sg sw : Bool) (mu di aa de qu : Int) (ul uh la : Bool) (lo hi hy : Int) (w : World) (S : chkS ⟨we, sg, sw, mu, di, aa⟩ = 0) (B0 : chkB de qu = 26) : Calls Tryz.prog 116 #[.agg #[.string nm, .int .i64 un, .int .i64 3, .int .i64 ad, .int .i64 ev, .bool we, .bool sg, .bool sw, .int .i64 mu, .int .i64 di, .int .i64 aa, .int .i64 de, .int .i64 qu, .bool ul, .bool uh, .bool la, .int .i64 lo, .int .i64 hi, .int .i64 hy]] w fun e w' => e = .returned (.int .i64 26) ∧ Below w.heap.size w w' := by
  have h0 := heap_alloc_new w (.cells #[.string nm, .int .i64 un, .int .i64 3, .int .i64 ad, .int .i64 ev, .bool we, .bool sg, .bool sw, .int .i64 mu, .int .i64 di, .int .i64 aa, .int .i64 de, .int .i64 qu, .bool ul, .bool uh, .bool la, .int .i64 lo, .int .i64 hi, .int .i64 hy] 51)
  have bel0 := bel_alloc w (.cells #[.string nm, .int .i64 un, .int .i64 3, .int .i64 ad, .int .i64 ev, .bool we, .bool sg, .bool sw, .int .i64 mu, .int .i64 di, .int .i64 aa, .int .i64 de, .int .i64 qu, .bool ul, .bool uh, .bool la, .int .i64 lo, .int .i64 hi, .int .i64 hy] 51)
  have hld := ldTag_run (b := w.heap.size) (o := 0) rfl (rangeB (cs := [.string nm, .int .i64 un, .int .i64 3, .int .i64 ad, .int .i64 ev, .bool we, .bool sg, .bool sw, .int .i64 mu, .int .i64 di, .int .i64 aa, .int .i64 de, .int .i64 qu, .bool ul, .bool uh, .bool la, .int .i64 lo, .int .i64 hi, .int .i64 hy]) h0)
  go_enter Tryz.func116, Tryz.ntmps116
  go_wp2_with fail
  refine (Check6_any we sg sw mu di aa _).mono ?_
  rintro e w1 ⟨rfl, b1⟩
  rw [S]
  have h1 := keepB b1 h0
  have bel1 := bel0.trans (b1.mono bel0.size)
  clear hld b1 h0 bel0
  obtain ⟨c0, c1, c2, c3, c4, c5, c6, c7, c8, c9, c10, c11, c12, c13, c14, c15, c16, c17, c18⟩ := of19 nm un 3 ad ev we sg sw mu di aa de qu ul uh la lo hi hy h1
  go_wp2_with fail
  refine (Check7_any de qu _).mono ?_
  rintro e w2 ⟨rfl, b2⟩
  rw [B0]
  have h2 := keepB b2 h1
  have bel2 := bel1.trans (b2.mono bel1.size)
  clear c0 c1 c2 c3 c4 c5 c6 c7 c8 c9 c10 c11 c12 c13 c14 c15 c16 c17 c18 b2 h1 bel1
  obtain ⟨c0, c1, c2, c3, c4, c5, c6, c7, c8, c9, c10, c11, c12, c13, c14, c15, c16, c17, c18⟩ := of19 nm un 3 ad ev we sg sw mu di aa de qu ul uh la lo hi hy h2
  go_wp2
  go_ret
  exact ⟨rfl, bel2⟩
set_option maxHeartbeats 1000000 in
theorem cm_133 (nm : ByteArray) (un ad ev : Int) (we sg sw : Bool) (mu di aa de qu : Int) (ul uh la : Bool) (lo hi hy : Int) (w : World) (S : chkS ⟨we, sg, sw, mu, di, aa⟩ = 0) (B0 : chkB de qu = 0) : Calls Tryz.prog 116 #[.agg #[.string nm, .int .i64 un, .int .i64 3, .int .i64 ad, .int .i64 ev, .bool we, .bool sg, .bool sw, .int .i64 mu, .int .i64 di, .int .i64 aa, .int .i64 de, .int .i64 qu, .bool ul, .bool uh, .bool la, .int .i64 lo, .int .i64 hi, .int .i64 hy]] w fun e w' => e = .returned (.int .i64 (chkL ⟨ul, uh, la, lo, hi, hy⟩)) ∧ Below w.heap.size w w' := by
  have h0 := heap_alloc_new w (.cells #[.string nm, .int .i64 un, .int .i64 3, .int .i64 ad, .int .i64 ev, .bool we, .bool sg, .bool sw, .int .i64 mu, .int .i64 di, .int .i64 aa, .int .i64 de, .int .i64 qu, .bool ul, .bool uh, .bool la, .int .i64 lo, .int .i64 hi, .int .i64 hy] 51)
  have bel0 := bel_alloc w (.cells #[.string nm, .int .i64 un, .int .i64 3, .int .i64 ad, .int .i64 ev, .bool we, .bool sg, .bool sw, .int .i64 mu, .int .i64 di, .int .i64 aa, .int .i64 de, .int .i64 qu, .bool ul, .bool uh, .bool la, .int .i64 lo, .int .i64 hi, .int .i64 hy] 51)
  have hld := ldTag_run (b := w.heap.size) (o := 0) rfl (rangeB (cs := [.string nm, .int .i64 un, .int .i64 3, .int .i64 ad, .int .i64 ev, .bool we, .bool sg, .bool sw, .int .i64 mu, .int .i64 di, .int .i64 aa, .int .i64 de, .int .i64 qu, .bool ul, .bool uh, .bool la, .int .i64 lo, .int .i64 hi, .int .i64 hy]) h0)
  go_enter Tryz.func116, Tryz.ntmps116
  go_wp2_with fail
  refine (Check6_any we sg sw mu di aa _).mono ?_
  rintro e w1 ⟨rfl, b1⟩
  rw [S]
  have h1 := keepB b1 h0
  have bel1 := bel0.trans (b1.mono bel0.size)
  clear hld b1 h0 bel0
  obtain ⟨c0, c1, c2, c3, c4, c5, c6, c7, c8, c9, c10, c11, c12, c13, c14, c15, c16, c17, c18⟩ := of19 nm un 3 ad ev we sg sw mu di aa de qu ul uh la lo hi hy h1
  go_wp2_with fail
  refine (Check7_any de qu _).mono ?_
  rintro e w2 ⟨rfl, b2⟩
  rw [B0]
  have h2 := keepB b2 h1
  have bel2 := bel1.trans (b2.mono bel1.size)
  clear c0 c1 c2 c3 c4 c5 c6 c7 c8 c9 c10 c11 c12 c13 c14 c15 c16 c17 c18 b2 h1 bel1
  obtain ⟨c0, c1, c2, c3, c4, c5, c6, c7, c8, c9, c10, c11, c12, c13, c14, c15, c16, c17, c18⟩ := of19 nm un 3 ad ev we sg sw mu di aa de qu ul uh la lo hi hy h2
  go_wp2_with fail
  refine (Check8_any ul uh la lo hi hy _).mono ?_
  rintro e w3 ⟨rfl, b3⟩
  go_wp2
  go_ret
  exact ⟨rfl, bel2.trans (b3.mono bel2.size)⟩
set_option maxHeartbeats 1000000 in
theorem cm_124 (nm : ByteArray) (un ad ev : Int) (we sg sw : Bool) (mu di aa de qu : Int) (ul uh la : Bool) (lo hi hy : Int) (w : World) (S : chkS ⟨we, sg, sw, mu, di, aa⟩ = 0) (B0 : chkB de qu = 26) : Calls Tryz.prog 116 #[.agg #[.string nm, .int .i64 un, .int .i64 4, .int .i64 ad, .int .i64 ev, .bool we, .bool sg, .bool sw, .int .i64 mu, .int .i64 di, .int .i64 aa, .int .i64 de, .int .i64 qu, .bool ul, .bool uh, .bool la, .int .i64 lo, .int .i64 hi, .int .i64 hy]] w fun e w' => e = .returned (.int .i64 26) ∧ Below w.heap.size w w' := by
  have h0 := heap_alloc_new w (.cells #[.string nm, .int .i64 un, .int .i64 4, .int .i64 ad, .int .i64 ev, .bool we, .bool sg, .bool sw, .int .i64 mu, .int .i64 di, .int .i64 aa, .int .i64 de, .int .i64 qu, .bool ul, .bool uh, .bool la, .int .i64 lo, .int .i64 hi, .int .i64 hy] 51)
  have bel0 := bel_alloc w (.cells #[.string nm, .int .i64 un, .int .i64 4, .int .i64 ad, .int .i64 ev, .bool we, .bool sg, .bool sw, .int .i64 mu, .int .i64 di, .int .i64 aa, .int .i64 de, .int .i64 qu, .bool ul, .bool uh, .bool la, .int .i64 lo, .int .i64 hi, .int .i64 hy] 51)
  have hld := ldTag_run (b := w.heap.size) (o := 0) rfl (rangeB (cs := [.string nm, .int .i64 un, .int .i64 4, .int .i64 ad, .int .i64 ev, .bool we, .bool sg, .bool sw, .int .i64 mu, .int .i64 di, .int .i64 aa, .int .i64 de, .int .i64 qu, .bool ul, .bool uh, .bool la, .int .i64 lo, .int .i64 hi, .int .i64 hy]) h0)
  go_enter Tryz.func116, Tryz.ntmps116
  go_wp2_with fail
  refine (Check6_any we sg sw mu di aa _).mono ?_
  rintro e w1 ⟨rfl, b1⟩
  rw [S]
  have h1 := keepB b1 h0
  have bel1 := bel0.trans (b1.mono bel0.size)
  clear hld b1 h0 bel0
  obtain ⟨c0, c1, c2, c3, c4, c5, c6, c7, c8, c9, c10, c11, c12, c13, c14, c15, c16, c17, c18⟩ := of19 nm un 4 ad ev we sg sw mu di aa de qu ul uh la lo hi hy h1
  go_wp2_with fail
  refine (Check7_any de qu _).mono ?_
  rintro e w2 ⟨rfl, b2⟩
  rw [B0]
  have h2 := keepB b2 h1
  have bel2 := bel1.trans (b2.mono bel1.size)
  clear c0 c1 c2 c3 c4 c5 c6 c7 c8 c9 c10 c11 c12 c13 c14 c15 c16 c17 c18 b2 h1 bel1
  obtain ⟨c0, c1, c2, c3, c4, c5, c6, c7, c8, c9, c10, c11, c12, c13, c14, c15, c16, c17, c18⟩ := of19 nm un 4 ad ev we sg sw mu di aa de qu ul uh la lo hi hy h2
  go_wp2
  go_ret
  exact ⟨rfl, bel2⟩
set_option maxHeartbeats 1000000 in
theorem cm_134 (nm : ByteArray) (un ad ev : Int) (we sg sw : Bool) (mu di aa de qu : Int) (ul uh la : Bool) (lo hi hy : Int) (w : World) (S : chkS ⟨we, sg, sw, mu, di, aa⟩ = 0) (B0 : chkB de qu = 0) : Calls Tryz.prog 116 #[.agg #[.string nm, .int .i64 un, .int .i64 4, .int .i64 ad, .int .i64 ev, .bool we, .bool sg, .bool sw, .int .i64 mu, .int .i64 di, .int .i64 aa, .int .i64 de, .int .i64 qu, .bool ul, .bool uh, .bool la, .int .i64 lo, .int .i64 hi, .int .i64 hy]] w fun e w' => e = .returned (.int .i64 (chkL ⟨ul, uh, la, lo, hi, hy⟩)) ∧ Below w.heap.size w w' := by
  have h0 := heap_alloc_new w (.cells #[.string nm, .int .i64 un, .int .i64 4, .int .i64 ad, .int .i64 ev, .bool we, .bool sg, .bool sw, .int .i64 mu, .int .i64 di, .int .i64 aa, .int .i64 de, .int .i64 qu, .bool ul, .bool uh, .bool la, .int .i64 lo, .int .i64 hi, .int .i64 hy] 51)
  have bel0 := bel_alloc w (.cells #[.string nm, .int .i64 un, .int .i64 4, .int .i64 ad, .int .i64 ev, .bool we, .bool sg, .bool sw, .int .i64 mu, .int .i64 di, .int .i64 aa, .int .i64 de, .int .i64 qu, .bool ul, .bool uh, .bool la, .int .i64 lo, .int .i64 hi, .int .i64 hy] 51)
  have hld := ldTag_run (b := w.heap.size) (o := 0) rfl (rangeB (cs := [.string nm, .int .i64 un, .int .i64 4, .int .i64 ad, .int .i64 ev, .bool we, .bool sg, .bool sw, .int .i64 mu, .int .i64 di, .int .i64 aa, .int .i64 de, .int .i64 qu, .bool ul, .bool uh, .bool la, .int .i64 lo, .int .i64 hi, .int .i64 hy]) h0)
  go_enter Tryz.func116, Tryz.ntmps116
  go_wp2_with fail
  refine (Check6_any we sg sw mu di aa _).mono ?_
  rintro e w1 ⟨rfl, b1⟩
  rw [S]
  have h1 := keepB b1 h0
  have bel1 := bel0.trans (b1.mono bel0.size)
  clear hld b1 h0 bel0
  obtain ⟨c0, c1, c2, c3, c4, c5, c6, c7, c8, c9, c10, c11, c12, c13, c14, c15, c16, c17, c18⟩ := of19 nm un 4 ad ev we sg sw mu di aa de qu ul uh la lo hi hy h1
  go_wp2_with fail
  refine (Check7_any de qu _).mono ?_
  rintro e w2 ⟨rfl, b2⟩
  rw [B0]
  have h2 := keepB b2 h1
  have bel2 := bel1.trans (b2.mono bel1.size)
  clear c0 c1 c2 c3 c4 c5 c6 c7 c8 c9 c10 c11 c12 c13 c14 c15 c16 c17 c18 b2 h1 bel1
  obtain ⟨c0, c1, c2, c3, c4, c5, c6, c7, c8, c9, c10, c11, c12, c13, c14, c15, c16, c17, c18⟩ := of19 nm un 4 ad ev we sg sw mu di aa de qu ul uh la lo hi hy h2
  go_wp2_with fail
  refine (Check8_any ul uh la lo hi hy _).mono ?_
  rintro e w3 ⟨rfl, b3⟩
  go_wp2
  go_ret
  exact ⟨rfl, bel2.trans (b3.mono bel2.size)⟩

theorem mean_any (nm : ByteArray) (un ki ad ev : Int) (we sg sw : Bool) (mu di aa de qu : Int) (ul uh la : Bool) (lo hi hy : Int) (w : World) (k1 : ¬ ki < 1) (k2 : ¬ ki > 4) : Calls Tryz.prog 116 #[.agg #[.string nm, .int .i64 un, .int .i64 ki, .int .i64 ad, .int .i64 ev, .bool we, .bool sg, .bool sw, .int .i64 mu, .int .i64 di, .int .i64 aa, .int .i64 de, .int .i64 qu, .bool ul, .bool uh, .bool la, .int .i64 lo, .int .i64 hi, .int .i64 hy]] w fun e w' => e = .returned (.int .i64 (meanT ⟨nm, un, ki, ad, ev, we, sg, sw, mu, di, aa, de, qu, ul, uh, la, lo, hi, hy⟩)) ∧ Below w.heap.size w w' := by
  refine mean_cases ⟨nm, un, ki, ad, ev, we, sg, sw, mu, di, aa, de, qu, ul, uh, la, lo, hi, hy⟩ _ ?_ ?_ ?_ ?_
  · intro S0 HC; rw [HC]; exact cm_10 nm un ki ad ev we sg sw mu di aa de qu ul uh la lo hi hy w S0
  · intro S kb hb HC
    rw [HC]
    have hk : ki = 1 ∨ ki = 2 := by
      have : ki ≤ 2 := kb
      omega
    rcases hk with rfl | rfl
    · rcases bitS_no hb with h | h | h | h | h | h
      · obtain rfl : we = true := h
        exact cm_11we1 nm un ad ev sg sw mu di aa de qu ul uh la lo hi hy w S
      · obtain rfl : sg = true := h
        exact cm_11sg1 nm un ad ev we sw mu di aa de qu ul uh la lo hi hy w S
      · obtain rfl : sw = true := h
        exact cm_11sw1 nm un ad ev we sg mu di aa de qu ul uh la lo hi hy w S
      · exact cm_11mu1 nm un ad ev we sg sw mu di aa de qu ul uh la lo hi hy w S h
      · exact cm_11di1 nm un ad ev we sg sw mu di aa de qu ul uh la lo hi hy w S h
      · exact cm_11aa1 nm un ad ev we sg sw mu di aa de qu ul uh la lo hi hy w S h
    · rcases bitS_no hb with h | h | h | h | h | h
      · obtain rfl : we = true := h
        exact cm_11we2 nm un ad ev sg sw mu di aa de qu ul uh la lo hi hy w S
      · obtain rfl : sg = true := h
        exact cm_11sg2 nm un ad ev we sw mu di aa de qu ul uh la lo hi hy w S
      · obtain rfl : sw = true := h
        exact cm_11sw2 nm un ad ev we sg mu di aa de qu ul uh la lo hi hy w S
      · exact cm_11mu2 nm un ad ev we sg sw mu di aa de qu ul uh la lo hi hy w S h
      · exact cm_11di2 nm un ad ev we sg sw mu di aa de qu ul uh la lo hi hy w S h
      · exact cm_11aa2 nm un ad ev we sg sw mu di aa de qu ul uh la lo hi hy w S h
  · intro S hb B0 HC
    rw [HC]
    have hk : ki = 1 ∨ ki = 2 ∨ ki = 3 ∨ ki = 4 := by omega
    rcases hk with rfl | rfl | rfl | rfl
    · obtain ⟨rfl, rfl, rfl, rfl, rfl, rfl⟩ := bitS_yes (hb.resolve_left (fun h => h (by show (1 : Int) ≤ 2; omega)))
      exact cm_121 nm un ad ev de qu ul uh la lo hi hy w S B0
    · obtain ⟨rfl, rfl, rfl, rfl, rfl, rfl⟩ := bitS_yes (hb.resolve_left (fun h => h (by show (2 : Int) ≤ 2; omega)))
      exact cm_122 nm un ad ev de qu ul uh la lo hi hy w S B0
    · exact cm_123 nm un ad ev we sg sw mu di aa de qu ul uh la lo hi hy w S B0
    · exact cm_124 nm un ad ev we sg sw mu di aa de qu ul uh la lo hi hy w S B0
  · intro S hb B HC
    rw [HC]
    have hk : ki = 1 ∨ ki = 2 ∨ ki = 3 ∨ ki = 4 := by omega
    rcases hk with rfl | rfl | rfl | rfl
    · obtain ⟨rfl, rfl, rfl, rfl, rfl, rfl⟩ := bitS_yes (hb.resolve_left (fun h => h (by show (1 : Int) ≤ 2; omega)))
      exact cm_131 nm un ad ev de qu ul uh la lo hi hy w S B
    · obtain ⟨rfl, rfl, rfl, rfl, rfl, rfl⟩ := bitS_yes (hb.resolve_left (fun h => h (by show (2 : Int) ≤ 2; omega)))
      exact cm_132 nm un ad ev de qu ul uh la lo hi hy w S B
    · exact cm_133 nm un ad ev we sg sw mu di aa de qu ul uh la lo hi hy w S B
    · exact cm_134 nm un ad ev we sg sw mu di aa de qu ul uh la lo hi hy w S B
end Go.Proofs.YtcmbdhmhkfhjfaaGreat
namespace Go.Proofs.YtcmbdhmhkfhjfaaGreat
open Go.RowKit
set_option linter.unusedVariables false
set_option maxRecDepth 100000

theorem run_neq_tag (t : Tg) (w : World) : (binOp .neq 51 (tgV t) (tgV t)).run Tryz.prog w = .ok (.bool false) w := by
  obtain ⟨nm, un, ki, ad, ev, we, sg, sw, mu, di, aa, de, qu, ul, uh, la, lo, hi, hy⟩ := t
  unfold tgV tgC
  simp [go_sem]
theorem run_eqGuard_tag (op : BinOp) (x y : Operand) (a b : Tg) (w : World) : (eqGuard op 51 x y (tgV a) (tgV b)).run Tryz.prog w = .ok () w :=
  run_eqGuard_agg w op _ x y _ _ (by kernel_rfl)
/-- A tag is stored in one step. -/
def stTag (v u : Value) : Sem Unit := Instr.storeAt 51 v u
theorem stTag_fold (v u : Value) : Instr.storeAt 51 v u = stTag v u := rfl
theorem tgC_one (t : Tg) : ∀ v ∈ tgC t, v.oneCell' = true := by
  obtain ⟨nm, un, ki, ad, ev, we, sg, sw, mu, di, aa, de, qu, ul, uh, la, lo, hi, hy⟩ := t
  intro v hv
  simp only [tgC, List.mem_cons, List.not_mem_nil, or_false] at hv
  rcases hv with rfl | rfl | rfl | rfl | rfl | rfl | rfl | rfl | rfl | rfl | rfl | rfl | rfl | rfl | rfl | rfl | rfl | rfl | rfl <;> rfl
theorem stTag_run {w : World} {b o : Nat} (t : Tg) (ht : w.there b o 19) : (stTag (.pointer (some ⟨b, o, none⟩)) (tgV t)).run Tryz.prog w = .ok () (w.setCells b o (tgC t)) :=
  run_storeAt_mid w b o _ (tgC t).toArray ht size_tag (all_oneCell_toArray (tgC_one t))
attribute [local go_sem ↓] ldTag_fold stTag_fold
attribute [local go_sem] run_neq_tag run_eqGuard_tag

theorem setL_after (arr : Array Value) (p : Nat) (vs : List Value) (i : Nat) (h : p + vs.length ≤ i) : (setL arr p vs)[i]? = arr[i]? := by
  induction vs generalizing arr p with
  | nil => rfl
  | cons v vs ih =>
    rw [List.length_cons] at h
    rw [setL, ih _ _ (by omega), Array.getElem?_setIfInBounds_ne (by omega)]
/-- One tag of a row of tags is another one. -/
theorem set_flat (L1 L2 : List Tg) (z t : Tg) (k : Nat) (hk : L1.length = k) : setL (flatV tgC (L1 ++ z :: L2)).toArray (k * 19) (tgC t) = (flatV tgC (L1 ++ t :: L2)).toArray := by
  have e1 : (flatV tgC L1).length = k * 19 := by rw [flatV_len tgC_len, hk]
  have key : ∀ u : Tg, ∀ i, ((flatV tgC (L1 ++ u :: L2)).toArray)[i]? = if i < k * 19 then (flatV tgC L1)[i]? else if i < k * 19 + 19 then (tgC u)[i - k * 19]? else (flatV tgC L2)[i - k * 19 - 19]? := by
    intro u i
    rw [List.getElem?_toArray, flatV_append, flatV_cons]
    by_cases h1 : i < k * 19
    · rw [if_pos h1, List.getElem?_append_left (by omega)]
    · rw [if_neg h1, List.getElem?_append_right (by omega), e1]
      by_cases h2 : i < k * 19 + 19
      · rw [if_pos h2, List.getElem?_append_left (by rw [tgC_len]; omega)]
      · rw [if_neg h2, List.getElem?_append_right (by rw [tgC_len]; omega), tgC_len]
  apply Array.ext_getElem?
  intro i
  by_cases h1 : i < k * 19
  · rw [setL_get _ _ _ _ h1, key z, key t, if_pos h1, if_pos h1]
  · by_cases h2 : i < k * 19 + 19
    · obtain ⟨j, rfl⟩ : ∃ j, i = k * 19 + j := ⟨i - k * 19, by omega⟩
      have hj : j < (tgC t).length := by rw [tgC_len]; omega
      have hsz : (flatV tgC (L1 ++ z :: L2)).toArray.size = k * 19 + (19 + (flatV tgC L2).length) := by
        rw [List.size_toArray, flatV_append, flatV_cons, List.length_append, List.length_append, e1, tgC_len]
      rw [setL_at _ _ _ j (tgC t)[j] (List.getElem?_eq_getElem hj) (by rw [hsz]; omega), key t, if_neg h1, if_pos h2, show k * 19 + j - k * 19 = j by omega, List.getElem?_eq_getElem hj]
    · rw [setL_after _ _ _ _ (by rw [tgC_len]; omega), key z, key t, if_neg h1, if_neg h1, if_neg h2, if_neg h2]
theorem setCells_alloc (w : World) (t : TypeId) (arr : Array Value) (p : Nat) (vs : List Value) : (w.alloc (.cells arr t)).setCells w.heap.size p vs = w.alloc (.cells (setL arr p vs) t) := by
  induction vs generalizing arr p with
  | nil => rfl
  | cons v vs ih =>
    rw [World.setCells, setL, ← ih]
    congr 1
    simp [go_sem]
theorem there_alloc_size (w : World) (t : TypeId) (arr : Array Value) (p n : Nat) (h : p + n ≤ arr.size) : (w.alloc (.cells arr t)).there w.heap.size p n := fun j hj => by
  refine ⟨?_, block_frozen _ _ _ _ _ (heap_alloc_new w _)⟩
  rw [cell_of_row _ _ _ _ _ _ (heap_alloc_new w _), Array.getElem?_eq_getElem (by omega)]
  rfl
/-- A tag of a list in memory, in every world that has drawn. -/
theorem VRow.loads {w : World} {B : Nat} {A : Option Addr} {l : List Tg} (h : VRow w B A (flatV tgC l)) {i : Nat} (hi : i < l.length) :
    ∃ b o, A = some ⟨b, o, none⟩ ∧ b < B ∧ (ldTag (.pointer (some ⟨b, o + i * 19, none⟩))).run Tryz.prog w = .ok (tgV l[i]) w ∧ ∀ m, (ldTag (.pointer (some ⟨b, o + i * 19, none⟩))).run Tryz.prog (w.drewN m) = .ok (tgV l[i]) (w.drewN m) := by
  obtain ⟨b, o, e, hb, hc⟩ := h.elem tgC_len (by omega) hi
  exact ⟨b, o, e, hb, ldTag_run rfl hc, fun m => ldTag_run (w := w.drewN m) rfl hc⟩

theorem same_yes_tg (A A' : Option Addr) (n c c' : Nat) (l : List Tg) (w : World) (B B' : Nat) (hr : VRow w B A (flatV tgC l)) (hr' : VRow w B' A' (flatV tgC l)) (hn : l.length = n) (hb : n ≤ 4611686018427387904) :
    Calls Tryz.prog 35 #[.slice A n c, .slice A' n c'] w fun e w' => e = .returned (.bool true) ∧ ∃ m, w' = w.drewN m := by
  have hn' := Lib.hid hn
  clear hn
  go_enter Tryz.func35, Tryz.ntmps35
  go_wp2
  go_loopw [5] (fun i wr => ∃ k : Nat, k ≤ n ∧ i = .int .i64 k ∧ Hid (∃ m, wr = w.drewN m)) (fun i _ => n - (intOf i).toNat)
  case atStart => exact ⟨0, by omega, rfl, Lib.hid ⟨0, rfl⟩⟩
  case round =>
    obtain ⟨k, hk, rfl, hdr⟩ := hrel
    have hrw : VRow wr B A (flatV tgC l) := by obtain ⟨m, e⟩ := hdr.out; rw [e]; exact hr.drewN m
    have hrw' : VRow wr B' A' (flatV tgC l) := by obtain ⟨m, e⟩ := hdr.out; rw [e]; exact hr'.drewN m
    by_cases hlt : k < n
    · have hkl : k < l.length := by have := hn'.out; omega
      obtain ⟨b, o, rfl, hb1, hc0, hc1⟩ := hrw.loads hkl
      obtain ⟨b', o', rfl, hb1', hc0', hc1'⟩ := hrw'.loads hkl
      clear hrw hrw'
      generalize l[k] = t at *
      have hlt' : (k : Int) < (n : Int) := by omega
      go_wp2
      go_quiet (fail)
      go_wp2
      go_roundw
      case rel => exact ⟨k + 1, by omega, by go_num, Lib.hid (by obtain ⟨m, e⟩ := hdr.out; rw [e]; exact ⟨m + nq, by rw [World.drewN_drewN]⟩)⟩
      case measure => simp [intOf]; omega
    · clear hrw hrw'
      go_wp2
      go_ret
      exact ⟨rfl, hdr.out⟩

def zT : Tg := ⟨⟨#[]⟩, 0, 0, 0, 0, false, false, false, 0, 0, 0, 0, 0, false, false, false, 0, 0, 0⟩
def mkT : Tg := ⟨⟨#[97, 32, 109, 97, 114, 107]⟩, 0, 0, 0, 0, false, false, false, 0, 0, 0, 0, 0, false, false, false, 0, 0, 0⟩
theorem info_tg : (Tryz.prog.info? 51).map (fun i => (i.zero, i.size, i.bytes)) = some (some (tgV zT), 19, 128) := by kernel_rfl
theorem made_tg (n : Nat) : madeCells (tgV zT).cells (n * 19) = (flatV tgC (List.replicate n zT)).toArray := by
  have hl : (flatV tgC (List.replicate n zT)).length = n * 19 := by rw [flatV_len tgC_len, List.length_replicate]
  have hc : (tgV zT).cells = (tgC zT).toArray := rfl
  apply Array.ext
  · rw [size_madeCells, List.size_toArray, hl]
  · intro i h1 h3
    rw [size_madeCells] at h1
    have h2 := flatV_get tgC_len (List.replicate n zT) (i / 19) (by rw [List.length_replicate]; omega) (i % 19) (Nat.mod_lt _ (by omega))
    rw [show i / 19 * 19 + i % 19 = i by omega, List.getElem_replicate] at h2
    have hm : i % 19 < (tgC zT).length := by rw [tgC_len]; exact Nat.mod_lt _ (by omega)
    have e : (flatV tgC (List.replicate n zT)).toArray[i] = (tgC zT)[i % 19] := by
      rw [List.getElem?_eq_getElem (by rw [hl]; exact h1), List.getElem?_eq_getElem hm] at h2
      exact Option.some.inj h2
    rw [e]
    simp only [madeCells, Array.getElem_map, Array.getElem_range, hc]
    have h19 : (tgC zT).toArray.size = 19 := rfl
    rw [h19, getElem!_pos (tgC zT).toArray (i % 19) (by rw [h19]; exact Nat.mod_lt _ (by omega))]
    rfl
theorem make_tg (n : Nat) (hn : n * 128 ≤ 140737488355328) (W : World) :
    (Instr.makeSlice 22 (.int .i64 (n : Int)) (.int .i64 (n : Int))).run Tryz.prog W = .ok (.slice (some ⟨W.heap.size, 0, none⟩) n n) (W.alloc (.cells (flatV tgC (List.replicate n zT)).toArray 51)) := by
  obtain ⟨i, hi, hz, hs, hb⟩ := info_parts info_tg
  have h := run_make (P := Tryz.prog) W 22 51 i (tgV zT) Tryz.underlying22 hi hz .i64 .i64 n n (by omega) (by omega) (by rw [hb]; omega) (by omega)
  rw [h, hs, Int.toNat_natCast, made_tg]

def marksG : List Tg := [mkT, mkT, mkT, mkT, mkT]
theorem flat_size (L : List Tg) : (flatV tgC L).toArray.size = L.length * 19 := by rw [List.size_toArray, flatV_len tgC_len]
/-- A tag is stored into a block of the call's own. -/
theorem stTag_own (w : World) (C : Array Value) (k : Nat) (t : Tg) (h : k * 19 + 19 ≤ C.size) : (stTag (.pointer (some ⟨w.heap.size, k * 19, none⟩)) (tgV t)).run Tryz.prog (w.alloc (.cells C 51)) = .ok () (w.alloc (.cells (setL C (k * 19) (tgC t)) 51)) := by
  rw [stTag_run t (there_alloc_size w _ C (k * 19) 19 h), setCells_alloc]
theorem take_tg {α : Type} (l : List α) (k : Nat) (h : k < l.length) : l.take (k + 1) = l.take k ++ [l[k]] := by simp
set_option maxHeartbeats 1000000 in
theorem lent_tg (A : Option Addr) (n c : Nat) (l : List Tg) (w : World) (hr : VRow w w.heap.size A (flatV tgC l)) (hn : l.length = n) (hb : (n + 5) * 128 ≤ 140737488355328) :
    Calls Tryz.prog 7 #[.slice A n c] w fun e w' => e = .returned (.slice (some ⟨w.heap.size, 0, none⟩) n (n+5)) ∧ w' = w.alloc (.cells (flatV tgC (l ++ marksG)).toArray 51) := by
  have hn' := Lib.hid hn
  clear hn
  have hmk := make_tg (n + 5) hb
  rw [show ((n + 5 : Nat) : Int) = (n : Int) + 5 by omega] at hmk
  go_enter Tryz.func7, Tryz.ntmps7
  go_wp2
  go_loopw [4] (fun i wr => ∃ (k : Nat) (C : Array Value), k ≤ n ∧ i = .int .i64 k ∧ Hid (C = (flatV tgC (l.take k ++ List.replicate (n + 5 - k) zT)).toArray) ∧ wr = w.alloc (.cells C 51)) (fun i _ => n - (intOf i).toNat)
  case atStart => exact ⟨0, _, by omega, rfl, Lib.hid (by simp), rfl⟩
  case round =>
    obtain ⟨k, C, hk, rfl, hC, rfl⟩ := hrel
    by_cases hlt : k < n
    · have hkl : k < l.length := by have := hn'.out; omega
      have hlt' : (k : Int) < (n : Int) := by omega
      have hlt5 : (k : Int) < (n : Int) + 5 := by omega
      obtain ⟨b, o, rfl, hb1, hld, _⟩ := (hr.alloc (Nat.le_refl _) (.cells C 51)).loads hkl
      have hsz : k * 19 + 19 ≤ C.size := by rw [hC.out, flat_size, List.length_append, List.length_take, List.length_replicate]; have := hn'.out; omega
      have hst := stTag_own w C k l[k] hsz
      have HT := Lib.hid (take_tg l k hkl)
      clear hsz
      generalize l[k] = t at *
      go_wp2
      go_roundw
      case rel => exact ⟨k + 1, _, by omega, by go_num, Lib.hid (by rw [hC.out, HT.out, show n + 5 - k = (n + 5 - (k + 1)) + 1 by omega, List.replicate_succ, set_flat _ _ _ _ _ (by rw [List.length_take]; have := hn'.out; omega), List.append_assoc]; rfl), rfl⟩
      case measure => simp [intOf]; omega
    · obtain rfl : k = n := by omega
      have hx : l.take k = l := List.take_of_length_le (by have := hn'.out; omega)
      have hC2 : Hid (C = (flatV tgC (l ++ List.replicate 5 zT)).toArray) := Lib.hid (by rw [hC.out, hx, show k + 5 - k = 5 by omega])
      clear hx hlt hk hC
      go_wp2
      go_loopw [5] (fun i wr => ∃ (j : Nat) (C : Array Value), j ≤ 5 ∧ i = .int .i64 (k + j : Nat) ∧ Hid (C = (flatV tgC (l ++ marksG.take j ++ List.replicate (5 - j) zT)).toArray) ∧ wr = w.alloc (.cells C 51)) (fun i _ => k + 5 - (intOf i).toNat)
      case atStart => exact ⟨0, _, by omega, rfl, Lib.hid (by rw [hC2.out]; simp), rfl⟩
      case round =>
        obtain ⟨j, C, hj, rfl, hC, rfl⟩ := hrel
        by_cases hlt : j < 5
        · have hsz : (k + j) * 19 + 19 ≤ C.size := by rw [hC.out, flat_size, List.length_append, List.length_append, List.length_take, List.length_replicate]; have := hn'.out; simp [marksG]; omega
          have hst := stTag_own w C (k + j) mkT hsz
          have HM : Hid (marksG.take (j + 1) = marksG.take j ++ [mkT]) := Lib.hid (by rcases j with _ | _ | _ | _ | _ | j <;> first | rfl | omega)
          have HL : Hid ((l ++ marksG.take j).length = k + j) := Lib.hid (by rw [List.length_append, List.length_take]; have := hn'.out; simp [marksG]; omega)
          clear hsz
          simp only [tgV, tgC, mkT] at hst
          go_wp2
          go_roundw
          case rel => exact ⟨j + 1, _, by omega, by go_num, Lib.hid (by show setL C _ (tgC mkT) = _; rw [hC.out, HM.out, show 5 - j = (5 - (j + 1)) + 1 by omega, List.replicate_succ, set_flat _ _ _ _ _ HL.out]; simp), rfl⟩
          case measure => simp [intOf]; omega
        · obtain rfl : j = 5 := by omega
          go_wp2
          go_ret
          exact ⟨rfl, by rw [hC.out]; simp [marksG]⟩
theorem run_neq_mark (w : World) : (binOp .neq 51 (tgV mkT) (tgV mkT)).run Tryz.prog w = .ok (.bool false) w := run_neq_tag mkT w
/-- KeptTags, where the list is in memory of its own with its five marks behind it. -/
theorem kept_tg (A : Option Addr) (n c g : Nat) (l : List Tg) (w : World) (B : Nat) (hr : VRow w B A (flatV tgC l)) (hn : l.length = n) (hb : n ≤ 1152921504606846976)
    (hg : w.heap[g]? = some (.cells (flatV tgC (l ++ marksG)).toArray 51 (0, 0))) :
    Calls Tryz.prog 14 #[.slice (some ⟨g, 0, none⟩) n (n + 5), .slice A n c] w fun e w' => e = .returned (.bool true) ∧ ∃ m, w' = w.drewN m := by
  have hrow : VRow w w.heap.size (some ⟨g, 0, none⟩) (flatV tgC l) := VRow.of_block hg _ (by rw [flatV_append]; exact List.prefix_append _ _)
  have hall : VRow w w.heap.size (some ⟨g, 0, none⟩) (flatV tgC (l ++ marksG)) := VRow.of_block hg _ (List.prefix_refl _)
  have hmark : ∀ j, j < 5 → ∀ m, (ldTag (.pointer (some ⟨g, (n + j) * 19, none⟩))).run Tryz.prog (w.drewN m) = .ok (tgV mkT) (w.drewN m) := by
    intro j hj m
    have hk : n + j < (l ++ marksG).length := by rw [List.length_append, hn]; simp [marksG]; omega
    obtain ⟨b, o, e, _, _, h⟩ := hall.loads hk
    injection e with e
    injection e with e1 e2
    subst e1 e2
    have he : (l ++ marksG)[n + j] = mkT := by
      rw [List.getElem_append_right (by omega)]
      have : ∀ i (hi : i < marksG.length), marksG[i] = mkT := by
        intro i hi
        rcases i with _ | _ | _ | _ | _ | i <;> first | rfl | exact absurd hi (by simp [marksG])
      exact this _ _
    have := h m
    rw [he, Nat.zero_add] at this
    exact this
  have HM := Lib.hid hmark
  clear hmark hg hall
  go_enter Tryz.func14, Tryz.ntmps14
  go_wp2_with (go_at_call 35; refine (same_yes_tg _ _ _ _ _ l _ _ _ hrow hr hn (by omega)).mono ?_; rintro e w' ⟨rfl, m, rfl⟩)
  go_loop [6] (fun i => ∃ j : Nat, j ≤ 5 ∧ i = .int .i64 (n + j : Nat)) (fun i => n + 5 - (intOf i).toNat)
  case atStart => exact ⟨0, by omega, rfl⟩
  case round =>
    obtain ⟨j, hj, rfl⟩ := hrel
    by_cases hlt : j < 5
    · have hc0 := HM.out j hlt m
      have hq0 : ∀ x y, (eqGuard .neq 51 x y (tgV mkT) (tgV mkT)).run Tryz.prog (w.drewN m) = .ok () (w.drewN m) := fun x y => run_eqGuard_tag _ x y mkT mkT _
      have hq1 := run_neq_mark (w.drewN m)
      simp only [tgV, tgC, mkT] at hq0 hq1 hc0
      go_wp2
      go_round
      case rel => exact ⟨j + 1, by omega, by go_num⟩
      case measure => simp [intOf]; omega
    · go_wp2
      go_ret
      exact ⟨rfl, m, rfl⟩
end Go.Proofs.YtcmbdhmhkfhjfaaGreat
namespace Go.Proofs.YtcmbdhmhkfhjfaaGreat
open Go.RowKit
set_option linter.unusedVariables false
set_option maxRecDepth 100000
attribute [local go_sem ↓] ldTag_fold stTag_fold

theorem setL_whole (arr : Array Value) (vs : List Value) (h : arr.size = vs.length) : setL arr 0 vs = vs.toArray := by
  apply Array.ext_getElem?
  intro i
  by_cases hi : i < vs.length
  · have := setL_at arr 0 vs i vs[i] (List.getElem?_eq_getElem hi) (by omega)
    rw [Nat.zero_add] at this
    rw [this, List.getElem?_toArray, List.getElem?_eq_getElem hi]
  · rw [Array.getElem?_eq_none (by rw [setL_size]; omega), Array.getElem?_eq_none (by rw [List.size_toArray]; omega)]
/-- A tag is stored into a new box. -/
theorem made_tag (w : World) (t : Tg) : (stTag (.pointer (some ⟨w.heap.size, 0, none⟩)) (tgV t)).run Tryz.prog (w.alloc (.cells #[.string ⟨#[]⟩, .int .i64 0, .int .i64 0, .int .i64 0, .int .i64 0, .bool false, .bool false, .bool false, .int .i64 0, .int .i64 0, .int .i64 0, .int .i64 0, .int .i64 0, .bool false, .bool false, .bool false, .int .i64 0, .int .i64 0, .int .i64 0] 51)) = .ok () (w.alloc (.cells (tgC t).toArray 51)) := by
  have h := stTag_run (w := w.alloc (.cells (tgC zT).toArray 51)) (o := 0) t (there_alloc_size w 51 (tgC zT).toArray 0 19 (Nat.le_refl _))
  rw [setCells_alloc, setL_whole (tgC zT).toArray (tgC t) rfl] at h
  exact h

theorem chkT_mean (t : Tg) (hn : nameB (bys t.nm) = true) (u1 : ¬ t.un < 1) (u2 : ¬ t.un > 247) (k1 : ¬ t.ki < 1) (k2 : ¬ t.ki > 4) (d1 : ¬ t.ad < 0) (d2 : ¬ t.ad > 65536 - widT t) (v1 : ¬ t.ev < 1) (v2 : ¬ t.ev > 1048576) : chkT t = meanT t := by
  unfold chkT meanT
  simp only [hn, decide_eq_false u1, decide_eq_false u2, decide_eq_false k1, decide_eq_false k2, decide_eq_false d1, decide_eq_false d2, decide_eq_false v1, decide_eq_false v2]
  rfl
set_option maxHeartbeats 1000000 in
theorem pc9_0 (nm : ByteArray) (un ki ad ev : Int) (we sg sw : Bool) (mu di aa de qu : Int) (ul uh la : Bool) (lo hi hy : Int) (w : World) (hs : nm.size ≤ maxLen) (hn : nameB (bys nm) = false) : Calls Tryz.prog 99 #[.agg #[.string nm, .int .i64 un, .int .i64 ki, .int .i64 ad, .int .i64 ev, .bool we, .bool sg, .bool sw, .int .i64 mu, .int .i64 di, .int .i64 aa, .int .i64 de, .int .i64 qu, .bool ul, .bool uh, .bool la, .int .i64 lo, .int .i64 hi, .int .i64 hy]] w fun e w' => e = .returned (.int .i64 8) ∧ Below w.heap.size w w' := by
  have h0 := heap_alloc_new w (.cells #[.string nm, .int .i64 un, .int .i64 ki, .int .i64 ad, .int .i64 ev, .bool we, .bool sg, .bool sw, .int .i64 mu, .int .i64 di, .int .i64 aa, .int .i64 de, .int .i64 qu, .bool ul, .bool uh, .bool la, .int .i64 lo, .int .i64 hi, .int .i64 hy] 51)
  have bel0 := bel_alloc w (.cells #[.string nm, .int .i64 un, .int .i64 ki, .int .i64 ad, .int .i64 ev, .bool we, .bool sg, .bool sw, .int .i64 mu, .int .i64 di, .int .i64 aa, .int .i64 de, .int .i64 qu, .bool ul, .bool uh, .bool la, .int .i64 lo, .int .i64 hi, .int .i64 hy] 51)
  go_enter Tryz.func99, Tryz.ntmps99
  go_wp2_with fail
  refine (Name9_any nm _ hs).mono ?_
  rintro e w1 ⟨rfl, b1⟩
  rw [hn]
  have h1 := keepB b1 h0
  have bel1 := bel0.trans (b1.mono bel0.size)
  clear hn b1 h0 bel0
  obtain ⟨c0, c1, c2, c3, c4, c5, c6, c7, c8, c9, c10, c11, c12, c13, c14, c15, c16, c17, c18⟩ := of19 nm un ki ad ev we sg sw mu di aa de qu ul uh la lo hi hy h1
  go_wp2
  go_ret
  exact ⟨rfl, bel1⟩

set_option maxHeartbeats 1000000 in
theorem pc9_1 (nm : ByteArray) (un ki ad ev : Int) (we sg sw : Bool) (mu di aa de qu : Int) (ul uh la : Bool) (lo hi hy : Int) (w : World) (hs : nm.size ≤ maxLen) (hn : nameB (bys nm) = true) (L1 : lieB un 1 247 = false) : Calls Tryz.prog 99 #[.agg #[.string nm, .int .i64 un, .int .i64 ki, .int .i64 ad, .int .i64 ev, .bool we, .bool sg, .bool sw, .int .i64 mu, .int .i64 di, .int .i64 aa, .int .i64 de, .int .i64 qu, .bool ul, .bool uh, .bool la, .int .i64 lo, .int .i64 hi, .int .i64 hy]] w fun e w' => e = .returned (.int .i64 24) ∧ Below w.heap.size w w' := by
  have h0 := heap_alloc_new w (.cells #[.string nm, .int .i64 un, .int .i64 ki, .int .i64 ad, .int .i64 ev, .bool we, .bool sg, .bool sw, .int .i64 mu, .int .i64 di, .int .i64 aa, .int .i64 de, .int .i64 qu, .bool ul, .bool uh, .bool la, .int .i64 lo, .int .i64 hi, .int .i64 hy] 51)
  have bel0 := bel_alloc w (.cells #[.string nm, .int .i64 un, .int .i64 ki, .int .i64 ad, .int .i64 ev, .bool we, .bool sg, .bool sw, .int .i64 mu, .int .i64 di, .int .i64 aa, .int .i64 de, .int .i64 qu, .bool ul, .bool uh, .bool la, .int .i64 lo, .int .i64 hi, .int .i64 hy] 51)
  go_enter Tryz.func99, Tryz.ntmps99
  go_wp2_with fail
  refine (Name9_any nm _ hs).mono ?_
  rintro e w1 ⟨rfl, b1⟩
  rw [hn]
  have h1 := keepB b1 h0
  have bel1 := bel0.trans (b1.mono bel0.size)
  clear hn b1 h0 bel0
  obtain ⟨c0, c1, c2, c3, c4, c5, c6, c7, c8, c9, c10, c11, c12, c13, c14, c15, c16, c17, c18⟩ := of19 nm un ki ad ev we sg sw mu di aa de qu ul uh la lo hi hy h1
  go_wp2_with fail
  refine (lies_any _ _ _ _).mono ?_
  rintro e w' ⟨rfl, hwe⟩
  rw [hwe]
  clear hwe w'
  rw [L1]
  clear L1
  go_wp2
  go_ret
  exact ⟨rfl, bel1⟩

set_option maxHeartbeats 1000000 in
theorem pc9_2 (nm : ByteArray) (un ki ad ev : Int) (we sg sw : Bool) (mu di aa de qu : Int) (ul uh la : Bool) (lo hi hy : Int) (w : World) (hs : nm.size ≤ maxLen) (hn : nameB (bys nm) = true) (L1 : lieB un 1 247 = true) (L2 : lieB ki 1 4 = false) : Calls Tryz.prog 99 #[.agg #[.string nm, .int .i64 un, .int .i64 ki, .int .i64 ad, .int .i64 ev, .bool we, .bool sg, .bool sw, .int .i64 mu, .int .i64 di, .int .i64 aa, .int .i64 de, .int .i64 qu, .bool ul, .bool uh, .bool la, .int .i64 lo, .int .i64 hi, .int .i64 hy]] w fun e w' => e = .returned (.int .i64 28) ∧ Below w.heap.size w w' := by
  have h0 := heap_alloc_new w (.cells #[.string nm, .int .i64 un, .int .i64 ki, .int .i64 ad, .int .i64 ev, .bool we, .bool sg, .bool sw, .int .i64 mu, .int .i64 di, .int .i64 aa, .int .i64 de, .int .i64 qu, .bool ul, .bool uh, .bool la, .int .i64 lo, .int .i64 hi, .int .i64 hy] 51)
  have bel0 := bel_alloc w (.cells #[.string nm, .int .i64 un, .int .i64 ki, .int .i64 ad, .int .i64 ev, .bool we, .bool sg, .bool sw, .int .i64 mu, .int .i64 di, .int .i64 aa, .int .i64 de, .int .i64 qu, .bool ul, .bool uh, .bool la, .int .i64 lo, .int .i64 hi, .int .i64 hy] 51)
  go_enter Tryz.func99, Tryz.ntmps99
  go_wp2_with fail
  refine (Name9_any nm _ hs).mono ?_
  rintro e w1 ⟨rfl, b1⟩
  rw [hn]
  have h1 := keepB b1 h0
  have bel1 := bel0.trans (b1.mono bel0.size)
  clear hn b1 h0 bel0
  obtain ⟨c0, c1, c2, c3, c4, c5, c6, c7, c8, c9, c10, c11, c12, c13, c14, c15, c16, c17, c18⟩ := of19 nm un ki ad ev we sg sw mu di aa de qu ul uh la lo hi hy h1
  go_wp2_with fail
  refine (lies_any _ _ _ _).mono ?_
  rintro e w' ⟨rfl, hwe⟩
  rw [hwe]
  clear hwe w'
  rw [L1]
  clear L1
  go_wp2_with fail
  refine (lies_any _ _ _ _).mono ?_
  rintro e w' ⟨rfl, hwe⟩
  rw [hwe]
  clear hwe w'
  rw [L2]
  clear L2
  go_wp2
  go_ret
  exact ⟨rfl, bel1⟩

set_option maxHeartbeats 1000000 in
theorem pc9_3 (nm : ByteArray) (un ki ad ev : Int) (we sg sw : Bool) (mu di aa de qu : Int) (ul uh la : Bool) (lo hi hy : Int) (w : World) (hs : nm.size ≤ maxLen) (hn : nameB (bys nm) = true) (L1 : lieB un 1 247 = true) (L2 : lieB ki 1 4 = true) (hw : IntKind.i64.wrap (65536 - widT ⟨nm, un, ki, ad, ev, we, sg, sw, mu, di, aa, de, qu, ul, uh, la, lo, hi, hy⟩) = 65536 - widT ⟨nm, un, ki, ad, ev, we, sg, sw, mu, di, aa, de, qu, ul, uh, la, lo, hi, hy⟩) (L3 : lieB ad 0 (65536 - widT ⟨nm, un, ki, ad, ev, we, sg, sw, mu, di, aa, de, qu, ul, uh, la, lo, hi, hy⟩) = false) : Calls Tryz.prog 99 #[.agg #[.string nm, .int .i64 un, .int .i64 ki, .int .i64 ad, .int .i64 ev, .bool we, .bool sg, .bool sw, .int .i64 mu, .int .i64 di, .int .i64 aa, .int .i64 de, .int .i64 qu, .bool ul, .bool uh, .bool la, .int .i64 lo, .int .i64 hi, .int .i64 hy]] w fun e w' => e = .returned (.int .i64 21) ∧ Below w.heap.size w w' := by
  have h0 := heap_alloc_new w (.cells #[.string nm, .int .i64 un, .int .i64 ki, .int .i64 ad, .int .i64 ev, .bool we, .bool sg, .bool sw, .int .i64 mu, .int .i64 di, .int .i64 aa, .int .i64 de, .int .i64 qu, .bool ul, .bool uh, .bool la, .int .i64 lo, .int .i64 hi, .int .i64 hy] 51)
  have bel0 := bel_alloc w (.cells #[.string nm, .int .i64 un, .int .i64 ki, .int .i64 ad, .int .i64 ev, .bool we, .bool sg, .bool sw, .int .i64 mu, .int .i64 di, .int .i64 aa, .int .i64 de, .int .i64 qu, .bool ul, .bool uh, .bool la, .int .i64 lo, .int .i64 hi, .int .i64 hy] 51)
  obtain ⟨wd, hwd⟩ : ∃ x, widT ⟨nm, un, ki, ad, ev, we, sg, sw, mu, di, aa, de, qu, ul, uh, la, lo, hi, hy⟩ = x := ⟨_, rfl⟩
  have HW : Hid (∀ W : World, Calls Tryz.prog 44 #[.agg #[.string nm, .int .i64 un, .int .i64 ki, .int .i64 ad, .int .i64 ev, .bool we, .bool sg, .bool sw, .int .i64 mu, .int .i64 di, .int .i64 aa, .int .i64 de, .int .i64 qu, .bool ul, .bool uh, .bool la, .int .i64 lo, .int .i64 hi, .int .i64 hy]] W fun e w' => e = .returned (.int .i64 (widT ⟨nm, un, ki, ad, ev, we, sg, sw, mu, di, aa, de, qu, ul, uh, la, lo, hi, hy⟩)) ∧ Below W.heap.size W w') := Lib.hid fun W => Width9_any nm un ki ad ev we sg sw mu di aa de qu ul uh la lo hi hy W
  rw [hwd] at hw L3 HW
  clear hwd
  go_enter Tryz.func99, Tryz.ntmps99
  go_wp2_with fail
  refine (Name9_any nm _ hs).mono ?_
  rintro e w1 ⟨rfl, b1⟩
  rw [hn]
  have h1 := keepB b1 h0
  have bel1 := bel0.trans (b1.mono bel0.size)
  clear hn b1 h0 bel0
  obtain ⟨c0, c1, c2, c3, c4, c5, c6, c7, c8, c9, c10, c11, c12, c13, c14, c15, c16, c17, c18⟩ := of19 nm un ki ad ev we sg sw mu di aa de qu ul uh la lo hi hy h1
  go_wp2_with fail
  refine (lies_any _ _ _ _).mono ?_
  rintro e w' ⟨rfl, hwe⟩
  rw [hwe]
  clear hwe w'
  rw [L1]
  clear L1
  go_wp2_with fail
  refine (lies_any _ _ _ _).mono ?_
  rintro e w' ⟨rfl, hwe⟩
  rw [hwe]
  clear hwe w'
  rw [L2]
  clear L2
  clear c0 c1 c2 c3 c4 c5 c6 c7 c8 c9 c10 c11 c12 c13 c14 c15 c16 c17 c18
  have HL3 : Hid (∀ W : World, Calls Tryz.prog 115 #[.int .i64 ad, .int .i64 0, .int .i64 (65536 - wd)] W fun e w' => e = .returned (.bool false) ∧ Below W.heap.size W w') := Lib.hid fun W => (lies_any ad 0 (65536 - wd) W).mono (fun e w' h => by rw [h.1, h.2, L3]; exact ⟨rfl, Below.refl _ _⟩)
  clear L3
  go_wp2
  have HK : Hid (∀ w9 : World, Below w1.heap.size w1 w9 → (Below w1.heap.size w1 w9 ∧ w9.cell? ⟨w.heap.size, 3, none⟩ = some (.int .i64 ad) ∧ (ldTag (.pointer (some ⟨w.heap.size, 0, none⟩))).run Tryz.prog w9 = .ok (.agg #[.string nm, .int .i64 un, .int .i64 ki, .int .i64 ad, .int .i64 ev, .bool we, .bool sg, .bool sw, .int .i64 mu, .int .i64 di, .int .i64 aa, .int .i64 de, .int .i64 qu, .bool ul, .bool uh, .bool la, .int .i64 lo, .int .i64 hi, .int .i64 hy]) w9)) := Lib.hid fun w9 hw => ⟨hw, (of19 nm un ki ad ev we sg sw mu di aa de qu ul uh la lo hi hy (keepB hw h1)).2.2.2.1, ldTag_run rfl (rangeB (cs := [.string nm, .int .i64 un, .int .i64 ki, .int .i64 ad, .int .i64 ev, .bool we, .bool sg, .bool sw, .int .i64 mu, .int .i64 di, .int .i64 aa, .int .i64 de, .int .i64 qu, .bool ul, .bool uh, .bool la, .int .i64 lo, .int .i64 hi, .int .i64 hy]) (keepB hw h1))⟩
  have belh : ∀ w9 : World, (Below w1.heap.size w1 w9 ∧ w9.cell? ⟨w.heap.size, 3, none⟩ = some (.int .i64 ad) ∧ (ldTag (.pointer (some ⟨w.heap.size, 0, none⟩))).run Tryz.prog w9 = .ok (.agg #[.string nm, .int .i64 un, .int .i64 ki, .int .i64 ad, .int .i64 ev, .bool we, .bool sg, .bool sw, .int .i64 mu, .int .i64 di, .int .i64 aa, .int .i64 de, .int .i64 qu, .bool ul, .bool uh, .bool la, .int .i64 lo, .int .i64 hi, .int .i64 hy]) w9) → Below w1.heap.size w1 w9 := fun w9 h => h.1
  go_region_held3 (fun w9 => Below w1.heap.size w1 w9 ∧ w9.cell? ⟨w.heap.size, 3, none⟩ = some (.int .i64 ad) ∧ (ldTag (.pointer (some ⟨w.heap.size, 0, none⟩))).run Tryz.prog w9 = .ok (.agg #[.string nm, .int .i64 un, .int .i64 ki, .int .i64 ad, .int .i64 ev, .bool we, .bool sg, .bool sw, .int .i64 mu, .int .i64 di, .int .i64 aa, .int .i64 de, .int .i64 qu, .bool ul, .bool uh, .bool la, .int .i64 lo, .int .i64 hi, .int .i64 hy]) w9)
    ((refine HK.out _ ?_
      repeat' (first
        | with_reducible exact Below.refl _ _
        | with_reducible exact bel6
        | with_reducible exact bel5
        | with_reducible exact belh _ (by assumption)
        | with_reducible apply below_drew
        | with_reducible apply below_drewN
        | fail)))
    (first
      | (go_at_call 44; refine (HW.out _).mono ?_; rintro e w5 ⟨rfl, b5⟩; have bel5 : Below w1.heap.size w1 w5 := Below.trans (belh _ (by assumption)) (b5.mono (Below.size (belh _ (by assumption)))))
      | (go_at_call 115; refine (HL3.out _).mono ?_; rintro e w6 ⟨rfl, b6⟩; have bel6 : Below w1.heap.size w1 w6 := Below.trans (belh _ (by assumption)) (b6.mono (Below.size (belh _ (by assumption)))))
      | fail)
  have h6 := keepB bel6 h1
  have bel7 := bel1.trans (bel6.mono bel1.size)
  clear HK belh bel5 bel6 h1 bel1 HW HL3
  obtain ⟨c0, c1, c2, c3, c4, c5, c6, c7, c8, c9, c10, c11, c12, c13, c14, c15, c16, c17, c18⟩ := of19 nm un ki ad ev we sg sw mu di aa de qu ul uh la lo hi hy h6
  go_wp2
  go_ret
  exact ⟨rfl, bel7⟩

set_option maxHeartbeats 1000000 in
theorem pc9_4 (nm : ByteArray) (un ki ad ev : Int) (we sg sw : Bool) (mu di aa de qu : Int) (ul uh la : Bool) (lo hi hy : Int) (w : World) (hs : nm.size ≤ maxLen) (hn : nameB (bys nm) = true) (L1 : lieB un 1 247 = true) (L2 : lieB ki 1 4 = true) (hw : IntKind.i64.wrap (65536 - widT ⟨nm, un, ki, ad, ev, we, sg, sw, mu, di, aa, de, qu, ul, uh, la, lo, hi, hy⟩) = 65536 - widT ⟨nm, un, ki, ad, ev, we, sg, sw, mu, di, aa, de, qu, ul, uh, la, lo, hi, hy⟩) (L3 : lieB ad 0 (65536 - widT ⟨nm, un, ki, ad, ev, we, sg, sw, mu, di, aa, de, qu, ul, uh, la, lo, hi, hy⟩) = true) (L4 : lieB ev 1 1048576 = false) : Calls Tryz.prog 99 #[.agg #[.string nm, .int .i64 un, .int .i64 ki, .int .i64 ad, .int .i64 ev, .bool we, .bool sg, .bool sw, .int .i64 mu, .int .i64 di, .int .i64 aa, .int .i64 de, .int .i64 qu, .bool ul, .bool uh, .bool la, .int .i64 lo, .int .i64 hi, .int .i64 hy]] w fun e w' => e = .returned (.int .i64 3) ∧ Below w.heap.size w w' := by
  have h0 := heap_alloc_new w (.cells #[.string nm, .int .i64 un, .int .i64 ki, .int .i64 ad, .int .i64 ev, .bool we, .bool sg, .bool sw, .int .i64 mu, .int .i64 di, .int .i64 aa, .int .i64 de, .int .i64 qu, .bool ul, .bool uh, .bool la, .int .i64 lo, .int .i64 hi, .int .i64 hy] 51)
  have bel0 := bel_alloc w (.cells #[.string nm, .int .i64 un, .int .i64 ki, .int .i64 ad, .int .i64 ev, .bool we, .bool sg, .bool sw, .int .i64 mu, .int .i64 di, .int .i64 aa, .int .i64 de, .int .i64 qu, .bool ul, .bool uh, .bool la, .int .i64 lo, .int .i64 hi, .int .i64 hy] 51)
  obtain ⟨wd, hwd⟩ : ∃ x, widT ⟨nm, un, ki, ad, ev, we, sg, sw, mu, di, aa, de, qu, ul, uh, la, lo, hi, hy⟩ = x := ⟨_, rfl⟩
  have HW : Hid (∀ W : World, Calls Tryz.prog 44 #[.agg #[.string nm, .int .i64 un, .int .i64 ki, .int .i64 ad, .int .i64 ev, .bool we, .bool sg, .bool sw, .int .i64 mu, .int .i64 di, .int .i64 aa, .int .i64 de, .int .i64 qu, .bool ul, .bool uh, .bool la, .int .i64 lo, .int .i64 hi, .int .i64 hy]] W fun e w' => e = .returned (.int .i64 (widT ⟨nm, un, ki, ad, ev, we, sg, sw, mu, di, aa, de, qu, ul, uh, la, lo, hi, hy⟩)) ∧ Below W.heap.size W w') := Lib.hid fun W => Width9_any nm un ki ad ev we sg sw mu di aa de qu ul uh la lo hi hy W
  rw [hwd] at hw L3 HW
  clear hwd
  go_enter Tryz.func99, Tryz.ntmps99
  go_wp2_with fail
  refine (Name9_any nm _ hs).mono ?_
  rintro e w1 ⟨rfl, b1⟩
  rw [hn]
  have h1 := keepB b1 h0
  have bel1 := bel0.trans (b1.mono bel0.size)
  clear hn b1 h0 bel0
  obtain ⟨c0, c1, c2, c3, c4, c5, c6, c7, c8, c9, c10, c11, c12, c13, c14, c15, c16, c17, c18⟩ := of19 nm un ki ad ev we sg sw mu di aa de qu ul uh la lo hi hy h1
  go_wp2_with fail
  refine (lies_any _ _ _ _).mono ?_
  rintro e w' ⟨rfl, hwe⟩
  rw [hwe]
  clear hwe w'
  rw [L1]
  clear L1
  go_wp2_with fail
  refine (lies_any _ _ _ _).mono ?_
  rintro e w' ⟨rfl, hwe⟩
  rw [hwe]
  clear hwe w'
  rw [L2]
  clear L2
  clear c0 c1 c2 c3 c4 c5 c6 c7 c8 c9 c10 c11 c12 c13 c14 c15 c16 c17 c18
  have HL3 : Hid (∀ W : World, Calls Tryz.prog 115 #[.int .i64 ad, .int .i64 0, .int .i64 (65536 - wd)] W fun e w' => e = .returned (.bool true) ∧ Below W.heap.size W w') := Lib.hid fun W => (lies_any ad 0 (65536 - wd) W).mono (fun e w' h => by rw [h.1, h.2, L3]; exact ⟨rfl, Below.refl _ _⟩)
  clear L3
  go_wp2
  have HK : Hid (∀ w9 : World, Below w1.heap.size w1 w9 → (Below w1.heap.size w1 w9 ∧ w9.cell? ⟨w.heap.size, 3, none⟩ = some (.int .i64 ad) ∧ (ldTag (.pointer (some ⟨w.heap.size, 0, none⟩))).run Tryz.prog w9 = .ok (.agg #[.string nm, .int .i64 un, .int .i64 ki, .int .i64 ad, .int .i64 ev, .bool we, .bool sg, .bool sw, .int .i64 mu, .int .i64 di, .int .i64 aa, .int .i64 de, .int .i64 qu, .bool ul, .bool uh, .bool la, .int .i64 lo, .int .i64 hi, .int .i64 hy]) w9)) := Lib.hid fun w9 hw => ⟨hw, (of19 nm un ki ad ev we sg sw mu di aa de qu ul uh la lo hi hy (keepB hw h1)).2.2.2.1, ldTag_run rfl (rangeB (cs := [.string nm, .int .i64 un, .int .i64 ki, .int .i64 ad, .int .i64 ev, .bool we, .bool sg, .bool sw, .int .i64 mu, .int .i64 di, .int .i64 aa, .int .i64 de, .int .i64 qu, .bool ul, .bool uh, .bool la, .int .i64 lo, .int .i64 hi, .int .i64 hy]) (keepB hw h1))⟩
  have belh : ∀ w9 : World, (Below w1.heap.size w1 w9 ∧ w9.cell? ⟨w.heap.size, 3, none⟩ = some (.int .i64 ad) ∧ (ldTag (.pointer (some ⟨w.heap.size, 0, none⟩))).run Tryz.prog w9 = .ok (.agg #[.string nm, .int .i64 un, .int .i64 ki, .int .i64 ad, .int .i64 ev, .bool we, .bool sg, .bool sw, .int .i64 mu, .int .i64 di, .int .i64 aa, .int .i64 de, .int .i64 qu, .bool ul, .bool uh, .bool la, .int .i64 lo, .int .i64 hi, .int .i64 hy]) w9) → Below w1.heap.size w1 w9 := fun w9 h => h.1
  go_region_held3 (fun w9 => Below w1.heap.size w1 w9 ∧ w9.cell? ⟨w.heap.size, 3, none⟩ = some (.int .i64 ad) ∧ (ldTag (.pointer (some ⟨w.heap.size, 0, none⟩))).run Tryz.prog w9 = .ok (.agg #[.string nm, .int .i64 un, .int .i64 ki, .int .i64 ad, .int .i64 ev, .bool we, .bool sg, .bool sw, .int .i64 mu, .int .i64 di, .int .i64 aa, .int .i64 de, .int .i64 qu, .bool ul, .bool uh, .bool la, .int .i64 lo, .int .i64 hi, .int .i64 hy]) w9)
    ((refine HK.out _ ?_
      repeat' (first
        | with_reducible exact Below.refl _ _
        | with_reducible exact bel6
        | with_reducible exact bel5
        | with_reducible exact belh _ (by assumption)
        | with_reducible apply below_drew
        | with_reducible apply below_drewN
        | fail)))
    (first
      | (go_at_call 44; refine (HW.out _).mono ?_; rintro e w5 ⟨rfl, b5⟩; have bel5 : Below w1.heap.size w1 w5 := Below.trans (belh _ (by assumption)) (b5.mono (Below.size (belh _ (by assumption)))))
      | (go_at_call 115; refine (HL3.out _).mono ?_; rintro e w6 ⟨rfl, b6⟩; have bel6 : Below w1.heap.size w1 w6 := Below.trans (belh _ (by assumption)) (b6.mono (Below.size (belh _ (by assumption)))))
      | fail)
  have h6 := keepB bel6 h1
  have bel7 := bel1.trans (bel6.mono bel1.size)
  clear HK belh bel5 bel6 h1 bel1 HW HL3
  obtain ⟨c0, c1, c2, c3, c4, c5, c6, c7, c8, c9, c10, c11, c12, c13, c14, c15, c16, c17, c18⟩ := of19 nm un ki ad ev we sg sw mu di aa de qu ul uh la lo hi hy h6
  go_wp2_with fail
  refine (lies_any _ _ _ _).mono ?_
  rintro e w' ⟨rfl, hwe⟩
  rw [hwe]
  clear hwe w'
  rw [L4]
  clear L4
  go_wp2
  go_ret
  exact ⟨rfl, bel7⟩

set_option maxHeartbeats 1000000 in
theorem pc9_5 (nm : ByteArray) (un ki ad ev : Int) (we sg sw : Bool) (mu di aa de qu : Int) (ul uh la : Bool) (lo hi hy : Int) (w : World) (hs : nm.size ≤ maxLen) (hn : nameB (bys nm) = true) (L1 : lieB un 1 247 = true) (L2 : lieB ki 1 4 = true) (hw : IntKind.i64.wrap (65536 - widT ⟨nm, un, ki, ad, ev, we, sg, sw, mu, di, aa, de, qu, ul, uh, la, lo, hi, hy⟩) = 65536 - widT ⟨nm, un, ki, ad, ev, we, sg, sw, mu, di, aa, de, qu, ul, uh, la, lo, hi, hy⟩) (L3 : lieB ad 0 (65536 - widT ⟨nm, un, ki, ad, ev, we, sg, sw, mu, di, aa, de, qu, ul, uh, la, lo, hi, hy⟩) = true) (L4 : lieB ev 1 1048576 = true) (k1 : ¬ ki < 1) (k2 : ¬ ki > 4) : Calls Tryz.prog 99 #[.agg #[.string nm, .int .i64 un, .int .i64 ki, .int .i64 ad, .int .i64 ev, .bool we, .bool sg, .bool sw, .int .i64 mu, .int .i64 di, .int .i64 aa, .int .i64 de, .int .i64 qu, .bool ul, .bool uh, .bool la, .int .i64 lo, .int .i64 hi, .int .i64 hy]] w fun e w' => e = .returned (.int .i64 (meanT ⟨nm, un, ki, ad, ev, we, sg, sw, mu, di, aa, de, qu, ul, uh, la, lo, hi, hy⟩)) ∧ Below w.heap.size w w' := by
  have h0 := heap_alloc_new w (.cells #[.string nm, .int .i64 un, .int .i64 ki, .int .i64 ad, .int .i64 ev, .bool we, .bool sg, .bool sw, .int .i64 mu, .int .i64 di, .int .i64 aa, .int .i64 de, .int .i64 qu, .bool ul, .bool uh, .bool la, .int .i64 lo, .int .i64 hi, .int .i64 hy] 51)
  have bel0 := bel_alloc w (.cells #[.string nm, .int .i64 un, .int .i64 ki, .int .i64 ad, .int .i64 ev, .bool we, .bool sg, .bool sw, .int .i64 mu, .int .i64 di, .int .i64 aa, .int .i64 de, .int .i64 qu, .bool ul, .bool uh, .bool la, .int .i64 lo, .int .i64 hi, .int .i64 hy] 51)
  obtain ⟨wd, hwd⟩ : ∃ x, widT ⟨nm, un, ki, ad, ev, we, sg, sw, mu, di, aa, de, qu, ul, uh, la, lo, hi, hy⟩ = x := ⟨_, rfl⟩
  have HW : Hid (∀ W : World, Calls Tryz.prog 44 #[.agg #[.string nm, .int .i64 un, .int .i64 ki, .int .i64 ad, .int .i64 ev, .bool we, .bool sg, .bool sw, .int .i64 mu, .int .i64 di, .int .i64 aa, .int .i64 de, .int .i64 qu, .bool ul, .bool uh, .bool la, .int .i64 lo, .int .i64 hi, .int .i64 hy]] W fun e w' => e = .returned (.int .i64 (widT ⟨nm, un, ki, ad, ev, we, sg, sw, mu, di, aa, de, qu, ul, uh, la, lo, hi, hy⟩)) ∧ Below W.heap.size W w') := Lib.hid fun W => Width9_any nm un ki ad ev we sg sw mu di aa de qu ul uh la lo hi hy W
  rw [hwd] at hw L3 HW
  clear hwd
  go_enter Tryz.func99, Tryz.ntmps99
  go_wp2_with fail
  refine (Name9_any nm _ hs).mono ?_
  rintro e w1 ⟨rfl, b1⟩
  rw [hn]
  have h1 := keepB b1 h0
  have bel1 := bel0.trans (b1.mono bel0.size)
  clear hn b1 h0 bel0
  obtain ⟨c0, c1, c2, c3, c4, c5, c6, c7, c8, c9, c10, c11, c12, c13, c14, c15, c16, c17, c18⟩ := of19 nm un ki ad ev we sg sw mu di aa de qu ul uh la lo hi hy h1
  go_wp2_with fail
  refine (lies_any _ _ _ _).mono ?_
  rintro e w' ⟨rfl, hwe⟩
  rw [hwe]
  clear hwe w'
  rw [L1]
  clear L1
  go_wp2_with fail
  refine (lies_any _ _ _ _).mono ?_
  rintro e w' ⟨rfl, hwe⟩
  rw [hwe]
  clear hwe w'
  rw [L2]
  clear L2
  clear c0 c1 c2 c3 c4 c5 c6 c7 c8 c9 c10 c11 c12 c13 c14 c15 c16 c17 c18
  have HL3 : Hid (∀ W : World, Calls Tryz.prog 115 #[.int .i64 ad, .int .i64 0, .int .i64 (65536 - wd)] W fun e w' => e = .returned (.bool true) ∧ Below W.heap.size W w') := Lib.hid fun W => (lies_any ad 0 (65536 - wd) W).mono (fun e w' h => by rw [h.1, h.2, L3]; exact ⟨rfl, Below.refl _ _⟩)
  clear L3
  go_wp2
  have HK : Hid (∀ w9 : World, Below w1.heap.size w1 w9 → (Below w1.heap.size w1 w9 ∧ w9.cell? ⟨w.heap.size, 3, none⟩ = some (.int .i64 ad) ∧ (ldTag (.pointer (some ⟨w.heap.size, 0, none⟩))).run Tryz.prog w9 = .ok (.agg #[.string nm, .int .i64 un, .int .i64 ki, .int .i64 ad, .int .i64 ev, .bool we, .bool sg, .bool sw, .int .i64 mu, .int .i64 di, .int .i64 aa, .int .i64 de, .int .i64 qu, .bool ul, .bool uh, .bool la, .int .i64 lo, .int .i64 hi, .int .i64 hy]) w9)) := Lib.hid fun w9 hw => ⟨hw, (of19 nm un ki ad ev we sg sw mu di aa de qu ul uh la lo hi hy (keepB hw h1)).2.2.2.1, ldTag_run rfl (rangeB (cs := [.string nm, .int .i64 un, .int .i64 ki, .int .i64 ad, .int .i64 ev, .bool we, .bool sg, .bool sw, .int .i64 mu, .int .i64 di, .int .i64 aa, .int .i64 de, .int .i64 qu, .bool ul, .bool uh, .bool la, .int .i64 lo, .int .i64 hi, .int .i64 hy]) (keepB hw h1))⟩
  have belh : ∀ w9 : World, (Below w1.heap.size w1 w9 ∧ w9.cell? ⟨w.heap.size, 3, none⟩ = some (.int .i64 ad) ∧ (ldTag (.pointer (some ⟨w.heap.size, 0, none⟩))).run Tryz.prog w9 = .ok (.agg #[.string nm, .int .i64 un, .int .i64 ki, .int .i64 ad, .int .i64 ev, .bool we, .bool sg, .bool sw, .int .i64 mu, .int .i64 di, .int .i64 aa, .int .i64 de, .int .i64 qu, .bool ul, .bool uh, .bool la, .int .i64 lo, .int .i64 hi, .int .i64 hy]) w9) → Below w1.heap.size w1 w9 := fun w9 h => h.1
  go_region_held3 (fun w9 => Below w1.heap.size w1 w9 ∧ w9.cell? ⟨w.heap.size, 3, none⟩ = some (.int .i64 ad) ∧ (ldTag (.pointer (some ⟨w.heap.size, 0, none⟩))).run Tryz.prog w9 = .ok (.agg #[.string nm, .int .i64 un, .int .i64 ki, .int .i64 ad, .int .i64 ev, .bool we, .bool sg, .bool sw, .int .i64 mu, .int .i64 di, .int .i64 aa, .int .i64 de, .int .i64 qu, .bool ul, .bool uh, .bool la, .int .i64 lo, .int .i64 hi, .int .i64 hy]) w9)
    ((refine HK.out _ ?_
      repeat' (first
        | with_reducible exact Below.refl _ _
        | with_reducible exact bel6
        | with_reducible exact bel5
        | with_reducible exact belh _ (by assumption)
        | with_reducible apply below_drew
        | with_reducible apply below_drewN
        | fail)))
    (first
      | (go_at_call 44; refine (HW.out _).mono ?_; rintro e w5 ⟨rfl, b5⟩; have bel5 : Below w1.heap.size w1 w5 := Below.trans (belh _ (by assumption)) (b5.mono (Below.size (belh _ (by assumption)))))
      | (go_at_call 115; refine (HL3.out _).mono ?_; rintro e w6 ⟨rfl, b6⟩; have bel6 : Below w1.heap.size w1 w6 := Below.trans (belh _ (by assumption)) (b6.mono (Below.size (belh _ (by assumption)))))
      | fail)
  have h6 := keepB bel6 h1
  have bel7 := bel1.trans (bel6.mono bel1.size)
  clear HK belh bel5 bel6 h1 bel1 HW HL3
  obtain ⟨c0, c1, c2, c3, c4, c5, c6, c7, c8, c9, c10, c11, c12, c13, c14, c15, c16, c17, c18⟩ := of19 nm un ki ad ev we sg sw mu di aa de qu ul uh la lo hi hy h6
  go_wp2_with fail
  refine (lies_any _ _ _ _).mono ?_
  rintro e w' ⟨rfl, hwe⟩
  rw [hwe]
  clear hwe w'
  rw [L4]
  clear L4
  have hld := ldTag_run (b := w.heap.size) (o := 0) rfl (rangeB (cs := [.string nm, .int .i64 un, .int .i64 ki, .int .i64 ad, .int .i64 ev, .bool we, .bool sg, .bool sw, .int .i64 mu, .int .i64 di, .int .i64 aa, .int .i64 de, .int .i64 qu, .bool ul, .bool uh, .bool la, .int .i64 lo, .int .i64 hi, .int .i64 hy]) h6)
  go_wp2_with fail
  refine (mean_any nm un ki ad ev we sg sw mu di aa de qu ul uh la lo hi hy _ (by omega) (by omega)).mono ?_
  rintro e w8 ⟨rfl, b8⟩
  go_wp2
  go_ret
  exact ⟨rfl, bel7.trans (b8.mono bel7.size)⟩

theorem Check9_any (nm : ByteArray) (un ki ad ev : Int) (we sg sw : Bool) (mu di aa de qu : Int) (ul uh la : Bool) (lo hi hy : Int) (w : World) (hs : nm.size ≤ maxLen) : Calls Tryz.prog 99 #[.agg #[.string nm, .int .i64 un, .int .i64 ki, .int .i64 ad, .int .i64 ev, .bool we, .bool sg, .bool sw, .int .i64 mu, .int .i64 di, .int .i64 aa, .int .i64 de, .int .i64 qu, .bool ul, .bool uh, .bool la, .int .i64 lo, .int .i64 hi, .int .i64 hy]] w fun e w' => e = .returned (.int .i64 (chkT ⟨nm, un, ki, ad, ev, we, sg, sw, mu, di, aa, de, qu, ul, uh, la, lo, hi, hy⟩)) ∧ Below w.heap.size w w' := by
  have hwr : IntKind.i64.wrap (65536 - widT ⟨nm, un, ki, ad, ev, we, sg, sw, mu, di, aa, de, qu, ul, uh, la, lo, hi, hy⟩) = 65536 - widT ⟨nm, un, ki, ad, ev, we, sg, sw, mu, di, aa, de, qu, ul, uh, la, lo, hi, hy⟩ := by
    have := widT_le ⟨nm, un, ki, ad, ev, we, sg, sw, mu, di, aa, de, qu, ul, uh, la, lo, hi, hy⟩
    rw [IntKind.wrap_i64]; omega
  have G : ∀ (hn : nameB (bys nm) = true) (u1 : ¬ un < 1) (u2 : ¬ un > 247) (k1 : ¬ ki < 1) (k2 : ¬ ki > 4) (d1 : ¬ ad < 0) (d2 : ¬ ad > 65536 - widT ⟨nm, un, ki, ad, ev, we, sg, sw, mu, di, aa, de, qu, ul, uh, la, lo, hi, hy⟩) (v1 : ¬ ev < 1) (v2 : ¬ ev > 1048576), Calls Tryz.prog 99 #[.agg #[.string nm, .int .i64 un, .int .i64 ki, .int .i64 ad, .int .i64 ev, .bool we, .bool sg, .bool sw, .int .i64 mu, .int .i64 di, .int .i64 aa, .int .i64 de, .int .i64 qu, .bool ul, .bool uh, .bool la, .int .i64 lo, .int .i64 hi, .int .i64 hy]] w fun e w' => e = .returned (.int .i64 (chkT ⟨nm, un, ki, ad, ev, we, sg, sw, mu, di, aa, de, qu, ul, uh, la, lo, hi, hy⟩)) ∧ Below w.heap.size w w' := by
    intro hn u1 u2 k1 k2 d1 d2 v1 v2
    rw [chkT_mean ⟨nm, un, ki, ad, ev, we, sg, sw, mu, di, aa, de, qu, ul, uh, la, lo, hi, hy⟩ hn u1 u2 k1 k2 d1 d2 v1 v2]
    exact pc9_5 nm un ki ad ev we sg sw mu di aa de qu ul uh la lo hi hy w hs hn (lieB_yes u1 u2) (lieB_yes k1 k2) hwr (lieB_yes d1 d2) (lieB_yes v1 v2) k1 k2
  refine tag_cases ⟨nm, un, ki, ad, ev, we, sg, sw, mu, di, aa, de, qu, ul, uh, la, lo, hi, hy⟩ _ ?_ ?_ ?_ ?_ ?_ ?_ ?_ ?_ ?_ ?_ ?_ ?_ ?_
  · intro hn0 HC; rw [HC]; exact pc9_0 nm un ki ad ev we sg sw mu di aa de qu ul uh la lo hi hy w hs hn0
  · intro hn u1y HC; rw [HC]; exact pc9_1 nm un ki ad ev we sg sw mu di aa de qu ul uh la lo hi hy w hs hn (lieB_low u1y)
  · intro hn u1 u2y HC; rw [HC]; exact pc9_1 nm un ki ad ev we sg sw mu di aa de qu ul uh la lo hi hy w hs hn (lieB_high u2y)
  · intro hn u1 u2 k1y HC; rw [HC]; exact pc9_2 nm un ki ad ev we sg sw mu di aa de qu ul uh la lo hi hy w hs hn (lieB_yes u1 u2) (lieB_low k1y)
  · intro hn u1 u2 k1 k2y HC; rw [HC]; exact pc9_2 nm un ki ad ev we sg sw mu di aa de qu ul uh la lo hi hy w hs hn (lieB_yes u1 u2) (lieB_high k2y)
  · intro hn u1 u2 k1 k2 d1y HC; rw [HC]; exact pc9_3 nm un ki ad ev we sg sw mu di aa de qu ul uh la lo hi hy w hs hn (lieB_yes u1 u2) (lieB_yes k1 k2) hwr (lieB_low d1y)
  · intro hn u1 u2 k1 k2 d1 d2y HC; rw [HC]; exact pc9_3 nm un ki ad ev we sg sw mu di aa de qu ul uh la lo hi hy w hs hn (lieB_yes u1 u2) (lieB_yes k1 k2) hwr (lieB_high d2y)
  · intro hn u1 u2 k1 k2 d1 d2 v1y HC; rw [HC]; exact pc9_4 nm un ki ad ev we sg sw mu di aa de qu ul uh la lo hi hy w hs hn (lieB_yes u1 u2) (lieB_yes k1 k2) hwr (lieB_yes d1 d2) (lieB_low v1y)
  · intro hn u1 u2 k1 k2 d1 d2 v1 v2y HC; rw [HC]; exact pc9_4 nm un ki ad ev we sg sw mu di aa de qu ul uh la lo hi hy w hs hn (lieB_yes u1 u2) (lieB_yes k1 k2) hwr (lieB_yes d1 d2) (lieB_high v2y)
  · intro hn u1 u2 k1 k2 d1 d2 v1 v2 _ _; exact G hn u1 u2 k1 k2 d1 d2 v1 v2
  · intro hn u1 u2 k1 k2 d1 d2 v1 v2 _ _ _ _; exact G hn u1 u2 k1 k2 d1 d2 v1 v2
  · intro hn u1 u2 k1 k2 d1 d2 v1 v2 _ _ _ _; exact G hn u1 u2 k1 k2 d1 d2 v1 v2
  · intro hn u1 u2 k1 k2 d1 d2 v1 v2 _ _ _ _; exact G hn u1 u2 k1 k2 d1 d2 v1 v2

/-- What is wrong with a tag behind one of a name. -/
def chkBh (a : ByteArray) (t : Tg) : Int := bif !decide (chkT t = 0) then chkT t else bif t.nm.toList == a.toList then 7 else bif Op.bytesLess t.nm.toList a.toList then 29 else 0
set_option maxHeartbeats 1000000 in
theorem behind9_any (a : ByteArray) (nm : ByteArray) (un ki ad ev : Int) (we sg sw : Bool) (mu di aa de qu : Int) (ul uh la : Bool) (lo hi hy : Int) (w : World) (hs : nm.size ≤ maxLen) : Calls Tryz.prog 66 #[.string a, .agg #[.string nm, .int .i64 un, .int .i64 ki, .int .i64 ad, .int .i64 ev, .bool we, .bool sg, .bool sw, .int .i64 mu, .int .i64 di, .int .i64 aa, .int .i64 de, .int .i64 qu, .bool ul, .bool uh, .bool la, .int .i64 lo, .int .i64 hi, .int .i64 hy]] w fun e w' => e = .returned (.int .i64 (chkBh a ⟨nm, un, ki, ad, ev, we, sg, sw, mu, di, aa, de, qu, ul, uh, la, lo, hi, hy⟩)) ∧ Below w.heap.size w w' := by
  have h0 := heap_alloc_new w (.cells #[.string nm, .int .i64 un, .int .i64 ki, .int .i64 ad, .int .i64 ev, .bool we, .bool sg, .bool sw, .int .i64 mu, .int .i64 di, .int .i64 aa, .int .i64 de, .int .i64 qu, .bool ul, .bool uh, .bool la, .int .i64 lo, .int .i64 hi, .int .i64 hy] 51)
  have bel0 := bel_alloc w (.cells #[.string nm, .int .i64 un, .int .i64 ki, .int .i64 ad, .int .i64 ev, .bool we, .bool sg, .bool sw, .int .i64 mu, .int .i64 di, .int .i64 aa, .int .i64 de, .int .i64 qu, .bool ul, .bool uh, .bool la, .int .i64 lo, .int .i64 hi, .int .i64 hy] 51)
  have hld := ldTag_run (b := w.heap.size) (o := 0) rfl (rangeB (cs := [.string nm, .int .i64 un, .int .i64 ki, .int .i64 ad, .int .i64 ev, .bool we, .bool sg, .bool sw, .int .i64 mu, .int .i64 di, .int .i64 aa, .int .i64 de, .int .i64 qu, .bool ul, .bool uh, .bool la, .int .i64 lo, .int .i64 hi, .int .i64 hy]) h0)
  obtain ⟨cv, hcv⟩ : ∃ x, chkT ⟨nm, un, ki, ad, ev, we, sg, sw, mu, di, aa, de, qu, ul, uh, la, lo, hi, hy⟩ = x := ⟨_, rfl⟩
  have HB : Hid (chkBh a ⟨nm, un, ki, ad, ev, we, sg, sw, mu, di, aa, de, qu, ul, uh, la, lo, hi, hy⟩ = bif !decide (cv = 0) then cv else bif nm.toList == a.toList then 7 else bif Op.bytesLess nm.toList a.toList then 29 else 0) := Lib.hid (by unfold chkBh; rw [hcv])
  have HC := Lib.hid hcv
  clear hcv
  rw [HB.out]
  clear HB
  by_cases hc : cv = 0
  · subst hc
    cases heq : nm.toList == a.toList with
    | true =>
      go_enter Tryz.func66, Tryz.ntmps66
      go_wp2_with fail
      refine (Check9_any nm un ki ad ev we sg sw mu di aa de qu ul uh la lo hi hy _ hs).mono ?_
      rintro e w1 ⟨rfl, b1⟩
      rw [HC.out]
      have h1 := keepB b1 h0
      have bel1 := bel0.trans (b1.mono bel0.size)
      clear hld b1 h0 bel0
      obtain ⟨c0, c1, c2, c3, c4, c5, c6, c7, c8, c9, c10, c11, c12, c13, c14, c15, c16, c17, c18⟩ := of19 nm un ki ad ev we sg sw mu di aa de qu ul uh la lo hi hy h1
      go_wp2
      go_ret
      exact ⟨rfl, bel1⟩
    | false =>
      cases hls : Op.bytesLess nm.toList a.toList with
      | true =>
        go_enter Tryz.func66, Tryz.ntmps66
        go_wp2_with fail
        refine (Check9_any nm un ki ad ev we sg sw mu di aa de qu ul uh la lo hi hy _ hs).mono ?_
        rintro e w1 ⟨rfl, b1⟩
        rw [HC.out]
        have h1 := keepB b1 h0
        have bel1 := bel0.trans (b1.mono bel0.size)
        clear hld b1 h0 bel0
        obtain ⟨c0, c1, c2, c3, c4, c5, c6, c7, c8, c9, c10, c11, c12, c13, c14, c15, c16, c17, c18⟩ := of19 nm un ki ad ev we sg sw mu di aa de qu ul uh la lo hi hy h1
        go_wp2
        go_ret
        exact ⟨rfl, bel1⟩
      | false =>
        go_enter Tryz.func66, Tryz.ntmps66
        go_wp2_with fail
        refine (Check9_any nm un ki ad ev we sg sw mu di aa de qu ul uh la lo hi hy _ hs).mono ?_
        rintro e w1 ⟨rfl, b1⟩
        rw [HC.out]
        have h1 := keepB b1 h0
        have bel1 := bel0.trans (b1.mono bel0.size)
        clear hld b1 h0 bel0
        obtain ⟨c0, c1, c2, c3, c4, c5, c6, c7, c8, c9, c10, c11, c12, c13, c14, c15, c16, c17, c18⟩ := of19 nm un ki ad ev we sg sw mu di aa de qu ul uh la lo hi hy h1
        go_wp2
        go_ret
        exact ⟨rfl, bel1⟩
  · have hc2 : (cv == 0) = false := beq_false_of_ne hc
    have HR : Hid ((bif !decide (cv = 0) then cv else bif nm.toList == a.toList then 7 else bif Op.bytesLess nm.toList a.toList then 29 else 0) = cv) := Lib.hid (by rw [decide_eq_false hc]; rfl)
    rw [HR.out]
    clear HR
    go_enter Tryz.func66, Tryz.ntmps66
    go_wp2_with fail
    refine (Check9_any nm un ki ad ev we sg sw mu di aa de qu ul uh la lo hi hy _ hs).mono ?_
    rintro e w1 ⟨rfl, b1⟩
    rw [HC.out]
    have bel1 := bel0.trans (b1.mono bel0.size)
    go_wp2
    go_ret
    exact ⟨rfl, bel1⟩
theorem behind9_t (a : ByteArray) (t : Tg) (w : World) (hs : t.nm.size ≤ maxLen) : Calls Tryz.prog 66 #[.string a, tgV t] w fun e w' => e = .returned (.int .i64 (chkBh a t)) ∧ Below w.heap.size w w' := by
  obtain ⟨nm, un, ki, ad, ev, we, sg, sw, mu, di, aa, de, qu, ul, uh, la, lo, hi, hy⟩ := t
  exact behind9_any a nm un ki ad ev we sg sw mu di aa de qu ul uh la lo hi hy w hs

/-- The name of the tag ahead. -/
def nmA (l : List Tg) (i : Nat) : ByteArray := match ahead l i with | none => ⟨#[]⟩ | some p => p.nm
theorem nmA_zero (l : List Tg) : nmA l 0 = ⟨#[]⟩ := rfl
theorem nmA_succ {l : List Tg} {i : Nat} (h : i < l.length) : nmA l (i + 1) = l[i].nm := by
  simp only [nmA, ahead, List.getElem?_eq_getElem h]
theorem toList_nil : (ByteArray.toList ⟨#[]⟩) = [] := by rw [ByteArray.toList_eq]
theorem less_nil (x : List UInt8) : Op.bytesLess x [] = false := by
  cases x <;> rfl
theorem toList_len (s : ByteArray) : s.toList.length = s.size := by
  rw [ByteArray.toList_eq]; simp
theorem badAt_bh {l : List Tg} {i : Nat} (h : i < l.length) : badAt l i = chkBh (nmA l i) l[i] := by
  cases i with
  | zero =>
    rw [badAt_first h, nmA_zero, chkBh, toList_nil, less_nil]
    by_cases hc : chkT l[0] = 0
    · have hn := (by unfold chkT at hc; cases h : nameB (bys l[0].nm) with | true => rfl | false => rw [h] at hc; simp at hc : nameB (bys l[0].nm) = true)
      have e : (l[0].nm.toList == ([] : List UInt8)) = false := by
        rw [beq_eq_false_iff_ne]
        intro e
        have h0 : l[0].nm.size = 0 := by rw [← toList_len, e]; rfl
        have h1 : 1 ≤ (bys l[0].nm).length := by
          unfold nameB at hn
          simp only [Bool.and_eq_true, decide_eq_true_eq] at hn
          exact hn.1.1.1
        rw [bys_len] at h1
        omega
      rw [e, hc]; rfl
    · rw [decide_eq_false hc]; rfl
  | succ i =>
    rw [nmA_succ (by omega)]
    by_cases hc : chkT l[i + 1] = 0
    · rw [badAt_next h hc, badN, chkBh, hc]; rfl
    · rw [badAt_chk h hc, chkBh, decide_eq_false hc]; rfl

set_option maxHeartbeats 1000000 in
theorem CheckAll9_any (A : Option Addr) (n c : Nat) (l : List Tg) (w : World) (hr : VRow w w.heap.size A (flatV tgC l)) (hn : l.length = n) (hb : n ≤ 4611686018427387904) (hok : ∀ t ∈ l, Tg.Ok t) :
    Calls Tryz.prog 42 #[.slice A n c] w fun e w' => e = .returned (.tuple #[.int .i64 (chkAll l).1, .int .i64 (chkAll l).2]) ∧ Below w.heap.size w w' := by
  by_cases hbig : 64 < n
  · have HA : Hid (chkAll l = (34, 0)) := Lib.hid (chkAll_many (by omega))
    have hbig' : (64 : Int) < n := by omega
    rw [HA.out]
    go_enter Tryz.func42, Tryz.ntmps42
    go_wp2
    (try simp only [Exit.inBlock, Exit.then])
    refine bodyPost_ret (v := .tuple #[.int .i64 34, .int .i64 0]) (by simp [results, Tryz.results42, go_sem, *]) rfl ?_
    exact ⟨rfl, Below.refl _ _⟩
  have H64 : Hid (¬ 64 < l.length) := Lib.hid (by omega)
  have hbig' : ¬ (64 : Int) < n := by omega
  have hn' := Lib.hid hn
  have HOK := Lib.hid hok
  clear hn hok
  go_enter Tryz.func42, Tryz.ntmps42
  go_wp2
  go_loopw [4, 13] (fun u i wr => ∃ k : Nat, k ≤ n ∧ i = .int .i64 k ∧ (∃ s, u = .string s ∧ Hid (k < n → s = nmA l k)) ∧ Hid (∀ j, j < k → badAt l j = 0) ∧ Hid (Below w.heap.size w wr)) (fun u i _ => n - (intOf i).toNat)
  case atStart => exact ⟨0, by omega, rfl, ⟨_, rfl, Lib.hid (fun _ => (nmA_zero l).symm)⟩, Lib.hid (fun j hj => absurd hj (by omega)), Lib.hid (Below.refl _ _)⟩
  case round =>
    obtain ⟨k, hk, rfl, ⟨s, rfl, hs⟩, hall, hbel⟩ := hrel
    by_cases hlt : k < n
    · have hkl : k < l.length := by have := hn'.out; omega
      obtain ⟨b, o, rfl, hb1, hld, hc1⟩ := (hr.below hbel.out).load hkl
      have HS := Lib.hid (HOK.out _ (List.getElem_mem hkl)).1
      have HB : Hid (badAt l k = chkBh s l[k]) := Lib.hid (by rw [hs.out hlt]; exact badAt_bh hkl)
      have HNX : Hid (k + 1 < n → l[k].nm = nmA l (k + 1)) := Lib.hid (fun _ => (nmA_succ hkl).symm)
      generalize l[k] = t at hld hc1 HS HB HNX
      have hlt' : (k : Int) < (n : Int) := by omega
      have hk0 : (0 : Int) ≤ k := by omega
      have hnb := heap_alloc_new wr (.cells (tgC t).toArray 51)
      have hbel1 := hbel.out.alloc hbel.out.size (.cells (tgC t).toArray 51)
      have hst := made_tag wr t
      have hld3 : (ldTag (.pointer (some ⟨wr.heap.size, 0, none⟩))).run Tryz.prog (wr.alloc (.cells (tgC t).toArray 51)) = .ok (tgV t) (wr.alloc (.cells (tgC t).toArray 51)) := ldTag_run (tgC_len t) (rangeB hnb)
      have hsz := hbel.out.size
      clear hbel
      go_wp2_with fail
      refine (behind9_t s t _ HS.out).mono ?_
      rintro e w1 ⟨rfl, b1⟩
      have h1 := keepB b1 hnb
      have hbel2 := Lib.hid (hbel1.trans (b1.mono hbel1.size))
      have hcn : w1.cell? ⟨wr.heap.size, 0, none⟩ = some (.string t.nm) := cell_of_row _ _ 0 _ _ _ h1
      clear hld hst hld3 hnb hbel1 b1
      by_cases hc : chkBh s t = 0
      case neg =>
        have HA : Hid (chkAll l = (chkBh s t, (k : Int))) := Lib.hid (chkAll_at H64.out hkl HB.out hc hall.out)
        generalize chkBh s t = ec at *
        have hc2 : (ec == 0) = false := beq_false_of_ne hc
        go_wp2
        (try simp only [Exit.inBlock, Exit.then])
        refine bodyPost_ret (v := .tuple #[.int .i64 ec, .int .i64 k]) (by simp [results, Tryz.results42, go_sem, *]) rfl ?_
        exact ⟨by rw [HA.out], hbel2.out⟩
      case pos =>
        rw [hc]
        have hall2 : Hid (∀ j, j < k + 1 → badAt l j = 0) := Lib.hid (fun j hj => by
          rcases Nat.lt_or_ge j k with h | h
          · exact hall.out j h
          · obtain rfl : j = k := by omega
            rw [HB.out]; exact hc)
        clear hc
        go_wp2
        go_roundw
        case rel => exact ⟨k + 1, by omega, by go_num, ⟨t.nm, rfl, HNX⟩, hall2, hbel2⟩
        case measure => simp [intOf]; omega
    · have HA : Hid (chkAll l = (0, 0)) := Lib.hid (chkAll_none H64.out (fun j hj => hall.out j (by have := hn'.out; omega)))
      go_wp2
      (try simp only [Exit.inBlock, Exit.then])
      refine bodyPost_ret (v := .tuple #[.int .i64 0, .int .i64 0]) (by simp [results, Tryz.results42, go_sem, *]) rfl ?_
      exact ⟨by rw [HA.out], hbel.out⟩
end Go.Proofs.YtcmbdhmhkfhjfaaGreat
