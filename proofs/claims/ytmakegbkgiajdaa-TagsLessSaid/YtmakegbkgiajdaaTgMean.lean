/-
  The program's functions of layer 9: Width, Check, CheckAll, Find.
-/
import Derived.Test.YtmakegbkgiajdaaTgAll
import Derived.Test.YtmakegbkgiajdaaTgOwnName
import Derived.Test.YtmakegbkgiajdaaScKit
import Derived.Test.YtmakegbkgiajdaaAlOwn
namespace Go.Proofs.Ytmakegbkgiajdaa
open Go.RowKit
set_option linter.unusedVariables false
attribute [local go_sem ↓] ldTag_fold

theorem Width9_any (nm : ByteArray) (un ki ad ev : Int) (we sg sw : Bool) (mu di aa de qu : Int) (ul uh la : Bool) (lo hi hy : Int) (w : World) : Calls Try.prog 11 #[.agg #[.string nm, .int .i64 un, .int .i64 ki, .int .i64 ad, .int .i64 ev, .bool we, .bool sg, .bool sw, .int .i64 mu, .int .i64 di, .int .i64 aa, .int .i64 de, .int .i64 qu, .bool ul, .bool uh, .bool la, .int .i64 lo, .int .i64 hi, .int .i64 hy]] w fun e w' => e = .returned (.int .i64 (widT ⟨nm, un, ki, ad, ev, we, sg, sw, mu, di, aa, de, qu, ul, uh, la, lo, hi, hy⟩)) ∧ Below w.heap.size w w' := by
  have bel := bel_alloc w (.cells #[.string nm, .int .i64 un, .int .i64 ki, .int .i64 ad, .int .i64 ev, .bool we, .bool sg, .bool sw, .int .i64 mu, .int .i64 di, .int .i64 aa, .int .i64 de, .int .i64 qu, .bool ul, .bool uh, .bool la, .int .i64 lo, .int .i64 hi, .int .i64 hy] 29)
  cases we
  · have HW : Hid (widT ⟨nm, un, ki, ad, ev, false, sg, sw, mu, di, aa, de, qu, ul, uh, la, lo, hi, hy⟩ = 1) := Lib.hid (by simp [widT])
    rw [HW.out]
    go_enter Try.func11, Try.ntmps11
    go_wp2
    go_ret
    exact ⟨rfl, bel⟩
  by_cases h3 : ki = 3
  · subst h3
    have HW : Hid (widT ⟨nm, un, 3, ad, ev, true, sg, sw, mu, di, aa, de, qu, ul, uh, la, lo, hi, hy⟩ = 2) := Lib.hid rfl
    rw [HW.out]
    go_enter Try.func11, Try.ntmps11
    go_wp2
    go_ret
    exact ⟨rfl, bel⟩
  by_cases h4 : ki = 4
  · subst h4
    have HW : Hid (widT ⟨nm, un, 4, ad, ev, true, sg, sw, mu, di, aa, de, qu, ul, uh, la, lo, hi, hy⟩ = 2) := Lib.hid rfl
    rw [HW.out]
    go_enter Try.func11, Try.ntmps11
    go_wp2
    go_ret
    exact ⟨rfl, bel⟩
  · have HW : Hid (widT ⟨nm, un, ki, ad, ev, true, sg, sw, mu, di, aa, de, qu, ul, uh, la, lo, hi, hy⟩ = 1) := Lib.hid (by simp [widT, h3, h4])
    have e3 : (ki == 3) = false := beq_false_of_ne h3
    have e4 : (ki == 4) = false := beq_false_of_ne h4
    rw [HW.out]
    go_enter Try.func11, Try.ntmps11
    go_wp2
    go_ret
    exact ⟨rfl, bel⟩

def lieB (v a b : Int) : Bool := decide (v ≥ a) && decide (v ≤ b)
theorem lies_any (v a b : Int) (w : World) : Calls Try.prog 27 #[.int .i64 v, .int .i64 a, .int .i64 b] w fun e w' => e = .returned (.bool (lieB v a b)) ∧ w' = w := by
  by_cases h : v ≥ a
  · have HB : Hid (lieB v a b = decide (v ≤ b)) := Lib.hid (by unfold lieB; rw [decide_eq_true h, Bool.true_and])
    rw [HB.out]
    go_enter Try.func27, Try.ntmps27
    go_wp2
    go_ret
    exact ⟨rfl, rfl⟩
  · have HB : Hid (lieB v a b = false) := Lib.hid (by unfold lieB; rw [decide_eq_false h, Bool.false_and])
    rw [HB.out]
    go_enter Try.func27, Try.ntmps27
    go_wp2
    go_ret
    exact ⟨rfl, rfl⟩
theorem lieB_yes {v a b : Int} (h1 : ¬ v < a) (h2 : ¬ v > b) : lieB v a b = true := by
  unfold lieB; rw [decide_eq_true (show v ≥ a by omega), decide_eq_true (show v ≤ b by omega)]; rfl
theorem lieB_low {v a b : Int} (h1 : v < a) : lieB v a b = false := by
  unfold lieB; rw [decide_eq_false (show ¬ v ≥ a by omega)]; rfl
theorem lieB_high {v a b : Int} (h1 : v > b) : lieB v a b = false := by
  unfold lieB; rw [decide_eq_false (show ¬ v ≤ b by omega), Bool.and_false]

/-- What is wrong with what a tag's words mean. -/
def meanT (t : Tg) : Int :=
  bif !decide (t.sc.Ok) then 25
  else bif decide (t.ki ≤ 2) && !bitS t then 25
  else bif !decide (chkB t.de t.qu = 0) then 26
  else chkL t.li
theorem mean_cases (t : Tg) (P : Prop) (c10 : chkS t.sc = 25 → meanT t = 25 → P) (c11 : chkS t.sc = 0 → t.ki ≤ 2 → bitS t = false → meanT t = 25 → P)
    (c12 : chkS t.sc = 0 → (¬ t.ki ≤ 2 ∨ bitS t = true) → chkB t.de t.qu = 26 → meanT t = 26 → P)
    (c13 : chkS t.sc = 0 → (¬ t.ki ≤ 2 ∨ bitS t = true) → chkB t.de t.qu = 0 → meanT t = chkL t.li → P) : P := by
  unfold meanT at c10 c11 c12 c13
  by_cases h10 : t.sc.Ok
  case neg => exact c10 (chkS_no h10) (by simp [h10])
  have hs := chkS_yes h10
  by_cases h11 : t.ki ≤ 2 ∧ bitS t = false
  · exact c11 hs h11.1 h11.2 (by simp [h10, h11])
  have h12 : (decide (t.ki ≤ 2) && !bitS t) = false := by
    by_cases h : t.ki ≤ 2
    · cases hb : bitS t
      · exact absurd ⟨h, hb⟩ h11
      · simp
    · simp [h]
  have h13 : ¬ t.ki ≤ 2 ∨ bitS t = true := by
    by_cases h : t.ki ≤ 2
    · cases hb : bitS t
      · exact absurd ⟨h, hb⟩ h11
      · exact .inr rfl
    · exact .inl h
  rcases chkB_two t.de t.qu with hb | hb
  · exact c13 hs h13 hb (by simp only [decide_eq_true h10, h12, hb]; rfl)
  · exact c12 hs h13 hb (by simp only [decide_eq_true h10, h12, hb]; rfl)
set_option maxHeartbeats 1000000 in
theorem cm_10 (nm : ByteArray) (un ki ad ev : Int) (we sg sw : Bool) (mu di aa de qu : Int) (ul uh la : Bool) (lo hi hy : Int) (w : World) (S0 : chkS ⟨we, sg, sw, mu, di, aa⟩ = 25) : Calls Try.prog 28 #[.agg #[.string nm, .int .i64 un, .int .i64 ki, .int .i64 ad, .int .i64 ev, .bool we, .bool sg, .bool sw, .int .i64 mu, .int .i64 di, .int .i64 aa, .int .i64 de, .int .i64 qu, .bool ul, .bool uh, .bool la, .int .i64 lo, .int .i64 hi, .int .i64 hy]] w fun e w' => e = .returned (.int .i64 25) ∧ Below w.heap.size w w' := by
  have h0 := heap_alloc_new w (.cells #[.string nm, .int .i64 un, .int .i64 ki, .int .i64 ad, .int .i64 ev, .bool we, .bool sg, .bool sw, .int .i64 mu, .int .i64 di, .int .i64 aa, .int .i64 de, .int .i64 qu, .bool ul, .bool uh, .bool la, .int .i64 lo, .int .i64 hi, .int .i64 hy] 29)
  have bel0 := bel_alloc w (.cells #[.string nm, .int .i64 un, .int .i64 ki, .int .i64 ad, .int .i64 ev, .bool we, .bool sg, .bool sw, .int .i64 mu, .int .i64 di, .int .i64 aa, .int .i64 de, .int .i64 qu, .bool ul, .bool uh, .bool la, .int .i64 lo, .int .i64 hi, .int .i64 hy] 29)
  have hld := ldTag_run (b := w.heap.size) (o := 0) rfl (rangeB (cs := [.string nm, .int .i64 un, .int .i64 ki, .int .i64 ad, .int .i64 ev, .bool we, .bool sg, .bool sw, .int .i64 mu, .int .i64 di, .int .i64 aa, .int .i64 de, .int .i64 qu, .bool ul, .bool uh, .bool la, .int .i64 lo, .int .i64 hi, .int .i64 hy]) h0)
  go_enter Try.func28, Try.ntmps28
  go_wp2_with fail
  refine (Check6_any we sg sw mu di aa _).mono ?_
  rintro e w1 ⟨rfl, b1⟩
  rw [S0]
  have h1 := keepB b1 h0
  have bel1 := bel0.trans (b1.mono bel0.size)
  clear hld b1 h0 bel0
  obtain ⟨c0, c1, c2, c3, c4, c5, c6, c7, c8, c9, c10, c11, c12, c13, c14, c15, c16, c17, c18⟩ := of19 nm un ki ad ev we sg sw mu di aa de qu ul uh la lo hi hy h1
  go_wp2
  go_ret
  exact ⟨rfl, bel1⟩
set_option maxHeartbeats 1000000 in
theorem cm_11we1 (nm : ByteArray) (un ad ev : Int) (sg sw : Bool) (mu di aa de qu : Int) (ul uh la : Bool) (lo hi hy : Int) (w : World) (S : chkS ⟨true, sg, sw, mu, di, aa⟩ = 0)  : Calls Try.prog 28 #[.agg #[.string nm, .int .i64 un, .int .i64 1, .int .i64 ad, .int .i64 ev, .bool true, .bool sg, .bool sw, .int .i64 mu, .int .i64 di, .int .i64 aa, .int .i64 de, .int .i64 qu, .bool ul, .bool uh, .bool la, .int .i64 lo, .int .i64 hi, .int .i64 hy]] w fun e w' => e = .returned (.int .i64 25) ∧ Below w.heap.size w w' := by
  have h0 := heap_alloc_new w (.cells #[.string nm, .int .i64 un, .int .i64 1, .int .i64 ad, .int .i64 ev, .bool true, .bool sg, .bool sw, .int .i64 mu, .int .i64 di, .int .i64 aa, .int .i64 de, .int .i64 qu, .bool ul, .bool uh, .bool la, .int .i64 lo, .int .i64 hi, .int .i64 hy] 29)
  have bel0 := bel_alloc w (.cells #[.string nm, .int .i64 un, .int .i64 1, .int .i64 ad, .int .i64 ev, .bool true, .bool sg, .bool sw, .int .i64 mu, .int .i64 di, .int .i64 aa, .int .i64 de, .int .i64 qu, .bool ul, .bool uh, .bool la, .int .i64 lo, .int .i64 hi, .int .i64 hy] 29)
  have hld := ldTag_run (b := w.heap.size) (o := 0) rfl (rangeB (cs := [.string nm, .int .i64 un, .int .i64 1, .int .i64 ad, .int .i64 ev, .bool true, .bool sg, .bool sw, .int .i64 mu, .int .i64 di, .int .i64 aa, .int .i64 de, .int .i64 qu, .bool ul, .bool uh, .bool la, .int .i64 lo, .int .i64 hi, .int .i64 hy]) h0)
  go_enter Try.func28, Try.ntmps28
  go_wp2_with fail
  refine (Check6_any true sg sw mu di aa _).mono ?_
  rintro e w1 ⟨rfl, b1⟩
  rw [S]
  have h1 := keepB b1 h0
  have bel1 := bel0.trans (b1.mono bel0.size)
  clear hld b1 h0 bel0
  obtain ⟨c0, c1, c2, c3, c4, c5, c6, c7, c8, c9, c10, c11, c12, c13, c14, c15, c16, c17, c18⟩ := of19 nm un 1 ad ev true sg sw mu di aa de qu ul uh la lo hi hy h1
  go_wp2
  go_ret
  exact ⟨rfl, bel1⟩
set_option maxHeartbeats 1000000 in
theorem cm_11sg1 (nm : ByteArray) (un ad ev : Int) (we sw : Bool) (mu di aa de qu : Int) (ul uh la : Bool) (lo hi hy : Int) (w : World) (S : chkS ⟨we, true, sw, mu, di, aa⟩ = 0)  : Calls Try.prog 28 #[.agg #[.string nm, .int .i64 un, .int .i64 1, .int .i64 ad, .int .i64 ev, .bool we, .bool true, .bool sw, .int .i64 mu, .int .i64 di, .int .i64 aa, .int .i64 de, .int .i64 qu, .bool ul, .bool uh, .bool la, .int .i64 lo, .int .i64 hi, .int .i64 hy]] w fun e w' => e = .returned (.int .i64 25) ∧ Below w.heap.size w w' := by
  have h0 := heap_alloc_new w (.cells #[.string nm, .int .i64 un, .int .i64 1, .int .i64 ad, .int .i64 ev, .bool we, .bool true, .bool sw, .int .i64 mu, .int .i64 di, .int .i64 aa, .int .i64 de, .int .i64 qu, .bool ul, .bool uh, .bool la, .int .i64 lo, .int .i64 hi, .int .i64 hy] 29)
  have bel0 := bel_alloc w (.cells #[.string nm, .int .i64 un, .int .i64 1, .int .i64 ad, .int .i64 ev, .bool we, .bool true, .bool sw, .int .i64 mu, .int .i64 di, .int .i64 aa, .int .i64 de, .int .i64 qu, .bool ul, .bool uh, .bool la, .int .i64 lo, .int .i64 hi, .int .i64 hy] 29)
  have hld := ldTag_run (b := w.heap.size) (o := 0) rfl (rangeB (cs := [.string nm, .int .i64 un, .int .i64 1, .int .i64 ad, .int .i64 ev, .bool we, .bool true, .bool sw, .int .i64 mu, .int .i64 di, .int .i64 aa, .int .i64 de, .int .i64 qu, .bool ul, .bool uh, .bool la, .int .i64 lo, .int .i64 hi, .int .i64 hy]) h0)
  go_enter Try.func28, Try.ntmps28
  go_wp2_with fail
  refine (Check6_any we true sw mu di aa _).mono ?_
  rintro e w1 ⟨rfl, b1⟩
  rw [S]
  have h1 := keepB b1 h0
  have bel1 := bel0.trans (b1.mono bel0.size)
  clear hld b1 h0 bel0
  obtain ⟨c0, c1, c2, c3, c4, c5, c6, c7, c8, c9, c10, c11, c12, c13, c14, c15, c16, c17, c18⟩ := of19 nm un 1 ad ev we true sw mu di aa de qu ul uh la lo hi hy h1
  go_wp2
  go_ret
  exact ⟨rfl, bel1⟩
set_option maxHeartbeats 1000000 in
theorem cm_11sw1 (nm : ByteArray) (un ad ev : Int) (we sg : Bool) (mu di aa de qu : Int) (ul uh la : Bool) (lo hi hy : Int) (w : World) (S : chkS ⟨we, sg, true, mu, di, aa⟩ = 0)  : Calls Try.prog 28 #[.agg #[.string nm, .int .i64 un, .int .i64 1, .int .i64 ad, .int .i64 ev, .bool we, .bool sg, .bool true, .int .i64 mu, .int .i64 di, .int .i64 aa, .int .i64 de, .int .i64 qu, .bool ul, .bool uh, .bool la, .int .i64 lo, .int .i64 hi, .int .i64 hy]] w fun e w' => e = .returned (.int .i64 25) ∧ Below w.heap.size w w' := by
  have h0 := heap_alloc_new w (.cells #[.string nm, .int .i64 un, .int .i64 1, .int .i64 ad, .int .i64 ev, .bool we, .bool sg, .bool true, .int .i64 mu, .int .i64 di, .int .i64 aa, .int .i64 de, .int .i64 qu, .bool ul, .bool uh, .bool la, .int .i64 lo, .int .i64 hi, .int .i64 hy] 29)
  have bel0 := bel_alloc w (.cells #[.string nm, .int .i64 un, .int .i64 1, .int .i64 ad, .int .i64 ev, .bool we, .bool sg, .bool true, .int .i64 mu, .int .i64 di, .int .i64 aa, .int .i64 de, .int .i64 qu, .bool ul, .bool uh, .bool la, .int .i64 lo, .int .i64 hi, .int .i64 hy] 29)
  have hld := ldTag_run (b := w.heap.size) (o := 0) rfl (rangeB (cs := [.string nm, .int .i64 un, .int .i64 1, .int .i64 ad, .int .i64 ev, .bool we, .bool sg, .bool true, .int .i64 mu, .int .i64 di, .int .i64 aa, .int .i64 de, .int .i64 qu, .bool ul, .bool uh, .bool la, .int .i64 lo, .int .i64 hi, .int .i64 hy]) h0)
  go_enter Try.func28, Try.ntmps28
  go_wp2_with fail
  refine (Check6_any we sg true mu di aa _).mono ?_
  rintro e w1 ⟨rfl, b1⟩
  rw [S]
  have h1 := keepB b1 h0
  have bel1 := bel0.trans (b1.mono bel0.size)
  clear hld b1 h0 bel0
  obtain ⟨c0, c1, c2, c3, c4, c5, c6, c7, c8, c9, c10, c11, c12, c13, c14, c15, c16, c17, c18⟩ := of19 nm un 1 ad ev we sg true mu di aa de qu ul uh la lo hi hy h1
  go_wp2
  go_ret
  exact ⟨rfl, bel1⟩
set_option maxHeartbeats 1000000 in
theorem cm_11mu1 (nm : ByteArray) (un ad ev : Int) (we sg sw : Bool) (mu di aa de qu : Int) (ul uh la : Bool) (lo hi hy : Int) (w : World) (S : chkS ⟨we, sg, sw, mu, di, aa⟩ = 0) (hx : mu ≠ 1) : Calls Try.prog 28 #[.agg #[.string nm, .int .i64 un, .int .i64 1, .int .i64 ad, .int .i64 ev, .bool we, .bool sg, .bool sw, .int .i64 mu, .int .i64 di, .int .i64 aa, .int .i64 de, .int .i64 qu, .bool ul, .bool uh, .bool la, .int .i64 lo, .int .i64 hi, .int .i64 hy]] w fun e w' => e = .returned (.int .i64 25) ∧ Below w.heap.size w w' := by
  have hx2 : (mu == 1) = false := beq_false_of_ne hx
  have h0 := heap_alloc_new w (.cells #[.string nm, .int .i64 un, .int .i64 1, .int .i64 ad, .int .i64 ev, .bool we, .bool sg, .bool sw, .int .i64 mu, .int .i64 di, .int .i64 aa, .int .i64 de, .int .i64 qu, .bool ul, .bool uh, .bool la, .int .i64 lo, .int .i64 hi, .int .i64 hy] 29)
  have bel0 := bel_alloc w (.cells #[.string nm, .int .i64 un, .int .i64 1, .int .i64 ad, .int .i64 ev, .bool we, .bool sg, .bool sw, .int .i64 mu, .int .i64 di, .int .i64 aa, .int .i64 de, .int .i64 qu, .bool ul, .bool uh, .bool la, .int .i64 lo, .int .i64 hi, .int .i64 hy] 29)
  have hld := ldTag_run (b := w.heap.size) (o := 0) rfl (rangeB (cs := [.string nm, .int .i64 un, .int .i64 1, .int .i64 ad, .int .i64 ev, .bool we, .bool sg, .bool sw, .int .i64 mu, .int .i64 di, .int .i64 aa, .int .i64 de, .int .i64 qu, .bool ul, .bool uh, .bool la, .int .i64 lo, .int .i64 hi, .int .i64 hy]) h0)
  go_enter Try.func28, Try.ntmps28
  go_wp2_with fail
  refine (Check6_any we sg sw mu di aa _).mono ?_
  rintro e w1 ⟨rfl, b1⟩
  rw [S]
  have h1 := keepB b1 h0
  have bel1 := bel0.trans (b1.mono bel0.size)
  clear hld b1 h0 bel0
  obtain ⟨c0, c1, c2, c3, c4, c5, c6, c7, c8, c9, c10, c11, c12, c13, c14, c15, c16, c17, c18⟩ := of19 nm un 1 ad ev we sg sw mu di aa de qu ul uh la lo hi hy h1
  go_wp2
  go_ret
  exact ⟨rfl, bel1⟩
set_option maxHeartbeats 1000000 in
theorem cm_11di1 (nm : ByteArray) (un ad ev : Int) (we sg sw : Bool) (mu di aa de qu : Int) (ul uh la : Bool) (lo hi hy : Int) (w : World) (S : chkS ⟨we, sg, sw, mu, di, aa⟩ = 0) (hx : di ≠ 1) : Calls Try.prog 28 #[.agg #[.string nm, .int .i64 un, .int .i64 1, .int .i64 ad, .int .i64 ev, .bool we, .bool sg, .bool sw, .int .i64 mu, .int .i64 di, .int .i64 aa, .int .i64 de, .int .i64 qu, .bool ul, .bool uh, .bool la, .int .i64 lo, .int .i64 hi, .int .i64 hy]] w fun e w' => e = .returned (.int .i64 25) ∧ Below w.heap.size w w' := by
  have hx2 : (di == 1) = false := beq_false_of_ne hx
  have h0 := heap_alloc_new w (.cells #[.string nm, .int .i64 un, .int .i64 1, .int .i64 ad, .int .i64 ev, .bool we, .bool sg, .bool sw, .int .i64 mu, .int .i64 di, .int .i64 aa, .int .i64 de, .int .i64 qu, .bool ul, .bool uh, .bool la, .int .i64 lo, .int .i64 hi, .int .i64 hy] 29)
  have bel0 := bel_alloc w (.cells #[.string nm, .int .i64 un, .int .i64 1, .int .i64 ad, .int .i64 ev, .bool we, .bool sg, .bool sw, .int .i64 mu, .int .i64 di, .int .i64 aa, .int .i64 de, .int .i64 qu, .bool ul, .bool uh, .bool la, .int .i64 lo, .int .i64 hi, .int .i64 hy] 29)
  have hld := ldTag_run (b := w.heap.size) (o := 0) rfl (rangeB (cs := [.string nm, .int .i64 un, .int .i64 1, .int .i64 ad, .int .i64 ev, .bool we, .bool sg, .bool sw, .int .i64 mu, .int .i64 di, .int .i64 aa, .int .i64 de, .int .i64 qu, .bool ul, .bool uh, .bool la, .int .i64 lo, .int .i64 hi, .int .i64 hy]) h0)
  go_enter Try.func28, Try.ntmps28
  go_wp2_with fail
  refine (Check6_any we sg sw mu di aa _).mono ?_
  rintro e w1 ⟨rfl, b1⟩
  rw [S]
  have h1 := keepB b1 h0
  have bel1 := bel0.trans (b1.mono bel0.size)
  clear hld b1 h0 bel0
  obtain ⟨c0, c1, c2, c3, c4, c5, c6, c7, c8, c9, c10, c11, c12, c13, c14, c15, c16, c17, c18⟩ := of19 nm un 1 ad ev we sg sw mu di aa de qu ul uh la lo hi hy h1
  go_wp2
  go_ret
  exact ⟨rfl, bel1⟩
set_option maxHeartbeats 1000000 in
theorem cm_11aa1 (nm : ByteArray) (un ad ev : Int) (we sg sw : Bool) (mu di aa de qu : Int) (ul uh la : Bool) (lo hi hy : Int) (w : World) (S : chkS ⟨we, sg, sw, mu, di, aa⟩ = 0) (hx : aa ≠ 0) : Calls Try.prog 28 #[.agg #[.string nm, .int .i64 un, .int .i64 1, .int .i64 ad, .int .i64 ev, .bool we, .bool sg, .bool sw, .int .i64 mu, .int .i64 di, .int .i64 aa, .int .i64 de, .int .i64 qu, .bool ul, .bool uh, .bool la, .int .i64 lo, .int .i64 hi, .int .i64 hy]] w fun e w' => e = .returned (.int .i64 25) ∧ Below w.heap.size w w' := by
  have hx2 : (aa == 0) = false := beq_false_of_ne hx
  have h0 := heap_alloc_new w (.cells #[.string nm, .int .i64 un, .int .i64 1, .int .i64 ad, .int .i64 ev, .bool we, .bool sg, .bool sw, .int .i64 mu, .int .i64 di, .int .i64 aa, .int .i64 de, .int .i64 qu, .bool ul, .bool uh, .bool la, .int .i64 lo, .int .i64 hi, .int .i64 hy] 29)
  have bel0 := bel_alloc w (.cells #[.string nm, .int .i64 un, .int .i64 1, .int .i64 ad, .int .i64 ev, .bool we, .bool sg, .bool sw, .int .i64 mu, .int .i64 di, .int .i64 aa, .int .i64 de, .int .i64 qu, .bool ul, .bool uh, .bool la, .int .i64 lo, .int .i64 hi, .int .i64 hy] 29)
  have hld := ldTag_run (b := w.heap.size) (o := 0) rfl (rangeB (cs := [.string nm, .int .i64 un, .int .i64 1, .int .i64 ad, .int .i64 ev, .bool we, .bool sg, .bool sw, .int .i64 mu, .int .i64 di, .int .i64 aa, .int .i64 de, .int .i64 qu, .bool ul, .bool uh, .bool la, .int .i64 lo, .int .i64 hi, .int .i64 hy]) h0)
  go_enter Try.func28, Try.ntmps28
  go_wp2_with fail
  refine (Check6_any we sg sw mu di aa _).mono ?_
  rintro e w1 ⟨rfl, b1⟩
  rw [S]
  have h1 := keepB b1 h0
  have bel1 := bel0.trans (b1.mono bel0.size)
  clear hld b1 h0 bel0
  obtain ⟨c0, c1, c2, c3, c4, c5, c6, c7, c8, c9, c10, c11, c12, c13, c14, c15, c16, c17, c18⟩ := of19 nm un 1 ad ev we sg sw mu di aa de qu ul uh la lo hi hy h1
  go_wp2
  go_ret
  exact ⟨rfl, bel1⟩
set_option maxHeartbeats 1000000 in
theorem cm_11we2 (nm : ByteArray) (un ad ev : Int) (sg sw : Bool) (mu di aa de qu : Int) (ul uh la : Bool) (lo hi hy : Int) (w : World) (S : chkS ⟨true, sg, sw, mu, di, aa⟩ = 0)  : Calls Try.prog 28 #[.agg #[.string nm, .int .i64 un, .int .i64 2, .int .i64 ad, .int .i64 ev, .bool true, .bool sg, .bool sw, .int .i64 mu, .int .i64 di, .int .i64 aa, .int .i64 de, .int .i64 qu, .bool ul, .bool uh, .bool la, .int .i64 lo, .int .i64 hi, .int .i64 hy]] w fun e w' => e = .returned (.int .i64 25) ∧ Below w.heap.size w w' := by
  have h0 := heap_alloc_new w (.cells #[.string nm, .int .i64 un, .int .i64 2, .int .i64 ad, .int .i64 ev, .bool true, .bool sg, .bool sw, .int .i64 mu, .int .i64 di, .int .i64 aa, .int .i64 de, .int .i64 qu, .bool ul, .bool uh, .bool la, .int .i64 lo, .int .i64 hi, .int .i64 hy] 29)
  have bel0 := bel_alloc w (.cells #[.string nm, .int .i64 un, .int .i64 2, .int .i64 ad, .int .i64 ev, .bool true, .bool sg, .bool sw, .int .i64 mu, .int .i64 di, .int .i64 aa, .int .i64 de, .int .i64 qu, .bool ul, .bool uh, .bool la, .int .i64 lo, .int .i64 hi, .int .i64 hy] 29)
  have hld := ldTag_run (b := w.heap.size) (o := 0) rfl (rangeB (cs := [.string nm, .int .i64 un, .int .i64 2, .int .i64 ad, .int .i64 ev, .bool true, .bool sg, .bool sw, .int .i64 mu, .int .i64 di, .int .i64 aa, .int .i64 de, .int .i64 qu, .bool ul, .bool uh, .bool la, .int .i64 lo, .int .i64 hi, .int .i64 hy]) h0)
  go_enter Try.func28, Try.ntmps28
  go_wp2_with fail
  refine (Check6_any true sg sw mu di aa _).mono ?_
  rintro e w1 ⟨rfl, b1⟩
  rw [S]
  have h1 := keepB b1 h0
  have bel1 := bel0.trans (b1.mono bel0.size)
  clear hld b1 h0 bel0
  obtain ⟨c0, c1, c2, c3, c4, c5, c6, c7, c8, c9, c10, c11, c12, c13, c14, c15, c16, c17, c18⟩ := of19 nm un 2 ad ev true sg sw mu di aa de qu ul uh la lo hi hy h1
  go_wp2
  go_ret
  exact ⟨rfl, bel1⟩
set_option maxHeartbeats 1000000 in
theorem cm_11sg2 (nm : ByteArray) (un ad ev : Int) (we sw : Bool) (mu di aa de qu : Int) (ul uh la : Bool) (lo hi hy : Int) (w : World) (S : chkS ⟨we, true, sw, mu, di, aa⟩ = 0)  : Calls Try.prog 28 #[.agg #[.string nm, .int .i64 un, .int .i64 2, .int .i64 ad, .int .i64 ev, .bool we, .bool true, .bool sw, .int .i64 mu, .int .i64 di, .int .i64 aa, .int .i64 de, .int .i64 qu, .bool ul, .bool uh, .bool la, .int .i64 lo, .int .i64 hi, .int .i64 hy]] w fun e w' => e = .returned (.int .i64 25) ∧ Below w.heap.size w w' := by
  have h0 := heap_alloc_new w (.cells #[.string nm, .int .i64 un, .int .i64 2, .int .i64 ad, .int .i64 ev, .bool we, .bool true, .bool sw, .int .i64 mu, .int .i64 di, .int .i64 aa, .int .i64 de, .int .i64 qu, .bool ul, .bool uh, .bool la, .int .i64 lo, .int .i64 hi, .int .i64 hy] 29)
  have bel0 := bel_alloc w (.cells #[.string nm, .int .i64 un, .int .i64 2, .int .i64 ad, .int .i64 ev, .bool we, .bool true, .bool sw, .int .i64 mu, .int .i64 di, .int .i64 aa, .int .i64 de, .int .i64 qu, .bool ul, .bool uh, .bool la, .int .i64 lo, .int .i64 hi, .int .i64 hy] 29)
  have hld := ldTag_run (b := w.heap.size) (o := 0) rfl (rangeB (cs := [.string nm, .int .i64 un, .int .i64 2, .int .i64 ad, .int .i64 ev, .bool we, .bool true, .bool sw, .int .i64 mu, .int .i64 di, .int .i64 aa, .int .i64 de, .int .i64 qu, .bool ul, .bool uh, .bool la, .int .i64 lo, .int .i64 hi, .int .i64 hy]) h0)
  go_enter Try.func28, Try.ntmps28
  go_wp2_with fail
  refine (Check6_any we true sw mu di aa _).mono ?_
  rintro e w1 ⟨rfl, b1⟩
  rw [S]
  have h1 := keepB b1 h0
  have bel1 := bel0.trans (b1.mono bel0.size)
  clear hld b1 h0 bel0
  obtain ⟨c0, c1, c2, c3, c4, c5, c6, c7, c8, c9, c10, c11, c12, c13, c14, c15, c16, c17, c18⟩ := of19 nm un 2 ad ev we true sw mu di aa de qu ul uh la lo hi hy h1
  go_wp2
  go_ret
  exact ⟨rfl, bel1⟩
set_option maxHeartbeats 1000000 in
theorem cm_11sw2 (nm : ByteArray) (un ad ev : Int) (we sg : Bool) (mu di aa de qu : Int) (ul uh la : Bool) (lo hi hy : Int) (w : World) (S : chkS ⟨we, sg, true, mu, di, aa⟩ = 0)  : Calls Try.prog 28 #[.agg #[.string nm, .int .i64 un, .int .i64 2, .int .i64 ad, .int .i64 ev, .bool we, .bool sg, .bool true, .int .i64 mu, .int .i64 di, .int .i64 aa, .int .i64 de, .int .i64 qu, .bool ul, .bool uh, .bool la, .int .i64 lo, .int .i64 hi, .int .i64 hy]] w fun e w' => e = .returned (.int .i64 25) ∧ Below w.heap.size w w' := by
  have h0 := heap_alloc_new w (.cells #[.string nm, .int .i64 un, .int .i64 2, .int .i64 ad, .int .i64 ev, .bool we, .bool sg, .bool true, .int .i64 mu, .int .i64 di, .int .i64 aa, .int .i64 de, .int .i64 qu, .bool ul, .bool uh, .bool la, .int .i64 lo, .int .i64 hi, .int .i64 hy] 29)
  have bel0 := bel_alloc w (.cells #[.string nm, .int .i64 un, .int .i64 2, .int .i64 ad, .int .i64 ev, .bool we, .bool sg, .bool true, .int .i64 mu, .int .i64 di, .int .i64 aa, .int .i64 de, .int .i64 qu, .bool ul, .bool uh, .bool la, .int .i64 lo, .int .i64 hi, .int .i64 hy] 29)
  have hld := ldTag_run (b := w.heap.size) (o := 0) rfl (rangeB (cs := [.string nm, .int .i64 un, .int .i64 2, .int .i64 ad, .int .i64 ev, .bool we, .bool sg, .bool true, .int .i64 mu, .int .i64 di, .int .i64 aa, .int .i64 de, .int .i64 qu, .bool ul, .bool uh, .bool la, .int .i64 lo, .int .i64 hi, .int .i64 hy]) h0)
  go_enter Try.func28, Try.ntmps28
  go_wp2_with fail
  refine (Check6_any we sg true mu di aa _).mono ?_
  rintro e w1 ⟨rfl, b1⟩
  rw [S]
  have h1 := keepB b1 h0
  have bel1 := bel0.trans (b1.mono bel0.size)
  clear hld b1 h0 bel0
  obtain ⟨c0, c1, c2, c3, c4, c5, c6, c7, c8, c9, c10, c11, c12, c13, c14, c15, c16, c17, c18⟩ := of19 nm un 2 ad ev we sg true mu di aa de qu ul uh la lo hi hy h1
  go_wp2
  go_ret
  exact ⟨rfl, bel1⟩
set_option maxHeartbeats 1000000 in
theorem cm_11mu2 (nm : ByteArray) (un ad ev : Int) (we sg sw : Bool) (mu di aa de qu : Int) (ul uh la : Bool) (lo hi hy : Int) (w : World) (S : chkS ⟨we, sg, sw, mu, di, aa⟩ = 0) (hx : mu ≠ 1) : Calls Try.prog 28 #[.agg #[.string nm, .int .i64 un, .int .i64 2, .int .i64 ad, .int .i64 ev, .bool we, .bool sg, .bool sw, .int .i64 mu, .int .i64 di, .int .i64 aa, .int .i64 de, .int .i64 qu, .bool ul, .bool uh, .bool la, .int .i64 lo, .int .i64 hi, .int .i64 hy]] w fun e w' => e = .returned (.int .i64 25) ∧ Below w.heap.size w w' := by
  have hx2 : (mu == 1) = false := beq_false_of_ne hx
  have h0 := heap_alloc_new w (.cells #[.string nm, .int .i64 un, .int .i64 2, .int .i64 ad, .int .i64 ev, .bool we, .bool sg, .bool sw, .int .i64 mu, .int .i64 di, .int .i64 aa, .int .i64 de, .int .i64 qu, .bool ul, .bool uh, .bool la, .int .i64 lo, .int .i64 hi, .int .i64 hy] 29)
  have bel0 := bel_alloc w (.cells #[.string nm, .int .i64 un, .int .i64 2, .int .i64 ad, .int .i64 ev, .bool we, .bool sg, .bool sw, .int .i64 mu, .int .i64 di, .int .i64 aa, .int .i64 de, .int .i64 qu, .bool ul, .bool uh, .bool la, .int .i64 lo, .int .i64 hi, .int .i64 hy] 29)
  have hld := ldTag_run (b := w.heap.size) (o := 0) rfl (rangeB (cs := [.string nm, .int .i64 un, .int .i64 2, .int .i64 ad, .int .i64 ev, .bool we, .bool sg, .bool sw, .int .i64 mu, .int .i64 di, .int .i64 aa, .int .i64 de, .int .i64 qu, .bool ul, .bool uh, .bool la, .int .i64 lo, .int .i64 hi, .int .i64 hy]) h0)
  go_enter Try.func28, Try.ntmps28
  go_wp2_with fail
  refine (Check6_any we sg sw mu di aa _).mono ?_
  rintro e w1 ⟨rfl, b1⟩
  rw [S]
  have h1 := keepB b1 h0
  have bel1 := bel0.trans (b1.mono bel0.size)
  clear hld b1 h0 bel0
  obtain ⟨c0, c1, c2, c3, c4, c5, c6, c7, c8, c9, c10, c11, c12, c13, c14, c15, c16, c17, c18⟩ := of19 nm un 2 ad ev we sg sw mu di aa de qu ul uh la lo hi hy h1
  go_wp2
  go_ret
  exact ⟨rfl, bel1⟩
set_option maxHeartbeats 1000000 in
theorem cm_11di2 (nm : ByteArray) (un ad ev : Int) (we sg sw : Bool) (mu di aa de qu : Int) (ul uh la : Bool) (lo hi hy : Int) (w : World) (S : chkS ⟨we, sg, sw, mu, di, aa⟩ = 0) (hx : di ≠ 1) : Calls Try.prog 28 #[.agg #[.string nm, .int .i64 un, .int .i64 2, .int .i64 ad, .int .i64 ev, .bool we, .bool sg, .bool sw, .int .i64 mu, .int .i64 di, .int .i64 aa, .int .i64 de, .int .i64 qu, .bool ul, .bool uh, .bool la, .int .i64 lo, .int .i64 hi, .int .i64 hy]] w fun e w' => e = .returned (.int .i64 25) ∧ Below w.heap.size w w' := by
  have hx2 : (di == 1) = false := beq_false_of_ne hx
  have h0 := heap_alloc_new w (.cells #[.string nm, .int .i64 un, .int .i64 2, .int .i64 ad, .int .i64 ev, .bool we, .bool sg, .bool sw, .int .i64 mu, .int .i64 di, .int .i64 aa, .int .i64 de, .int .i64 qu, .bool ul, .bool uh, .bool la, .int .i64 lo, .int .i64 hi, .int .i64 hy] 29)
  have bel0 := bel_alloc w (.cells #[.string nm, .int .i64 un, .int .i64 2, .int .i64 ad, .int .i64 ev, .bool we, .bool sg, .bool sw, .int .i64 mu, .int .i64 di, .int .i64 aa, .int .i64 de, .int .i64 qu, .bool ul, .bool uh, .bool la, .int .i64 lo, .int .i64 hi, .int .i64 hy] 29)
  have hld := ldTag_run (b := w.heap.size) (o := 0) rfl (rangeB (cs := [.string nm, .int .i64 un, .int .i64 2, .int .i64 ad, .int .i64 ev, .bool we, .bool sg, .bool sw, .int .i64 mu, .int .i64 di, .int .i64 aa, .int .i64 de, .int .i64 qu, .bool ul, .bool uh, .bool la, .int .i64 lo, .int .i64 hi, .int .i64 hy]) h0)
  go_enter Try.func28, Try.ntmps28
  go_wp2_with fail
  refine (Check6_any we sg sw mu di aa _).mono ?_
  rintro e w1 ⟨rfl, b1⟩
  rw [S]
  have h1 := keepB b1 h0
  have bel1 := bel0.trans (b1.mono bel0.size)
  clear hld b1 h0 bel0
  obtain ⟨c0, c1, c2, c3, c4, c5, c6, c7, c8, c9, c10, c11, c12, c13, c14, c15, c16, c17, c18⟩ := of19 nm un 2 ad ev we sg sw mu di aa de qu ul uh la lo hi hy h1
  go_wp2
  go_ret
  exact ⟨rfl, bel1⟩
set_option maxHeartbeats 1000000 in
theorem cm_11aa2 (nm : ByteArray) (un ad ev : Int) (we sg sw : Bool) (mu di aa de qu : Int) (ul uh la : Bool) (lo hi hy : Int) (w : World) (S : chkS ⟨we, sg, sw, mu, di, aa⟩ = 0) (hx : aa ≠ 0) : Calls Try.prog 28 #[.agg #[.string nm, .int .i64 un, .int .i64 2, .int .i64 ad, .int .i64 ev, .bool we, .bool sg, .bool sw, .int .i64 mu, .int .i64 di, .int .i64 aa, .int .i64 de, .int .i64 qu, .bool ul, .bool uh, .bool la, .int .i64 lo, .int .i64 hi, .int .i64 hy]] w fun e w' => e = .returned (.int .i64 25) ∧ Below w.heap.size w w' := by
  have hx2 : (aa == 0) = false := beq_false_of_ne hx
  have h0 := heap_alloc_new w (.cells #[.string nm, .int .i64 un, .int .i64 2, .int .i64 ad, .int .i64 ev, .bool we, .bool sg, .bool sw, .int .i64 mu, .int .i64 di, .int .i64 aa, .int .i64 de, .int .i64 qu, .bool ul, .bool uh, .bool la, .int .i64 lo, .int .i64 hi, .int .i64 hy] 29)
  have bel0 := bel_alloc w (.cells #[.string nm, .int .i64 un, .int .i64 2, .int .i64 ad, .int .i64 ev, .bool we, .bool sg, .bool sw, .int .i64 mu, .int .i64 di, .int .i64 aa, .int .i64 de, .int .i64 qu, .bool ul, .bool uh, .bool la, .int .i64 lo, .int .i64 hi, .int .i64 hy] 29)
  have hld := ldTag_run (b := w.heap.size) (o := 0) rfl (rangeB (cs := [.string nm, .int .i64 un, .int .i64 2, .int .i64 ad, .int .i64 ev, .bool we, .bool sg, .bool sw, .int .i64 mu, .int .i64 di, .int .i64 aa, .int .i64 de, .int .i64 qu, .bool ul, .bool uh, .bool la, .int .i64 lo, .int .i64 hi, .int .i64 hy]) h0)
  go_enter Try.func28, Try.ntmps28
  go_wp2_with fail
  refine (Check6_any we sg sw mu di aa _).mono ?_
  rintro e w1 ⟨rfl, b1⟩
  rw [S]
  have h1 := keepB b1 h0
  have bel1 := bel0.trans (b1.mono bel0.size)
  clear hld b1 h0 bel0
  obtain ⟨c0, c1, c2, c3, c4, c5, c6, c7, c8, c9, c10, c11, c12, c13, c14, c15, c16, c17, c18⟩ := of19 nm un 2 ad ev we sg sw mu di aa de qu ul uh la lo hi hy h1
  go_wp2
  go_ret
  exact ⟨rfl, bel1⟩
set_option maxHeartbeats 1000000 in
theorem cm_121 (nm : ByteArray) (un ad ev : Int) (de qu : Int) (ul uh la : Bool) (lo hi hy : Int) (w : World) (S : chkS ⟨false, false, false, 1, 1, 0⟩ = 0) (B0 : chkB de qu = 26) : Calls Try.prog 28 #[.agg #[.string nm, .int .i64 un, .int .i64 1, .int .i64 ad, .int .i64 ev, .bool false, .bool false, .bool false, .int .i64 1, .int .i64 1, .int .i64 0, .int .i64 de, .int .i64 qu, .bool ul, .bool uh, .bool la, .int .i64 lo, .int .i64 hi, .int .i64 hy]] w fun e w' => e = .returned (.int .i64 26) ∧ Below w.heap.size w w' := by
  have h0 := heap_alloc_new w (.cells #[.string nm, .int .i64 un, .int .i64 1, .int .i64 ad, .int .i64 ev, .bool false, .bool false, .bool false, .int .i64 1, .int .i64 1, .int .i64 0, .int .i64 de, .int .i64 qu, .bool ul, .bool uh, .bool la, .int .i64 lo, .int .i64 hi, .int .i64 hy] 29)
  have bel0 := bel_alloc w (.cells #[.string nm, .int .i64 un, .int .i64 1, .int .i64 ad, .int .i64 ev, .bool false, .bool false, .bool false, .int .i64 1, .int .i64 1, .int .i64 0, .int .i64 de, .int .i64 qu, .bool ul, .bool uh, .bool la, .int .i64 lo, .int .i64 hi, .int .i64 hy] 29)
  have hld := ldTag_run (b := w.heap.size) (o := 0) rfl (rangeB (cs := [.string nm, .int .i64 un, .int .i64 1, .int .i64 ad, .int .i64 ev, .bool false, .bool false, .bool false, .int .i64 1, .int .i64 1, .int .i64 0, .int .i64 de, .int .i64 qu, .bool ul, .bool uh, .bool la, .int .i64 lo, .int .i64 hi, .int .i64 hy]) h0)
  go_enter Try.func28, Try.ntmps28
  go_wp2_with fail
  refine (Check6_any false false false 1 1 0 _).mono ?_
  rintro e w1 ⟨rfl, b1⟩
  rw [S]
  have h1 := keepB b1 h0
  have bel1 := bel0.trans (b1.mono bel0.size)
  clear hld b1 h0 bel0
  obtain ⟨c0, c1, c2, c3, c4, c5, c6, c7, c8, c9, c10, c11, c12, c13, c14, c15, c16, c17, c18⟩ := of19 nm un 1 ad ev false false false 1 1 0 de qu ul uh la lo hi hy h1
  go_wp2_with fail
  refine (Check7_any de qu _).mono ?_
  rintro e w2 ⟨rfl, b2⟩
  rw [B0]
  have h2 := keepB b2 h1
  have bel2 := bel1.trans (b2.mono bel1.size)
  clear c0 c1 c2 c3 c4 c5 c6 c7 c8 c9 c10 c11 c12 c13 c14 c15 c16 c17 c18 b2 h1 bel1
  obtain ⟨c0, c1, c2, c3, c4, c5, c6, c7, c8, c9, c10, c11, c12, c13, c14, c15, c16, c17, c18⟩ := of19 nm un 1 ad ev false false false 1 1 0 de qu ul uh la lo hi hy h2
  go_wp2
  go_ret
  exact ⟨rfl, bel2⟩
set_option maxHeartbeats 1000000 in
theorem cm_131 (nm : ByteArray) (un ad ev : Int) (de qu : Int) (ul uh la : Bool) (lo hi hy : Int) (w : World) (S : chkS ⟨false, false, false, 1, 1, 0⟩ = 0) (B0 : chkB de qu = 0) : Calls Try.prog 28 #[.agg #[.string nm, .int .i64 un, .int .i64 1, .int .i64 ad, .int .i64 ev, .bool false, .bool false, .bool false, .int .i64 1, .int .i64 1, .int .i64 0, .int .i64 de, .int .i64 qu, .bool ul, .bool uh, .bool la, .int .i64 lo, .int .i64 hi, .int .i64 hy]] w fun e w' => e = .returned (.int .i64 (chkL ⟨ul, uh, la, lo, hi, hy⟩)) ∧ Below w.heap.size w w' := by
  have h0 := heap_alloc_new w (.cells #[.string nm, .int .i64 un, .int .i64 1, .int .i64 ad, .int .i64 ev, .bool false, .bool false, .bool false, .int .i64 1, .int .i64 1, .int .i64 0, .int .i64 de, .int .i64 qu, .bool ul, .bool uh, .bool la, .int .i64 lo, .int .i64 hi, .int .i64 hy] 29)
  have bel0 := bel_alloc w (.cells #[.string nm, .int .i64 un, .int .i64 1, .int .i64 ad, .int .i64 ev, .bool false, .bool false, .bool false, .int .i64 1, .int .i64 1, .int .i64 0, .int .i64 de, .int .i64 qu, .bool ul, .bool uh, .bool la, .int .i64 lo, .int .i64 hi, .int .i64 hy] 29)
  have hld := ldTag_run (b := w.heap.size) (o := 0) rfl (rangeB (cs := [.string nm, .int .i64 un, .int .i64 1, .int .i64 ad, .int .i64 ev, .bool false, .bool false, .bool false, .int .i64 1, .int .i64 1, .int .i64 0, .int .i64 de, .int .i64 qu, .bool ul, .bool uh, .bool la, .int .i64 lo, .int .i64 hi, .int .i64 hy]) h0)
  go_enter Try.func28, Try.ntmps28
  go_wp2_with fail
  refine (Check6_any false false false 1 1 0 _).mono ?_
  rintro e w1 ⟨rfl, b1⟩
  rw [S]
  have h1 := keepB b1 h0
  have bel1 := bel0.trans (b1.mono bel0.size)
  clear hld b1 h0 bel0
  obtain ⟨c0, c1, c2, c3, c4, c5, c6, c7, c8, c9, c10, c11, c12, c13, c14, c15, c16, c17, c18⟩ := of19 nm un 1 ad ev false false false 1 1 0 de qu ul uh la lo hi hy h1
  go_wp2_with fail
  refine (Check7_any de qu _).mono ?_
  rintro e w2 ⟨rfl, b2⟩
  rw [B0]
  have h2 := keepB b2 h1
  have bel2 := bel1.trans (b2.mono bel1.size)
  clear c0 c1 c2 c3 c4 c5 c6 c7 c8 c9 c10 c11 c12 c13 c14 c15 c16 c17 c18 b2 h1 bel1
  obtain ⟨c0, c1, c2, c3, c4, c5, c6, c7, c8, c9, c10, c11, c12, c13, c14, c15, c16, c17, c18⟩ := of19 nm un 1 ad ev false false false 1 1 0 de qu ul uh la lo hi hy h2
  go_wp2_with fail
  refine (Check8_any ul uh la lo hi hy _).mono ?_
  rintro e w3 ⟨rfl, b3⟩
  go_wp2
  go_ret
  exact ⟨rfl, bel2.trans (b3.mono bel2.size)⟩
set_option maxHeartbeats 1000000 in
theorem cm_122 (nm : ByteArray) (un ad ev : Int) (de qu : Int) (ul uh la : Bool) (lo hi hy : Int) (w : World) (S : chkS ⟨false, false, false, 1, 1, 0⟩ = 0) (B0 : chkB de qu = 26) : Calls Try.prog 28 #[.agg #[.string nm, .int .i64 un, .int .i64 2, .int .i64 ad, .int .i64 ev, .bool false, .bool false, .bool false, .int .i64 1, .int .i64 1, .int .i64 0, .int .i64 de, .int .i64 qu, .bool ul, .bool uh, .bool la, .int .i64 lo, .int .i64 hi, .int .i64 hy]] w fun e w' => e = .returned (.int .i64 26) ∧ Below w.heap.size w w' := by
  have h0 := heap_alloc_new w (.cells #[.string nm, .int .i64 un, .int .i64 2, .int .i64 ad, .int .i64 ev, .bool false, .bool false, .bool false, .int .i64 1, .int .i64 1, .int .i64 0, .int .i64 de, .int .i64 qu, .bool ul, .bool uh, .bool la, .int .i64 lo, .int .i64 hi, .int .i64 hy] 29)
  have bel0 := bel_alloc w (.cells #[.string nm, .int .i64 un, .int .i64 2, .int .i64 ad, .int .i64 ev, .bool false, .bool false, .bool false, .int .i64 1, .int .i64 1, .int .i64 0, .int .i64 de, .int .i64 qu, .bool ul, .bool uh, .bool la, .int .i64 lo, .int .i64 hi, .int .i64 hy] 29)
  have hld := ldTag_run (b := w.heap.size) (o := 0) rfl (rangeB (cs := [.string nm, .int .i64 un, .int .i64 2, .int .i64 ad, .int .i64 ev, .bool false, .bool false, .bool false, .int .i64 1, .int .i64 1, .int .i64 0, .int .i64 de, .int .i64 qu, .bool ul, .bool uh, .bool la, .int .i64 lo, .int .i64 hi, .int .i64 hy]) h0)
  go_enter Try.func28, Try.ntmps28
  go_wp2_with fail
  refine (Check6_any false false false 1 1 0 _).mono ?_
  rintro e w1 ⟨rfl, b1⟩
  rw [S]
  have h1 := keepB b1 h0
  have bel1 := bel0.trans (b1.mono bel0.size)
  clear hld b1 h0 bel0
  obtain ⟨c0, c1, c2, c3, c4, c5, c6, c7, c8, c9, c10, c11, c12, c13, c14, c15, c16, c17, c18⟩ := of19 nm un 2 ad ev false false false 1 1 0 de qu ul uh la lo hi hy h1
  go_wp2_with fail
  refine (Check7_any de qu _).mono ?_
  rintro e w2 ⟨rfl, b2⟩
  rw [B0]
  have h2 := keepB b2 h1
  have bel2 := bel1.trans (b2.mono bel1.size)
  clear c0 c1 c2 c3 c4 c5 c6 c7 c8 c9 c10 c11 c12 c13 c14 c15 c16 c17 c18 b2 h1 bel1
  obtain ⟨c0, c1, c2, c3, c4, c5, c6, c7, c8, c9, c10, c11, c12, c13, c14, c15, c16, c17, c18⟩ := of19 nm un 2 ad ev false false false 1 1 0 de qu ul uh la lo hi hy h2
  go_wp2
  go_ret
  exact ⟨rfl, bel2⟩
set_option maxHeartbeats 1000000 in
theorem cm_132 (nm : ByteArray) (un ad ev : Int) (de qu : Int) (ul uh la : Bool) (lo hi hy : Int) (w : World) (S : chkS ⟨false, false, false, 1, 1, 0⟩ = 0) (B0 : chkB de qu = 0) : Calls Try.prog 28 #[.agg #[.string nm, .int .i64 un, .int .i64 2, .int .i64 ad, .int .i64 ev, .bool false, .bool false, .bool false, .int .i64 1, .int .i64 1, .int .i64 0, .int .i64 de, .int .i64 qu, .bool ul, .bool uh, .bool la, .int .i64 lo, .int .i64 hi, .int .i64 hy]] w fun e w' => e = .returned (.int .i64 (chkL ⟨ul, uh, la, lo, hi, hy⟩)) ∧ Below w.heap.size w w' := by
  have h0 := heap_alloc_new w (.cells #[.string nm, .int .i64 un, .int .i64 2, .int .i64 ad, .int .i64 ev, .bool false, .bool false, .bool false, .int .i64 1, .int .i64 1, .int .i64 0, .int .i64 de, .int .i64 qu, .bool ul, .bool uh, .bool la, .int .i64 lo, .int .i64 hi, .int .i64 hy] 29)
  have bel0 := bel_alloc w (.cells #[.string nm, .int .i64 un, .int .i64 2, .int .i64 ad, .int .i64 ev, .bool false, .bool false, .bool false, .int .i64 1, .int .i64 1, .int .i64 0, .int .i64 de, .int .i64 qu, .bool ul, .bool uh, .bool la, .int .i64 lo, .int .i64 hi, .int .i64 hy] 29)
  have hld := ldTag_run (b := w.heap.size) (o := 0) rfl (rangeB (cs := [.string nm, .int .i64 un, .int .i64 2, .int .i64 ad, .int .i64 ev, .bool false, .bool false, .bool false, .int .i64 1, .int .i64 1, .int .i64 0, .int .i64 de, .int .i64 qu, .bool ul, .bool uh, .bool la, .int .i64 lo, .int .i64 hi, .int .i64 hy]) h0)
  go_enter Try.func28, Try.ntmps28
  go_wp2_with fail
  refine (Check6_any false false false 1 1 0 _).mono ?_
  rintro e w1 ⟨rfl, b1⟩
  rw [S]
  have h1 := keepB b1 h0
  have bel1 := bel0.trans (b1.mono bel0.size)
  clear hld b1 h0 bel0
  obtain ⟨c0, c1, c2, c3, c4, c5, c6, c7, c8, c9, c10, c11, c12, c13, c14, c15, c16, c17, c18⟩ := of19 nm un 2 ad ev false false false 1 1 0 de qu ul uh la lo hi hy h1
  go_wp2_with fail
  refine (Check7_any de qu _).mono ?_
  rintro e w2 ⟨rfl, b2⟩
  rw [B0]
  have h2 := keepB b2 h1
  have bel2 := bel1.trans (b2.mono bel1.size)
  clear c0 c1 c2 c3 c4 c5 c6 c7 c8 c9 c10 c11 c12 c13 c14 c15 c16 c17 c18 b2 h1 bel1
  obtain ⟨c0, c1, c2, c3, c4, c5, c6, c7, c8, c9, c10, c11, c12, c13, c14, c15, c16, c17, c18⟩ := of19 nm un 2 ad ev false false false 1 1 0 de qu ul uh la lo hi hy h2
  go_wp2_with fail
  refine (Check8_any ul uh la lo hi hy _).mono ?_
  rintro e w3 ⟨rfl, b3⟩
  go_wp2
  go_ret
  exact ⟨rfl, bel2.trans (b3.mono bel2.size)⟩
set_option maxHeartbeats 1000000 in
theorem cm_123 (nm : ByteArray) (un ad ev : Int) (we sg sw : Bool) (mu di aa de qu : Int) (ul uh la : Bool) (lo hi hy : Int) (w : World) (S : chkS ⟨we, sg, sw, mu, di, aa⟩ = 0) (B0 : chkB de qu = 26) : Calls Try.prog 28 #[.agg #[.string nm, .int .i64 un, .int .i64 3, .int .i64 ad, .int .i64 ev, .bool we, .bool sg, .bool sw, .int .i64 mu, .int .i64 di, .int .i64 aa, .int .i64 de, .int .i64 qu, .bool ul, .bool uh, .bool la, .int .i64 lo, .int .i64 hi, .int .i64 hy]] w fun e w' => e = .returned (.int .i64 26) ∧ Below w.heap.size w w' := by
  have h0 := heap_alloc_new w (.cells #[.string nm, .int .i64 un, .int .i64 3, .int .i64 ad, .int .i64 ev, .bool we, .bool sg, .bool sw, .int .i64 mu, .int .i64 di, .int .i64 aa, .int .i64 de, .int .i64 qu, .bool ul, .bool uh, .bool la, .int .i64 lo, .int .i64 hi, .int .i64 hy] 29)
  have bel0 := bel_alloc w (.cells #[.string nm, .int .i64 un, .int .i64 3, .int .i64 ad, .int .i64 ev, .bool we, .bool sg, .bool sw, .int .i64 mu, .int .i64 di, .int .i64 aa, .int .i64 de, .int .i64 qu, .bool ul, .bool uh, .bool la, .int .i64 lo, .int .i64 hi, .int .i64 hy] 29)
  have hld := ldTag_run (b := w.heap.size) (o := 0) rfl (rangeB (cs := [.string nm, .int .i64 un, .int .i64 3, .int .i64 ad, .int .i64 ev, .bool we, .bool sg, .bool sw, .int .i64 mu, .int .i64 di, .int .i64 aa, .int .i64 de, .int .i64 qu, .bool ul, .bool uh, .bool la, .int .i64 lo, .int .i64 hi, .int .i64 hy]) h0)
  go_enter Try.func28, Try.ntmps28
  go_wp2_with fail
  refine (Check6_any we sg sw mu di aa _).mono ?_
  rintro e w1 ⟨rfl, b1⟩
  rw [S]
  have h1 := keepB b1 h0
  have bel1 := bel0.trans (b1.mono bel0.size)
  clear hld b1 h0 bel0
  obtain ⟨c0, c1, c2, c3, c4, c5, c6, c7, c8, c9, c10, c11, c12, c13, c14, c15, c16, c17, c18⟩ := of19 nm un 3 ad ev we sg sw mu di aa de qu ul uh la lo hi hy h1
  go_wp2_with fail
  refine (Check7_any de qu _).mono ?_
  rintro e w2 ⟨rfl, b2⟩
  rw [B0]
  have h2 := keepB b2 h1
  have bel2 := bel1.trans (b2.mono bel1.size)
  clear c0 c1 c2 c3 c4 c5 c6 c7 c8 c9 c10 c11 c12 c13 c14 c15 c16 c17 c18 b2 h1 bel1
  obtain ⟨c0, c1, c2, c3, c4, c5, c6, c7, c8, c9, c10, c11, c12, c13, c14, c15, c16, c17, c18⟩ := of19 nm un 3 ad ev we sg sw mu di aa de qu ul uh la lo hi hy h2
  go_wp2
  go_ret
  exact ⟨rfl, bel2⟩
set_option maxHeartbeats 1000000 in
theorem cm_133 (nm : ByteArray) (un ad ev : Int) (we sg sw : Bool) (mu di aa de qu : Int) (ul uh la : Bool) (lo hi hy : Int) (w : World) (S : chkS ⟨we, sg, sw, mu, di, aa⟩ = 0) (B0 : chkB de qu = 0) : Calls Try.prog 28 #[.agg #[.string nm, .int .i64 un, .int .i64 3, .int .i64 ad, .int .i64 ev, .bool we, .bool sg, .bool sw, .int .i64 mu, .int .i64 di, .int .i64 aa, .int .i64 de, .int .i64 qu, .bool ul, .bool uh, .bool la, .int .i64 lo, .int .i64 hi, .int .i64 hy]] w fun e w' => e = .returned (.int .i64 (chkL ⟨ul, uh, la, lo, hi, hy⟩)) ∧ Below w.heap.size w w' := by
  have h0 := heap_alloc_new w (.cells #[.string nm, .int .i64 un, .int .i64 3, .int .i64 ad, .int .i64 ev, .bool we, .bool sg, .bool sw, .int .i64 mu, .int .i64 di, .int .i64 aa, .int .i64 de, .int .i64 qu, .bool ul, .bool uh, .bool la, .int .i64 lo, .int .i64 hi, .int .i64 hy] 29)
  have bel0 := bel_alloc w (.cells #[.string nm, .int .i64 un, .int .i64 3, .int .i64 ad, .int .i64 ev, .bool we, .bool sg, .bool sw, .int .i64 mu, .int .i64 di, .int .i64 aa, .int .i64 de, .int .i64 qu, .bool ul, .bool uh, .bool la, .int .i64 lo, .int .i64 hi, .int .i64 hy] 29)
  have hld := ldTag_run (b := w.heap.size) (o := 0) rfl (rangeB (cs := [.string nm, .int .i64 un, .int .i64 3, .int .i64 ad, .int .i64 ev, .bool we, .bool sg, .bool sw, .int .i64 mu, .int .i64 di, .int .i64 aa, .int .i64 de, .int .i64 qu, .bool ul, .bool uh, .bool la, .int .i64 lo, .int .i64 hi, .int .i64 hy]) h0)
  go_enter Try.func28, Try.ntmps28
  go_wp2_with fail
  refine (Check6_any we sg sw mu di aa _).mono ?_
  rintro e w1 ⟨rfl, b1⟩
  rw [S]
  have h1 := keepB b1 h0
  have bel1 := bel0.trans (b1.mono bel0.size)
  clear hld b1 h0 bel0
  obtain ⟨c0, c1, c2, c3, c4, c5, c6, c7, c8, c9, c10, c11, c12, c13, c14, c15, c16, c17, c18⟩ := of19 nm un 3 ad ev we sg sw mu di aa de qu ul uh la lo hi hy h1
  go_wp2_with fail
  refine (Check7_any de qu _).mono ?_
  rintro e w2 ⟨rfl, b2⟩
  rw [B0]
  have h2 := keepB b2 h1
  have bel2 := bel1.trans (b2.mono bel1.size)
  clear c0 c1 c2 c3 c4 c5 c6 c7 c8 c9 c10 c11 c12 c13 c14 c15 c16 c17 c18 b2 h1 bel1
  obtain ⟨c0, c1, c2, c3, c4, c5, c6, c7, c8, c9, c10, c11, c12, c13, c14, c15, c16, c17, c18⟩ := of19 nm un 3 ad ev we sg sw mu di aa de qu ul uh la lo hi hy h2
  go_wp2_with fail
  refine (Check8_any ul uh la lo hi hy _).mono ?_
  rintro e w3 ⟨rfl, b3⟩
  go_wp2
  go_ret
  exact ⟨rfl, bel2.trans (b3.mono bel2.size)⟩
set_option maxHeartbeats 1000000 in
theorem cm_124 (nm : ByteArray) (un ad ev : Int) (we sg sw : Bool) (mu di aa de qu : Int) (ul uh la : Bool) (lo hi hy : Int) (w : World) (S : chkS ⟨we, sg, sw, mu, di, aa⟩ = 0) (B0 : chkB de qu = 26) : Calls Try.prog 28 #[.agg #[.string nm, .int .i64 un, .int .i64 4, .int .i64 ad, .int .i64 ev, .bool we, .bool sg, .bool sw, .int .i64 mu, .int .i64 di, .int .i64 aa, .int .i64 de, .int .i64 qu, .bool ul, .bool uh, .bool la, .int .i64 lo, .int .i64 hi, .int .i64 hy]] w fun e w' => e = .returned (.int .i64 26) ∧ Below w.heap.size w w' := by
  have h0 := heap_alloc_new w (.cells #[.string nm, .int .i64 un, .int .i64 4, .int .i64 ad, .int .i64 ev, .bool we, .bool sg, .bool sw, .int .i64 mu, .int .i64 di, .int .i64 aa, .int .i64 de, .int .i64 qu, .bool ul, .bool uh, .bool la, .int .i64 lo, .int .i64 hi, .int .i64 hy] 29)
  have bel0 := bel_alloc w (.cells #[.string nm, .int .i64 un, .int .i64 4, .int .i64 ad, .int .i64 ev, .bool we, .bool sg, .bool sw, .int .i64 mu, .int .i64 di, .int .i64 aa, .int .i64 de, .int .i64 qu, .bool ul, .bool uh, .bool la, .int .i64 lo, .int .i64 hi, .int .i64 hy] 29)
  have hld := ldTag_run (b := w.heap.size) (o := 0) rfl (rangeB (cs := [.string nm, .int .i64 un, .int .i64 4, .int .i64 ad, .int .i64 ev, .bool we, .bool sg, .bool sw, .int .i64 mu, .int .i64 di, .int .i64 aa, .int .i64 de, .int .i64 qu, .bool ul, .bool uh, .bool la, .int .i64 lo, .int .i64 hi, .int .i64 hy]) h0)
  go_enter Try.func28, Try.ntmps28
  go_wp2_with fail
  refine (Check6_any we sg sw mu di aa _).mono ?_
  rintro e w1 ⟨rfl, b1⟩
  rw [S]
  have h1 := keepB b1 h0
  have bel1 := bel0.trans (b1.mono bel0.size)
  clear hld b1 h0 bel0
  obtain ⟨c0, c1, c2, c3, c4, c5, c6, c7, c8, c9, c10, c11, c12, c13, c14, c15, c16, c17, c18⟩ := of19 nm un 4 ad ev we sg sw mu di aa de qu ul uh la lo hi hy h1
  go_wp2_with fail
  refine (Check7_any de qu _).mono ?_
  rintro e w2 ⟨rfl, b2⟩
  rw [B0]
  have h2 := keepB b2 h1
  have bel2 := bel1.trans (b2.mono bel1.size)
  clear c0 c1 c2 c3 c4 c5 c6 c7 c8 c9 c10 c11 c12 c13 c14 c15 c16 c17 c18 b2 h1 bel1
  obtain ⟨c0, c1, c2, c3, c4, c5, c6, c7, c8, c9, c10, c11, c12, c13, c14, c15, c16, c17, c18⟩ := of19 nm un 4 ad ev we sg sw mu di aa de qu ul uh la lo hi hy h2
  go_wp2
  go_ret
  exact ⟨rfl, bel2⟩
set_option maxHeartbeats 1000000 in
theorem cm_134 (nm : ByteArray) (un ad ev : Int) (we sg sw : Bool) (mu di aa de qu : Int) (ul uh la : Bool) (lo hi hy : Int) (w : World) (S : chkS ⟨we, sg, sw, mu, di, aa⟩ = 0) (B0 : chkB de qu = 0) : Calls Try.prog 28 #[.agg #[.string nm, .int .i64 un, .int .i64 4, .int .i64 ad, .int .i64 ev, .bool we, .bool sg, .bool sw, .int .i64 mu, .int .i64 di, .int .i64 aa, .int .i64 de, .int .i64 qu, .bool ul, .bool uh, .bool la, .int .i64 lo, .int .i64 hi, .int .i64 hy]] w fun e w' => e = .returned (.int .i64 (chkL ⟨ul, uh, la, lo, hi, hy⟩)) ∧ Below w.heap.size w w' := by
  have h0 := heap_alloc_new w (.cells #[.string nm, .int .i64 un, .int .i64 4, .int .i64 ad, .int .i64 ev, .bool we, .bool sg, .bool sw, .int .i64 mu, .int .i64 di, .int .i64 aa, .int .i64 de, .int .i64 qu, .bool ul, .bool uh, .bool la, .int .i64 lo, .int .i64 hi, .int .i64 hy] 29)
  have bel0 := bel_alloc w (.cells #[.string nm, .int .i64 un, .int .i64 4, .int .i64 ad, .int .i64 ev, .bool we, .bool sg, .bool sw, .int .i64 mu, .int .i64 di, .int .i64 aa, .int .i64 de, .int .i64 qu, .bool ul, .bool uh, .bool la, .int .i64 lo, .int .i64 hi, .int .i64 hy] 29)
  have hld := ldTag_run (b := w.heap.size) (o := 0) rfl (rangeB (cs := [.string nm, .int .i64 un, .int .i64 4, .int .i64 ad, .int .i64 ev, .bool we, .bool sg, .bool sw, .int .i64 mu, .int .i64 di, .int .i64 aa, .int .i64 de, .int .i64 qu, .bool ul, .bool uh, .bool la, .int .i64 lo, .int .i64 hi, .int .i64 hy]) h0)
  go_enter Try.func28, Try.ntmps28
  go_wp2_with fail
  refine (Check6_any we sg sw mu di aa _).mono ?_
  rintro e w1 ⟨rfl, b1⟩
  rw [S]
  have h1 := keepB b1 h0
  have bel1 := bel0.trans (b1.mono bel0.size)
  clear hld b1 h0 bel0
  obtain ⟨c0, c1, c2, c3, c4, c5, c6, c7, c8, c9, c10, c11, c12, c13, c14, c15, c16, c17, c18⟩ := of19 nm un 4 ad ev we sg sw mu di aa de qu ul uh la lo hi hy h1
  go_wp2_with fail
  refine (Check7_any de qu _).mono ?_
  rintro e w2 ⟨rfl, b2⟩
  rw [B0]
  have h2 := keepB b2 h1
  have bel2 := bel1.trans (b2.mono bel1.size)
  clear c0 c1 c2 c3 c4 c5 c6 c7 c8 c9 c10 c11 c12 c13 c14 c15 c16 c17 c18 b2 h1 bel1
  obtain ⟨c0, c1, c2, c3, c4, c5, c6, c7, c8, c9, c10, c11, c12, c13, c14, c15, c16, c17, c18⟩ := of19 nm un 4 ad ev we sg sw mu di aa de qu ul uh la lo hi hy h2
  go_wp2_with fail
  refine (Check8_any ul uh la lo hi hy _).mono ?_
  rintro e w3 ⟨rfl, b3⟩
  go_wp2
  go_ret
  exact ⟨rfl, bel2.trans (b3.mono bel2.size)⟩

theorem mean_any (nm : ByteArray) (un ki ad ev : Int) (we sg sw : Bool) (mu di aa de qu : Int) (ul uh la : Bool) (lo hi hy : Int) (w : World) (k1 : ¬ ki < 1) (k2 : ¬ ki > 4) : Calls Try.prog 28 #[.agg #[.string nm, .int .i64 un, .int .i64 ki, .int .i64 ad, .int .i64 ev, .bool we, .bool sg, .bool sw, .int .i64 mu, .int .i64 di, .int .i64 aa, .int .i64 de, .int .i64 qu, .bool ul, .bool uh, .bool la, .int .i64 lo, .int .i64 hi, .int .i64 hy]] w fun e w' => e = .returned (.int .i64 (meanT ⟨nm, un, ki, ad, ev, we, sg, sw, mu, di, aa, de, qu, ul, uh, la, lo, hi, hy⟩)) ∧ Below w.heap.size w w' := by
  refine mean_cases ⟨nm, un, ki, ad, ev, we, sg, sw, mu, di, aa, de, qu, ul, uh, la, lo, hi, hy⟩ _ ?_ ?_ ?_ ?_
  · intro S0 HC; rw [HC]; exact cm_10 nm un ki ad ev we sg sw mu di aa de qu ul uh la lo hi hy w S0
  · intro S kb hb HC
    rw [HC]
    have hk : ki = 1 ∨ ki = 2 := by
      have : ki ≤ 2 := kb
      omega
    rcases hk with rfl | rfl
    · rcases bitS_no hb with h | h | h | h | h | h
      · obtain rfl : we = true := h
        exact cm_11we1 nm un ad ev sg sw mu di aa de qu ul uh la lo hi hy w S
      · obtain rfl : sg = true := h
        exact cm_11sg1 nm un ad ev we sw mu di aa de qu ul uh la lo hi hy w S
      · obtain rfl : sw = true := h
        exact cm_11sw1 nm un ad ev we sg mu di aa de qu ul uh la lo hi hy w S
      · exact cm_11mu1 nm un ad ev we sg sw mu di aa de qu ul uh la lo hi hy w S h
      · exact cm_11di1 nm un ad ev we sg sw mu di aa de qu ul uh la lo hi hy w S h
      · exact cm_11aa1 nm un ad ev we sg sw mu di aa de qu ul uh la lo hi hy w S h
    · rcases bitS_no hb with h | h | h | h | h | h
      · obtain rfl : we = true := h
        exact cm_11we2 nm un ad ev sg sw mu di aa de qu ul uh la lo hi hy w S
      · obtain rfl : sg = true := h
        exact cm_11sg2 nm un ad ev we sw mu di aa de qu ul uh la lo hi hy w S
      · obtain rfl : sw = true := h
        exact cm_11sw2 nm un ad ev we sg mu di aa de qu ul uh la lo hi hy w S
      · exact cm_11mu2 nm un ad ev we sg sw mu di aa de qu ul uh la lo hi hy w S h
      · exact cm_11di2 nm un ad ev we sg sw mu di aa de qu ul uh la lo hi hy w S h
      · exact cm_11aa2 nm un ad ev we sg sw mu di aa de qu ul uh la lo hi hy w S h
  · intro S hb B0 HC
    rw [HC]
    have hk : ki = 1 ∨ ki = 2 ∨ ki = 3 ∨ ki = 4 := by omega
    rcases hk with rfl | rfl | rfl | rfl
    · obtain ⟨rfl, rfl, rfl, rfl, rfl, rfl⟩ := bitS_yes (hb.resolve_left (fun h => h (by show (1 : Int) ≤ 2; omega)))
      exact cm_121 nm un ad ev de qu ul uh la lo hi hy w S B0
    · obtain ⟨rfl, rfl, rfl, rfl, rfl, rfl⟩ := bitS_yes (hb.resolve_left (fun h => h (by show (2 : Int) ≤ 2; omega)))
      exact cm_122 nm un ad ev de qu ul uh la lo hi hy w S B0
    · exact cm_123 nm un ad ev we sg sw mu di aa de qu ul uh la lo hi hy w S B0
    · exact cm_124 nm un ad ev we sg sw mu di aa de qu ul uh la lo hi hy w S B0
  · intro S hb B HC
    rw [HC]
    have hk : ki = 1 ∨ ki = 2 ∨ ki = 3 ∨ ki = 4 := by omega
    rcases hk with rfl | rfl | rfl | rfl
    · obtain ⟨rfl, rfl, rfl, rfl, rfl, rfl⟩ := bitS_yes (hb.resolve_left (fun h => h (by show (1 : Int) ≤ 2; omega)))
      exact cm_131 nm un ad ev de qu ul uh la lo hi hy w S B
    · obtain ⟨rfl, rfl, rfl, rfl, rfl, rfl⟩ := bitS_yes (hb.resolve_left (fun h => h (by show (2 : Int) ≤ 2; omega)))
      exact cm_132 nm un ad ev de qu ul uh la lo hi hy w S B
    · exact cm_133 nm un ad ev we sg sw mu di aa de qu ul uh la lo hi hy w S B
    · exact cm_134 nm un ad ev we sg sw mu di aa de qu ul uh la lo hi hy w S B
end Go.Proofs.Ytmakegbkgiajdaa
