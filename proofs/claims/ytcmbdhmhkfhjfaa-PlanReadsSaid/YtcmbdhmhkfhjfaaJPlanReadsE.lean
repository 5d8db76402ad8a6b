/-
  Texts of the proof of PlanReads, joined.
-/
import Derived.Test.YtcmbdhmhkfhjfaaJPlanReadsD
import Derived.Laws.Strings
import Derived.Test.YtcmbdhmhkfhjfaaJPlanReadsC
import Derived.Deep.RegionHeld3
import Derived.Test.YtcmbdhmhkfhjfaaJPlanReadsA
import Derived.BigQuiet
import Derived.Test.YtcmbdhmhkfhjfaaJPlanReadsB
namespace Go.Proofs.Ytcmbdhmhkfhjfaa
open Go.RowKit
set_option linter.unusedVariables false
set_option maxRecDepth 100000
attribute [local go_sem ↓] ldTag_fold stTag_fold

theorem setL_whole (arr : Array Value) (vs : List Value) (h : arr.size = vs.length) : setL arr 0 vs = vs.toArray := by
  apply Array.ext_getElem?
  intro i
  by_cases hi : i < vs.length
  · have := setL_at arr 0 vs i vs[i] (List.getElem?_eq_getElem hi) (by omega)
    rw [Nat.zero_add] at this
    rw [this, List.getElem?_toArray, List.getElem?_eq_getElem hi]
  · rw [Array.getElem?_eq_none (by rw [setL_size]; omega), Array.getElem?_eq_none (by rw [List.size_toArray]; omega)]
/-- A tag is stored into a new box. -/
theorem made_tag (w : World) (t : Tg) : (stTag (.pointer (some ⟨w.heap.size, 0, none⟩)) (tgV t)).run Try.prog (w.alloc (.cells #[.string ⟨#[]⟩, .int .i64 0, .int .i64 0, .int .i64 0, .int .i64 0, .bool false, .bool false, .bool false, .int .i64 0, .int .i64 0, .int .i64 0, .int .i64 0, .int .i64 0, .bool false, .bool false, .bool false, .int .i64 0, .int .i64 0, .int .i64 0] 49)) = .ok () (w.alloc (.cells (tgC t).toArray 49)) := by
  have h := stTag_run (w := w.alloc (.cells (tgC zT).toArray 49)) (o := 0) t (there_alloc_size w 49 (tgC zT).toArray 0 19 (Nat.le_refl _))
  rw [setCells_alloc, setL_whole (tgC zT).toArray (tgC t) rfl] at h
  exact h

theorem chkT_mean (t : Tg) (hn : nameB (bys t.nm) = true) (u1 : ¬ t.un < 1) (u2 : ¬ t.un > 247) (k1 : ¬ t.ki < 1) (k2 : ¬ t.ki > 4) (d1 : ¬ t.ad < 0) (d2 : ¬ t.ad > 65536 - widT t) (v1 : ¬ t.ev < 1) (v2 : ¬ t.ev > 1048576) : chkT t = meanT t := by
  unfold chkT meanT
  simp only [hn, decide_eq_false u1, decide_eq_false u2, decide_eq_false k1, decide_eq_false k2, decide_eq_false d1, decide_eq_false d2, decide_eq_false v1, decide_eq_false v2]
  rfl
set_option maxHeartbeats 1000000 in
theorem pc9_0 (nm : ByteArray) (un ki ad ev : Int) (we sg sw : Bool) (mu di aa de qu : Int) (ul uh la : Bool) (lo hi hy : Int) (w : World) (hs : nm.size ≤ maxLen) (hn : nameB (bys nm) = false) : Calls Try.prog 49 #[.agg #[.string nm, .int .i64 un, .int .i64 ki, .int .i64 ad, .int .i64 ev, .bool we, .bool sg, .bool sw, .int .i64 mu, .int .i64 di, .int .i64 aa, .int .i64 de, .int .i64 qu, .bool ul, .bool uh, .bool la, .int .i64 lo, .int .i64 hi, .int .i64 hy]] w fun e w' => e = .returned (.int .i64 8) ∧ Below w.heap.size w w' := by
  have h0 := heap_alloc_new w (.cells #[.string nm, .int .i64 un, .int .i64 ki, .int .i64 ad, .int .i64 ev, .bool we, .bool sg, .bool sw, .int .i64 mu, .int .i64 di, .int .i64 aa, .int .i64 de, .int .i64 qu, .bool ul, .bool uh, .bool la, .int .i64 lo, .int .i64 hi, .int .i64 hy] 49)
  have bel0 := bel_alloc w (.cells #[.string nm, .int .i64 un, .int .i64 ki, .int .i64 ad, .int .i64 ev, .bool we, .bool sg, .bool sw, .int .i64 mu, .int .i64 di, .int .i64 aa, .int .i64 de, .int .i64 qu, .bool ul, .bool uh, .bool la, .int .i64 lo, .int .i64 hi, .int .i64 hy] 49)
  go_enter Try.func49, Try.ntmps49
  go_wp2_with fail
  refine (Name9_any nm _ hs).mono ?_
  rintro e w1 ⟨rfl, b1⟩
  rw [hn]
  have h1 := keepB b1 h0
  have bel1 := bel0.trans (b1.mono bel0.size)
  clear hn b1 h0 bel0
  obtain ⟨c0, c1, c2, c3, c4, c5, c6, c7, c8, c9, c10, c11, c12, c13, c14, c15, c16, c17, c18⟩ := of19 nm un ki ad ev we sg sw mu di aa de qu ul uh la lo hi hy h1
  go_wp2
  go_ret
  exact ⟨rfl, bel1⟩

set_option maxHeartbeats 1000000 in
theorem pc9_1 (nm : ByteArray) (un ki ad ev : Int) (we sg sw : Bool) (mu di aa de qu : Int) (ul uh la : Bool) (lo hi hy : Int) (w : World) (hs : nm.size ≤ maxLen) (hn : nameB (bys nm) = true) (L1 : lieB un 1 247 = false) : Calls Try.prog 49 #[.agg #[.string nm, .int .i64 un, .int .i64 ki, .int .i64 ad, .int .i64 ev, .bool we, .bool sg, .bool sw, .int .i64 mu, .int .i64 di, .int .i64 aa, .int .i64 de, .int .i64 qu, .bool ul, .bool uh, .bool la, .int .i64 lo, .int .i64 hi, .int .i64 hy]] w fun e w' => e = .returned (.int .i64 24) ∧ Below w.heap.size w w' := by
  have h0 := heap_alloc_new w (.cells #[.string nm, .int .i64 un, .int .i64 ki, .int .i64 ad, .int .i64 ev, .bool we, .bool sg, .bool sw, .int .i64 mu, .int .i64 di, .int .i64 aa, .int .i64 de, .int .i64 qu, .bool ul, .bool uh, .bool la, .int .i64 lo, .int .i64 hi, .int .i64 hy] 49)
  have bel0 := bel_alloc w (.cells #[.string nm, .int .i64 un, .int .i64 ki, .int .i64 ad, .int .i64 ev, .bool we, .bool sg, .bool sw, .int .i64 mu, .int .i64 di, .int .i64 aa, .int .i64 de, .int .i64 qu, .bool ul, .bool uh, .bool la, .int .i64 lo, .int .i64 hi, .int .i64 hy] 49)
  go_enter Try.func49, Try.ntmps49
  go_wp2_with fail
  refine (Name9_any nm _ hs).mono ?_
  rintro e w1 ⟨rfl, b1⟩
  rw [hn]
  have h1 := keepB b1 h0
  have bel1 := bel0.trans (b1.mono bel0.size)
  clear hn b1 h0 bel0
  obtain ⟨c0, c1, c2, c3, c4, c5, c6, c7, c8, c9, c10, c11, c12, c13, c14, c15, c16, c17, c18⟩ := of19 nm un ki ad ev we sg sw mu di aa de qu ul uh la lo hi hy h1
  go_wp2_with fail
  refine (lies_any _ _ _ _).mono ?_
  rintro e w' ⟨rfl, hwe⟩
  rw [hwe]
  clear hwe w'
  rw [L1]
  clear L1
  go_wp2
  go_ret
  exact ⟨rfl, bel1⟩

set_option maxHeartbeats 1000000 in
theorem pc9_2 (nm : ByteArray) (un ki ad ev : Int) (we sg sw : Bool) (mu di aa de qu : Int) (ul uh la : Bool) (lo hi hy : Int) (w : World) (hs : nm.size ≤ maxLen) (hn : nameB (bys nm) = true) (L1 : lieB un 1 247 = true) (L2 : lieB ki 1 4 = false) : Calls Try.prog 49 #[.agg #[.string nm, .int .i64 un, .int .i64 ki, .int .i64 ad, .int .i64 ev, .bool we, .bool sg, .bool sw, .int .i64 mu, .int .i64 di, .int .i64 aa, .int .i64 de, .int .i64 qu, .bool ul, .bool uh, .bool la, .int .i64 lo, .int .i64 hi, .int .i64 hy]] w fun e w' => e = .returned (.int .i64 28) ∧ Below w.heap.size w w' := by
  have h0 := heap_alloc_new w (.cells #[.string nm, .int .i64 un, .int .i64 ki, .int .i64 ad, .int .i64 ev, .bool we, .bool sg, .bool sw, .int .i64 mu, .int .i64 di, .int .i64 aa, .int .i64 de, .int .i64 qu, .bool ul, .bool uh, .bool la, .int .i64 lo, .int .i64 hi, .int .i64 hy] 49)
  have bel0 := bel_alloc w (.cells #[.string nm, .int .i64 un, .int .i64 ki, .int .i64 ad, .int .i64 ev, .bool we, .bool sg, .bool sw, .int .i64 mu, .int .i64 di, .int .i64 aa, .int .i64 de, .int .i64 qu, .bool ul, .bool uh, .bool la, .int .i64 lo, .int .i64 hi, .int .i64 hy] 49)
  go_enter Try.func49, Try.ntmps49
  go_wp2_with fail
  refine (Name9_any nm _ hs).mono ?_
  rintro e w1 ⟨rfl, b1⟩
  rw [hn]
  have h1 := keepB b1 h0
  have bel1 := bel0.trans (b1.mono bel0.size)
  clear hn b1 h0 bel0
  obtain ⟨c0, c1, c2, c3, c4, c5, c6, c7, c8, c9, c10, c11, c12, c13, c14, c15, c16, c17, c18⟩ := of19 nm un ki ad ev we sg sw mu di aa de qu ul uh la lo hi hy h1
  go_wp2_with fail
  refine (lies_any _ _ _ _).mono ?_
  rintro e w' ⟨rfl, hwe⟩
  rw [hwe]
  clear hwe w'
  rw [L1]
  clear L1
  go_wp2_with fail
  refine (lies_any _ _ _ _).mono ?_
  rintro e w' ⟨rfl, hwe⟩
  rw [hwe]
  clear hwe w'
  rw [L2]
  clear L2
  go_wp2
  go_ret
  exact ⟨rfl, bel1⟩

set_option maxHeartbeats 1000000 in
theorem pc9_3 (nm : ByteArray) (un ki ad ev : Int) (we sg sw : Bool) (mu di aa de qu : Int) (ul uh la : Bool) (lo hi hy : Int) (w : World) (hs : nm.size ≤ maxLen) (hn : nameB (bys nm) = true) (L1 : lieB un 1 247 = true) (L2 : lieB ki 1 4 = true) (hw : IntKind.i64.wrap (65536 - widT ⟨nm, un, ki, ad, ev, we, sg, sw, mu, di, aa, de, qu, ul, uh, la, lo, hi, hy⟩) = 65536 - widT ⟨nm, un, ki, ad, ev, we, sg, sw, mu, di, aa, de, qu, ul, uh, la, lo, hi, hy⟩) (L3 : lieB ad 0 (65536 - widT ⟨nm, un, ki, ad, ev, we, sg, sw, mu, di, aa, de, qu, ul, uh, la, lo, hi, hy⟩) = false) : Calls Try.prog 49 #[.agg #[.string nm, .int .i64 un, .int .i64 ki, .int .i64 ad, .int .i64 ev, .bool we, .bool sg, .bool sw, .int .i64 mu, .int .i64 di, .int .i64 aa, .int .i64 de, .int .i64 qu, .bool ul, .bool uh, .bool la, .int .i64 lo, .int .i64 hi, .int .i64 hy]] w fun e w' => e = .returned (.int .i64 21) ∧ Below w.heap.size w w' := by
  have h0 := heap_alloc_new w (.cells #[.string nm, .int .i64 un, .int .i64 ki, .int .i64 ad, .int .i64 ev, .bool we, .bool sg, .bool sw, .int .i64 mu, .int .i64 di, .int .i64 aa, .int .i64 de, .int .i64 qu, .bool ul, .bool uh, .bool la, .int .i64 lo, .int .i64 hi, .int .i64 hy] 49)
  have bel0 := bel_alloc w (.cells #[.string nm, .int .i64 un, .int .i64 ki, .int .i64 ad, .int .i64 ev, .bool we, .bool sg, .bool sw, .int .i64 mu, .int .i64 di, .int .i64 aa, .int .i64 de, .int .i64 qu, .bool ul, .bool uh, .bool la, .int .i64 lo, .int .i64 hi, .int .i64 hy] 49)
  obtain ⟨wd, hwd⟩ : ∃ x, widT ⟨nm, un, ki, ad, ev, we, sg, sw, mu, di, aa, de, qu, ul, uh, la, lo, hi, hy⟩ = x := ⟨_, rfl⟩
  have HW : Hid (∀ W : World, Calls Try.prog 13 #[.agg #[.string nm, .int .i64 un, .int .i64 ki, .int .i64 ad, .int .i64 ev, .bool we, .bool sg, .bool sw, .int .i64 mu, .int .i64 di, .int .i64 aa, .int .i64 de, .int .i64 qu, .bool ul, .bool uh, .bool la, .int .i64 lo, .int .i64 hi, .int .i64 hy]] W fun e w' => e = .returned (.int .i64 (widT ⟨nm, un, ki, ad, ev, we, sg, sw, mu, di, aa, de, qu, ul, uh, la, lo, hi, hy⟩)) ∧ Below W.heap.size W w') := Lib.hid fun W => Width9_any nm un ki ad ev we sg sw mu di aa de qu ul uh la lo hi hy W
  rw [hwd] at hw L3 HW
  clear hwd
  go_enter Try.func49, Try.ntmps49
  go_wp2_with fail
  refine (Name9_any nm _ hs).mono ?_
  rintro e w1 ⟨rfl, b1⟩
  rw [hn]
  have h1 := keepB b1 h0
  have bel1 := bel0.trans (b1.mono bel0.size)
  clear hn b1 h0 bel0
  obtain ⟨c0, c1, c2, c3, c4, c5, c6, c7, c8, c9, c10, c11, c12, c13, c14, c15, c16, c17, c18⟩ := of19 nm un ki ad ev we sg sw mu di aa de qu ul uh la lo hi hy h1
  go_wp2_with fail
  refine (lies_any _ _ _ _).mono ?_
  rintro e w' ⟨rfl, hwe⟩
  rw [hwe]
  clear hwe w'
  rw [L1]
  clear L1
  go_wp2_with fail
  refine (lies_any _ _ _ _).mono ?_
  rintro e w' ⟨rfl, hwe⟩
  rw [hwe]
  clear hwe w'
  rw [L2]
  clear L2
  clear c0 c1 c2 c3 c4 c5 c6 c7 c8 c9 c10 c11 c12 c13 c14 c15 c16 c17 c18
  have HL3 : Hid (∀ W : World, Calls Try.prog 66 #[.int .i64 ad, .int .i64 0, .int .i64 (65536 - wd)] W fun e w' => e = .returned (.bool false) ∧ Below W.heap.size W w') := Lib.hid fun W => (lies_any ad 0 (65536 - wd) W).mono (fun e w' h => by rw [h.1, h.2, L3]; exact ⟨rfl, Below.refl _ _⟩)
  clear L3
  go_wp2
  have HK : Hid (∀ w9 : World, Below w1.heap.size w1 w9 → (Below w1.heap.size w1 w9 ∧ w9.cell? ⟨w.heap.size, 3, none⟩ = some (.int .i64 ad) ∧ (ldTag (.pointer (some ⟨w.heap.size, 0, none⟩))).run Try.prog w9 = .ok (.agg #[.string nm, .int .i64 un, .int .i64 ki, .int .i64 ad, .int .i64 ev, .bool we, .bool sg, .bool sw, .int .i64 mu, .int .i64 di, .int .i64 aa, .int .i64 de, .int .i64 qu, .bool ul, .bool uh, .bool la, .int .i64 lo, .int .i64 hi, .int .i64 hy]) w9)) := Lib.hid fun w9 hw => ⟨hw, (of19 nm un ki ad ev we sg sw mu di aa de qu ul uh la lo hi hy (keepB hw h1)).2.2.2.1, ldTag_run rfl (rangeB (cs := [.string nm, .int .i64 un, .int .i64 ki, .int .i64 ad, .int .i64 ev, .bool we, .bool sg, .bool sw, .int .i64 mu, .int .i64 di, .int .i64 aa, .int .i64 de, .int .i64 qu, .bool ul, .bool uh, .bool la, .int .i64 lo, .int .i64 hi, .int .i64 hy]) (keepB hw h1))⟩
  have belh : ∀ w9 : World, (Below w1.heap.size w1 w9 ∧ w9.cell? ⟨w.heap.size, 3, none⟩ = some (.int .i64 ad) ∧ (ldTag (.pointer (some ⟨w.heap.size, 0, none⟩))).run Try.prog w9 = .ok (.agg #[.string nm, .int .i64 un, .int .i64 ki, .int .i64 ad, .int .i64 ev, .bool we, .bool sg, .bool sw, .int .i64 mu, .int .i64 di, .int .i64 aa, .int .i64 de, .int .i64 qu, .bool ul, .bool uh, .bool la, .int .i64 lo, .int .i64 hi, .int .i64 hy]) w9) → Below w1.heap.size w1 w9 := fun w9 h => h.1
  go_region_held3 (fun w9 => Below w1.heap.size w1 w9 ∧ w9.cell? ⟨w.heap.size, 3, none⟩ = some (.int .i64 ad) ∧ (ldTag (.pointer (some ⟨w.heap.size, 0, none⟩))).run Try.prog w9 = .ok (.agg #[.string nm, .int .i64 un, .int .i64 ki, .int .i64 ad, .int .i64 ev, .bool we, .bool sg, .bool sw, .int .i64 mu, .int .i64 di, .int .i64 aa, .int .i64 de, .int .i64 qu, .bool ul, .bool uh, .bool la, .int .i64 lo, .int .i64 hi, .int .i64 hy]) w9)
    ((refine HK.out _ ?_
      repeat' (first
        | with_reducible exact Below.refl _ _
        | with_reducible exact bel6
        | with_reducible exact bel5
        | with_reducible exact belh _ (by assumption)
        | with_reducible apply below_drew
        | with_reducible apply below_drewN
        | fail)))
    (first
      | (go_at_call 13; refine (HW.out _).mono ?_; rintro e w5 ⟨rfl, b5⟩; have bel5 : Below w1.heap.size w1 w5 := Below.trans (belh _ (by assumption)) (b5.mono (Below.size (belh _ (by assumption)))))
      | (go_at_call 66; refine (HL3.out _).mono ?_; rintro e w6 ⟨rfl, b6⟩; have bel6 : Below w1.heap.size w1 w6 := Below.trans (belh _ (by assumption)) (b6.mono (Below.size (belh _ (by assumption)))))
      | fail)
  have h6 := keepB bel6 h1
  have bel7 := bel1.trans (bel6.mono bel1.size)
  clear HK belh bel5 bel6 h1 bel1 HW HL3
  obtain ⟨c0, c1, c2, c3, c4, c5, c6, c7, c8, c9, c10, c11, c12, c13, c14, c15, c16, c17, c18⟩ := of19 nm un ki ad ev we sg sw mu di aa de qu ul uh la lo hi hy h6
  go_wp2
  go_ret
  exact ⟨rfl, bel7⟩

set_option maxHeartbeats 1000000 in
theorem pc9_4 (nm : ByteArray) (un ki ad ev : Int) (we sg sw : Bool) (mu di aa de qu : Int) (ul uh la : Bool) (lo hi hy : Int) (w : World) (hs : nm.size ≤ maxLen) (hn : nameB (bys nm) = true) (L1 : lieB un 1 247 = true) (L2 : lieB ki 1 4 = true) (hw : IntKind.i64.wrap (65536 - widT ⟨nm, un, ki, ad, ev, we, sg, sw, mu, di, aa, de, qu, ul, uh, la, lo, hi, hy⟩) = 65536 - widT ⟨nm, un, ki, ad, ev, we, sg, sw, mu, di, aa, de, qu, ul, uh, la, lo, hi, hy⟩) (L3 : lieB ad 0 (65536 - widT ⟨nm, un, ki, ad, ev, we, sg, sw, mu, di, aa, de, qu, ul, uh, la, lo, hi, hy⟩) = true) (L4 : lieB ev 1 1048576 = false) : Calls Try.prog 49 #[.agg #[.string nm, .int .i64 un, .int .i64 ki, .int .i64 ad, .int .i64 ev, .bool we, .bool sg, .bool sw, .int .i64 mu, .int .i64 di, .int .i64 aa, .int .i64 de, .int .i64 qu, .bool ul, .bool uh, .bool la, .int .i64 lo, .int .i64 hi, .int .i64 hy]] w fun e w' => e = .returned (.int .i64 3) ∧ Below w.heap.size w w' := by
  have h0 := heap_alloc_new w (.cells #[.string nm, .int .i64 un, .int .i64 ki, .int .i64 ad, .int .i64 ev, .bool we, .bool sg, .bool sw, .int .i64 mu, .int .i64 di, .int .i64 aa, .int .i64 de, .int .i64 qu, .bool ul, .bool uh, .bool la, .int .i64 lo, .int .i64 hi, .int .i64 hy] 49)
  have bel0 := bel_alloc w (.cells #[.string nm, .int .i64 un, .int .i64 ki, .int .i64 ad, .int .i64 ev, .bool we, .bool sg, .bool sw, .int .i64 mu, .int .i64 di, .int .i64 aa, .int .i64 de, .int .i64 qu, .bool ul, .bool uh, .bool la, .int .i64 lo, .int .i64 hi, .int .i64 hy] 49)
  obtain ⟨wd, hwd⟩ : ∃ x, widT ⟨nm, un, ki, ad, ev, we, sg, sw, mu, di, aa, de, qu, ul, uh, la, lo, hi, hy⟩ = x := ⟨_, rfl⟩
  have HW : Hid (∀ W : World, Calls Try.prog 13 #[.agg #[.string nm, .int .i64 un, .int .i64 ki, .int .i64 ad, .int .i64 ev, .bool we, .bool sg, .bool sw, .int .i64 mu, .int .i64 di, .int .i64 aa, .int .i64 de, .int .i64 qu, .bool ul, .bool uh, .bool la, .int .i64 lo, .int .i64 hi, .int .i64 hy]] W fun e w' => e = .returned (.int .i64 (widT ⟨nm, un, ki, ad, ev, we, sg, sw, mu, di, aa, de, qu, ul, uh, la, lo, hi, hy⟩)) ∧ Below W.heap.size W w') := Lib.hid fun W => Width9_any nm un ki ad ev we sg sw mu di aa de qu ul uh la lo hi hy W
  rw [hwd] at hw L3 HW
  clear hwd
  go_enter Try.func49, Try.ntmps49
  go_wp2_with fail
  refine (Name9_any nm _ hs).mono ?_
  rintro e w1 ⟨rfl, b1⟩
  rw [hn]
  have h1 := keepB b1 h0
  have bel1 := bel0.trans (b1.mono bel0.size)
  clear hn b1 h0 bel0
  obtain ⟨c0, c1, c2, c3, c4, c5, c6, c7, c8, c9, c10, c11, c12, c13, c14, c15, c16, c17, c18⟩ := of19 nm un ki ad ev we sg sw mu di aa de qu ul uh la lo hi hy h1
  go_wp2_with fail
  refine (lies_any _ _ _ _).mono ?_
  rintro e w' ⟨rfl, hwe⟩
  rw [hwe]
  clear hwe w'
  rw [L1]
  clear L1
  go_wp2_with fail
  refine (lies_any _ _ _ _).mono ?_
  rintro e w' ⟨rfl, hwe⟩
  rw [hwe]
  clear hwe w'
  rw [L2]
  clear L2
  clear c0 c1 c2 c3 c4 c5 c6 c7 c8 c9 c10 c11 c12 c13 c14 c15 c16 c17 c18
  have HL3 : Hid (∀ W : World, Calls Try.prog 66 #[.int .i64 ad, .int .i64 0, .int .i64 (65536 - wd)] W fun e w' => e = .returned (.bool true) ∧ Below W.heap.size W w') := Lib.hid fun W => (lies_any ad 0 (65536 - wd) W).mono (fun e w' h => by rw [h.1, h.2, L3]; exact ⟨rfl, Below.refl _ _⟩)
  clear L3
  go_wp2
  have HK : Hid (∀ w9 : World, Below w1.heap.size w1 w9 → (Below w1.heap.size w1 w9 ∧ w9.cell? ⟨w.heap.size, 3, none⟩ = some (.int .i64 ad) ∧ (ldTag (.pointer (some ⟨w.heap.size, 0, none⟩))).run Try.prog w9 = .ok (.agg #[.string nm, .int .i64 un, .int .i64 ki, .int .i64 ad, .int .i64 ev, .bool we, .bool sg, .bool sw, .int .i64 mu, .int .i64 di, .int .i64 aa, .int .i64 de, .int .i64 qu, .bool ul, .bool uh, .bool la, .int .i64 lo, .int .i64 hi, .int .i64 hy]) w9)) := Lib.hid fun w9 hw => ⟨hw, (of19 nm un ki ad ev we sg sw mu di aa de qu ul uh la lo hi hy (keepB hw h1)).2.2.2.1, ldTag_run rfl (rangeB (cs := [.string nm, .int .i64 un, .int .i64 ki, .int .i64 ad, .int .i64 ev, .bool we, .bool sg, .bool sw, .int .i64 mu, .int .i64 di, .int .i64 aa, .int .i64 de, .int .i64 qu, .bool ul, .bool uh, .bool la, .int .i64 lo, .int .i64 hi, .int .i64 hy]) (keepB hw h1))⟩
  have belh : ∀ w9 : World, (Below w1.heap.size w1 w9 ∧ w9.cell? ⟨w.heap.size, 3, none⟩ = some (.int .i64 ad) ∧ (ldTag (.pointer (some ⟨w.heap.size, 0, none⟩))).run Try.prog w9 = .ok (.agg #[.string nm, .int .i64 un, .int .i64 ki, .int .i64 ad, .int .i64 ev, .bool we, .bool sg, .bool sw, .int .i64 mu, .int .i64 di, .int .i64 aa, .int .i64 de, .int .i64 qu, .bool ul, .bool uh, .bool la, .int .i64 lo, .int .i64 hi, .int .i64 hy]) w9) → Below w1.heap.size w1 w9 := fun w9 h => h.1
  go_region_held3 (fun w9 => Below w1.heap.size w1 w9 ∧ w9.cell? ⟨w.heap.size, 3, none⟩ = some (.int .i64 ad) ∧ (ldTag (.pointer (some ⟨w.heap.size, 0, none⟩))).run Try.prog w9 = .ok (.agg #[.string nm, .int .i64 un, .int .i64 ki, .int .i64 ad, .int .i64 ev, .bool we, .bool sg, .bool sw, .int .i64 mu, .int .i64 di, .int .i64 aa, .int .i64 de, .int .i64 qu, .bool ul, .bool uh, .bool la, .int .i64 lo, .int .i64 hi, .int .i64 hy]) w9)
    ((refine HK.out _ ?_
      repeat' (first
        | with_reducible exact Below.refl _ _
        | with_reducible exact bel6
        | with_reducible exact bel5
        | with_reducible exact belh _ (by assumption)
        | with_reducible apply below_drew
        | with_reducible apply below_drewN
        | fail)))
    (first
      | (go_at_call 13; refine (HW.out _).mono ?_; rintro e w5 ⟨rfl, b5⟩; have bel5 : Below w1.heap.size w1 w5 := Below.trans (belh _ (by assumption)) (b5.mono (Below.size (belh _ (by assumption)))))
      | (go_at_call 66; refine (HL3.out _).mono ?_; rintro e w6 ⟨rfl, b6⟩; have bel6 : Below w1.heap.size w1 w6 := Below.trans (belh _ (by assumption)) (b6.mono (Below.size (belh _ (by assumption)))))
      | fail)
  have h6 := keepB bel6 h1
  have bel7 := bel1.trans (bel6.mono bel1.size)
  clear HK belh bel5 bel6 h1 bel1 HW HL3
  obtain ⟨c0, c1, c2, c3, c4, c5, c6, c7, c8, c9, c10, c11, c12, c13, c14, c15, c16, c17, c18⟩ := of19 nm un ki ad ev we sg sw mu di aa de qu ul uh la lo hi hy h6
  go_wp2_with fail
  refine (lies_any _ _ _ _).mono ?_
  rintro e w' ⟨rfl, hwe⟩
  rw [hwe]
  clear hwe w'
  rw [L4]
  clear L4
  go_wp2
  go_ret
  exact ⟨rfl, bel7⟩

set_option maxHeartbeats 1000000 in
theorem pc9_5 (nm : ByteArray) (un ki ad ev : Int) (we sg sw : Bool) (mu di aa de qu : Int) (ul uh la : Bool) (lo hi hy : Int) (w : World) (hs : nm.size ≤ maxLen) (hn : nameB (bys nm) = true) (L1 : lieB un 1 247 = true) (L2 : lieB ki 1 4 = true) (hw : IntKind.i64.wrap (65536 - widT ⟨nm, un, ki, ad, ev, we, sg, sw, mu, di, aa, de, qu, ul, uh, la, lo, hi, hy⟩) = 65536 - widT ⟨nm, un, ki, ad, ev, we, sg, sw, mu, di, aa, de, qu, ul, uh, la, lo, hi, hy⟩) (L3 : lieB ad 0 (65536 - widT ⟨nm, un, ki, ad, ev, we, sg, sw, mu, di, aa, de, qu, ul, uh, la, lo, hi, hy⟩) = true) (L4 : lieB ev 1 1048576 = true) (k1 : ¬ ki < 1) (k2 : ¬ ki > 4) : Calls Try.prog 49 #[.agg #[.string nm, .int .i64 un, .int .i64 ki, .int .i64 ad, .int .i64 ev, .bool we, .bool sg, .bool sw, .int .i64 mu, .int .i64 di, .int .i64 aa, .int .i64 de, .int .i64 qu, .bool ul, .bool uh, .bool la, .int .i64 lo, .int .i64 hi, .int .i64 hy]] w fun e w' => e = .returned (.int .i64 (meanT ⟨nm, un, ki, ad, ev, we, sg, sw, mu, di, aa, de, qu, ul, uh, la, lo, hi, hy⟩)) ∧ Below w.heap.size w w' := by
  have h0 := heap_alloc_new w (.cells #[.string nm, .int .i64 un, .int .i64 ki, .int .i64 ad, .int .i64 ev, .bool we, .bool sg, .bool sw, .int .i64 mu, .int .i64 di, .int .i64 aa, .int .i64 de, .int .i64 qu, .bool ul, .bool uh, .bool la, .int .i64 lo, .int .i64 hi, .int .i64 hy] 49)
  have bel0 := bel_alloc w (.cells #[.string nm, .int .i64 un, .int .i64 ki, .int .i64 ad, .int .i64 ev, .bool we, .bool sg, .bool sw, .int .i64 mu, .int .i64 di, .int .i64 aa, .int .i64 de, .int .i64 qu, .bool ul, .bool uh, .bool la, .int .i64 lo, .int .i64 hi, .int .i64 hy] 49)
  obtain ⟨wd, hwd⟩ : ∃ x, widT ⟨nm, un, ki, ad, ev, we, sg, sw, mu, di, aa, de, qu, ul, uh, la, lo, hi, hy⟩ = x := ⟨_, rfl⟩
  have HW : Hid (∀ W : World, Calls Try.prog 13 #[.agg #[.string nm, .int .i64 un, .int .i64 ki, .int .i64 ad, .int .i64 ev, .bool we, .bool sg, .bool sw, .int .i64 mu, .int .i64 di, .int .i64 aa, .int .i64 de, .int .i64 qu, .bool ul, .bool uh, .bool la, .int .i64 lo, .int .i64 hi, .int .i64 hy]] W fun e w' => e = .returned (.int .i64 (widT ⟨nm, un, ki, ad, ev, we, sg, sw, mu, di, aa, de, qu, ul, uh, la, lo, hi, hy⟩)) ∧ Below W.heap.size W w') := Lib.hid fun W => Width9_any nm un ki ad ev we sg sw mu di aa de qu ul uh la lo hi hy W
  rw [hwd] at hw L3 HW
  clear hwd
  go_enter Try.func49, Try.ntmps49
  go_wp2_with fail
  refine (Name9_any nm _ hs).mono ?_
  rintro e w1 ⟨rfl, b1⟩
  rw [hn]
  have h1 := keepB b1 h0
  have bel1 := bel0.trans (b1.mono bel0.size)
  clear hn b1 h0 bel0
  obtain ⟨c0, c1, c2, c3, c4, c5, c6, c7, c8, c9, c10, c11, c12, c13, c14, c15, c16, c17, c18⟩ := of19 nm un ki ad ev we sg sw mu di aa de qu ul uh la lo hi hy h1
  go_wp2_with fail
  refine (lies_any _ _ _ _).mono ?_
  rintro e w' ⟨rfl, hwe⟩
  rw [hwe]
  clear hwe w'
  rw [L1]
  clear L1
  go_wp2_with fail
  refine (lies_any _ _ _ _).mono ?_
  rintro e w' ⟨rfl, hwe⟩
  rw [hwe]
  clear hwe w'
  rw [L2]
  clear L2
  clear c0 c1 c2 c3 c4 c5 c6 c7 c8 c9 c10 c11 c12 c13 c14 c15 c16 c17 c18
  have HL3 : Hid (∀ W : World, Calls Try.prog 66 #[.int .i64 ad, .int .i64 0, .int .i64 (65536 - wd)] W fun e w' => e = .returned (.bool true) ∧ Below W.heap.size W w') := Lib.hid fun W => (lies_any ad 0 (65536 - wd) W).mono (fun e w' h => by rw [h.1, h.2, L3]; exact ⟨rfl, Below.refl _ _⟩)
  clear L3
  go_wp2
  have HK : Hid (∀ w9 : World, Below w1.heap.size w1 w9 → (Below w1.heap.size w1 w9 ∧ w9.cell? ⟨w.heap.size, 3, none⟩ = some (.int .i64 ad) ∧ (ldTag (.pointer (some ⟨w.heap.size, 0, none⟩))).run Try.prog w9 = .ok (.agg #[.string nm, .int .i64 un, .int .i64 ki, .int .i64 ad, .int .i64 ev, .bool we, .bool sg, .bool sw, .int .i64 mu, .int .i64 di, .int .i64 aa, .int .i64 de, .int .i64 qu, .bool ul, .bool uh, .bool la, .int .i64 lo, .int .i64 hi, .int .i64 hy]) w9)) := Lib.hid fun w9 hw => ⟨hw, (of19 nm un ki ad ev we sg sw mu di aa de qu ul uh la lo hi hy (keepB hw h1)).2.2.2.1, ldTag_run rfl (rangeB (cs := [.string nm, .int .i64 un, .int .i64 ki, .int .i64 ad, .int .i64 ev, .bool we, .bool sg, .bool sw, .int .i64 mu, .int .i64 di, .int .i64 aa, .int .i64 de, .int .i64 qu, .bool ul, .bool uh, .bool la, .int .i64 lo, .int .i64 hi, .int .i64 hy]) (keepB hw h1))⟩
  have belh : ∀ w9 : World, (Below w1.heap.size w1 w9 ∧ w9.cell? ⟨w.heap.size, 3, none⟩ = some (.int .i64 ad) ∧ (ldTag (.pointer (some ⟨w.heap.size, 0, none⟩))).run Try.prog w9 = .ok (.agg #[.string nm, .int .i64 un, .int .i64 ki, .int .i64 ad, .int .i64 ev, .bool we, .bool sg, .bool sw, .int .i64 mu, .int .i64 di, .int .i64 aa, .int .i64 de, .int .i64 qu, .bool ul, .bool uh, .bool la, .int .i64 lo, .int .i64 hi, .int .i64 hy]) w9) → Below w1.heap.size w1 w9 := fun w9 h => h.1
  go_region_held3 (fun w9 => Below w1.heap.size w1 w9 ∧ w9.cell? ⟨w.heap.size, 3, none⟩ = some (.int .i64 ad) ∧ (ldTag (.pointer (some ⟨w.heap.size, 0, none⟩))).run Try.prog w9 = .ok (.agg #[.string nm, .int .i64 un, .int .i64 ki, .int .i64 ad, .int .i64 ev, .bool we, .bool sg, .bool sw, .int .i64 mu, .int .i64 di, .int .i64 aa, .int .i64 de, .int .i64 qu, .bool ul, .bool uh, .bool la, .int .i64 lo, .int .i64 hi, .int .i64 hy]) w9)
    ((refine HK.out _ ?_
      repeat' (first
        | with_reducible exact Below.refl _ _
        | with_reducible exact bel6
        | with_reducible exact bel5
        | with_reducible exact belh _ (by assumption)
        | with_reducible apply below_drew
        | with_reducible apply below_drewN
        | fail)))
    (first
      | (go_at_call 13; refine (HW.out _).mono ?_; rintro e w5 ⟨rfl, b5⟩; have bel5 : Below w1.heap.size w1 w5 := Below.trans (belh _ (by assumption)) (b5.mono (Below.size (belh _ (by assumption)))))
      | (go_at_call 66; refine (HL3.out _).mono ?_; rintro e w6 ⟨rfl, b6⟩; have bel6 : Below w1.heap.size w1 w6 := Below.trans (belh _ (by assumption)) (b6.mono (Below.size (belh _ (by assumption)))))
      | fail)
  have h6 := keepB bel6 h1
  have bel7 := bel1.trans (bel6.mono bel1.size)
  clear HK belh bel5 bel6 h1 bel1 HW HL3
  obtain ⟨c0, c1, c2, c3, c4, c5, c6, c7, c8, c9, c10, c11, c12, c13, c14, c15, c16, c17, c18⟩ := of19 nm un ki ad ev we sg sw mu di aa de qu ul uh la lo hi hy h6
  go_wp2_with fail
  refine (lies_any _ _ _ _).mono ?_
  rintro e w' ⟨rfl, hwe⟩
  rw [hwe]
  clear hwe w'
  rw [L4]
  clear L4
  have hld := ldTag_run (b := w.heap.size) (o := 0) rfl (rangeB (cs := [.string nm, .int .i64 un, .int .i64 ki, .int .i64 ad, .int .i64 ev, .bool we, .bool sg, .bool sw, .int .i64 mu, .int .i64 di, .int .i64 aa, .int .i64 de, .int .i64 qu, .bool ul, .bool uh, .bool la, .int .i64 lo, .int .i64 hi, .int .i64 hy]) h6)
  go_wp2_with fail
  refine (mean_any nm un ki ad ev we sg sw mu di aa de qu ul uh la lo hi hy _ (by omega) (by omega)).mono ?_
  rintro e w8 ⟨rfl, b8⟩
  go_wp2
  go_ret
  exact ⟨rfl, bel7.trans (b8.mono bel7.size)⟩

theorem Check9_any (nm : ByteArray) (un ki ad ev : Int) (we sg sw : Bool) (mu di aa de qu : Int) (ul uh la : Bool) (lo hi hy : Int) (w : World) (hs : nm.size ≤ maxLen) : Calls Try.prog 49 #[.agg #[.string nm, .int .i64 un, .int .i64 ki, .int .i64 ad, .int .i64 ev, .bool we, .bool sg, .bool sw, .int .i64 mu, .int .i64 di, .int .i64 aa, .int .i64 de, .int .i64 qu, .bool ul, .bool uh, .bool la, .int .i64 lo, .int .i64 hi, .int .i64 hy]] w fun e w' => e = .returned (.int .i64 (chkT ⟨nm, un, ki, ad, ev, we, sg, sw, mu, di, aa, de, qu, ul, uh, la, lo, hi, hy⟩)) ∧ Below w.heap.size w w' := by
  have hwr : IntKind.i64.wrap (65536 - widT ⟨nm, un, ki, ad, ev, we, sg, sw, mu, di, aa, de, qu, ul, uh, la, lo, hi, hy⟩) = 65536 - widT ⟨nm, un, ki, ad, ev, we, sg, sw, mu, di, aa, de, qu, ul, uh, la, lo, hi, hy⟩ := by
    have := widT_le ⟨nm, un, ki, ad, ev, we, sg, sw, mu, di, aa, de, qu, ul, uh, la, lo, hi, hy⟩
    rw [IntKind.wrap_i64]; omega
  have G : ∀ (hn : nameB (bys nm) = true) (u1 : ¬ un < 1) (u2 : ¬ un > 247) (k1 : ¬ ki < 1) (k2 : ¬ ki > 4) (d1 : ¬ ad < 0) (d2 : ¬ ad > 65536 - widT ⟨nm, un, ki, ad, ev, we, sg, sw, mu, di, aa, de, qu, ul, uh, la, lo, hi, hy⟩) (v1 : ¬ ev < 1) (v2 : ¬ ev > 1048576), Calls Try.prog 49 #[.agg #[.string nm, .int .i64 un, .int .i64 ki, .int .i64 ad, .int .i64 ev, .bool we, .bool sg, .bool sw, .int .i64 mu, .int .i64 di, .int .i64 aa, .int .i64 de, .int .i64 qu, .bool ul, .bool uh, .bool la, .int .i64 lo, .int .i64 hi, .int .i64 hy]] w fun e w' => e = .returned (.int .i64 (chkT ⟨nm, un, ki, ad, ev, we, sg, sw, mu, di, aa, de, qu, ul, uh, la, lo, hi, hy⟩)) ∧ Below w.heap.size w w' := by
    intro hn u1 u2 k1 k2 d1 d2 v1 v2
    rw [chkT_mean ⟨nm, un, ki, ad, ev, we, sg, sw, mu, di, aa, de, qu, ul, uh, la, lo, hi, hy⟩ hn u1 u2 k1 k2 d1 d2 v1 v2]
    exact pc9_5 nm un ki ad ev we sg sw mu di aa de qu ul uh la lo hi hy w hs hn (lieB_yes u1 u2) (lieB_yes k1 k2) hwr (lieB_yes d1 d2) (lieB_yes v1 v2) k1 k2
  refine tag_cases ⟨nm, un, ki, ad, ev, we, sg, sw, mu, di, aa, de, qu, ul, uh, la, lo, hi, hy⟩ _ ?_ ?_ ?_ ?_ ?_ ?_ ?_ ?_ ?_ ?_ ?_ ?_ ?_
  · intro hn0 HC; rw [HC]; exact pc9_0 nm un ki ad ev we sg sw mu di aa de qu ul uh la lo hi hy w hs hn0
  · intro hn u1y HC; rw [HC]; exact pc9_1 nm un ki ad ev we sg sw mu di aa de qu ul uh la lo hi hy w hs hn (lieB_low u1y)
  · intro hn u1 u2y HC; rw [HC]; exact pc9_1 nm un ki ad ev we sg sw mu di aa de qu ul uh la lo hi hy w hs hn (lieB_high u2y)
  · intro hn u1 u2 k1y HC; rw [HC]; exact pc9_2 nm un ki ad ev we sg sw mu di aa de qu ul uh la lo hi hy w hs hn (lieB_yes u1 u2) (lieB_low k1y)
  · intro hn u1 u2 k1 k2y HC; rw [HC]; exact pc9_2 nm un ki ad ev we sg sw mu di aa de qu ul uh la lo hi hy w hs hn (lieB_yes u1 u2) (lieB_high k2y)
  · intro hn u1 u2 k1 k2 d1y HC; rw [HC]; exact pc9_3 nm un ki ad ev we sg sw mu di aa de qu ul uh la lo hi hy w hs hn (lieB_yes u1 u2) (lieB_yes k1 k2) hwr (lieB_low d1y)
  · intro hn u1 u2 k1 k2 d1 d2y HC; rw [HC]; exact pc9_3 nm un ki ad ev we sg sw mu di aa de qu ul uh la lo hi hy w hs hn (lieB_yes u1 u2) (lieB_yes k1 k2) hwr (lieB_high d2y)
  · intro hn u1 u2 k1 k2 d1 d2 v1y HC; rw [HC]; exact pc9_4 nm un ki ad ev we sg sw mu di aa de qu ul uh la lo hi hy w hs hn (lieB_yes u1 u2) (lieB_yes k1 k2) hwr (lieB_yes d1 d2) (lieB_low v1y)
  · intro hn u1 u2 k1 k2 d1 d2 v1 v2y HC; rw [HC]; exact pc9_4 nm un ki ad ev we sg sw mu di aa de qu ul uh la lo hi hy w hs hn (lieB_yes u1 u2) (lieB_yes k1 k2) hwr (lieB_yes d1 d2) (lieB_high v2y)
  · intro hn u1 u2 k1 k2 d1 d2 v1 v2 _ _; exact G hn u1 u2 k1 k2 d1 d2 v1 v2
  · intro hn u1 u2 k1 k2 d1 d2 v1 v2 _ _ _ _; exact G hn u1 u2 k1 k2 d1 d2 v1 v2
  · intro hn u1 u2 k1 k2 d1 d2 v1 v2 _ _ _ _; exact G hn u1 u2 k1 k2 d1 d2 v1 v2
  · intro hn u1 u2 k1 k2 d1 d2 v1 v2 _ _ _ _; exact G hn u1 u2 k1 k2 d1 d2 v1 v2

/-- What is wrong with a tag behind one of a name. -/
def chkBh (a : ByteArray) (t : Tg) : Int := bif !decide (chkT t = 0) then chkT t else bif t.nm.toList == a.toList then 7 else bif Op.bytesLess t.nm.toList a.toList then 29 else 0
set_option maxHeartbeats 1000000 in
theorem behind9_any (a : ByteArray) (nm : ByteArray) (un ki ad ev : Int) (we sg sw : Bool) (mu di aa de qu : Int) (ul uh la : Bool) (lo hi hy : Int) (w : World) (hs : nm.size ≤ maxLen) : Calls Try.prog 27 #[.string a, .agg #[.string nm, .int .i64 un, .int .i64 ki, .int .i64 ad, .int .i64 ev, .bool we, .bool sg, .bool sw, .int .i64 mu, .int .i64 di, .int .i64 aa, .int .i64 de, .int .i64 qu, .bool ul, .bool uh, .bool la, .int .i64 lo, .int .i64 hi, .int .i64 hy]] w fun e w' => e = .returned (.int .i64 (chkBh a ⟨nm, un, ki, ad, ev, we, sg, sw, mu, di, aa, de, qu, ul, uh, la, lo, hi, hy⟩)) ∧ Below w.heap.size w w' := by
  have h0 := heap_alloc_new w (.cells #[.string nm, .int .i64 un, .int .i64 ki, .int .i64 ad, .int .i64 ev, .bool we, .bool sg, .bool sw, .int .i64 mu, .int .i64 di, .int .i64 aa, .int .i64 de, .int .i64 qu, .bool ul, .bool uh, .bool la, .int .i64 lo, .int .i64 hi, .int .i64 hy] 49)
  have bel0 := bel_alloc w (.cells #[.string nm, .int .i64 un, .int .i64 ki, .int .i64 ad, .int .i64 ev, .bool we, .bool sg, .bool sw, .int .i64 mu, .int .i64 di, .int .i64 aa, .int .i64 de, .int .i64 qu, .bool ul, .bool uh, .bool la, .int .i64 lo, .int .i64 hi, .int .i64 hy] 49)
  have hld := ldTag_run (b := w.heap.size) (o := 0) rfl (rangeB (cs := [.string nm, .int .i64 un, .int .i64 ki, .int .i64 ad, .int .i64 ev, .bool we, .bool sg, .bool sw, .int .i64 mu, .int .i64 di, .int .i64 aa, .int .i64 de, .int .i64 qu, .bool ul, .bool uh, .bool la, .int .i64 lo, .int .i64 hi, .int .i64 hy]) h0)
  obtain ⟨cv, hcv⟩ : ∃ x, chkT ⟨nm, un, ki, ad, ev, we, sg, sw, mu, di, aa, de, qu, ul, uh, la, lo, hi, hy⟩ = x := ⟨_, rfl⟩
  have HB : Hid (chkBh a ⟨nm, un, ki, ad, ev, we, sg, sw, mu, di, aa, de, qu, ul, uh, la, lo, hi, hy⟩ = bif !decide (cv = 0) then cv else bif nm.toList == a.toList then 7 else bif Op.bytesLess nm.toList a.toList then 29 else 0) := Lib.hid (by unfold chkBh; rw [hcv])
  have HC := Lib.hid hcv
  clear hcv
  rw [HB.out]
  clear HB
  by_cases hc : cv = 0
  · subst hc
    cases heq : nm.toList == a.toList with
    | true =>
      go_enter Try.func27, Try.ntmps27
      go_wp2_with fail
      refine (Check9_any nm un ki ad ev we sg sw mu di aa de qu ul uh la lo hi hy _ hs).mono ?_
      rintro e w1 ⟨rfl, b1⟩
      rw [HC.out]
      have h1 := keepB b1 h0
      have bel1 := bel0.trans (b1.mono bel0.size)
      clear hld b1 h0 bel0
      obtain ⟨c0, c1, c2, c3, c4, c5, c6, c7, c8, c9, c10, c11, c12, c13, c14, c15, c16, c17, c18⟩ := of19 nm un ki ad ev we sg sw mu di aa de qu ul uh la lo hi hy h1
      go_wp2
      go_ret
      exact ⟨rfl, bel1⟩
    | false =>
      cases hls : Op.bytesLess nm.toList a.toList with
      | true =>
        go_enter Try.func27, Try.ntmps27
        go_wp2_with fail
        refine (Check9_any nm un ki ad ev we sg sw mu di aa de qu ul uh la lo hi hy _ hs).mono ?_
        rintro e w1 ⟨rfl, b1⟩
        rw [HC.out]
        have h1 := keepB b1 h0
        have bel1 := bel0.trans (b1.mono bel0.size)
        clear hld b1 h0 bel0
        obtain ⟨c0, c1, c2, c3, c4, c5, c6, c7, c8, c9, c10, c11, c12, c13, c14, c15, c16, c17, c18⟩ := of19 nm un ki ad ev we sg sw mu di aa de qu ul uh la lo hi hy h1
        go_wp2
        go_ret
        exact ⟨rfl, bel1⟩
      | false =>
        go_enter Try.func27, Try.ntmps27
        go_wp2_with fail
        refine (Check9_any nm un ki ad ev we sg sw mu di aa de qu ul uh la lo hi hy _ hs).mono ?_
        rintro e w1 ⟨rfl, b1⟩
        rw [HC.out]
        have h1 := keepB b1 h0
        have bel1 := bel0.trans (b1.mono bel0.size)
        clear hld b1 h0 bel0
        obtain ⟨c0, c1, c2, c3, c4, c5, c6, c7, c8, c9, c10, c11, c12, c13, c14, c15, c16, c17, c18⟩ := of19 nm un ki ad ev we sg sw mu di aa de qu ul uh la lo hi hy h1
        go_wp2
        go_ret
        exact ⟨rfl, bel1⟩
  · have hc2 : (cv == 0) = false := beq_false_of_ne hc
    have HR : Hid ((bif !decide (cv = 0) then cv else bif nm.toList == a.toList then 7 else bif Op.bytesLess nm.toList a.toList then 29 else 0) = cv) := Lib.hid (by rw [decide_eq_false hc]; rfl)
    rw [HR.out]
    clear HR
    go_enter Try.func27, Try.ntmps27
    go_wp2_with fail
    refine (Check9_any nm un ki ad ev we sg sw mu di aa de qu ul uh la lo hi hy _ hs).mono ?_
    rintro e w1 ⟨rfl, b1⟩
    rw [HC.out]
    have bel1 := bel0.trans (b1.mono bel0.size)
    go_wp2
    go_ret
    exact ⟨rfl, bel1⟩
theorem behind9_t (a : ByteArray) (t : Tg) (w : World) (hs : t.nm.size ≤ maxLen) : Calls Try.prog 27 #[.string a, tgV t] w fun e w' => e = .returned (.int .i64 (chkBh a t)) ∧ Below w.heap.size w w' := by
  obtain ⟨nm, un, ki, ad, ev, we, sg, sw, mu, di, aa, de, qu, ul, uh, la, lo, hi, hy⟩ := t
  exact behind9_any a nm un ki ad ev we sg sw mu di aa de qu ul uh la lo hi hy w hs

/-- The name of the tag ahead. -/
def nmA (l : List Tg) (i : Nat) : ByteArray := match ahead l i with | none => ⟨#[]⟩ | some p => p.nm
theorem nmA_zero (l : List Tg) : nmA l 0 = ⟨#[]⟩ := rfl
theorem nmA_succ {l : List Tg} {i : Nat} (h : i < l.length) : nmA l (i + 1) = l[i].nm := by
  simp only [nmA, ahead, List.getElem?_eq_getElem h]
theorem toList_nil : (ByteArray.toList ⟨#[]⟩) = [] := by rw [ByteArray.toList_eq]
theorem less_nil (x : List UInt8) : Op.bytesLess x [] = false := by
  cases x <;> rfl
theorem toList_len (s : ByteArray) : s.toList.length = s.size := by
  rw [ByteArray.toList_eq]; simp
theorem badAt_bh {l : List Tg} {i : Nat} (h : i < l.length) : badAt l i = chkBh (nmA l i) l[i] := by
  cases i with
  | zero =>
    rw [badAt_first h, nmA_zero, chkBh, toList_nil, less_nil]
    by_cases hc : chkT l[0] = 0
    · have hn := (by unfold chkT at hc; cases h : nameB (bys l[0].nm) with | true => rfl | false => rw [h] at hc; simp at hc : nameB (bys l[0].nm) = true)
      have e : (l[0].nm.toList == ([] : List UInt8)) = false := by
        rw [beq_eq_false_iff_ne]
        intro e
        have h0 : l[0].nm.size = 0 := by rw [← toList_len, e]; rfl
        have h1 : 1 ≤ (bys l[0].nm).length := by
          unfold nameB at hn
          simp only [Bool.and_eq_true, decide_eq_true_eq] at hn
          exact hn.1.1.1
        rw [bys_len] at h1
        omega
      rw [e, hc]; rfl
    · rw [decide_eq_false hc]; rfl
  | succ i =>
    rw [nmA_succ (by omega)]
    by_cases hc : chkT l[i + 1] = 0
    · rw [badAt_next h hc, badN, chkBh, hc]; rfl
    · rw [badAt_chk h hc, chkBh, decide_eq_false hc]; rfl

set_option maxHeartbeats 1000000 in
theorem CheckAll9_any (A : Option Addr) (n c : Nat) (l : List Tg) (w : World) (hr : VRow w w.heap.size A (flatV tgC l)) (hn : l.length = n) (hb : n ≤ 4611686018427387904) (hok : ∀ t ∈ l, Tg.Ok t) :
    Calls Try.prog 12 #[.slice A n c] w fun e w' => e = .returned (.tuple #[.int .i64 (chkAll l).1, .int .i64 (chkAll l).2]) ∧ Below w.heap.size w w' := by
  by_cases hbig : 64 < n
  · have HA : Hid (chkAll l = (34, 0)) := Lib.hid (chkAll_many (by omega))
    have hbig' : (64 : Int) < n := by omega
    rw [HA.out]
    go_enter Try.func12, Try.ntmps12
    go_wp2
    (try simp only [Exit.inBlock, Exit.then])
    refine bodyPost_ret (v := .tuple #[.int .i64 34, .int .i64 0]) (by simp [results, Try.results12, go_sem, *]) rfl ?_
    exact ⟨rfl, Below.refl _ _⟩
  have H64 : Hid (¬ 64 < l.length) := Lib.hid (by omega)
  have hbig' : ¬ (64 : Int) < n := by omega
  have hn' := Lib.hid hn
  have HOK := Lib.hid hok
  clear hn hok
  go_enter Try.func12, Try.ntmps12
  go_wp2
  go_loopw [4, 13] (fun u i wr => ∃ k : Nat, k ≤ n ∧ i = .int .i64 k ∧ (∃ s, u = .string s ∧ Hid (k < n → s = nmA l k)) ∧ Hid (∀ j, j < k → badAt l j = 0) ∧ Hid (Below w.heap.size w wr)) (fun u i _ => n - (intOf i).toNat)
  case atStart => exact ⟨0, by omega, rfl, ⟨_, rfl, Lib.hid (fun _ => (nmA_zero l).symm)⟩, Lib.hid (fun j hj => absurd hj (by omega)), Lib.hid (Below.refl _ _)⟩
  case round =>
    obtain ⟨k, hk, rfl, ⟨s, rfl, hs⟩, hall, hbel⟩ := hrel
    by_cases hlt : k < n
    · have hkl : k < l.length := by have := hn'.out; omega
      obtain ⟨b, o, rfl, hb1, hld, hc1⟩ := (hr.below hbel.out).load hkl
      have HS := Lib.hid (HOK.out _ (List.getElem_mem hkl)).1
      have HB : Hid (badAt l k = chkBh s l[k]) := Lib.hid (by rw [hs.out hlt]; exact badAt_bh hkl)
      have HNX : Hid (k + 1 < n → l[k].nm = nmA l (k + 1)) := Lib.hid (fun _ => (nmA_succ hkl).symm)
      generalize l[k] = t at hld hc1 HS HB HNX
      have hlt' : (k : Int) < (n : Int) := by omega
      have hk0 : (0 : Int) ≤ k := by omega
      have hnb := heap_alloc_new wr (.cells (tgC t).toArray 49)
      have hbel1 := hbel.out.alloc hbel.out.size (.cells (tgC t).toArray 49)
      have hst := made_tag wr t
      have hld3 : (ldTag (.pointer (some ⟨wr.heap.size, 0, none⟩))).run Try.prog (wr.alloc (.cells (tgC t).toArray 49)) = .ok (tgV t) (wr.alloc (.cells (tgC t).toArray 49)) := ldTag_run (tgC_len t) (rangeB hnb)
      have hsz := hbel.out.size
      clear hbel
      go_wp2_with fail
      refine (behind9_t s t _ HS.out).mono ?_
      rintro e w1 ⟨rfl, b1⟩
      have h1 := keepB b1 hnb
      have hbel2 := Lib.hid (hbel1.trans (b1.mono hbel1.size))
      have hcn : w1.cell? ⟨wr.heap.size, 0, none⟩ = some (.string t.nm) := cell_of_row _ _ 0 _ _ _ h1
      clear hld hst hld3 hnb hbel1 b1
      by_cases hc : chkBh s t = 0
      case neg =>
        have HA : Hid (chkAll l = (chkBh s t, (k : Int))) := Lib.hid (chkAll_at H64.out hkl HB.out hc hall.out)
        generalize chkBh s t = ec at *
        have hc2 : (ec == 0) = false := beq_false_of_ne hc
        go_wp2
        (try simp only [Exit.inBlock, Exit.then])
        refine bodyPost_ret (v := .tuple #[.int .i64 ec, .int .i64 k]) (by simp [results, Try.results12, go_sem, *]) rfl ?_
        exact ⟨by rw [HA.out], hbel2.out⟩
      case pos =>
        rw [hc]
        have hall2 : Hid (∀ j, j < k + 1 → badAt l j = 0) := Lib.hid (fun j hj => by
          rcases Nat.lt_or_ge j k with h | h
          · exact hall.out j h
          · obtain rfl : j = k := by omega
            rw [HB.out]; exact hc)
        clear hc
        go_wp2
        go_roundw
        case rel => exact ⟨k + 1, by omega, by go_num, ⟨t.nm, rfl, HNX⟩, hall2, hbel2⟩
        case measure => simp [intOf]; omega
    · have HA : Hid (chkAll l = (0, 0)) := Lib.hid (chkAll_none H64.out (fun j hj => hall.out j (by have := hn'.out; omega)))
      go_wp2
      (try simp only [Exit.inBlock, Exit.then])
      refine bodyPost_ret (v := .tuple #[.int .i64 0, .int .i64 0]) (by simp [results, Try.results12, go_sem, *]) rfl ?_
      exact ⟨by rw [HA.out], hbel.out⟩
end Go.Proofs.Ytcmbdhmhkfhjfaa
namespace Go.Proofs.Ytcmbdhmhkfhjfaa
open Go.RowKit
set_option linter.unusedVariables false
set_option maxRecDepth 100000
attribute [local go_sem ↓] ldTag_fold stTag_fold

/-- The first cells of a tag's box. -/
theorem tgBox {w : World} {g : Nat} {t : Tg} {T : TypeId} (h : w.heap[g]? = some (.cells (tgC t).toArray T (0, 0))) :
    w.cell? ⟨g, 0, none⟩ = some (.string t.nm) ∧ w.cell? ⟨g, 1, none⟩ = some (.int .i64 t.un) ∧ w.cell? ⟨g, 2, none⟩ = some (.int .i64 t.ki) ∧ w.cell? ⟨g, 3, none⟩ = some (.int .i64 t.ad) ∧ w.cell? ⟨g, 4, none⟩ = some (.int .i64 t.ev) := by
  obtain ⟨nm, un, ki, ad, ev, we, sg, sw, mu, di, aa, de, qu, ul, uh, la, lo, hi, hy⟩ := t
  exact ⟨cell_of_row _ _ 0 _ _ _ h, cell_of_row _ _ 1 _ _ _ h, cell_of_row _ _ 2 _ _ _ h, cell_of_row _ _ 3 _ _ _ h, cell_of_row _ _ 4 _ _ _ h⟩
theorem tgBox_ld {w : World} {g : Nat} {t : Tg} {T : TypeId} (h : w.heap[g]? = some (.cells (tgC t).toArray T (0, 0))) : (ldTag (.pointer (some ⟨g, 0, none⟩))).run Try.prog w = .ok (tgV t) w := ldTag_run (tgC_len t) (rangeB h)
/-- A tag's fields in memory. -/
theorem VRow.five {w : World} {B : Nat} {A : Option Addr} {l : List Tg} (h : VRow w B A (flatV tgC l)) {i : Nat} (hi : i < l.length) :
    ∃ b o, A = some ⟨b, o, none⟩ ∧ b < B ∧ (ldTag (.pointer (some ⟨b, o + i * 19, none⟩))).run Try.prog w = .ok (tgV (tgAt l i)) w := by
  obtain ⟨b, o, e, hb, hl, _⟩ := h.load hi
  exact ⟨b, o, e, hb, by rw [tgAt_eq hi]; exact hl⟩

def aheadV (a b : Tg) (i k : Nat) : Bool := if a.un = b.un then (if a.ev = b.ev then (if a.ki = b.ki then (if a.ad = b.ad then decide ((i : Int) < k) else decide (a.ad < b.ad)) else decide (a.ki < b.ki)) else decide (a.ev < b.ev)) else decide (a.un < b.un)
theorem aheadV_eq (l : List Tg) (i k : Nat) : aheadB l i k = aheadV (tgAt l i) (tgAt l k) i k := by
  generalize hb : aheadV (tgAt l i) (tgAt l k) i k = b
  have key : aheadB l i k = true ↔ aheadV (tgAt l i) (tgAt l k) i k = true := by
    rw [ahead_iff]
    unfold aheadV aheadP
    split
    · split
      · split
        · split
          · rw [decide_eq_true_eq]; omega
          · rw [decide_eq_true_eq]; omega
        · rw [decide_eq_true_eq]; omega
      · rw [decide_eq_true_eq]; omega
    · rw [decide_eq_true_eq]; omega
  rw [hb] at key
  cases b <;> cases h : aheadB l i k <;> simp_all

theorem asked_none (w : World) (B : Nat) (k a c : Int) : Asked w B (reqK k a c) none none none 0 0 0 := ⟨L.Row.nil _ _ _ _, Row.nil _ _ _ _, Row.nil _ _ _ _, rfl, rfl, rfl⟩
theorem chk_req (k a c : Int) : chk (reqK k a c).c (reqK k a c).a (reqK k a c).n 0 0 0 (reqK k a c).fl = chkQ (reqK k a c) := by simp [chkQ, reqK]
/-- A poll's box. -/
theorem poBox {w : World} {g : Nat} {v0 v1 v2 v3 v4 v5 : Value} {T : TypeId} (h : w.heap[g]? = some (.cells #[v0, v1, v2, v3, v4, v5] T (0, 0))) :
    w.cell? ⟨g, 0, none⟩ = some v0 ∧ w.cell? ⟨g, 1, none⟩ = some v1 ∧ w.cell? ⟨g, 2, none⟩ = some v2 ∧ w.cell? ⟨g, 3, none⟩ = some v3 ∧ w.cell? ⟨g, 4, none⟩ = some v4 ∧ w.cell? ⟨g, 5, none⟩ = some v5 := of6 h

/-- What Ask answers. -/
def AskedK (w : World) (k a c : Int) (e : Ending) (w' : World) : Prop :=
  e = .returned (.tuple #[.agg #[.int .i64 (askN k a c k), .int .i64 (askN k a c a), .int .i64 (askN k a c c), .slice none 0 0, .slice none 0 0, .slice none 0 0], .int .i64 (askE k a c)]) ∧ Below w.heap.size w w'
set_option maxHeartbeats 1000000 in
theorem refAsk10_any (pu pk pa pc pe : Int) (Pt : Option Addr) (pn pm : Nat) (w : World) : Calls Try.prog 8 #[.agg #[.int .i64 pu, .int .i64 pk, .int .i64 pa, .int .i64 pc, .int .i64 pe, .slice Pt pn pm]] w (AskedK w pk pa pc) := by
  have HP : Hid (∀ E k' a' c', askE pk pa pc = E → askN pk pa pc pk = k' → askN pk pa pc pa = a' → askN pk pa pc pc = c' → ∀ w', Below w.heap.size w w' → AskedK w pk pa pc (.returned (.tuple #[.agg #[.int .i64 k', .int .i64 a', .int .i64 c', .slice none 0 0, .slice none 0 0, .slice none 0 0], .int .i64 E])) w') :=
    Lib.hid (fun E k' a' c' e1 e2 e3 e4 w' hb => ⟨by rw [e1, e2, e3, e4], hb⟩)
  have bel2 := (bel_alloc w (.cells #[.int .i64 pu, .int .i64 pk, .int .i64 pa, .int .i64 pc, .int .i64 pe, .slice Pt pn pm] 24)).alloc (by simp) (.cells #[.int .i64 0, .int .i64 0, .int .i64 0, .slice none 0 0, .slice none 0 0, .slice none 0 0] 29)
  by_cases h1 : pk < 1
  · have HE : Hid (askE pk pa pc = 28) := Lib.hid (by unfold askE; rw [if_pos (.inl h1)])
    have HN : Hid (∀ x, askN pk pa pc x = 0) := Lib.hid (fun x => by unfold askN; rw [HE.out]; rfl)
    go_enter Try.func8, Try.ntmps8
    go_wp2
    (try simp only [Exit.inBlock, Exit.then])
    refine bodyPost_ret (v := .tuple #[.agg #[.int .i64 0, .int .i64 0, .int .i64 0, .slice none 0 0, .slice none 0 0, .slice none 0 0], .int .i64 28]) (by simp [results, Try.results8, go_sem, *]) rfl ?_
    exact HP.out _ _ _ _ HE.out (HN.out _) (HN.out _) (HN.out _) _ bel2
  by_cases h2 : pk > 4
  · have HE : Hid (askE pk pa pc = 28) := Lib.hid (by unfold askE; rw [if_pos (.inr h2)])
    have HN : Hid (∀ x, askN pk pa pc x = 0) := Lib.hid (fun x => by unfold askN; rw [HE.out]; rfl)
    go_enter Try.func8, Try.ntmps8
    go_wp2
    (try simp only [Exit.inBlock, Exit.then])
    refine bodyPost_ret (v := .tuple #[.agg #[.int .i64 0, .int .i64 0, .int .i64 0, .slice none 0 0, .slice none 0 0, .slice none 0 0], .int .i64 28]) (by simp [results, Try.results8, go_sem, *]) rfl ?_
    exact HP.out _ _ _ _ HE.out (HN.out _) (HN.out _) (HN.out _) _ bel2
  obtain ⟨E, hE⟩ : ∃ E, chkQ (reqK pk pa pc) = E := ⟨_, rfl⟩
  have HE : Hid (askE pk pa pc = E) := Lib.hid (by unfold askE; rw [if_neg (by omega)]; exact hE)
  have HC : Hid (∀ W : World, Calls Try.prog 18 #[.agg #[.int .i64 pk, .int .i64 pa, .int .i64 pc, .slice none 0 0, .slice none 0 0, .slice none 0 0]] W fun e w' => e = .returned (.int .i64 E) ∧ Below W.heap.size W w') := Lib.hid fun W =>
    (refCheck_any (reqK pk pa pc) none none none 0 0 0 0 0 0 W (asked_none _ _ _ _ _)).mono fun e w' h => ⟨by rw [h.1, chk_req, hE], h.2⟩
  clear hE
  have t3 := Box3.new w (.cells #[.int .i64 pu, .int .i64 pk, .int .i64 pa, .int .i64 pc, .int .i64 pe, .slice Pt pn pm] 24) (.cells #[.int .i64 0, .int .i64 0, .int .i64 0, .slice none 0 0, .slice none 0 0, .slice none 0 0] 29) (.cells #[.int .i64 pk, .int .i64 pa, .int .i64 pc, .slice none 0 0, .slice none 0 0, .slice none 0 0] 29)
  have hsu : (w.alloc (.cells #[.int .i64 pu, .int .i64 pk, .int .i64 pa, .int .i64 pc, .int .i64 pe, .slice Pt pn pm] 24)).heap.size = w.heap.size + 1 := by simp
  by_cases h0 : E = 0
  · subst h0
    have HN : Hid (∀ x, askN pk pa pc x = x) := Lib.hid (fun x => by unfold askN; rw [HE.out]; rfl)
    go_enter Try.func8, Try.ntmps8
    go_wp2_with fail
    refine (HC.out _).mono ?_
    rintro e w1 ⟨rfl, b1⟩
    have t4 := t3.below b1
    obtain ⟨c0, c1, c2, c3, c4, c5⟩ := of6 t4.2.1
    obtain ⟨d0, d1, d2, d3, d4, d5⟩ := of6 t4.2.2.1
    have hfz := fun i => block_frozen _ _ i _ _ t4.2.1
    have P4 := Lib.hid (below_put6 t4.bel (g := w.heap.size + 1) (by omega) (.int .i64 pk) (.int .i64 pa) (.int .i64 pc) (.slice none 0 0) (.slice none 0 0) (.slice none 0 0))
    have P5 := Lib.hid (put6_heap t4.2.1 (.int .i64 pk) (.int .i64 pa) (.int .i64 pc) (.slice none 0 0) (.slice none 0 0) (.slice none 0 0))
    clear t3 t4 b1 bel2
    go_wp2
    (try simp only [Exit.inBlock, Exit.then])
    show bodyPost _ _ _ _ _ (put6 w1 (w.heap.size + 1) (.int .i64 pk) (.int .i64 pa) (.int .i64 pc) (.slice none 0 0) (.slice none 0 0) (.slice none 0 0))
    generalize put6 w1 (w.heap.size + 1) (.int .i64 pk) (.int .i64 pa) (.int .i64 pc) (.slice none 0 0) (.slice none 0 0) (.slice none 0 0) = w6 at *
    clear c0 c1 c2 c3 c4 c5 hfz
    obtain ⟨g0, g1, g2, g3, g4, g5⟩ := of6 P5.out
    refine bodyPost_ret (v := .tuple #[.agg #[.int .i64 pk, .int .i64 pa, .int .i64 pc, .slice none 0 0, .slice none 0 0, .slice none 0 0], .int .i64 0]) (by simp [results, Try.results8, go_sem, g0, g1, g2, g3, g4, g5]) rfl ?_
    exact HP.out _ _ _ _ HE.out (HN.out _) (HN.out _) (HN.out _) _ P4.out
  · have HN : Hid (∀ x, askN pk pa pc x = 0) := Lib.hid (fun x => by unfold askN; rw [HE.out, if_neg h0])
    have e0 : (E == 0) = false := beq_false_of_ne h0
    have e0' : (E != 0) = true := by simpa using h0
    clear h0
    go_enter Try.func8, Try.ntmps8
    go_wp2_with fail
    refine (HC.out _).mono ?_
    rintro e w1 ⟨rfl, b1⟩
    have t4 := t3.below b1
    obtain ⟨c0, c1, c2, c3, c4, c5⟩ := of6 t4.2.1
    have hfz := fun i => block_frozen _ _ i _ _ t4.2.1
    have P4 := Lib.hid (below_put6 t4.bel (g := w.heap.size + 1) (by omega) (.int .i64 0) (.int .i64 0) (.int .i64 0) (.slice none 0 0) (.slice none 0 0) (.slice none 0 0))
    have P5 := Lib.hid (put6_heap t4.2.1 (.int .i64 0) (.int .i64 0) (.int .i64 0) (.slice none 0 0) (.slice none 0 0) (.slice none 0 0))
    clear t3 t4 b1 bel2
    go_wp2
    (try simp only [Exit.inBlock, Exit.then])
    show bodyPost _ _ _ _ _ (put6 w1 (w.heap.size + 1) (.int .i64 0) (.int .i64 0) (.int .i64 0) (.slice none 0 0) (.slice none 0 0) (.slice none 0 0))
    generalize put6 w1 (w.heap.size + 1) (.int .i64 0) (.int .i64 0) (.int .i64 0) (.slice none 0 0) (.slice none 0 0) (.slice none 0 0) = w6 at *
    clear c0 c1 c2 c3 c4 c5 hfz
    obtain ⟨g0, g1, g2, g3, g4, g5⟩ := of6 P5.out
    refine bodyPost_ret (v := .tuple #[.agg #[.int .i64 0, .int .i64 0, .int .i64 0, .slice none 0 0, .slice none 0 0, .slice none 0 0], .int .i64 E]) (by simp [results, Try.results8, go_sem, g0, g1, g2, g3, g4, g5]) rfl ?_
    exact HP.out _ _ _ _ HE.out (HN.out _) (HN.out _) (HN.out _) _ P4.out
end Go.Proofs.Ytcmbdhmhkfhjfaa
namespace Go.Proofs.Ytcmbdhmhkfhjfaa
open Go.RowKit
set_option linter.unusedVariables false
/-- A tag is boxed in one step. -/
def bxTag (v : Value) : Sem Value := Instr.box 49 v
theorem bxTag_fold (v : Value) : Instr.box 49 v = bxTag v := rfl
theorem bxTag_run (w : World) (t : Tg) : (bxTag (tgV t)).run Try.prog w = .ok (.pointer (some ⟨w.heap.size, 0, none⟩)) (w.alloc (.cells (tgC t).toArray 49)) := by
  obtain ⟨nm, un, ki, ad, ev, we, sg, sw, mu, di, aa, de, qu, ul, uh, la, lo, hi, hy⟩ := t
  unfold bxTag tgV tgC
  simp [go_sem]
attribute [local go_sem ↓] bxTag_fold
attribute [local go_sem] bxTag_run


theorem joinB_iff (pu pk pa pc pe : Int) (tg : List Int) (t : Tg) : joinB ⟨pu, pk, pa, pc, pe, tg⟩ t = true ↔ pu = t.un ∧ pe = t.ev ∧ pk = t.ki ∧ t.ad - 8 ≤ pa + pc ∧ cntJ ⟨pu, pk, pa, pc, pe, tg⟩ t ≤ mostK t.ki := decide_eq_true_iff
theorem joinB_no {pu pk pa pc pe : Int} {tg : List Int} {t : Tg} (h : ¬ (pu = t.un ∧ pe = t.ev ∧ pk = t.ki ∧ t.ad - 8 ≤ pa + pc ∧ cntJ ⟨pu, pk, pa, pc, pe, tg⟩ t ≤ mostK t.ki)) : joinB ⟨pu, pk, pa, pc, pe, tg⟩ t = false := decide_eq_false h
end Go.Proofs.Ytcmbdhmhkfhjfaa
namespace Go.Proofs.Ytcmbdhmhkfhjfaa
open Go.RowKit
set_option linter.unusedVariables false

theorem nearest_pos (a b : Int) (h0 : 0 ≤ a) (ha : a ≤ 4294967295000000) (hb : 1 ≤ b) (hb2 : b ≤ 1000000) (w : World) : Calls Try.prog 59 #[.int .i64 a, .int .i64 b] w fun e w' => e = .returned (.int .i64 (near a b)) ∧ w' = w := by
  have hn : Hid (near a b = (2 * a + b) / (2 * b)) := Lib.hid (by unfold near; rw [if_neg (by omega)])
  have hq : Hid ((2 * a + b).tdiv (2 * b) = (2 * a + b) / (2 * b)) := Lib.hid (Int.tdiv_eq_ediv_of_nonneg (by omega))
  have hlt : ¬ a < 0 := by omega
  go_enter Try.func59, Try.ntmps59
  go_wp2
  go_ret
  exact ⟨by rw [hn.out]; rfl, rfl⟩
theorem nearest_any (a b : Int) (ha : -4294967295000000 ≤ a ∧ a ≤ 4294967295000000) (hb : 1 ≤ b) (hb2 : b ≤ 1000000) (w : World) : Calls Try.prog 59 #[.int .i64 a, .int .i64 b] w fun e w' => e = .returned (.int .i64 (near a b)) ∧ w' = w := by
  by_cases hlt : a < 0
  · have hn : Hid (near a b = -near (-a) b) := Lib.hid (by rw [near_neg a b (by omega), Int.neg_neg])
    have hbd := near_bound (a := -a) (b := b) (by omega) (by omega)
    go_enter Try.func59, Try.ntmps59
    go_wp2_with (go_at_call 59; refine (nearest_pos (-a) b (by omega) (by omega) hb hb2 _).mono ?_; rintro e w' ⟨rfl, rfl⟩)
    go_ret
    exact ⟨by rw [hn.out]; rfl, rfl⟩
  · exact nearest_pos a b (by omega) ha.2 hb hb2 w
set_option maxHeartbeats 1000000 in
theorem Value_any (wd sg sw : Bool) (mu di ad : Int) (n : Int) (w : World) : Calls Try.prog 32 #[.agg #[.bool wd, .bool sg, .bool sw, .int .i64 mu, .int .i64 di, .int .i64 ad], .int .i64 n] w fun e w' => e = .returned (.tuple #[.int .i64 (valN (⟨wd, sg, sw, mu, di, ad⟩ : Sc) n), .int .i64 (valE (⟨wd, sg, sw, mu, di, ad⟩ : Sc) n)]) ∧ Below w.heap.size w w' := by
  have bx0 := Bx.new w (.cells #[.bool wd, .bool sg, .bool sw, .int .i64 mu, .int .i64 di, .int .i64 ad] 43)
  by_cases hok : Sc.Ok (⟨wd, sg, sw, mu, di, ad⟩ : Sc)
  · have HC := Lib.hid (chkS_yes hok)
    obtain ⟨g0, g1, g2, g3, g4⟩ := hok
    simp only at g0 g1 g2 g3
    by_cases hin : -2147483648 ≤ n ∧ n ≤ 4294967295
    · have HE : Hid (valE (⟨wd, sg, sw, mu, di, ad⟩ : Sc) n = 0) := Lib.hid (by unfold valE; rw [if_pos ⟨g0, g1, g2, g3, g4⟩, if_pos hin])
      have HV : Hid (valN (⟨wd, sg, sw, mu, di, ad⟩ : Sc) n = cut (near (n * mu) di + ad)) := Lib.hid (by unfold valN; rw [if_pos HE.out])
      have HB : Hid (liesB n (-2147483648) 4294967295 = true) := Lib.hid (decide_eq_true hin)
      have pb := prod_bound hin g1
      obtain ⟨p, hp⟩ : ∃ p, Hid (n * mu = p) := ⟨_, Lib.hid rfl⟩
      rw [hp.out] at pb HV
      have ep := hp.out
      have nb := near_bound (a := p) (b := di) (by omega) pb
      have hw1 : IntKind.i64.wrap (n * mu) = p := by rw [ep]; exact IntWalk.i64_in _ (by omega)
      clear g0
      go_enter Try.func32, Try.ntmps32
      go_wp2_with fail
      refine (Check6_any wd sg sw mu di ad _).mono ?_
      rintro e w1 ⟨rfl, b1⟩
      rw [HC.out]
      have bx1 := bx0.below b1
      obtain ⟨d0, d1, d2, d3, d4, d5⟩ := bx1.six
      have bel1 := bx1.2
      go_wp2_with fail
      refine (lies_at (by omega) HB _).mono ?_
      rintro e w2 ⟨rfl, rfl⟩
      go_wp2
      go_quiet ((go_at_call 59; refine Calls.quiet_of_same (nearest_any p di pb (by omega) (by omega) _)))
      go_wp2_with fail
      refine (bring_any _ _ _ _).mono ?_
      rintro e w3 ⟨rfl, rfl⟩
      go_wp2
      go_ret2
      exact ⟨by rw [HV.out, HE.out]; rfl, below_drewN bel1 _⟩
    · have HE : Hid (valE (⟨wd, sg, sw, mu, di, ad⟩ : Sc) n = 3) := Lib.hid (by unfold valE; rw [if_pos ⟨g0, g1, g2, g3, g4⟩, if_neg hin])
      have HV : Hid (valN (⟨wd, sg, sw, mu, di, ad⟩ : Sc) n = 0) := Lib.hid (by unfold valN; rw [if_neg (by rw [HE.out]; omega)])
      have HB : Hid (liesB n (-2147483648) 4294967295 = false) := Lib.hid (decide_eq_false hin)
      clear hin
      go_enter Try.func32, Try.ntmps32
      go_wp2_with fail
      refine (Check6_any wd sg sw mu di ad _).mono ?_
      rintro e w1 ⟨rfl, b1⟩
      rw [HC.out]
      have bx1 := bx0.below b1
      have bel1 := bx1.2
      go_wp2_with fail
      refine (lies_at (by omega) HB _).mono ?_
      rintro e w2 ⟨rfl, rfl⟩
      go_wp2
      go_ret2
      exact ⟨by rw [HV.out, HE.out]; rfl, bel1⟩
  · have HC := Lib.hid (chkS_no hok)
    have HE : Hid (valE (⟨wd, sg, sw, mu, di, ad⟩ : Sc) n = 25) := Lib.hid (by unfold valE; rw [if_neg hok])
    have HV : Hid (valN (⟨wd, sg, sw, mu, di, ad⟩ : Sc) n = 0) := Lib.hid (by unfold valN; rw [if_neg (by rw [HE.out]; omega)])
    clear hok
    go_enter Try.func32, Try.ntmps32
    go_wp2_with fail
    refine (Check6_any wd sg sw mu di ad _).mono ?_
    rintro e w1 ⟨rfl, b1⟩
    rw [HC.out]
    have bel1 := (bx0.below b1).2
    go_wp2
    go_ret2
    exact ⟨by rw [HV.out, HE.out]; rfl, bel1⟩

end Go.Proofs.Ytcmbdhmhkfhjfaa
namespace Go.Proofs.Ytcmbdhmhkfhjfaa
open Go.RowKit
set_option linter.unusedVariables false

theorem count_any (wd sg sw : Bool) (mu di ad : Int) (w : World) : Calls Try.prog 54 #[.agg #[.bool wd, .bool sg, .bool sw, .int .i64 mu, .int .i64 di, .int .i64 ad]] w fun e w' => e = .returned (.int .i64 (cntS (⟨wd, sg, sw, mu, di, ad⟩ : Sc) : Nat)) ∧ Below w.heap.size w w' := by
  have bel := bel_alloc w (.cells #[.bool wd, .bool sg, .bool sw, .int .i64 mu, .int .i64 di, .int .i64 ad] 43)
  cases wd
  all_goals
    go_enter Try.func54, Try.ntmps54
    go_wp2
    go_ret
    exact ⟨rfl, bel⟩
theorem span_any (wd sg sw : Bool) (mu di ad : Int) (w : World) : Calls Try.prog 57 #[.agg #[.bool wd, .bool sg, .bool sw, .int .i64 mu, .int .i64 di, .int .i64 ad]] w fun e w' => e = .returned (.int .i64 (many6 (⟨wd, sg, sw, mu, di, ad⟩ : Sc))) ∧ Below w.heap.size w w' := by
  have bx := Bx.new w (.cells #[.bool wd, .bool sg, .bool sw, .int .i64 mu, .int .i64 di, .int .i64 ad] 43)
  cases wd
  all_goals
    go_enter Try.func57, Try.ntmps57
    go_wp2_with fail
    refine (count_any _ _ _ _ _ _ _).mono ?_
    rintro e w1 ⟨rfl, b1⟩
    have bel := (bx.below b1).2
    simp only [cntS, if_true, Bool.false_eq_true, if_false]
    go_wp2
    go_ret
    exact ⟨rfl, bel⟩
theorem lowest_any (wd sg sw : Bool) (mu di ad : Int) (w : World) : Calls Try.prog 71 #[.agg #[.bool wd, .bool sg, .bool sw, .int .i64 mu, .int .i64 di, .int .i64 ad]] w fun e w' => e = .returned (.int .i64 (lowS (⟨wd, sg, sw, mu, di, ad⟩ : Sc))) ∧ Below w.heap.size w w' := by
  have bx := Bx.new w (.cells #[.bool wd, .bool sg, .bool sw, .int .i64 mu, .int .i64 di, .int .i64 ad] 43)
  cases sg
  · have bel := bx.2
    go_enter Try.func71, Try.ntmps71
    go_wp2
    go_ret
    exact ⟨rfl, bel⟩
  · cases wd
    all_goals
      go_enter Try.func71, Try.ntmps71
      go_wp2_with fail
      refine (span_any _ _ _ _ _ _ _).mono ?_
      rintro e w1 ⟨rfl, b1⟩
      have bel := (bx.below b1).2
      simp only [many6, if_true, Bool.false_eq_true, if_false]
      go_wp2
      go_ret
      exact ⟨rfl, bel⟩
theorem low_bound (wd sg sw : Bool) (mu di ad : Int) : -2147483648 ≤ lowS (⟨wd, sg, sw, mu, di, ad⟩ : Sc) ∧ lowS (⟨wd, sg, sw, mu, di, ad⟩ : Sc) ≤ 0 ∧ 65536 ≤ many6 (⟨wd, sg, sw, mu, di, ad⟩ : Sc) ∧ many6 (⟨wd, sg, sw, mu, di, ad⟩ : Sc) ≤ 4294967296 ∧ -lowS (⟨wd, sg, sw, mu, di, ad⟩ : Sc) ≤ many6 (⟨wd, sg, sw, mu, di, ad⟩ : Sc) := by
  cases wd <;> cases sg <;> simp [lowS, many6]
set_option maxHeartbeats 1000000 in
theorem highest_any (wd sg sw : Bool) (mu di ad : Int) (w : World) : Calls Try.prog 56 #[.agg #[.bool wd, .bool sg, .bool sw, .int .i64 mu, .int .i64 di, .int .i64 ad]] w fun e w' => e = .returned (.int .i64 (lowS (⟨wd, sg, sw, mu, di, ad⟩ : Sc) + many6 (⟨wd, sg, sw, mu, di, ad⟩ : Sc) - 1)) ∧ Below w.heap.size w w' := by
  have hx0 := Bx.new w (.cells #[.bool wd, .bool sg, .bool sw, .int .i64 mu, .int .i64 di, .int .i64 ad] 43)
  have hb := low_bound wd sg sw mu di ad
  obtain ⟨l, hl⟩ : ∃ l, Hid (lowS (⟨wd, sg, sw, mu, di, ad⟩ : Sc) = l) := ⟨_, Lib.hid rfl⟩
  obtain ⟨m, hm⟩ : ∃ m, Hid (many6 (⟨wd, sg, sw, mu, di, ad⟩ : Sc) = m) := ⟨_, Lib.hid rfl⟩
  rw [hl.out, hm.out] at hb ⊢
  have e1 : IntKind.i64.wrap (l + m) = l + m := IntWalk.i64_in _ (by omega)
  have e2 : IntKind.i64.wrap (l + m - 1) = l + m - 1 := IntWalk.i64_in _ (by omega)
  go_enter Try.func56, Try.ntmps56
  go_wp2_with fail
  go_region_held3 (fun w' => Bx w w.heap.size (.cells #[.bool wd, .bool sg, .bool sw, .int .i64 mu, .int .i64 di, .int .i64 ad] 43 (0, 0)) w' ∧ w'.cell? ⟨w.heap.size, 0, none⟩ = some (.bool wd) ∧ w'.cell? ⟨w.heap.size, 1, none⟩ = some (.bool sg) ∧ w'.cell? ⟨w.heap.size, 2, none⟩ = some (.bool sw) ∧ w'.cell? ⟨w.heap.size, 3, none⟩ = some (.int .i64 mu) ∧ w'.cell? ⟨w.heap.size, 4, none⟩ = some (.int .i64 di) ∧ w'.cell? ⟨w.heap.size, 5, none⟩ = some (.int .i64 ad))
    (with_reducible first
      | exact ⟨hx0.drew, hx0.drew.six⟩
      | exact ⟨h9, h9.six⟩
      | exact ⟨h10, h10.six⟩)
    (first
      | (go_at_call 71; refine (lowest_any wd sg sw mu di ad _).mono ?_; rintro e w1 ⟨rfl, b1⟩; rw [hl.out]; have h9 := hx0.drew.below b1)
      | (go_at_call 57; refine (span_any wd sg sw mu di ad _).mono ?_; rintro e w2 ⟨rfl, b2⟩; rw [hm.out]; have h10 := h9.below b2))
  have bel := h10.2
  go_wp2
  go_ret
  exact ⟨rfl, bel⟩
/-- How many6 bits of a number stand below those of a word. -/
def shfS (wd sw : Bool) (k : Nat) : Nat := if sw then 16 * k else if wd then 16 * (1 - k) else 0
theorem shift_any (wd sg sw : Bool) (mu di ad : Int) (k : Nat) (hk : k < cntS (⟨wd, sg, sw, mu, di, ad⟩ : Sc)) (w : World) : Calls Try.prog 55 #[.agg #[.bool wd, .bool sg, .bool sw, .int .i64 mu, .int .i64 di, .int .i64 ad], .int .i64 k] w fun e w' => e = .returned (.int .i64 (shfS wd sw k : Nat)) ∧ Below w.heap.size w w' := by
  have bx := Bx.new w (.cells #[.bool wd, .bool sg, .bool sw, .int .i64 mu, .int .i64 di, .int .i64 ad] 43)
  have hk2 : k < 2 := by cases wd <;> simp [cntS] at hk <;> omega
  cases sw
  · have hk1 : wd = false → k = 0 := fun h => by subst h; simp [cntS] at hk; omega
    obtain ⟨c, hc⟩ : ∃ c, Hid (cntS ⟨wd, sg, false, mu, di, ad⟩ = c) := ⟨_, Lib.hid rfl⟩
    have hs : Hid (shfS wd false k = 16 * (c - 1 - k) ∧ k < c ∧ c ≤ 2) := Lib.hid (by rw [← hc.out]; cases wd <;> simp [shfS, cntS, hk1] <;> omega)
    clear hk hk1
    have h1 := hs.out.2
    go_enter Try.func55, Try.ntmps55
    go_wp2_with fail
    refine (count_any _ _ _ _ _ _ _).mono ?_
    rintro e w1 ⟨rfl, b1⟩
    rw [hc.out]
    have bel := (bx.below b1).2
    go_wp2
    go_ret
    refine ⟨?_, bel⟩
    rw [hs.out.1]
    show Ending.returned (Value.int .i64 _) = Ending.returned (Value.int .i64 _)
    congr 2
    omega
  · have hs : Hid (shfS wd true k = 16 * k) := Lib.hid (if_pos rfl)
    have bel := bx.2
    clear hk
    go_enter Try.func55, Try.ntmps55
    go_wp2
    go_ret
    refine ⟨?_, bel⟩
    rw [hs.out]
    rfl
end Go.Proofs.Ytcmbdhmhkfhjfaa
namespace Go.Proofs.Ytcmbdhmhkfhjfaa
open Go.RowKit
set_option linter.unusedVariables false

theorem or_far (x y : Nat) (hy : y < 65536) : (x * 65536) ||| y = x * 65536 + y := by
  have h := Nat.two_pow_add_eq_or_of_lt (i := 16) (b := y) (by omega) x
  rw [Nat.mul_comm x 65536]
  exact h.symm
theorem or_words (x y : Int) (hx : 0 ≤ x ∧ x < 65536) (hy : 0 ≤ y ∧ y < 65536) : bits .or .i64 (x * 65536) y = x * 65536 + y ∧ bits .or .i64 y (x * 65536) = x * 65536 + y := by
  obtain ⟨a, rfl⟩ := Int.eq_ofNat_of_zero_le hx.1
  obtain ⟨b, rfl⟩ := Int.eq_ofNat_of_zero_le hy.1
  have e1 : (a : Int) * 65536 = ((a * 65536 : Nat) : Int) := by omega
  have f1 : (BitVec.ofInt 64 ((a * 65536 : Nat) : Int)).toNat = a * 65536 := by rw [BitVec.ofInt_natCast, BitVec.toNat_ofNat]; exact Nat.mod_eq_of_lt (by omega)
  have f2 : (BitVec.ofInt 64 ((b : Nat) : Int)).toNat = b := by rw [BitVec.ofInt_natCast, BitVec.toNat_ofNat]; exact Nat.mod_eq_of_lt (by omega)
  constructor
  · show IntKind.i64.wrap ((BitVec.ofInt 64 ((a : Int) * 65536) ||| BitVec.ofInt 64 (b : Int)).toNat : Int) = _
    rw [e1, BitVec.toNat_or, f1, f2, or_far a b (by omega)]
    exact IntWalk.i64_in _ (by omega)
  · show IntKind.i64.wrap ((BitVec.ofInt 64 (b : Int) ||| BitVec.ofInt 64 ((a : Int) * 65536)).toNat : Int) = _
    rw [e1, BitVec.toNat_or, f1, f2, Nat.or_comm, or_far a b (by omega)]
    exact IntWalk.i64_in _ (by omega)
theorem or_zero (x : Int) (hx : 0 ≤ x ∧ x < 4294967296) : bits .or .i64 0 x = x := by
  obtain ⟨a, rfl⟩ := Int.eq_ofNat_of_zero_le hx.1
  have f1 : (BitVec.ofInt 64 ((a : Nat) : Int)).toNat = a := by rw [BitVec.ofInt_natCast, BitVec.toNat_ofNat]; exact Nat.mod_eq_of_lt (by omega)
  have f0 : (BitVec.ofInt 64 (0 : Int)).toNat = 0 := rfl
  show IntKind.i64.wrap ((BitVec.ofInt 64 (0 : Int) ||| BitVec.ofInt 64 (a : Int)).toNat : Int) = _
  rw [BitVec.toNat_or, f1, f0, Nat.zero_or]
  exact IntWalk.i64_in _ (by omega)

theorem nth_wf (xs : List Int) (h : ∀ x ∈ xs, (Lit.int .u16 x).wf = true) (i : Nat) : 0 ≤ nth xs i ∧ nth xs i < 65536 := by
  by_cases hi : i < xs.length
  · exact wf_u16 (h _ (nth_mem xs i hi))
  · simp [nth, List.getD_eq_getElem?_getD, List.getElem?_eq_none (Nat.le_of_not_lt hi)]
/-- What Raw has gathered ahead of a word. -/
def accS (wd sw : Bool) (x y : Int) (k : Nat) : Int := if k = 0 then 0 else if wd then (if sw then (if k = 1 then x else y * 65536 + x) else (if k = 1 then x * 65536 else x * 65536 + y)) else x

theorem acc_step (wd sg sw : Bool) (mu di ad : Int) (x y : Int) (hx : 0 ≤ x ∧ x < 65536) (hy : 0 ≤ y ∧ y < 65536) (k : Nat) (hk : k < cntS (⟨wd, sg, sw, mu, di, ad⟩ : Sc)) (hsw : sw = true → wd = true) (z : Int) (hz : z = if k = 0 then x else y) :
    bits .or .i64 (accS wd sw x y k) (IntKind.i64.wrap (z * 2 ^ shfS wd sw k)) = accS wd sw x y (k + 1) := by
  have hk2 : k = 0 ∨ (k = 1 ∧ wd = true) := by cases wd <;> simp [cntS] at hk <;> simp <;> omega
  have w0 : ∀ v : Int, 0 ≤ v → v < 4294967296 → IntKind.i64.wrap v = v := fun v h1 h2 => IntWalk.i64_in _ (by omega)
  rcases hk2 with rfl | ⟨rfl, rfl⟩
  · have e0 : z = x := hz
    subst e0
    cases wd
    · cases sw
      · simp only [accS, shfS, if_true, Bool.false_eq_true, if_false, Nat.zero_add, Int.pow_zero, Int.mul_one, Nat.one_ne_zero]
        rw [w0 z hx.1 (by omega), or_zero z (by omega)]
      · cases hsw rfl
    · cases sw
      · simp only [accS, shfS, if_true, Bool.false_eq_true, if_false, Nat.zero_add, Nat.one_ne_zero]
        rw [show (2 : Int) ^ (16 * (1 - 0)) = 65536 from rfl, w0 _ (by omega) (by omega), or_zero _ (by omega)]
      · simp only [accS, shfS, if_true, Nat.zero_add, Nat.mul_zero, Int.pow_zero, Int.mul_one, Nat.one_ne_zero, if_false]
        rw [w0 z hx.1 (by omega), or_zero z (by omega)]
  · have e0 : z = y := hz
    subst e0
    cases sw
    · simp only [accS, shfS, if_true, Bool.false_eq_true, if_false, Nat.one_ne_zero, show (1 + 1 : Nat) ≠ 0 by omega, show (1 + 1 : Nat) ≠ 1 by omega]
      rw [show (2 : Int) ^ (16 * (1 - 1)) = 1 from rfl, Int.mul_one, w0 z hy.1 (by omega), (or_words x z hx hy).1]
    · simp only [accS, shfS, if_true, if_false, Nat.one_ne_zero, show (1 + 1 : Nat) ≠ 0 by omega, show (1 + 1 : Nat) ≠ 1 by omega]
      rw [show (2 : Int) ^ (16 * 1) = 65536 from rfl, w0 _ (by omega) (by omega), (or_words z x hy hx).2]
set_option maxHeartbeats 1000000 in
theorem Raw_any (wd sg sw : Bool) (mu di ad : Int) (A : Option Addr) (n c : Nat) (xs : List Int) (w : World) (hr : Row .u16 w w.heap.size A xs) (hn : xs.length = n) (hb : n ≤ 1000000) : Calls Try.prog 31 #[.agg #[.bool wd, .bool sg, .bool sw, .int .i64 mu, .int .i64 di, .int .i64 ad], .slice A n c] w fun e w' => e = .returned (.tuple #[.int .i64 (rawN (⟨wd, sg, sw, mu, di, ad⟩ : Sc) xs), .int .i64 (rawE (⟨wd, sg, sw, mu, di, ad⟩ : Sc) xs)]) ∧ Below w.heap.size w w' := by
  have bx0 := Bx.new w (.cells #[.bool wd, .bool sg, .bool sw, .int .i64 mu, .int .i64 di, .int .i64 ad] 43)
  by_cases hok : Sc.Ok (⟨wd, sg, sw, mu, di, ad⟩ : Sc)
  · have HC := Lib.hid (chkS_yes hok)
    have HN := Lib.hid hn
    by_cases hlen : n = cntS (⟨wd, sg, sw, mu, di, ad⟩ : Sc)
    · have HE : Hid (rawE (⟨wd, sg, sw, mu, di, ad⟩ : Sc) xs = 0) := Lib.hid (by unfold rawE; rw [if_pos hok, if_pos (by rw [HN.out]; exact hlen)])
      have HR : Hid (rawN (⟨wd, sg, sw, mu, di, ad⟩ : Sc) xs = signS (⟨wd, sg, sw, mu, di, ad⟩ : Sc) (baseS (⟨wd, sg, sw, mu, di, ad⟩ : Sc) xs)) := Lib.hid (by unfold rawN; rw [if_pos HE.out])
      have hlb := low_bound wd sg sw mu di ad
      have hsw : sw = true → wd = true := hok.2.2.2.2
      have HK := Lib.hid hlen
      have hn2 : n ≤ 2 ∧ 1 ≤ n := by rw [hlen]; cases wd <;> simp [cntS]
      obtain ⟨X, hX⟩ : ∃ X, Hid (nth xs 0 = X) := ⟨_, Lib.hid rfl⟩
      obtain ⟨Y, hY⟩ : ∃ Y, Hid (nth xs 1 = Y) := ⟨_, Lib.hid rfl⟩
      have hXb : 0 ≤ X ∧ X < 65536 := by rw [← hX.out]; exact nth_wf xs hr.1 0
      have hYb : 0 ≤ Y ∧ Y < 65536 := by rw [← hY.out]; exact nth_wf xs hr.1 1
      have HA : Hid (baseS (⟨wd, sg, sw, mu, di, ad⟩ : Sc) xs = accS wd sw X Y n) := Lib.hid (by
        rw [← hX.out, ← hY.out, hlen]
        cases wd <;> cases sw <;> first | rfl | (cases hsw rfl))
      obtain ⟨B, hB⟩ : ∃ B, Hid (accS wd sw X Y n = B) := ⟨_, Lib.hid rfl⟩
      have hBb : 0 ≤ B ∧ B < 4294967296 := by
        rw [← hB.out, hlen]; cases wd <;> cases sw <;> simp [accS, cntS] <;> omega
      have HS := Lib.hid (fun k (hk : k < n) z hz => acc_step wd sg sw mu di ad X Y hXb hYb k (by rw [← HK.out]; exact hk) hsw z hz)
      rw [HA.out, hB.out] at HR
      obtain ⟨lo, hlo⟩ : ∃ l, Hid (lowS (⟨wd, sg, sw, mu, di, ad⟩ : Sc) = l) := ⟨_, Lib.hid rfl⟩
      obtain ⟨m, hm⟩ : ∃ m, Hid (many6 (⟨wd, sg, sw, mu, di, ad⟩ : Sc) = m) := ⟨_, Lib.hid rfl⟩
      rw [hlo.out, hm.out] at hlb
      have HR2 : Hid (rawN (⟨wd, sg, sw, mu, di, ad⟩ : Sc) xs = if lo + m - 1 < B then B - m else B) := Lib.hid (by rw [HR.out, signS, hlo.out, hm.out])
      have t0 : ((n : Int) != ((cntS (⟨wd, sg, sw, mu, di, ad⟩ : Sc) : Nat) : Int)) = false := by rw [← HK.out]; simp
      obtain ⟨r1, r2, r3, r4, r5⟩ := hlb
      obtain ⟨k0, hk0⟩ : ∃ k, Hid (cntS (⟨wd, sg, sw, mu, di, ad⟩ : Sc) = k) := ⟨_, Lib.hid rfl⟩
      rw [hk0.out] at t0
      clear hok hn hlen HR HA
      have HROW := Lib.hid hr
      clear hr
      go_enter Try.func31, Try.ntmps31
      go_wp2_with fail
      refine (Check6_any wd sg sw mu di ad _).mono ?_
      rintro e w1 ⟨rfl, b1⟩
      rw [HC.out]
      have bx1 := bx0.below b1
      obtain ⟨d0, d1, d2, d3, d4, d5⟩ := bx1.six
      go_wp2_with fail
      refine (count_any wd sg sw mu di ad _).mono ?_
      rintro e w2 ⟨rfl, b2⟩
      rw [hk0.out]
      have bx2 := bx1.below b2
      clear d0 d1 d2 d3 d4 d5 b1 b2 bx0 bx1
      go_wp2
      go_loopw [7, 8, 9, 22] (fun a _ _ i wr => ∃ k : Nat, k ≤ n ∧ i = .int .i64 k ∧ a = .int .i64 (accS wd sw X Y k) ∧ Bx w w.heap.size (.cells #[.bool wd, .bool sg, .bool sw, .int .i64 mu, .int .i64 di, .int .i64 ad] 43 (0, 0)) wr) (fun _ _ _ i _ => n - (intOf i).toNat)
      case atStart => exact ⟨0, by omega, rfl, rfl, bx2⟩
      case round =>
        clear bx2
        obtain ⟨k, hk, rfl, rfl, bx3⟩ := hrel
        obtain ⟨d0, d1, d2, d3, d4, d5⟩ := bx3.six
        by_cases hlt : k < n
        · obtain ⟨b, o, rfl, hb1, hc1⟩ := (HROW.out.below bx3.2).at_ (i := k) (by rw [HN.out]; exact hlt)
          have hz : nth xs k = if k = 0 then X else Y := by rw [← hX.out, ← hY.out]; rcases (show k = 0 ∨ k = 1 by omega) with rfl | rfl <;> rfl
          obtain ⟨z, hzz⟩ : ∃ z, Hid (nth xs k = z) := ⟨_, Lib.hid rfl⟩
          have zb : 0 ≤ z ∧ z < 65536 := by rw [← hzz.out]; exact nth_wf xs HROW.out.1 k
          have HST := Lib.hid (HS.out k hlt z (by rw [← hzz.out]; exact hz))
          rw [hzz.out] at hc1
          clear hz
          obtain ⟨q, hq⟩ : ∃ q, Hid (accS wd sw X Y k = q) := ⟨_, Lib.hid rfl⟩
          rw [hq.out]
          go_wp2_with fail
          refine (shift_any wd sg sw mu di ad k (by rw [← HK.out]; exact hlt) _).mono ?_
          rintro e w3 ⟨rfl, b3⟩
          have bx4 := bx3.below b3
          obtain ⟨sh, hsh⟩ : ∃ sh, Hid (shfS wd sw k = sh) := ⟨_, Lib.hid rfl⟩
          have hsb : sh < 64 := by
            rw [← hsh.out]; rcases (show k = 0 ∨ k = 1 by omega) with rfl | rfl <;> cases sw <;> cases wd <;> decide
          have hst := HST.out
          rw [hq.out, hsh.out] at hst
          rw [hsh.out]
          clear d0 d1 d2 d3 d4 d5 b3 bx3 hc1 hb1
          go_wp2
          go_roundw
          case rel => exact ⟨k + 1, by omega, by go_num, by rw [← hst]; rw [IntWalk.i64_left], bx4⟩
          case measure => simp [intOf]; omega
        · obtain rfl : k = n := by omega
          rw [hB.out]
          go_wp2_with fail
          refine (highest_any wd sg sw mu di ad _).mono ?_
          rintro e w4 ⟨rfl, b4⟩
          rw [hlo.out, hm.out]
          have bx4 := bx3.below b4
          obtain ⟨d0, d1, d2, d3, d4, d5⟩ := bx4.six
          by_cases hneg : lo + m - 1 < B
          · have HR3 : Hid (rawN (⟨wd, sg, sw, mu, di, ad⟩ : Sc) xs = B - m) := Lib.hid (by rw [HR2.out, if_pos hneg])
            have hneg2 : B > lo + m - 1 := hneg
            go_wp2_with fail
            refine (span_any wd sg sw mu di ad _).mono ?_
            rintro e w5 ⟨rfl, b5⟩
            rw [hm.out]
            have bel5 := (bx4.below b5).2
            go_wp2
            go_ret2
            exact ⟨by rw [HR3.out, HE.out]; rfl, bel5⟩
          · have HR3 : Hid (rawN (⟨wd, sg, sw, mu, di, ad⟩ : Sc) xs = B) := Lib.hid (by rw [HR2.out, if_neg hneg])
            have bel4 := bx4.2
            go_wp2
            go_ret2
            exact ⟨by rw [HR3.out, HE.out]; rfl, bel4⟩
    · have HE : Hid (rawE (⟨wd, sg, sw, mu, di, ad⟩ : Sc) xs = 22) := Lib.hid (by unfold rawE; rw [if_pos hok, if_neg (by rw [HN.out]; exact hlen)])
      have HR : Hid (rawN (⟨wd, sg, sw, mu, di, ad⟩ : Sc) xs = 0) := Lib.hid (by unfold rawN; rw [if_neg (by rw [HE.out]; omega)])
      obtain ⟨k, hk⟩ : ∃ k, Hid (cntS (⟨wd, sg, sw, mu, di, ad⟩ : Sc) = k) := ⟨_, Lib.hid rfl⟩
      rw [hk.out] at hlen
      have t0 : ((n : Int) != (k : Int)) = true := by simp; omega
      clear hok hn hr hlen
      go_enter Try.func31, Try.ntmps31
      go_wp2_with fail
      refine (Check6_any wd sg sw mu di ad _).mono ?_
      rintro e w1 ⟨rfl, b1⟩
      rw [HC.out]
      have bx1 := bx0.below b1
      obtain ⟨d0, d1, d2, d3, d4, d5⟩ := bx1.six
      go_wp2_with fail
      refine (count_any wd sg sw mu di ad _).mono ?_
      rintro e w2 ⟨rfl, b2⟩
      rw [hk.out]
      have bel2 := (bx1.below b2).2
      go_wp2
      go_ret2
      exact ⟨by rw [HR.out, HE.out]; rfl, bel2⟩
  · have HC := Lib.hid (chkS_no hok)
    have HE : Hid (rawE (⟨wd, sg, sw, mu, di, ad⟩ : Sc) xs = 25) := Lib.hid (by unfold rawE; rw [if_neg hok])
    have HR : Hid (rawN (⟨wd, sg, sw, mu, di, ad⟩ : Sc) xs = 0) := Lib.hid (by unfold rawN; rw [if_neg (by rw [HE.out]; omega)])
    clear hok hn hr
    go_enter Try.func31, Try.ntmps31
    go_wp2_with fail
    refine (Check6_any wd sg sw mu di ad _).mono ?_
    rintro e w1 ⟨rfl, b1⟩
    rw [HC.out]
    have bel1 := (bx0.below b1).2
    go_wp2
    go_ret2
    exact ⟨by rw [HR.out, HE.out]; rfl, bel1⟩
end Go.Proofs.Ytcmbdhmhkfhjfaa
namespace Go.Proofs.Ytcmbdhmhkfhjfaa
open Go.RowKit
set_option linter.unusedVariables false

end Go.Proofs.Ytcmbdhmhkfhjfaa
namespace Go.Proofs.Ytcmbdhmhkfhjfaa
open Go.RowKit
set_option linter.unusedVariables false

/-- Four stores, field by field. -/
def put4 (w : World) (g : Nat) (v0 v1 v2 v3 : Value) : World := (((w.setCell ⟨g, 0, none⟩ v0).setCell ⟨g, 1, none⟩ v1).setCell ⟨g, 2, none⟩ v2).setCell ⟨g, 3, none⟩ v3
theorem put4_heap {w : World} {g : Nat} {t : TypeId} {u0 u1 u2 u3 : Value} (h : w.heap[g]? = some (.cells #[u0, u1, u2, u3] t (0, 0))) (v0 v1 v2 v3 : Value) :
    (put4 w g v0 v1 v2 v3).heap[g]? = some (.cells #[v0, v1, v2, v3] t (0, 0)) := box_set (box_set (box_set (box_set h 0 v0) 1 v1) 2 v2) 3 v3
theorem below_put4 {B : Nat} {a w : World} {g : Nat} (h : Below B a w) (hg : B ≤ g) (v0 v1 v2 v3 : Value) : Below B a (put4 w g v0 v1 v2 v3) :=
  below_setCell (below_setCell (below_setCell (below_setCell h hg 0 v0) hg 1 v1) hg 2 v2) hg 3 v3
theorem cells4 {w : World} {g : Nat} {t : TypeId} {v0 v1 v2 v3 : Value} (h : w.heap[g]? = some (.cells #[v0, v1, v2, v3] t (0, 0))) :
    w.cell? ⟨g, 0, none⟩ = some v0 ∧ w.cell? ⟨g, 1, none⟩ = some v1 ∧ w.cell? ⟨g, 2, none⟩ = some v2 ∧ w.cell? ⟨g, 3, none⟩ = some v3 :=
  ⟨cell_of_row w g 0 _ _ _ h, cell_of_row w g 1 _ _ _ h, cell_of_row w g 2 _ _ _ h, cell_of_row w g 3 _ _ _ h⟩
theorem TB.put4 {w0 w : World} {B : Nat} {o1 : Obj} {t : TypeId} {u0 u1 u2 u3 : Value} (h : TB w0 B o1 (.cells #[u0, u1, u2, u3] t (0, 0)) w) (v0 v1 v2 v3 : Value) :
    (put4 w (B + 1) v0 v1 v2 v3).heap[B + 1]? = some (.cells #[v0, v1, v2, v3] t (0, 0)) ∧ Below B w0 (put4 w (B + 1) v0 v1 v2 v3) :=
  ⟨put4_heap h.box v0 v1 v2 v3, below_put4 h.bel (Nat.le_succ _) v0 v1 v2 v3⟩

/-- An answer and a number. -/
def RpGot (w : World) (r : Rep) (E : Int) (e : Ending) (w' : World) : Prop :=
  ∃ (Bo Bs Bf : Option Addr) (mo ms mf eo es ef : Nat), e = .returned (.tuple #[.agg #[.int .i64 r.x, .slice Bo mo eo, .slice Bs ms es, .slice Bf mf ef], .int .i64 E]) ∧ Repd w' w'.heap.size r Bo Bs Bf mo ms mf ∧ Below w.heap.size w w'
theorem RpGot.exc {w w' : World} {x err : Int} {e : Ending} (h : e = .returned (.tuple #[.agg #[.int .i64 x, .slice none 0 0, .slice none 0 0, .slice none 0 0], .int .i64 err])) (hb : Below w.heap.size w w') : RpGot w ⟨x, [], [], []⟩ err e w' :=
  ⟨none, none, none, 0, 0, 0, 0, 0, 0, h, Repd.zero _ _ x, hb⟩

/-- A right request has a code. -/
theorem chk_code {q : Req} (h : chkQ q = 0) : 0 < mm q.c := by
  unfold chkQ chk at h
  by_cases hm : mm q.c ≤ 0
  · rw [if_pos hm] at h; omega
  · omega
theorem mm_le (c : Int) (h : 0 < mm c) : 1 ≤ c ∧ c ≤ 20 := by rcases mm_pos h with h | h | h | h | h | h | h | h | h <;> omega

end Go.Proofs.Ytcmbdhmhkfhjfaa
namespace Go.Proofs.Ytcmbdhmhkfhjfaa
open Go.RowKit
set_option linter.unusedVariables false
theorem TB.below2 {w0 w w' : World} {B z : Nat} {o1 o2 : Obj} (h : TB w0 B o1 o2 w) (hb : Below z w w') (hz : B + 1 < z) : TB w0 B o1 o2 w' :=
  ⟨(hb.block B (by omega)).trans h.ret, (hb.block (B + 1) hz).trans h.box, h.bel.trans (hb.mono (by omega))⟩

end Go.Proofs.Ytcmbdhmhkfhjfaa
namespace Go.Proofs.Ytcmbdhmhkfhjfaa
open Go.RowKit
set_option linter.unusedVariables false
theorem TB.far {w0 w : World} {B g : Nat} {o1 o2 : Obj} (h : TB w0 B o1 o2 w) (hg : B + 1 < g) (i : Nat) (v : Value) : TB w0 B o1 o2 (w.setCell ⟨g, i, none⟩ v) :=
  ⟨(Below.heap_setCell w ⟨g, i, none⟩ v B (by simp; omega)).trans h.ret, (Below.heap_setCell w ⟨g, i, none⟩ v (B + 1) (by simp; omega)).trans h.box, below_setCell h.bel (by omega) i v⟩
theorem put4_other {w : World} {g j : Nat} (h : j ≠ g) (v0 v1 v2 v3 : Value) : (put4 w g v0 v1 v2 v3).heap[j]? = w.heap[j]? := by
  unfold put4
  rw [Below.heap_setCell _ ⟨g, 3, none⟩ v3 j (by simpa using h), Below.heap_setCell _ ⟨g, 2, none⟩ v2 j (by simpa using h), Below.heap_setCell _ ⟨g, 1, none⟩ v1 j (by simpa using h), Below.heap_setCell _ ⟨g, 0, none⟩ v0 j (by simpa using h)]

end Go.Proofs.Ytcmbdhmhkfhjfaa
namespace Go.Proofs.Ytcmbdhmhkfhjfaa
open Go.RowKit
set_option linter.unusedVariables false

end Go.Proofs.Ytcmbdhmhkfhjfaa
namespace Go.Proofs.Ytcmbdhmhkfhjfaa
open Go.RowKit
set_option linter.unusedVariables false

theorem Bx.four {w0 w : World} {g : Nat} {t : TypeId} {v0 v1 v2 v3 : Value} (h : Bx w0 g (.cells #[v0, v1, v2, v3] t (0, 0)) w) :
    w.cell? ⟨g, 0, none⟩ = some v0 ∧ w.cell? ⟨g, 1, none⟩ = some v1 ∧ w.cell? ⟨g, 2, none⟩ = some v2 ∧ w.cell? ⟨g, 3, none⟩ = some v3 :=
  ⟨cell_of_row w g 0 _ _ _ h.1, cell_of_row w g 1 _ _ _ h.1, cell_of_row w g 2 _ _ _ h.1, cell_of_row w g 3 _ _ _ h.1⟩

theorem TB.ten {w0 w : World} {B : Nat} {t t' : TypeId} {u0 u1 u2 u3 u4 u5 v0 v1 v2 v3 : Value} (h : TB w0 B (.cells #[u0, u1, u2, u3, u4, u5] t (0, 0)) (.cells #[v0, v1, v2, v3] t' (0, 0)) w) :
    w.cell? ⟨B, 0, none⟩ = some u0 ∧ w.cell? ⟨B, 1, none⟩ = some u1 ∧ w.cell? ⟨B, 2, none⟩ = some u2 ∧ w.cell? ⟨B, 3, none⟩ = some u3 ∧ w.cell? ⟨B, 4, none⟩ = some u4 ∧ w.cell? ⟨B, 5, none⟩ = some u5 ∧
    w.cell? ⟨B + 1, 0, none⟩ = some v0 ∧ w.cell? ⟨B + 1, 1, none⟩ = some v1 ∧ w.cell? ⟨B + 1, 2, none⟩ = some v2 ∧ w.cell? ⟨B + 1, 3, none⟩ = some v3 :=
  ⟨h.r6.1, h.r6.2.1, h.r6.2.2.1, h.r6.2.2.2.1, h.r6.2.2.2.2.1, h.r6.2.2.2.2.2.1, h.c4.1, h.c4.2.1, h.c4.2.2.1, h.c4.2.2.2.1⟩

/-- The lengths of the first k lists, each as 70000 at most. -/
def sumMin (fs : List (List Int)) : Nat → Nat
  | 0 => 0
  | k + 1 => sumMin fs k + min (nthF fs k).length 70000
theorem sumMin_le (fs : List (List Int)) (k j : Nat) : sumMin fs k ≤ sumMin fs (k + j) := by
  induction j with
  | zero => exact Nat.le_refl _
  | succ j ih => exact Nat.le_trans ih (by rw [Nat.add_succ, sumMin]; omega)
/-- Has an answer longer lists than a statement goes through? -/
def longR (mo ms mf : Nat) (fs : List (List Int)) : Bool := decide (70000 < mo ∨ 70000 < ms ∨ 1000 < mf ∨ 70000 < sumMin fs mf)
def longA (lo ls lp : Nat) : Bool := decide (70000 < lo ∨ 70000 < ls ∨ 70000 < lp)

end Go.Proofs.Ytcmbdhmhkfhjfaa
namespace Go.Proofs.Ytcmbdhmhkfhjfaa
open Go.RowKit
set_option linter.unusedVariables false

theorem FRow.at_ {w : World} {B : Nat} {A : Option Addr} {fs : List (List Int)} (h : FRow w B A fs) {i : Nat} (hi : i < fs.length) :
    ∃ b o Ai ci, A = some ⟨b, o, none⟩ ∧ b < B ∧ w.cell? ⟨b, o + i, none⟩ = some (.slice Ai (nthF fs i).length ci) ∧ Row .u16 w B Ai (nthF fs i) ∧ (nthF fs i).length ≤ ci := by
  obtain ⟨b, o, hA, hb, hc⟩ := h (by omega)
  obtain ⟨Ai, ci, h1, h2, h3⟩ := hc i hi
  exact ⟨b, o, Ai, ci, hA, hb, h1, h2, h3⟩
theorem FRow.drewN {w : World} {B : Nat} {A : Option Addr} {fs : List (List Int)} (h : FRow w B A fs) (n : Nat) : FRow (w.drewN n) B A fs := h

end Go.Proofs.Ytcmbdhmhkfhjfaa
namespace Go.Proofs.Ytcmbdhmhkfhjfaa
open Go.RowKit
set_option linter.unusedVariables false

theorem Own.front {k : IntKind} {e : TypeId} {w : World} {base n c m : Nat} {A : Option Addr} {xs : List Int} (h : Own k e w base (.slice A n c) xs) (hm : m ≤ xs.length) : Own k e w base (.slice A m c) (xs.take m) := by
  rcases h with ⟨h0, ⟨hv, hl⟩ | ⟨g, cap, cur, hv, h1, h2, h3, h4, h5, h6⟩⟩
  · have hx : xs = [] := List.eq_nil_of_length_eq_zero hl
    subst hx
    obtain rfl : m = 0 := by simpa using hm
    injection hv with a b c'
    subst a c'
    exact ⟨by simp, .inl ⟨rfl, rfl⟩⟩
  · injection hv with a b c'
    subst a c'
    refine ⟨by simp, .inr ⟨g, c, cur, ?_, h1, h2, ?_, h4, h5, ?_⟩⟩
    · simp [Nat.min_eq_left hm]
    · simp [Nat.min_eq_left hm]; omega
    · simp only [Nat.mul_one] at h6 ⊢
      have hlen : (xs.take m).length = m := by simp [Nat.min_eq_left hm]
      rw [hlen, List.map_take, ← h6, List.take_take, Nat.min_eq_left hm]

end Go.Proofs.Ytcmbdhmhkfhjfaa
namespace Go.Proofs.Ytcmbdhmhkfhjfaa
open Go.RowKit
set_option linter.unusedVariables false
theorem own_form {k : IntKind} {e : TypeId} {w : World} {base : Nat} {v : Value} {xs : List Int} (h : Own k e w base v xs) : ∃ A n c, v = .slice A n c := by
  rcases h.2 with ⟨rfl, _⟩ | ⟨g, cap, cur, rfl, _⟩
  · exact ⟨_, _, _, rfl⟩
  · exact ⟨_, _, _, rfl⟩

end Go.Proofs.Ytcmbdhmhkfhjfaa
namespace Go.Proofs.Ytcmbdhmhkfhjfaa
open Go.RowKit
set_option linter.unusedVariables false

/-- The first k files as bytes, each behind its head. -/
def fbytes (fs : List (List Int)) : Nat → List Int
  | 0 => []
  | k + 1 => fbytes fs k ++ [((1 + 2 * (nthF fs k).length : Nat) : Int), 6] ++ wbytes (nthF fs k)
theorem fbytes_length (fs : List (List Int)) (k : Nat) (h : ∀ i, i < k → (nthF fs i).length ≤ 127) : (fbytes fs k).length ≤ 256 * k := by
  induction k with
  | zero => simp [fbytes]
  | succ k ih =>
    rw [fbytes, List.length_append, List.length_append, wbytes_length]
    have h1 := ih (fun i hi => h i (by omega))
    have h2 := h k (by omega)
    simp only [List.length_cons, List.length_nil]
    omega

end Go.Proofs.Ytcmbdhmhkfhjfaa
namespace Go.Proofs.Ytcmbdhmhkfhjfaa
open Go.RowKit
set_option linter.unusedVariables false

theorem fbytes_wf (fs : List (List Int)) (k : Nat) (h : ∀ i, i < k → (nthF fs i).length ≤ 127) : ∀ x ∈ fbytes fs k, (Lit.int .u8 x).wf = true := by
  induction k with
  | zero => simp [fbytes]
  | succ k ih =>
    intro x hx
    rw [fbytes] at hx
    rcases List.mem_append.1 hx with hx | hx
    · rcases List.mem_append.1 hx with hx | hx
      · exact ih (fun i hi => h i (by omega)) x hx
      · simp only [List.mem_cons, List.not_mem_nil, or_false] at hx
        rcases hx with rfl | rfl
        · exact wf_byte _ (by have := h k (by omega); omega)
        · decide
    · exact wbytes_wf _ x hx

end Go.Proofs.Ytcmbdhmhkfhjfaa
namespace Go.Proofs.Ytcmbdhmhkfhjfaa
open Go.RowKit
set_option linter.unusedVariables false

/-- The form of an answer that is right and no exception. -/
def formR (q : Req) (r : Rep) : List Int :=
  if q.c = 1 ∨ q.c = 2 then q.c :: ((need r.on.length : Nat) : Int) :: pk r.on (need r.on.length)
  else if q.c = 3 ∨ q.c = 4 then q.c :: 2 * (r.set.length : Int) :: wbytes r.set
  else if q.c = 20 then 20 :: (((fbytes r.fs r.fs.length).length : Nat) : Int) :: fbytes r.fs r.fs.length
  else (putL q).take 5
/-- An answer as a PDU. -/
def putR (q : Req) (r : Rep) : List Int := if chkR q r ≠ 0 then [] else if r.x ≠ 0 then [q.c + 128, r.x] else formR q r

theorem fits_true {fl : List Int} {fs : List (List Int)} (h : fitsB fl fs = true) : fl.length = 3 * fs.length ∧ ∀ i, i < fs.length → ((nthF fs i).length : Int) = nth fl (3 * i + 2) := by
  rw [fitsB, Bool.and_eq_true, decide_eq_true_eq, List.all_eq_true] at h
  exact ⟨h.1, fun i hi => of_decide_eq_true (h.2 i (List.mem_range.2 hi))⟩
theorem fbytes_sum (fl : List Int) (fs : List (List Int)) (k : Nat) (h : ∀ i, i < k → ((nthF fs i).length : Int) = nth fl (3 * i + 2)) : (((fbytes fs k).length : Nat) : Int) = sumTo fl k := by
  induction k with
  | zero => rfl
  | succ k ih =>
    rw [fbytes, sumTo, ← ih (fun i hi => h i (by omega)), ← h k (by omega), List.length_append, List.length_append, wbytes_length]
    simp only [List.length_cons, List.length_nil]
    omega
theorem sumTo_part (fl : List Int) (k : Nat) (h : ∀ i, i < k → 0 ≤ nth fl (3 * i + 2)) : (0 ≤ sumTo fl k) ∧ ∀ i, i < k → 2 + 2 * nth fl (3 * i + 2) ≤ sumTo fl k := by
  induction k with
  | zero => exact ⟨Int.le_refl _, fun i hi => absurd hi (by omega)⟩
  | succ k ih =>
    obtain ⟨h1, h2⟩ := ih (fun i hi => h i (by omega))
    have h3 := h k (by omega)
    rw [sumTo]
    refine ⟨by omega, fun i hi => ?_⟩
    rcases Nat.lt_succ_iff_lt_or_eq.1 hi with h4 | h4
    · have := h2 i h4; omega
    · subst h4; omega
/-- What a right answer that is no exception holds. -/
theorem chkR_zero {q : Req} {r : Rep} (h : chkR q r = 0) (hx : r.x = 0) : chkQ q = 0 ∧ manyB q r = true := by
  unfold chkR at h
  by_cases hk : chkQ q ≠ 0
  · rw [if_pos hk] at h; exact absurd h hk
  · rw [if_neg hk, if_neg (show ¬ r.x ≠ 0 by simp [hx])] at h
    refine ⟨by simpa using hk, ?_⟩
    split at h
    · cases h
    · split at h
      · cases h
      · rename_i h2; simpa using h2
theorem rep_bits {q : Req} {r : Rep} (h : chkR q r = 0) (hx : r.x = 0) (hc : q.c = 1 ∨ q.c = 2) : r.on.length ≤ 2000 := by
  obtain ⟨h1, h2⟩ := chkR_zero h hx
  have hz := (chk_zero h1).2.2.2.1
  unfold manyB at h2
  rw [if_pos hc] at h2
  have h2 := of_decide_eq_true h2
  rcases hc with hc | hc <;> rw [hc] at hz <;> simp [many, mm] at hz <;> omega
theorem rep_words {q : Req} {r : Rep} (h : chkR q r = 0) (hx : r.x = 0) (hc : q.c = 3 ∨ q.c = 4) : r.set.length ≤ 125 := by
  obtain ⟨h1, h2⟩ := chkR_zero h hx
  have hz := (chk_zero h1).2.2.2.1
  unfold manyB at h2
  rw [if_neg (show ¬ (q.c = 1 ∨ q.c = 2) by omega), if_pos hc] at h2
  have h2 := of_decide_eq_true h2
  rcases hc with hc | hc <;> rw [hc] at hz <;> simp [many, mm] at hz <;> omega
theorem rep_files {q : Req} {r : Rep} (h : chkR q r = 0) (hx : r.x = 0) (hc : q.c = 20) : r.fs.length ≤ 35 ∧ (∀ i, i < r.fs.length → (nthF r.fs i).length ≤ 127) ∧ (fbytes r.fs r.fs.length).length ≤ 255 := by
  obtain ⟨h1, h2⟩ := chkR_zero h hx
  have hz := chk_zero h1
  unfold manyB at h2
  rw [if_neg (show ¬ (q.c = 1 ∨ q.c = 2) by omega), if_neg (show ¬ (q.c = 3 ∨ q.c = 4) by omega), if_pos hc] at h2
  obtain ⟨hl, hi⟩ := fits_true h2
  obtain ⟨hok, hs⟩ := hz.2.2.2.2.1 hc
  have hm := hz.2.2.2.1
  rw [hc] at hm
  rw [show q.fl.length / 3 = r.fs.length by omega] at hok hs hm
  have hm2 : r.fs.length ≤ 35 := by simp [many, mm] at hm; omega
  have hp := sumTo_part q.fl r.fs.length (fun i h => by rw [← hi i h]; omega)
  have hsum := fbytes_sum q.fl r.fs r.fs.length hi
  exact ⟨hm2, fun i h => by have h3 := hp.2 i h; rw [← hi i h] at h3; omega, by omega⟩
theorem putL_five {q : Req} (h : chkQ q = 0) (n1 : q.c ≠ 20) : 5 ≤ (putL q).length := by
  have hm := (chk_zero h).1
  rw [putL, if_pos h, pduQ]
  unfold pduOf tl
  rcases mm_pos hm with h | h | h | h | h | h | h | h | h
  all_goals first | (exact absurd h n1) | (rw [h]; simp [wbytes_length]; done) | (simp [h, wbytes_length]; omega) | (simp [h, wbytes_length])

end Go.Proofs.Ytcmbdhmhkfhjfaa
