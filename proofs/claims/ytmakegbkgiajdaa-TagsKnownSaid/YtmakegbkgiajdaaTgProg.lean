/-
  The program's functions of layer 9: Check, CheckAll, Find.
-/
import Derived.Test.YtmakegbkgiajdaaTgMean
import Derived.Test.YtmakegbkgiajdaaTgKit
import Derived.Laws.Strings
namespace Go.Proofs.Ytmakegbkgiajdaa
open Go.RowKit
set_option linter.unusedVariables false
attribute [local go_sem ↓] ldTag_fold stTag_fold

theorem setL_whole (arr : Array Value) (vs : List Value) (h : arr.size = vs.length) : setL arr 0 vs = vs.toArray := by
  apply Array.ext_getElem?
  intro i
  by_cases hi : i < vs.length
  · have := setL_at arr 0 vs i vs[i] (List.getElem?_eq_getElem hi) (by omega)
    rw [Nat.zero_add] at this
    rw [this, List.getElem?_toArray, List.getElem?_eq_getElem hi]
  · rw [Array.getElem?_eq_none (by rw [setL_size]; omega), Array.getElem?_eq_none (by rw [List.size_toArray]; omega)]
/-- A tag is stored into a new box. -/
theorem made_tag (w : World) (t : Tg) : (stTag (.pointer (some ⟨w.heap.size, 0, none⟩)) (tgV t)).run Try.prog (w.alloc (.cells #[.string ⟨#[]⟩, .int .i64 0, .int .i64 0, .int .i64 0, .int .i64 0, .bool false, .bool false, .bool false, .int .i64 0, .int .i64 0, .int .i64 0, .int .i64 0, .int .i64 0, .bool false, .bool false, .bool false, .int .i64 0, .int .i64 0, .int .i64 0] 29)) = .ok () (w.alloc (.cells (tgC t).toArray 29)) := by
  have h := stTag_run (w := w.alloc (.cells (tgC zT).toArray 29)) (o := 0) t (there_alloc_size w 29 (tgC zT).toArray 0 19 (Nat.le_refl _))
  rw [setCells_alloc, setL_whole (tgC zT).toArray (tgC t) rfl] at h
  exact h

theorem chkT_mean (t : Tg) (hn : nameB (bys t.nm) = true) (u1 : ¬ t.un < 1) (u2 : ¬ t.un > 247) (k1 : ¬ t.ki < 1) (k2 : ¬ t.ki > 4) (d1 : ¬ t.ad < 0) (d2 : ¬ t.ad > 65536 - widT t) (v1 : ¬ t.ev < 1) (v2 : ¬ t.ev > 1048576) : chkT t = meanT t := by
  unfold chkT meanT
  simp only [hn, decide_eq_false u1, decide_eq_false u2, decide_eq_false k1, decide_eq_false k2, decide_eq_false d1, decide_eq_false d2, decide_eq_false v1, decide_eq_false v2]
  rfl
set_option maxHeartbeats 1000000 in
theorem pc9_0 (nm : ByteArray) (un ki ad ev : Int) (we sg sw : Bool) (mu di aa de qu : Int) (ul uh la : Bool) (lo hi hy : Int) (w : World) (hs : nm.size ≤ maxLen) (hn : nameB (bys nm) = false) : Calls Try.prog 13 #[.agg #[.string nm, .int .i64 un, .int .i64 ki, .int .i64 ad, .int .i64 ev, .bool we, .bool sg, .bool sw, .int .i64 mu, .int .i64 di, .int .i64 aa, .int .i64 de, .int .i64 qu, .bool ul, .bool uh, .bool la, .int .i64 lo, .int .i64 hi, .int .i64 hy]] w fun e w' => e = .returned (.int .i64 8) ∧ Below w.heap.size w w' := by
  have h0 := heap_alloc_new w (.cells #[.string nm, .int .i64 un, .int .i64 ki, .int .i64 ad, .int .i64 ev, .bool we, .bool sg, .bool sw, .int .i64 mu, .int .i64 di, .int .i64 aa, .int .i64 de, .int .i64 qu, .bool ul, .bool uh, .bool la, .int .i64 lo, .int .i64 hi, .int .i64 hy] 29)
  have bel0 := bel_alloc w (.cells #[.string nm, .int .i64 un, .int .i64 ki, .int .i64 ad, .int .i64 ev, .bool we, .bool sg, .bool sw, .int .i64 mu, .int .i64 di, .int .i64 aa, .int .i64 de, .int .i64 qu, .bool ul, .bool uh, .bool la, .int .i64 lo, .int .i64 hi, .int .i64 hy] 29)
  go_enter Try.func13, Try.ntmps13
  go_wp2_with fail
  refine (Name9_any nm _ hs).mono ?_
  rintro e w1 ⟨rfl, b1⟩
  rw [hn]
  have h1 := keepB b1 h0
  have bel1 := bel0.trans (b1.mono bel0.size)
  clear hn b1 h0 bel0
  obtain ⟨c0, c1, c2, c3, c4, c5, c6, c7, c8, c9, c10, c11, c12, c13, c14, c15, c16, c17, c18⟩ := of19 nm un ki ad ev we sg sw mu di aa de qu ul uh la lo hi hy h1
  go_wp2
  go_ret
  exact ⟨rfl, bel1⟩

set_option maxHeartbeats 1000000 in
theorem pc9_1 (nm : ByteArray) (un ki ad ev : Int) (we sg sw : Bool) (mu di aa de qu : Int) (ul uh la : Bool) (lo hi hy : Int) (w : World) (hs : nm.size ≤ maxLen) (hn : nameB (bys nm) = true) (L1 : lieB un 1 247 = false) : Calls Try.prog 13 #[.agg #[.string nm, .int .i64 un, .int .i64 ki, .int .i64 ad, .int .i64 ev, .bool we, .bool sg, .bool sw, .int .i64 mu, .int .i64 di, .int .i64 aa, .int .i64 de, .int .i64 qu, .bool ul, .bool uh, .bool la, .int .i64 lo, .int .i64 hi, .int .i64 hy]] w fun e w' => e = .returned (.int .i64 24) ∧ Below w.heap.size w w' := by
  have h0 := heap_alloc_new w (.cells #[.string nm, .int .i64 un, .int .i64 ki, .int .i64 ad, .int .i64 ev, .bool we, .bool sg, .bool sw, .int .i64 mu, .int .i64 di, .int .i64 aa, .int .i64 de, .int .i64 qu, .bool ul, .bool uh, .bool la, .int .i64 lo, .int .i64 hi, .int .i64 hy] 29)
  have bel0 := bel_alloc w (.cells #[.string nm, .int .i64 un, .int .i64 ki, .int .i64 ad, .int .i64 ev, .bool we, .bool sg, .bool sw, .int .i64 mu, .int .i64 di, .int .i64 aa, .int .i64 de, .int .i64 qu, .bool ul, .bool uh, .bool la, .int .i64 lo, .int .i64 hi, .int .i64 hy] 29)
  go_enter Try.func13, Try.ntmps13
  go_wp2_with fail
  refine (Name9_any nm _ hs).mono ?_
  rintro e w1 ⟨rfl, b1⟩
  rw [hn]
  have h1 := keepB b1 h0
  have bel1 := bel0.trans (b1.mono bel0.size)
  clear hn b1 h0 bel0
  obtain ⟨c0, c1, c2, c3, c4, c5, c6, c7, c8, c9, c10, c11, c12, c13, c14, c15, c16, c17, c18⟩ := of19 nm un ki ad ev we sg sw mu di aa de qu ul uh la lo hi hy h1
  go_wp2_with fail
  refine (lies_any _ _ _ _).mono ?_
  rintro e w' ⟨rfl, hwe⟩
  rw [hwe]
  clear hwe w'
  rw [L1]
  clear L1
  go_wp2
  go_ret
  exact ⟨rfl, bel1⟩

set_option maxHeartbeats 1000000 in
theorem pc9_2 (nm : ByteArray) (un ki ad ev : Int) (we sg sw : Bool) (mu di aa de qu : Int) (ul uh la : Bool) (lo hi hy : Int) (w : World) (hs : nm.size ≤ maxLen) (hn : nameB (bys nm) = true) (L1 : lieB un 1 247 = true) (L2 : lieB ki 1 4 = false) : Calls Try.prog 13 #[.agg #[.string nm, .int .i64 un, .int .i64 ki, .int .i64 ad, .int .i64 ev, .bool we, .bool sg, .bool sw, .int .i64 mu, .int .i64 di, .int .i64 aa, .int .i64 de, .int .i64 qu, .bool ul, .bool uh, .bool la, .int .i64 lo, .int .i64 hi, .int .i64 hy]] w fun e w' => e = .returned (.int .i64 28) ∧ Below w.heap.size w w' := by
  have h0 := heap_alloc_new w (.cells #[.string nm, .int .i64 un, .int .i64 ki, .int .i64 ad, .int .i64 ev, .bool we, .bool sg, .bool sw, .int .i64 mu, .int .i64 di, .int .i64 aa, .int .i64 de, .int .i64 qu, .bool ul, .bool uh, .bool la, .int .i64 lo, .int .i64 hi, .int .i64 hy] 29)
  have bel0 := bel_alloc w (.cells #[.string nm, .int .i64 un, .int .i64 ki, .int .i64 ad, .int .i64 ev, .bool we, .bool sg, .bool sw, .int .i64 mu, .int .i64 di, .int .i64 aa, .int .i64 de, .int .i64 qu, .bool ul, .bool uh, .bool la, .int .i64 lo, .int .i64 hi, .int .i64 hy] 29)
  go_enter Try.func13, Try.ntmps13
  go_wp2_with fail
  refine (Name9_any nm _ hs).mono ?_
  rintro e w1 ⟨rfl, b1⟩
  rw [hn]
  have h1 := keepB b1 h0
  have bel1 := bel0.trans (b1.mono bel0.size)
  clear hn b1 h0 bel0
  obtain ⟨c0, c1, c2, c3, c4, c5, c6, c7, c8, c9, c10, c11, c12, c13, c14, c15, c16, c17, c18⟩ := of19 nm un ki ad ev we sg sw mu di aa de qu ul uh la lo hi hy h1
  go_wp2_with fail
  refine (lies_any _ _ _ _).mono ?_
  rintro e w' ⟨rfl, hwe⟩
  rw [hwe]
  clear hwe w'
  rw [L1]
  clear L1
  go_wp2_with fail
  refine (lies_any _ _ _ _).mono ?_
  rintro e w' ⟨rfl, hwe⟩
  rw [hwe]
  clear hwe w'
  rw [L2]
  clear L2
  go_wp2
  go_ret
  exact ⟨rfl, bel1⟩

set_option maxHeartbeats 1000000 in
theorem pc9_3 (nm : ByteArray) (un ki ad ev : Int) (we sg sw : Bool) (mu di aa de qu : Int) (ul uh la : Bool) (lo hi hy : Int) (w : World) (hs : nm.size ≤ maxLen) (hn : nameB (bys nm) = true) (L1 : lieB un 1 247 = true) (L2 : lieB ki 1 4 = true) (hw : IntKind.i64.wrap (65536 - widT ⟨nm, un, ki, ad, ev, we, sg, sw, mu, di, aa, de, qu, ul, uh, la, lo, hi, hy⟩) = 65536 - widT ⟨nm, un, ki, ad, ev, we, sg, sw, mu, di, aa, de, qu, ul, uh, la, lo, hi, hy⟩) (L3 : lieB ad 0 (65536 - widT ⟨nm, un, ki, ad, ev, we, sg, sw, mu, di, aa, de, qu, ul, uh, la, lo, hi, hy⟩) = false) : Calls Try.prog 13 #[.agg #[.string nm, .int .i64 un, .int .i64 ki, .int .i64 ad, .int .i64 ev, .bool we, .bool sg, .bool sw, .int .i64 mu, .int .i64 di, .int .i64 aa, .int .i64 de, .int .i64 qu, .bool ul, .bool uh, .bool la, .int .i64 lo, .int .i64 hi, .int .i64 hy]] w fun e w' => e = .returned (.int .i64 21) ∧ Below w.heap.size w w' := by
  have h0 := heap_alloc_new w (.cells #[.string nm, .int .i64 un, .int .i64 ki, .int .i64 ad, .int .i64 ev, .bool we, .bool sg, .bool sw, .int .i64 mu, .int .i64 di, .int .i64 aa, .int .i64 de, .int .i64 qu, .bool ul, .bool uh, .bool la, .int .i64 lo, .int .i64 hi, .int .i64 hy] 29)
  have bel0 := bel_alloc w (.cells #[.string nm, .int .i64 un, .int .i64 ki, .int .i64 ad, .int .i64 ev, .bool we, .bool sg, .bool sw, .int .i64 mu, .int .i64 di, .int .i64 aa, .int .i64 de, .int .i64 qu, .bool ul, .bool uh, .bool la, .int .i64 lo, .int .i64 hi, .int .i64 hy] 29)
  obtain ⟨wd, hwd⟩ : ∃ x, widT ⟨nm, un, ki, ad, ev, we, sg, sw, mu, di, aa, de, qu, ul, uh, la, lo, hi, hy⟩ = x := ⟨_, rfl⟩
  have HW : Hid (∀ W : World, Calls Try.prog 11 #[.agg #[.string nm, .int .i64 un, .int .i64 ki, .int .i64 ad, .int .i64 ev, .bool we, .bool sg, .bool sw, .int .i64 mu, .int .i64 di, .int .i64 aa, .int .i64 de, .int .i64 qu, .bool ul, .bool uh, .bool la, .int .i64 lo, .int .i64 hi, .int .i64 hy]] W fun e w' => e = .returned (.int .i64 (widT ⟨nm, un, ki, ad, ev, we, sg, sw, mu, di, aa, de, qu, ul, uh, la, lo, hi, hy⟩)) ∧ Below W.heap.size W w') := Lib.hid fun W => Width9_any nm un ki ad ev we sg sw mu di aa de qu ul uh la lo hi hy W
  rw [hwd] at hw L3 HW
  clear hwd
  go_enter Try.func13, Try.ntmps13
  go_wp2_with fail
  refine (Name9_any nm _ hs).mono ?_
  rintro e w1 ⟨rfl, b1⟩
  rw [hn]
  have h1 := keepB b1 h0
  have bel1 := bel0.trans (b1.mono bel0.size)
  clear hn b1 h0 bel0
  obtain ⟨c0, c1, c2, c3, c4, c5, c6, c7, c8, c9, c10, c11, c12, c13, c14, c15, c16, c17, c18⟩ := of19 nm un ki ad ev we sg sw mu di aa de qu ul uh la lo hi hy h1
  go_wp2_with fail
  refine (lies_any _ _ _ _).mono ?_
  rintro e w' ⟨rfl, hwe⟩
  rw [hwe]
  clear hwe w'
  rw [L1]
  clear L1
  go_wp2_with fail
  refine (lies_any _ _ _ _).mono ?_
  rintro e w' ⟨rfl, hwe⟩
  rw [hwe]
  clear hwe w'
  rw [L2]
  clear L2
  clear c0 c1 c2 c3 c4 c5 c6 c7 c8 c9 c10 c11 c12 c13 c14 c15 c16 c17 c18
  have HL3 : Hid (∀ W : World, Calls Try.prog 27 #[.int .i64 ad, .int .i64 0, .int .i64 (65536 - wd)] W fun e w' => e = .returned (.bool false) ∧ Below W.heap.size W w') := Lib.hid fun W => (lies_any ad 0 (65536 - wd) W).mono (fun e w' h => by rw [h.1, h.2, L3]; exact ⟨rfl, Below.refl _ _⟩)
  clear L3
  go_wp2
  have HK : Hid (∀ w9 : World, Below w1.heap.size w1 w9 → (Below w1.heap.size w1 w9 ∧ w9.cell? ⟨w.heap.size, 3, none⟩ = some (.int .i64 ad) ∧ (ldTag (.pointer (some ⟨w.heap.size, 0, none⟩))).run Try.prog w9 = .ok (.agg #[.string nm, .int .i64 un, .int .i64 ki, .int .i64 ad, .int .i64 ev, .bool we, .bool sg, .bool sw, .int .i64 mu, .int .i64 di, .int .i64 aa, .int .i64 de, .int .i64 qu, .bool ul, .bool uh, .bool la, .int .i64 lo, .int .i64 hi, .int .i64 hy]) w9)) := Lib.hid fun w9 hw => ⟨hw, (of19 nm un ki ad ev we sg sw mu di aa de qu ul uh la lo hi hy (keepB hw h1)).2.2.2.1, ldTag_run rfl (rangeB (cs := [.string nm, .int .i64 un, .int .i64 ki, .int .i64 ad, .int .i64 ev, .bool we, .bool sg, .bool sw, .int .i64 mu, .int .i64 di, .int .i64 aa, .int .i64 de, .int .i64 qu, .bool ul, .bool uh, .bool la, .int .i64 lo, .int .i64 hi, .int .i64 hy]) (keepB hw h1))⟩
  have belh : ∀ w9 : World, (Below w1.heap.size w1 w9 ∧ w9.cell? ⟨w.heap.size, 3, none⟩ = some (.int .i64 ad) ∧ (ldTag (.pointer (some ⟨w.heap.size, 0, none⟩))).run Try.prog w9 = .ok (.agg #[.string nm, .int .i64 un, .int .i64 ki, .int .i64 ad, .int .i64 ev, .bool we, .bool sg, .bool sw, .int .i64 mu, .int .i64 di, .int .i64 aa, .int .i64 de, .int .i64 qu, .bool ul, .bool uh, .bool la, .int .i64 lo, .int .i64 hi, .int .i64 hy]) w9) → Below w1.heap.size w1 w9 := fun w9 h => h.1
  go_region_held3 (fun w9 => Below w1.heap.size w1 w9 ∧ w9.cell? ⟨w.heap.size, 3, none⟩ = some (.int .i64 ad) ∧ (ldTag (.pointer (some ⟨w.heap.size, 0, none⟩))).run Try.prog w9 = .ok (.agg #[.string nm, .int .i64 un, .int .i64 ki, .int .i64 ad, .int .i64 ev, .bool we, .bool sg, .bool sw, .int .i64 mu, .int .i64 di, .int .i64 aa, .int .i64 de, .int .i64 qu, .bool ul, .bool uh, .bool la, .int .i64 lo, .int .i64 hi, .int .i64 hy]) w9)
    ((refine HK.out _ ?_
      repeat' (first
        | with_reducible exact Below.refl _ _
        | with_reducible exact bel6
        | with_reducible exact bel5
        | with_reducible exact belh _ (by assumption)
        | with_reducible apply below_drew
        | with_reducible apply below_drewN
        | fail)))
    (first
      | (go_at_call 11; refine (HW.out _).mono ?_; rintro e w5 ⟨rfl, b5⟩; have bel5 : Below w1.heap.size w1 w5 := Below.trans (belh _ (by assumption)) (b5.mono (Below.size (belh _ (by assumption)))))
      | (go_at_call 27; refine (HL3.out _).mono ?_; rintro e w6 ⟨rfl, b6⟩; have bel6 : Below w1.heap.size w1 w6 := Below.trans (belh _ (by assumption)) (b6.mono (Below.size (belh _ (by assumption)))))
      | fail)
  have h6 := keepB bel6 h1
  have bel7 := bel1.trans (bel6.mono bel1.size)
  clear HK belh bel5 bel6 h1 bel1 HW HL3
  obtain ⟨c0, c1, c2, c3, c4, c5, c6, c7, c8, c9, c10, c11, c12, c13, c14, c15, c16, c17, c18⟩ := of19 nm un ki ad ev we sg sw mu di aa de qu ul uh la lo hi hy h6
  go_wp2
  go_ret
  exact ⟨rfl, bel7⟩

set_option maxHeartbeats 1000000 in
theorem pc9_4 (nm : ByteArray) (un ki ad ev : Int) (we sg sw : Bool) (mu di aa de qu : Int) (ul uh la : Bool) (lo hi hy : Int) (w : World) (hs : nm.size ≤ maxLen) (hn : nameB (bys nm) = true) (L1 : lieB un 1 247 = true) (L2 : lieB ki 1 4 = true) (hw : IntKind.i64.wrap (65536 - widT ⟨nm, un, ki, ad, ev, we, sg, sw, mu, di, aa, de, qu, ul, uh, la, lo, hi, hy⟩) = 65536 - widT ⟨nm, un, ki, ad, ev, we, sg, sw, mu, di, aa, de, qu, ul, uh, la, lo, hi, hy⟩) (L3 : lieB ad 0 (65536 - widT ⟨nm, un, ki, ad, ev, we, sg, sw, mu, di, aa, de, qu, ul, uh, la, lo, hi, hy⟩) = true) (L4 : lieB ev 1 1048576 = false) : Calls Try.prog 13 #[.agg #[.string nm, .int .i64 un, .int .i64 ki, .int .i64 ad, .int .i64 ev, .bool we, .bool sg, .bool sw, .int .i64 mu, .int .i64 di, .int .i64 aa, .int .i64 de, .int .i64 qu, .bool ul, .bool uh, .bool la, .int .i64 lo, .int .i64 hi, .int .i64 hy]] w fun e w' => e = .returned (.int .i64 3) ∧ Below w.heap.size w w' := by
  have h0 := heap_alloc_new w (.cells #[.string nm, .int .i64 un, .int .i64 ki, .int .i64 ad, .int .i64 ev, .bool we, .bool sg, .bool sw, .int .i64 mu, .int .i64 di, .int .i64 aa, .int .i64 de, .int .i64 qu, .bool ul, .bool uh, .bool la, .int .i64 lo, .int .i64 hi, .int .i64 hy] 29)
  have bel0 := bel_alloc w (.cells #[.string nm, .int .i64 un, .int .i64 ki, .int .i64 ad, .int .i64 ev, .bool we, .bool sg, .bool sw, .int .i64 mu, .int .i64 di, .int .i64 aa, .int .i64 de, .int .i64 qu, .bool ul, .bool uh, .bool la, .int .i64 lo, .int .i64 hi, .int .i64 hy] 29)
  obtain ⟨wd, hwd⟩ : ∃ x, widT ⟨nm, un, ki, ad, ev, we, sg, sw, mu, di, aa, de, qu, ul, uh, la, lo, hi, hy⟩ = x := ⟨_, rfl⟩
  have HW : Hid (∀ W : World, Calls Try.prog 11 #[.agg #[.string nm, .int .i64 un, .int .i64 ki, .int .i64 ad, .int .i64 ev, .bool we, .bool sg, .bool sw, .int .i64 mu, .int .i64 di, .int .i64 aa, .int .i64 de, .int .i64 qu, .bool ul, .bool uh, .bool la, .int .i64 lo, .int .i64 hi, .int .i64 hy]] W fun e w' => e = .returned (.int .i64 (widT ⟨nm, un, ki, ad, ev, we, sg, sw, mu, di, aa, de, qu, ul, uh, la, lo, hi, hy⟩)) ∧ Below W.heap.size W w') := Lib.hid fun W => Width9_any nm un ki ad ev we sg sw mu di aa de qu ul uh la lo hi hy W
  rw [hwd] at hw L3 HW
  clear hwd
  go_enter Try.func13, Try.ntmps13
  go_wp2_with fail
  refine (Name9_any nm _ hs).mono ?_
  rintro e w1 ⟨rfl, b1⟩
  rw [hn]
  have h1 := keepB b1 h0
  have bel1 := bel0.trans (b1.mono bel0.size)
  clear hn b1 h0 bel0
  obtain ⟨c0, c1, c2, c3, c4, c5, c6, c7, c8, c9, c10, c11, c12, c13, c14, c15, c16, c17, c18⟩ := of19 nm un ki ad ev we sg sw mu di aa de qu ul uh la lo hi hy h1
  go_wp2_with fail
  refine (lies_any _ _ _ _).mono ?_
  rintro e w' ⟨rfl, hwe⟩
  rw [hwe]
  clear hwe w'
  rw [L1]
  clear L1
  go_wp2_with fail
  refine (lies_any _ _ _ _).mono ?_
  rintro e w' ⟨rfl, hwe⟩
  rw [hwe]
  clear hwe w'
  rw [L2]
  clear L2
  clear c0 c1 c2 c3 c4 c5 c6 c7 c8 c9 c10 c11 c12 c13 c14 c15 c16 c17 c18
  have HL3 : Hid (∀ W : World, Calls Try.prog 27 #[.int .i64 ad, .int .i64 0, .int .i64 (65536 - wd)] W fun e w' => e = .returned (.bool true) ∧ Below W.heap.size W w') := Lib.hid fun W => (lies_any ad 0 (65536 - wd) W).mono (fun e w' h => by rw [h.1, h.2, L3]; exact ⟨rfl, Below.refl _ _⟩)
  clear L3
  go_wp2
  have HK : Hid (∀ w9 : World, Below w1.heap.size w1 w9 → (Below w1.heap.size w1 w9 ∧ w9.cell? ⟨w.heap.size, 3, none⟩ = some (.int .i64 ad) ∧ (ldTag (.pointer (some ⟨w.heap.size, 0, none⟩))).run Try.prog w9 = .ok (.agg #[.string nm, .int .i64 un, .int .i64 ki, .int .i64 ad, .int .i64 ev, .bool we, .bool sg, .bool sw, .int .i64 mu, .int .i64 di, .int .i64 aa, .int .i64 de, .int .i64 qu, .bool ul, .bool uh, .bool la, .int .i64 lo, .int .i64 hi, .int .i64 hy]) w9)) := Lib.hid fun w9 hw => ⟨hw, (of19 nm un ki ad ev we sg sw mu di aa de qu ul uh la lo hi hy (keepB hw h1)).2.2.2.1, ldTag_run rfl (rangeB (cs := [.string nm, .int .i64 un, .int .i64 ki, .int .i64 ad, .int .i64 ev, .bool we, .bool sg, .bool sw, .int .i64 mu, .int .i64 di, .int .i64 aa, .int .i64 de, .int .i64 qu, .bool ul, .bool uh, .bool la, .int .i64 lo, .int .i64 hi, .int .i64 hy]) (keepB hw h1))⟩
  have belh : ∀ w9 : World, (Below w1.heap.size w1 w9 ∧ w9.cell? ⟨w.heap.size, 3, none⟩ = some (.int .i64 ad) ∧ (ldTag (.pointer (some ⟨w.heap.size, 0, none⟩))).run Try.prog w9 = .ok (.agg #[.string nm, .int .i64 un, .int .i64 ki, .int .i64 ad, .int .i64 ev, .bool we, .bool sg, .bool sw, .int .i64 mu, .int .i64 di, .int .i64 aa, .int .i64 de, .int .i64 qu, .bool ul, .bool uh, .bool la, .int .i64 lo, .int .i64 hi, .int .i64 hy]) w9) → Below w1.heap.size w1 w9 := fun w9 h => h.1
  go_region_held3 (fun w9 => Below w1.heap.size w1 w9 ∧ w9.cell? ⟨w.heap.size, 3, none⟩ = some (.int .i64 ad) ∧ (ldTag (.pointer (some ⟨w.heap.size, 0, none⟩))).run Try.prog w9 = .ok (.agg #[.string nm, .int .i64 un, .int .i64 ki, .int .i64 ad, .int .i64 ev, .bool we, .bool sg, .bool sw, .int .i64 mu, .int .i64 di, .int .i64 aa, .int .i64 de, .int .i64 qu, .bool ul, .bool uh, .bool la, .int .i64 lo, .int .i64 hi, .int .i64 hy]) w9)
    ((refine HK.out _ ?_
      repeat' (first
        | with_reducible exact Below.refl _ _
        | with_reducible exact bel6
        | with_reducible exact bel5
        | with_reducible exact belh _ (by assumption)
        | with_reducible apply below_drew
        | with_reducible apply below_drewN
        | fail)))
    (first
      | (go_at_call 11; refine (HW.out _).mono ?_; rintro e w5 ⟨rfl, b5⟩; have bel5 : Below w1.heap.size w1 w5 := Below.trans (belh _ (by assumption)) (b5.mono (Below.size (belh _ (by assumption)))))
      | (go_at_call 27; refine (HL3.out _).mono ?_; rintro e w6 ⟨rfl, b6⟩; have bel6 : Below w1.heap.size w1 w6 := Below.trans (belh _ (by assumption)) (b6.mono (Below.size (belh _ (by assumption)))))
      | fail)
  have h6 := keepB bel6 h1
  have bel7 := bel1.trans (bel6.mono bel1.size)
  clear HK belh bel5 bel6 h1 bel1 HW HL3
  obtain ⟨c0, c1, c2, c3, c4, c5, c6, c7, c8, c9, c10, c11, c12, c13, c14, c15, c16, c17, c18⟩ := of19 nm un ki ad ev we sg sw mu di aa de qu ul uh la lo hi hy h6
  go_wp2_with fail
  refine (lies_any _ _ _ _).mono ?_
  rintro e w' ⟨rfl, hwe⟩
  rw [hwe]
  clear hwe w'
  rw [L4]
  clear L4
  go_wp2
  go_ret
  exact ⟨rfl, bel7⟩

set_option maxHeartbeats 1000000 in
theorem pc9_5 (nm : ByteArray) (un ki ad ev : Int) (we sg sw : Bool) (mu di aa de qu : Int) (ul uh la : Bool) (lo hi hy : Int) (w : World) (hs : nm.size ≤ maxLen) (hn : nameB (bys nm) = true) (L1 : lieB un 1 247 = true) (L2 : lieB ki 1 4 = true) (hw : IntKind.i64.wrap (65536 - widT ⟨nm, un, ki, ad, ev, we, sg, sw, mu, di, aa, de, qu, ul, uh, la, lo, hi, hy⟩) = 65536 - widT ⟨nm, un, ki, ad, ev, we, sg, sw, mu, di, aa, de, qu, ul, uh, la, lo, hi, hy⟩) (L3 : lieB ad 0 (65536 - widT ⟨nm, un, ki, ad, ev, we, sg, sw, mu, di, aa, de, qu, ul, uh, la, lo, hi, hy⟩) = true) (L4 : lieB ev 1 1048576 = true) (k1 : ¬ ki < 1) (k2 : ¬ ki > 4) : Calls Try.prog 13 #[.agg #[.string nm, .int .i64 un, .int .i64 ki, .int .i64 ad, .int .i64 ev, .bool we, .bool sg, .bool sw, .int .i64 mu, .int .i64 di, .int .i64 aa, .int .i64 de, .int .i64 qu, .bool ul, .bool uh, .bool la, .int .i64 lo, .int .i64 hi, .int .i64 hy]] w fun e w' => e = .returned (.int .i64 (meanT ⟨nm, un, ki, ad, ev, we, sg, sw, mu, di, aa, de, qu, ul, uh, la, lo, hi, hy⟩)) ∧ Below w.heap.size w w' := by
  have h0 := heap_alloc_new w (.cells #[.string nm, .int .i64 un, .int .i64 ki, .int .i64 ad, .int .i64 ev, .bool we, .bool sg, .bool sw, .int .i64 mu, .int .i64 di, .int .i64 aa, .int .i64 de, .int .i64 qu, .bool ul, .bool uh, .bool la, .int .i64 lo, .int .i64 hi, .int .i64 hy] 29)
  have bel0 := bel_alloc w (.cells #[.string nm, .int .i64 un, .int .i64 ki, .int .i64 ad, .int .i64 ev, .bool we, .bool sg, .bool sw, .int .i64 mu, .int .i64 di, .int .i64 aa, .int .i64 de, .int .i64 qu, .bool ul, .bool uh, .bool la, .int .i64 lo, .int .i64 hi, .int .i64 hy] 29)
  obtain ⟨wd, hwd⟩ : ∃ x, widT ⟨nm, un, ki, ad, ev, we, sg, sw, mu, di, aa, de, qu, ul, uh, la, lo, hi, hy⟩ = x := ⟨_, rfl⟩
  have HW : Hid (∀ W : World, Calls Try.prog 11 #[.agg #[.string nm, .int .i64 un, .int .i64 ki, .int .i64 ad, .int .i64 ev, .bool we, .bool sg, .bool sw, .int .i64 mu, .int .i64 di, .int .i64 aa, .int .i64 de, .int .i64 qu, .bool ul, .bool uh, .bool la, .int .i64 lo, .int .i64 hi, .int .i64 hy]] W fun e w' => e = .returned (.int .i64 (widT ⟨nm, un, ki, ad, ev, we, sg, sw, mu, di, aa, de, qu, ul, uh, la, lo, hi, hy⟩)) ∧ Below W.heap.size W w') := Lib.hid fun W => Width9_any nm un ki ad ev we sg sw mu di aa de qu ul uh la lo hi hy W
  rw [hwd] at hw L3 HW
  clear hwd
  go_enter Try.func13, Try.ntmps13
  go_wp2_with fail
  refine (Name9_any nm _ hs).mono ?_
  rintro e w1 ⟨rfl, b1⟩
  rw [hn]
  have h1 := keepB b1 h0
  have bel1 := bel0.trans (b1.mono bel0.size)
  clear hn b1 h0 bel0
  obtain ⟨c0, c1, c2, c3, c4, c5, c6, c7, c8, c9, c10, c11, c12, c13, c14, c15, c16, c17, c18⟩ := of19 nm un ki ad ev we sg sw mu di aa de qu ul uh la lo hi hy h1
  go_wp2_with fail
  refine (lies_any _ _ _ _).mono ?_
  rintro e w' ⟨rfl, hwe⟩
  rw [hwe]
  clear hwe w'
  rw [L1]
  clear L1
  go_wp2_with fail
  refine (lies_any _ _ _ _).mono ?_
  rintro e w' ⟨rfl, hwe⟩
  rw [hwe]
  clear hwe w'
  rw [L2]
  clear L2
  clear c0 c1 c2 c3 c4 c5 c6 c7 c8 c9 c10 c11 c12 c13 c14 c15 c16 c17 c18
  have HL3 : Hid (∀ W : World, Calls Try.prog 27 #[.int .i64 ad, .int .i64 0, .int .i64 (65536 - wd)] W fun e w' => e = .returned (.bool true) ∧ Below W.heap.size W w') := Lib.hid fun W => (lies_any ad 0 (65536 - wd) W).mono (fun e w' h => by rw [h.1, h.2, L3]; exact ⟨rfl, Below.refl _ _⟩)
  clear L3
  go_wp2
  have HK : Hid (∀ w9 : World, Below w1.heap.size w1 w9 → (Below w1.heap.size w1 w9 ∧ w9.cell? ⟨w.heap.size, 3, none⟩ = some (.int .i64 ad) ∧ (ldTag (.pointer (some ⟨w.heap.size, 0, none⟩))).run Try.prog w9 = .ok (.agg #[.string nm, .int .i64 un, .int .i64 ki, .int .i64 ad, .int .i64 ev, .bool we, .bool sg, .bool sw, .int .i64 mu, .int .i64 di, .int .i64 aa, .int .i64 de, .int .i64 qu, .bool ul, .bool uh, .bool la, .int .i64 lo, .int .i64 hi, .int .i64 hy]) w9)) := Lib.hid fun w9 hw => ⟨hw, (of19 nm un ki ad ev we sg sw mu di aa de qu ul uh la lo hi hy (keepB hw h1)).2.2.2.1, ldTag_run rfl (rangeB (cs := [.string nm, .int .i64 un, .int .i64 ki, .int .i64 ad, .int .i64 ev, .bool we, .bool sg, .bool sw, .int .i64 mu, .int .i64 di, .int .i64 aa, .int .i64 de, .int .i64 qu, .bool ul, .bool uh, .bool la, .int .i64 lo, .int .i64 hi, .int .i64 hy]) (keepB hw h1))⟩
  have belh : ∀ w9 : World, (Below w1.heap.size w1 w9 ∧ w9.cell? ⟨w.heap.size, 3, none⟩ = some (.int .i64 ad) ∧ (ldTag (.pointer (some ⟨w.heap.size, 0, none⟩))).run Try.prog w9 = .ok (.agg #[.string nm, .int .i64 un, .int .i64 ki, .int .i64 ad, .int .i64 ev, .bool we, .bool sg, .bool sw, .int .i64 mu, .int .i64 di, .int .i64 aa, .int .i64 de, .int .i64 qu, .bool ul, .bool uh, .bool la, .int .i64 lo, .int .i64 hi, .int .i64 hy]) w9) → Below w1.heap.size w1 w9 := fun w9 h => h.1
  go_region_held3 (fun w9 => Below w1.heap.size w1 w9 ∧ w9.cell? ⟨w.heap.size, 3, none⟩ = some (.int .i64 ad) ∧ (ldTag (.pointer (some ⟨w.heap.size, 0, none⟩))).run Try.prog w9 = .ok (.agg #[.string nm, .int .i64 un, .int .i64 ki, .int .i64 ad, .int .i64 ev, .bool we, .bool sg, .bool sw, .int .i64 mu, .int .i64 di, .int .i64 aa, .int .i64 de, .int .i64 qu, .bool ul, .bool uh, .bool la, .int .i64 lo, .int .i64 hi, .int .i64 hy]) w9)
    ((refine HK.out _ ?_
      repeat' (first
        | with_reducible exact Below.refl _ _
        | with_reducible exact bel6
        | with_reducible exact bel5
        | with_reducible exact belh _ (by assumption)
        | with_reducible apply below_drew
        | with_reducible apply below_drewN
        | fail)))
    (first
      | (go_at_call 11; refine (HW.out _).mono ?_; rintro e w5 ⟨rfl, b5⟩; have bel5 : Below w1.heap.size w1 w5 := Below.trans (belh _ (by assumption)) (b5.mono (Below.size (belh _ (by assumption)))))
      | (go_at_call 27; refine (HL3.out _).mono ?_; rintro e w6 ⟨rfl, b6⟩; have bel6 : Below w1.heap.size w1 w6 := Below.trans (belh _ (by assumption)) (b6.mono (Below.size (belh _ (by assumption)))))
      | fail)
  have h6 := keepB bel6 h1
  have bel7 := bel1.trans (bel6.mono bel1.size)
  clear HK belh bel5 bel6 h1 bel1 HW HL3
  obtain ⟨c0, c1, c2, c3, c4, c5, c6, c7, c8, c9, c10, c11, c12, c13, c14, c15, c16, c17, c18⟩ := of19 nm un ki ad ev we sg sw mu di aa de qu ul uh la lo hi hy h6
  go_wp2_with fail
  refine (lies_any _ _ _ _).mono ?_
  rintro e w' ⟨rfl, hwe⟩
  rw [hwe]
  clear hwe w'
  rw [L4]
  clear L4
  have hld := ldTag_run (b := w.heap.size) (o := 0) rfl (rangeB (cs := [.string nm, .int .i64 un, .int .i64 ki, .int .i64 ad, .int .i64 ev, .bool we, .bool sg, .bool sw, .int .i64 mu, .int .i64 di, .int .i64 aa, .int .i64 de, .int .i64 qu, .bool ul, .bool uh, .bool la, .int .i64 lo, .int .i64 hi, .int .i64 hy]) h6)
  go_wp2_with fail
  refine (mean_any nm un ki ad ev we sg sw mu di aa de qu ul uh la lo hi hy _ (by omega) (by omega)).mono ?_
  rintro e w8 ⟨rfl, b8⟩
  go_wp2
  go_ret
  exact ⟨rfl, bel7.trans (b8.mono bel7.size)⟩

theorem Check9_any (nm : ByteArray) (un ki ad ev : Int) (we sg sw : Bool) (mu di aa de qu : Int) (ul uh la : Bool) (lo hi hy : Int) (w : World) (hs : nm.size ≤ maxLen) : Calls Try.prog 13 #[.agg #[.string nm, .int .i64 un, .int .i64 ki, .int .i64 ad, .int .i64 ev, .bool we, .bool sg, .bool sw, .int .i64 mu, .int .i64 di, .int .i64 aa, .int .i64 de, .int .i64 qu, .bool ul, .bool uh, .bool la, .int .i64 lo, .int .i64 hi, .int .i64 hy]] w fun e w' => e = .returned (.int .i64 (chkT ⟨nm, un, ki, ad, ev, we, sg, sw, mu, di, aa, de, qu, ul, uh, la, lo, hi, hy⟩)) ∧ Below w.heap.size w w' := by
  have hwr : IntKind.i64.wrap (65536 - widT ⟨nm, un, ki, ad, ev, we, sg, sw, mu, di, aa, de, qu, ul, uh, la, lo, hi, hy⟩) = 65536 - widT ⟨nm, un, ki, ad, ev, we, sg, sw, mu, di, aa, de, qu, ul, uh, la, lo, hi, hy⟩ := by
    have := widT_le ⟨nm, un, ki, ad, ev, we, sg, sw, mu, di, aa, de, qu, ul, uh, la, lo, hi, hy⟩
    rw [IntKind.wrap_i64]; omega
  have G : ∀ (hn : nameB (bys nm) = true) (u1 : ¬ un < 1) (u2 : ¬ un > 247) (k1 : ¬ ki < 1) (k2 : ¬ ki > 4) (d1 : ¬ ad < 0) (d2 : ¬ ad > 65536 - widT ⟨nm, un, ki, ad, ev, we, sg, sw, mu, di, aa, de, qu, ul, uh, la, lo, hi, hy⟩) (v1 : ¬ ev < 1) (v2 : ¬ ev > 1048576), Calls Try.prog 13 #[.agg #[.string nm, .int .i64 un, .int .i64 ki, .int .i64 ad, .int .i64 ev, .bool we, .bool sg, .bool sw, .int .i64 mu, .int .i64 di, .int .i64 aa, .int .i64 de, .int .i64 qu, .bool ul, .bool uh, .bool la, .int .i64 lo, .int .i64 hi, .int .i64 hy]] w fun e w' => e = .returned (.int .i64 (chkT ⟨nm, un, ki, ad, ev, we, sg, sw, mu, di, aa, de, qu, ul, uh, la, lo, hi, hy⟩)) ∧ Below w.heap.size w w' := by
    intro hn u1 u2 k1 k2 d1 d2 v1 v2
    rw [chkT_mean ⟨nm, un, ki, ad, ev, we, sg, sw, mu, di, aa, de, qu, ul, uh, la, lo, hi, hy⟩ hn u1 u2 k1 k2 d1 d2 v1 v2]
    exact pc9_5 nm un ki ad ev we sg sw mu di aa de qu ul uh la lo hi hy w hs hn (lieB_yes u1 u2) (lieB_yes k1 k2) hwr (lieB_yes d1 d2) (lieB_yes v1 v2) k1 k2
  refine tag_cases ⟨nm, un, ki, ad, ev, we, sg, sw, mu, di, aa, de, qu, ul, uh, la, lo, hi, hy⟩ _ ?_ ?_ ?_ ?_ ?_ ?_ ?_ ?_ ?_ ?_ ?_ ?_ ?_
  · intro hn0 HC; rw [HC]; exact pc9_0 nm un ki ad ev we sg sw mu di aa de qu ul uh la lo hi hy w hs hn0
  · intro hn u1y HC; rw [HC]; exact pc9_1 nm un ki ad ev we sg sw mu di aa de qu ul uh la lo hi hy w hs hn (lieB_low u1y)
  · intro hn u1 u2y HC; rw [HC]; exact pc9_1 nm un ki ad ev we sg sw mu di aa de qu ul uh la lo hi hy w hs hn (lieB_high u2y)
  · intro hn u1 u2 k1y HC; rw [HC]; exact pc9_2 nm un ki ad ev we sg sw mu di aa de qu ul uh la lo hi hy w hs hn (lieB_yes u1 u2) (lieB_low k1y)
  · intro hn u1 u2 k1 k2y HC; rw [HC]; exact pc9_2 nm un ki ad ev we sg sw mu di aa de qu ul uh la lo hi hy w hs hn (lieB_yes u1 u2) (lieB_high k2y)
  · intro hn u1 u2 k1 k2 d1y HC; rw [HC]; exact pc9_3 nm un ki ad ev we sg sw mu di aa de qu ul uh la lo hi hy w hs hn (lieB_yes u1 u2) (lieB_yes k1 k2) hwr (lieB_low d1y)
  · intro hn u1 u2 k1 k2 d1 d2y HC; rw [HC]; exact pc9_3 nm un ki ad ev we sg sw mu di aa de qu ul uh la lo hi hy w hs hn (lieB_yes u1 u2) (lieB_yes k1 k2) hwr (lieB_high d2y)
  · intro hn u1 u2 k1 k2 d1 d2 v1y HC; rw [HC]; exact pc9_4 nm un ki ad ev we sg sw mu di aa de qu ul uh la lo hi hy w hs hn (lieB_yes u1 u2) (lieB_yes k1 k2) hwr (lieB_yes d1 d2) (lieB_low v1y)
  · intro hn u1 u2 k1 k2 d1 d2 v1 v2y HC; rw [HC]; exact pc9_4 nm un ki ad ev we sg sw mu di aa de qu ul uh la lo hi hy w hs hn (lieB_yes u1 u2) (lieB_yes k1 k2) hwr (lieB_yes d1 d2) (lieB_high v2y)
  · intro hn u1 u2 k1 k2 d1 d2 v1 v2 _ _; exact G hn u1 u2 k1 k2 d1 d2 v1 v2
  · intro hn u1 u2 k1 k2 d1 d2 v1 v2 _ _ _ _; exact G hn u1 u2 k1 k2 d1 d2 v1 v2
  · intro hn u1 u2 k1 k2 d1 d2 v1 v2 _ _ _ _; exact G hn u1 u2 k1 k2 d1 d2 v1 v2
  · intro hn u1 u2 k1 k2 d1 d2 v1 v2 _ _ _ _; exact G hn u1 u2 k1 k2 d1 d2 v1 v2

/-- What is wrong with a tag behind one of a name. -/
def chkBh (a : ByteArray) (t : Tg) : Int := bif !decide (chkT t = 0) then chkT t else bif t.nm.toList == a.toList then 7 else bif Op.bytesLess t.nm.toList a.toList then 29 else 0
set_option maxHeartbeats 1000000 in
theorem behind9_any (a : ByteArray) (nm : ByteArray) (un ki ad ev : Int) (we sg sw : Bool) (mu di aa de qu : Int) (ul uh la : Bool) (lo hi hy : Int) (w : World) (hs : nm.size ≤ maxLen) : Calls Try.prog 32 #[.string a, .agg #[.string nm, .int .i64 un, .int .i64 ki, .int .i64 ad, .int .i64 ev, .bool we, .bool sg, .bool sw, .int .i64 mu, .int .i64 di, .int .i64 aa, .int .i64 de, .int .i64 qu, .bool ul, .bool uh, .bool la, .int .i64 lo, .int .i64 hi, .int .i64 hy]] w fun e w' => e = .returned (.int .i64 (chkBh a ⟨nm, un, ki, ad, ev, we, sg, sw, mu, di, aa, de, qu, ul, uh, la, lo, hi, hy⟩)) ∧ Below w.heap.size w w' := by
  have h0 := heap_alloc_new w (.cells #[.string nm, .int .i64 un, .int .i64 ki, .int .i64 ad, .int .i64 ev, .bool we, .bool sg, .bool sw, .int .i64 mu, .int .i64 di, .int .i64 aa, .int .i64 de, .int .i64 qu, .bool ul, .bool uh, .bool la, .int .i64 lo, .int .i64 hi, .int .i64 hy] 29)
  have bel0 := bel_alloc w (.cells #[.string nm, .int .i64 un, .int .i64 ki, .int .i64 ad, .int .i64 ev, .bool we, .bool sg, .bool sw, .int .i64 mu, .int .i64 di, .int .i64 aa, .int .i64 de, .int .i64 qu, .bool ul, .bool uh, .bool la, .int .i64 lo, .int .i64 hi, .int .i64 hy] 29)
  have hld := ldTag_run (b := w.heap.size) (o := 0) rfl (rangeB (cs := [.string nm, .int .i64 un, .int .i64 ki, .int .i64 ad, .int .i64 ev, .bool we, .bool sg, .bool sw, .int .i64 mu, .int .i64 di, .int .i64 aa, .int .i64 de, .int .i64 qu, .bool ul, .bool uh, .bool la, .int .i64 lo, .int .i64 hi, .int .i64 hy]) h0)
  obtain ⟨cv, hcv⟩ : ∃ x, chkT ⟨nm, un, ki, ad, ev, we, sg, sw, mu, di, aa, de, qu, ul, uh, la, lo, hi, hy⟩ = x := ⟨_, rfl⟩
  have HB : Hid (chkBh a ⟨nm, un, ki, ad, ev, we, sg, sw, mu, di, aa, de, qu, ul, uh, la, lo, hi, hy⟩ = bif !decide (cv = 0) then cv else bif nm.toList == a.toList then 7 else bif Op.bytesLess nm.toList a.toList then 29 else 0) := Lib.hid (by unfold chkBh; rw [hcv])
  have HC := Lib.hid hcv
  clear hcv
  rw [HB.out]
  clear HB
  by_cases hc : cv = 0
  · subst hc
    cases heq : nm.toList == a.toList with
    | true =>
      go_enter Try.func32, Try.ntmps32
      go_wp2_with fail
      refine (Check9_any nm un ki ad ev we sg sw mu di aa de qu ul uh la lo hi hy _ hs).mono ?_
      rintro e w1 ⟨rfl, b1⟩
      rw [HC.out]
      have h1 := keepB b1 h0
      have bel1 := bel0.trans (b1.mono bel0.size)
      clear hld b1 h0 bel0
      obtain ⟨c0, c1, c2, c3, c4, c5, c6, c7, c8, c9, c10, c11, c12, c13, c14, c15, c16, c17, c18⟩ := of19 nm un ki ad ev we sg sw mu di aa de qu ul uh la lo hi hy h1
      go_wp2
      go_ret
      exact ⟨rfl, bel1⟩
    | false =>
      cases hls : Op.bytesLess nm.toList a.toList with
      | true =>
        go_enter Try.func32, Try.ntmps32
        go_wp2_with fail
        refine (Check9_any nm un ki ad ev we sg sw mu di aa de qu ul uh la lo hi hy _ hs).mono ?_
        rintro e w1 ⟨rfl, b1⟩
        rw [HC.out]
        have h1 := keepB b1 h0
        have bel1 := bel0.trans (b1.mono bel0.size)
        clear hld b1 h0 bel0
        obtain ⟨c0, c1, c2, c3, c4, c5, c6, c7, c8, c9, c10, c11, c12, c13, c14, c15, c16, c17, c18⟩ := of19 nm un ki ad ev we sg sw mu di aa de qu ul uh la lo hi hy h1
        go_wp2
        go_ret
        exact ⟨rfl, bel1⟩
      | false =>
        go_enter Try.func32, Try.ntmps32
        go_wp2_with fail
        refine (Check9_any nm un ki ad ev we sg sw mu di aa de qu ul uh la lo hi hy _ hs).mono ?_
        rintro e w1 ⟨rfl, b1⟩
        rw [HC.out]
        have h1 := keepB b1 h0
        have bel1 := bel0.trans (b1.mono bel0.size)
        clear hld b1 h0 bel0
        obtain ⟨c0, c1, c2, c3, c4, c5, c6, c7, c8, c9, c10, c11, c12, c13, c14, c15, c16, c17, c18⟩ := of19 nm un ki ad ev we sg sw mu di aa de qu ul uh la lo hi hy h1
        go_wp2
        go_ret
        exact ⟨rfl, bel1⟩
  · have hc2 : (cv == 0) = false := beq_false_of_ne hc
    have HR : Hid ((bif !decide (cv = 0) then cv else bif nm.toList == a.toList then 7 else bif Op.bytesLess nm.toList a.toList then 29 else 0) = cv) := Lib.hid (by rw [decide_eq_false hc]; rfl)
    rw [HR.out]
    clear HR
    go_enter Try.func32, Try.ntmps32
    go_wp2_with fail
    refine (Check9_any nm un ki ad ev we sg sw mu di aa de qu ul uh la lo hi hy _ hs).mono ?_
    rintro e w1 ⟨rfl, b1⟩
    rw [HC.out]
    have bel1 := bel0.trans (b1.mono bel0.size)
    go_wp2
    go_ret
    exact ⟨rfl, bel1⟩
theorem behind9_t (a : ByteArray) (t : Tg) (w : World) (hs : t.nm.size ≤ maxLen) : Calls Try.prog 32 #[.string a, tgV t] w fun e w' => e = .returned (.int .i64 (chkBh a t)) ∧ Below w.heap.size w w' := by
  obtain ⟨nm, un, ki, ad, ev, we, sg, sw, mu, di, aa, de, qu, ul, uh, la, lo, hi, hy⟩ := t
  exact behind9_any a nm un ki ad ev we sg sw mu di aa de qu ul uh la lo hi hy w hs

/-- The name of the tag ahead. -/
def nmA (l : List Tg) (i : Nat) : ByteArray := match ahead l i with | none => ⟨#[]⟩ | some p => p.nm
theorem nmA_zero (l : List Tg) : nmA l 0 = ⟨#[]⟩ := rfl
theorem nmA_succ {l : List Tg} {i : Nat} (h : i < l.length) : nmA l (i + 1) = l[i].nm := by
  simp only [nmA, ahead, List.getElem?_eq_getElem h]
theorem toList_nil : (ByteArray.toList ⟨#[]⟩) = [] := by rw [ByteArray.toList_eq]
theorem less_nil (x : List UInt8) : Op.bytesLess x [] = false := by
  cases x <;> rfl
theorem toList_len (s : ByteArray) : s.toList.length = s.size := by
  rw [ByteArray.toList_eq]; simp
theorem badAt_bh {l : List Tg} {i : Nat} (h : i < l.length) : badAt l i = chkBh (nmA l i) l[i] := by
  cases i with
  | zero =>
    rw [badAt_first h, nmA_zero, chkBh, toList_nil, less_nil]
    by_cases hc : chkT l[0] = 0
    · have hn := (by unfold chkT at hc; cases h : nameB (bys l[0].nm) with | true => rfl | false => rw [h] at hc; simp at hc : nameB (bys l[0].nm) = true)
      have e : (l[0].nm.toList == ([] : List UInt8)) = false := by
        rw [beq_eq_false_iff_ne]
        intro e
        have h0 : l[0].nm.size = 0 := by rw [← toList_len, e]; rfl
        have h1 : 1 ≤ (bys l[0].nm).length := by
          unfold nameB at hn
          simp only [Bool.and_eq_true, decide_eq_true_eq] at hn
          exact hn.1.1.1
        rw [bys_len] at h1
        omega
      rw [e, hc]; rfl
    · rw [decide_eq_false hc]; rfl
  | succ i =>
    rw [nmA_succ (by omega)]
    by_cases hc : chkT l[i + 1] = 0
    · rw [badAt_next h hc, badN, chkBh, hc]; rfl
    · rw [badAt_chk h hc, chkBh, decide_eq_false hc]; rfl

theorem Find9_any (A : Option Addr) (n c : Nat) (l : List Tg) (s : ByteArray) (w : World) (hr : VRow w w.heap.size A (flatV tgC l)) (hn : l.length = n) (hb : n ≤ 4611686018427387904) :
    Calls Try.prog 18 #[.slice A n c, .string s] w fun e w' => e = .returned (.int .i64 (findT l s)) ∧ Below w.heap.size w w' := by
  have hn' := Lib.hid hn
  clear hn
  go_enter Try.func18, Try.ntmps18
  go_wp2
  go_loopw [9] (fun i wr => ∃ k : Nat, k ≤ n ∧ i = .int .i64 k ∧ Hid (∀ j (hj : j < l.length), j < k → l[j].nm.toList ≠ s.toList) ∧ Hid (Below w.heap.size w wr)) (fun i _ => n - (intOf i).toNat)
  case atStart => exact ⟨0, by omega, rfl, Lib.hid (fun j _ hj => absurd hj (by omega)), Lib.hid (Below.refl _ _)⟩
  case round =>
    obtain ⟨k, hk, rfl, hall, hbel⟩ := hrel
    by_cases hlt : k < n
    · have hkl : k < l.length := by have := hn'.out; omega
      obtain ⟨b, o, rfl, hb1, hld, hc1⟩ := (hr.below hbel.out).load hkl
      obtain ⟨t, ht⟩ : ∃ t, l[k] = t := ⟨_, rfl⟩
      rw [ht] at hld hc1
      have HT := Lib.hid ht
      clear ht
      have hlt' : (k : Int) < (n : Int) := by omega
      have hk0 : (0 : Int) ≤ k := by omega
      have hbel1 := Lib.hid (hbel.out.alloc hbel.out.size (.cells (tgC t).toArray 29))
      have hst := made_tag wr t
      have hcn : (wr.alloc (.cells (tgC t).toArray 29)).cell? ⟨wr.heap.size, 0, none⟩ = some (.string t.nm) := cell_of_row _ _ 0 _ _ _ (heap_alloc_new wr (.cells (tgC t).toArray 29))
      clear hbel
      by_cases he : t.nm.toList = s.toList
      · have HF : Hid (findT l s = k) := Lib.hid (findT_at hkl (by rw [HT.out]; exact he) (fun j hj => hall.out j _ hj))
        have he2 : (t.nm.toList == s.toList) = true := by simp [he]
        clear he
        go_wp2
        go_ret
        exact ⟨by rw [HF.out]; rfl, hbel1.out⟩
      · have hall2 : Hid (∀ j (hj : j < l.length), j < k + 1 → l[j].nm.toList ≠ s.toList) := Lib.hid (fun j hjl hj => by
          rcases Nat.lt_or_ge j k with h | h
          · exact hall.out j hjl h
          · obtain rfl : j = k := by omega
            rw [HT.out]; exact he)
        have he2 : (t.nm.toList == s.toList) = false := by simp [he]
        go_wp2
        go_roundw
        case rel => exact ⟨k + 1, by omega, by go_num, hall2, hbel1⟩
        case measure => simp [intOf]; omega
    · have HF : Hid (findT l s = -1) := Lib.hid (findT_none (fun j hj => hall.out j hj (by have := hn'.out; omega)))
      go_wp2
      go_ret
      exact ⟨by rw [HF.out]; rfl, hbel.out⟩
set_option maxHeartbeats 1000000 in
theorem CheckAll9_any (A : Option Addr) (n c : Nat) (l : List Tg) (w : World) (hr : VRow w w.heap.size A (flatV tgC l)) (hn : l.length = n) (hb : n ≤ 4611686018427387904) (hok : ∀ t ∈ l, Tg.Ok t) :
    Calls Try.prog 16 #[.slice A n c] w fun e w' => e = .returned (.tuple #[.int .i64 (chkAll l).1, .int .i64 (chkAll l).2]) ∧ Below w.heap.size w w' := by
  by_cases hbig : 64 < n
  · have HA : Hid (chkAll l = (34, 0)) := Lib.hid (chkAll_many (by omega))
    have hbig' : (64 : Int) < n := by omega
    rw [HA.out]
    go_enter Try.func16, Try.ntmps16
    go_wp2
    (try simp only [Exit.inBlock, Exit.then])
    refine bodyPost_ret (v := .tuple #[.int .i64 34, .int .i64 0]) (by simp [results, Try.results16, go_sem, *]) rfl ?_
    exact ⟨rfl, Below.refl _ _⟩
  have H64 : Hid (¬ 64 < l.length) := Lib.hid (by omega)
  have hbig' : ¬ (64 : Int) < n := by omega
  have hn' := Lib.hid hn
  have HOK := Lib.hid hok
  clear hn hok
  go_enter Try.func16, Try.ntmps16
  go_wp2
  go_loopw [4, 13] (fun u i wr => ∃ k : Nat, k ≤ n ∧ i = .int .i64 k ∧ (∃ s, u = .string s ∧ Hid (k < n → s = nmA l k)) ∧ Hid (∀ j, j < k → badAt l j = 0) ∧ Hid (Below w.heap.size w wr)) (fun u i _ => n - (intOf i).toNat)
  case atStart => exact ⟨0, by omega, rfl, ⟨_, rfl, Lib.hid (fun _ => (nmA_zero l).symm)⟩, Lib.hid (fun j hj => absurd hj (by omega)), Lib.hid (Below.refl _ _)⟩
  case round =>
    obtain ⟨k, hk, rfl, ⟨s, rfl, hs⟩, hall, hbel⟩ := hrel
    by_cases hlt : k < n
    · have hkl : k < l.length := by have := hn'.out; omega
      obtain ⟨b, o, rfl, hb1, hld, hc1⟩ := (hr.below hbel.out).load hkl
      have HS := Lib.hid (HOK.out _ (List.getElem_mem hkl)).1
      have HB : Hid (badAt l k = chkBh s l[k]) := Lib.hid (by rw [hs.out hlt]; exact badAt_bh hkl)
      have HNX : Hid (k + 1 < n → l[k].nm = nmA l (k + 1)) := Lib.hid (fun _ => (nmA_succ hkl).symm)
      generalize l[k] = t at hld hc1 HS HB HNX
      have hlt' : (k : Int) < (n : Int) := by omega
      have hk0 : (0 : Int) ≤ k := by omega
      have hnb := heap_alloc_new wr (.cells (tgC t).toArray 29)
      have hbel1 := hbel.out.alloc hbel.out.size (.cells (tgC t).toArray 29)
      have hst := made_tag wr t
      have hld3 : (ldTag (.pointer (some ⟨wr.heap.size, 0, none⟩))).run Try.prog (wr.alloc (.cells (tgC t).toArray 29)) = .ok (tgV t) (wr.alloc (.cells (tgC t).toArray 29)) := ldTag_run (tgC_len t) (rangeB hnb)
      have hsz := hbel.out.size
      clear hbel
      go_wp2_with fail
      refine (behind9_t s t _ HS.out).mono ?_
      rintro e w1 ⟨rfl, b1⟩
      have h1 := keepB b1 hnb
      have hbel2 := Lib.hid (hbel1.trans (b1.mono hbel1.size))
      have hcn : w1.cell? ⟨wr.heap.size, 0, none⟩ = some (.string t.nm) := cell_of_row _ _ 0 _ _ _ h1
      clear hld hst hld3 hnb hbel1 b1
      by_cases hc : chkBh s t = 0
      case neg =>
        have HA : Hid (chkAll l = (chkBh s t, (k : Int))) := Lib.hid (chkAll_at H64.out hkl HB.out hc hall.out)
        generalize chkBh s t = ec at *
        have hc2 : (ec == 0) = false := beq_false_of_ne hc
        go_wp2
        (try simp only [Exit.inBlock, Exit.then])
        refine bodyPost_ret (v := .tuple #[.int .i64 ec, .int .i64 k]) (by simp [results, Try.results16, go_sem, *]) rfl ?_
        exact ⟨by rw [HA.out], hbel2.out⟩
      case pos =>
        rw [hc]
        have hall2 : Hid (∀ j, j < k + 1 → badAt l j = 0) := Lib.hid (fun j hj => by
          rcases Nat.lt_or_ge j k with h | h
          · exact hall.out j h
          · obtain rfl : j = k := by omega
            rw [HB.out]; exact hc)
        clear hc
        go_wp2
        go_roundw
        case rel => exact ⟨k + 1, by omega, by go_num, ⟨t.nm, rfl, HNX⟩, hall2, hbel2⟩
        case measure => simp [intOf]; omega
    · have HA : Hid (chkAll l = (0, 0)) := Lib.hid (chkAll_none H64.out (fun j hj => hall.out j (by have := hn'.out; omega)))
      go_wp2
      (try simp only [Exit.inBlock, Exit.then])
      refine bodyPost_ret (v := .tuple #[.int .i64 0, .int .i64 0]) (by simp [results, Try.results16, go_sem, *]) rfl ?_
      exact ⟨by rw [HA.out], hbel.out⟩
end Go.Proofs.Ytmakegbkgiajdaa
