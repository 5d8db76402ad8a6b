/-
  The document's contract of Check of layer 9 (up to the ticks).
-/
import Derived.Test.YtmakegbkgiajdaaTgRef
namespace Go.Proofs.Ytmakegbkgiajdaa
open Go.RowKit
set_option linter.unusedVariables false
attribute [local go_sem ↓] ldTag_fold

set_option maxHeartbeats 1000000 in
theorem rc9_1 (nm : ByteArray) (un ki ad ev : Int) (we sg sw : Bool) (mu di aa de qu : Int) (ul uh la : Bool) (lo hi hy : Int) (w : World) (hs : nm.size ≤ maxLen) (hn0 : nameB (bys nm) = false) : Calls Try.prog 14 #[.agg #[.string nm, .int .i64 un, .int .i64 ki, .int .i64 ad, .int .i64 ev, .bool we, .bool sg, .bool sw, .int .i64 mu, .int .i64 di, .int .i64 aa, .int .i64 de, .int .i64 qu, .bool ul, .bool uh, .bool la, .int .i64 lo, .int .i64 hi, .int .i64 hy]] w fun e w' => e = .returned (.int .i64 8) ∧ Below w.heap.size w w' := by
  have h0 := heap_alloc_new w (.cells #[.string nm, .int .i64 un, .int .i64 ki, .int .i64 ad, .int .i64 ev, .bool we, .bool sg, .bool sw, .int .i64 mu, .int .i64 di, .int .i64 aa, .int .i64 de, .int .i64 qu, .bool ul, .bool uh, .bool la, .int .i64 lo, .int .i64 hi, .int .i64 hy] 29)
  have bel0 := bel_alloc w (.cells #[.string nm, .int .i64 un, .int .i64 ki, .int .i64 ad, .int .i64 ev, .bool we, .bool sg, .bool sw, .int .i64 mu, .int .i64 di, .int .i64 aa, .int .i64 de, .int .i64 qu, .bool ul, .bool uh, .bool la, .int .i64 lo, .int .i64 hi, .int .i64 hy] 29)
  go_enter Try.func14, Try.ntmps14
  go_wp2_with fail
  refine (refName_any nm _ hs).mono ?_
  rintro e w' ⟨rfl, rfl⟩
  rw [hn0]
  clear hn0
  go_wp2
  go_ret
  exact ⟨rfl, bel0⟩

set_option maxHeartbeats 1000000 in
theorem rc9_2 (nm : ByteArray) (un ki ad ev : Int) (we sg sw : Bool) (mu di aa de qu : Int) (ul uh la : Bool) (lo hi hy : Int) (w : World) (hs : nm.size ≤ maxLen) (hn : nameB (bys nm) = true) (u1y : un < 1) : Calls Try.prog 14 #[.agg #[.string nm, .int .i64 un, .int .i64 ki, .int .i64 ad, .int .i64 ev, .bool we, .bool sg, .bool sw, .int .i64 mu, .int .i64 di, .int .i64 aa, .int .i64 de, .int .i64 qu, .bool ul, .bool uh, .bool la, .int .i64 lo, .int .i64 hi, .int .i64 hy]] w fun e w' => e = .returned (.int .i64 24) ∧ Below w.heap.size w w' := by
  have h0 := heap_alloc_new w (.cells #[.string nm, .int .i64 un, .int .i64 ki, .int .i64 ad, .int .i64 ev, .bool we, .bool sg, .bool sw, .int .i64 mu, .int .i64 di, .int .i64 aa, .int .i64 de, .int .i64 qu, .bool ul, .bool uh, .bool la, .int .i64 lo, .int .i64 hi, .int .i64 hy] 29)
  have bel0 := bel_alloc w (.cells #[.string nm, .int .i64 un, .int .i64 ki, .int .i64 ad, .int .i64 ev, .bool we, .bool sg, .bool sw, .int .i64 mu, .int .i64 di, .int .i64 aa, .int .i64 de, .int .i64 qu, .bool ul, .bool uh, .bool la, .int .i64 lo, .int .i64 hi, .int .i64 hy] 29)
  go_enter Try.func14, Try.ntmps14
  go_wp2_with fail
  refine (refName_any nm _ hs).mono ?_
  rintro e w' ⟨rfl, rfl⟩
  rw [hn]
  clear hn
  go_wp2
  go_ret
  exact ⟨rfl, bel0⟩

set_option maxHeartbeats 1000000 in
theorem rc9_3 (nm : ByteArray) (un ki ad ev : Int) (we sg sw : Bool) (mu di aa de qu : Int) (ul uh la : Bool) (lo hi hy : Int) (w : World) (hs : nm.size ≤ maxLen) (hn : nameB (bys nm) = true) (u1 : ¬ un < 1) (u2y : un > 247) : Calls Try.prog 14 #[.agg #[.string nm, .int .i64 un, .int .i64 ki, .int .i64 ad, .int .i64 ev, .bool we, .bool sg, .bool sw, .int .i64 mu, .int .i64 di, .int .i64 aa, .int .i64 de, .int .i64 qu, .bool ul, .bool uh, .bool la, .int .i64 lo, .int .i64 hi, .int .i64 hy]] w fun e w' => e = .returned (.int .i64 24) ∧ Below w.heap.size w w' := by
  have h0 := heap_alloc_new w (.cells #[.string nm, .int .i64 un, .int .i64 ki, .int .i64 ad, .int .i64 ev, .bool we, .bool sg, .bool sw, .int .i64 mu, .int .i64 di, .int .i64 aa, .int .i64 de, .int .i64 qu, .bool ul, .bool uh, .bool la, .int .i64 lo, .int .i64 hi, .int .i64 hy] 29)
  have bel0 := bel_alloc w (.cells #[.string nm, .int .i64 un, .int .i64 ki, .int .i64 ad, .int .i64 ev, .bool we, .bool sg, .bool sw, .int .i64 mu, .int .i64 di, .int .i64 aa, .int .i64 de, .int .i64 qu, .bool ul, .bool uh, .bool la, .int .i64 lo, .int .i64 hi, .int .i64 hy] 29)
  go_enter Try.func14, Try.ntmps14
  go_wp2_with fail
  refine (refName_any nm _ hs).mono ?_
  rintro e w' ⟨rfl, rfl⟩
  rw [hn]
  clear hn
  go_wp2
  go_ret
  exact ⟨rfl, bel0⟩

set_option maxHeartbeats 1000000 in
theorem rc9_4 (nm : ByteArray) (un ki ad ev : Int) (we sg sw : Bool) (mu di aa de qu : Int) (ul uh la : Bool) (lo hi hy : Int) (w : World) (hs : nm.size ≤ maxLen) (hn : nameB (bys nm) = true) (u1 : ¬ un < 1) (u2 : ¬ un > 247) (k1y : ki < 1) : Calls Try.prog 14 #[.agg #[.string nm, .int .i64 un, .int .i64 ki, .int .i64 ad, .int .i64 ev, .bool we, .bool sg, .bool sw, .int .i64 mu, .int .i64 di, .int .i64 aa, .int .i64 de, .int .i64 qu, .bool ul, .bool uh, .bool la, .int .i64 lo, .int .i64 hi, .int .i64 hy]] w fun e w' => e = .returned (.int .i64 28) ∧ Below w.heap.size w w' := by
  have h0 := heap_alloc_new w (.cells #[.string nm, .int .i64 un, .int .i64 ki, .int .i64 ad, .int .i64 ev, .bool we, .bool sg, .bool sw, .int .i64 mu, .int .i64 di, .int .i64 aa, .int .i64 de, .int .i64 qu, .bool ul, .bool uh, .bool la, .int .i64 lo, .int .i64 hi, .int .i64 hy] 29)
  have bel0 := bel_alloc w (.cells #[.string nm, .int .i64 un, .int .i64 ki, .int .i64 ad, .int .i64 ev, .bool we, .bool sg, .bool sw, .int .i64 mu, .int .i64 di, .int .i64 aa, .int .i64 de, .int .i64 qu, .bool ul, .bool uh, .bool la, .int .i64 lo, .int .i64 hi, .int .i64 hy] 29)
  go_enter Try.func14, Try.ntmps14
  go_wp2_with fail
  refine (refName_any nm _ hs).mono ?_
  rintro e w' ⟨rfl, rfl⟩
  rw [hn]
  clear hn
  go_wp2
  go_ret
  exact ⟨rfl, bel0⟩

set_option maxHeartbeats 1000000 in
theorem rc9_5 (nm : ByteArray) (un ki ad ev : Int) (we sg sw : Bool) (mu di aa de qu : Int) (ul uh la : Bool) (lo hi hy : Int) (w : World) (hs : nm.size ≤ maxLen) (hn : nameB (bys nm) = true) (u1 : ¬ un < 1) (u2 : ¬ un > 247) (k1 : ¬ ki < 1) (k2y : ki > 4) : Calls Try.prog 14 #[.agg #[.string nm, .int .i64 un, .int .i64 ki, .int .i64 ad, .int .i64 ev, .bool we, .bool sg, .bool sw, .int .i64 mu, .int .i64 di, .int .i64 aa, .int .i64 de, .int .i64 qu, .bool ul, .bool uh, .bool la, .int .i64 lo, .int .i64 hi, .int .i64 hy]] w fun e w' => e = .returned (.int .i64 28) ∧ Below w.heap.size w w' := by
  have h0 := heap_alloc_new w (.cells #[.string nm, .int .i64 un, .int .i64 ki, .int .i64 ad, .int .i64 ev, .bool we, .bool sg, .bool sw, .int .i64 mu, .int .i64 di, .int .i64 aa, .int .i64 de, .int .i64 qu, .bool ul, .bool uh, .bool la, .int .i64 lo, .int .i64 hi, .int .i64 hy] 29)
  have bel0 := bel_alloc w (.cells #[.string nm, .int .i64 un, .int .i64 ki, .int .i64 ad, .int .i64 ev, .bool we, .bool sg, .bool sw, .int .i64 mu, .int .i64 di, .int .i64 aa, .int .i64 de, .int .i64 qu, .bool ul, .bool uh, .bool la, .int .i64 lo, .int .i64 hi, .int .i64 hy] 29)
  go_enter Try.func14, Try.ntmps14
  go_wp2_with fail
  refine (refName_any nm _ hs).mono ?_
  rintro e w' ⟨rfl, rfl⟩
  rw [hn]
  clear hn
  go_wp2
  go_ret
  exact ⟨rfl, bel0⟩

set_option maxHeartbeats 1000000 in
theorem rc9_6 (nm : ByteArray) (un ki ad ev : Int) (we sg sw : Bool) (mu di aa de qu : Int) (ul uh la : Bool) (lo hi hy : Int) (w : World) (hs : nm.size ≤ maxLen) (hn : nameB (bys nm) = true) (u1 : ¬ un < 1) (u2 : ¬ un > 247) (k1 : ¬ ki < 1) (k2 : ¬ ki > 4) (d1y : ad < 0) : Calls Try.prog 14 #[.agg #[.string nm, .int .i64 un, .int .i64 ki, .int .i64 ad, .int .i64 ev, .bool we, .bool sg, .bool sw, .int .i64 mu, .int .i64 di, .int .i64 aa, .int .i64 de, .int .i64 qu, .bool ul, .bool uh, .bool la, .int .i64 lo, .int .i64 hi, .int .i64 hy]] w fun e w' => e = .returned (.int .i64 21) ∧ Below w.heap.size w w' := by
  have h0 := heap_alloc_new w (.cells #[.string nm, .int .i64 un, .int .i64 ki, .int .i64 ad, .int .i64 ev, .bool we, .bool sg, .bool sw, .int .i64 mu, .int .i64 di, .int .i64 aa, .int .i64 de, .int .i64 qu, .bool ul, .bool uh, .bool la, .int .i64 lo, .int .i64 hi, .int .i64 hy] 29)
  have bel0 := bel_alloc w (.cells #[.string nm, .int .i64 un, .int .i64 ki, .int .i64 ad, .int .i64 ev, .bool we, .bool sg, .bool sw, .int .i64 mu, .int .i64 di, .int .i64 aa, .int .i64 de, .int .i64 qu, .bool ul, .bool uh, .bool la, .int .i64 lo, .int .i64 hi, .int .i64 hy] 29)
  go_enter Try.func14, Try.ntmps14
  go_wp2_with fail
  refine (refName_any nm _ hs).mono ?_
  rintro e w' ⟨rfl, rfl⟩
  rw [hn]
  clear hn
  go_wp2
  go_quiet (fail)
  go_wp2
  go_ret
  exact ⟨rfl, below_drewN bel0 _⟩

set_option maxHeartbeats 1000000 in
theorem rc9_7 (nm : ByteArray) (un ki ad ev : Int) (we sg sw : Bool) (mu di aa de qu : Int) (ul uh la : Bool) (lo hi hy : Int) (w : World) (hs : nm.size ≤ maxLen) (hn : nameB (bys nm) = true) (u1 : ¬ un < 1) (u2 : ¬ un > 247) (k1 : ¬ ki < 1) (k2 : ¬ ki > 4) (d1 : ¬ ad < 0) (d2y : ad > 65536 - widT ⟨nm, un, ki, ad, ev, we, sg, sw, mu, di, aa, de, qu, ul, uh, la, lo, hi, hy⟩) : Calls Try.prog 14 #[.agg #[.string nm, .int .i64 un, .int .i64 ki, .int .i64 ad, .int .i64 ev, .bool we, .bool sg, .bool sw, .int .i64 mu, .int .i64 di, .int .i64 aa, .int .i64 de, .int .i64 qu, .bool ul, .bool uh, .bool la, .int .i64 lo, .int .i64 hi, .int .i64 hy]] w fun e w' => e = .returned (.int .i64 21) ∧ Below w.heap.size w w' := by
  have h0 := heap_alloc_new w (.cells #[.string nm, .int .i64 un, .int .i64 ki, .int .i64 ad, .int .i64 ev, .bool we, .bool sg, .bool sw, .int .i64 mu, .int .i64 di, .int .i64 aa, .int .i64 de, .int .i64 qu, .bool ul, .bool uh, .bool la, .int .i64 lo, .int .i64 hi, .int .i64 hy] 29)
  have bel0 := bel_alloc w (.cells #[.string nm, .int .i64 un, .int .i64 ki, .int .i64 ad, .int .i64 ev, .bool we, .bool sg, .bool sw, .int .i64 mu, .int .i64 di, .int .i64 aa, .int .i64 de, .int .i64 qu, .bool ul, .bool uh, .bool la, .int .i64 lo, .int .i64 hi, .int .i64 hy] 29)
  obtain ⟨wd, hwd⟩ : ∃ x, widT ⟨nm, un, ki, ad, ev, we, sg, sw, mu, di, aa, de, qu, ul, uh, la, lo, hi, hy⟩ = x := ⟨_, rfl⟩
  have hw12 := widT_le (⟨nm, un, ki, ad, ev, we, sg, sw, mu, di, aa, de, qu, ul, uh, la, lo, hi, hy⟩)
  have HW : Hid (∀ W : World, Calls Try.prog 12 #[.agg #[.string nm, .int .i64 un, .int .i64 ki, .int .i64 ad, .int .i64 ev, .bool we, .bool sg, .bool sw, .int .i64 mu, .int .i64 di, .int .i64 aa, .int .i64 de, .int .i64 qu, .bool ul, .bool uh, .bool la, .int .i64 lo, .int .i64 hi, .int .i64 hy]] W fun e w' => e = .returned (.int .i64 (widT ⟨nm, un, ki, ad, ev, we, sg, sw, mu, di, aa, de, qu, ul, uh, la, lo, hi, hy⟩)) ∧ Below W.heap.size W w') := Lib.hid fun W => refWidth_any nm un ki ad ev we sg sw mu di aa de qu ul uh la lo hi hy W
  rw [hwd] at d2y hw12 HW
  clear hwd
  have dd : decide (ad < 0) = false := decide_eq_false (by omega)
  have hwr : IntKind.i64.wrap (65536 - wd) = 65536 - wd := by rw [IntKind.wrap_i64]; omega
  go_enter Try.func14, Try.ntmps14
  go_wp2_with fail
  refine (refName_any nm _ hs).mono ?_
  rintro e w' ⟨rfl, rfl⟩
  rw [hn]
  clear hn
  go_wp2
  generalize w.alloc (.cells #[.string nm, .int .i64 un, .int .i64 ki, .int .i64 ad, .int .i64 ev, .bool we, .bool sg, .bool sw, .int .i64 mu, .int .i64 di, .int .i64 aa, .int .i64 de, .int .i64 qu, .bool ul, .bool uh, .bool la, .int .i64 lo, .int .i64 hi, .int .i64 hy] 29) = w0 at *
  have HK : Hid (∀ w9 : World, Below w0.heap.size w0 w9 → (Below w0.heap.size w0 w9 ∧ w9.cell? ⟨w.heap.size, 3, none⟩ = some (.int .i64 ad) ∧ (ldTag (.pointer (some ⟨w.heap.size, 0, none⟩))).run Try.prog w9 = .ok (.agg #[.string nm, .int .i64 un, .int .i64 ki, .int .i64 ad, .int .i64 ev, .bool we, .bool sg, .bool sw, .int .i64 mu, .int .i64 di, .int .i64 aa, .int .i64 de, .int .i64 qu, .bool ul, .bool uh, .bool la, .int .i64 lo, .int .i64 hi, .int .i64 hy]) w9)) := Lib.hid fun w9 hw => ⟨hw, (of19 nm un ki ad ev we sg sw mu di aa de qu ul uh la lo hi hy (keepB hw h0)).2.2.2.1, ldTag_run rfl (rangeB (cs := [.string nm, .int .i64 un, .int .i64 ki, .int .i64 ad, .int .i64 ev, .bool we, .bool sg, .bool sw, .int .i64 mu, .int .i64 di, .int .i64 aa, .int .i64 de, .int .i64 qu, .bool ul, .bool uh, .bool la, .int .i64 lo, .int .i64 hi, .int .i64 hy]) (keepB hw h0))⟩
  have belh : ∀ w9 : World, (Below w0.heap.size w0 w9 ∧ w9.cell? ⟨w.heap.size, 3, none⟩ = some (.int .i64 ad) ∧ (ldTag (.pointer (some ⟨w.heap.size, 0, none⟩))).run Try.prog w9 = .ok (.agg #[.string nm, .int .i64 un, .int .i64 ki, .int .i64 ad, .int .i64 ev, .bool we, .bool sg, .bool sw, .int .i64 mu, .int .i64 di, .int .i64 aa, .int .i64 de, .int .i64 qu, .bool ul, .bool uh, .bool la, .int .i64 lo, .int .i64 hi, .int .i64 hy]) w9) → Below w0.heap.size w0 w9 := fun w9 h => h.1
  go_region_held3 (fun w9 => Below w0.heap.size w0 w9 ∧ w9.cell? ⟨w.heap.size, 3, none⟩ = some (.int .i64 ad) ∧ (ldTag (.pointer (some ⟨w.heap.size, 0, none⟩))).run Try.prog w9 = .ok (.agg #[.string nm, .int .i64 un, .int .i64 ki, .int .i64 ad, .int .i64 ev, .bool we, .bool sg, .bool sw, .int .i64 mu, .int .i64 di, .int .i64 aa, .int .i64 de, .int .i64 qu, .bool ul, .bool uh, .bool la, .int .i64 lo, .int .i64 hi, .int .i64 hy]) w9)
    ((refine HK.out _ ?_
      repeat' (first
        | with_reducible exact Below.refl _ _
        | with_reducible exact bel5
        | with_reducible exact belh _ (by assumption)
        | with_reducible apply below_drew
        | with_reducible apply below_drewN
        | fail)))
    (first
      | (go_at_call 12; refine (HW.out _).mono ?_; rintro e w5 ⟨rfl, b5⟩; have bel5 : Below w0.heap.size w0 w5 := Below.trans (belh _ (by assumption)) (b5.mono (Below.size (belh _ (by assumption)))))
      | fail)
  have h5 := keepB bel5 h0
  have bel6 := bel0.trans (bel5.mono bel0.size)
  clear HK belh bel5 h0 bel0 HW
  obtain ⟨c0, c1, c2, c3, c4, c5, c6, c7, c8, c9, c10, c11, c12, c13, c14, c15, c16, c17, c18⟩ := of19 nm un ki ad ev we sg sw mu di aa de qu ul uh la lo hi hy h5
  go_wp2
  go_ret
  exact ⟨rfl, bel6⟩

set_option maxHeartbeats 1000000 in
theorem rc9_8 (nm : ByteArray) (un ki ad ev : Int) (we sg sw : Bool) (mu di aa de qu : Int) (ul uh la : Bool) (lo hi hy : Int) (w : World) (hs : nm.size ≤ maxLen) (hn : nameB (bys nm) = true) (u1 : ¬ un < 1) (u2 : ¬ un > 247) (k1 : ¬ ki < 1) (k2 : ¬ ki > 4) (d1 : ¬ ad < 0) (d2 : ¬ ad > 65536 - widT ⟨nm, un, ki, ad, ev, we, sg, sw, mu, di, aa, de, qu, ul, uh, la, lo, hi, hy⟩) (v1y : ev < 1) : Calls Try.prog 14 #[.agg #[.string nm, .int .i64 un, .int .i64 ki, .int .i64 ad, .int .i64 ev, .bool we, .bool sg, .bool sw, .int .i64 mu, .int .i64 di, .int .i64 aa, .int .i64 de, .int .i64 qu, .bool ul, .bool uh, .bool la, .int .i64 lo, .int .i64 hi, .int .i64 hy]] w fun e w' => e = .returned (.int .i64 3) ∧ Below w.heap.size w w' := by
  have h0 := heap_alloc_new w (.cells #[.string nm, .int .i64 un, .int .i64 ki, .int .i64 ad, .int .i64 ev, .bool we, .bool sg, .bool sw, .int .i64 mu, .int .i64 di, .int .i64 aa, .int .i64 de, .int .i64 qu, .bool ul, .bool uh, .bool la, .int .i64 lo, .int .i64 hi, .int .i64 hy] 29)
  have bel0 := bel_alloc w (.cells #[.string nm, .int .i64 un, .int .i64 ki, .int .i64 ad, .int .i64 ev, .bool we, .bool sg, .bool sw, .int .i64 mu, .int .i64 di, .int .i64 aa, .int .i64 de, .int .i64 qu, .bool ul, .bool uh, .bool la, .int .i64 lo, .int .i64 hi, .int .i64 hy] 29)
  obtain ⟨wd, hwd⟩ : ∃ x, widT ⟨nm, un, ki, ad, ev, we, sg, sw, mu, di, aa, de, qu, ul, uh, la, lo, hi, hy⟩ = x := ⟨_, rfl⟩
  have hw12 := widT_le (⟨nm, un, ki, ad, ev, we, sg, sw, mu, di, aa, de, qu, ul, uh, la, lo, hi, hy⟩)
  have HW : Hid (∀ W : World, Calls Try.prog 12 #[.agg #[.string nm, .int .i64 un, .int .i64 ki, .int .i64 ad, .int .i64 ev, .bool we, .bool sg, .bool sw, .int .i64 mu, .int .i64 di, .int .i64 aa, .int .i64 de, .int .i64 qu, .bool ul, .bool uh, .bool la, .int .i64 lo, .int .i64 hi, .int .i64 hy]] W fun e w' => e = .returned (.int .i64 (widT ⟨nm, un, ki, ad, ev, we, sg, sw, mu, di, aa, de, qu, ul, uh, la, lo, hi, hy⟩)) ∧ Below W.heap.size W w') := Lib.hid fun W => refWidth_any nm un ki ad ev we sg sw mu di aa de qu ul uh la lo hi hy W
  rw [hwd] at d2 hw12 HW
  clear hwd
  have dd : decide (ad < 0) = false := decide_eq_false (by omega)
  have hwr : IntKind.i64.wrap (65536 - wd) = 65536 - wd := by rw [IntKind.wrap_i64]; omega
  go_enter Try.func14, Try.ntmps14
  go_wp2_with fail
  refine (refName_any nm _ hs).mono ?_
  rintro e w' ⟨rfl, rfl⟩
  rw [hn]
  clear hn
  go_wp2
  generalize w.alloc (.cells #[.string nm, .int .i64 un, .int .i64 ki, .int .i64 ad, .int .i64 ev, .bool we, .bool sg, .bool sw, .int .i64 mu, .int .i64 di, .int .i64 aa, .int .i64 de, .int .i64 qu, .bool ul, .bool uh, .bool la, .int .i64 lo, .int .i64 hi, .int .i64 hy] 29) = w0 at *
  have HK : Hid (∀ w9 : World, Below w0.heap.size w0 w9 → (Below w0.heap.size w0 w9 ∧ w9.cell? ⟨w.heap.size, 3, none⟩ = some (.int .i64 ad) ∧ (ldTag (.pointer (some ⟨w.heap.size, 0, none⟩))).run Try.prog w9 = .ok (.agg #[.string nm, .int .i64 un, .int .i64 ki, .int .i64 ad, .int .i64 ev, .bool we, .bool sg, .bool sw, .int .i64 mu, .int .i64 di, .int .i64 aa, .int .i64 de, .int .i64 qu, .bool ul, .bool uh, .bool la, .int .i64 lo, .int .i64 hi, .int .i64 hy]) w9)) := Lib.hid fun w9 hw => ⟨hw, (of19 nm un ki ad ev we sg sw mu di aa de qu ul uh la lo hi hy (keepB hw h0)).2.2.2.1, ldTag_run rfl (rangeB (cs := [.string nm, .int .i64 un, .int .i64 ki, .int .i64 ad, .int .i64 ev, .bool we, .bool sg, .bool sw, .int .i64 mu, .int .i64 di, .int .i64 aa, .int .i64 de, .int .i64 qu, .bool ul, .bool uh, .bool la, .int .i64 lo, .int .i64 hi, .int .i64 hy]) (keepB hw h0))⟩
  have belh : ∀ w9 : World, (Below w0.heap.size w0 w9 ∧ w9.cell? ⟨w.heap.size, 3, none⟩ = some (.int .i64 ad) ∧ (ldTag (.pointer (some ⟨w.heap.size, 0, none⟩))).run Try.prog w9 = .ok (.agg #[.string nm, .int .i64 un, .int .i64 ki, .int .i64 ad, .int .i64 ev, .bool we, .bool sg, .bool sw, .int .i64 mu, .int .i64 di, .int .i64 aa, .int .i64 de, .int .i64 qu, .bool ul, .bool uh, .bool la, .int .i64 lo, .int .i64 hi, .int .i64 hy]) w9) → Below w0.heap.size w0 w9 := fun w9 h => h.1
  go_region_held3 (fun w9 => Below w0.heap.size w0 w9 ∧ w9.cell? ⟨w.heap.size, 3, none⟩ = some (.int .i64 ad) ∧ (ldTag (.pointer (some ⟨w.heap.size, 0, none⟩))).run Try.prog w9 = .ok (.agg #[.string nm, .int .i64 un, .int .i64 ki, .int .i64 ad, .int .i64 ev, .bool we, .bool sg, .bool sw, .int .i64 mu, .int .i64 di, .int .i64 aa, .int .i64 de, .int .i64 qu, .bool ul, .bool uh, .bool la, .int .i64 lo, .int .i64 hi, .int .i64 hy]) w9)
    ((refine HK.out _ ?_
      repeat' (first
        | with_reducible exact Below.refl _ _
        | with_reducible exact bel5
        | with_reducible exact belh _ (by assumption)
        | with_reducible apply below_drew
        | with_reducible apply below_drewN
        | fail)))
    (first
      | (go_at_call 12; refine (HW.out _).mono ?_; rintro e w5 ⟨rfl, b5⟩; have bel5 : Below w0.heap.size w0 w5 := Below.trans (belh _ (by assumption)) (b5.mono (Below.size (belh _ (by assumption)))))
      | fail)
  have h5 := keepB bel5 h0
  have bel6 := bel0.trans (bel5.mono bel0.size)
  clear HK belh bel5 h0 bel0 HW
  obtain ⟨c0, c1, c2, c3, c4, c5, c6, c7, c8, c9, c10, c11, c12, c13, c14, c15, c16, c17, c18⟩ := of19 nm un ki ad ev we sg sw mu di aa de qu ul uh la lo hi hy h5
  go_wp2
  go_ret
  exact ⟨rfl, bel6⟩

set_option maxHeartbeats 1000000 in
theorem rc9_9 (nm : ByteArray) (un ki ad ev : Int) (we sg sw : Bool) (mu di aa de qu : Int) (ul uh la : Bool) (lo hi hy : Int) (w : World) (hs : nm.size ≤ maxLen) (hn : nameB (bys nm) = true) (u1 : ¬ un < 1) (u2 : ¬ un > 247) (k1 : ¬ ki < 1) (k2 : ¬ ki > 4) (d1 : ¬ ad < 0) (d2 : ¬ ad > 65536 - widT ⟨nm, un, ki, ad, ev, we, sg, sw, mu, di, aa, de, qu, ul, uh, la, lo, hi, hy⟩) (v1 : ¬ ev < 1) (v2y : ev > 1048576) : Calls Try.prog 14 #[.agg #[.string nm, .int .i64 un, .int .i64 ki, .int .i64 ad, .int .i64 ev, .bool we, .bool sg, .bool sw, .int .i64 mu, .int .i64 di, .int .i64 aa, .int .i64 de, .int .i64 qu, .bool ul, .bool uh, .bool la, .int .i64 lo, .int .i64 hi, .int .i64 hy]] w fun e w' => e = .returned (.int .i64 3) ∧ Below w.heap.size w w' := by
  have h0 := heap_alloc_new w (.cells #[.string nm, .int .i64 un, .int .i64 ki, .int .i64 ad, .int .i64 ev, .bool we, .bool sg, .bool sw, .int .i64 mu, .int .i64 di, .int .i64 aa, .int .i64 de, .int .i64 qu, .bool ul, .bool uh, .bool la, .int .i64 lo, .int .i64 hi, .int .i64 hy] 29)
  have bel0 := bel_alloc w (.cells #[.string nm, .int .i64 un, .int .i64 ki, .int .i64 ad, .int .i64 ev, .bool we, .bool sg, .bool sw, .int .i64 mu, .int .i64 di, .int .i64 aa, .int .i64 de, .int .i64 qu, .bool ul, .bool uh, .bool la, .int .i64 lo, .int .i64 hi, .int .i64 hy] 29)
  obtain ⟨wd, hwd⟩ : ∃ x, widT ⟨nm, un, ki, ad, ev, we, sg, sw, mu, di, aa, de, qu, ul, uh, la, lo, hi, hy⟩ = x := ⟨_, rfl⟩
  have hw12 := widT_le (⟨nm, un, ki, ad, ev, we, sg, sw, mu, di, aa, de, qu, ul, uh, la, lo, hi, hy⟩)
  have HW : Hid (∀ W : World, Calls Try.prog 12 #[.agg #[.string nm, .int .i64 un, .int .i64 ki, .int .i64 ad, .int .i64 ev, .bool we, .bool sg, .bool sw, .int .i64 mu, .int .i64 di, .int .i64 aa, .int .i64 de, .int .i64 qu, .bool ul, .bool uh, .bool la, .int .i64 lo, .int .i64 hi, .int .i64 hy]] W fun e w' => e = .returned (.int .i64 (widT ⟨nm, un, ki, ad, ev, we, sg, sw, mu, di, aa, de, qu, ul, uh, la, lo, hi, hy⟩)) ∧ Below W.heap.size W w') := Lib.hid fun W => refWidth_any nm un ki ad ev we sg sw mu di aa de qu ul uh la lo hi hy W
  rw [hwd] at d2 hw12 HW
  clear hwd
  have dd : decide (ad < 0) = false := decide_eq_false (by omega)
  have hwr : IntKind.i64.wrap (65536 - wd) = 65536 - wd := by rw [IntKind.wrap_i64]; omega
  go_enter Try.func14, Try.ntmps14
  go_wp2_with fail
  refine (refName_any nm _ hs).mono ?_
  rintro e w' ⟨rfl, rfl⟩
  rw [hn]
  clear hn
  go_wp2
  generalize w.alloc (.cells #[.string nm, .int .i64 un, .int .i64 ki, .int .i64 ad, .int .i64 ev, .bool we, .bool sg, .bool sw, .int .i64 mu, .int .i64 di, .int .i64 aa, .int .i64 de, .int .i64 qu, .bool ul, .bool uh, .bool la, .int .i64 lo, .int .i64 hi, .int .i64 hy] 29) = w0 at *
  have HK : Hid (∀ w9 : World, Below w0.heap.size w0 w9 → (Below w0.heap.size w0 w9 ∧ w9.cell? ⟨w.heap.size, 3, none⟩ = some (.int .i64 ad) ∧ (ldTag (.pointer (some ⟨w.heap.size, 0, none⟩))).run Try.prog w9 = .ok (.agg #[.string nm, .int .i64 un, .int .i64 ki, .int .i64 ad, .int .i64 ev, .bool we, .bool sg, .bool sw, .int .i64 mu, .int .i64 di, .int .i64 aa, .int .i64 de, .int .i64 qu, .bool ul, .bool uh, .bool la, .int .i64 lo, .int .i64 hi, .int .i64 hy]) w9)) := Lib.hid fun w9 hw => ⟨hw, (of19 nm un ki ad ev we sg sw mu di aa de qu ul uh la lo hi hy (keepB hw h0)).2.2.2.1, ldTag_run rfl (rangeB (cs := [.string nm, .int .i64 un, .int .i64 ki, .int .i64 ad, .int .i64 ev, .bool we, .bool sg, .bool sw, .int .i64 mu, .int .i64 di, .int .i64 aa, .int .i64 de, .int .i64 qu, .bool ul, .bool uh, .bool la, .int .i64 lo, .int .i64 hi, .int .i64 hy]) (keepB hw h0))⟩
  have belh : ∀ w9 : World, (Below w0.heap.size w0 w9 ∧ w9.cell? ⟨w.heap.size, 3, none⟩ = some (.int .i64 ad) ∧ (ldTag (.pointer (some ⟨w.heap.size, 0, none⟩))).run Try.prog w9 = .ok (.agg #[.string nm, .int .i64 un, .int .i64 ki, .int .i64 ad, .int .i64 ev, .bool we, .bool sg, .bool sw, .int .i64 mu, .int .i64 di, .int .i64 aa, .int .i64 de, .int .i64 qu, .bool ul, .bool uh, .bool la, .int .i64 lo, .int .i64 hi, .int .i64 hy]) w9) → Below w0.heap.size w0 w9 := fun w9 h => h.1
  go_region_held3 (fun w9 => Below w0.heap.size w0 w9 ∧ w9.cell? ⟨w.heap.size, 3, none⟩ = some (.int .i64 ad) ∧ (ldTag (.pointer (some ⟨w.heap.size, 0, none⟩))).run Try.prog w9 = .ok (.agg #[.string nm, .int .i64 un, .int .i64 ki, .int .i64 ad, .int .i64 ev, .bool we, .bool sg, .bool sw, .int .i64 mu, .int .i64 di, .int .i64 aa, .int .i64 de, .int .i64 qu, .bool ul, .bool uh, .bool la, .int .i64 lo, .int .i64 hi, .int .i64 hy]) w9)
    ((refine HK.out _ ?_
      repeat' (first
        | with_reducible exact Below.refl _ _
        | with_reducible exact bel5
        | with_reducible exact belh _ (by assumption)
        | with_reducible apply below_drew
        | with_reducible apply below_drewN
        | fail)))
    (first
      | (go_at_call 12; refine (HW.out _).mono ?_; rintro e w5 ⟨rfl, b5⟩; have bel5 : Below w0.heap.size w0 w5 := Below.trans (belh _ (by assumption)) (b5.mono (Below.size (belh _ (by assumption)))))
      | fail)
  have h5 := keepB bel5 h0
  have bel6 := bel0.trans (bel5.mono bel0.size)
  clear HK belh bel5 h0 bel0 HW
  obtain ⟨c0, c1, c2, c3, c4, c5, c6, c7, c8, c9, c10, c11, c12, c13, c14, c15, c16, c17, c18⟩ := of19 nm un ki ad ev we sg sw mu di aa de qu ul uh la lo hi hy h5
  go_wp2
  go_ret
  exact ⟨rfl, bel6⟩
end Go.Proofs.Ytmakegbkgiajdaa
