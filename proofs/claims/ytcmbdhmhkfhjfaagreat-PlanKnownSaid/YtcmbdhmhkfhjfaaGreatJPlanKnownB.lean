/-
  Texts of the proof of PlanKnown, joined.
-/
import Derived.Test.YtcmbdhmhkfhjfaaGreatJPlanKnownA
import Derived.Deep.RegionHeld3
import Derived.Deep.MidRow
import Derived.WalkLawsBesides
namespace Go.Proofs.YtcmbdhmhkfhjfaaGreat
open Go.RowKit
set_option linter.unusedVariables false

def ldTag (v : Value) : Sem Value := Instr.loadAt 51 v
theorem ldTag_fold (v : Value) : Instr.loadAt 51 v = ldTag v := rfl
theorem size_tag : (Tryz.prog.info? 51).map (·.size) = some 19 := by kernel_rfl
theorem ldTag_run {w : World} {b o : Nat} {cs : List Value} (hl : cs.length = 19) (h : w.rangeAt b o cs) : (ldTag (.pointer (some ⟨b, o, none⟩))).run Tryz.prog w = .ok (.agg cs.toArray) w :=
  run_loadAt_mid w b o _ cs _ h Tryz.underlying51 rfl (by rw [hl]; exact size_tag)

theorem of19 {w : World} {g : Nat} (nm : ByteArray) (un ki ad ev : Int) (we sg sw : Bool) (mu di aa de qu : Int) (ul uh la : Bool) (lo hi hy : Int) {t : TypeId} (h : w.heap[g]? = some (.cells #[.string nm, .int .i64 un, .int .i64 ki, .int .i64 ad, .int .i64 ev, .bool we, .bool sg, .bool sw, .int .i64 mu, .int .i64 di, .int .i64 aa, .int .i64 de, .int .i64 qu, .bool ul, .bool uh, .bool la, .int .i64 lo, .int .i64 hi, .int .i64 hy] t (0, 0))) : w.cell? ⟨g, 0, none⟩ = some (.string nm) ∧ w.cell? ⟨g, 1, none⟩ = some (.int .i64 un) ∧ w.cell? ⟨g, 2, none⟩ = some (.int .i64 ki) ∧ w.cell? ⟨g, 3, none⟩ = some (.int .i64 ad) ∧ w.cell? ⟨g, 4, none⟩ = some (.int .i64 ev) ∧ w.cell? ⟨g, 5, none⟩ = some (.bool we) ∧ w.cell? ⟨g, 6, none⟩ = some (.bool sg) ∧ w.cell? ⟨g, 7, none⟩ = some (.bool sw) ∧ w.cell? ⟨g, 8, none⟩ = some (.int .i64 mu) ∧ w.cell? ⟨g, 9, none⟩ = some (.int .i64 di) ∧ w.cell? ⟨g, 10, none⟩ = some (.int .i64 aa) ∧ w.cell? ⟨g, 11, none⟩ = some (.int .i64 de) ∧ w.cell? ⟨g, 12, none⟩ = some (.int .i64 qu) ∧ w.cell? ⟨g, 13, none⟩ = some (.bool ul) ∧ w.cell? ⟨g, 14, none⟩ = some (.bool uh) ∧ w.cell? ⟨g, 15, none⟩ = some (.bool la) ∧ w.cell? ⟨g, 16, none⟩ = some (.int .i64 lo) ∧ w.cell? ⟨g, 17, none⟩ = some (.int .i64 hi) ∧ w.cell? ⟨g, 18, none⟩ = some (.int .i64 hy) :=
  ⟨cell_of_row _ _ 0 _ _ _ h, cell_of_row _ _ 1 _ _ _ h, cell_of_row _ _ 2 _ _ _ h, cell_of_row _ _ 3 _ _ _ h, cell_of_row _ _ 4 _ _ _ h, cell_of_row _ _ 5 _ _ _ h, cell_of_row _ _ 6 _ _ _ h, cell_of_row _ _ 7 _ _ _ h, cell_of_row _ _ 8 _ _ _ h, cell_of_row _ _ 9 _ _ _ h, cell_of_row _ _ 10 _ _ _ h, cell_of_row _ _ 11 _ _ _ h, cell_of_row _ _ 12 _ _ _ h, cell_of_row _ _ 13 _ _ _ h, cell_of_row _ _ 14 _ _ _ h, cell_of_row _ _ 15 _ _ _ h, cell_of_row _ _ 16 _ _ _ h, cell_of_row _ _ 17 _ _ _ h, cell_of_row _ _ 18 _ _ _ h⟩

theorem refWidth_any (nm : ByteArray) (un ki ad ev : Int) (we sg sw : Bool) (mu di aa de qu : Int) (ul uh la : Bool) (lo hi hy : Int) (w : World) : Calls Tryz.prog 61 #[.agg #[.string nm, .int .i64 un, .int .i64 ki, .int .i64 ad, .int .i64 ev, .bool we, .bool sg, .bool sw, .int .i64 mu, .int .i64 di, .int .i64 aa, .int .i64 de, .int .i64 qu, .bool ul, .bool uh, .bool la, .int .i64 lo, .int .i64 hi, .int .i64 hy]] w fun e w' => e = .returned (.int .i64 (widT ⟨nm, un, ki, ad, ev, we, sg, sw, mu, di, aa, de, qu, ul, uh, la, lo, hi, hy⟩)) ∧ Below w.heap.size w w' := by
  have bel := bel_alloc w (.cells #[.string nm, .int .i64 un, .int .i64 ki, .int .i64 ad, .int .i64 ev, .bool we, .bool sg, .bool sw, .int .i64 mu, .int .i64 di, .int .i64 aa, .int .i64 de, .int .i64 qu, .bool ul, .bool uh, .bool la, .int .i64 lo, .int .i64 hi, .int .i64 hy] 51)
  by_cases h3 : ki = 3
  · subst h3
    cases we
    · have HW : Hid (widT ⟨nm, un, 3, ad, ev, false, sg, sw, mu, di, aa, de, qu, ul, uh, la, lo, hi, hy⟩ = 1) := Lib.hid rfl
      rw [HW.out]
      go_enter Tryz.func61, Tryz.ntmps61
      go_wp2
      go_ret
      exact ⟨rfl, bel⟩
    · have HW : Hid (widT ⟨nm, un, 3, ad, ev, true, sg, sw, mu, di, aa, de, qu, ul, uh, la, lo, hi, hy⟩ = 2) := Lib.hid rfl
      rw [HW.out]
      go_enter Tryz.func61, Tryz.ntmps61
      go_wp2
      go_ret
      exact ⟨rfl, bel⟩
  by_cases h4 : ki = 4
  · subst h4
    cases we
    · have HW : Hid (widT ⟨nm, un, 4, ad, ev, false, sg, sw, mu, di, aa, de, qu, ul, uh, la, lo, hi, hy⟩ = 1) := Lib.hid rfl
      rw [HW.out]
      go_enter Tryz.func61, Tryz.ntmps61
      go_wp2
      go_ret
      exact ⟨rfl, bel⟩
    · have HW : Hid (widT ⟨nm, un, 4, ad, ev, true, sg, sw, mu, di, aa, de, qu, ul, uh, la, lo, hi, hy⟩ = 2) := Lib.hid rfl
      rw [HW.out]
      go_enter Tryz.func61, Tryz.ntmps61
      go_wp2
      go_ret
      exact ⟨rfl, bel⟩
  · have HW : Hid (widT ⟨nm, un, ki, ad, ev, we, sg, sw, mu, di, aa, de, qu, ul, uh, la, lo, hi, hy⟩ = 1) := Lib.hid (by unfold widT; simp [h3, h4])
    rw [HW.out]
    have e3 : (ki == 3) = false := beq_false_of_ne h3
    have e4 : (ki == 4) = false := beq_false_of_ne h4
    go_enter Tryz.func61, Tryz.ntmps61
    go_wp2
    go_ret
    exact ⟨rfl, bel⟩
end Go.Proofs.YtcmbdhmhkfhjfaaGreat
namespace Go.Proofs.YtcmbdhmhkfhjfaaGreat
open Go.RowKit
set_option linter.unusedVariables false
attribute [local go_sem ↓] ldTag_fold

set_option maxHeartbeats 1000000 in
theorem rc9_1 (nm : ByteArray) (un ki ad ev : Int) (we sg sw : Bool) (mu di aa de qu : Int) (ul uh la : Bool) (lo hi hy : Int) (w : World) (hs : nm.size ≤ maxLen) (hn0 : nameB (bys nm) = false) : Calls Tryz.prog 56 #[.agg #[.string nm, .int .i64 un, .int .i64 ki, .int .i64 ad, .int .i64 ev, .bool we, .bool sg, .bool sw, .int .i64 mu, .int .i64 di, .int .i64 aa, .int .i64 de, .int .i64 qu, .bool ul, .bool uh, .bool la, .int .i64 lo, .int .i64 hi, .int .i64 hy]] w fun e w' => e = .returned (.int .i64 8) ∧ Below w.heap.size w w' := by
  have h0 := heap_alloc_new w (.cells #[.string nm, .int .i64 un, .int .i64 ki, .int .i64 ad, .int .i64 ev, .bool we, .bool sg, .bool sw, .int .i64 mu, .int .i64 di, .int .i64 aa, .int .i64 de, .int .i64 qu, .bool ul, .bool uh, .bool la, .int .i64 lo, .int .i64 hi, .int .i64 hy] 51)
  have bel0 := bel_alloc w (.cells #[.string nm, .int .i64 un, .int .i64 ki, .int .i64 ad, .int .i64 ev, .bool we, .bool sg, .bool sw, .int .i64 mu, .int .i64 di, .int .i64 aa, .int .i64 de, .int .i64 qu, .bool ul, .bool uh, .bool la, .int .i64 lo, .int .i64 hi, .int .i64 hy] 51)
  go_enter Tryz.func56, Tryz.ntmps56
  go_wp2_with fail
  refine (refName_any nm _ hs).mono ?_
  rintro e w' ⟨rfl, rfl⟩
  rw [hn0]
  clear hn0
  go_wp2
  go_ret
  exact ⟨rfl, bel0⟩

set_option maxHeartbeats 1000000 in
theorem rc9_2 (nm : ByteArray) (un ki ad ev : Int) (we sg sw : Bool) (mu di aa de qu : Int) (ul uh la : Bool) (lo hi hy : Int) (w : World) (hs : nm.size ≤ maxLen) (hn : nameB (bys nm) = true) (u1y : un < 1) : Calls Tryz.prog 56 #[.agg #[.string nm, .int .i64 un, .int .i64 ki, .int .i64 ad, .int .i64 ev, .bool we, .bool sg, .bool sw, .int .i64 mu, .int .i64 di, .int .i64 aa, .int .i64 de, .int .i64 qu, .bool ul, .bool uh, .bool la, .int .i64 lo, .int .i64 hi, .int .i64 hy]] w fun e w' => e = .returned (.int .i64 24) ∧ Below w.heap.size w w' := by
  have h0 := heap_alloc_new w (.cells #[.string nm, .int .i64 un, .int .i64 ki, .int .i64 ad, .int .i64 ev, .bool we, .bool sg, .bool sw, .int .i64 mu, .int .i64 di, .int .i64 aa, .int .i64 de, .int .i64 qu, .bool ul, .bool uh, .bool la, .int .i64 lo, .int .i64 hi, .int .i64 hy] 51)
  have bel0 := bel_alloc w (.cells #[.string nm, .int .i64 un, .int .i64 ki, .int .i64 ad, .int .i64 ev, .bool we, .bool sg, .bool sw, .int .i64 mu, .int .i64 di, .int .i64 aa, .int .i64 de, .int .i64 qu, .bool ul, .bool uh, .bool la, .int .i64 lo, .int .i64 hi, .int .i64 hy] 51)
  go_enter Tryz.func56, Tryz.ntmps56
  go_wp2_with fail
  refine (refName_any nm _ hs).mono ?_
  rintro e w' ⟨rfl, rfl⟩
  rw [hn]
  clear hn
  go_wp2
  go_ret
  exact ⟨rfl, bel0⟩

set_option maxHeartbeats 1000000 in
theorem rc9_3 (nm : ByteArray) (un ki ad ev : Int) (we sg sw : Bool) (mu di aa de qu : Int) (ul uh la : Bool) (lo hi hy : Int) (w : World) (hs : nm.size ≤ maxLen) (hn : nameB (bys nm) = true) (u1 : ¬ un < 1) (u2y : un > 247) : Calls Tryz.prog 56 #[.agg #[.string nm, .int .i64 un, .int .i64 ki, .int .i64 ad, .int .i64 ev, .bool we, .bool sg, .bool sw, .int .i64 mu, .int .i64 di, .int .i64 aa, .int .i64 de, .int .i64 qu, .bool ul, .bool uh, .bool la, .int .i64 lo, .int .i64 hi, .int .i64 hy]] w fun e w' => e = .returned (.int .i64 24) ∧ Below w.heap.size w w' := by
  have h0 := heap_alloc_new w (.cells #[.string nm, .int .i64 un, .int .i64 ki, .int .i64 ad, .int .i64 ev, .bool we, .bool sg, .bool sw, .int .i64 mu, .int .i64 di, .int .i64 aa, .int .i64 de, .int .i64 qu, .bool ul, .bool uh, .bool la, .int .i64 lo, .int .i64 hi, .int .i64 hy] 51)
  have bel0 := bel_alloc w (.cells #[.string nm, .int .i64 un, .int .i64 ki, .int .i64 ad, .int .i64 ev, .bool we, .bool sg, .bool sw, .int .i64 mu, .int .i64 di, .int .i64 aa, .int .i64 de, .int .i64 qu, .bool ul, .bool uh, .bool la, .int .i64 lo, .int .i64 hi, .int .i64 hy] 51)
  go_enter Tryz.func56, Tryz.ntmps56
  go_wp2_with fail
  refine (refName_any nm _ hs).mono ?_
  rintro e w' ⟨rfl, rfl⟩
  rw [hn]
  clear hn
  go_wp2
  go_ret
  exact ⟨rfl, bel0⟩

set_option maxHeartbeats 1000000 in
theorem rc9_4 (nm : ByteArray) (un ki ad ev : Int) (we sg sw : Bool) (mu di aa de qu : Int) (ul uh la : Bool) (lo hi hy : Int) (w : World) (hs : nm.size ≤ maxLen) (hn : nameB (bys nm) = true) (u1 : ¬ un < 1) (u2 : ¬ un > 247) (k1y : ki < 1) : Calls Tryz.prog 56 #[.agg #[.string nm, .int .i64 un, .int .i64 ki, .int .i64 ad, .int .i64 ev, .bool we, .bool sg, .bool sw, .int .i64 mu, .int .i64 di, .int .i64 aa, .int .i64 de, .int .i64 qu, .bool ul, .bool uh, .bool la, .int .i64 lo, .int .i64 hi, .int .i64 hy]] w fun e w' => e = .returned (.int .i64 28) ∧ Below w.heap.size w w' := by
  have h0 := heap_alloc_new w (.cells #[.string nm, .int .i64 un, .int .i64 ki, .int .i64 ad, .int .i64 ev, .bool we, .bool sg, .bool sw, .int .i64 mu, .int .i64 di, .int .i64 aa, .int .i64 de, .int .i64 qu, .bool ul, .bool uh, .bool la, .int .i64 lo, .int .i64 hi, .int .i64 hy] 51)
  have bel0 := bel_alloc w (.cells #[.string nm, .int .i64 un, .int .i64 ki, .int .i64 ad, .int .i64 ev, .bool we, .bool sg, .bool sw, .int .i64 mu, .int .i64 di, .int .i64 aa, .int .i64 de, .int .i64 qu, .bool ul, .bool uh, .bool la, .int .i64 lo, .int .i64 hi, .int .i64 hy] 51)
  go_enter Tryz.func56, Tryz.ntmps56
  go_wp2_with fail
  refine (refName_any nm _ hs).mono ?_
  rintro e w' ⟨rfl, rfl⟩
  rw [hn]
  clear hn
  go_wp2
  go_ret
  exact ⟨rfl, bel0⟩

set_option maxHeartbeats 1000000 in
theorem rc9_5 (nm : ByteArray) (un ki ad ev : Int) (we sg sw : Bool) (mu di aa de qu : Int) (ul uh la : Bool) (lo hi hy : Int) (w : World) (hs : nm.size ≤ maxLen) (hn : nameB (bys nm) = true) (u1 : ¬ un < 1) (u2 : ¬ un > 247) (k1 : ¬ ki < 1) (k2y : ki > 4) : Calls Tryz.prog 56 #[.agg #[.string nm, .int .i64 un, .int .i64 ki, .int .i64 ad, .int .i64 ev, .bool we, .bool sg, .bool sw, .int .i64 mu, .int .i64 di, .int .i64 aa, .int .i64 de, .int .i64 qu, .bool ul, .bool uh, .bool la, .int .i64 lo, .int .i64 hi, .int .i64 hy]] w fun e w' => e = .returned (.int .i64 28) ∧ Below w.heap.size w w' := by
  have h0 := heap_alloc_new w (.cells #[.string nm, .int .i64 un, .int .i64 ki, .int .i64 ad, .int .i64 ev, .bool we, .bool sg, .bool sw, .int .i64 mu, .int .i64 di, .int .i64 aa, .int .i64 de, .int .i64 qu, .bool ul, .bool uh, .bool la, .int .i64 lo, .int .i64 hi, .int .i64 hy] 51)
  have bel0 := bel_alloc w (.cells #[.string nm, .int .i64 un, .int .i64 ki, .int .i64 ad, .int .i64 ev, .bool we, .bool sg, .bool sw, .int .i64 mu, .int .i64 di, .int .i64 aa, .int .i64 de, .int .i64 qu, .bool ul, .bool uh, .bool la, .int .i64 lo, .int .i64 hi, .int .i64 hy] 51)
  go_enter Tryz.func56, Tryz.ntmps56
  go_wp2_with fail
  refine (refName_any nm _ hs).mono ?_
  rintro e w' ⟨rfl, rfl⟩
  rw [hn]
  clear hn
  go_wp2
  go_ret
  exact ⟨rfl, bel0⟩

set_option maxHeartbeats 1000000 in
theorem rc9_6 (nm : ByteArray) (un ki ad ev : Int) (we sg sw : Bool) (mu di aa de qu : Int) (ul uh la : Bool) (lo hi hy : Int) (w : World) (hs : nm.size ≤ maxLen) (hn : nameB (bys nm) = true) (u1 : ¬ un < 1) (u2 : ¬ un > 247) (k1 : ¬ ki < 1) (k2 : ¬ ki > 4) (d1y : ad < 0) : Calls Tryz.prog 56 #[.agg #[.string nm, .int .i64 un, .int .i64 ki, .int .i64 ad, .int .i64 ev, .bool we, .bool sg, .bool sw, .int .i64 mu, .int .i64 di, .int .i64 aa, .int .i64 de, .int .i64 qu, .bool ul, .bool uh, .bool la, .int .i64 lo, .int .i64 hi, .int .i64 hy]] w fun e w' => e = .returned (.int .i64 21) ∧ Below w.heap.size w w' := by
  have h0 := heap_alloc_new w (.cells #[.string nm, .int .i64 un, .int .i64 ki, .int .i64 ad, .int .i64 ev, .bool we, .bool sg, .bool sw, .int .i64 mu, .int .i64 di, .int .i64 aa, .int .i64 de, .int .i64 qu, .bool ul, .bool uh, .bool la, .int .i64 lo, .int .i64 hi, .int .i64 hy] 51)
  have bel0 := bel_alloc w (.cells #[.string nm, .int .i64 un, .int .i64 ki, .int .i64 ad, .int .i64 ev, .bool we, .bool sg, .bool sw, .int .i64 mu, .int .i64 di, .int .i64 aa, .int .i64 de, .int .i64 qu, .bool ul, .bool uh, .bool la, .int .i64 lo, .int .i64 hi, .int .i64 hy] 51)
  go_enter Tryz.func56, Tryz.ntmps56
  go_wp2_with fail
  refine (refName_any nm _ hs).mono ?_
  rintro e w' ⟨rfl, rfl⟩
  rw [hn]
  clear hn
  go_wp2
  go_quiet (fail)
  go_wp2
  go_ret
  exact ⟨rfl, below_drewN bel0 _⟩

set_option maxHeartbeats 1000000 in
theorem rc9_7 (nm : ByteArray) (un ki ad ev : Int) (we sg sw : Bool) (mu di aa de qu : Int) (ul uh la : Bool) (lo hi hy : Int) (w : World) (hs : nm.size ≤ maxLen) (hn : nameB (bys nm) = true) (u1 : ¬ un < 1) (u2 : ¬ un > 247) (k1 : ¬ ki < 1) (k2 : ¬ ki > 4) (d1 : ¬ ad < 0) (d2y : ad > 65536 - widT ⟨nm, un, ki, ad, ev, we, sg, sw, mu, di, aa, de, qu, ul, uh, la, lo, hi, hy⟩) : Calls Tryz.prog 56 #[.agg #[.string nm, .int .i64 un, .int .i64 ki, .int .i64 ad, .int .i64 ev, .bool we, .bool sg, .bool sw, .int .i64 mu, .int .i64 di, .int .i64 aa, .int .i64 de, .int .i64 qu, .bool ul, .bool uh, .bool la, .int .i64 lo, .int .i64 hi, .int .i64 hy]] w fun e w' => e = .returned (.int .i64 21) ∧ Below w.heap.size w w' := by
  have h0 := heap_alloc_new w (.cells #[.string nm, .int .i64 un, .int .i64 ki, .int .i64 ad, .int .i64 ev, .bool we, .bool sg, .bool sw, .int .i64 mu, .int .i64 di, .int .i64 aa, .int .i64 de, .int .i64 qu, .bool ul, .bool uh, .bool la, .int .i64 lo, .int .i64 hi, .int .i64 hy] 51)
  have bel0 := bel_alloc w (.cells #[.string nm, .int .i64 un, .int .i64 ki, .int .i64 ad, .int .i64 ev, .bool we, .bool sg, .bool sw, .int .i64 mu, .int .i64 di, .int .i64 aa, .int .i64 de, .int .i64 qu, .bool ul, .bool uh, .bool la, .int .i64 lo, .int .i64 hi, .int .i64 hy] 51)
  obtain ⟨wd, hwd⟩ : ∃ x, widT ⟨nm, un, ki, ad, ev, we, sg, sw, mu, di, aa, de, qu, ul, uh, la, lo, hi, hy⟩ = x := ⟨_, rfl⟩
  have hw12 := widT_le (⟨nm, un, ki, ad, ev, we, sg, sw, mu, di, aa, de, qu, ul, uh, la, lo, hi, hy⟩)
  have HW : Hid (∀ W : World, Calls Tryz.prog 61 #[.agg #[.string nm, .int .i64 un, .int .i64 ki, .int .i64 ad, .int .i64 ev, .bool we, .bool sg, .bool sw, .int .i64 mu, .int .i64 di, .int .i64 aa, .int .i64 de, .int .i64 qu, .bool ul, .bool uh, .bool la, .int .i64 lo, .int .i64 hi, .int .i64 hy]] W fun e w' => e = .returned (.int .i64 (widT ⟨nm, un, ki, ad, ev, we, sg, sw, mu, di, aa, de, qu, ul, uh, la, lo, hi, hy⟩)) ∧ Below W.heap.size W w') := Lib.hid fun W => refWidth_any nm un ki ad ev we sg sw mu di aa de qu ul uh la lo hi hy W
  rw [hwd] at d2y hw12 HW
  clear hwd
  have dd : decide (ad < 0) = false := decide_eq_false (by omega)
  have hwr : IntKind.i64.wrap (65536 - wd) = 65536 - wd := by rw [IntKind.wrap_i64]; omega
  go_enter Tryz.func56, Tryz.ntmps56
  go_wp2_with fail
  refine (refName_any nm _ hs).mono ?_
  rintro e w' ⟨rfl, rfl⟩
  rw [hn]
  clear hn
  go_wp2
  generalize w.alloc (.cells #[.string nm, .int .i64 un, .int .i64 ki, .int .i64 ad, .int .i64 ev, .bool we, .bool sg, .bool sw, .int .i64 mu, .int .i64 di, .int .i64 aa, .int .i64 de, .int .i64 qu, .bool ul, .bool uh, .bool la, .int .i64 lo, .int .i64 hi, .int .i64 hy] 51) = w0 at *
  have HK : Hid (∀ w9 : World, Below w0.heap.size w0 w9 → (Below w0.heap.size w0 w9 ∧ w9.cell? ⟨w.heap.size, 3, none⟩ = some (.int .i64 ad) ∧ (ldTag (.pointer (some ⟨w.heap.size, 0, none⟩))).run Tryz.prog w9 = .ok (.agg #[.string nm, .int .i64 un, .int .i64 ki, .int .i64 ad, .int .i64 ev, .bool we, .bool sg, .bool sw, .int .i64 mu, .int .i64 di, .int .i64 aa, .int .i64 de, .int .i64 qu, .bool ul, .bool uh, .bool la, .int .i64 lo, .int .i64 hi, .int .i64 hy]) w9)) := Lib.hid fun w9 hw => ⟨hw, (of19 nm un ki ad ev we sg sw mu di aa de qu ul uh la lo hi hy (keepB hw h0)).2.2.2.1, ldTag_run rfl (rangeB (cs := [.string nm, .int .i64 un, .int .i64 ki, .int .i64 ad, .int .i64 ev, .bool we, .bool sg, .bool sw, .int .i64 mu, .int .i64 di, .int .i64 aa, .int .i64 de, .int .i64 qu, .bool ul, .bool uh, .bool la, .int .i64 lo, .int .i64 hi, .int .i64 hy]) (keepB hw h0))⟩
  have belh : ∀ w9 : World, (Below w0.heap.size w0 w9 ∧ w9.cell? ⟨w.heap.size, 3, none⟩ = some (.int .i64 ad) ∧ (ldTag (.pointer (some ⟨w.heap.size, 0, none⟩))).run Tryz.prog w9 = .ok (.agg #[.string nm, .int .i64 un, .int .i64 ki, .int .i64 ad, .int .i64 ev, .bool we, .bool sg, .bool sw, .int .i64 mu, .int .i64 di, .int .i64 aa, .int .i64 de, .int .i64 qu, .bool ul, .bool uh, .bool la, .int .i64 lo, .int .i64 hi, .int .i64 hy]) w9) → Below w0.heap.size w0 w9 := fun w9 h => h.1
  go_region_held3 (fun w9 => Below w0.heap.size w0 w9 ∧ w9.cell? ⟨w.heap.size, 3, none⟩ = some (.int .i64 ad) ∧ (ldTag (.pointer (some ⟨w.heap.size, 0, none⟩))).run Tryz.prog w9 = .ok (.agg #[.string nm, .int .i64 un, .int .i64 ki, .int .i64 ad, .int .i64 ev, .bool we, .bool sg, .bool sw, .int .i64 mu, .int .i64 di, .int .i64 aa, .int .i64 de, .int .i64 qu, .bool ul, .bool uh, .bool la, .int .i64 lo, .int .i64 hi, .int .i64 hy]) w9)
    ((refine HK.out _ ?_
      repeat' (first
        | with_reducible exact Below.refl _ _
        | with_reducible exact bel5
        | with_reducible exact belh _ (by assumption)
        | with_reducible apply below_drew
        | with_reducible apply below_drewN
        | fail)))
    (first
      | (go_at_call 61; refine (HW.out _).mono ?_; rintro e w5 ⟨rfl, b5⟩; have bel5 : Below w0.heap.size w0 w5 := Below.trans (belh _ (by assumption)) (b5.mono (Below.size (belh _ (by assumption)))))
      | fail)
  have h5 := keepB bel5 h0
  have bel6 := bel0.trans (bel5.mono bel0.size)
  clear HK belh bel5 h0 bel0 HW
  obtain ⟨c0, c1, c2, c3, c4, c5, c6, c7, c8, c9, c10, c11, c12, c13, c14, c15, c16, c17, c18⟩ := of19 nm un ki ad ev we sg sw mu di aa de qu ul uh la lo hi hy h5
  go_wp2
  go_ret
  exact ⟨rfl, bel6⟩

set_option maxHeartbeats 1000000 in
theorem rc9_8 (nm : ByteArray) (un ki ad ev : Int) (we sg sw : Bool) (mu di aa de qu : Int) (ul uh la : Bool) (lo hi hy : Int) (w : World) (hs : nm.size ≤ maxLen) (hn : nameB (bys nm) = true) (u1 : ¬ un < 1) (u2 : ¬ un > 247) (k1 : ¬ ki < 1) (k2 : ¬ ki > 4) (d1 : ¬ ad < 0) (d2 : ¬ ad > 65536 - widT ⟨nm, un, ki, ad, ev, we, sg, sw, mu, di, aa, de, qu, ul, uh, la, lo, hi, hy⟩) (v1y : ev < 1) : Calls Tryz.prog 56 #[.agg #[.string nm, .int .i64 un, .int .i64 ki, .int .i64 ad, .int .i64 ev, .bool we, .bool sg, .bool sw, .int .i64 mu, .int .i64 di, .int .i64 aa, .int .i64 de, .int .i64 qu, .bool ul, .bool uh, .bool la, .int .i64 lo, .int .i64 hi, .int .i64 hy]] w fun e w' => e = .returned (.int .i64 3) ∧ Below w.heap.size w w' := by
  have h0 := heap_alloc_new w (.cells #[.string nm, .int .i64 un, .int .i64 ki, .int .i64 ad, .int .i64 ev, .bool we, .bool sg, .bool sw, .int .i64 mu, .int .i64 di, .int .i64 aa, .int .i64 de, .int .i64 qu, .bool ul, .bool uh, .bool la, .int .i64 lo, .int .i64 hi, .int .i64 hy] 51)
  have bel0 := bel_alloc w (.cells #[.string nm, .int .i64 un, .int .i64 ki, .int .i64 ad, .int .i64 ev, .bool we, .bool sg, .bool sw, .int .i64 mu, .int .i64 di, .int .i64 aa, .int .i64 de, .int .i64 qu, .bool ul, .bool uh, .bool la, .int .i64 lo, .int .i64 hi, .int .i64 hy] 51)
  obtain ⟨wd, hwd⟩ : ∃ x, widT ⟨nm, un, ki, ad, ev, we, sg, sw, mu, di, aa, de, qu, ul, uh, la, lo, hi, hy⟩ = x := ⟨_, rfl⟩
  have hw12 := widT_le (⟨nm, un, ki, ad, ev, we, sg, sw, mu, di, aa, de, qu, ul, uh, la, lo, hi, hy⟩)
  have HW : Hid (∀ W : World, Calls Tryz.prog 61 #[.agg #[.string nm, .int .i64 un, .int .i64 ki, .int .i64 ad, .int .i64 ev, .bool we, .bool sg, .bool sw, .int .i64 mu, .int .i64 di, .int .i64 aa, .int .i64 de, .int .i64 qu, .bool ul, .bool uh, .bool la, .int .i64 lo, .int .i64 hi, .int .i64 hy]] W fun e w' => e = .returned (.int .i64 (widT ⟨nm, un, ki, ad, ev, we, sg, sw, mu, di, aa, de, qu, ul, uh, la, lo, hi, hy⟩)) ∧ Below W.heap.size W w') := Lib.hid fun W => refWidth_any nm un ki ad ev we sg sw mu di aa de qu ul uh la lo hi hy W
  rw [hwd] at d2 hw12 HW
  clear hwd
  have dd : decide (ad < 0) = false := decide_eq_false (by omega)
  have hwr : IntKind.i64.wrap (65536 - wd) = 65536 - wd := by rw [IntKind.wrap_i64]; omega
  go_enter Tryz.func56, Tryz.ntmps56
  go_wp2_with fail
  refine (refName_any nm _ hs).mono ?_
  rintro e w' ⟨rfl, rfl⟩
  rw [hn]
  clear hn
  go_wp2
  generalize w.alloc (.cells #[.string nm, .int .i64 un, .int .i64 ki, .int .i64 ad, .int .i64 ev, .bool we, .bool sg, .bool sw, .int .i64 mu, .int .i64 di, .int .i64 aa, .int .i64 de, .int .i64 qu, .bool ul, .bool uh, .bool la, .int .i64 lo, .int .i64 hi, .int .i64 hy] 51) = w0 at *
  have HK : Hid (∀ w9 : World, Below w0.heap.size w0 w9 → (Below w0.heap.size w0 w9 ∧ w9.cell? ⟨w.heap.size, 3, none⟩ = some (.int .i64 ad) ∧ (ldTag (.pointer (some ⟨w.heap.size, 0, none⟩))).run Tryz.prog w9 = .ok (.agg #[.string nm, .int .i64 un, .int .i64 ki, .int .i64 ad, .int .i64 ev, .bool we, .bool sg, .bool sw, .int .i64 mu, .int .i64 di, .int .i64 aa, .int .i64 de, .int .i64 qu, .bool ul, .bool uh, .bool la, .int .i64 lo, .int .i64 hi, .int .i64 hy]) w9)) := Lib.hid fun w9 hw => ⟨hw, (of19 nm un ki ad ev we sg sw mu di aa de qu ul uh la lo hi hy (keepB hw h0)).2.2.2.1, ldTag_run rfl (rangeB (cs := [.string nm, .int .i64 un, .int .i64 ki, .int .i64 ad, .int .i64 ev, .bool we, .bool sg, .bool sw, .int .i64 mu, .int .i64 di, .int .i64 aa, .int .i64 de, .int .i64 qu, .bool ul, .bool uh, .bool la, .int .i64 lo, .int .i64 hi, .int .i64 hy]) (keepB hw h0))⟩
  have belh : ∀ w9 : World, (Below w0.heap.size w0 w9 ∧ w9.cell? ⟨w.heap.size, 3, none⟩ = some (.int .i64 ad) ∧ (ldTag (.pointer (some ⟨w.heap.size, 0, none⟩))).run Tryz.prog w9 = .ok (.agg #[.string nm, .int .i64 un, .int .i64 ki, .int .i64 ad, .int .i64 ev, .bool we, .bool sg, .bool sw, .int .i64 mu, .int .i64 di, .int .i64 aa, .int .i64 de, .int .i64 qu, .bool ul, .bool uh, .bool la, .int .i64 lo, .int .i64 hi, .int .i64 hy]) w9) → Below w0.heap.size w0 w9 := fun w9 h => h.1
  go_region_held3 (fun w9 => Below w0.heap.size w0 w9 ∧ w9.cell? ⟨w.heap.size, 3, none⟩ = some (.int .i64 ad) ∧ (ldTag (.pointer (some ⟨w.heap.size, 0, none⟩))).run Tryz.prog w9 = .ok (.agg #[.string nm, .int .i64 un, .int .i64 ki, .int .i64 ad, .int .i64 ev, .bool we, .bool sg, .bool sw, .int .i64 mu, .int .i64 di, .int .i64 aa, .int .i64 de, .int .i64 qu, .bool ul, .bool uh, .bool la, .int .i64 lo, .int .i64 hi, .int .i64 hy]) w9)
    ((refine HK.out _ ?_
      repeat' (first
        | with_reducible exact Below.refl _ _
        | with_reducible exact bel5
        | with_reducible exact belh _ (by assumption)
        | with_reducible apply below_drew
        | with_reducible apply below_drewN
        | fail)))
    (first
      | (go_at_call 61; refine (HW.out _).mono ?_; rintro e w5 ⟨rfl, b5⟩; have bel5 : Below w0.heap.size w0 w5 := Below.trans (belh _ (by assumption)) (b5.mono (Below.size (belh _ (by assumption)))))
      | fail)
  have h5 := keepB bel5 h0
  have bel6 := bel0.trans (bel5.mono bel0.size)
  clear HK belh bel5 h0 bel0 HW
  obtain ⟨c0, c1, c2, c3, c4, c5, c6, c7, c8, c9, c10, c11, c12, c13, c14, c15, c16, c17, c18⟩ := of19 nm un ki ad ev we sg sw mu di aa de qu ul uh la lo hi hy h5
  go_wp2
  go_ret
  exact ⟨rfl, bel6⟩

set_option maxHeartbeats 1000000 in
theorem rc9_9 (nm : ByteArray) (un ki ad ev : Int) (we sg sw : Bool) (mu di aa de qu : Int) (ul uh la : Bool) (lo hi hy : Int) (w : World) (hs : nm.size ≤ maxLen) (hn : nameB (bys nm) = true) (u1 : ¬ un < 1) (u2 : ¬ un > 247) (k1 : ¬ ki < 1) (k2 : ¬ ki > 4) (d1 : ¬ ad < 0) (d2 : ¬ ad > 65536 - widT ⟨nm, un, ki, ad, ev, we, sg, sw, mu, di, aa, de, qu, ul, uh, la, lo, hi, hy⟩) (v1 : ¬ ev < 1) (v2y : ev > 1048576) : Calls Tryz.prog 56 #[.agg #[.string nm, .int .i64 un, .int .i64 ki, .int .i64 ad, .int .i64 ev, .bool we, .bool sg, .bool sw, .int .i64 mu, .int .i64 di, .int .i64 aa, .int .i64 de, .int .i64 qu, .bool ul, .bool uh, .bool la, .int .i64 lo, .int .i64 hi, .int .i64 hy]] w fun e w' => e = .returned (.int .i64 3) ∧ Below w.heap.size w w' := by
  have h0 := heap_alloc_new w (.cells #[.string nm, .int .i64 un, .int .i64 ki, .int .i64 ad, .int .i64 ev, .bool we, .bool sg, .bool sw, .int .i64 mu, .int .i64 di, .int .i64 aa, .int .i64 de, .int .i64 qu, .bool ul, .bool uh, .bool la, .int .i64 lo, .int .i64 hi, .int .i64 hy] 51)
  have bel0 := bel_alloc w (.cells #[.string nm, .int .i64 un, .int .i64 ki, .int .i64 ad, .int .i64 ev, .bool we, .bool sg, .bool sw, .int .i64 mu, .int .i64 di, .int .i64 aa, .int .i64 de, .int .i64 qu, .bool ul, .bool uh, .bool la, .int .i64 lo, .int .i64 hi, .int .i64 hy] 51)
  obtain ⟨wd, hwd⟩ : ∃ x, widT ⟨nm, un, ki, ad, ev, we, sg, sw, mu, di, aa, de, qu, ul, uh, la, lo, hi, hy⟩ = x := ⟨_, rfl⟩
  have hw12 := widT_le (⟨nm, un, ki, ad, ev, we, sg, sw, mu, di, aa, de, qu, ul, uh, la, lo, hi, hy⟩)
  have HW : Hid (∀ W : World, Calls Tryz.prog 61 #[.agg #[.string nm, .int .i64 un, .int .i64 ki, .int .i64 ad, .int .i64 ev, .bool we, .bool sg, .bool sw, .int .i64 mu, .int .i64 di, .int .i64 aa, .int .i64 de, .int .i64 qu, .bool ul, .bool uh, .bool la, .int .i64 lo, .int .i64 hi, .int .i64 hy]] W fun e w' => e = .returned (.int .i64 (widT ⟨nm, un, ki, ad, ev, we, sg, sw, mu, di, aa, de, qu, ul, uh, la, lo, hi, hy⟩)) ∧ Below W.heap.size W w') := Lib.hid fun W => refWidth_any nm un ki ad ev we sg sw mu di aa de qu ul uh la lo hi hy W
  rw [hwd] at d2 hw12 HW
  clear hwd
  have dd : decide (ad < 0) = false := decide_eq_false (by omega)
  have hwr : IntKind.i64.wrap (65536 - wd) = 65536 - wd := by rw [IntKind.wrap_i64]; omega
  go_enter Tryz.func56, Tryz.ntmps56
  go_wp2_with fail
  refine (refName_any nm _ hs).mono ?_
  rintro e w' ⟨rfl, rfl⟩
  rw [hn]
  clear hn
  go_wp2
  generalize w.alloc (.cells #[.string nm, .int .i64 un, .int .i64 ki, .int .i64 ad, .int .i64 ev, .bool we, .bool sg, .bool sw, .int .i64 mu, .int .i64 di, .int .i64 aa, .int .i64 de, .int .i64 qu, .bool ul, .bool uh, .bool la, .int .i64 lo, .int .i64 hi, .int .i64 hy] 51) = w0 at *
  have HK : Hid (∀ w9 : World, Below w0.heap.size w0 w9 → (Below w0.heap.size w0 w9 ∧ w9.cell? ⟨w.heap.size, 3, none⟩ = some (.int .i64 ad) ∧ (ldTag (.pointer (some ⟨w.heap.size, 0, none⟩))).run Tryz.prog w9 = .ok (.agg #[.string nm, .int .i64 un, .int .i64 ki, .int .i64 ad, .int .i64 ev, .bool we, .bool sg, .bool sw, .int .i64 mu, .int .i64 di, .int .i64 aa, .int .i64 de, .int .i64 qu, .bool ul, .bool uh, .bool la, .int .i64 lo, .int .i64 hi, .int .i64 hy]) w9)) := Lib.hid fun w9 hw => ⟨hw, (of19 nm un ki ad ev we sg sw mu di aa de qu ul uh la lo hi hy (keepB hw h0)).2.2.2.1, ldTag_run rfl (rangeB (cs := [.string nm, .int .i64 un, .int .i64 ki, .int .i64 ad, .int .i64 ev, .bool we, .bool sg, .bool sw, .int .i64 mu, .int .i64 di, .int .i64 aa, .int .i64 de, .int .i64 qu, .bool ul, .bool uh, .bool la, .int .i64 lo, .int .i64 hi, .int .i64 hy]) (keepB hw h0))⟩
  have belh : ∀ w9 : World, (Below w0.heap.size w0 w9 ∧ w9.cell? ⟨w.heap.size, 3, none⟩ = some (.int .i64 ad) ∧ (ldTag (.pointer (some ⟨w.heap.size, 0, none⟩))).run Tryz.prog w9 = .ok (.agg #[.string nm, .int .i64 un, .int .i64 ki, .int .i64 ad, .int .i64 ev, .bool we, .bool sg, .bool sw, .int .i64 mu, .int .i64 di, .int .i64 aa, .int .i64 de, .int .i64 qu, .bool ul, .bool uh, .bool la, .int .i64 lo, .int .i64 hi, .int .i64 hy]) w9) → Below w0.heap.size w0 w9 := fun w9 h => h.1
  go_region_held3 (fun w9 => Below w0.heap.size w0 w9 ∧ w9.cell? ⟨w.heap.size, 3, none⟩ = some (.int .i64 ad) ∧ (ldTag (.pointer (some ⟨w.heap.size, 0, none⟩))).run Tryz.prog w9 = .ok (.agg #[.string nm, .int .i64 un, .int .i64 ki, .int .i64 ad, .int .i64 ev, .bool we, .bool sg, .bool sw, .int .i64 mu, .int .i64 di, .int .i64 aa, .int .i64 de, .int .i64 qu, .bool ul, .bool uh, .bool la, .int .i64 lo, .int .i64 hi, .int .i64 hy]) w9)
    ((refine HK.out _ ?_
      repeat' (first
        | with_reducible exact Below.refl _ _
        | with_reducible exact bel5
        | with_reducible exact belh _ (by assumption)
        | with_reducible apply below_drew
        | with_reducible apply below_drewN
        | fail)))
    (first
      | (go_at_call 61; refine (HW.out _).mono ?_; rintro e w5 ⟨rfl, b5⟩; have bel5 : Below w0.heap.size w0 w5 := Below.trans (belh _ (by assumption)) (b5.mono (Below.size (belh _ (by assumption)))))
      | fail)
  have h5 := keepB bel5 h0
  have bel6 := bel0.trans (bel5.mono bel0.size)
  clear HK belh bel5 h0 bel0 HW
  obtain ⟨c0, c1, c2, c3, c4, c5, c6, c7, c8, c9, c10, c11, c12, c13, c14, c15, c16, c17, c18⟩ := of19 nm un ki ad ev we sg sw mu di aa de qu ul uh la lo hi hy h5
  go_wp2
  go_ret
  exact ⟨rfl, bel6⟩
end Go.Proofs.YtcmbdhmhkfhjfaaGreat
namespace Go.Proofs.YtcmbdhmhkfhjfaaGreat
open Go.RowKit
set_option linter.unusedVariables false
attribute [local go_sem ↓] ldTag_fold

set_option maxHeartbeats 1000000 in
theorem rc9_10 (nm : ByteArray) (un ki ad ev : Int) (we sg sw : Bool) (mu di aa de qu : Int) (ul uh la : Bool) (lo hi hy : Int) (w : World) (hs : nm.size ≤ maxLen) (hn : nameB (bys nm) = true) (u1 : ¬ un < 1) (u2 : ¬ un > 247) (k1 : ¬ ki < 1) (k2 : ¬ ki > 4) (d1 : ¬ ad < 0) (d2 : ¬ ad > 65536 - widT ⟨nm, un, ki, ad, ev, we, sg, sw, mu, di, aa, de, qu, ul, uh, la, lo, hi, hy⟩) (v1 : ¬ ev < 1) (v2 : ¬ ev > 1048576) (S0 : chkS ⟨we, sg, sw, mu, di, aa⟩ = 25) : Calls Tryz.prog 56 #[.agg #[.string nm, .int .i64 un, .int .i64 ki, .int .i64 ad, .int .i64 ev, .bool we, .bool sg, .bool sw, .int .i64 mu, .int .i64 di, .int .i64 aa, .int .i64 de, .int .i64 qu, .bool ul, .bool uh, .bool la, .int .i64 lo, .int .i64 hi, .int .i64 hy]] w fun e w' => e = .returned (.int .i64 25) ∧ Below w.heap.size w w' := by
  have h0 := heap_alloc_new w (.cells #[.string nm, .int .i64 un, .int .i64 ki, .int .i64 ad, .int .i64 ev, .bool we, .bool sg, .bool sw, .int .i64 mu, .int .i64 di, .int .i64 aa, .int .i64 de, .int .i64 qu, .bool ul, .bool uh, .bool la, .int .i64 lo, .int .i64 hi, .int .i64 hy] 51)
  have bel0 := bel_alloc w (.cells #[.string nm, .int .i64 un, .int .i64 ki, .int .i64 ad, .int .i64 ev, .bool we, .bool sg, .bool sw, .int .i64 mu, .int .i64 di, .int .i64 aa, .int .i64 de, .int .i64 qu, .bool ul, .bool uh, .bool la, .int .i64 lo, .int .i64 hi, .int .i64 hy] 51)
  obtain ⟨wd, hwd⟩ : ∃ x, widT ⟨nm, un, ki, ad, ev, we, sg, sw, mu, di, aa, de, qu, ul, uh, la, lo, hi, hy⟩ = x := ⟨_, rfl⟩
  have hw12 := widT_le (⟨nm, un, ki, ad, ev, we, sg, sw, mu, di, aa, de, qu, ul, uh, la, lo, hi, hy⟩)
  have HW : Hid (∀ W : World, Calls Tryz.prog 61 #[.agg #[.string nm, .int .i64 un, .int .i64 ki, .int .i64 ad, .int .i64 ev, .bool we, .bool sg, .bool sw, .int .i64 mu, .int .i64 di, .int .i64 aa, .int .i64 de, .int .i64 qu, .bool ul, .bool uh, .bool la, .int .i64 lo, .int .i64 hi, .int .i64 hy]] W fun e w' => e = .returned (.int .i64 (widT ⟨nm, un, ki, ad, ev, we, sg, sw, mu, di, aa, de, qu, ul, uh, la, lo, hi, hy⟩)) ∧ Below W.heap.size W w') := Lib.hid fun W => refWidth_any nm un ki ad ev we sg sw mu di aa de qu ul uh la lo hi hy W
  rw [hwd] at d2 hw12 HW
  clear hwd
  have dd : decide (ad < 0) = false := decide_eq_false (by omega)
  have hwr : IntKind.i64.wrap (65536 - wd) = 65536 - wd := by rw [IntKind.wrap_i64]; omega
  go_enter Tryz.func56, Tryz.ntmps56
  go_wp2_with fail
  refine (refName_any nm _ hs).mono ?_
  rintro e w' ⟨rfl, rfl⟩
  rw [hn]
  clear hn
  go_wp2
  generalize w.alloc (.cells #[.string nm, .int .i64 un, .int .i64 ki, .int .i64 ad, .int .i64 ev, .bool we, .bool sg, .bool sw, .int .i64 mu, .int .i64 di, .int .i64 aa, .int .i64 de, .int .i64 qu, .bool ul, .bool uh, .bool la, .int .i64 lo, .int .i64 hi, .int .i64 hy] 51) = w0 at *
  have HK : Hid (∀ w9 : World, Below w0.heap.size w0 w9 → (Below w0.heap.size w0 w9 ∧ w9.cell? ⟨w.heap.size, 3, none⟩ = some (.int .i64 ad) ∧ (ldTag (.pointer (some ⟨w.heap.size, 0, none⟩))).run Tryz.prog w9 = .ok (.agg #[.string nm, .int .i64 un, .int .i64 ki, .int .i64 ad, .int .i64 ev, .bool we, .bool sg, .bool sw, .int .i64 mu, .int .i64 di, .int .i64 aa, .int .i64 de, .int .i64 qu, .bool ul, .bool uh, .bool la, .int .i64 lo, .int .i64 hi, .int .i64 hy]) w9)) := Lib.hid fun w9 hw => ⟨hw, (of19 nm un ki ad ev we sg sw mu di aa de qu ul uh la lo hi hy (keepB hw h0)).2.2.2.1, ldTag_run rfl (rangeB (cs := [.string nm, .int .i64 un, .int .i64 ki, .int .i64 ad, .int .i64 ev, .bool we, .bool sg, .bool sw, .int .i64 mu, .int .i64 di, .int .i64 aa, .int .i64 de, .int .i64 qu, .bool ul, .bool uh, .bool la, .int .i64 lo, .int .i64 hi, .int .i64 hy]) (keepB hw h0))⟩
  have belh : ∀ w9 : World, (Below w0.heap.size w0 w9 ∧ w9.cell? ⟨w.heap.size, 3, none⟩ = some (.int .i64 ad) ∧ (ldTag (.pointer (some ⟨w.heap.size, 0, none⟩))).run Tryz.prog w9 = .ok (.agg #[.string nm, .int .i64 un, .int .i64 ki, .int .i64 ad, .int .i64 ev, .bool we, .bool sg, .bool sw, .int .i64 mu, .int .i64 di, .int .i64 aa, .int .i64 de, .int .i64 qu, .bool ul, .bool uh, .bool la, .int .i64 lo, .int .i64 hi, .int .i64 hy]) w9) → Below w0.heap.size w0 w9 := fun w9 h => h.1
  go_region_held3 (fun w9 => Below w0.heap.size w0 w9 ∧ w9.cell? ⟨w.heap.size, 3, none⟩ = some (.int .i64 ad) ∧ (ldTag (.pointer (some ⟨w.heap.size, 0, none⟩))).run Tryz.prog w9 = .ok (.agg #[.string nm, .int .i64 un, .int .i64 ki, .int .i64 ad, .int .i64 ev, .bool we, .bool sg, .bool sw, .int .i64 mu, .int .i64 di, .int .i64 aa, .int .i64 de, .int .i64 qu, .bool ul, .bool uh, .bool la, .int .i64 lo, .int .i64 hi, .int .i64 hy]) w9)
    ((refine HK.out _ ?_
      repeat' (first
        | with_reducible exact Below.refl _ _
        | with_reducible exact bel5
        | with_reducible exact belh _ (by assumption)
        | with_reducible apply below_drew
        | with_reducible apply below_drewN
        | fail)))
    (first
      | (go_at_call 61; refine (HW.out _).mono ?_; rintro e w5 ⟨rfl, b5⟩; have bel5 : Below w0.heap.size w0 w5 := Below.trans (belh _ (by assumption)) (b5.mono (Below.size (belh _ (by assumption)))))
      | fail)
  have h5 := keepB bel5 h0
  have bel6 := bel0.trans (bel5.mono bel0.size)
  clear HK belh bel5 h0 bel0 HW
  obtain ⟨c0, c1, c2, c3, c4, c5, c6, c7, c8, c9, c10, c11, c12, c13, c14, c15, c16, c17, c18⟩ := of19 nm un ki ad ev we sg sw mu di aa de qu ul uh la lo hi hy h5
  go_wp2_with fail
  refine (refCheck6_any we sg sw mu di aa _).mono ?_
  rintro e w6 ⟨rfl, b6⟩
  rw [S0]
  have h6 := keepB b6 h5
  have bel7 := bel6.trans (b6.mono bel6.size)
  clear c0 c1 c2 c3 c4 c5 c6 c7 c8 c9 c10 c11 c12 c13 c14 c15 c16 c17 c18 b6 h5 bel6
  obtain ⟨c0, c1, c2, c3, c4, c5, c6, c7, c8, c9, c10, c11, c12, c13, c14, c15, c16, c17, c18⟩ := of19 nm un ki ad ev we sg sw mu di aa de qu ul uh la lo hi hy h6
  go_wp2
  go_ret
  exact ⟨rfl, bel7⟩

set_option maxHeartbeats 1000000 in
theorem rc9_11we (nm : ByteArray) (un ki ad ev : Int) (we sg sw : Bool) (mu di aa de qu : Int) (ul uh la : Bool) (lo hi hy : Int) (w : World) (hs : nm.size ≤ maxLen) (hn : nameB (bys nm) = true) (u1 : ¬ un < 1) (u2 : ¬ un > 247) (k1 : ¬ ki < 1) (k2 : ¬ ki > 4) (d1 : ¬ ad < 0) (d2 : ¬ ad > 65536 - widT ⟨nm, un, ki, ad, ev, we, sg, sw, mu, di, aa, de, qu, ul, uh, la, lo, hi, hy⟩) (v1 : ¬ ev < 1) (v2 : ¬ ev > 1048576) (S : chkS ⟨we, sg, sw, mu, di, aa⟩ = 0) (kb : ki ≤ 2) (hx : we = true) : Calls Tryz.prog 56 #[.agg #[.string nm, .int .i64 un, .int .i64 ki, .int .i64 ad, .int .i64 ev, .bool we, .bool sg, .bool sw, .int .i64 mu, .int .i64 di, .int .i64 aa, .int .i64 de, .int .i64 qu, .bool ul, .bool uh, .bool la, .int .i64 lo, .int .i64 hi, .int .i64 hy]] w fun e w' => e = .returned (.int .i64 25) ∧ Below w.heap.size w w' := by
  have HX := Lib.hid hx
  clear hx
  have h0 := heap_alloc_new w (.cells #[.string nm, .int .i64 un, .int .i64 ki, .int .i64 ad, .int .i64 ev, .bool we, .bool sg, .bool sw, .int .i64 mu, .int .i64 di, .int .i64 aa, .int .i64 de, .int .i64 qu, .bool ul, .bool uh, .bool la, .int .i64 lo, .int .i64 hi, .int .i64 hy] 51)
  have bel0 := bel_alloc w (.cells #[.string nm, .int .i64 un, .int .i64 ki, .int .i64 ad, .int .i64 ev, .bool we, .bool sg, .bool sw, .int .i64 mu, .int .i64 di, .int .i64 aa, .int .i64 de, .int .i64 qu, .bool ul, .bool uh, .bool la, .int .i64 lo, .int .i64 hi, .int .i64 hy] 51)
  obtain ⟨wd, hwd⟩ : ∃ x, widT ⟨nm, un, ki, ad, ev, we, sg, sw, mu, di, aa, de, qu, ul, uh, la, lo, hi, hy⟩ = x := ⟨_, rfl⟩
  have hw12 := widT_le (⟨nm, un, ki, ad, ev, we, sg, sw, mu, di, aa, de, qu, ul, uh, la, lo, hi, hy⟩)
  have HW : Hid (∀ W : World, Calls Tryz.prog 61 #[.agg #[.string nm, .int .i64 un, .int .i64 ki, .int .i64 ad, .int .i64 ev, .bool we, .bool sg, .bool sw, .int .i64 mu, .int .i64 di, .int .i64 aa, .int .i64 de, .int .i64 qu, .bool ul, .bool uh, .bool la, .int .i64 lo, .int .i64 hi, .int .i64 hy]] W fun e w' => e = .returned (.int .i64 (widT ⟨nm, un, ki, ad, ev, we, sg, sw, mu, di, aa, de, qu, ul, uh, la, lo, hi, hy⟩)) ∧ Below W.heap.size W w') := Lib.hid fun W => refWidth_any nm un ki ad ev we sg sw mu di aa de qu ul uh la lo hi hy W
  rw [hwd] at d2 hw12 HW
  clear hwd
  have dd : decide (ad < 0) = false := decide_eq_false (by omega)
  have hwr : IntKind.i64.wrap (65536 - wd) = 65536 - wd := by rw [IntKind.wrap_i64]; omega
  go_enter Tryz.func56, Tryz.ntmps56
  go_wp2_with fail
  refine (refName_any nm _ hs).mono ?_
  rintro e w' ⟨rfl, rfl⟩
  rw [hn]
  clear hn
  go_wp2
  generalize w.alloc (.cells #[.string nm, .int .i64 un, .int .i64 ki, .int .i64 ad, .int .i64 ev, .bool we, .bool sg, .bool sw, .int .i64 mu, .int .i64 di, .int .i64 aa, .int .i64 de, .int .i64 qu, .bool ul, .bool uh, .bool la, .int .i64 lo, .int .i64 hi, .int .i64 hy] 51) = w0 at *
  have HK : Hid (∀ w9 : World, Below w0.heap.size w0 w9 → (Below w0.heap.size w0 w9 ∧ w9.cell? ⟨w.heap.size, 3, none⟩ = some (.int .i64 ad) ∧ (ldTag (.pointer (some ⟨w.heap.size, 0, none⟩))).run Tryz.prog w9 = .ok (.agg #[.string nm, .int .i64 un, .int .i64 ki, .int .i64 ad, .int .i64 ev, .bool we, .bool sg, .bool sw, .int .i64 mu, .int .i64 di, .int .i64 aa, .int .i64 de, .int .i64 qu, .bool ul, .bool uh, .bool la, .int .i64 lo, .int .i64 hi, .int .i64 hy]) w9)) := Lib.hid fun w9 hw => ⟨hw, (of19 nm un ki ad ev we sg sw mu di aa de qu ul uh la lo hi hy (keepB hw h0)).2.2.2.1, ldTag_run rfl (rangeB (cs := [.string nm, .int .i64 un, .int .i64 ki, .int .i64 ad, .int .i64 ev, .bool we, .bool sg, .bool sw, .int .i64 mu, .int .i64 di, .int .i64 aa, .int .i64 de, .int .i64 qu, .bool ul, .bool uh, .bool la, .int .i64 lo, .int .i64 hi, .int .i64 hy]) (keepB hw h0))⟩
  have belh : ∀ w9 : World, (Below w0.heap.size w0 w9 ∧ w9.cell? ⟨w.heap.size, 3, none⟩ = some (.int .i64 ad) ∧ (ldTag (.pointer (some ⟨w.heap.size, 0, none⟩))).run Tryz.prog w9 = .ok (.agg #[.string nm, .int .i64 un, .int .i64 ki, .int .i64 ad, .int .i64 ev, .bool we, .bool sg, .bool sw, .int .i64 mu, .int .i64 di, .int .i64 aa, .int .i64 de, .int .i64 qu, .bool ul, .bool uh, .bool la, .int .i64 lo, .int .i64 hi, .int .i64 hy]) w9) → Below w0.heap.size w0 w9 := fun w9 h => h.1
  go_region_held3 (fun w9 => Below w0.heap.size w0 w9 ∧ w9.cell? ⟨w.heap.size, 3, none⟩ = some (.int .i64 ad) ∧ (ldTag (.pointer (some ⟨w.heap.size, 0, none⟩))).run Tryz.prog w9 = .ok (.agg #[.string nm, .int .i64 un, .int .i64 ki, .int .i64 ad, .int .i64 ev, .bool we, .bool sg, .bool sw, .int .i64 mu, .int .i64 di, .int .i64 aa, .int .i64 de, .int .i64 qu, .bool ul, .bool uh, .bool la, .int .i64 lo, .int .i64 hi, .int .i64 hy]) w9)
    ((refine HK.out _ ?_
      repeat' (first
        | with_reducible exact Below.refl _ _
        | with_reducible exact bel5
        | with_reducible exact belh _ (by assumption)
        | with_reducible apply below_drew
        | with_reducible apply below_drewN
        | fail)))
    (first
      | (go_at_call 61; refine (HW.out _).mono ?_; rintro e w5 ⟨rfl, b5⟩; have bel5 : Below w0.heap.size w0 w5 := Below.trans (belh _ (by assumption)) (b5.mono (Below.size (belh _ (by assumption)))))
      | fail)
  have h5 := keepB bel5 h0
  have bel6 := bel0.trans (bel5.mono bel0.size)
  clear HK belh bel5 h0 bel0 HW
  obtain ⟨c0, c1, c2, c3, c4, c5, c6, c7, c8, c9, c10, c11, c12, c13, c14, c15, c16, c17, c18⟩ := of19 nm un ki ad ev we sg sw mu di aa de qu ul uh la lo hi hy h5
  go_wp2_with fail
  refine (refCheck6_any we sg sw mu di aa _).mono ?_
  rintro e w6 ⟨rfl, b6⟩
  rw [S]
  have h6 := keepB b6 h5
  have bel7 := bel6.trans (b6.mono bel6.size)
  clear c0 c1 c2 c3 c4 c5 c6 c7 c8 c9 c10 c11 c12 c13 c14 c15 c16 c17 c18 b6 h5 bel6
  obtain ⟨c0, c1, c2, c3, c4, c5, c6, c7, c8, c9, c10, c11, c12, c13, c14, c15, c16, c17, c18⟩ := of19 nm un ki ad ev we sg sw mu di aa de qu ul uh la lo hi hy h6
  have hx := HX.out
  go_wp2
  go_ret
  exact ⟨rfl, bel7⟩

set_option maxHeartbeats 1000000 in
theorem rc9_11sg (nm : ByteArray) (un ki ad ev : Int) (we sg sw : Bool) (mu di aa de qu : Int) (ul uh la : Bool) (lo hi hy : Int) (w : World) (hs : nm.size ≤ maxLen) (hn : nameB (bys nm) = true) (u1 : ¬ un < 1) (u2 : ¬ un > 247) (k1 : ¬ ki < 1) (k2 : ¬ ki > 4) (d1 : ¬ ad < 0) (d2 : ¬ ad > 65536 - widT ⟨nm, un, ki, ad, ev, we, sg, sw, mu, di, aa, de, qu, ul, uh, la, lo, hi, hy⟩) (v1 : ¬ ev < 1) (v2 : ¬ ev > 1048576) (S : chkS ⟨we, sg, sw, mu, di, aa⟩ = 0) (kb : ki ≤ 2) (hx : sg = true) : Calls Tryz.prog 56 #[.agg #[.string nm, .int .i64 un, .int .i64 ki, .int .i64 ad, .int .i64 ev, .bool we, .bool sg, .bool sw, .int .i64 mu, .int .i64 di, .int .i64 aa, .int .i64 de, .int .i64 qu, .bool ul, .bool uh, .bool la, .int .i64 lo, .int .i64 hi, .int .i64 hy]] w fun e w' => e = .returned (.int .i64 25) ∧ Below w.heap.size w w' := by
  have HX := Lib.hid hx
  clear hx
  have h0 := heap_alloc_new w (.cells #[.string nm, .int .i64 un, .int .i64 ki, .int .i64 ad, .int .i64 ev, .bool we, .bool sg, .bool sw, .int .i64 mu, .int .i64 di, .int .i64 aa, .int .i64 de, .int .i64 qu, .bool ul, .bool uh, .bool la, .int .i64 lo, .int .i64 hi, .int .i64 hy] 51)
  have bel0 := bel_alloc w (.cells #[.string nm, .int .i64 un, .int .i64 ki, .int .i64 ad, .int .i64 ev, .bool we, .bool sg, .bool sw, .int .i64 mu, .int .i64 di, .int .i64 aa, .int .i64 de, .int .i64 qu, .bool ul, .bool uh, .bool la, .int .i64 lo, .int .i64 hi, .int .i64 hy] 51)
  obtain ⟨wd, hwd⟩ : ∃ x, widT ⟨nm, un, ki, ad, ev, we, sg, sw, mu, di, aa, de, qu, ul, uh, la, lo, hi, hy⟩ = x := ⟨_, rfl⟩
  have hw12 := widT_le (⟨nm, un, ki, ad, ev, we, sg, sw, mu, di, aa, de, qu, ul, uh, la, lo, hi, hy⟩)
  have HW : Hid (∀ W : World, Calls Tryz.prog 61 #[.agg #[.string nm, .int .i64 un, .int .i64 ki, .int .i64 ad, .int .i64 ev, .bool we, .bool sg, .bool sw, .int .i64 mu, .int .i64 di, .int .i64 aa, .int .i64 de, .int .i64 qu, .bool ul, .bool uh, .bool la, .int .i64 lo, .int .i64 hi, .int .i64 hy]] W fun e w' => e = .returned (.int .i64 (widT ⟨nm, un, ki, ad, ev, we, sg, sw, mu, di, aa, de, qu, ul, uh, la, lo, hi, hy⟩)) ∧ Below W.heap.size W w') := Lib.hid fun W => refWidth_any nm un ki ad ev we sg sw mu di aa de qu ul uh la lo hi hy W
  rw [hwd] at d2 hw12 HW
  clear hwd
  have dd : decide (ad < 0) = false := decide_eq_false (by omega)
  have hwr : IntKind.i64.wrap (65536 - wd) = 65536 - wd := by rw [IntKind.wrap_i64]; omega
  go_enter Tryz.func56, Tryz.ntmps56
  go_wp2_with fail
  refine (refName_any nm _ hs).mono ?_
  rintro e w' ⟨rfl, rfl⟩
  rw [hn]
  clear hn
  go_wp2
  generalize w.alloc (.cells #[.string nm, .int .i64 un, .int .i64 ki, .int .i64 ad, .int .i64 ev, .bool we, .bool sg, .bool sw, .int .i64 mu, .int .i64 di, .int .i64 aa, .int .i64 de, .int .i64 qu, .bool ul, .bool uh, .bool la, .int .i64 lo, .int .i64 hi, .int .i64 hy] 51) = w0 at *
  have HK : Hid (∀ w9 : World, Below w0.heap.size w0 w9 → (Below w0.heap.size w0 w9 ∧ w9.cell? ⟨w.heap.size, 3, none⟩ = some (.int .i64 ad) ∧ (ldTag (.pointer (some ⟨w.heap.size, 0, none⟩))).run Tryz.prog w9 = .ok (.agg #[.string nm, .int .i64 un, .int .i64 ki, .int .i64 ad, .int .i64 ev, .bool we, .bool sg, .bool sw, .int .i64 mu, .int .i64 di, .int .i64 aa, .int .i64 de, .int .i64 qu, .bool ul, .bool uh, .bool la, .int .i64 lo, .int .i64 hi, .int .i64 hy]) w9)) := Lib.hid fun w9 hw => ⟨hw, (of19 nm un ki ad ev we sg sw mu di aa de qu ul uh la lo hi hy (keepB hw h0)).2.2.2.1, ldTag_run rfl (rangeB (cs := [.string nm, .int .i64 un, .int .i64 ki, .int .i64 ad, .int .i64 ev, .bool we, .bool sg, .bool sw, .int .i64 mu, .int .i64 di, .int .i64 aa, .int .i64 de, .int .i64 qu, .bool ul, .bool uh, .bool la, .int .i64 lo, .int .i64 hi, .int .i64 hy]) (keepB hw h0))⟩
  have belh : ∀ w9 : World, (Below w0.heap.size w0 w9 ∧ w9.cell? ⟨w.heap.size, 3, none⟩ = some (.int .i64 ad) ∧ (ldTag (.pointer (some ⟨w.heap.size, 0, none⟩))).run Tryz.prog w9 = .ok (.agg #[.string nm, .int .i64 un, .int .i64 ki, .int .i64 ad, .int .i64 ev, .bool we, .bool sg, .bool sw, .int .i64 mu, .int .i64 di, .int .i64 aa, .int .i64 de, .int .i64 qu, .bool ul, .bool uh, .bool la, .int .i64 lo, .int .i64 hi, .int .i64 hy]) w9) → Below w0.heap.size w0 w9 := fun w9 h => h.1
  go_region_held3 (fun w9 => Below w0.heap.size w0 w9 ∧ w9.cell? ⟨w.heap.size, 3, none⟩ = some (.int .i64 ad) ∧ (ldTag (.pointer (some ⟨w.heap.size, 0, none⟩))).run Tryz.prog w9 = .ok (.agg #[.string nm, .int .i64 un, .int .i64 ki, .int .i64 ad, .int .i64 ev, .bool we, .bool sg, .bool sw, .int .i64 mu, .int .i64 di, .int .i64 aa, .int .i64 de, .int .i64 qu, .bool ul, .bool uh, .bool la, .int .i64 lo, .int .i64 hi, .int .i64 hy]) w9)
    ((refine HK.out _ ?_
      repeat' (first
        | with_reducible exact Below.refl _ _
        | with_reducible exact bel5
        | with_reducible exact belh _ (by assumption)
        | with_reducible apply below_drew
        | with_reducible apply below_drewN
        | fail)))
    (first
      | (go_at_call 61; refine (HW.out _).mono ?_; rintro e w5 ⟨rfl, b5⟩; have bel5 : Below w0.heap.size w0 w5 := Below.trans (belh _ (by assumption)) (b5.mono (Below.size (belh _ (by assumption)))))
      | fail)
  have h5 := keepB bel5 h0
  have bel6 := bel0.trans (bel5.mono bel0.size)
  clear HK belh bel5 h0 bel0 HW
  obtain ⟨c0, c1, c2, c3, c4, c5, c6, c7, c8, c9, c10, c11, c12, c13, c14, c15, c16, c17, c18⟩ := of19 nm un ki ad ev we sg sw mu di aa de qu ul uh la lo hi hy h5
  go_wp2_with fail
  refine (refCheck6_any we sg sw mu di aa _).mono ?_
  rintro e w6 ⟨rfl, b6⟩
  rw [S]
  have h6 := keepB b6 h5
  have bel7 := bel6.trans (b6.mono bel6.size)
  clear c0 c1 c2 c3 c4 c5 c6 c7 c8 c9 c10 c11 c12 c13 c14 c15 c16 c17 c18 b6 h5 bel6
  obtain ⟨c0, c1, c2, c3, c4, c5, c6, c7, c8, c9, c10, c11, c12, c13, c14, c15, c16, c17, c18⟩ := of19 nm un ki ad ev we sg sw mu di aa de qu ul uh la lo hi hy h6
  have hx := HX.out
  go_wp2
  go_ret
  exact ⟨rfl, bel7⟩

set_option maxHeartbeats 1000000 in
theorem rc9_11sw (nm : ByteArray) (un ki ad ev : Int) (we sg sw : Bool) (mu di aa de qu : Int) (ul uh la : Bool) (lo hi hy : Int) (w : World) (hs : nm.size ≤ maxLen) (hn : nameB (bys nm) = true) (u1 : ¬ un < 1) (u2 : ¬ un > 247) (k1 : ¬ ki < 1) (k2 : ¬ ki > 4) (d1 : ¬ ad < 0) (d2 : ¬ ad > 65536 - widT ⟨nm, un, ki, ad, ev, we, sg, sw, mu, di, aa, de, qu, ul, uh, la, lo, hi, hy⟩) (v1 : ¬ ev < 1) (v2 : ¬ ev > 1048576) (S : chkS ⟨we, sg, sw, mu, di, aa⟩ = 0) (kb : ki ≤ 2) (hx : sw = true) : Calls Tryz.prog 56 #[.agg #[.string nm, .int .i64 un, .int .i64 ki, .int .i64 ad, .int .i64 ev, .bool we, .bool sg, .bool sw, .int .i64 mu, .int .i64 di, .int .i64 aa, .int .i64 de, .int .i64 qu, .bool ul, .bool uh, .bool la, .int .i64 lo, .int .i64 hi, .int .i64 hy]] w fun e w' => e = .returned (.int .i64 25) ∧ Below w.heap.size w w' := by
  have HX := Lib.hid hx
  clear hx
  have h0 := heap_alloc_new w (.cells #[.string nm, .int .i64 un, .int .i64 ki, .int .i64 ad, .int .i64 ev, .bool we, .bool sg, .bool sw, .int .i64 mu, .int .i64 di, .int .i64 aa, .int .i64 de, .int .i64 qu, .bool ul, .bool uh, .bool la, .int .i64 lo, .int .i64 hi, .int .i64 hy] 51)
  have bel0 := bel_alloc w (.cells #[.string nm, .int .i64 un, .int .i64 ki, .int .i64 ad, .int .i64 ev, .bool we, .bool sg, .bool sw, .int .i64 mu, .int .i64 di, .int .i64 aa, .int .i64 de, .int .i64 qu, .bool ul, .bool uh, .bool la, .int .i64 lo, .int .i64 hi, .int .i64 hy] 51)
  obtain ⟨wd, hwd⟩ : ∃ x, widT ⟨nm, un, ki, ad, ev, we, sg, sw, mu, di, aa, de, qu, ul, uh, la, lo, hi, hy⟩ = x := ⟨_, rfl⟩
  have hw12 := widT_le (⟨nm, un, ki, ad, ev, we, sg, sw, mu, di, aa, de, qu, ul, uh, la, lo, hi, hy⟩)
  have HW : Hid (∀ W : World, Calls Tryz.prog 61 #[.agg #[.string nm, .int .i64 un, .int .i64 ki, .int .i64 ad, .int .i64 ev, .bool we, .bool sg, .bool sw, .int .i64 mu, .int .i64 di, .int .i64 aa, .int .i64 de, .int .i64 qu, .bool ul, .bool uh, .bool la, .int .i64 lo, .int .i64 hi, .int .i64 hy]] W fun e w' => e = .returned (.int .i64 (widT ⟨nm, un, ki, ad, ev, we, sg, sw, mu, di, aa, de, qu, ul, uh, la, lo, hi, hy⟩)) ∧ Below W.heap.size W w') := Lib.hid fun W => refWidth_any nm un ki ad ev we sg sw mu di aa de qu ul uh la lo hi hy W
  rw [hwd] at d2 hw12 HW
  clear hwd
  have dd : decide (ad < 0) = false := decide_eq_false (by omega)
  have hwr : IntKind.i64.wrap (65536 - wd) = 65536 - wd := by rw [IntKind.wrap_i64]; omega
  go_enter Tryz.func56, Tryz.ntmps56
  go_wp2_with fail
  refine (refName_any nm _ hs).mono ?_
  rintro e w' ⟨rfl, rfl⟩
  rw [hn]
  clear hn
  go_wp2
  generalize w.alloc (.cells #[.string nm, .int .i64 un, .int .i64 ki, .int .i64 ad, .int .i64 ev, .bool we, .bool sg, .bool sw, .int .i64 mu, .int .i64 di, .int .i64 aa, .int .i64 de, .int .i64 qu, .bool ul, .bool uh, .bool la, .int .i64 lo, .int .i64 hi, .int .i64 hy] 51) = w0 at *
  have HK : Hid (∀ w9 : World, Below w0.heap.size w0 w9 → (Below w0.heap.size w0 w9 ∧ w9.cell? ⟨w.heap.size, 3, none⟩ = some (.int .i64 ad) ∧ (ldTag (.pointer (some ⟨w.heap.size, 0, none⟩))).run Tryz.prog w9 = .ok (.agg #[.string nm, .int .i64 un, .int .i64 ki, .int .i64 ad, .int .i64 ev, .bool we, .bool sg, .bool sw, .int .i64 mu, .int .i64 di, .int .i64 aa, .int .i64 de, .int .i64 qu, .bool ul, .bool uh, .bool la, .int .i64 lo, .int .i64 hi, .int .i64 hy]) w9)) := Lib.hid fun w9 hw => ⟨hw, (of19 nm un ki ad ev we sg sw mu di aa de qu ul uh la lo hi hy (keepB hw h0)).2.2.2.1, ldTag_run rfl (rangeB (cs := [.string nm, .int .i64 un, .int .i64 ki, .int .i64 ad, .int .i64 ev, .bool we, .bool sg, .bool sw, .int .i64 mu, .int .i64 di, .int .i64 aa, .int .i64 de, .int .i64 qu, .bool ul, .bool uh, .bool la, .int .i64 lo, .int .i64 hi, .int .i64 hy]) (keepB hw h0))⟩
  have belh : ∀ w9 : World, (Below w0.heap.size w0 w9 ∧ w9.cell? ⟨w.heap.size, 3, none⟩ = some (.int .i64 ad) ∧ (ldTag (.pointer (some ⟨w.heap.size, 0, none⟩))).run Tryz.prog w9 = .ok (.agg #[.string nm, .int .i64 un, .int .i64 ki, .int .i64 ad, .int .i64 ev, .bool we, .bool sg, .bool sw, .int .i64 mu, .int .i64 di, .int .i64 aa, .int .i64 de, .int .i64 qu, .bool ul, .bool uh, .bool la, .int .i64 lo, .int .i64 hi, .int .i64 hy]) w9) → Below w0.heap.size w0 w9 := fun w9 h => h.1
  go_region_held3 (fun w9 => Below w0.heap.size w0 w9 ∧ w9.cell? ⟨w.heap.size, 3, none⟩ = some (.int .i64 ad) ∧ (ldTag (.pointer (some ⟨w.heap.size, 0, none⟩))).run Tryz.prog w9 = .ok (.agg #[.string nm, .int .i64 un, .int .i64 ki, .int .i64 ad, .int .i64 ev, .bool we, .bool sg, .bool sw, .int .i64 mu, .int .i64 di, .int .i64 aa, .int .i64 de, .int .i64 qu, .bool ul, .bool uh, .bool la, .int .i64 lo, .int .i64 hi, .int .i64 hy]) w9)
    ((refine HK.out _ ?_
      repeat' (first
        | with_reducible exact Below.refl _ _
        | with_reducible exact bel5
        | with_reducible exact belh _ (by assumption)
        | with_reducible apply below_drew
        | with_reducible apply below_drewN
        | fail)))
    (first
      | (go_at_call 61; refine (HW.out _).mono ?_; rintro e w5 ⟨rfl, b5⟩; have bel5 : Below w0.heap.size w0 w5 := Below.trans (belh _ (by assumption)) (b5.mono (Below.size (belh _ (by assumption)))))
      | fail)
  have h5 := keepB bel5 h0
  have bel6 := bel0.trans (bel5.mono bel0.size)
  clear HK belh bel5 h0 bel0 HW
  obtain ⟨c0, c1, c2, c3, c4, c5, c6, c7, c8, c9, c10, c11, c12, c13, c14, c15, c16, c17, c18⟩ := of19 nm un ki ad ev we sg sw mu di aa de qu ul uh la lo hi hy h5
  go_wp2_with fail
  refine (refCheck6_any we sg sw mu di aa _).mono ?_
  rintro e w6 ⟨rfl, b6⟩
  rw [S]
  have h6 := keepB b6 h5
  have bel7 := bel6.trans (b6.mono bel6.size)
  clear c0 c1 c2 c3 c4 c5 c6 c7 c8 c9 c10 c11 c12 c13 c14 c15 c16 c17 c18 b6 h5 bel6
  obtain ⟨c0, c1, c2, c3, c4, c5, c6, c7, c8, c9, c10, c11, c12, c13, c14, c15, c16, c17, c18⟩ := of19 nm un ki ad ev we sg sw mu di aa de qu ul uh la lo hi hy h6
  have hx := HX.out
  go_wp2
  go_ret
  exact ⟨rfl, bel7⟩

set_option maxHeartbeats 1000000 in
theorem rc9_11mu (nm : ByteArray) (un ki ad ev : Int) (we sg sw : Bool) (mu di aa de qu : Int) (ul uh la : Bool) (lo hi hy : Int) (w : World) (hs : nm.size ≤ maxLen) (hn : nameB (bys nm) = true) (u1 : ¬ un < 1) (u2 : ¬ un > 247) (k1 : ¬ ki < 1) (k2 : ¬ ki > 4) (d1 : ¬ ad < 0) (d2 : ¬ ad > 65536 - widT ⟨nm, un, ki, ad, ev, we, sg, sw, mu, di, aa, de, qu, ul, uh, la, lo, hi, hy⟩) (v1 : ¬ ev < 1) (v2 : ¬ ev > 1048576) (S : chkS ⟨we, sg, sw, mu, di, aa⟩ = 0) (kb : ki ≤ 2) (hx : mu ≠ 1) : Calls Tryz.prog 56 #[.agg #[.string nm, .int .i64 un, .int .i64 ki, .int .i64 ad, .int .i64 ev, .bool we, .bool sg, .bool sw, .int .i64 mu, .int .i64 di, .int .i64 aa, .int .i64 de, .int .i64 qu, .bool ul, .bool uh, .bool la, .int .i64 lo, .int .i64 hi, .int .i64 hy]] w fun e w' => e = .returned (.int .i64 25) ∧ Below w.heap.size w w' := by
  have hx2 : (mu == 1) = false := beq_false_of_ne hx
  have h0 := heap_alloc_new w (.cells #[.string nm, .int .i64 un, .int .i64 ki, .int .i64 ad, .int .i64 ev, .bool we, .bool sg, .bool sw, .int .i64 mu, .int .i64 di, .int .i64 aa, .int .i64 de, .int .i64 qu, .bool ul, .bool uh, .bool la, .int .i64 lo, .int .i64 hi, .int .i64 hy] 51)
  have bel0 := bel_alloc w (.cells #[.string nm, .int .i64 un, .int .i64 ki, .int .i64 ad, .int .i64 ev, .bool we, .bool sg, .bool sw, .int .i64 mu, .int .i64 di, .int .i64 aa, .int .i64 de, .int .i64 qu, .bool ul, .bool uh, .bool la, .int .i64 lo, .int .i64 hi, .int .i64 hy] 51)
  obtain ⟨wd, hwd⟩ : ∃ x, widT ⟨nm, un, ki, ad, ev, we, sg, sw, mu, di, aa, de, qu, ul, uh, la, lo, hi, hy⟩ = x := ⟨_, rfl⟩
  have hw12 := widT_le (⟨nm, un, ki, ad, ev, we, sg, sw, mu, di, aa, de, qu, ul, uh, la, lo, hi, hy⟩)
  have HW : Hid (∀ W : World, Calls Tryz.prog 61 #[.agg #[.string nm, .int .i64 un, .int .i64 ki, .int .i64 ad, .int .i64 ev, .bool we, .bool sg, .bool sw, .int .i64 mu, .int .i64 di, .int .i64 aa, .int .i64 de, .int .i64 qu, .bool ul, .bool uh, .bool la, .int .i64 lo, .int .i64 hi, .int .i64 hy]] W fun e w' => e = .returned (.int .i64 (widT ⟨nm, un, ki, ad, ev, we, sg, sw, mu, di, aa, de, qu, ul, uh, la, lo, hi, hy⟩)) ∧ Below W.heap.size W w') := Lib.hid fun W => refWidth_any nm un ki ad ev we sg sw mu di aa de qu ul uh la lo hi hy W
  rw [hwd] at d2 hw12 HW
  clear hwd
  have dd : decide (ad < 0) = false := decide_eq_false (by omega)
  have hwr : IntKind.i64.wrap (65536 - wd) = 65536 - wd := by rw [IntKind.wrap_i64]; omega
  go_enter Tryz.func56, Tryz.ntmps56
  go_wp2_with fail
  refine (refName_any nm _ hs).mono ?_
  rintro e w' ⟨rfl, rfl⟩
  rw [hn]
  clear hn
  go_wp2
  generalize w.alloc (.cells #[.string nm, .int .i64 un, .int .i64 ki, .int .i64 ad, .int .i64 ev, .bool we, .bool sg, .bool sw, .int .i64 mu, .int .i64 di, .int .i64 aa, .int .i64 de, .int .i64 qu, .bool ul, .bool uh, .bool la, .int .i64 lo, .int .i64 hi, .int .i64 hy] 51) = w0 at *
  have HK : Hid (∀ w9 : World, Below w0.heap.size w0 w9 → (Below w0.heap.size w0 w9 ∧ w9.cell? ⟨w.heap.size, 3, none⟩ = some (.int .i64 ad) ∧ (ldTag (.pointer (some ⟨w.heap.size, 0, none⟩))).run Tryz.prog w9 = .ok (.agg #[.string nm, .int .i64 un, .int .i64 ki, .int .i64 ad, .int .i64 ev, .bool we, .bool sg, .bool sw, .int .i64 mu, .int .i64 di, .int .i64 aa, .int .i64 de, .int .i64 qu, .bool ul, .bool uh, .bool la, .int .i64 lo, .int .i64 hi, .int .i64 hy]) w9)) := Lib.hid fun w9 hw => ⟨hw, (of19 nm un ki ad ev we sg sw mu di aa de qu ul uh la lo hi hy (keepB hw h0)).2.2.2.1, ldTag_run rfl (rangeB (cs := [.string nm, .int .i64 un, .int .i64 ki, .int .i64 ad, .int .i64 ev, .bool we, .bool sg, .bool sw, .int .i64 mu, .int .i64 di, .int .i64 aa, .int .i64 de, .int .i64 qu, .bool ul, .bool uh, .bool la, .int .i64 lo, .int .i64 hi, .int .i64 hy]) (keepB hw h0))⟩
  have belh : ∀ w9 : World, (Below w0.heap.size w0 w9 ∧ w9.cell? ⟨w.heap.size, 3, none⟩ = some (.int .i64 ad) ∧ (ldTag (.pointer (some ⟨w.heap.size, 0, none⟩))).run Tryz.prog w9 = .ok (.agg #[.string nm, .int .i64 un, .int .i64 ki, .int .i64 ad, .int .i64 ev, .bool we, .bool sg, .bool sw, .int .i64 mu, .int .i64 di, .int .i64 aa, .int .i64 de, .int .i64 qu, .bool ul, .bool uh, .bool la, .int .i64 lo, .int .i64 hi, .int .i64 hy]) w9) → Below w0.heap.size w0 w9 := fun w9 h => h.1
  go_region_held3 (fun w9 => Below w0.heap.size w0 w9 ∧ w9.cell? ⟨w.heap.size, 3, none⟩ = some (.int .i64 ad) ∧ (ldTag (.pointer (some ⟨w.heap.size, 0, none⟩))).run Tryz.prog w9 = .ok (.agg #[.string nm, .int .i64 un, .int .i64 ki, .int .i64 ad, .int .i64 ev, .bool we, .bool sg, .bool sw, .int .i64 mu, .int .i64 di, .int .i64 aa, .int .i64 de, .int .i64 qu, .bool ul, .bool uh, .bool la, .int .i64 lo, .int .i64 hi, .int .i64 hy]) w9)
    ((refine HK.out _ ?_
      repeat' (first
        | with_reducible exact Below.refl _ _
        | with_reducible exact bel5
        | with_reducible exact belh _ (by assumption)
        | with_reducible apply below_drew
        | with_reducible apply below_drewN
        | fail)))
    (first
      | (go_at_call 61; refine (HW.out _).mono ?_; rintro e w5 ⟨rfl, b5⟩; have bel5 : Below w0.heap.size w0 w5 := Below.trans (belh _ (by assumption)) (b5.mono (Below.size (belh _ (by assumption)))))
      | fail)
  have h5 := keepB bel5 h0
  have bel6 := bel0.trans (bel5.mono bel0.size)
  clear HK belh bel5 h0 bel0 HW
  obtain ⟨c0, c1, c2, c3, c4, c5, c6, c7, c8, c9, c10, c11, c12, c13, c14, c15, c16, c17, c18⟩ := of19 nm un ki ad ev we sg sw mu di aa de qu ul uh la lo hi hy h5
  go_wp2_with fail
  refine (refCheck6_any we sg sw mu di aa _).mono ?_
  rintro e w6 ⟨rfl, b6⟩
  rw [S]
  have h6 := keepB b6 h5
  have bel7 := bel6.trans (b6.mono bel6.size)
  clear c0 c1 c2 c3 c4 c5 c6 c7 c8 c9 c10 c11 c12 c13 c14 c15 c16 c17 c18 b6 h5 bel6
  obtain ⟨c0, c1, c2, c3, c4, c5, c6, c7, c8, c9, c10, c11, c12, c13, c14, c15, c16, c17, c18⟩ := of19 nm un ki ad ev we sg sw mu di aa de qu ul uh la lo hi hy h6
  go_wp2
  go_ret
  exact ⟨rfl, bel7⟩

set_option maxHeartbeats 1000000 in
theorem rc9_11di (nm : ByteArray) (un ki ad ev : Int) (we sg sw : Bool) (mu di aa de qu : Int) (ul uh la : Bool) (lo hi hy : Int) (w : World) (hs : nm.size ≤ maxLen) (hn : nameB (bys nm) = true) (u1 : ¬ un < 1) (u2 : ¬ un > 247) (k1 : ¬ ki < 1) (k2 : ¬ ki > 4) (d1 : ¬ ad < 0) (d2 : ¬ ad > 65536 - widT ⟨nm, un, ki, ad, ev, we, sg, sw, mu, di, aa, de, qu, ul, uh, la, lo, hi, hy⟩) (v1 : ¬ ev < 1) (v2 : ¬ ev > 1048576) (S : chkS ⟨we, sg, sw, mu, di, aa⟩ = 0) (kb : ki ≤ 2) (hx : di ≠ 1) : Calls Tryz.prog 56 #[.agg #[.string nm, .int .i64 un, .int .i64 ki, .int .i64 ad, .int .i64 ev, .bool we, .bool sg, .bool sw, .int .i64 mu, .int .i64 di, .int .i64 aa, .int .i64 de, .int .i64 qu, .bool ul, .bool uh, .bool la, .int .i64 lo, .int .i64 hi, .int .i64 hy]] w fun e w' => e = .returned (.int .i64 25) ∧ Below w.heap.size w w' := by
  have hx2 : (di == 1) = false := beq_false_of_ne hx
  have h0 := heap_alloc_new w (.cells #[.string nm, .int .i64 un, .int .i64 ki, .int .i64 ad, .int .i64 ev, .bool we, .bool sg, .bool sw, .int .i64 mu, .int .i64 di, .int .i64 aa, .int .i64 de, .int .i64 qu, .bool ul, .bool uh, .bool la, .int .i64 lo, .int .i64 hi, .int .i64 hy] 51)
  have bel0 := bel_alloc w (.cells #[.string nm, .int .i64 un, .int .i64 ki, .int .i64 ad, .int .i64 ev, .bool we, .bool sg, .bool sw, .int .i64 mu, .int .i64 di, .int .i64 aa, .int .i64 de, .int .i64 qu, .bool ul, .bool uh, .bool la, .int .i64 lo, .int .i64 hi, .int .i64 hy] 51)
  obtain ⟨wd, hwd⟩ : ∃ x, widT ⟨nm, un, ki, ad, ev, we, sg, sw, mu, di, aa, de, qu, ul, uh, la, lo, hi, hy⟩ = x := ⟨_, rfl⟩
  have hw12 := widT_le (⟨nm, un, ki, ad, ev, we, sg, sw, mu, di, aa, de, qu, ul, uh, la, lo, hi, hy⟩)
  have HW : Hid (∀ W : World, Calls Tryz.prog 61 #[.agg #[.string nm, .int .i64 un, .int .i64 ki, .int .i64 ad, .int .i64 ev, .bool we, .bool sg, .bool sw, .int .i64 mu, .int .i64 di, .int .i64 aa, .int .i64 de, .int .i64 qu, .bool ul, .bool uh, .bool la, .int .i64 lo, .int .i64 hi, .int .i64 hy]] W fun e w' => e = .returned (.int .i64 (widT ⟨nm, un, ki, ad, ev, we, sg, sw, mu, di, aa, de, qu, ul, uh, la, lo, hi, hy⟩)) ∧ Below W.heap.size W w') := Lib.hid fun W => refWidth_any nm un ki ad ev we sg sw mu di aa de qu ul uh la lo hi hy W
  rw [hwd] at d2 hw12 HW
  clear hwd
  have dd : decide (ad < 0) = false := decide_eq_false (by omega)
  have hwr : IntKind.i64.wrap (65536 - wd) = 65536 - wd := by rw [IntKind.wrap_i64]; omega
  go_enter Tryz.func56, Tryz.ntmps56
  go_wp2_with fail
  refine (refName_any nm _ hs).mono ?_
  rintro e w' ⟨rfl, rfl⟩
  rw [hn]
  clear hn
  go_wp2
  generalize w.alloc (.cells #[.string nm, .int .i64 un, .int .i64 ki, .int .i64 ad, .int .i64 ev, .bool we, .bool sg, .bool sw, .int .i64 mu, .int .i64 di, .int .i64 aa, .int .i64 de, .int .i64 qu, .bool ul, .bool uh, .bool la, .int .i64 lo, .int .i64 hi, .int .i64 hy] 51) = w0 at *
  have HK : Hid (∀ w9 : World, Below w0.heap.size w0 w9 → (Below w0.heap.size w0 w9 ∧ w9.cell? ⟨w.heap.size, 3, none⟩ = some (.int .i64 ad) ∧ (ldTag (.pointer (some ⟨w.heap.size, 0, none⟩))).run Tryz.prog w9 = .ok (.agg #[.string nm, .int .i64 un, .int .i64 ki, .int .i64 ad, .int .i64 ev, .bool we, .bool sg, .bool sw, .int .i64 mu, .int .i64 di, .int .i64 aa, .int .i64 de, .int .i64 qu, .bool ul, .bool uh, .bool la, .int .i64 lo, .int .i64 hi, .int .i64 hy]) w9)) := Lib.hid fun w9 hw => ⟨hw, (of19 nm un ki ad ev we sg sw mu di aa de qu ul uh la lo hi hy (keepB hw h0)).2.2.2.1, ldTag_run rfl (rangeB (cs := [.string nm, .int .i64 un, .int .i64 ki, .int .i64 ad, .int .i64 ev, .bool we, .bool sg, .bool sw, .int .i64 mu, .int .i64 di, .int .i64 aa, .int .i64 de, .int .i64 qu, .bool ul, .bool uh, .bool la, .int .i64 lo, .int .i64 hi, .int .i64 hy]) (keepB hw h0))⟩
  have belh : ∀ w9 : World, (Below w0.heap.size w0 w9 ∧ w9.cell? ⟨w.heap.size, 3, none⟩ = some (.int .i64 ad) ∧ (ldTag (.pointer (some ⟨w.heap.size, 0, none⟩))).run Tryz.prog w9 = .ok (.agg #[.string nm, .int .i64 un, .int .i64 ki, .int .i64 ad, .int .i64 ev, .bool we, .bool sg, .bool sw, .int .i64 mu, .int .i64 di, .int .i64 aa, .int .i64 de, .int .i64 qu, .bool ul, .bool uh, .bool la, .int .i64 lo, .int .i64 hi, .int .i64 hy]) w9) → Below w0.heap.size w0 w9 := fun w9 h => h.1
  go_region_held3 (fun w9 => Below w0.heap.size w0 w9 ∧ w9.cell? ⟨w.heap.size, 3, none⟩ = some (.int .i64 ad) ∧ (ldTag (.pointer (some ⟨w.heap.size, 0, none⟩))).run Tryz.prog w9 = .ok (.agg #[.string nm, .int .i64 un, .int .i64 ki, .int .i64 ad, .int .i64 ev, .bool we, .bool sg, .bool sw, .int .i64 mu, .int .i64 di, .int .i64 aa, .int .i64 de, .int .i64 qu, .bool ul, .bool uh, .bool la, .int .i64 lo, .int .i64 hi, .int .i64 hy]) w9)
    ((refine HK.out _ ?_
      repeat' (first
        | with_reducible exact Below.refl _ _
        | with_reducible exact bel5
        | with_reducible exact belh _ (by assumption)
        | with_reducible apply below_drew
        | with_reducible apply below_drewN
        | fail)))
    (first
      | (go_at_call 61; refine (HW.out _).mono ?_; rintro e w5 ⟨rfl, b5⟩; have bel5 : Below w0.heap.size w0 w5 := Below.trans (belh _ (by assumption)) (b5.mono (Below.size (belh _ (by assumption)))))
      | fail)
  have h5 := keepB bel5 h0
  have bel6 := bel0.trans (bel5.mono bel0.size)
  clear HK belh bel5 h0 bel0 HW
  obtain ⟨c0, c1, c2, c3, c4, c5, c6, c7, c8, c9, c10, c11, c12, c13, c14, c15, c16, c17, c18⟩ := of19 nm un ki ad ev we sg sw mu di aa de qu ul uh la lo hi hy h5
  go_wp2_with fail
  refine (refCheck6_any we sg sw mu di aa _).mono ?_
  rintro e w6 ⟨rfl, b6⟩
  rw [S]
  have h6 := keepB b6 h5
  have bel7 := bel6.trans (b6.mono bel6.size)
  clear c0 c1 c2 c3 c4 c5 c6 c7 c8 c9 c10 c11 c12 c13 c14 c15 c16 c17 c18 b6 h5 bel6
  obtain ⟨c0, c1, c2, c3, c4, c5, c6, c7, c8, c9, c10, c11, c12, c13, c14, c15, c16, c17, c18⟩ := of19 nm un ki ad ev we sg sw mu di aa de qu ul uh la lo hi hy h6
  go_wp2
  go_ret
  exact ⟨rfl, bel7⟩

set_option maxHeartbeats 1000000 in
theorem rc9_11aa (nm : ByteArray) (un ki ad ev : Int) (we sg sw : Bool) (mu di aa de qu : Int) (ul uh la : Bool) (lo hi hy : Int) (w : World) (hs : nm.size ≤ maxLen) (hn : nameB (bys nm) = true) (u1 : ¬ un < 1) (u2 : ¬ un > 247) (k1 : ¬ ki < 1) (k2 : ¬ ki > 4) (d1 : ¬ ad < 0) (d2 : ¬ ad > 65536 - widT ⟨nm, un, ki, ad, ev, we, sg, sw, mu, di, aa, de, qu, ul, uh, la, lo, hi, hy⟩) (v1 : ¬ ev < 1) (v2 : ¬ ev > 1048576) (S : chkS ⟨we, sg, sw, mu, di, aa⟩ = 0) (kb : ki ≤ 2) (hx : aa ≠ 0) : Calls Tryz.prog 56 #[.agg #[.string nm, .int .i64 un, .int .i64 ki, .int .i64 ad, .int .i64 ev, .bool we, .bool sg, .bool sw, .int .i64 mu, .int .i64 di, .int .i64 aa, .int .i64 de, .int .i64 qu, .bool ul, .bool uh, .bool la, .int .i64 lo, .int .i64 hi, .int .i64 hy]] w fun e w' => e = .returned (.int .i64 25) ∧ Below w.heap.size w w' := by
  have hx2 : (aa == 0) = false := beq_false_of_ne hx
  have h0 := heap_alloc_new w (.cells #[.string nm, .int .i64 un, .int .i64 ki, .int .i64 ad, .int .i64 ev, .bool we, .bool sg, .bool sw, .int .i64 mu, .int .i64 di, .int .i64 aa, .int .i64 de, .int .i64 qu, .bool ul, .bool uh, .bool la, .int .i64 lo, .int .i64 hi, .int .i64 hy] 51)
  have bel0 := bel_alloc w (.cells #[.string nm, .int .i64 un, .int .i64 ki, .int .i64 ad, .int .i64 ev, .bool we, .bool sg, .bool sw, .int .i64 mu, .int .i64 di, .int .i64 aa, .int .i64 de, .int .i64 qu, .bool ul, .bool uh, .bool la, .int .i64 lo, .int .i64 hi, .int .i64 hy] 51)
  obtain ⟨wd, hwd⟩ : ∃ x, widT ⟨nm, un, ki, ad, ev, we, sg, sw, mu, di, aa, de, qu, ul, uh, la, lo, hi, hy⟩ = x := ⟨_, rfl⟩
  have hw12 := widT_le (⟨nm, un, ki, ad, ev, we, sg, sw, mu, di, aa, de, qu, ul, uh, la, lo, hi, hy⟩)
  have HW : Hid (∀ W : World, Calls Tryz.prog 61 #[.agg #[.string nm, .int .i64 un, .int .i64 ki, .int .i64 ad, .int .i64 ev, .bool we, .bool sg, .bool sw, .int .i64 mu, .int .i64 di, .int .i64 aa, .int .i64 de, .int .i64 qu, .bool ul, .bool uh, .bool la, .int .i64 lo, .int .i64 hi, .int .i64 hy]] W fun e w' => e = .returned (.int .i64 (widT ⟨nm, un, ki, ad, ev, we, sg, sw, mu, di, aa, de, qu, ul, uh, la, lo, hi, hy⟩)) ∧ Below W.heap.size W w') := Lib.hid fun W => refWidth_any nm un ki ad ev we sg sw mu di aa de qu ul uh la lo hi hy W
  rw [hwd] at d2 hw12 HW
  clear hwd
  have dd : decide (ad < 0) = false := decide_eq_false (by omega)
  have hwr : IntKind.i64.wrap (65536 - wd) = 65536 - wd := by rw [IntKind.wrap_i64]; omega
  go_enter Tryz.func56, Tryz.ntmps56
  go_wp2_with fail
  refine (refName_any nm _ hs).mono ?_
  rintro e w' ⟨rfl, rfl⟩
  rw [hn]
  clear hn
  go_wp2
  generalize w.alloc (.cells #[.string nm, .int .i64 un, .int .i64 ki, .int .i64 ad, .int .i64 ev, .bool we, .bool sg, .bool sw, .int .i64 mu, .int .i64 di, .int .i64 aa, .int .i64 de, .int .i64 qu, .bool ul, .bool uh, .bool la, .int .i64 lo, .int .i64 hi, .int .i64 hy] 51) = w0 at *
  have HK : Hid (∀ w9 : World, Below w0.heap.size w0 w9 → (Below w0.heap.size w0 w9 ∧ w9.cell? ⟨w.heap.size, 3, none⟩ = some (.int .i64 ad) ∧ (ldTag (.pointer (some ⟨w.heap.size, 0, none⟩))).run Tryz.prog w9 = .ok (.agg #[.string nm, .int .i64 un, .int .i64 ki, .int .i64 ad, .int .i64 ev, .bool we, .bool sg, .bool sw, .int .i64 mu, .int .i64 di, .int .i64 aa, .int .i64 de, .int .i64 qu, .bool ul, .bool uh, .bool la, .int .i64 lo, .int .i64 hi, .int .i64 hy]) w9)) := Lib.hid fun w9 hw => ⟨hw, (of19 nm un ki ad ev we sg sw mu di aa de qu ul uh la lo hi hy (keepB hw h0)).2.2.2.1, ldTag_run rfl (rangeB (cs := [.string nm, .int .i64 un, .int .i64 ki, .int .i64 ad, .int .i64 ev, .bool we, .bool sg, .bool sw, .int .i64 mu, .int .i64 di, .int .i64 aa, .int .i64 de, .int .i64 qu, .bool ul, .bool uh, .bool la, .int .i64 lo, .int .i64 hi, .int .i64 hy]) (keepB hw h0))⟩
  have belh : ∀ w9 : World, (Below w0.heap.size w0 w9 ∧ w9.cell? ⟨w.heap.size, 3, none⟩ = some (.int .i64 ad) ∧ (ldTag (.pointer (some ⟨w.heap.size, 0, none⟩))).run Tryz.prog w9 = .ok (.agg #[.string nm, .int .i64 un, .int .i64 ki, .int .i64 ad, .int .i64 ev, .bool we, .bool sg, .bool sw, .int .i64 mu, .int .i64 di, .int .i64 aa, .int .i64 de, .int .i64 qu, .bool ul, .bool uh, .bool la, .int .i64 lo, .int .i64 hi, .int .i64 hy]) w9) → Below w0.heap.size w0 w9 := fun w9 h => h.1
  go_region_held3 (fun w9 => Below w0.heap.size w0 w9 ∧ w9.cell? ⟨w.heap.size, 3, none⟩ = some (.int .i64 ad) ∧ (ldTag (.pointer (some ⟨w.heap.size, 0, none⟩))).run Tryz.prog w9 = .ok (.agg #[.string nm, .int .i64 un, .int .i64 ki, .int .i64 ad, .int .i64 ev, .bool we, .bool sg, .bool sw, .int .i64 mu, .int .i64 di, .int .i64 aa, .int .i64 de, .int .i64 qu, .bool ul, .bool uh, .bool la, .int .i64 lo, .int .i64 hi, .int .i64 hy]) w9)
    ((refine HK.out _ ?_
      repeat' (first
        | with_reducible exact Below.refl _ _
        | with_reducible exact bel5
        | with_reducible exact belh _ (by assumption)
        | with_reducible apply below_drew
        | with_reducible apply below_drewN
        | fail)))
    (first
      | (go_at_call 61; refine (HW.out _).mono ?_; rintro e w5 ⟨rfl, b5⟩; have bel5 : Below w0.heap.size w0 w5 := Below.trans (belh _ (by assumption)) (b5.mono (Below.size (belh _ (by assumption)))))
      | fail)
  have h5 := keepB bel5 h0
  have bel6 := bel0.trans (bel5.mono bel0.size)
  clear HK belh bel5 h0 bel0 HW
  obtain ⟨c0, c1, c2, c3, c4, c5, c6, c7, c8, c9, c10, c11, c12, c13, c14, c15, c16, c17, c18⟩ := of19 nm un ki ad ev we sg sw mu di aa de qu ul uh la lo hi hy h5
  go_wp2_with fail
  refine (refCheck6_any we sg sw mu di aa _).mono ?_
  rintro e w6 ⟨rfl, b6⟩
  rw [S]
  have h6 := keepB b6 h5
  have bel7 := bel6.trans (b6.mono bel6.size)
  clear c0 c1 c2 c3 c4 c5 c6 c7 c8 c9 c10 c11 c12 c13 c14 c15 c16 c17 c18 b6 h5 bel6
  obtain ⟨c0, c1, c2, c3, c4, c5, c6, c7, c8, c9, c10, c11, c12, c13, c14, c15, c16, c17, c18⟩ := of19 nm un ki ad ev we sg sw mu di aa de qu ul uh la lo hi hy h6
  go_wp2
  go_ret
  exact ⟨rfl, bel7⟩
end Go.Proofs.YtcmbdhmhkfhjfaaGreat
namespace Go.Proofs.YtcmbdhmhkfhjfaaGreat
open Go.RowKit
set_option linter.unusedVariables false
attribute [local go_sem ↓] ldTag_fold

set_option maxHeartbeats 1000000 in
theorem rc9_12n (nm : ByteArray) (un ki ad ev : Int) (we sg sw : Bool) (mu di aa de qu : Int) (ul uh la : Bool) (lo hi hy : Int) (w : World) (hs : nm.size ≤ maxLen) (hn : nameB (bys nm) = true) (u1 : ¬ un < 1) (u2 : ¬ un > 247) (k1 : ¬ ki < 1) (k2 : ¬ ki > 4) (d1 : ¬ ad < 0) (d2 : ¬ ad > 65536 - widT ⟨nm, un, ki, ad, ev, we, sg, sw, mu, di, aa, de, qu, ul, uh, la, lo, hi, hy⟩) (v1 : ¬ ev < 1) (v2 : ¬ ev > 1048576) (S : chkS ⟨we, sg, sw, mu, di, aa⟩ = 0) (kn : ¬ ki ≤ 2) (B0 : chkB de qu = 26) : Calls Tryz.prog 56 #[.agg #[.string nm, .int .i64 un, .int .i64 ki, .int .i64 ad, .int .i64 ev, .bool we, .bool sg, .bool sw, .int .i64 mu, .int .i64 di, .int .i64 aa, .int .i64 de, .int .i64 qu, .bool ul, .bool uh, .bool la, .int .i64 lo, .int .i64 hi, .int .i64 hy]] w fun e w' => e = .returned (.int .i64 26) ∧ Below w.heap.size w w' := by
  have h0 := heap_alloc_new w (.cells #[.string nm, .int .i64 un, .int .i64 ki, .int .i64 ad, .int .i64 ev, .bool we, .bool sg, .bool sw, .int .i64 mu, .int .i64 di, .int .i64 aa, .int .i64 de, .int .i64 qu, .bool ul, .bool uh, .bool la, .int .i64 lo, .int .i64 hi, .int .i64 hy] 51)
  have bel0 := bel_alloc w (.cells #[.string nm, .int .i64 un, .int .i64 ki, .int .i64 ad, .int .i64 ev, .bool we, .bool sg, .bool sw, .int .i64 mu, .int .i64 di, .int .i64 aa, .int .i64 de, .int .i64 qu, .bool ul, .bool uh, .bool la, .int .i64 lo, .int .i64 hi, .int .i64 hy] 51)
  obtain ⟨wd, hwd⟩ : ∃ x, widT ⟨nm, un, ki, ad, ev, we, sg, sw, mu, di, aa, de, qu, ul, uh, la, lo, hi, hy⟩ = x := ⟨_, rfl⟩
  have hw12 := widT_le (⟨nm, un, ki, ad, ev, we, sg, sw, mu, di, aa, de, qu, ul, uh, la, lo, hi, hy⟩)
  have HW : Hid (∀ W : World, Calls Tryz.prog 61 #[.agg #[.string nm, .int .i64 un, .int .i64 ki, .int .i64 ad, .int .i64 ev, .bool we, .bool sg, .bool sw, .int .i64 mu, .int .i64 di, .int .i64 aa, .int .i64 de, .int .i64 qu, .bool ul, .bool uh, .bool la, .int .i64 lo, .int .i64 hi, .int .i64 hy]] W fun e w' => e = .returned (.int .i64 (widT ⟨nm, un, ki, ad, ev, we, sg, sw, mu, di, aa, de, qu, ul, uh, la, lo, hi, hy⟩)) ∧ Below W.heap.size W w') := Lib.hid fun W => refWidth_any nm un ki ad ev we sg sw mu di aa de qu ul uh la lo hi hy W
  rw [hwd] at d2 hw12 HW
  clear hwd
  have dd : decide (ad < 0) = false := decide_eq_false (by omega)
  have hwr : IntKind.i64.wrap (65536 - wd) = 65536 - wd := by rw [IntKind.wrap_i64]; omega
  go_enter Tryz.func56, Tryz.ntmps56
  go_wp2_with fail
  refine (refName_any nm _ hs).mono ?_
  rintro e w' ⟨rfl, rfl⟩
  rw [hn]
  clear hn
  go_wp2
  generalize w.alloc (.cells #[.string nm, .int .i64 un, .int .i64 ki, .int .i64 ad, .int .i64 ev, .bool we, .bool sg, .bool sw, .int .i64 mu, .int .i64 di, .int .i64 aa, .int .i64 de, .int .i64 qu, .bool ul, .bool uh, .bool la, .int .i64 lo, .int .i64 hi, .int .i64 hy] 51) = w0 at *
  have HK : Hid (∀ w9 : World, Below w0.heap.size w0 w9 → (Below w0.heap.size w0 w9 ∧ w9.cell? ⟨w.heap.size, 3, none⟩ = some (.int .i64 ad) ∧ (ldTag (.pointer (some ⟨w.heap.size, 0, none⟩))).run Tryz.prog w9 = .ok (.agg #[.string nm, .int .i64 un, .int .i64 ki, .int .i64 ad, .int .i64 ev, .bool we, .bool sg, .bool sw, .int .i64 mu, .int .i64 di, .int .i64 aa, .int .i64 de, .int .i64 qu, .bool ul, .bool uh, .bool la, .int .i64 lo, .int .i64 hi, .int .i64 hy]) w9)) := Lib.hid fun w9 hw => ⟨hw, (of19 nm un ki ad ev we sg sw mu di aa de qu ul uh la lo hi hy (keepB hw h0)).2.2.2.1, ldTag_run rfl (rangeB (cs := [.string nm, .int .i64 un, .int .i64 ki, .int .i64 ad, .int .i64 ev, .bool we, .bool sg, .bool sw, .int .i64 mu, .int .i64 di, .int .i64 aa, .int .i64 de, .int .i64 qu, .bool ul, .bool uh, .bool la, .int .i64 lo, .int .i64 hi, .int .i64 hy]) (keepB hw h0))⟩
  have belh : ∀ w9 : World, (Below w0.heap.size w0 w9 ∧ w9.cell? ⟨w.heap.size, 3, none⟩ = some (.int .i64 ad) ∧ (ldTag (.pointer (some ⟨w.heap.size, 0, none⟩))).run Tryz.prog w9 = .ok (.agg #[.string nm, .int .i64 un, .int .i64 ki, .int .i64 ad, .int .i64 ev, .bool we, .bool sg, .bool sw, .int .i64 mu, .int .i64 di, .int .i64 aa, .int .i64 de, .int .i64 qu, .bool ul, .bool uh, .bool la, .int .i64 lo, .int .i64 hi, .int .i64 hy]) w9) → Below w0.heap.size w0 w9 := fun w9 h => h.1
  go_region_held3 (fun w9 => Below w0.heap.size w0 w9 ∧ w9.cell? ⟨w.heap.size, 3, none⟩ = some (.int .i64 ad) ∧ (ldTag (.pointer (some ⟨w.heap.size, 0, none⟩))).run Tryz.prog w9 = .ok (.agg #[.string nm, .int .i64 un, .int .i64 ki, .int .i64 ad, .int .i64 ev, .bool we, .bool sg, .bool sw, .int .i64 mu, .int .i64 di, .int .i64 aa, .int .i64 de, .int .i64 qu, .bool ul, .bool uh, .bool la, .int .i64 lo, .int .i64 hi, .int .i64 hy]) w9)
    ((refine HK.out _ ?_
      repeat' (first
        | with_reducible exact Below.refl _ _
        | with_reducible exact bel5
        | with_reducible exact belh _ (by assumption)
        | with_reducible apply below_drew
        | with_reducible apply below_drewN
        | fail)))
    (first
      | (go_at_call 61; refine (HW.out _).mono ?_; rintro e w5 ⟨rfl, b5⟩; have bel5 : Below w0.heap.size w0 w5 := Below.trans (belh _ (by assumption)) (b5.mono (Below.size (belh _ (by assumption)))))
      | fail)
  have h5 := keepB bel5 h0
  have bel6 := bel0.trans (bel5.mono bel0.size)
  clear HK belh bel5 h0 bel0 HW
  obtain ⟨c0, c1, c2, c3, c4, c5, c6, c7, c8, c9, c10, c11, c12, c13, c14, c15, c16, c17, c18⟩ := of19 nm un ki ad ev we sg sw mu di aa de qu ul uh la lo hi hy h5
  go_wp2_with fail
  refine (refCheck6_any we sg sw mu di aa _).mono ?_
  rintro e w6 ⟨rfl, b6⟩
  rw [S]
  have h6 := keepB b6 h5
  have bel7 := bel6.trans (b6.mono bel6.size)
  clear c0 c1 c2 c3 c4 c5 c6 c7 c8 c9 c10 c11 c12 c13 c14 c15 c16 c17 c18 b6 h5 bel6
  obtain ⟨c0, c1, c2, c3, c4, c5, c6, c7, c8, c9, c10, c11, c12, c13, c14, c15, c16, c17, c18⟩ := of19 nm un ki ad ev we sg sw mu di aa de qu ul uh la lo hi hy h6
  go_wp2_with fail
  refine (refCheck7_any de qu _).mono ?_
  rintro e w7 ⟨rfl, b7⟩
  rw [B0]
  have h7 := keepB b7 h6
  have bel8 := bel7.trans (b7.mono bel7.size)
  clear c0 c1 c2 c3 c4 c5 c6 c7 c8 c9 c10 c11 c12 c13 c14 c15 c16 c17 c18 b7 h6 bel7
  obtain ⟨c0, c1, c2, c3, c4, c5, c6, c7, c8, c9, c10, c11, c12, c13, c14, c15, c16, c17, c18⟩ := of19 nm un ki ad ev we sg sw mu di aa de qu ul uh la lo hi hy h7
  go_wp2
  go_ret
  exact ⟨rfl, bel8⟩

set_option maxHeartbeats 1000000 in
theorem rc9_13n (nm : ByteArray) (un ki ad ev : Int) (we sg sw : Bool) (mu di aa de qu : Int) (ul uh la : Bool) (lo hi hy : Int) (w : World) (hs : nm.size ≤ maxLen) (hn : nameB (bys nm) = true) (u1 : ¬ un < 1) (u2 : ¬ un > 247) (k1 : ¬ ki < 1) (k2 : ¬ ki > 4) (d1 : ¬ ad < 0) (d2 : ¬ ad > 65536 - widT ⟨nm, un, ki, ad, ev, we, sg, sw, mu, di, aa, de, qu, ul, uh, la, lo, hi, hy⟩) (v1 : ¬ ev < 1) (v2 : ¬ ev > 1048576) (S : chkS ⟨we, sg, sw, mu, di, aa⟩ = 0) (kn : ¬ ki ≤ 2) (B : chkB de qu = 0) : Calls Tryz.prog 56 #[.agg #[.string nm, .int .i64 un, .int .i64 ki, .int .i64 ad, .int .i64 ev, .bool we, .bool sg, .bool sw, .int .i64 mu, .int .i64 di, .int .i64 aa, .int .i64 de, .int .i64 qu, .bool ul, .bool uh, .bool la, .int .i64 lo, .int .i64 hi, .int .i64 hy]] w fun e w' => e = .returned (.int .i64 (chkL ⟨ul, uh, la, lo, hi, hy⟩)) ∧ Below w.heap.size w w' := by
  have h0 := heap_alloc_new w (.cells #[.string nm, .int .i64 un, .int .i64 ki, .int .i64 ad, .int .i64 ev, .bool we, .bool sg, .bool sw, .int .i64 mu, .int .i64 di, .int .i64 aa, .int .i64 de, .int .i64 qu, .bool ul, .bool uh, .bool la, .int .i64 lo, .int .i64 hi, .int .i64 hy] 51)
  have bel0 := bel_alloc w (.cells #[.string nm, .int .i64 un, .int .i64 ki, .int .i64 ad, .int .i64 ev, .bool we, .bool sg, .bool sw, .int .i64 mu, .int .i64 di, .int .i64 aa, .int .i64 de, .int .i64 qu, .bool ul, .bool uh, .bool la, .int .i64 lo, .int .i64 hi, .int .i64 hy] 51)
  obtain ⟨wd, hwd⟩ : ∃ x, widT ⟨nm, un, ki, ad, ev, we, sg, sw, mu, di, aa, de, qu, ul, uh, la, lo, hi, hy⟩ = x := ⟨_, rfl⟩
  have hw12 := widT_le (⟨nm, un, ki, ad, ev, we, sg, sw, mu, di, aa, de, qu, ul, uh, la, lo, hi, hy⟩)
  have HW : Hid (∀ W : World, Calls Tryz.prog 61 #[.agg #[.string nm, .int .i64 un, .int .i64 ki, .int .i64 ad, .int .i64 ev, .bool we, .bool sg, .bool sw, .int .i64 mu, .int .i64 di, .int .i64 aa, .int .i64 de, .int .i64 qu, .bool ul, .bool uh, .bool la, .int .i64 lo, .int .i64 hi, .int .i64 hy]] W fun e w' => e = .returned (.int .i64 (widT ⟨nm, un, ki, ad, ev, we, sg, sw, mu, di, aa, de, qu, ul, uh, la, lo, hi, hy⟩)) ∧ Below W.heap.size W w') := Lib.hid fun W => refWidth_any nm un ki ad ev we sg sw mu di aa de qu ul uh la lo hi hy W
  rw [hwd] at d2 hw12 HW
  clear hwd
  have dd : decide (ad < 0) = false := decide_eq_false (by omega)
  have hwr : IntKind.i64.wrap (65536 - wd) = 65536 - wd := by rw [IntKind.wrap_i64]; omega
  go_enter Tryz.func56, Tryz.ntmps56
  go_wp2_with fail
  refine (refName_any nm _ hs).mono ?_
  rintro e w' ⟨rfl, rfl⟩
  rw [hn]
  clear hn
  go_wp2
  generalize w.alloc (.cells #[.string nm, .int .i64 un, .int .i64 ki, .int .i64 ad, .int .i64 ev, .bool we, .bool sg, .bool sw, .int .i64 mu, .int .i64 di, .int .i64 aa, .int .i64 de, .int .i64 qu, .bool ul, .bool uh, .bool la, .int .i64 lo, .int .i64 hi, .int .i64 hy] 51) = w0 at *
  have HK : Hid (∀ w9 : World, Below w0.heap.size w0 w9 → (Below w0.heap.size w0 w9 ∧ w9.cell? ⟨w.heap.size, 3, none⟩ = some (.int .i64 ad) ∧ (ldTag (.pointer (some ⟨w.heap.size, 0, none⟩))).run Tryz.prog w9 = .ok (.agg #[.string nm, .int .i64 un, .int .i64 ki, .int .i64 ad, .int .i64 ev, .bool we, .bool sg, .bool sw, .int .i64 mu, .int .i64 di, .int .i64 aa, .int .i64 de, .int .i64 qu, .bool ul, .bool uh, .bool la, .int .i64 lo, .int .i64 hi, .int .i64 hy]) w9)) := Lib.hid fun w9 hw => ⟨hw, (of19 nm un ki ad ev we sg sw mu di aa de qu ul uh la lo hi hy (keepB hw h0)).2.2.2.1, ldTag_run rfl (rangeB (cs := [.string nm, .int .i64 un, .int .i64 ki, .int .i64 ad, .int .i64 ev, .bool we, .bool sg, .bool sw, .int .i64 mu, .int .i64 di, .int .i64 aa, .int .i64 de, .int .i64 qu, .bool ul, .bool uh, .bool la, .int .i64 lo, .int .i64 hi, .int .i64 hy]) (keepB hw h0))⟩
  have belh : ∀ w9 : World, (Below w0.heap.size w0 w9 ∧ w9.cell? ⟨w.heap.size, 3, none⟩ = some (.int .i64 ad) ∧ (ldTag (.pointer (some ⟨w.heap.size, 0, none⟩))).run Tryz.prog w9 = .ok (.agg #[.string nm, .int .i64 un, .int .i64 ki, .int .i64 ad, .int .i64 ev, .bool we, .bool sg, .bool sw, .int .i64 mu, .int .i64 di, .int .i64 aa, .int .i64 de, .int .i64 qu, .bool ul, .bool uh, .bool la, .int .i64 lo, .int .i64 hi, .int .i64 hy]) w9) → Below w0.heap.size w0 w9 := fun w9 h => h.1
  go_region_held3 (fun w9 => Below w0.heap.size w0 w9 ∧ w9.cell? ⟨w.heap.size, 3, none⟩ = some (.int .i64 ad) ∧ (ldTag (.pointer (some ⟨w.heap.size, 0, none⟩))).run Tryz.prog w9 = .ok (.agg #[.string nm, .int .i64 un, .int .i64 ki, .int .i64 ad, .int .i64 ev, .bool we, .bool sg, .bool sw, .int .i64 mu, .int .i64 di, .int .i64 aa, .int .i64 de, .int .i64 qu, .bool ul, .bool uh, .bool la, .int .i64 lo, .int .i64 hi, .int .i64 hy]) w9)
    ((refine HK.out _ ?_
      repeat' (first
        | with_reducible exact Below.refl _ _
        | with_reducible exact bel5
        | with_reducible exact belh _ (by assumption)
        | with_reducible apply below_drew
        | with_reducible apply below_drewN
        | fail)))
    (first
      | (go_at_call 61; refine (HW.out _).mono ?_; rintro e w5 ⟨rfl, b5⟩; have bel5 : Below w0.heap.size w0 w5 := Below.trans (belh _ (by assumption)) (b5.mono (Below.size (belh _ (by assumption)))))
      | fail)
  have h5 := keepB bel5 h0
  have bel6 := bel0.trans (bel5.mono bel0.size)
  clear HK belh bel5 h0 bel0 HW
  obtain ⟨c0, c1, c2, c3, c4, c5, c6, c7, c8, c9, c10, c11, c12, c13, c14, c15, c16, c17, c18⟩ := of19 nm un ki ad ev we sg sw mu di aa de qu ul uh la lo hi hy h5
  go_wp2_with fail
  refine (refCheck6_any we sg sw mu di aa _).mono ?_
  rintro e w6 ⟨rfl, b6⟩
  rw [S]
  have h6 := keepB b6 h5
  have bel7 := bel6.trans (b6.mono bel6.size)
  clear c0 c1 c2 c3 c4 c5 c6 c7 c8 c9 c10 c11 c12 c13 c14 c15 c16 c17 c18 b6 h5 bel6
  obtain ⟨c0, c1, c2, c3, c4, c5, c6, c7, c8, c9, c10, c11, c12, c13, c14, c15, c16, c17, c18⟩ := of19 nm un ki ad ev we sg sw mu di aa de qu ul uh la lo hi hy h6
  go_wp2_with fail
  refine (refCheck7_any de qu _).mono ?_
  rintro e w7 ⟨rfl, b7⟩
  rw [B]
  have h7 := keepB b7 h6
  have bel8 := bel7.trans (b7.mono bel7.size)
  clear c0 c1 c2 c3 c4 c5 c6 c7 c8 c9 c10 c11 c12 c13 c14 c15 c16 c17 c18 b7 h6 bel7
  obtain ⟨c0, c1, c2, c3, c4, c5, c6, c7, c8, c9, c10, c11, c12, c13, c14, c15, c16, c17, c18⟩ := of19 nm un ki ad ev we sg sw mu di aa de qu ul uh la lo hi hy h7
  go_wp2_with fail
  refine (refCheck8_any ul uh la lo hi hy _).mono ?_
  rintro e w8 ⟨rfl, b8⟩
  go_wp2
  go_ret
  exact ⟨rfl, bel8.trans (b8.mono bel8.size)⟩

set_option maxHeartbeats 1000000 in
theorem rc9_12b (nm : ByteArray) (un ki ad ev : Int) (de qu : Int) (ul uh la : Bool) (lo hi hy : Int) (w : World) (hs : nm.size ≤ maxLen) (hn : nameB (bys nm) = true) (u1 : ¬ un < 1) (u2 : ¬ un > 247) (k1 : ¬ ki < 1) (k2 : ¬ ki > 4) (d1 : ¬ ad < 0) (d2 : ¬ ad > 65536 - widT ⟨nm, un, ki, ad, ev, false, false, false, 1, 1, 0, de, qu, ul, uh, la, lo, hi, hy⟩) (v1 : ¬ ev < 1) (v2 : ¬ ev > 1048576) (S : chkS ⟨false, false, false, 1, 1, 0⟩ = 0) (kb : ki ≤ 2) (B0 : chkB de qu = 26) : Calls Tryz.prog 56 #[.agg #[.string nm, .int .i64 un, .int .i64 ki, .int .i64 ad, .int .i64 ev, .bool false, .bool false, .bool false, .int .i64 1, .int .i64 1, .int .i64 0, .int .i64 de, .int .i64 qu, .bool ul, .bool uh, .bool la, .int .i64 lo, .int .i64 hi, .int .i64 hy]] w fun e w' => e = .returned (.int .i64 26) ∧ Below w.heap.size w w' := by
  have h0 := heap_alloc_new w (.cells #[.string nm, .int .i64 un, .int .i64 ki, .int .i64 ad, .int .i64 ev, .bool false, .bool false, .bool false, .int .i64 1, .int .i64 1, .int .i64 0, .int .i64 de, .int .i64 qu, .bool ul, .bool uh, .bool la, .int .i64 lo, .int .i64 hi, .int .i64 hy] 51)
  have bel0 := bel_alloc w (.cells #[.string nm, .int .i64 un, .int .i64 ki, .int .i64 ad, .int .i64 ev, .bool false, .bool false, .bool false, .int .i64 1, .int .i64 1, .int .i64 0, .int .i64 de, .int .i64 qu, .bool ul, .bool uh, .bool la, .int .i64 lo, .int .i64 hi, .int .i64 hy] 51)
  obtain ⟨wd, hwd⟩ : ∃ x, widT ⟨nm, un, ki, ad, ev, false, false, false, 1, 1, 0, de, qu, ul, uh, la, lo, hi, hy⟩ = x := ⟨_, rfl⟩
  have hw12 := widT_le (⟨nm, un, ki, ad, ev, false, false, false, 1, 1, 0, de, qu, ul, uh, la, lo, hi, hy⟩)
  have HW : Hid (∀ W : World, Calls Tryz.prog 61 #[.agg #[.string nm, .int .i64 un, .int .i64 ki, .int .i64 ad, .int .i64 ev, .bool false, .bool false, .bool false, .int .i64 1, .int .i64 1, .int .i64 0, .int .i64 de, .int .i64 qu, .bool ul, .bool uh, .bool la, .int .i64 lo, .int .i64 hi, .int .i64 hy]] W fun e w' => e = .returned (.int .i64 (widT ⟨nm, un, ki, ad, ev, false, false, false, 1, 1, 0, de, qu, ul, uh, la, lo, hi, hy⟩)) ∧ Below W.heap.size W w') := Lib.hid fun W => refWidth_any nm un ki ad ev false false false 1 1 0 de qu ul uh la lo hi hy W
  rw [hwd] at d2 hw12 HW
  clear hwd
  have dd : decide (ad < 0) = false := decide_eq_false (by omega)
  have hwr : IntKind.i64.wrap (65536 - wd) = 65536 - wd := by rw [IntKind.wrap_i64]; omega
  go_enter Tryz.func56, Tryz.ntmps56
  go_wp2_with fail
  refine (refName_any nm _ hs).mono ?_
  rintro e w' ⟨rfl, rfl⟩
  rw [hn]
  clear hn
  go_wp2
  generalize w.alloc (.cells #[.string nm, .int .i64 un, .int .i64 ki, .int .i64 ad, .int .i64 ev, .bool false, .bool false, .bool false, .int .i64 1, .int .i64 1, .int .i64 0, .int .i64 de, .int .i64 qu, .bool ul, .bool uh, .bool la, .int .i64 lo, .int .i64 hi, .int .i64 hy] 51) = w0 at *
  have HK : Hid (∀ w9 : World, Below w0.heap.size w0 w9 → (Below w0.heap.size w0 w9 ∧ w9.cell? ⟨w.heap.size, 3, none⟩ = some (.int .i64 ad) ∧ (ldTag (.pointer (some ⟨w.heap.size, 0, none⟩))).run Tryz.prog w9 = .ok (.agg #[.string nm, .int .i64 un, .int .i64 ki, .int .i64 ad, .int .i64 ev, .bool false, .bool false, .bool false, .int .i64 1, .int .i64 1, .int .i64 0, .int .i64 de, .int .i64 qu, .bool ul, .bool uh, .bool la, .int .i64 lo, .int .i64 hi, .int .i64 hy]) w9)) := Lib.hid fun w9 hw => ⟨hw, (of19 nm un ki ad ev false false false 1 1 0 de qu ul uh la lo hi hy (keepB hw h0)).2.2.2.1, ldTag_run rfl (rangeB (cs := [.string nm, .int .i64 un, .int .i64 ki, .int .i64 ad, .int .i64 ev, .bool false, .bool false, .bool false, .int .i64 1, .int .i64 1, .int .i64 0, .int .i64 de, .int .i64 qu, .bool ul, .bool uh, .bool la, .int .i64 lo, .int .i64 hi, .int .i64 hy]) (keepB hw h0))⟩
  have belh : ∀ w9 : World, (Below w0.heap.size w0 w9 ∧ w9.cell? ⟨w.heap.size, 3, none⟩ = some (.int .i64 ad) ∧ (ldTag (.pointer (some ⟨w.heap.size, 0, none⟩))).run Tryz.prog w9 = .ok (.agg #[.string nm, .int .i64 un, .int .i64 ki, .int .i64 ad, .int .i64 ev, .bool false, .bool false, .bool false, .int .i64 1, .int .i64 1, .int .i64 0, .int .i64 de, .int .i64 qu, .bool ul, .bool uh, .bool la, .int .i64 lo, .int .i64 hi, .int .i64 hy]) w9) → Below w0.heap.size w0 w9 := fun w9 h => h.1
  go_region_held3 (fun w9 => Below w0.heap.size w0 w9 ∧ w9.cell? ⟨w.heap.size, 3, none⟩ = some (.int .i64 ad) ∧ (ldTag (.pointer (some ⟨w.heap.size, 0, none⟩))).run Tryz.prog w9 = .ok (.agg #[.string nm, .int .i64 un, .int .i64 ki, .int .i64 ad, .int .i64 ev, .bool false, .bool false, .bool false, .int .i64 1, .int .i64 1, .int .i64 0, .int .i64 de, .int .i64 qu, .bool ul, .bool uh, .bool la, .int .i64 lo, .int .i64 hi, .int .i64 hy]) w9)
    ((refine HK.out _ ?_
      repeat' (first
        | with_reducible exact Below.refl _ _
        | with_reducible exact bel5
        | with_reducible exact belh _ (by assumption)
        | with_reducible apply below_drew
        | with_reducible apply below_drewN
        | fail)))
    (first
      | (go_at_call 61; refine (HW.out _).mono ?_; rintro e w5 ⟨rfl, b5⟩; have bel5 : Below w0.heap.size w0 w5 := Below.trans (belh _ (by assumption)) (b5.mono (Below.size (belh _ (by assumption)))))
      | fail)
  have h5 := keepB bel5 h0
  have bel6 := bel0.trans (bel5.mono bel0.size)
  clear HK belh bel5 h0 bel0 HW
  obtain ⟨c0, c1, c2, c3, c4, c5, c6, c7, c8, c9, c10, c11, c12, c13, c14, c15, c16, c17, c18⟩ := of19 nm un ki ad ev false false false 1 1 0 de qu ul uh la lo hi hy h5
  go_wp2_with fail
  refine (refCheck6_any false false false 1 1 0 _).mono ?_
  rintro e w6 ⟨rfl, b6⟩
  rw [S]
  have h6 := keepB b6 h5
  have bel7 := bel6.trans (b6.mono bel6.size)
  clear c0 c1 c2 c3 c4 c5 c6 c7 c8 c9 c10 c11 c12 c13 c14 c15 c16 c17 c18 b6 h5 bel6
  obtain ⟨c0, c1, c2, c3, c4, c5, c6, c7, c8, c9, c10, c11, c12, c13, c14, c15, c16, c17, c18⟩ := of19 nm un ki ad ev false false false 1 1 0 de qu ul uh la lo hi hy h6
  go_wp2_with fail
  refine (refCheck7_any de qu _).mono ?_
  rintro e w7 ⟨rfl, b7⟩
  rw [B0]
  have h7 := keepB b7 h6
  have bel8 := bel7.trans (b7.mono bel7.size)
  clear c0 c1 c2 c3 c4 c5 c6 c7 c8 c9 c10 c11 c12 c13 c14 c15 c16 c17 c18 b7 h6 bel7
  obtain ⟨c0, c1, c2, c3, c4, c5, c6, c7, c8, c9, c10, c11, c12, c13, c14, c15, c16, c17, c18⟩ := of19 nm un ki ad ev false false false 1 1 0 de qu ul uh la lo hi hy h7
  go_wp2
  go_ret
  exact ⟨rfl, bel8⟩

set_option maxHeartbeats 1000000 in
theorem rc9_13b (nm : ByteArray) (un ki ad ev : Int) (de qu : Int) (ul uh la : Bool) (lo hi hy : Int) (w : World) (hs : nm.size ≤ maxLen) (hn : nameB (bys nm) = true) (u1 : ¬ un < 1) (u2 : ¬ un > 247) (k1 : ¬ ki < 1) (k2 : ¬ ki > 4) (d1 : ¬ ad < 0) (d2 : ¬ ad > 65536 - widT ⟨nm, un, ki, ad, ev, false, false, false, 1, 1, 0, de, qu, ul, uh, la, lo, hi, hy⟩) (v1 : ¬ ev < 1) (v2 : ¬ ev > 1048576) (S : chkS ⟨false, false, false, 1, 1, 0⟩ = 0) (kb : ki ≤ 2) (B : chkB de qu = 0) : Calls Tryz.prog 56 #[.agg #[.string nm, .int .i64 un, .int .i64 ki, .int .i64 ad, .int .i64 ev, .bool false, .bool false, .bool false, .int .i64 1, .int .i64 1, .int .i64 0, .int .i64 de, .int .i64 qu, .bool ul, .bool uh, .bool la, .int .i64 lo, .int .i64 hi, .int .i64 hy]] w fun e w' => e = .returned (.int .i64 (chkL ⟨ul, uh, la, lo, hi, hy⟩)) ∧ Below w.heap.size w w' := by
  have h0 := heap_alloc_new w (.cells #[.string nm, .int .i64 un, .int .i64 ki, .int .i64 ad, .int .i64 ev, .bool false, .bool false, .bool false, .int .i64 1, .int .i64 1, .int .i64 0, .int .i64 de, .int .i64 qu, .bool ul, .bool uh, .bool la, .int .i64 lo, .int .i64 hi, .int .i64 hy] 51)
  have bel0 := bel_alloc w (.cells #[.string nm, .int .i64 un, .int .i64 ki, .int .i64 ad, .int .i64 ev, .bool false, .bool false, .bool false, .int .i64 1, .int .i64 1, .int .i64 0, .int .i64 de, .int .i64 qu, .bool ul, .bool uh, .bool la, .int .i64 lo, .int .i64 hi, .int .i64 hy] 51)
  obtain ⟨wd, hwd⟩ : ∃ x, widT ⟨nm, un, ki, ad, ev, false, false, false, 1, 1, 0, de, qu, ul, uh, la, lo, hi, hy⟩ = x := ⟨_, rfl⟩
  have hw12 := widT_le (⟨nm, un, ki, ad, ev, false, false, false, 1, 1, 0, de, qu, ul, uh, la, lo, hi, hy⟩)
  have HW : Hid (∀ W : World, Calls Tryz.prog 61 #[.agg #[.string nm, .int .i64 un, .int .i64 ki, .int .i64 ad, .int .i64 ev, .bool false, .bool false, .bool false, .int .i64 1, .int .i64 1, .int .i64 0, .int .i64 de, .int .i64 qu, .bool ul, .bool uh, .bool la, .int .i64 lo, .int .i64 hi, .int .i64 hy]] W fun e w' => e = .returned (.int .i64 (widT ⟨nm, un, ki, ad, ev, false, false, false, 1, 1, 0, de, qu, ul, uh, la, lo, hi, hy⟩)) ∧ Below W.heap.size W w') := Lib.hid fun W => refWidth_any nm un ki ad ev false false false 1 1 0 de qu ul uh la lo hi hy W
  rw [hwd] at d2 hw12 HW
  clear hwd
  have dd : decide (ad < 0) = false := decide_eq_false (by omega)
  have hwr : IntKind.i64.wrap (65536 - wd) = 65536 - wd := by rw [IntKind.wrap_i64]; omega
  go_enter Tryz.func56, Tryz.ntmps56
  go_wp2_with fail
  refine (refName_any nm _ hs).mono ?_
  rintro e w' ⟨rfl, rfl⟩
  rw [hn]
  clear hn
  go_wp2
  generalize w.alloc (.cells #[.string nm, .int .i64 un, .int .i64 ki, .int .i64 ad, .int .i64 ev, .bool false, .bool false, .bool false, .int .i64 1, .int .i64 1, .int .i64 0, .int .i64 de, .int .i64 qu, .bool ul, .bool uh, .bool la, .int .i64 lo, .int .i64 hi, .int .i64 hy] 51) = w0 at *
  have HK : Hid (∀ w9 : World, Below w0.heap.size w0 w9 → (Below w0.heap.size w0 w9 ∧ w9.cell? ⟨w.heap.size, 3, none⟩ = some (.int .i64 ad) ∧ (ldTag (.pointer (some ⟨w.heap.size, 0, none⟩))).run Tryz.prog w9 = .ok (.agg #[.string nm, .int .i64 un, .int .i64 ki, .int .i64 ad, .int .i64 ev, .bool false, .bool false, .bool false, .int .i64 1, .int .i64 1, .int .i64 0, .int .i64 de, .int .i64 qu, .bool ul, .bool uh, .bool la, .int .i64 lo, .int .i64 hi, .int .i64 hy]) w9)) := Lib.hid fun w9 hw => ⟨hw, (of19 nm un ki ad ev false false false 1 1 0 de qu ul uh la lo hi hy (keepB hw h0)).2.2.2.1, ldTag_run rfl (rangeB (cs := [.string nm, .int .i64 un, .int .i64 ki, .int .i64 ad, .int .i64 ev, .bool false, .bool false, .bool false, .int .i64 1, .int .i64 1, .int .i64 0, .int .i64 de, .int .i64 qu, .bool ul, .bool uh, .bool la, .int .i64 lo, .int .i64 hi, .int .i64 hy]) (keepB hw h0))⟩
  have belh : ∀ w9 : World, (Below w0.heap.size w0 w9 ∧ w9.cell? ⟨w.heap.size, 3, none⟩ = some (.int .i64 ad) ∧ (ldTag (.pointer (some ⟨w.heap.size, 0, none⟩))).run Tryz.prog w9 = .ok (.agg #[.string nm, .int .i64 un, .int .i64 ki, .int .i64 ad, .int .i64 ev, .bool false, .bool false, .bool false, .int .i64 1, .int .i64 1, .int .i64 0, .int .i64 de, .int .i64 qu, .bool ul, .bool uh, .bool la, .int .i64 lo, .int .i64 hi, .int .i64 hy]) w9) → Below w0.heap.size w0 w9 := fun w9 h => h.1
  go_region_held3 (fun w9 => Below w0.heap.size w0 w9 ∧ w9.cell? ⟨w.heap.size, 3, none⟩ = some (.int .i64 ad) ∧ (ldTag (.pointer (some ⟨w.heap.size, 0, none⟩))).run Tryz.prog w9 = .ok (.agg #[.string nm, .int .i64 un, .int .i64 ki, .int .i64 ad, .int .i64 ev, .bool false, .bool false, .bool false, .int .i64 1, .int .i64 1, .int .i64 0, .int .i64 de, .int .i64 qu, .bool ul, .bool uh, .bool la, .int .i64 lo, .int .i64 hi, .int .i64 hy]) w9)
    ((refine HK.out _ ?_
      repeat' (first
        | with_reducible exact Below.refl _ _
        | with_reducible exact bel5
        | with_reducible exact belh _ (by assumption)
        | with_reducible apply below_drew
        | with_reducible apply below_drewN
        | fail)))
    (first
      | (go_at_call 61; refine (HW.out _).mono ?_; rintro e w5 ⟨rfl, b5⟩; have bel5 : Below w0.heap.size w0 w5 := Below.trans (belh _ (by assumption)) (b5.mono (Below.size (belh _ (by assumption)))))
      | fail)
  have h5 := keepB bel5 h0
  have bel6 := bel0.trans (bel5.mono bel0.size)
  clear HK belh bel5 h0 bel0 HW
  obtain ⟨c0, c1, c2, c3, c4, c5, c6, c7, c8, c9, c10, c11, c12, c13, c14, c15, c16, c17, c18⟩ := of19 nm un ki ad ev false false false 1 1 0 de qu ul uh la lo hi hy h5
  go_wp2_with fail
  refine (refCheck6_any false false false 1 1 0 _).mono ?_
  rintro e w6 ⟨rfl, b6⟩
  rw [S]
  have h6 := keepB b6 h5
  have bel7 := bel6.trans (b6.mono bel6.size)
  clear c0 c1 c2 c3 c4 c5 c6 c7 c8 c9 c10 c11 c12 c13 c14 c15 c16 c17 c18 b6 h5 bel6
  obtain ⟨c0, c1, c2, c3, c4, c5, c6, c7, c8, c9, c10, c11, c12, c13, c14, c15, c16, c17, c18⟩ := of19 nm un ki ad ev false false false 1 1 0 de qu ul uh la lo hi hy h6
  go_wp2_with fail
  refine (refCheck7_any de qu _).mono ?_
  rintro e w7 ⟨rfl, b7⟩
  rw [B]
  have h7 := keepB b7 h6
  have bel8 := bel7.trans (b7.mono bel7.size)
  clear c0 c1 c2 c3 c4 c5 c6 c7 c8 c9 c10 c11 c12 c13 c14 c15 c16 c17 c18 b7 h6 bel7
  obtain ⟨c0, c1, c2, c3, c4, c5, c6, c7, c8, c9, c10, c11, c12, c13, c14, c15, c16, c17, c18⟩ := of19 nm un ki ad ev false false false 1 1 0 de qu ul uh la lo hi hy h7
  go_wp2_with fail
  refine (refCheck8_any ul uh la lo hi hy _).mono ?_
  rintro e w8 ⟨rfl, b8⟩
  go_wp2
  go_ret
  exact ⟨rfl, bel8.trans (b8.mono bel8.size)⟩
end Go.Proofs.YtcmbdhmhkfhjfaaGreat
namespace Go.Proofs.YtcmbdhmhkfhjfaaGreat
open Go.RowKit
set_option linter.unusedVariables false
attribute [local go_sem ↓] ldTag_fold

theorem refCheck9_any (nm : ByteArray) (un ki ad ev : Int) (we sg sw : Bool) (mu di aa de qu : Int) (ul uh la : Bool) (lo hi hy : Int) (w : World) (hs : nm.size ≤ maxLen) : Calls Tryz.prog 56 #[.agg #[.string nm, .int .i64 un, .int .i64 ki, .int .i64 ad, .int .i64 ev, .bool we, .bool sg, .bool sw, .int .i64 mu, .int .i64 di, .int .i64 aa, .int .i64 de, .int .i64 qu, .bool ul, .bool uh, .bool la, .int .i64 lo, .int .i64 hi, .int .i64 hy]] w fun e w' => e = .returned (.int .i64 (chkT ⟨nm, un, ki, ad, ev, we, sg, sw, mu, di, aa, de, qu, ul, uh, la, lo, hi, hy⟩)) ∧ Below w.heap.size w w' := by
  refine tag_cases ⟨nm, un, ki, ad, ev, we, sg, sw, mu, di, aa, de, qu, ul, uh, la, lo, hi, hy⟩ _ ?_ ?_ ?_ ?_ ?_ ?_ ?_ ?_ ?_ ?_ ?_ ?_ ?_
  · intro hn0 HC; rw [HC]; exact rc9_1 nm un ki ad ev we sg sw mu di aa de qu ul uh la lo hi hy w hs hn0
  · intro hn u1y HC; rw [HC]; exact rc9_2 nm un ki ad ev we sg sw mu di aa de qu ul uh la lo hi hy w hs hn u1y
  · intro hn u1 u2y HC; rw [HC]; exact rc9_3 nm un ki ad ev we sg sw mu di aa de qu ul uh la lo hi hy w hs hn u1 u2y
  · intro hn u1 u2 k1y HC; rw [HC]; exact rc9_4 nm un ki ad ev we sg sw mu di aa de qu ul uh la lo hi hy w hs hn u1 u2 k1y
  · intro hn u1 u2 k1 k2y HC; rw [HC]; exact rc9_5 nm un ki ad ev we sg sw mu di aa de qu ul uh la lo hi hy w hs hn u1 u2 k1 k2y
  · intro hn u1 u2 k1 k2 d1y HC; rw [HC]; exact rc9_6 nm un ki ad ev we sg sw mu di aa de qu ul uh la lo hi hy w hs hn u1 u2 k1 k2 d1y
  · intro hn u1 u2 k1 k2 d1 d2y HC; rw [HC]; exact rc9_7 nm un ki ad ev we sg sw mu di aa de qu ul uh la lo hi hy w hs hn u1 u2 k1 k2 d1 d2y
  · intro hn u1 u2 k1 k2 d1 d2 v1y HC; rw [HC]; exact rc9_8 nm un ki ad ev we sg sw mu di aa de qu ul uh la lo hi hy w hs hn u1 u2 k1 k2 d1 d2 v1y
  · intro hn u1 u2 k1 k2 d1 d2 v1 v2y HC; rw [HC]; exact rc9_9 nm un ki ad ev we sg sw mu di aa de qu ul uh la lo hi hy w hs hn u1 u2 k1 k2 d1 d2 v1 v2y
  · intro hn u1 u2 k1 k2 d1 d2 v1 v2 S0 HC; rw [HC]; exact rc9_10 nm un ki ad ev we sg sw mu di aa de qu ul uh la lo hi hy w hs hn u1 u2 k1 k2 d1 d2 v1 v2 S0
  · intro hn u1 u2 k1 k2 d1 d2 v1 v2 S kb hb HC
    rw [HC]
    rcases bitS_no hb with h | h | h | h | h | h
    · exact rc9_11we nm un ki ad ev we sg sw mu di aa de qu ul uh la lo hi hy w hs hn u1 u2 k1 k2 d1 d2 v1 v2 S kb h
    · exact rc9_11sg nm un ki ad ev we sg sw mu di aa de qu ul uh la lo hi hy w hs hn u1 u2 k1 k2 d1 d2 v1 v2 S kb h
    · exact rc9_11sw nm un ki ad ev we sg sw mu di aa de qu ul uh la lo hi hy w hs hn u1 u2 k1 k2 d1 d2 v1 v2 S kb h
    · exact rc9_11mu nm un ki ad ev we sg sw mu di aa de qu ul uh la lo hi hy w hs hn u1 u2 k1 k2 d1 d2 v1 v2 S kb h
    · exact rc9_11di nm un ki ad ev we sg sw mu di aa de qu ul uh la lo hi hy w hs hn u1 u2 k1 k2 d1 d2 v1 v2 S kb h
    · exact rc9_11aa nm un ki ad ev we sg sw mu di aa de qu ul uh la lo hi hy w hs hn u1 u2 k1 k2 d1 d2 v1 v2 S kb h
  · intro hn u1 u2 k1 k2 d1 d2 v1 v2 S hb B0 HC
    rw [HC]
    by_cases kb : ki ≤ 2
    · rcases hb with hb | hb
      · exact absurd kb hb
      · obtain ⟨rfl, rfl, rfl, rfl, rfl, rfl⟩ := bitS_yes hb
        exact rc9_12b nm un ki ad ev de qu ul uh la lo hi hy w hs hn u1 u2 k1 k2 d1 d2 v1 v2 S kb B0
    · exact rc9_12n nm un ki ad ev we sg sw mu di aa de qu ul uh la lo hi hy w hs hn u1 u2 k1 k2 d1 d2 v1 v2 S kb B0
  · intro hn u1 u2 k1 k2 d1 d2 v1 v2 S hb B HC
    rw [HC]
    by_cases kb : ki ≤ 2
    · rcases hb with hb | hb
      · exact absurd kb hb
      · obtain ⟨rfl, rfl, rfl, rfl, rfl, rfl⟩ := bitS_yes hb
        exact rc9_13b nm un ki ad ev de qu ul uh la lo hi hy w hs hn u1 u2 k1 k2 d1 d2 v1 v2 S kb B
    · exact rc9_13n nm un ki ad ev we sg sw mu di aa de qu ul uh la lo hi hy w hs hn u1 u2 k1 k2 d1 d2 v1 v2 S kb B
end Go.Proofs.YtcmbdhmhkfhjfaaGreat
namespace Go.Proofs.YtcmbdhmhkfhjfaaGreat
open Go.RowKit
set_option linter.unusedVariables false
set_option maxRecDepth 100000
attribute [local go_sem ↓] ldTag_fold

def findT (l : List Tg) (s : ByteArray) : Int := if l.findIdx (fun t => t.nm.toList == s.toList) < l.length then (l.findIdx (fun t => t.nm.toList == s.toList) : Nat) else -1
theorem VRow.name {w : World} {B : Nat} {A : Option Addr} {l : List Tg} (h : VRow w B A (flatV tgC l)) {i : Nat} (hi : i < l.length) :
    ∃ b o, A = some ⟨b, o, none⟩ ∧ b < B ∧ w.cell? ⟨b, o + i * 19, none⟩ = some (.string l[i].nm) := by
  obtain ⟨b, o, e, hb, hc⟩ := h.elem tgC_len (by omega) hi
  exact ⟨b, o, e, hb, hc 0 _ rfl⟩
end Go.Proofs.YtcmbdhmhkfhjfaaGreat
namespace Go.Proofs.YtcmbdhmhkfhjfaaGreat
open Go.RowKit
set_option linter.unusedVariables false
set_option maxRecDepth 100000
attribute [local go_sem ↓] ldTag_fold

theorem refCheck9_t (t : Tg) (w : World) (hs : t.nm.size ≤ maxLen) : Calls Tryz.prog 56 #[tgV t] w fun e w' => e = .returned (.int .i64 (chkT t)) ∧ Below w.heap.size w w' := by
  obtain ⟨nm, un, ki, ad, ev, we, sg, sw, mu, di, aa, de, qu, ul, uh, la, lo, hi, hy⟩ := t
  exact refCheck9_any nm un ki ad ev we sg sw mu di aa de qu ul uh la lo hi hy w hs
theorem VRow.load {w : World} {B : Nat} {A : Option Addr} {l : List Tg} (h : VRow w B A (flatV tgC l)) {i : Nat} (hi : i < l.length) :
    ∃ b o, A = some ⟨b, o, none⟩ ∧ b < B ∧ (ldTag (.pointer (some ⟨b, o + i * 19, none⟩))).run Tryz.prog w = .ok (tgV l[i]) w ∧ w.cell? ⟨b, o + i * 19, none⟩ = some (.string l[i].nm) := by
  obtain ⟨b, o, e, hb, hc⟩ := h.elem tgC_len (by omega) hi
  exact ⟨b, o, e, hb, ldTag_run rfl hc, hc 0 _ rfl⟩
set_option maxHeartbeats 1000000 in
theorem refCheckAll_any (A : Option Addr) (n c : Nat) (l : List Tg) (w : World) (hr : VRow w w.heap.size A (flatV tgC l)) (hn : l.length = n) (hb : n ≤ 4611686018427387904) (hok : ∀ t ∈ l, Tg.Ok t) :
    Calls Tryz.prog 28 #[.slice A n c] w fun e w' => e = .returned (.tuple #[.int .i64 (chkAll l).1, .int .i64 (chkAll l).2]) ∧ Below w.heap.size w w' := by
  by_cases hbig : 64 < n
  · have HA : Hid (chkAll l = (34, 0)) := Lib.hid (chkAll_many (by omega))
    have hbig' : (64 : Int) < n := by omega
    rw [HA.out]
    go_enter Tryz.func28, Tryz.ntmps28
    go_wp2
    (try simp only [Exit.inBlock, Exit.then])
    refine bodyPost_ret (v := .tuple #[.int .i64 34, .int .i64 0]) (by simp [results, Tryz.results28, go_sem, *]) rfl ?_
    exact ⟨rfl, Below.refl _ _⟩
  have H64 : Hid (¬ 64 < l.length) := Lib.hid (by omega)
  have hbig' : ¬ (64 : Int) < n := by omega
  have hn' := Lib.hid hn
  have HOK := Lib.hid hok
  clear hn hok
  go_enter Tryz.func28, Tryz.ntmps28
  go_wp2
  go_loopw [4] (fun i wr => ∃ k : Nat, k ≤ n ∧ i = .int .i64 k ∧ Hid (∀ j, j < k → badAt l j = 0) ∧ Hid (Below w.heap.size w wr)) (fun i _ => n - (intOf i).toNat)
  case atStart => exact ⟨0, by omega, rfl, Lib.hid (fun j hj => absurd hj (by omega)), Lib.hid (Below.refl _ _)⟩
  case round =>
    obtain ⟨k, hk, rfl, hall, hbel⟩ := hrel
    by_cases hlt : k < n
    · have hkl : k < l.length := by have := hn'.out; omega
      obtain ⟨b, o, rfl, hb1, hld, hc1⟩ := (hr.below hbel.out).load hkl
      have hlt' : (k : Int) < (n : Int) := by omega
      have hk0 : (0 : Int) ≤ k := by omega
      go_wp2_with fail
      refine (refCheck9_t l[k] _ (HOK.out _ (List.getElem_mem hkl)).1).mono ?_
      rintro e w1 ⟨rfl, b1⟩
      have hbel1 := Lib.hid (hbel.out.trans (b1.mono hbel.out.size))
      clear hld hc1 hbel
      by_cases hc : chkT l[k] = 0
      case neg =>
        have HA : Hid (chkAll l = (chkT l[k], (k : Int))) := Lib.hid (chkAll_at H64.out hkl (badAt_chk hkl hc) hc hall.out)
        generalize chkT l[k] = ec at *
        go_wp2
        (try simp only [Exit.inBlock, Exit.then])
        refine bodyPost_ret (v := .tuple #[.int .i64 ec, .int .i64 k]) (by simp [results, Tryz.results28, go_sem, *]) rfl ?_
        exact ⟨by rw [HA.out], hbel1.out⟩
      case pos =>
      rw [hc]
      have HC := Lib.hid hc
      clear hc
      cases k with
      | zero =>
        have hall2 : Hid (∀ j, j < 0 + 1 → badAt l j = 0) := Lib.hid (fun j hj => by
          obtain rfl : j = 0 := by omega
          rw [badAt_first hkl]; exact HC.out)
        go_wp2
        go_quiet (fail)
        have hbel2 := below_drewN hbel1.out nq
        clear hbel1
        generalize w1.drewN nq = w2 at *
        go_wp2
        go_quiet (fail)
        go_wp2
        go_roundw
        case rel => exact ⟨1, by omega, rfl, hall2, Lib.hid (below_drewN hbel2 _)⟩
        case measure => simp [intOf]; omega
      | succ k =>
        have hkl0 : k < l.length := by omega
        have rr := hr.below hbel1.out
        obtain ⟨b', o', e2, _, hp1⟩ := rr.name hkl
        injection e2 with e2
        injection e2 with e2 e3
        subst e2 e3
        obtain ⟨b', o', e2, _, hp2⟩ := rr.name hkl0
        injection e2 with e2
        injection e2 with e2 e3
        subst e2 e3
        have HN := Lib.hid (badAt_next hkl HC.out)
        obtain ⟨s1, hs1⟩ : ∃ s1, l[k + 1].nm = s1 := ⟨_, rfl⟩
        obtain ⟨s0, hs0⟩ : ∃ s0, l[k].nm = s0 := ⟨_, rfl⟩
        have HB : Hid (badAt l (k + 1) = bif s1.toList == s0.toList then 7 else bif Op.bytesLess s1.toList s0.toList then 29 else 0) := Lib.hid (by rw [HN.out, badN, hs1, hs0])
        rw [hs1] at hp1
        rw [hs0] at hp2
        clear hs1 hs0 HN rr
        have n1 : (k : Int) + 1 < (n : Int) := by omega
        have n2 : (0 : Int) ≤ (k : Int) + 1 := by omega
        have n3 : (k : Int) < (n : Int) := by omega
        have n4 : ((k : Int) + 1).toNat = k + 1 := by omega
        have n5 : IntKind.i64.wrap (k : Int) = k := by rw [IntKind.wrap_i64]; omega
        have n6 : (k : Int) + 1 > 0 := by omega
        have n7 : (0 : Int) ≤ (k : Int) := by omega
        cases heq : s1.toList == s0.toList with
        | true =>
          have HA : Hid (chkAll l = (7, ((k + 1 : Nat) : Int))) := Lib.hid (chkAll_at H64.out hkl (by rw [HB.out, heq]; rfl) (by omega) hall.out)
          go_wp2
          go_quiet (fail)
          go_wp2
          (try simp only [Exit.inBlock, Exit.then])
          refine bodyPost_ret (v := .tuple #[.int .i64 7, .int .i64 ((k : Int) + 1)]) (by simp [results, Tryz.results28, go_sem, *]) rfl ?_
          exact ⟨by rw [HA.out]; simp, below_drewN hbel1.out _⟩
        | false =>
          cases hls : Op.bytesLess s1.toList s0.toList with
          | true =>
            have HA : Hid (chkAll l = (29, ((k + 1 : Nat) : Int))) := Lib.hid (chkAll_at H64.out hkl (by rw [HB.out, heq, hls]; rfl) (by omega) hall.out)
            go_wp2
            go_quiet (fail)
            have hbel2 := below_drewN hbel1.out nq
            have q1 : (w1.drewN nq).cell? ⟨b, o + (k + 1) * 19, none⟩ = _ := hp1
            have q2 : (w1.drewN nq).cell? ⟨b, o + k * 19, none⟩ = _ := hp2
            clear hbel1 hp1 hp2
            generalize w1.drewN nq = w2 at *
            go_wp2
            go_quiet (fail)
            go_wp2
            (try simp only [Exit.inBlock, Exit.then])
            refine bodyPost_ret (v := .tuple #[.int .i64 29, .int .i64 ((k : Int) + 1)]) (by simp [results, Tryz.results28, go_sem, *]) rfl ?_
            exact ⟨by rw [HA.out]; simp, below_drewN hbel2 _⟩
          | false =>
            have hall2 : Hid (∀ j, j < k + 1 + 1 → badAt l j = 0) := Lib.hid (fun j hj => by
              rcases Nat.lt_or_ge j (k + 1) with h | h
              · exact hall.out j h
              · obtain rfl : j = k + 1 := by omega
                rw [HB.out, heq, hls]; rfl)
            go_wp2
            go_quiet (fail)
            have hbel2 := below_drewN hbel1.out nq
            have q1 : (w1.drewN nq).cell? ⟨b, o + (k + 1) * 19, none⟩ = _ := hp1
            have q2 : (w1.drewN nq).cell? ⟨b, o + k * 19, none⟩ = _ := hp2
            clear hbel1 hp1 hp2
            generalize w1.drewN nq = w2 at *
            go_wp2
            go_quiet (fail)
            go_wp2
            go_roundw
            case rel => exact ⟨k + 1 + 1, by omega, by go_num, hall2, Lib.hid (below_drewN hbel2 _)⟩
            case measure => simp [intOf]; omega
    · have HA : Hid (chkAll l = (0, 0)) := Lib.hid (chkAll_none H64.out (fun j hj => hall.out j (by have := hn'.out; omega)))
      go_wp2
      (try simp only [Exit.inBlock, Exit.then])
      refine bodyPost_ret (v := .tuple #[.int .i64 0, .int .i64 0]) (by simp [results, Tryz.results28, go_sem, *]) rfl ?_
      exact ⟨by rw [HA.out], hbel.out⟩
end Go.Proofs.YtcmbdhmhkfhjfaaGreat
