/-
  The walk of TagsChecks.
-/
import Derived.Test.YtmakegbkgiajdaaTgProg
import Derived.Deep.CutRange
import Derived.Deep.RegionHeld3
namespace Go.Proofs.Ytmakegbkgiajdaa
open Go.RowKit
set_option linter.unusedVariables false
attribute [local go_sem ↓] ldTag_fold

theorem refName_bel (s : ByteArray) (w : World) (hs : s.size ≤ maxLen) : Calls Try.prog 10 #[.string s] w fun e w' => e = .returned (.bool (nameB (bys s))) ∧ Below w.heap.size w w' :=
  (refName_any s w hs).mono fun e w' h => ⟨h.1, by rw [h.2]; exact Below.refl _ _⟩

set_option maxHeartbeats 4000000 in
theorem checks9_any (nm : ByteArray) (un ki ad ev : Int) (we sg sw : Bool) (mu di aa de qu : Int) (ul uh la : Bool) (lo hi hy : Int) (w : World) (hs : nm.size ≤ maxLen) :
    Calls Try.prog 3 #[.agg #[.string nm, .int .i64 un, .int .i64 ki, .int .i64 ad, .int .i64 ev, .bool we, .bool sg, .bool sw, .int .i64 mu, .int .i64 di, .int .i64 aa, .int .i64 de, .int .i64 qu, .bool ul, .bool uh, .bool la, .int .i64 lo, .int .i64 hi, .int .i64 hy]] w fun e w' => e = .returned (.bool true) ∧ Below w.heap.size w w' := by
  obtain ⟨b, hb⟩ : ∃ b, nameB (bys nm) = b := ⟨_, rfl⟩
  obtain ⟨z, hz⟩ : ∃ z, widT ⟨nm, un, ki, ad, ev, we, sg, sw, mu, di, aa, de, qu, ul, uh, la, lo, hi, hy⟩ = z := ⟨_, rfl⟩
  obtain ⟨ck, hc⟩ : ∃ z, chkT ⟨nm, un, ki, ad, ev, we, sg, sw, mu, di, aa, de, qu, ul, uh, la, lo, hi, hy⟩ = z := ⟨_, rfl⟩
  have HN1 : Hid (∀ W, Calls Try.prog 9 #[.string nm] W fun e w' => e = .returned (.bool b) ∧ Below W.heap.size W w') := Lib.hid fun W => by
    have h := Name9_any nm W hs
    rw [hb] at h
    exact h
  have HN2 : Hid (∀ W, Calls Try.prog 10 #[.string nm] W fun e w' => e = .returned (.bool b) ∧ Below W.heap.size W w') := Lib.hid fun W => by
    have h := refName_bel nm W hs
    rw [hb] at h
    exact h
  have HW1 : Hid (∀ W, Calls Try.prog 11 #[.agg #[.string nm, .int .i64 un, .int .i64 ki, .int .i64 ad, .int .i64 ev, .bool we, .bool sg, .bool sw, .int .i64 mu, .int .i64 di, .int .i64 aa, .int .i64 de, .int .i64 qu, .bool ul, .bool uh, .bool la, .int .i64 lo, .int .i64 hi, .int .i64 hy]] W fun e w' => e = .returned (.int .i64 z) ∧ Below W.heap.size W w') := Lib.hid fun W => by
    have h := Width9_any nm un ki ad ev we sg sw mu di aa de qu ul uh la lo hi hy W
    rw [hz] at h
    exact h
  have HW2 : Hid (∀ W, Calls Try.prog 12 #[.agg #[.string nm, .int .i64 un, .int .i64 ki, .int .i64 ad, .int .i64 ev, .bool we, .bool sg, .bool sw, .int .i64 mu, .int .i64 di, .int .i64 aa, .int .i64 de, .int .i64 qu, .bool ul, .bool uh, .bool la, .int .i64 lo, .int .i64 hi, .int .i64 hy]] W fun e w' => e = .returned (.int .i64 z) ∧ Below W.heap.size W w') := Lib.hid fun W => by
    have h := refWidth_any nm un ki ad ev we sg sw mu di aa de qu ul uh la lo hi hy W
    rw [hz] at h
    exact h
  have HC1 : Hid (∀ W, Calls Try.prog 13 #[.agg #[.string nm, .int .i64 un, .int .i64 ki, .int .i64 ad, .int .i64 ev, .bool we, .bool sg, .bool sw, .int .i64 mu, .int .i64 di, .int .i64 aa, .int .i64 de, .int .i64 qu, .bool ul, .bool uh, .bool la, .int .i64 lo, .int .i64 hi, .int .i64 hy]] W fun e w' => e = .returned (.int .i64 ck) ∧ Below W.heap.size W w') := Lib.hid fun W => by
    have h := Check9_any nm un ki ad ev we sg sw mu di aa de qu ul uh la lo hi hy W hs
    rw [hc] at h
    exact h
  have HC2 : Hid (∀ W, Calls Try.prog 14 #[.agg #[.string nm, .int .i64 un, .int .i64 ki, .int .i64 ad, .int .i64 ev, .bool we, .bool sg, .bool sw, .int .i64 mu, .int .i64 di, .int .i64 aa, .int .i64 de, .int .i64 qu, .bool ul, .bool uh, .bool la, .int .i64 lo, .int .i64 hi, .int .i64 hy]] W fun e w' => e = .returned (.int .i64 ck) ∧ Below W.heap.size W w') := Lib.hid fun W => by
    have h := refCheck9_any nm un ki ad ev we sg sw mu di aa de qu ul uh la lo hi hy W hs
    rw [hc] at h
    exact h
  clear hb hz hc hs
  have bel0 := bel_alloc w (.cells #[.string nm, .int .i64 un, .int .i64 ki, .int .i64 ad, .int .i64 ev, .bool we, .bool sg, .bool sw, .int .i64 mu, .int .i64 di, .int .i64 aa, .int .i64 de, .int .i64 qu, .bool ul, .bool uh, .bool la, .int .i64 lo, .int .i64 hi, .int .i64 hy] 29)
  have hx := heap_alloc_new w (.cells #[.string nm, .int .i64 un, .int .i64 ki, .int .i64 ad, .int .i64 ev, .bool we, .bool sg, .bool sw, .int .i64 mu, .int .i64 di, .int .i64 aa, .int .i64 de, .int .i64 qu, .bool ul, .bool uh, .bool la, .int .i64 lo, .int .i64 hi, .int .i64 hy] 29)
  have hgs := bel0.size
  go_enter Try.func3, Try.ntmps3
  go_upto_region 1 with fail
  generalize w.alloc (.cells #[.string nm, .int .i64 un, .int .i64 ki, .int .i64 ad, .int .i64 ev, .bool we, .bool sg, .bool sw, .int .i64 mu, .int .i64 di, .int .i64 aa, .int .i64 de, .int .i64 qu, .bool ul, .bool uh, .bool la, .int .i64 lo, .int .i64 hi, .int .i64 hy] 29) = wk at *
  have HK : Hid (∀ w' : World, Below wk.heap.size wk w' → (Below wk.heap.size wk w' ∧ w'.cell? ⟨w.heap.size, 0, none⟩ = some (.string nm) ∧ (ldTag (.pointer (some ⟨w.heap.size, 0, none⟩))).run Try.prog w' = .ok (.agg #[.string nm, .int .i64 un, .int .i64 ki, .int .i64 ad, .int .i64 ev, .bool we, .bool sg, .bool sw, .int .i64 mu, .int .i64 di, .int .i64 aa, .int .i64 de, .int .i64 qu, .bool ul, .bool uh, .bool la, .int .i64 lo, .int .i64 hi, .int .i64 hy]) w')) := Lib.hid fun w' hw => ⟨hw, cell_of_row _ _ 0 _ _ _ ((hw.block _ (block_lt hx)).trans hx), ldTag_run (cs := [.string nm, .int .i64 un, .int .i64 ki, .int .i64 ad, .int .i64 ev, .bool we, .bool sg, .bool sw, .int .i64 mu, .int .i64 di, .int .i64 aa, .int .i64 de, .int .i64 qu, .bool ul, .bool uh, .bool la, .int .i64 lo, .int .i64 hi, .int .i64 hy]) rfl (rangeB ((hw.block _ (block_lt hx)).trans hx))⟩
  have belh : ∀ w' : World, (Below wk.heap.size wk w' ∧ w'.cell? ⟨w.heap.size, 0, none⟩ = some (.string nm) ∧ (ldTag (.pointer (some ⟨w.heap.size, 0, none⟩))).run Try.prog w' = .ok (.agg #[.string nm, .int .i64 un, .int .i64 ki, .int .i64 ad, .int .i64 ev, .bool we, .bool sg, .bool sw, .int .i64 mu, .int .i64 di, .int .i64 aa, .int .i64 de, .int .i64 qu, .bool ul, .bool uh, .bool la, .int .i64 lo, .int .i64 hi, .int .i64 hy]) w') → Below wk.heap.size wk w' := fun w' h => h.1
  clear hx
  go_region_held3 (fun w' => Below wk.heap.size wk w' ∧ w'.cell? ⟨w.heap.size, 0, none⟩ = some (.string nm) ∧ (ldTag (.pointer (some ⟨w.heap.size, 0, none⟩))).run Try.prog w' = .ok (.agg #[.string nm, .int .i64 un, .int .i64 ki, .int .i64 ad, .int .i64 ev, .bool we, .bool sg, .bool sw, .int .i64 mu, .int .i64 di, .int .i64 aa, .int .i64 de, .int .i64 qu, .bool ul, .bool uh, .bool la, .int .i64 lo, .int .i64 hi, .int .i64 hy]) w')
    ((refine HK.out _ ?_
      repeat' (first
        | with_reducible exact Below.refl _ _
        | with_reducible exact bel6
        | with_reducible exact belh _ (by assumption)
        | with_reducible apply below_drew
        | with_reducible apply below_drewN
        | fail)))
    (first
      | (go_at_call 9; refine (HN1.out _).mono ?_; rintro e w5 ⟨rfl, b5⟩; have bel6 : Below wk.heap.size wk w5 := Below.trans (belh _ (by assumption)) (b5.mono (Below.size (belh _ (by assumption)))))
      | (go_at_call 10; refine (HN2.out _).mono ?_; rintro e w5 ⟨rfl, b5⟩; have bel6 : Below wk.heap.size wk w5 := Below.trans (belh _ (by assumption)) (b5.mono (Below.size (belh _ (by assumption)))))
      | (go_at_call 11; refine (HW1.out _).mono ?_; rintro e w5 ⟨rfl, b5⟩; have bel6 : Below wk.heap.size wk w5 := Below.trans (belh _ (by assumption)) (b5.mono (Below.size (belh _ (by assumption)))))
      | (go_at_call 12; refine (HW2.out _).mono ?_; rintro e w5 ⟨rfl, b5⟩; have bel6 : Below wk.heap.size wk w5 := Below.trans (belh _ (by assumption)) (b5.mono (Below.size (belh _ (by assumption)))))
      | (go_at_call 13; refine (HC1.out _).mono ?_; rintro e w5 ⟨rfl, b5⟩; have bel6 : Below wk.heap.size wk w5 := Below.trans (belh _ (by assumption)) (b5.mono (Below.size (belh _ (by assumption)))))
      | (go_at_call 14; refine (HC2.out _).mono ?_; rintro e w5 ⟨rfl, b5⟩; have bel6 : Below wk.heap.size wk w5 := Below.trans (belh _ (by assumption)) (b5.mono (Below.size (belh _ (by assumption)))))
      | fail)
  all_goals
    go_wp2
    go_ret
    refine ⟨rfl, bel0.trans (Below.mono ?_ hgs)⟩
    repeat' (first | exact bel6 | apply below_drew | apply below_drewN)
theorem walk_TagsChecks (t : Tg) (w : World) (hok : Tg.Ok t) : Calls Try.prog 3 #[tgV t] w fun e w' => e = .returned (.bool true) ∧ Below w.heap.size w w' := by
  obtain ⟨nm, un, ki, ad, ev, we, sg, sw, mu, di, aa, de, qu, ul, uh, la, lo, hi, hy⟩ := t
  exact checks9_any nm un ki ad ev we sg sw mu di aa de qu ul uh la lo hi hy w hok.1
end Go.Proofs.Ytmakegbkgiajdaa
