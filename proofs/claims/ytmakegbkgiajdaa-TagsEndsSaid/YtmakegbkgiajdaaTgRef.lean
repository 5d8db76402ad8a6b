/-
  The document's contracts of Width and Check of layer 9.
-/
import Derived.Test.YtmakegbkgiajdaaTgMath
import Derived.Test.YtmakegbkgiajdaaScRef
import Derived.Test.YtmakegbkgiajdaaBdRef
import Derived.Test.YtmakegbkgiajdaaAlRef
import Derived.Deep.RegionHeld3
import Derived.Deep.MidRow
namespace Go.Proofs.Ytmakegbkgiajdaa
open Go.RowKit
set_option linter.unusedVariables false

/-- A tag is loaded in one step: its nineteen loads stay folded. -/
def ldTag (v : Value) : Sem Value := Instr.loadAt 29 v
theorem ldTag_fold (v : Value) : Instr.loadAt 29 v = ldTag v := rfl
theorem size_tag : (Try.prog.info? 29).map (·.size) = some 19 := by kernel_rfl
theorem ldTag_run {w : World} {b o : Nat} {cs : List Value} (hl : cs.length = 19) (h : w.rangeAt b o cs) : (ldTag (.pointer (some ⟨b, o, none⟩))).run Try.prog w = .ok (.agg cs.toArray) w :=
  run_loadAt_mid w b o _ cs _ h Try.underlying29 rfl (by rw [hl]; exact size_tag)

/-- The cells of a tag's box. -/
theorem of19 {w : World} {g : Nat} (nm : ByteArray) (un ki ad ev : Int) (we sg sw : Bool) (mu di aa de qu : Int) (ul uh la : Bool) (lo hi hy : Int) {t : TypeId} (h : w.heap[g]? = some (.cells #[.string nm, .int .i64 un, .int .i64 ki, .int .i64 ad, .int .i64 ev, .bool we, .bool sg, .bool sw, .int .i64 mu, .int .i64 di, .int .i64 aa, .int .i64 de, .int .i64 qu, .bool ul, .bool uh, .bool la, .int .i64 lo, .int .i64 hi, .int .i64 hy] t (0, 0))) : w.cell? ⟨g, 0, none⟩ = some (.string nm) ∧ w.cell? ⟨g, 1, none⟩ = some (.int .i64 un) ∧ w.cell? ⟨g, 2, none⟩ = some (.int .i64 ki) ∧ w.cell? ⟨g, 3, none⟩ = some (.int .i64 ad) ∧ w.cell? ⟨g, 4, none⟩ = some (.int .i64 ev) ∧ w.cell? ⟨g, 5, none⟩ = some (.bool we) ∧ w.cell? ⟨g, 6, none⟩ = some (.bool sg) ∧ w.cell? ⟨g, 7, none⟩ = some (.bool sw) ∧ w.cell? ⟨g, 8, none⟩ = some (.int .i64 mu) ∧ w.cell? ⟨g, 9, none⟩ = some (.int .i64 di) ∧ w.cell? ⟨g, 10, none⟩ = some (.int .i64 aa) ∧ w.cell? ⟨g, 11, none⟩ = some (.int .i64 de) ∧ w.cell? ⟨g, 12, none⟩ = some (.int .i64 qu) ∧ w.cell? ⟨g, 13, none⟩ = some (.bool ul) ∧ w.cell? ⟨g, 14, none⟩ = some (.bool uh) ∧ w.cell? ⟨g, 15, none⟩ = some (.bool la) ∧ w.cell? ⟨g, 16, none⟩ = some (.int .i64 lo) ∧ w.cell? ⟨g, 17, none⟩ = some (.int .i64 hi) ∧ w.cell? ⟨g, 18, none⟩ = some (.int .i64 hy) :=
  ⟨cell_of_row _ _ 0 _ _ _ h, cell_of_row _ _ 1 _ _ _ h, cell_of_row _ _ 2 _ _ _ h, cell_of_row _ _ 3 _ _ _ h, cell_of_row _ _ 4 _ _ _ h, cell_of_row _ _ 5 _ _ _ h, cell_of_row _ _ 6 _ _ _ h, cell_of_row _ _ 7 _ _ _ h, cell_of_row _ _ 8 _ _ _ h, cell_of_row _ _ 9 _ _ _ h, cell_of_row _ _ 10 _ _ _ h, cell_of_row _ _ 11 _ _ _ h, cell_of_row _ _ 12 _ _ _ h, cell_of_row _ _ 13 _ _ _ h, cell_of_row _ _ 14 _ _ _ h, cell_of_row _ _ 15 _ _ _ h, cell_of_row _ _ 16 _ _ _ h, cell_of_row _ _ 17 _ _ _ h, cell_of_row _ _ 18 _ _ _ h⟩

theorem refWidth_any (nm : ByteArray) (un ki ad ev : Int) (we sg sw : Bool) (mu di aa de qu : Int) (ul uh la : Bool) (lo hi hy : Int) (w : World) : Calls Try.prog 12 #[.agg #[.string nm, .int .i64 un, .int .i64 ki, .int .i64 ad, .int .i64 ev, .bool we, .bool sg, .bool sw, .int .i64 mu, .int .i64 di, .int .i64 aa, .int .i64 de, .int .i64 qu, .bool ul, .bool uh, .bool la, .int .i64 lo, .int .i64 hi, .int .i64 hy]] w fun e w' => e = .returned (.int .i64 (widT ⟨nm, un, ki, ad, ev, we, sg, sw, mu, di, aa, de, qu, ul, uh, la, lo, hi, hy⟩)) ∧ Below w.heap.size w w' := by
  have bel := bel_alloc w (.cells #[.string nm, .int .i64 un, .int .i64 ki, .int .i64 ad, .int .i64 ev, .bool we, .bool sg, .bool sw, .int .i64 mu, .int .i64 di, .int .i64 aa, .int .i64 de, .int .i64 qu, .bool ul, .bool uh, .bool la, .int .i64 lo, .int .i64 hi, .int .i64 hy] 29)
  by_cases h3 : ki = 3
  · subst h3
    cases we
    · have HW : Hid (widT ⟨nm, un, 3, ad, ev, false, sg, sw, mu, di, aa, de, qu, ul, uh, la, lo, hi, hy⟩ = 1) := Lib.hid rfl
      rw [HW.out]
      go_enter Try.func12, Try.ntmps12
      go_wp2
      go_ret
      exact ⟨rfl, bel⟩
    · have HW : Hid (widT ⟨nm, un, 3, ad, ev, true, sg, sw, mu, di, aa, de, qu, ul, uh, la, lo, hi, hy⟩ = 2) := Lib.hid rfl
      rw [HW.out]
      go_enter Try.func12, Try.ntmps12
      go_wp2
      go_ret
      exact ⟨rfl, bel⟩
  by_cases h4 : ki = 4
  · subst h4
    cases we
    · have HW : Hid (widT ⟨nm, un, 4, ad, ev, false, sg, sw, mu, di, aa, de, qu, ul, uh, la, lo, hi, hy⟩ = 1) := Lib.hid rfl
      rw [HW.out]
      go_enter Try.func12, Try.ntmps12
      go_wp2
      go_ret
      exact ⟨rfl, bel⟩
    · have HW : Hid (widT ⟨nm, un, 4, ad, ev, true, sg, sw, mu, di, aa, de, qu, ul, uh, la, lo, hi, hy⟩ = 2) := Lib.hid rfl
      rw [HW.out]
      go_enter Try.func12, Try.ntmps12
      go_wp2
      go_ret
      exact ⟨rfl, bel⟩
  · have HW : Hid (widT ⟨nm, un, ki, ad, ev, we, sg, sw, mu, di, aa, de, qu, ul, uh, la, lo, hi, hy⟩ = 1) := Lib.hid (by unfold widT; simp [h3, h4])
    rw [HW.out]
    have e3 : (ki == 3) = false := beq_false_of_ne h3
    have e4 : (ki == 4) = false := beq_false_of_ne h4
    go_enter Try.func12, Try.ntmps12
    go_wp2
    go_ret
    exact ⟨rfl, bel⟩
end Go.Proofs.Ytmakegbkgiajdaa
