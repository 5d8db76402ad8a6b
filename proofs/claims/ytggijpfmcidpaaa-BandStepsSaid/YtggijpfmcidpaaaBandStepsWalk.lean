/-
  The walk of BandSteps.
-/
import Derived.Test.YtggijpfmcidpaaaBdRef
import Derived.Test.YtggijpfmcidpaaaBdRefRun
import Derived.Deep.RegionHeld3
namespace Go.Proofs.Ytggijpfmcidpaaa
open Go.RowKit
set_option linter.unusedVariables false

theorem Three.below {w0 w w' : World} {a b c : Obj} (h : Three w0 a b c w) (hs : w0.heap.size + 3 ≤ w.heap.size) (hb : Below w.heap.size w w') : Three w0 a b c w' := by
  obtain ⟨h1, h2, h3, h6⟩ := h
  exact ⟨(hb.block _ (by omega)).trans h1, (hb.block _ (by omega)).trans h2, (hb.block _ (by omega)).trans h3, h6.trans (hb.mono (by omega))⟩
theorem stepV_eq (d q : Int) (h : Hd) (p : Pt) : stepV d q h p = .tuple #[.agg #[.bool (stepH d q h p).has, .int .i64 (stepH d q h p).v, .int .i64 (stepH d q h p).t], .bool (toldB d q h p)] := rfl
set_option maxHeartbeats 1000000 in
theorem walk_BandSteps (d q : Int) (hs : Bool) (hv ht x y : Int) (w : World) (wb : Pt.Ok (d, q)) (wh : Pt.Ok (hv, ht)) (wp : Pt.Ok (x, y)) :
    Calls Try.prog 3 #[.agg #[.int .i64 d, .int .i64 q], .agg #[.bool hs, .int .i64 hv, .int .i64 ht], .agg #[.int .i64 x, .int .i64 y]] w fun e w' => e = .returned (.bool true) ∧ Below w.heap.size w w' := by
  obtain ⟨hd, hq⟩ := wb
  obtain ⟨hhv, hht⟩ := wh
  obtain ⟨hx, hy⟩ := wp
  simp only at hd hq hhv hht hx hy
  have th := Three.new w (.cells #[.int .i64 d, .int .i64 q] 23) (.cells #[.bool hs, .int .i64 hv, .int .i64 ht] 25) (.cells #[.int .i64 x, .int .i64 y] 27)
  have hs0 : w.heap.size + 3 ≤ (((w.alloc (.cells #[.int .i64 d, .int .i64 q] 23)).alloc (.cells #[.bool hs, .int .i64 hv, .int .i64 ht] 25)).alloc (.cells #[.int .i64 x, .int .i64 y] 27)).heap.size := by simp
  have HV := Lib.hid (stepV_eq d q ⟨hs, hv, ht⟩ (x, y))
  obtain ⟨⟨sa, sb, sc⟩, hst⟩ : ∃ s, stepH d q ⟨hs, hv, ht⟩ (x, y) = s := ⟨_, rfl⟩
  obtain ⟨tl, htl⟩ : ∃ t, toldB d q ⟨hs, hv, ht⟩ (x, y) = t := ⟨_, rfl⟩
  obtain ⟨ck, hck⟩ : ∃ c, Hid (chkB d q = c) := ⟨_, Lib.hid rfl⟩
  rw [hst, htl] at HV
  simp only at HV
  clear hst htl
  go_enter Try.func3, Try.ntmps3
  go_wp2_with fail
  refine (Step_any d q hv ht x y hs hd hq hhv hht hx hy _).mono ?_
  rintro e w1 ⟨rfl, b1⟩
  rw [HV.out]
  have th1 := th.below hs0 b1
  have hs1 := b1.size
  have hs1' : w.heap.size + 3 ≤ w1.heap.size := by omega
  have bx7 := Bx.new w1 (.cells #[.bool sa, .int .i64 sb, .int .i64 sc] 25)
  have th2 := th1.below hs1' (bel_alloc w1 (.cells #[.bool sa, .int .i64 sb, .int .i64 sc] 25))
  obtain ⟨p1, p2⟩ := cells2 th2.1
  obtain ⟨q1, q2, q3⟩ := cells3 th2.2.1
  obtain ⟨r1, r2⟩ := cells2 th2.2.2.1
  clear th hs0 b1 hs1
  go_wp2_with fail
  refine (refStep_any d q hv ht x y hs hd hq hhv hht hx hy _).mono ?_
  rintro e w2 ⟨rfl, b2⟩
  rw [HV.out]
  have bx7b := bx7.below b2
  have th3 := th2.below (by simp; omega) b2
  have hs2 := bx7b.lt
  have bx9 := Bx.new w2 (.cells #[.bool sa, .int .i64 sb, .int .i64 sc] 25)
  have th4 := th3.below (by omega) (bel_alloc w2 (.cells #[.bool sa, .int .i64 sb, .int .i64 sc] 25))
  have bx7c := bx7b.alloc (.cells #[.bool sa, .int .i64 sb, .int .i64 sc] 25)
  clear p1 p2 q1 q2 q3 r1 r2 b2 bx7 bx7b th1 th2 th3
  go_wp2
  generalize hw3 : w2.alloc (.cells #[.bool sa, .int .i64 sb, .int .i64 sc] 25) = w3 at *
  have hs3 : w2.heap.size < w3.heap.size := by rw [← hw3]; simp
  clear hw3
  have HK : Hid (∀ w' : World, Below w3.heap.size w3 w' → Below w3.heap.size w3 w' ∧ (w'.cell? ⟨w.heap.size, 0, none⟩ = some (.int .i64 d) ∧ w'.cell? ⟨w.heap.size, 1, none⟩ = some (.int .i64 q)) ∧ (w'.cell? ⟨w1.heap.size, 0, none⟩ = some (.bool sa) ∧ w'.cell? ⟨w1.heap.size, 1, none⟩ = some (.int .i64 sb) ∧ w'.cell? ⟨w1.heap.size, 2, none⟩ = some (.int .i64 sc)) ∧ (w'.cell? ⟨w2.heap.size, 0, none⟩ = some (.bool sa) ∧ w'.cell? ⟨w2.heap.size, 1, none⟩ = some (.int .i64 sb) ∧ w'.cell? ⟨w2.heap.size, 2, none⟩ = some (.int .i64 sc))) := Lib.hid fun w' hw => ⟨hw, cells2 ((hw.block _ (by omega)).trans th4.1), cells3 ((hw.block _ (by omega)).trans bx7c.1), cells3 ((hw.block _ (by omega)).trans bx9.1)⟩
  have belh : ∀ w' : World, (Below w3.heap.size w3 w' ∧ (w'.cell? ⟨w.heap.size, 0, none⟩ = some (.int .i64 d) ∧ w'.cell? ⟨w.heap.size, 1, none⟩ = some (.int .i64 q)) ∧ (w'.cell? ⟨w1.heap.size, 0, none⟩ = some (.bool sa) ∧ w'.cell? ⟨w1.heap.size, 1, none⟩ = some (.int .i64 sb) ∧ w'.cell? ⟨w1.heap.size, 2, none⟩ = some (.int .i64 sc)) ∧ (w'.cell? ⟨w2.heap.size, 0, none⟩ = some (.bool sa) ∧ w'.cell? ⟨w2.heap.size, 1, none⟩ = some (.int .i64 sb) ∧ w'.cell? ⟨w2.heap.size, 2, none⟩ = some (.int .i64 sc))) → Below w3.heap.size w3 w' := fun w' h => h.1
  have bel3 := th4.2.2.2
  have hs4 : w.heap.size ≤ w3.heap.size := by omega
  have HC := Lib.hid (fun W => Check_any d q W)
  have HC2 := Lib.hid (fun W => refCheck_any d q W)
  rw [hck.out] at HC HC2
  clear th4 bx7c bx9
  go_region_held3 (fun w' => Below w3.heap.size w3 w' ∧ (w'.cell? ⟨w.heap.size, 0, none⟩ = some (.int .i64 d) ∧ w'.cell? ⟨w.heap.size, 1, none⟩ = some (.int .i64 q)) ∧ (w'.cell? ⟨w1.heap.size, 0, none⟩ = some (.bool sa) ∧ w'.cell? ⟨w1.heap.size, 1, none⟩ = some (.int .i64 sb) ∧ w'.cell? ⟨w1.heap.size, 2, none⟩ = some (.int .i64 sc)) ∧ (w'.cell? ⟨w2.heap.size, 0, none⟩ = some (.bool sa) ∧ w'.cell? ⟨w2.heap.size, 1, none⟩ = some (.int .i64 sb) ∧ w'.cell? ⟨w2.heap.size, 2, none⟩ = some (.int .i64 sc)))
    ((refine HK.out _ ?_
      repeat' (first
        | with_reducible exact Below.refl _ _
        | with_reducible exact bel5
        | with_reducible exact belh _ (by assumption)
        | with_reducible apply below_drew
        | with_reducible apply below_drewN
        | fail)))
    (first
      | (go_at_call 11; refine (HC.out _).mono ?_; rintro e w5 ⟨rfl, b5⟩; have bel5 : Below w3.heap.size w3 w5 := Below.trans (belh _ (by assumption)) (b5.mono (Below.size (belh _ (by assumption)))))
      | (go_at_call 12; refine (HC2.out _).mono ?_; rintro e w5 ⟨rfl, b5⟩; have bel5 : Below w3.heap.size w3 w5 := Below.trans (belh _ (by assumption)) (b5.mono (Below.size (belh _ (by assumption)))))
      | fail)
  all_goals
    go_wp2
    go_ret
    exact ⟨rfl, bel3.trans (bel5.mono hs4)⟩
end Go.Proofs.Ytggijpfmcidpaaa
