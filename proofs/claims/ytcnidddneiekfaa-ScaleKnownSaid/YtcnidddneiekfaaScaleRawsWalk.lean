/-
  The walk of ScaleRaws.
-/
import Derived.Test.YtcnidddneiekfaaScWorks
import Derived.Test.YtcnidddneiekfaaHoldW
namespace Go.Proofs.Ytcnidddneiekfaa
open Go.RowKit
set_option linter.unusedVariables false

/-- A scale's box, and a block of words behind it. -/
def BxK (w0 : World) (g : Nat) (o : Obj) (k : Nat) (l : List Int) (w : World) : Prop := Bx w0 g o w ∧ W.Bk w k l
theorem BxK.below {w0 w w' : World} {g k : Nat} {o : Obj} {l : List Int} (h : BxK w0 g o k l w) (hb : Below w.heap.size w w') : BxK w0 g o k l w' := ⟨h.1.below hb, h.2.below hb⟩
theorem BxK.drew {w0 w : World} {g k : Nat} {o : Obj} {l : List Int} (h : BxK w0 g o k l w) : BxK w0 g o k l w.drew := ⟨h.1.drew, h.2⟩
theorem BxK.drewN {w0 w : World} {g k : Nat} {o : Obj} {l : List Int} (h : BxK w0 g o k l w) (n : Nat) : BxK w0 g o k l (w.drewN n) := ⟨h.1.drewN n, h.2⟩
theorem BxK.six {w0 w : World} {g k : Nat} {l : List Int} {t : TypeId} {v0 v1 v2 v3 v4 v5 : Value} (h : BxK w0 g (.cells #[v0, v1, v2, v3, v4, v5] t (0, 0)) k l w) :
    w.cell? ⟨g, 0, none⟩ = some v0 ∧ w.cell? ⟨g, 1, none⟩ = some v1 ∧ w.cell? ⟨g, 2, none⟩ = some v2 ∧ w.cell? ⟨g, 3, none⟩ = some v3 ∧ w.cell? ⟨g, 4, none⟩ = some v4 ∧ w.cell? ⟨g, 5, none⟩ = some v5 := Bx.six h.1
set_option maxHeartbeats 1000000 in
theorem walk_ScaleRaws (s : Sc) (A : Option Addr) (l c : Nat) (xs : List Int) (w : World) (hf : s.fits) (w0 : Row .u16 w w.heap.size A xs) (n0 : xs.length = l) (s0 : l ≤ c) (m0 : c ≤ 140737488351232) :
    Calls Try.prog 3 #[.agg #[.bool s.wide, .bool s.signed, .bool s.swap, .int .i64 s.mul, .int .i64 s.div, .int .i64 s.add], .slice A l c] w fun e w' => e = .returned (.bool true) ∧ Below w.heap.size w w' := by
  obtain ⟨wd, sg, sw, mu, di, ad⟩ := s
  simp only at *
  clear hf
  have HN := Lib.hid n0
  have W0 := Lib.hid w0
  have hwf := Lib.hid w0.1
  clear n0 w0
  have bx0 := Bx.new w (.cells #[.bool wd, .bool sg, .bool sw, .int .i64 mu, .int .i64 di, .int .i64 ad] 23)
  by_cases hlong : 65536 < l
  · go_enter Try.func3, Try.ntmps3
    go_wp2_with (go_at_call 11; refine (works_yes _).mono ?_; rintro e w' ⟨rfl, bel⟩)
    go_ret
    exact ⟨rfl, bx0.2.trans (bel.mono bx0.2.size)⟩
  have hsm : l ≤ 65536 := by omega
  obtain ⟨v, hv⟩ : ∃ v, Hid (rawN (⟨wd, sg, sw, mu, di, ad⟩ : Sc) xs = v) := ⟨_, Lib.hid rfl⟩
  obtain ⟨e0, he⟩ : ∃ e0, Hid (rawE (⟨wd, sg, sw, mu, di, ad⟩ : Sc) xs = e0) := ⟨_, Lib.hid rfl⟩
  obtain ⟨c0, hc⟩ : ∃ c0, Hid (chkS (⟨wd, sg, sw, mu, di, ad⟩ : Sc) = c0) := ⟨_, Lib.hid rfl⟩
  have belA := bx0.2
  have W1 := Lib.hid ((W0.out.below belA).more belA.size)
  generalize hwA : w.alloc (.cells #[.bool wd, .bool sg, .bool sw, .int .i64 mu, .int .i64 di, .int .i64 ad] 23) = wA at *
  have k1 : W.Bk (wA.alloc (.cells (blk .u16 (xs ++ W.marks5)) 41)) wA.heap.size (xs ++ W.marks5) := heap_alloc_new wA _
  have bx1 := bx0.alloc (.cells (blk .u16 (xs ++ W.marks5)) 41)
  generalize hwB : wA.alloc (.cells (blk .u16 (xs ++ W.marks5)) 41) = wB at *
  go_enter Try.func3, Try.ntmps3
  go_wp2_with fail
  refine (W.lent_u16 _ _ _ xs _ W1.out HN.out (by omega)).mono ?_
  rintro e w' ⟨rfl, rfl⟩
  obtain ⟨d0, d1, d2, d3, d4, d5⟩ := bx1.six
  have hs1 := k1.lt
  go_wp2_with fail
  refine (Raw_any wd sg sw mu di ad _ l _ xs _ (k1.row xs hwf.out (List.prefix_append _ _)) HN.out (by omega)).mono ?_
  rintro e w2 ⟨rfl, b2⟩
  rw [hv.out, he.out]
  have bx2 := bx1.below b2
  have k2 := k1.below b2
  clear d0 d1 d2 d3 d4 d5 bx1 k1 bx0
  obtain ⟨d0, d1, d2, d3, d4, d5⟩ := bx2.six
  go_wp2_with fail
  refine (refRaw_any wd sg sw mu di ad _ l _ xs _ ((W0.out.below bx2.2).more bx2.2.size) HN.out (by omega)).mono ?_
  rintro e w3 ⟨rfl, b3⟩
  rw [hv.out, he.out]
  have bx3 := bx2.below b3
  have k3 := k2.below b3
  clear d0 d1 d2 d3 d4 d5 bx2 k2
  have h3 : BxK w w.heap.size (.cells #[.bool wd, .bool sg, .bool sw, .int .i64 mu, .int .i64 di, .int .i64 ad] 23 (0, 0)) wA.heap.size (xs ++ W.marks5) w3 := ⟨bx3, k3⟩
  clear bx3 k3
  go_wp2_with fail
  go_region_held3 (fun w' => BxK w w.heap.size (.cells #[.bool wd, .bool sg, .bool sw, .int .i64 mu, .int .i64 di, .int .i64 ad] 23 (0, 0)) wA.heap.size (xs ++ W.marks5) w' ∧ w'.cell? ⟨w.heap.size, 0, none⟩ = some (.bool wd) ∧ w'.cell? ⟨w.heap.size, 1, none⟩ = some (.bool sg) ∧ w'.cell? ⟨w.heap.size, 2, none⟩ = some (.bool sw) ∧ w'.cell? ⟨w.heap.size, 3, none⟩ = some (.int .i64 mu) ∧ w'.cell? ⟨w.heap.size, 4, none⟩ = some (.int .i64 di) ∧ w'.cell? ⟨w.heap.size, 5, none⟩ = some (.int .i64 ad))
    (with_reducible first
      | exact ⟨h3.drew, h3.drew.six⟩
      | exact ⟨h4, h4.six⟩
      | exact ⟨h5, h5.six⟩
      | exact ⟨h6, h6.six⟩
      | exact ⟨h7, h7.six⟩)
    (first
      | (go_at_call 15; refine (Check_any wd sg sw mu di ad _).mono ?_; rintro e w4 ⟨rfl, b4⟩; rw [hc.out]; have h4 := h3.drew.below b4)
      | (go_at_call 16; refine (refCheck_any wd sg sw mu di ad _).mono ?_; rintro e w5 ⟨rfl, b5⟩; rw [hc.out]; have h5 := h4.below b5)
      | (go_at_call 17; refine (W.kept_u16 _ _ _ _ xs _ _ (W0.out.below h5.1.2) HN.out (by omega) h5.2).mono ?_; rintro e w6 ⟨rfl, m6, rfl⟩; have h6 := h5.drewN m6)
      | (go_at_call 11; refine (works_yes _).mono ?_; rintro e w7 ⟨rfl, b7⟩; have h7 := h6.below b7))
  have bel7 := h7.1.2
  go_wp2
  go_ret
  exact ⟨rfl, bel7⟩
end Go.Proofs.Ytcnidddneiekfaa
