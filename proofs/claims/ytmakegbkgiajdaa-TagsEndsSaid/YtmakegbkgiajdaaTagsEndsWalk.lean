/-
  The walk of TagsEnds.
-/
import Derived.Test.YtmakegbkgiajdaaTgKnown
import Derived.Test.YtmakegbkgiajdaaTgEnds
namespace Go.Proofs.Ytmakegbkgiajdaa
open Go.RowKit
set_option linter.unusedVariables false
attribute [local go_sem ↓] ldTag_fold stTag_fold

theorem ends_wrong (nm : ByteArray) (un ki ad ev : Int) (we sg sw : Bool) (mu di aa de qu : Int) (ul uh la : Bool) (lo hi hy : Int) (w : World) (hs : nm.size ≤ maxLen) (hc : chkT ⟨nm, un, ki, ad, ev, we, sg, sw, mu, di, aa, de, qu, ul, uh, la, lo, hi, hy⟩ ≠ 0) :
    Calls Try.prog 7 #[.agg #[.string nm, .int .i64 un, .int .i64 ki, .int .i64 ad, .int .i64 ev, .bool we, .bool sg, .bool sw, .int .i64 mu, .int .i64 di, .int .i64 aa, .int .i64 de, .int .i64 qu, .bool ul, .bool uh, .bool la, .int .i64 lo, .int .i64 hi, .int .i64 hy]] w fun e w' => e = .returned (.bool true) ∧ Below w.heap.size w w' := by
  obtain ⟨ck, he⟩ : ∃ z, chkT ⟨nm, un, ki, ad, ev, we, sg, sw, mu, di, aa, de, qu, ul, uh, la, lo, hi, hy⟩ = z := ⟨_, rfl⟩
  rw [he] at hc
  have HE := Lib.hid he
  have hc2 : (ck == 0) = false := by simp [hc]
  have bel := bel_alloc w (.cells #[.string nm, .int .i64 un, .int .i64 ki, .int .i64 ad, .int .i64 ev, .bool we, .bool sg, .bool sw, .int .i64 mu, .int .i64 di, .int .i64 aa, .int .i64 de, .int .i64 qu, .bool ul, .bool uh, .bool la, .int .i64 lo, .int .i64 hi, .int .i64 hy] 29)
  have hld := ldTag_run (cs := [.string nm, .int .i64 un, .int .i64 ki, .int .i64 ad, .int .i64 ev, .bool we, .bool sg, .bool sw, .int .i64 mu, .int .i64 di, .int .i64 aa, .int .i64 de, .int .i64 qu, .bool ul, .bool uh, .bool la, .int .i64 lo, .int .i64 hi, .int .i64 hy]) rfl (rangeB (heap_alloc_new w (.cells #[.string nm, .int .i64 un, .int .i64 ki, .int .i64 ad, .int .i64 ev, .bool we, .bool sg, .bool sw, .int .i64 mu, .int .i64 di, .int .i64 aa, .int .i64 de, .int .i64 qu, .bool ul, .bool uh, .bool la, .int .i64 lo, .int .i64 hi, .int .i64 hy] 29)))
  clear he
  go_enter Try.func7, Try.ntmps7
  go_wp2_with fail
  refine (Check9_any nm un ki ad ev we sg sw mu di aa de qu ul uh la lo hi hy _ hs).mono ?_
  rintro e w2 ⟨rfl, b2⟩
  rw [HE.out]
  have bel2 := bel.trans (b2.mono bel.size)
  clear b2 bel hld
  go_wp2_with fail
  refine (known9_yes _).mono ?_
  rintro e w4 ⟨rfl, b4⟩
  go_wp2
  go_ret
  exact ⟨rfl, bel2.trans (b4.mono bel2.size)⟩

set_option maxHeartbeats 4000000 in
theorem ends_right (nm : ByteArray) (un ki ad ev : Int) (we sg sw : Bool) (mu di aa de qu : Int) (ul uh la : Bool) (lo hi hy : Int) (w : World) (hs : nm.size ≤ maxLen) (hc : chkT ⟨nm, un, ki, ad, ev, we, sg, sw, mu, di, aa, de, qu, ul, uh, la, lo, hi, hy⟩ = 0) :
    Calls Try.prog 7 #[.agg #[.string nm, .int .i64 un, .int .i64 ki, .int .i64 ad, .int .i64 ev, .bool we, .bool sg, .bool sw, .int .i64 mu, .int .i64 di, .int .i64 aa, .int .i64 de, .int .i64 qu, .bool ul, .bool uh, .bool la, .int .i64 lo, .int .i64 hi, .int .i64 hy]] w fun e w' => e = .returned (.bool true) ∧ Below w.heap.size w w' := by
  obtain ⟨h1, h2, h3, h4, h5, _⟩ := chkT_zero hc
  obtain ⟨p1, p2, p3, p4⟩ := name_parts h1
  rw [bys_len] at p1 p2
  simp only at p1 p2
  obtain ⟨z, hz⟩ : ∃ z, widT ⟨nm, un, ki, ad, ev, we, sg, sw, mu, di, aa, de, qu, ul, uh, la, lo, hi, hy⟩ = z := ⟨_, rfl⟩
  have hwz := widT_le ⟨nm, un, ki, ad, ev, we, sg, sw, mu, di, aa, de, qu, ul, uh, la, lo, hi, hy⟩
  simp only at h2 h3 h4 h5
  rw [hz] at h4 hwz
  have HE := Lib.hid hc
  have HZ := Lib.hid hz
  have HN := Lib.hid h1
  have HU := Lib.hid (at_last hc)
  have HV := Lib.hid (at_past hc)
  have n1 : ¬ (nm.size : Int) < 1 := by omega
  have n2 : ¬ (nm.size : Int) > 16 := by omega
  have n3 : ¬ ad < 0 := by omega
  have n4 : IntKind.i64.wrap (ad + z) = ad + z := by rw [IntKind.wrap_i64]; omega
  have n5 : ¬ ad + z > 65536 := by omega
  have n6 : ¬ un < 1 := by omega
  have n7 : ¬ un > 247 := by omega
  have n8 : ¬ ki < 1 := by omega
  have n9 : ¬ ki > 4 := by omega
  have n10 : ¬ ev < 1 := by omega
  have n11 : ¬ ev > 1048576 := by omega
  have n12 : IntKind.i64.wrap (65536 - z) = 65536 - z := by rw [IntKind.wrap_i64]; omega
  have n13 : IntKind.i64.wrap (65537 - z) = 65537 - z := by rw [IntKind.wrap_i64]; omega
  have hsz : Hid (nm.size ≤ maxLen) := Lib.hid hs
  have bel := bel_alloc w (.cells #[.string nm, .int .i64 un, .int .i64 ki, .int .i64 ad, .int .i64 ev, .bool we, .bool sg, .bool sw, .int .i64 mu, .int .i64 di, .int .i64 aa, .int .i64 de, .int .i64 qu, .bool ul, .bool uh, .bool la, .int .i64 lo, .int .i64 hi, .int .i64 hy] 29)
  have hx := heap_alloc_new w (.cells #[.string nm, .int .i64 un, .int .i64 ki, .int .i64 ad, .int .i64 ev, .bool we, .bool sg, .bool sw, .int .i64 mu, .int .i64 di, .int .i64 aa, .int .i64 de, .int .i64 qu, .bool ul, .bool uh, .bool la, .int .i64 lo, .int .i64 hi, .int .i64 hy] 29)
  have hld := ldTag_run (cs := [.string nm, .int .i64 un, .int .i64 ki, .int .i64 ad, .int .i64 ev, .bool we, .bool sg, .bool sw, .int .i64 mu, .int .i64 di, .int .i64 aa, .int .i64 de, .int .i64 qu, .bool ul, .bool uh, .bool la, .int .i64 lo, .int .i64 hi, .int .i64 hy]) rfl (rangeB hx)
  clear hc hz h1 h2 h3 h4 h5 p3 p4 hs
  go_enter Try.func7, Try.ntmps7
  go_wp2_with fail
  refine (Check9_any nm un ki ad ev we sg sw mu di aa de qu ul uh la lo hi hy _ hsz.out).mono ?_
  rintro e w2 ⟨rfl, b2⟩
  rw [HE.out]
  have bel2 := bel.trans (b2.mono bel.size)
  have hx2 := keepB b2 hx
  have hld2 := ldTag_run (cs := [.string nm, .int .i64 un, .int .i64 ki, .int .i64 ad, .int .i64 ev, .bool we, .bool sg, .bool sw, .int .i64 mu, .int .i64 di, .int .i64 aa, .int .i64 de, .int .i64 qu, .bool ul, .bool uh, .bool la, .int .i64 lo, .int .i64 hi, .int .i64 hy]) rfl (rangeB hx2)
  have C2 := of19 nm un ki ad ev we sg sw mu di aa de qu ul uh la lo hi hy hx2
  clear b2 bel hld hx
  obtain ⟨c0, c1, c2, c3, c4, c5, c6, c7, c8, c9, c10, c11, c12, c13, c14, c15, c16, c17, c18⟩ := C2
  go_wp2_with fail
  refine (Width9_any nm un ki ad ev we sg sw mu di aa de qu ul uh la lo hi hy _).mono ?_
  rintro e w3 ⟨rfl, b3⟩
  rw [HZ.out]
  have bel3 := bel2.trans (b3.mono bel2.size)
  have hx3 := keepB b3 hx2
  have hld3 := ldTag_run (cs := [.string nm, .int .i64 un, .int .i64 ki, .int .i64 ad, .int .i64 ev, .bool we, .bool sg, .bool sw, .int .i64 mu, .int .i64 di, .int .i64 aa, .int .i64 de, .int .i64 qu, .bool ul, .bool uh, .bool la, .int .i64 lo, .int .i64 hi, .int .i64 hy]) rfl (rangeB hx3)
  clear b3 bel2 hld2 hx2 c0 c1 c2 c3 c4 c5 c6 c7 c8 c9 c10 c11 c12 c13 c14 c15 c16 c17 c18
  obtain ⟨c0, c1, c2, c3, c4, c5, c6, c7, c8, c9, c10, c11, c12, c13, c14, c15, c16, c17, c18⟩ := of19 nm un ki ad ev we sg sw mu di aa de qu ul uh la lo hi hy hx3
  go_wp2_with fail
  refine (Name9_any nm _ hsz.out).mono ?_
  rintro e w4 ⟨rfl, b4⟩
  rw [HN.out]
  have bel4 := bel3.trans (b4.mono bel3.size)
  have hx4 := keepB b4 hx3
  have hld4 := ldTag_run (cs := [.string nm, .int .i64 un, .int .i64 ki, .int .i64 ad, .int .i64 ev, .bool we, .bool sg, .bool sw, .int .i64 mu, .int .i64 di, .int .i64 aa, .int .i64 de, .int .i64 qu, .bool ul, .bool uh, .bool la, .int .i64 lo, .int .i64 hi, .int .i64 hy]) rfl (rangeB hx4)
  clear b4 bel3 hld3 hx3 c0 c1 c2 c3 c4 c5 c6 c7 c8 c9 c10 c11 c12 c13 c14 c15 c16 c17 c18
  obtain ⟨c0, c1, c2, c3, c4, c5, c6, c7, c8, c9, c10, c11, c12, c13, c14, c15, c16, c17, c18⟩ := of19 nm un ki ad ev we sg sw mu di aa de qu ul uh la lo hi hy hx4
  have hst := stTag_run (w := w4.alloc (.cells (tgC zT).toArray 29)) (o := 0) ⟨nm, un, ki, ad, ev, we, sg, sw, mu, di, aa, de, qu, ul, uh, la, lo, hi, hy⟩ (there_alloc_size w4 29 (tgC zT).toArray 0 19 (Nat.le_refl _))
  rw [setCells_alloc, setL_whole (tgC zT).toArray (tgC ⟨nm, un, ki, ad, ev, we, sg, sw, mu, di, aa, de, qu, ul, uh, la, lo, hi, hy⟩) rfl] at hst
  simp only [tgV, tgC, zT] at hst
  have hx5 := (heap_alloc_old w4 (.cells #[.string nm, .int .i64 un, .int .i64 ki, .int .i64 (65536 - z), .int .i64 ev, .bool we, .bool sg, .bool sw, .int .i64 mu, .int .i64 di, .int .i64 aa, .int .i64 de, .int .i64 qu, .bool ul, .bool uh, .bool la, .int .i64 lo, .int .i64 hi, .int .i64 hy] 29) (block_lt hx4)).trans hx4
  have hld5 := ldTag_run (cs := [.string nm, .int .i64 un, .int .i64 ki, .int .i64 ad, .int .i64 ev, .bool we, .bool sg, .bool sw, .int .i64 mu, .int .i64 di, .int .i64 aa, .int .i64 de, .int .i64 qu, .bool ul, .bool uh, .bool la, .int .i64 lo, .int .i64 hi, .int .i64 hy]) rfl (rangeB hx5)
  have hst5 := stTag_run (w := (w4.alloc (.cells #[.string nm, .int .i64 un, .int .i64 ki, .int .i64 (65536 - z), .int .i64 ev, .bool we, .bool sg, .bool sw, .int .i64 mu, .int .i64 di, .int .i64 aa, .int .i64 de, .int .i64 qu, .bool ul, .bool uh, .bool la, .int .i64 lo, .int .i64 hi, .int .i64 hy] 29)).alloc (.cells (tgC zT).toArray 29)) (o := 0) ⟨nm, un, ki, ad, ev, we, sg, sw, mu, di, aa, de, qu, ul, uh, la, lo, hi, hy⟩ (there_alloc_size (w4.alloc (.cells #[.string nm, .int .i64 un, .int .i64 ki, .int .i64 (65536 - z), .int .i64 ev, .bool we, .bool sg, .bool sw, .int .i64 mu, .int .i64 di, .int .i64 aa, .int .i64 de, .int .i64 qu, .bool ul, .bool uh, .bool la, .int .i64 lo, .int .i64 hi, .int .i64 hy] 29)) 29 (tgC zT).toArray 0 19 (Nat.le_refl _))
  rw [setCells_alloc, setL_whole (tgC zT).toArray (tgC ⟨nm, un, ki, ad, ev, we, sg, sw, mu, di, aa, de, qu, ul, uh, la, lo, hi, hy⟩) rfl] at hst5
  have hsu : (w4.alloc (.cells #[.string nm, .int .i64 un, .int .i64 ki, .int .i64 (65536 - z), .int .i64 ev, .bool we, .bool sg, .bool sw, .int .i64 mu, .int .i64 di, .int .i64 aa, .int .i64 de, .int .i64 qu, .bool ul, .bool uh, .bool la, .int .i64 lo, .int .i64 hi, .int .i64 hy] 29)).heap.size = w4.heap.size + 1 := by simp
  rw [hsu] at hst5
  simp only [tgV, tgC, zT] at hst5
  have hx6 := (heap_alloc_old (w4.alloc (.cells #[.string nm, .int .i64 un, .int .i64 ki, .int .i64 (65536 - z), .int .i64 ev, .bool we, .bool sg, .bool sw, .int .i64 mu, .int .i64 di, .int .i64 aa, .int .i64 de, .int .i64 qu, .bool ul, .bool uh, .bool la, .int .i64 lo, .int .i64 hi, .int .i64 hy] 29)) (.cells #[.string nm, .int .i64 un, .int .i64 ki, .int .i64 (65537 - z), .int .i64 ev, .bool we, .bool sg, .bool sw, .int .i64 mu, .int .i64 di, .int .i64 aa, .int .i64 de, .int .i64 qu, .bool ul, .bool uh, .bool la, .int .i64 lo, .int .i64 hi, .int .i64 hy] 29) (block_lt hx5)).trans hx5
  have hu6 := (heap_alloc_old (w4.alloc (.cells #[.string nm, .int .i64 un, .int .i64 ki, .int .i64 (65536 - z), .int .i64 ev, .bool we, .bool sg, .bool sw, .int .i64 mu, .int .i64 di, .int .i64 aa, .int .i64 de, .int .i64 qu, .bool ul, .bool uh, .bool la, .int .i64 lo, .int .i64 hi, .int .i64 hy] 29)) (.cells #[.string nm, .int .i64 un, .int .i64 ki, .int .i64 (65537 - z), .int .i64 ev, .bool we, .bool sg, .bool sw, .int .i64 mu, .int .i64 di, .int .i64 aa, .int .i64 de, .int .i64 qu, .bool ul, .bool uh, .bool la, .int .i64 lo, .int .i64 hi, .int .i64 hy] 29) (block_lt (heap_alloc_new w4 (.cells #[.string nm, .int .i64 un, .int .i64 ki, .int .i64 (65536 - z), .int .i64 ev, .bool we, .bool sg, .bool sw, .int .i64 mu, .int .i64 di, .int .i64 aa, .int .i64 de, .int .i64 qu, .bool ul, .bool uh, .bool la, .int .i64 lo, .int .i64 hi, .int .i64 hy] 29)))).trans (heap_alloc_new w4 (.cells #[.string nm, .int .i64 un, .int .i64 ki, .int .i64 (65536 - z), .int .i64 ev, .bool we, .bool sg, .bool sw, .int .i64 mu, .int .i64 di, .int .i64 aa, .int .i64 de, .int .i64 qu, .bool ul, .bool uh, .bool la, .int .i64 lo, .int .i64 hi, .int .i64 hy] 29))
  have hv6 := heap_alloc_two w4 (.cells #[.string nm, .int .i64 un, .int .i64 ki, .int .i64 (65536 - z), .int .i64 ev, .bool we, .bool sg, .bool sw, .int .i64 mu, .int .i64 di, .int .i64 aa, .int .i64 de, .int .i64 qu, .bool ul, .bool uh, .bool la, .int .i64 lo, .int .i64 hi, .int .i64 hy] 29) (.cells #[.string nm, .int .i64 un, .int .i64 ki, .int .i64 (65537 - z), .int .i64 ev, .bool we, .bool sg, .bool sw, .int .i64 mu, .int .i64 di, .int .i64 aa, .int .i64 de, .int .i64 qu, .bool ul, .bool uh, .bool la, .int .i64 lo, .int .i64 hi, .int .i64 hy] 29)
  have d0 := (of19 nm un ki ad ev we sg sw mu di aa de qu ul uh la lo hi hy hx6).1
  have n14 : IntKind.i64.wrap ((nm.size : Int) - 1) = (nm.size : Int) - 1 := by rw [IntKind.wrap_i64]; omega
  have n15 : (0 : Int) ≤ (nm.size : Int) - 1 := by omega
  have n16 : (nm.size : Int) - 1 ≤ (nm.size : Int) := by omega
  have n17 : ((nm.size : Int) - 1).toNat = nm.size - 1 := by omega
  obtain ⟨b1, hb1⟩ : ∃ b, decide ((1 : Int) < (nm.size : Int)) = b := ⟨_, rfl⟩
  obtain ⟨b2, hb2⟩ : ∃ b, decide ((nm.size : Int) < 16) = b := ⟨_, rfl⟩
  have HL1 : Hid (nameB (bys (nm.extract 0 (nm.size - 1))) = b1) := Lib.hid (by
    rw [bys_front, ← bys_len nm, name_less HN.out, bys_len, ← hb1]
    exact decide_eq_decide.2 (by omega))
  have HL2 : Hid (nameB (bys (nm ++ ⟨#[45]⟩)) = b2) := Lib.hid (by
    rw [bys_app, bys_one, name_more HN.out, bys_len, ← hb2]
    have : chB ((45 : UInt8).toNat : Int) = true := by decide
    rw [this, Bool.and_true]
    exact decide_eq_decide.2 (by omega))
  have HL3 : Hid (nameB (bys (nm ++ ⟨#[32]⟩)) = false) := Lib.hid (by
    rw [bys_app, bys_one, name_more HN.out]
    have : chB ((32 : UInt8).toNat : Int) = false := by decide
    rw [this, Bool.and_false])
  have HS2 := Lib.hid (app_size nm 45 p2)
  have HS3 := Lib.hid (app_size nm 32 p2)
  go_wp2_with fail
  refine (Name9_any _ _ (front_size nm _ hsz.out)).mono ?_
  rintro e w5 ⟨rfl, b5⟩
  rw [HL1.out]
  have bel6 := balB (balB bel4 (.cells #[.string nm, .int .i64 un, .int .i64 ki, .int .i64 (65536 - z), .int .i64 ev, .bool we, .bool sg, .bool sw, .int .i64 mu, .int .i64 di, .int .i64 aa, .int .i64 de, .int .i64 qu, .bool ul, .bool uh, .bool la, .int .i64 lo, .int .i64 hi, .int .i64 hy] 29)) (.cells #[.string nm, .int .i64 un, .int .i64 ki, .int .i64 (65537 - z), .int .i64 ev, .bool we, .bool sg, .bool sw, .int .i64 mu, .int .i64 di, .int .i64 aa, .int .i64 de, .int .i64 qu, .bool ul, .bool uh, .bool la, .int .i64 lo, .int .i64 hi, .int .i64 hy] 29)
  have hx7 := keepB b5 hx6
  have hu7 := keepB b5 hu6
  have hv7 := keepB b5 hv6
  have bel7 := bel6.trans (b5.mono bel6.size)
  clear b5 hx6 hu6 hv6 bel6 d0 hst hst5 hld4 hld5 hsu hx4 hx5 bel4
  clear c0 c1 c2 c3 c4 c5 c6 c7 c8 c9 c10 c11 c12 c13 c14 c15 c16 c17 c18
  have d0 := (of19 nm un ki ad ev we sg sw mu di aa de qu ul uh la lo hi hy hx7).1
  go_wp2_with fail
  refine (Name9_any _ _ HS2.out).mono ?_
  rintro e w6 ⟨rfl, b6⟩
  rw [HL2.out]
  have hx8 := keepB b6 hx7
  have hu8 := keepB b6 hu7
  have hv8 := keepB b6 hv7
  have bel8 := bel7.trans (b6.mono bel7.size)
  clear b6 hx7 hu7 hv7 bel7 d0
  have d0 := (of19 nm un ki ad ev we sg sw mu di aa de qu ul uh la lo hi hy hx8).1
  go_wp2_with fail
  refine (Name9_any _ _ HS3.out).mono ?_
  rintro e w7 ⟨rfl, b7⟩
  rw [HL3.out]
  have hu9 := keepB b7 hu8
  have hv9 := keepB b7 hv8
  have bel9 := bel8.trans (b7.mono bel8.size)
  clear b7 hx8 hu8 hv8 bel8 d0
  have ldu := ldTag_run (cs := [.string nm, .int .i64 un, .int .i64 ki, .int .i64 (65536 - z), .int .i64 ev, .bool we, .bool sg, .bool sw, .int .i64 mu, .int .i64 di, .int .i64 aa, .int .i64 de, .int .i64 qu, .bool ul, .bool uh, .bool la, .int .i64 lo, .int .i64 hi, .int .i64 hy]) rfl (rangeB hu9)
  go_wp2_with fail
  refine (Check9_any nm un ki (65536 - z) ev we sg sw mu di aa de qu ul uh la lo hi hy _ hsz.out).mono ?_
  rintro e w8 ⟨rfl, b8⟩
  rw [show chkT ⟨nm, un, ki, 65536 - z, ev, we, sg, sw, mu, di, aa, de, qu, ul, uh, la, lo, hi, hy⟩ = 0 from by have := HU.out; rw [HZ.out] at this; exact this]
  have hv10 := keepB b8 hv9
  have bel10 := bel9.trans (b8.mono bel9.size)
  clear b8 hu9 hv9 bel9 ldu
  have ldv := ldTag_run (cs := [.string nm, .int .i64 un, .int .i64 ki, .int .i64 (65537 - z), .int .i64 ev, .bool we, .bool sg, .bool sw, .int .i64 mu, .int .i64 di, .int .i64 aa, .int .i64 de, .int .i64 qu, .bool ul, .bool uh, .bool la, .int .i64 lo, .int .i64 hi, .int .i64 hy]) rfl (rangeB hv10)
  go_wp2_with fail
  refine (Check9_any nm un ki (65537 - z) ev we sg sw mu di aa de qu ul uh la lo hi hy _ hsz.out).mono ?_
  rintro e w9 ⟨rfl, b9⟩
  rw [show chkT ⟨nm, un, ki, 65537 - z, ev, we, sg, sw, mu, di, aa, de, qu, ul, uh, la, lo, hi, hy⟩ = 21 from by have := HV.out; rw [HZ.out] at this; exact this]
  have bel11 := bel10.trans (b9.mono bel10.size)
  clear b9 hv10 bel10 ldv
  go_wp2_with fail
  refine (known9_yes _).mono ?_
  rintro e w10 ⟨rfl, b10⟩
  go_wp2
  go_ret
  exact ⟨rfl, bel11.trans (b10.mono bel11.size)⟩
theorem walk_TagsEnds (t : Tg) (w : World) (hok : Tg.Ok t) : Calls Try.prog 7 #[tgV t] w fun e w' => e = .returned (.bool true) ∧ Below w.heap.size w w' := by
  obtain ⟨nm, un, ki, ad, ev, we, sg, sw, mu, di, aa, de, qu, ul, uh, la, lo, hi, hy⟩ := t
  by_cases h : chkT ⟨nm, un, ki, ad, ev, we, sg, sw, mu, di, aa, de, qu, ul, uh, la, lo, hi, hy⟩ = 0
  · exact ends_right nm un ki ad ev we sg sw mu di aa de qu ul uh la lo hi hy w hok.1 h
  · exact ends_wrong nm un ki ad ev we sg sw mu di aa de qu ul uh la lo hi hy w hok.1 h
end Go.Proofs.Ytmakegbkgiajdaa
