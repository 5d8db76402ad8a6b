/-
  Texts of the proof of DeviceLasts, joined.
-/
import Derived.Test.YtfclgjdlkcmnfaaJDeviceLastsB
import Derived.Deep.RegionLaw
import Derived.Test.YtfclgjdlkcmnfaaJDeviceLastsA
import Derived.Test.YtfclgjdlkcmnfaaProg
import Derived.Laws.AppendOwn
import Derived.Shelf.Sort.Plain
import Derived.Shelf.Strconv.Clone
import Derived.Ground.NamesProg
import Derived.Maps.OwnSet
namespace Go.Proofs.Ytfclgjdlkcmnfaa
open Go.RowKit
set_option linter.unusedVariables false
set_option maxRecDepth 100000

theorem ins_find {l : List Fl} {s : ByteArray} (h : findD l s = none) (b : List Int) (y : Nat) : findD (insD l ⟨s, b, y⟩) s = some (posD l s) ∧ ∃ hk : posD l s < (insD l ⟨s, b, y⟩).length, (insD l ⟨s, b, y⟩)[posD l s] = ⟨s, b, y⟩ := by
  have hp := posD_le l s
  have hs := insD_split l ⟨s, b, y⟩
  simp only at hs
  have hl1 : (l.take (posD l s)).length = posD l s := by rw [List.length_take]; omega
  have hk : posD l s < (insD l ⟨s, b, y⟩).length := by rw [ins_len]; omega
  have hg : (insD l ⟨s, b, y⟩)[posD l s] = ⟨s, b, y⟩ := by
    simp only [hs]
    rw [List.getElem_append_right (by omega)]
    simp only [hl1, Nat.sub_self, List.getElem_cons_zero]
  refine ⟨findD_at (posD l s) hk (by rw [hg]; exact sameN_refl s) (fun j hj => ?_), hk, hg⟩
  simp only [hs]
  rw [List.getElem_append_left (by omega), List.getElem_take]
  exact findD_none.1 h _ (List.getElem_mem _)
theorem ins_set (l : List Fl) (s : ByteArray) (b : List Int) : (insD l ⟨s, [], 0⟩).set (posD l s) ⟨s, b, 0⟩ = insD l ⟨s, b, 0⟩ := by
  have hp := posD_le l s
  have h1 := insD_split l ⟨s, [], 0⟩
  have h2 := insD_split l ⟨s, b, 0⟩
  simp only at h1 h2
  have hl1 : (l.take (posD l s)).length = posD l s := by rw [List.length_take]; omega
  rw [h1, h2, List.set_append_right _ _ (by omega), hl1, Nat.sub_self]
  rfl
theorem appD_name {d : Dv} {s : ByteArray} {b : List Int} (h : okN s = false) : appD d s b = (d, 8) := if_pos h
theorem appD_off {d : Dv} {s : ByteArray} {b : List Int} (h : ¬ okN s = false) (ho : d.off = true) : appD d s b = (d, 10) := by unfold appD; rw [if_neg h, if_pos ho]
theorem appD_full {d : Dv} {s : ByteArray} {b : List Int} (h : ¬ okN s = false) (ho : ¬ d.off = true) (hf : (findD d.fs s = none ∧ d.fs.length = 64) ∨ (d.room : Int) - usedD d.fs < b.length) : appD d s b = (d, 9) := by unfold appD; rw [if_neg h, if_neg ho, if_pos hf]
theorem appD_in {d : Dv} {s : ByteArray} {b : List Int} (h : ¬ okN s = false) (ho : ¬ d.off = true) (hf : ¬ ((findD d.fs s = none ∧ d.fs.length = 64) ∨ (d.room : Int) - usedD d.fs < b.length)) : appD d s b = opD d { spentD d with fs := addF d.fs s b } := by unfold appD; rw [if_neg h, if_neg ho, if_neg hf]

set_option maxHeartbeats 4000000 in
theorem refAppend_dv (g : Nat) (fv : Value) (ms : List Fm) (d : Dv) (s : ByteArray) (A : Option Addr) (n c : Nat) (bs : List Int) (w : World) (h : RDx w g fv ms d) (ok : Dv.Ok d) (hr : Row .u8 w w.heap.size A bs) (hbn : bs.length = n) (hb : n ≤ 100000000)
    (hA : ∀ a, A = some a → 0 < n → ¬ RG g fv ms a.block) :
    Calls Try.prog 37 #[.pointer (some ⟨g, 0, none⟩), .string s, .slice A n c] w (RStep g fv ms (appD d s bs).1 (.int .i64 (appD d s bs).2) w) := by
  have hn : d.fs.length ≤ 1000 := by have := ok.ln; omega
  have HFD := Lib.hid (fun W (hW : RDx W g fv ms d) => refFind_dv g fv ms d s W hW hn)
  have HFR := Lib.hid (fun W (hW : RDx W g fv ms d) => refFree_dv g fv ms d W hW ok)
  have HDo := Lib.hid (fun W (hW : RDx W g fv ms d) => refDone_dv g fv ms d W hW ok.lf ok.li)
  have H := Lib.hid h
  have c2 := h.c4.2.2.1
  have c3 := h.c4.2.2.2.1
  obtain ⟨A0, cap, rfl, hle, hcm⟩ := h.slice
  obtain ⟨N, hN⟩ : ∃ N, d.fs.length = N := ⟨_, rfl⟩
  rw [hN] at c3 hle
  cases hok : okN s with
  | false =>
    have HR : Hid (appD d s bs = (d, 8)) := Lib.hid (appD_name hok)
    have HO := Lib.hid hok
    rw [HR.out]
    clear h ok hok hn hN hr hbn hA c2 c3
    go_enter Try.func37, Try.ntmps37
    go_wp2_with fail
    refine (refNamed_any s _).mono ?_
    rintro e w' ⟨rfl, rfl⟩
    rw [HO.out]
    go_wp2
    go_ret
    exact RStep.same H.out
  | true =>
  have HO := Lib.hid hok
  have hok2 : ¬ okN s = false := by rw [hok]; decide
  by_cases ho : d.off = true
  · have HR : Hid (appD d s bs = (d, 10)) := Lib.hid (appD_off hok2 ho)
    rw [HR.out]
    rw [ho] at c2
    clear h ok ho hn hok hok2 hN hr hbn hA c3
    go_enter Try.func37, Try.ntmps37
    go_wp2_with fail
    refine (refNamed_any s _).mono ?_
    rintro e w' ⟨rfl, rfl⟩
    rw [HO.out]
    go_wp2
    go_ret
    exact RStep.same H.out
  have ho2 := off_false ho
  rw [ho2] at c2
  have hu := ok.us
  have hrm := ok.rm
  have hln := ok.ln
  have HFRm : Hid (∃ fr : Int, fr = (d.room : Int) - usedD d.fs) := Lib.hid ⟨_, rfl⟩
  by_cases hf1 : findD d.fs s = none ∧ N = 64
  · have HR : Hid (appD d s bs = (d, 9)) := Lib.hid (appD_full hok2 ho (.inl ⟨hf1.1, by rw [hN]; exact hf1.2⟩))
    have HZ : Hid (findZ d.fs s = -1) := Lib.hid (by unfold findZ; rw [hf1.1])
    rw [HR.out]
    obtain ⟨hf1a, rfl⟩ := hf1
    clear h ok ho hn hok hok2 hN hr hbn hA ho2 hf1a
    go_enter Try.func37, Try.ntmps37
    go_wp2_with fail
    refine (refNamed_any s _).mono ?_
    rintro e w' ⟨rfl, rfl⟩
    rw [HO.out]
    go_wp2_with fail
    refine (HFD.out _ H.out).mono ?_
    rintro e w' ⟨rfl, rfl⟩
    rw [HZ.out]
    go_wp2
    go_ret
    exact RStep.same H.out
  obtain ⟨Z, hZ⟩ : ∃ Z, findZ d.fs s = Z := ⟨_, rfl⟩
  have HZ := Lib.hid hZ
  obtain ⟨fr, hfr⟩ : ∃ fr : Int, (d.room : Int) - usedD d.fs = fr := ⟨_, rfl⟩
  have HFRR := Lib.hid hfr
  have hfrb : 0 ≤ fr ∧ fr ≤ 16777216 := by omega
  -- the first test: no such file, and as many as there may be
  have hT : (Z < 0 ∧ (Z = -1) ∧ ((N : Int) == 64) = false ∧ findD d.fs s = none) ∨ (¬ Z < 0 ∧ ∃ k : Nat, Z = k ∧ findD d.fs s = some k) := by
    unfold findZ at hZ
    cases hf : findD d.fs s with
    | none =>
      rw [hf] at hZ
      simp only at hZ
      left
      refine ⟨by omega, hZ.symm, beq_false_of_ne (fun e => hf1 ⟨hf, by omega⟩), rfl⟩
    | some k =>
      rw [hf] at hZ
      simp only at hZ
      right
      exact ⟨by omega, k, hZ.symm, rfl⟩
  have HT := Lib.hid hT
  clear hZ hfr
  by_cases hf2 : fr < (n : Int)
  · have HR : Hid (appD d s bs = (d, 9)) := Lib.hid (appD_full hok2 ho (.inr (by have := HFRR.out; omega)))
    rw [HR.out]
    have hf3 : (n : Int) > fr := hf2
    clear h ok ho hn hok hok2 hN hr hbn hA ho2 hf1 hu hrm hln hf2
    rcases hT with ⟨z1, rfl, z2, _⟩ | ⟨z1, k, rfl, _⟩
    · go_enter Try.func37, Try.ntmps37
      go_wp2_with fail
      refine (refNamed_any s _).mono ?_
      rintro e w' ⟨rfl, rfl⟩
      rw [HO.out]
      go_wp2_with fail
      refine (HFD.out _ H.out).mono ?_
      rintro e w' ⟨rfl, rfl⟩
      rw [HZ.out]
      go_wp2_with fail
      refine (HFR.out _ H.out).mono ?_
      rintro e w' ⟨rfl, m, rfl⟩
      rw [HFRR.out]
      go_wp2
      go_ret
      exact RStep.in rfl (H.out.drewN m) (Frm.of_below (bel_drewN w m))
    · go_enter Try.func37, Try.ntmps37
      go_wp2_with fail
      refine (refNamed_any s _).mono ?_
      rintro e w' ⟨rfl, rfl⟩
      rw [HO.out]
      go_wp2_with fail
      refine (HFD.out _ H.out).mono ?_
      rintro e w' ⟨rfl, rfl⟩
      rw [HZ.out]
      go_wp2_with fail
      refine (HFR.out _ H.out).mono ?_
      rintro e w' ⟨rfl, m, rfl⟩
      rw [HFRR.out]
      go_wp2
      go_ret
      exact RStep.in rfl (H.out.drewN m) (Frm.of_below (bel_drewN w m))
  have hf3 : ¬ (n : Int) > fr := hf2
  have HIN : Hid (¬ ((findD d.fs s = none ∧ d.fs.length = 64) ∨ (d.room : Int) - usedD d.fs < bs.length)) := Lib.hid (fun e => e.elim (fun e => hf1 ⟨e.1, by rw [← hN]; exact e.2⟩) (fun e => hf2 (by rw [← HFRR.out]; omega)))
  have f1 : ∀ m, Frm (fun b => b = g) w (w.drewN m) := fun m => Frm.of_below (bel_drewN w m)
  by_cases hl : d.left = 0
  · have HR : Hid (appD d s bs = ({ d with off := true }, 10)) := Lib.hid (by rw [appD_in hok2 ho HIN.out]; exact if_pos hl)
    have HB := Lib.hid (done_no hl)
    rw [HR.out]
    clear h ok ho hn hok hok2 hN hr hbn hA ho2 hf1 hu hrm hln hf2 hl
    rcases hT with ⟨z1, rfl, z2, _⟩ | ⟨z1, k, rfl, _⟩
    · skip
      go_enter Try.func37, Try.ntmps37
      go_wp2_with fail
      refine (refNamed_any s _).mono ?_
      rintro e w' ⟨rfl, rfl⟩
      rw [HO.out]
      go_wp2_with fail
      refine (HFD.out _ H.out).mono ?_
      rintro e w' ⟨rfl, rfl⟩
      rw [HZ.out]
      go_wp2_with fail
      refine (HFR.out _ H.out).mono ?_
      rintro e w' ⟨rfl, m, rfl⟩
      rw [HFRR.out]
      go_wp2_with fail
      refine (HDo.out _ (H.out.drewN m)).mono ?_
      rintro e w2 ⟨rfl, h2, f2⟩
      rw [HB.out.1]
      rw [HB.out.2] at h2
      have f12 := (f1 m).trans f2 (fun i hi => .inl hi)
      go_wp2
      go_ret
      exact RStep.in rfl h2 f12
    · skip
      go_enter Try.func37, Try.ntmps37
      go_wp2_with fail
      refine (refNamed_any s _).mono ?_
      rintro e w' ⟨rfl, rfl⟩
      rw [HO.out]
      go_wp2_with fail
      refine (HFD.out _ H.out).mono ?_
      rintro e w' ⟨rfl, rfl⟩
      rw [HZ.out]
      go_wp2_with fail
      refine (HFR.out _ H.out).mono ?_
      rintro e w' ⟨rfl, m, rfl⟩
      rw [HFRR.out]
      go_wp2_with fail
      refine (HDo.out _ (H.out.drewN m)).mono ?_
      rintro e w2 ⟨rfl, h2, f2⟩
      rw [HB.out.1]
      rw [HB.out.2] at h2
      have f12 := (f1 m).trans f2 (fun i hi => .inl hi)
      go_wp2
      go_ret
      exact RStep.in rfl h2 f12
  have HR : Hid (appD d s bs = ({ spentD d with fs := addF d.fs s bs }, 0)) := Lib.hid (by rw [appD_in hok2 ho HIN.out]; exact if_neg hl)
  have HB := Lib.hid (done_yes hl)
  rw [HR.out]
  have hRG0 := h.lt
  have hrow := Lib.hid hr
  have HBN := Lib.hid hbn
  have hgw : g < w.heap.size := block_lt h.box
  have HU : Hid (usedD d.fs ≤ 16777216) := Lib.hid (by show _ ≤ _; omega)
  clear h ok ho hok hok2 hr hbn ho2 hf1 hu hrm hf2 hl
  have HNN := Lib.hid hN
  clear hN
  rcases hT with ⟨z1, rfl, z2, hfn⟩ | ⟨z1, k, rfl, hfk⟩
  · have HADD : Hid (addF d.fs s bs = insD d.fs ⟨s, bs, 0⟩) := Lib.hid (by unfold addF; rw [hfn])
    have HFn := Lib.hid hfn
    clear hfn HFRm
    go_enter Try.func37, Try.ntmps37
    go_wp2_with fail
    refine (refNamed_any s _).mono ?_
    rintro e w' ⟨rfl, rfl⟩
    rw [HO.out]
    go_wp2_with fail
    refine (HFD.out _ H.out).mono ?_
    rintro e w' ⟨rfl, rfl⟩
    rw [HZ.out]
    go_wp2_with fail
    refine (HFR.out _ H.out).mono ?_
    rintro e w' ⟨rfl, m, rfl⟩
    rw [HFRR.out]
    go_wp2_with fail
    refine (HDo.out _ (H.out.drewN m)).mono ?_
    rintro e w2 ⟨rfl, h2, f2⟩
    rw [HB.out.1]
    rw [HB.out.2] at h2
    have f12 := (f1 m).trans f2 (fun i hi => .inl hi)
    go_wp2_with fail
    refine (refPut_dv g _ ms (spentD d) s none 0 0 0 ⟨s, [], 0⟩ w2 h2 (by rw [spent_fs]; exact hn) ⟨rfl, rfl, rfl, Nat.le_refl _, Nat.zero_le _, Row.nil _ _ _ _⟩ (fun a ha _ => nomatch ha)).mono ?_
    rintro e w3 ⟨rfl, fv3, h3, f3, o3⟩
    have HSZ2 : w.heap.size ≤ w2.heap.size := f12.size
    have f13 := f12.trans f3 (fun i hi => .inl hi)
    have HSZ : Hid (w.heap.size ≤ w3.heap.size) := Lib.hid f13.size
    have HO3 : Hid (∀ b, fv3.ownBlock = some b → w.heap.size ≤ b) := Lib.hid (fun b hb => Nat.le_trans HSZ2 (o3 b hb))
    have HRG2 : Hid (∀ i, RG g fv3 (ms.take (posD (spentD d).fs s) ++ (⟨s, none, 0, 0, 0⟩ : Fm) :: ms.drop (posD (spentD d).fs s)) i → RG g (Value.slice A0 d.fs.length cap) ms i ∨ w.heap.size ≤ i) := Lib.hid (fun i hi => by
      rcases hi with hi | hi | ⟨m, hm, a, ha, hab, hp⟩
      · exact .inl (.inl hi)
      · exact .inr (HO3.out i hi)
      · rcases List.mem_append.1 hm with hm | hm
        · exact .inl (.inr (.inr ⟨m, List.mem_of_mem_take hm, a, ha, hab, hp⟩))
        rcases List.mem_cons.1 hm with rfl | hm
        · exact absurd ha (fun e => nomatch e)
        · exact .inl (.inr (.inr ⟨m, List.mem_of_mem_drop hm, a, ha, hab, hp⟩)))
    obtain ⟨D, hD⟩ : ∃ D : Dv, ({ spentD d with fs := insD (spentD d).fs ⟨s, [], 0⟩ } : Dv) = D := ⟨_, rfl⟩
    obtain ⟨MS, hMS⟩ : ∃ MS, ms.take (posD (spentD d).fs s) ++ (⟨s, none, 0, 0, 0⟩ : Fm) :: ms.drop (posD (spentD d).fs s) = MS := ⟨_, rfl⟩
    rw [hMS] at HRG2 h3
    rw [hD] at h3
    clear hMS
    obtain ⟨K, hK⟩ : ∃ K, posD d.fs s = K := ⟨_, rfl⟩
    have HF : ∃ hk : K < D.fs.length, D.fs[K] = ⟨s, [], 0⟩ ∧ findZ D.fs s = (K : Int) ∧ ({ D with fs := D.fs.set K { D.fs[K] with bs := D.fs[K].bs ++ bs } } : Dv) = { spentD d with fs := addF d.fs s bs } ∧ usedD D.fs ≤ 16777216 ∧ D.fs.length ≤ 1000 := by
      subst hD hK
      obtain ⟨e1, e2, e3⟩ := ins_find HFn.out [] 0
      simp only [spent_fs]
      refine ⟨e2, e3, by unfold findZ; rw [e1], ?_, ?_, ?_⟩
      · rw [HADD.out, e3, ← ins_set d.fs s bs]; rfl
      · rw [used_ins]; simpa using HU.out
      · rw [ins_len]; omega
    obtain ⟨hk, hfK, hZ3, hFIN, hu3, hl3⟩ := HF
    have HfK := Lib.hid hfK
    have HZ3 := Lib.hid hZ3
    have HFIN := Lib.hid hFIN
    have HUW := Lib.hid hu3
    have R2 := f13.row hrow.out (fun a ha hp e => hA a ha (by rw [← HBN.out]; exact hp) (.inl e))
    have F12 := Lib.hid f13
    clear hfK hZ3 hFIN hu3 hD hK f12 f13 f3 f2 c2 c3 o3
    go_wp2_with fail
    refine (refFind_dv g fv3 MS D s w3 h3 (by omega)).mono ?_
    rintro e w' ⟨rfl, rfl⟩
    rw [HZ3.out]
    have hk2 : K < D.fs.length := hk
    have hkm : K < (MS).length := by rw [(h3).len]; exact hk2
    have d3 := (h3).c4.2.2.2.1
    obtain ⟨b, cap', efv, _, hbW, _, _, g0, g1, g2, gf⟩ := (h3).own.elem hkm
    have hIs := (h3).is K hkm hk2
    have hsepB := (h3).sepB _ (List.getElem_mem hkm)
    have hsepF := (h3).sepF
    have HWW := Lib.hid (h3)
    subst efv
    have hbg : b ≠ g := fun e => hsepF (by rw [e]; rfl)
    have hgW := block_lt (h3).box
    have hus := used_mem (List.getElem_mem hk2)
    obtain ⟨mk, hmk⟩ : ∃ m, (MS)[K] = m := ⟨_, rfl⟩
    rw [hmk] at g0 g1 g2 hIs hsepB
    obtain ⟨mnm, mA, mn, mc, msy⟩ := mk
    simp only at g0 g1 g2
    have HMK := Lib.hid hmk
    have HIs := Lib.hid hIs
    have hmn := hIs.n
    simp only at hmn
    have hmn2 : mn ≤ 16777216 := by have := HUW.out; omega
    have hNW : ∃ NW, (MS).length = NW := ⟨_, rfl⟩
    obtain ⟨NW, hNW⟩ := hNW
    have HNW := Lib.hid hNW
    have HND : Hid (D.fs.length = NW) := Lib.hid ((h3).len.symm.trans hNW)
    rw [hNW] at d3
    have hkNW : K < NW := by rw [← hNW]; exact hkm
    have i3 : (0 : Int) ≤ (K : Int) := by omega
    have HWFb : Hid (∀ x ∈ D.fs[K].bs, (Lit.int .u8 x).wf = true) := Lib.hid hIs.row.1
    clear hmk hIs hmn hus hNW g0 g2 hsepF
    go_wp2_with fail
    refine (copy_u8 mA mn mc _ _ HIs.out.row HIs.out.n (by omega)).mono ?_
    rintro e w6 ⟨v6, rfl, own6, b6⟩
    have d36 := (b6.cell (p := ⟨g, 3, none⟩) hgW).trans d3
    have g16 := (b6.cell (p := ⟨b, K * 3 + 1, none⟩) hbW).trans g1
    have gf6 := fun j => (b6.frozen (p := ⟨b, j, none⟩) hbW).trans (gf j)
    have RB := Lib.hid (R2.below b6)
    have HL6 : Hid ((D.fs[K].bs).length = mn) := HIs.out.n
    have hs6 := b6.size
    clear d3 g1 gf
    go_wp2_with fail
    go_region_law (first
      | (refine step_append_row (w6) rfl _ _ 30 rfl w3.heap.size .u8 5 1 Try.underlying30 info_u8 v6 (D.fs[K].bs) rfl own6 _ A n c bs rfl RB.out HBN.out (by rw [HL6.out]; omega) (by rw [HL6.out]; simp only [maxLen]; omega) hs6 ?_; intro v7 w7 own7 g7; have bw7 : Below w3.heap.size w6 w7 := Below.grown (Below.refl w3.heap.size w6) (show World.grownBy w6 w7 v6.ownBlock from ⟨g7.os, g7.tape, g7.output, g7.size, g7.block⟩) hs6 (fun q e => (own6.block q e).1); obtain ⟨A7, q7, rfl, row7, hq71, hq72⟩ := own7.row (wf_append HWFb.out RB.out.1); have d37 := (bw7.cell (p := ⟨g, 3, none⟩) hgW).trans d36; have g17 := (bw7.cell (p := ⟨b, K * 3 + 1, none⟩) hbW).trans g16; have gf7 := fun j => (bw7.frozen (p := ⟨b, j, none⟩) hbW).trans (gf6 j))
      | (refine step_append_row (World.drew w6) rfl _ _ 30 rfl w3.heap.size .u8 5 1 Try.underlying30 info_u8 v6 (D.fs[K].bs) rfl own6 _ A n c bs rfl RB.out HBN.out (by rw [HL6.out]; omega) (by rw [HL6.out]; simp only [maxLen]; omega) hs6 ?_; intro v7 w7 own7 g7; have bw7 : Below w3.heap.size w6 w7 := Below.grown (Below.refl w3.heap.size w6) (show World.grownBy w6 w7 v6.ownBlock from ⟨g7.os, g7.tape, g7.output, g7.size, g7.block⟩) hs6 (fun q e => (own6.block q e).1); obtain ⟨A7, q7, rfl, row7, hq71, hq72⟩ := own7.row (wf_append HWFb.out RB.out.1); have d37 := (bw7.cell (p := ⟨g, 3, none⟩) hgW).trans d36; have g17 := (bw7.cell (p := ⟨b, K * 3 + 1, none⟩) hbW).trans g16; have gf7 := fun j => (bw7.frozen (p := ⟨b, j, none⟩) hbW).trans (gf6 j))
      | (refine step_append_row (World.drew (World.drew w6)) rfl _ _ 30 rfl w3.heap.size .u8 5 1 Try.underlying30 info_u8 v6 (D.fs[K].bs) rfl own6 _ A n c bs rfl RB.out HBN.out (by rw [HL6.out]; omega) (by rw [HL6.out]; simp only [maxLen]; omega) hs6 ?_; intro v7 w7 own7 g7; have bw7 : Below w3.heap.size w6 w7 := Below.grown (Below.refl w3.heap.size w6) (show World.grownBy w6 w7 v6.ownBlock from ⟨g7.os, g7.tape, g7.output, g7.size, g7.block⟩) hs6 (fun q e => (own6.block q e).1); obtain ⟨A7, q7, rfl, row7, hq71, hq72⟩ := own7.row (wf_append HWFb.out RB.out.1); have d37 := (bw7.cell (p := ⟨g, 3, none⟩) hgW).trans d36; have g17 := (bw7.cell (p := ⟨b, K * 3 + 1, none⟩) hbW).trans g16; have gf7 := fun j => (bw7.frozen (p := ⟨b, j, none⟩) hbW).trans (gf6 j)))
    all_goals
      have hl7 : (D.fs[K].bs ++ bs).length = mn + n := by rw [List.length_append, HL6.out, HBN.out]
      rw [hl7] at hq71
      have hb7 : ∀ a, A7 = some a → 0 < mn + n → w3.heap.size ≤ a.block := fun a ha hq => own7.lt_block ha (by rw [hl7]; exact hq)
      have f7 : Frm (fun i => i = b) w3 w7 := Frm.of_below (b6.trans (bw7.mono (Nat.le_refl _)))
      have H7 := HWW.out.below (b6.trans (bw7.mono (Nat.le_refl _)))
      have HI7 : FmIs w7 ⟨mnm, A7, mn + n, q7, msy⟩ { D.fs[K] with bs := D.fs[K].bs ++ bs } := ⟨HIs.out.nm, HIs.out.sy, hl7, hq71, hq72, row7⟩
      have HS7 := H7.setFile K hkm hk2 ⟨mnm, A7, mn + n, q7, msy⟩ 1 (.slice A7 (mn + n) q7) (by omega) (by rw [HMK.out]; rfl) { D.fs[K] with bs := D.fs[K].bs ++ bs } HI7 (fun a ha hq => by have := hb7 a ha hq; exact ⟨by omega, by omega⟩)
      rw [show ({ D with fs := D.fs.set K { D.fs[K] with bs := D.fs[K].bs ++ bs } } : Dv) = { spentD d with fs := addF d.fs s bs } from HFIN.out] at HS7
      have f8 := f7.trans (Frm.set (F := fun i => i = b) w7 b (K * 3 + 1) (.slice A7 (mn + n) q7) rfl) (fun i hi => .inl hi)
      simp only [HL6.out, HBN.out]
      clear H7 HI7 f7 row7 d37 g17 gf7 bw7
      (try go_wp2)
      go_ret
      refine ⟨rfl, _, _, (by first | exact HS7 | exact HS7.drew), (by first | exact ((F12.out.mono (fun b hb => .inl hb)).trans f8 (fun i hi => .inr (by rw [hi]; exact HO3.out b rfl))) | exact (((F12.out.mono (fun b hb => .inl hb)).trans f8 (fun i hi => .inr (by rw [hi]; exact HO3.out b rfl)))).drew), fun i hi => ?_⟩
      rcases RG_set (m' := ⟨mnm, A7, mn + n, q7, msy⟩) (W := w3.heap.size) hi (fun a ha hq => .inr (hb7 a ha hq)) with hi | hi
      · exact HRG2.out i hi
      · exact .inr (Nat.le_trans HSZ.out hi)

  · obtain ⟨hk, _, _⟩ := findD_some hfk
    have HADD : Hid (addF d.fs s bs = d.fs.set k { d.fs[k] with bs := d.fs[k].bs ++ bs }) := Lib.hid (by unfold addF; rw [hfk]; exact modify_set d.fs k hk _)
    clear hfk HFRm
    go_enter Try.func37, Try.ntmps37
    go_wp2_with fail
    refine (refNamed_any s _).mono ?_
    rintro e w' ⟨rfl, rfl⟩
    rw [HO.out]
    go_wp2_with fail
    refine (HFD.out _ H.out).mono ?_
    rintro e w' ⟨rfl, rfl⟩
    rw [HZ.out]
    go_wp2_with fail
    refine (HFR.out _ H.out).mono ?_
    rintro e w' ⟨rfl, m, rfl⟩
    rw [HFRR.out]
    go_wp2_with fail
    refine (HDo.out _ (H.out.drewN m)).mono ?_
    rintro e w2 ⟨rfl, h2, f2⟩
    rw [HB.out.1]
    rw [HB.out.2] at h2
    have f12 := (f1 m).trans f2 (fun i hi => .inl hi)
    have HRG2 : Hid (∀ i, RG g (Value.slice A0 d.fs.length cap) ms i → RG g (Value.slice A0 d.fs.length cap) ms i ∨ w.heap.size ≤ i) := Lib.hid (fun i hi => .inl hi)
    have HSZ : Hid (w.heap.size ≤ w2.heap.size) := Lib.hid f12.size
    have HUW : Hid (usedD (spentD d).fs ≤ 16777216) := Lib.hid (by rw [spent_fs]; exact HU.out)
    have R2 := f12.row hrow.out (fun a ha hp e => hA a ha (by rw [← HBN.out]; exact hp) (.inl e))
    have F12 := Lib.hid f12
    clear f12 f2 c2 c3
    have hk2 : k < (spentD d).fs.length := by rw [spent_fs]; exact hk
    have hkm : k < (ms).length := by rw [(h2).len]; exact hk2
    have d3 := (h2).c4.2.2.2.1
    obtain ⟨b, cap', efv, _, hbW, _, _, g0, g1, g2, gf⟩ := (h2).own.elem hkm
    have hIs := (h2).is k hkm hk2
    have hsepB := (h2).sepB _ (List.getElem_mem hkm)
    have hsepF := (h2).sepF
    have HWW := Lib.hid (h2)
    injection efv with eA en ec
    subst eA ec
    clear en
    have hbg : b ≠ g := fun e => hsepF (by rw [e]; rfl)
    have hgW := block_lt (h2).box
    have hus := used_mem (List.getElem_mem hk2)
    obtain ⟨mk, hmk⟩ : ∃ m, (ms)[k] = m := ⟨_, rfl⟩
    rw [hmk] at g0 g1 g2 hIs hsepB
    obtain ⟨mnm, mA, mn, mc, msy⟩ := mk
    simp only at g0 g1 g2
    have HMK := Lib.hid hmk
    have HIs := Lib.hid hIs
    have hmn := hIs.n
    simp only at hmn
    have hmn2 : mn ≤ 16777216 := by have := HUW.out; omega
    have hNW : ∃ NW, (ms).length = NW := ⟨_, rfl⟩
    obtain ⟨NW, hNW⟩ := hNW
    have HNW := Lib.hid hNW
    have HND : Hid ((spentD d).fs.length = NW) := Lib.hid ((h2).len.symm.trans hNW)
    rw [← spent_fs d, HND.out] at d3
    have hkNW : k < NW := by rw [← hNW]; exact hkm
    have i3 : (0 : Int) ≤ (k : Int) := by omega
    have HWFb : Hid (∀ x ∈ (spentD d).fs[k].bs, (Lit.int .u8 x).wf = true) := Lib.hid hIs.row.1
    clear hmk hIs hmn hus hNW g0 g2 hsepF
    go_wp2_with fail
    refine (copy_u8 mA mn mc _ _ HIs.out.row HIs.out.n (by omega)).mono ?_
    rintro e w6 ⟨v6, rfl, own6, b6⟩
    have d36 := (b6.cell (p := ⟨g, 3, none⟩) hgW).trans d3
    have g16 := (b6.cell (p := ⟨b, k * 3 + 1, none⟩) hbW).trans g1
    have gf6 := fun j => (b6.frozen (p := ⟨b, j, none⟩) hbW).trans (gf j)
    have RB := Lib.hid (R2.below b6)
    have HL6 : Hid (((spentD d).fs[k].bs).length = mn) := HIs.out.n
    have hs6 := b6.size
    clear d3 g1 gf
    go_wp2_with fail
    go_region_law (first
      | (refine step_append_row (w6) rfl _ _ 30 rfl w2.heap.size .u8 5 1 Try.underlying30 info_u8 v6 ((spentD d).fs[k].bs) rfl own6 _ A n c bs rfl RB.out HBN.out (by rw [HL6.out]; omega) (by rw [HL6.out]; simp only [maxLen]; omega) hs6 ?_; intro v7 w7 own7 g7; have bw7 : Below w2.heap.size w6 w7 := Below.grown (Below.refl w2.heap.size w6) (show World.grownBy w6 w7 v6.ownBlock from ⟨g7.os, g7.tape, g7.output, g7.size, g7.block⟩) hs6 (fun q e => (own6.block q e).1); obtain ⟨A7, q7, rfl, row7, hq71, hq72⟩ := own7.row (wf_append HWFb.out RB.out.1); have d37 := (bw7.cell (p := ⟨g, 3, none⟩) hgW).trans d36; have g17 := (bw7.cell (p := ⟨b, k * 3 + 1, none⟩) hbW).trans g16; have gf7 := fun j => (bw7.frozen (p := ⟨b, j, none⟩) hbW).trans (gf6 j))
      | (refine step_append_row (World.drew w6) rfl _ _ 30 rfl w2.heap.size .u8 5 1 Try.underlying30 info_u8 v6 ((spentD d).fs[k].bs) rfl own6 _ A n c bs rfl RB.out HBN.out (by rw [HL6.out]; omega) (by rw [HL6.out]; simp only [maxLen]; omega) hs6 ?_; intro v7 w7 own7 g7; have bw7 : Below w2.heap.size w6 w7 := Below.grown (Below.refl w2.heap.size w6) (show World.grownBy w6 w7 v6.ownBlock from ⟨g7.os, g7.tape, g7.output, g7.size, g7.block⟩) hs6 (fun q e => (own6.block q e).1); obtain ⟨A7, q7, rfl, row7, hq71, hq72⟩ := own7.row (wf_append HWFb.out RB.out.1); have d37 := (bw7.cell (p := ⟨g, 3, none⟩) hgW).trans d36; have g17 := (bw7.cell (p := ⟨b, k * 3 + 1, none⟩) hbW).trans g16; have gf7 := fun j => (bw7.frozen (p := ⟨b, j, none⟩) hbW).trans (gf6 j))
      | (refine step_append_row (World.drew (World.drew w6)) rfl _ _ 30 rfl w2.heap.size .u8 5 1 Try.underlying30 info_u8 v6 ((spentD d).fs[k].bs) rfl own6 _ A n c bs rfl RB.out HBN.out (by rw [HL6.out]; omega) (by rw [HL6.out]; simp only [maxLen]; omega) hs6 ?_; intro v7 w7 own7 g7; have bw7 : Below w2.heap.size w6 w7 := Below.grown (Below.refl w2.heap.size w6) (show World.grownBy w6 w7 v6.ownBlock from ⟨g7.os, g7.tape, g7.output, g7.size, g7.block⟩) hs6 (fun q e => (own6.block q e).1); obtain ⟨A7, q7, rfl, row7, hq71, hq72⟩ := own7.row (wf_append HWFb.out RB.out.1); have d37 := (bw7.cell (p := ⟨g, 3, none⟩) hgW).trans d36; have g17 := (bw7.cell (p := ⟨b, k * 3 + 1, none⟩) hbW).trans g16; have gf7 := fun j => (bw7.frozen (p := ⟨b, j, none⟩) hbW).trans (gf6 j)))
    all_goals
      have hl7 : ((spentD d).fs[k].bs ++ bs).length = mn + n := by rw [List.length_append, HL6.out, HBN.out]
      rw [hl7] at hq71
      have hb7 : ∀ a, A7 = some a → 0 < mn + n → w2.heap.size ≤ a.block := fun a ha hq => own7.lt_block ha (by rw [hl7]; exact hq)
      have f7 : Frm (fun i => i = b) w2 w7 := Frm.of_below (b6.trans (bw7.mono (Nat.le_refl _)))
      have H7 := HWW.out.below (b6.trans (bw7.mono (Nat.le_refl _)))
      have HI7 : FmIs w7 ⟨mnm, A7, mn + n, q7, msy⟩ { (spentD d).fs[k] with bs := (spentD d).fs[k].bs ++ bs } := ⟨HIs.out.nm, HIs.out.sy, hl7, hq71, hq72, row7⟩
      have HS7 := H7.setFile k hkm hk2 ⟨mnm, A7, mn + n, q7, msy⟩ 1 (.slice A7 (mn + n) q7) (by omega) (by rw [HMK.out]; rfl) { (spentD d).fs[k] with bs := (spentD d).fs[k].bs ++ bs } HI7 (fun a ha hq => by have := hb7 a ha hq; exact ⟨by omega, by omega⟩)
      rw [show ({ (spentD d) with fs := (spentD d).fs.set k { (spentD d).fs[k] with bs := (spentD d).fs[k].bs ++ bs } } : Dv) = { spentD d with fs := addF d.fs s bs } from by rw [HADD.out]; simp only [spent_fs]] at HS7
      have f8 := f7.trans (Frm.set (F := fun i => i = b) w7 b (k * 3 + 1) (.slice A7 (mn + n) q7) rfl) (fun i hi => .inl hi)
      simp only [HL6.out, HBN.out]
      clear H7 HI7 f7 row7 d37 g17 gf7 bw7
      (try go_wp2)
      go_ret
      refine ⟨rfl, _, _, (by first | exact HS7 | exact HS7.drew), (by first | exact ((F12.out.mono (fun b hb => .inl hb)).trans f8 (fun i hi => .inl (.inr (by rw [hi]; rfl)))) | exact (((F12.out.mono (fun b hb => .inl hb)).trans f8 (fun i hi => .inl (.inr (by rw [hi]; rfl))))).drew), fun i hi => ?_⟩
      rcases RG_set (m' := ⟨mnm, A7, mn + n, q7, msy⟩) (W := w2.heap.size) hi (fun a ha hq => .inr (hb7 a ha hq)) with hi | hi
      · exact HRG2.out i hi
      · exact .inr (Nat.le_trans HSZ.out hi)
end Go.Proofs.Ytfclgjdlkcmnfaa
namespace Go.Proofs.Ytfclgjdlkcmnfaa
open Go.RowKit
set_option linter.unusedVariables false
set_option maxRecDepth 100000

def txC (s : ByteArray) : List Value := [.string s]
theorem txC_len (s : ByteArray) : (txC s).length = 1 := rfl
theorem txC_one (s : ByteArray) : ∀ u ∈ txC s, u.oneCell' = true := by
  intro u hu
  simp only [txC, List.mem_cons, List.mem_nil_iff, or_false] at hu
  rcases hu with rfl
  rfl
theorem info_tx : (Try.prog.info? 9).map (fun i => (i.zero, i.size, i.bytes)) = some (some (.string ⟨#[]⟩), 1, 16) := by kernel_rfl
/-- A list of texts of the call's own. -/
def TxOwn (w : World) (base : Nat) (v : Value) (l : List ByteArray) : Prop := w.ownsRow base 9 1 v l.length (flatV txC l)
theorem TxOwn.nil (w : World) (base : Nat) : TxOwn w base (.slice none 0 0) [] := World.ownsRow_nil w base _ 1
theorem TxOwn.row {w : World} {base : Nat} {v : Value} {l : List ByteArray} (h : TxOwn w base v l) : ∃ A c, v = .slice A l.length c ∧ VRow w w.heap.size A (flatV txC l) ∧ l.length ≤ c ∧ c ≤ maxLen := VRow.of_own h
theorem TxOwn.alloc {w : World} {base : Nat} {v : Value} {l : List ByteArray} (h : TxOwn w base v l) (o : Obj) : TxOwn (w.alloc o) base v l := World.ownsRow.alloc h o
theorem TxOwn.frm {F : Nat → Prop} {w w' : World} {base : Nat} {v : Value} {l : List ByteArray} (h : TxOwn w base v l) (hf : Frm F w w') (hn : ∀ b, v.ownBlock = some b → ¬ F b) : TxOwn w' base v l := by
  refine ⟨h.1, ?_⟩
  rcases h.2 with h0 | ⟨g, cap, cur, hv, h1, h2, h3⟩
  · exact .inl h0
  · exact .inr ⟨g, cap, cur, hv, h1, (hf.block g (block_lt h2) (hn g (by rw [hv]; rfl))).trans h2, h3⟩
theorem TxOwn.mono {w : World} {base base' : Nat} {v : Value} {l : List ByteArray} (h : TxOwn w base v l) (hb : base' ≤ base) : TxOwn w base' v l := by
  refine ⟨h.1, ?_⟩
  rcases h.2 with h0 | ⟨g, cap, cur, hv, h1, r⟩
  · exact .inl h0
  · exact .inr ⟨g, cap, cur, hv, by omega, r⟩
theorem TxOwn.lt {w : World} {base : Nat} {v : Value} {l : List ByteArray} (h : TxOwn w base v l) : ∀ g, v.ownBlock = some g → base ≤ g ∧ g < w.heap.size := World.ownsRow.lt h
theorem TxOwn.below {w w' : World} {base : Nat} {v : Value} {l : List ByteArray} (h : TxOwn w base v l) (hb : Below w.heap.size w w') : TxOwn w' base v l := h.frm (F := fun _ => False) (Frm.of_below hb) (fun _ _ h => h)
theorem wpList_append_tx {ops : Array Oper} {rest : List Oper} {o : Oper} {a : Act} {Q : Exit → Act → World → Prop} (w : World) (hgd : o.guard = none) (s x : Operand)
    (ho : o.op = .call { callee := .builtin .append, args := #[s, x], argTypes := #[34, 34] })
    (base : Nat) (v : Value) (l : List ByteArray) (hs : a.eval s = v) (hown : TxOwn w base v l) (ad : Addr) (c : Nat) (t : ByteArray) (hx : a.eval x = .slice (some ad) 1 c)
    (hnews : ∀ j u, (txC t)[j]? = some u → w.cell? (ad.add j) = some u) (hb : (l.length + 1) * 16 ≤ 140737488355328) (hbase : base ≤ w.heap.size)
    (h : ∀ v' w', TxOwn w' base v' (l ++ [t]) → w.grownBy w' v.ownBlock → wpList Try.prog ops Q rest (a.put o.dst v') w') : wpList Try.prog ops Q (o :: rest) a w := by
  obtain ⟨i, hi1, hz, hsz, hby⟩ := info_parts info_tx
  refine wpList_append_own w hgd s x 34 ho base 9 i _ 1 16 Try.underlying34 hi1 hz hsz hby rfl (by omega) v l.length (flatV txC l) hs hown ad 1 c (txC t) hx rfl hnews (txC_one t) (by simp only [maxLen]; omega) (by omega) hbase fun v' w' h1 h2 _ => h v' w' ?_ h2
  unfold TxOwn
  rw [flatV_append, flatV_one, List.length_append]
  exact h1
/-- The cell of a text in a new box. -/
theorem box_tx (w : World) (t : ByteArray) : ∀ j u, (txC t)[j]? = some u → (w.alloc (.cells (txC t).toArray 9)).cell? ((⟨w.heap.size, 0, none⟩ : Addr).add j) = some u := by
  intro j u hu
  have := rangeB (heap_alloc_new w (.cells (txC t).toArray 9)) j u hu
  rw [Go.WideShapes.add_plain]
  exact this
/-- The cell of one text of an owned list. -/
theorem TxOwn.elem {w : World} {base : Nat} {v : Value} {l : List ByteArray} (h : TxOwn w base v l) {i : Nat} (hi : i < l.length) :
    ∃ b cap, v = .slice (some ⟨b, 0, none⟩) l.length cap ∧ base ≤ b ∧ b < w.heap.size ∧ l.length ≤ cap ∧ cap ≤ maxLen ∧ w.cell? ⟨b, i, none⟩ = some (.string l[i]) ∧ ∀ j, w.frozen? ⟨b, j, none⟩ = false := by
  rcases h.2 with ⟨_, h0⟩ | ⟨g, cap, cur, rfl, h1, h2, h3, h4, h5, h6⟩
  · omega
  · have key : ∀ j, j < 1 → w.cell? ⟨g, i * 1 + j, none⟩ = (txC l[i])[j]? := fun j hj => by
      rw [cell_of_row w g (i * 1 + j) cur _ _ h2, ← Array.getElem?_toList, ← flatV_get txC_len l i hi j hj, ← h6, List.getElem?_take_of_lt (by omega)]
    have k0 := key 0 (by omega)
    rw [Nat.mul_one, Nat.add_zero] at k0
    exact ⟨g, cap, rfl, h1, block_lt h2, h3, h4, k0, fun j => block_frozen w g j _ _ h2⟩
end Go.Proofs.Ytfclgjdlkcmnfaa
namespace Go.Proofs.Ytfclgjdlkcmnfaa
open Go.RowKit
set_option linter.unusedVariables false
set_option maxRecDepth 100000

set_option maxHeartbeats 1000000 in
theorem refNames_dv (g : Nat) (fv : Value) (ms : List Fm) (d : Dv) (w : World) (h : RDx w g fv ms d) (hn : d.fs.length ≤ 1000) :
    Calls Try.prog 48 #[.pointer (some ⟨g, 0, none⟩)] w fun e w' => ∃ v, e = .returned v ∧ TxOwn w' w.heap.size v (namesD d) ∧ Below w.heap.size w w' := by
  obtain ⟨A, cap, rfl, hle, hcm⟩ := h.slice
  obtain ⟨n, hn2⟩ : ∃ n, d.fs.length = n := ⟨_, rfl⟩
  have HN := Lib.hid hn2
  have HM : Hid (ms.length = n) := Lib.hid (h.len.trans hn2)
  obtain ⟨NL, hNL⟩ : ∃ l, namesD d = l := ⟨_, rfl⟩
  have HNL : Hid (NL.length = n) := Lib.hid (by rw [← hNL]; unfold namesD; rw [List.length_map]; exact hn2)
  have HNE : Hid (∀ j (hj : j < ms.length) (hj2 : j < NL.length), ms[j].nm = NL[j]) := Lib.hid (fun j hj hj2 => by
    subst hNL
    have := (h.is j hj (by rw [← h.len]; exact hj)).nm
    rw [this]
    simp [namesD])
  rw [hn2] at hle hn
  rw [hNL]
  have H := Lib.hid h
  have hltg := block_lt h.box
  have c3 := h.c4.2.2.2.1
  rw [hn2] at c3
  clear h hn2 hNL
  go_enter Try.func48, Try.ntmps48
  go_wp2_with fail
  go_loopw [3, 4] (fun v i wr => ∃ j : Nat, j ≤ n ∧ i = .int .i64 j ∧ TxOwn wr w.heap.size v (NL.take j) ∧ Below w.heap.size w wr) (fun _ i _ => n - (intOf i).toNat)
  case atStart => exact ⟨0, by omega, rfl, by rw [List.take_zero]; exact TxOwn.nil _ _, Below.refl _ _⟩
  case round =>
    obtain ⟨j, hj, rfl, hown, hbel⟩ := hrel
    have H1 := Lib.hid (H.out.below hbel)
    have d3 := H1.out.c4.2.2.2.1
    rw [HN.out] at d3
    clear c3
    by_cases hlt : j < n
    · have hjl : j < ms.length := by rw [HM.out]; exact hlt
      have hjN : j < NL.length := by rw [HNL.out]; exact hlt
      have HS : Hid (NL.take (j + 1) = NL.take j ++ [NL[j]]) := Lib.hid (List.take_succ_eq_append_getElem hjN)
      obtain ⟨b, cap', e, _, _, _, _, e0, _, _, _⟩ := H1.out.own.elem hjl
      injection e with eA en ec
      subst eA ec
      have hl5 : Hid ((NL.take j).length ≤ 1000) := Lib.hid (by rw [List.length_take]; omega)
      have hsz := hbel.size
      rw [HNE.out j hjl hjN] at e0
      obtain ⟨s, hs⟩ : ∃ s, NL[j] = s := ⟨_, rfl⟩
      rw [hs] at e0 HS
      have hbx := box_tx wr s
      clear en hs
      go_wp2_with (at_builtin; refine wpList_append_tx _ rfl _ _ rfl w.heap.size _ (NL.take j) rfl (hown.alloc _) ⟨wr.heap.size, 0, none⟩ 1 s rfl hbx (by have := hl5.out; omega) (by simp; omega) ?_; intro v1 w1 hown1 hg1)
      have hbel1 : Below w.heap.size w w1 := (hbel.alloc hsz _).grown hg1 (by simp; omega) (fun q e => (hown.lt q e).1)
      rw [← HS.out] at hown1
      clear hbx hown hg1 hbel e0 d3 H1
      go_wp2
      go_roundw
      case rel => exact ⟨j + 1, by omega, by go_num, hown1, hbel1⟩
      case measure => simp [intOf]; omega
    · obtain rfl : j = n := by omega
      have HT : Hid (NL.take j = NL) := Lib.hid (List.take_of_length_le (by rw [HNL.out]; exact Nat.le_refl _))
      rw [HT.out] at hown
      obtain ⟨A2, c2, rfl, _, _, _⟩ := hown.row
      go_wp2
      go_ret
      exact ⟨_, rfl, hown, hbel⟩

/-- The document's New. -/
theorem refNew_no (r : Int) (w : World) (hr : r < 0 ∨ 16777216 < r) :
    Calls Try.prog 11 #[.int .i64 r] w fun e w' => e = .returned (.tuple #[.pointer none, .int .i64 3]) ∧ w = w' := by
  rcases hr with hr | hr
  · go_enter Try.func11, Try.ntmps11
    go_wp2
    go_ret2
    exact ⟨rfl, rfl⟩
  · have hr2 : ¬ r < 0 := by omega
    have hr3 : r > 16777216 := hr
    go_enter Try.func11, Try.ntmps11
    go_wp2
    go_ret2
    exact ⟨rfl, rfl⟩
theorem refNew_yes (r : Nat) (w : World) (hr : r ≤ 16777216) :
    Calls Try.prog 11 #[.int .i64 r] w fun e w' => e = .returned (.tuple #[.pointer (some ⟨w.heap.size, 0, none⟩), .int .i64 0]) ∧ RDx w' w.heap.size (.slice none 0 0) [] (newD r) ∧ Below w.heap.size w w' := by
  have hr2 : ¬ (r : Int) < 0 := by omega
  have hr3 : ¬ (r : Int) > 16777216 := by omega
  have HX := Lib.hid (heap_alloc_new w (.cells #[.int .i64 (r : Int), .int .i64 (-1), .bool false, .slice none 0 0] 65))
  go_enter Try.func11, Try.ntmps11
  go_wp2
  go_ret2
  refine ⟨rfl, ⟨HX.out, FmOwn.nil _ _, rfl, fun i h1 _ => absurd h1 (Nat.not_lt_zero _), fun e => (nomatch e), fun m hm => (nomatch hm)⟩, bel_alloc _ _⟩
end Go.Proofs.Ytfclgjdlkcmnfaa
namespace Go.Proofs.Ytfclgjdlkcmnfaa
open Go.RowKit
set_option linter.unusedVariables false
set_option maxRecDepth 100000

/-- The device with its first files woken. -/
def midD (d : Dv) (keep : Int) (j : Nat) : Dv := { d with fs := (d.fs.take j).map (wakeF keep) ++ d.fs.drop j }
theorem midD_zero (d : Dv) (keep : Int) : midD d keep 0 = d := by unfold midD; simp
theorem midD_all (d : Dv) (keep : Int) : midD d keep d.fs.length = { d with fs := d.fs.map (wakeF keep) } := by unfold midD; simp
theorem midD_len (d : Dv) (keep : Int) (j : Nat) (hj : j ≤ d.fs.length) : (midD d keep j).fs.length = d.fs.length := by unfold midD; simp; omega
theorem midD_get (d : Dv) (keep : Int) (j : Nat) (hj : j < d.fs.length) (h2 : j < (midD d keep j).fs.length) : (midD d keep j).fs[j] = d.fs[j] := by
  have hl : ((d.fs.take j).map (wakeF keep)).length = j := by simp; omega
  have e : (midD d keep j).fs = (d.fs.take j).map (wakeF keep) ++ d.fs.drop j := rfl
  simp only [e]
  rw [List.getElem_append_right (by omega)]
  simp only [hl, Nat.sub_self, List.getElem_drop, Nat.add_zero]
theorem midD_succ (d : Dv) (keep : Int) (j : Nat) (hj : j < d.fs.length) : midD d keep (j + 1) = { midD d keep j with fs := (midD d keep j).fs.set j (wakeF keep d.fs[j]) } := by
  have hl : ((d.fs.take j).map (wakeF keep)).length = j := by simp; omega
  unfold midD
  simp only
  rw [List.set_append_right _ _ (by omega), hl, Nat.sub_self, List.drop_eq_getElem_cons hj, List.set_cons_zero, List.take_succ_eq_append_getElem hj, List.map_append, List.append_assoc]
  rfl
/-- What Wake keeps of a file. -/
theorem wakeF_eq (keep : Int) (f : Fl) (q k : Nat) (hq : q = f.sy + k) (hk : (k : Int) ≤ max keep 0) (hn : q ≤ f.bs.length) (he : ¬ (k : Int) < keep ∨ ¬ q < f.bs.length) : wakeF keep f = { f with bs := f.bs.take q, sy := q } := by
  have : f.sy + min keep.toNat (f.bs.length - f.sy) = q := by omega
  unfold wakeF
  rw [this]

set_option maxHeartbeats 4000000 in
theorem refWake_dv (g : Nat) (fv : Value) (ms : List Fm) (d : Dv) (keep : Int) (w : World) (h : RDx w g fv ms d) (ok : Dv.Ok d) :
    Calls Try.prog 47 #[.pointer (some ⟨g, 0, none⟩), .int .i64 keep] w (RStep g fv ms (wakeD d keep) (.tuple #[]) w) := by
  obtain ⟨A0, cap, rfl, hle, hcm⟩ := h.slice
  obtain ⟨N, hN⟩ : ∃ n, d.fs.length = n := ⟨_, rfl⟩
  have HNN := Lib.hid hN
  have hln : N ≤ 64 := by have := ok.ln; omega
  have HUS : Hid (∀ f ∈ d.fs, f.bs.length ≤ 16777216) := Lib.hid (fun f hf => by have := used_mem hf; have := ok.us; have := ok.rm; omega)
  have HSY : Hid (∀ f ∈ d.fs, f.sy ≤ f.bs.length) := Lib.hid (fun f hf => (ok.fl f hf).sy)
  have hgw := block_lt h.box
  have c3 := h.c4.2.2.2.1
  have H := Lib.hid h
  rw [hN] at c3 hle
  clear h ok hN
  go_enter Try.func47, Try.ntmps47
  go_wp2_with fail
  go_loopw [4] (fun i wr => ∃ j : Nat, j ≤ N ∧ i = .int .i64 j ∧ Hid (∃ ms', RDx wr g (.slice A0 d.fs.length cap) ms' (midD d keep j) ∧ Frm (fun b => b = g ∨ (Value.slice A0 d.fs.length cap).ownBlock = some b) w wr ∧ ∀ b, RG g (.slice A0 d.fs.length cap) ms' b → RG g (.slice A0 d.fs.length cap) ms b ∨ w.heap.size ≤ b)) (fun i _ => N - (intOf i).toNat)
  case atStart => exact ⟨0, by omega, rfl, Lib.hid ⟨ms, by rw [midD_zero]; exact H.out, Frm.refl _ _, fun b hb => .inl hb⟩⟩
  case round =>
    obtain ⟨j, hj, rfl, hrel⟩ := hrel
    obtain ⟨ms', hx, hf, hrg⟩ := hrel.out
    have HF := Lib.hid hf
    have HRG := Lib.hid hrg
    have HX := Lib.hid hx
    have d3 := hx.c4.2.2.2.1
    rw [HNN.out] at d3
    have hgr := block_lt hx.box
    clear hf hrg hrel
    by_cases hlt : j < N
    · have hjd : j < d.fs.length := by rw [HNN.out]; exact hlt
      have hk2 : j < (midD d keep j).fs.length := by rw [midD_len d keep j (by omega)]; exact hjd
      have hkm : j < ms'.length := by rw [hx.len]; exact hk2
      have hIs := hx.is j hkm hk2
      rw [midD_get d keep j hjd hk2] at hIs
      obtain ⟨b, cap', e, _, hbW, _, _, g0, g1, g2, gf⟩ := hx.own.elem hkm
      injection e with eA en ec
      subst eA ec
      clear en g0
      have hbg : b ≠ g := fun e => HX.out.sepF (by rw [e]; rfl)
      have hus := HUS.out _ (List.getElem_mem hjd)
      have hsy := HSY.out _ (List.getElem_mem hjd)
      have HSU := Lib.hid (midD_succ d keep j hjd)
      obtain ⟨f, hfj⟩ : ∃ f, d.fs[j] = f := ⟨_, rfl⟩
      rw [hfj] at hIs hus hsy HSU
      obtain ⟨mk, hmk⟩ : ∃ m, ms'[j] = m := ⟨_, rfl⟩
      have HMK := Lib.hid hmk
      rw [hmk] at g1 g2 hIs
      obtain ⟨mnm, mA, mn, mc, msy⟩ := mk
      have e1 := hIs.sy
      have e2 := hIs.n
      have e3 := hIs.le
      simp only at g1 g2 e1 e2 e3
      subst e1
      rw [e2] at hus hsy
      have HIs := Lib.hid hIs
      have HMN := Lib.hid e2
      obtain ⟨S, hS⟩ : ∃ S, f.sy = S := ⟨_, rfl⟩
      have HS := Lib.hid hS
      rw [hS] at g2 hsy
      clear hmk hfj hIs e2 hS hx H c3
      go_wp2_with fail
      go_loop [5, 6] (fun u i => ∃ q k : Nat, u = .int .i64 q ∧ i = .int .i64 k ∧ q ≤ mn ∧ Hid (q = S + k ∧ (k : Int) ≤ max keep 0)) (fun _ i => mn - (intOf i).toNat)
      case atStart => exact ⟨S, 0, rfl, rfl, hsy, Lib.hid ⟨rfl, by omega⟩⟩
      case round =>
        obtain ⟨q, k, rfl, rfl, hqn, hq⟩ := hrel
        have hkn : k ≤ mn := by have := hq.out.1; omega
        by_cases hc : (k : Int) < keep ∧ q < mn
        · obtain ⟨hc1, hc2⟩ := hc
          go_wp2
          go_round
          case rel => exact ⟨q + 1, k + 1, by go_num, by go_num, by omega, Lib.hid ⟨by have := hq.out.1; omega, by omega⟩⟩
          case measure => simp [intOf]; have := hq.out.1; omega
        · have HW : Hid (wakeF keep f = { f with bs := f.bs.take q, sy := q }) := Lib.hid (wakeF_eq keep f q k (by rw [HS.out]; exact hq.out.1) hq.out.2 (by rw [HMN.out]; exact hqn) (by rw [HMN.out]; omega))
          have i1 : (0 : Int) ≤ (q : Int) := by omega
          have i2 : (q : Int) ≤ (mc : Int) := by omega
          have i3 : (0 : Int) ≤ (j : Int) := by omega
          have HROW : Hid (Row .u8 wr.drew wr.drew.heap.size mA (f.bs.take q)) := Lib.hid (HIs.out.row.front q)
          have HLQ : Hid ((f.bs.take q).length = q) := Lib.hid (by rw [List.length_take, HMN.out]; omega)
          have HWF : Hid (∀ x ∈ f.bs.take q, (Lit.int .u8 x).wf = true) := Lib.hid (fun x hx => HIs.out.row.1 x (List.mem_of_mem_take hx))
          generalize hB : f.bs.take q = bq at *
          have HBQ := Lib.hid hB
          clear hB
          have hcc : ¬ (k : Int) < keep ∨ ((k : Int) < keep ∧ ¬ q < mn) := by omega
          clear hc
          rcases hcc with hc1 | ⟨hc1, hc2⟩
          · go_wp2_with fail
            go_region_with (go_at_call 54; refine (copy_u8 mA q mc bq _ HROW.out HLQ.out (by omega)).mono ?_; rintro e w5 ⟨v5, rfl, own5, b5d⟩; have b5 : Below wr.heap.size wr w5 := ⟨b5d.os, b5d.tape, b5d.output, b5d.size, b5d.block⟩; obtain ⟨A5, q5, rfl, row5, hq51, hq52⟩ := own5.row HWF.out; rw [HLQ.out] at hq51 ⊢; have d35 := (b5.cell (p := ⟨g, 3, none⟩) hgr).trans d3; have g15 := (b5.cell (p := ⟨b, j * 3 + 1, none⟩) hbW).trans g1; have gf5 := fun j => (b5.frozen (p := ⟨b, j, none⟩) hbW).trans (gf j))
            all_goals
              have H5 := HX.out.below b5
              have hb5 : ∀ a, A5 = some a → 0 < q → wr.heap.size ≤ a.block := fun a ha hq => (own5.lt_block ha (by rw [HLQ.out]; exact hq))
              have HI5 : FmIs w5 ⟨mnm, A5, q, q5, (f.sy : Int)⟩ { f with bs := bq } := ⟨HIs.out.nm, HIs.out.sy, HLQ.out, hq51, hq52, row5⟩
              have HS5 := H5.setFile j hkm hk2 ⟨mnm, A5, q, q5, (f.sy : Int)⟩ 1 (.slice A5 q q5) (by omega) (by rw [HMK.out]; rfl) { f with bs := bq } HI5 (fun a ha hq => by have := hb5 a ha hq; exact ⟨by omega, by omega⟩)
              have f5 := (Frm.of_below (F := fun i => i = b) b5).trans (Frm.set (F := fun i => i = b) w5 b (j * 3 + 1) (.slice A5 q q5) rfl) (fun i hi => .inl hi)
              have hz6 := f5.size
              clear H5 HI5 b5 b5d own5 row5 d35 g15 gf5
              generalize w5.setCell ⟨b, j * 3 + 1, none⟩ (.slice A5 q q5) = w6 at *
              obtain ⟨d6, hd6⟩ : ∃ x : Dv, x = { midD d keep j with fs := (midD d keep j).fs.set j { f with bs := bq } } := ⟨_, rfl⟩
              rw [← hd6] at HS5
              have hk6 : j < d6.fs.length := by rw [hd6]; simp only [List.length_set]; exact hk2
              have hkm6 : j < (ms'.set j ⟨mnm, A5, q, q5, (f.sy : Int)⟩).length := by rw [List.length_set]; exact hkm
              have j3 := HS5.c4.2.2.2.1
              obtain ⟨b', cap', e, _, _, _, _, j0, j1, j2, jf⟩ := HS5.own.elem hkm6
              injection e with eA en ec
              injection eA with eA
              injection eA with eA
              subst eA ec
              simp only [List.getElem_set_self] at j0 j1 j2
              rw [HNN.out] at j3
              have HD6 := Lib.hid hd6
              clear hd6 en
              have HF6 := Lib.hid (HS5.setFile j hkm6 hk6 ⟨mnm, A5, q, q5, (q : Int)⟩ 2 (.int .i64 (q : Int)) (by omega) (by simp only [List.getElem_set_self]; rfl) { f with bs := bq, sy := q } (by
                have := HS5.is j hkm6 hk6
                have e6 : d6.fs[j] = { f with bs := bq } := by simp only [HD6.out, List.getElem_set_self]
                rw [e6] at this
                simp only [List.getElem_set_self] at this
                exact ⟨this.nm, rfl, this.n, this.le, this.cap, this.row⟩) (fun a ha hq => by have := hb5 a ha hq; exact ⟨by omega, by omega⟩))
              clear HS5
              go_wp2
              go_roundw
              case rel =>
                have e7 : ({ d6 with fs := d6.fs.set j { f with bs := bq, sy := q } } : Dv) = midD d keep (j + 1) := by
                  rw [HSU.out, HW.out, HD6.out]; simp only [List.set_set]
                have HF7 := HF6.out
                rw [e7, List.set_set] at HF7
                exact ⟨j + 1, by omega, by go_num, Lib.hid ⟨_, HF7, HF.out.trans (f5.trans (Frm.set (F := fun i => i = b) w6 b (j * 3 + 2) (.int .i64 (q : Int)) rfl) (fun i hi => .inl hi)) (fun i hi => .inl (.inr (by rw [hi]; rfl))), fun i hi => (RG_set (m' := ⟨mnm, A5, q, q5, (q : Int)⟩) (W := w.heap.size) hi (fun a ha hq => .inr (by have := hb5 a ha hq; have := HF.out.size; omega))).elim (fun e => HRG.out i e) .inr⟩⟩
              case measure => simp [intOf]; omega
          · go_wp2_with fail
            go_region_with (go_at_call 54; refine (copy_u8 mA q mc bq _ HROW.out HLQ.out (by omega)).mono ?_; rintro e w5 ⟨v5, rfl, own5, b5d⟩; have b5 : Below wr.heap.size wr w5 := ⟨b5d.os, b5d.tape, b5d.output, b5d.size, b5d.block⟩; obtain ⟨A5, q5, rfl, row5, hq51, hq52⟩ := own5.row HWF.out; rw [HLQ.out] at hq51 ⊢; have d35 := (b5.cell (p := ⟨g, 3, none⟩) hgr).trans d3; have g15 := (b5.cell (p := ⟨b, j * 3 + 1, none⟩) hbW).trans g1; have gf5 := fun j => (b5.frozen (p := ⟨b, j, none⟩) hbW).trans (gf j))
            all_goals
              have H5 := HX.out.below b5
              have hb5 : ∀ a, A5 = some a → 0 < q → wr.heap.size ≤ a.block := fun a ha hq => (own5.lt_block ha (by rw [HLQ.out]; exact hq))
              have HI5 : FmIs w5 ⟨mnm, A5, q, q5, (f.sy : Int)⟩ { f with bs := bq } := ⟨HIs.out.nm, HIs.out.sy, HLQ.out, hq51, hq52, row5⟩
              have HS5 := H5.setFile j hkm hk2 ⟨mnm, A5, q, q5, (f.sy : Int)⟩ 1 (.slice A5 q q5) (by omega) (by rw [HMK.out]; rfl) { f with bs := bq } HI5 (fun a ha hq => by have := hb5 a ha hq; exact ⟨by omega, by omega⟩)
              have f5 := (Frm.of_below (F := fun i => i = b) b5).trans (Frm.set (F := fun i => i = b) w5 b (j * 3 + 1) (.slice A5 q q5) rfl) (fun i hi => .inl hi)
              have hz6 := f5.size
              clear H5 HI5 b5 b5d own5 row5 d35 g15 gf5
              generalize w5.setCell ⟨b, j * 3 + 1, none⟩ (.slice A5 q q5) = w6 at *
              obtain ⟨d6, hd6⟩ : ∃ x : Dv, x = { midD d keep j with fs := (midD d keep j).fs.set j { f with bs := bq } } := ⟨_, rfl⟩
              rw [← hd6] at HS5
              have hk6 : j < d6.fs.length := by rw [hd6]; simp only [List.length_set]; exact hk2
              have hkm6 : j < (ms'.set j ⟨mnm, A5, q, q5, (f.sy : Int)⟩).length := by rw [List.length_set]; exact hkm
              have j3 := HS5.c4.2.2.2.1
              obtain ⟨b', cap', e, _, _, _, _, j0, j1, j2, jf⟩ := HS5.own.elem hkm6
              injection e with eA en ec
              injection eA with eA
              injection eA with eA
              subst eA ec
              simp only [List.getElem_set_self] at j0 j1 j2
              rw [HNN.out] at j3
              have HD6 := Lib.hid hd6
              clear hd6 en
              have HF6 := Lib.hid (HS5.setFile j hkm6 hk6 ⟨mnm, A5, q, q5, (q : Int)⟩ 2 (.int .i64 (q : Int)) (by omega) (by simp only [List.getElem_set_self]; rfl) { f with bs := bq, sy := q } (by
                have := HS5.is j hkm6 hk6
                have e6 : d6.fs[j] = { f with bs := bq } := by simp only [HD6.out, List.getElem_set_self]
                rw [e6] at this
                simp only [List.getElem_set_self] at this
                exact ⟨this.nm, rfl, this.n, this.le, this.cap, this.row⟩) (fun a ha hq => by have := hb5 a ha hq; exact ⟨by omega, by omega⟩))
              clear HS5
              go_wp2
              go_roundw
              case rel =>
                have e7 : ({ d6 with fs := d6.fs.set j { f with bs := bq, sy := q } } : Dv) = midD d keep (j + 1) := by
                  rw [HSU.out, HW.out, HD6.out]; simp only [List.set_set]
                have HF7 := HF6.out
                rw [e7, List.set_set] at HF7
                exact ⟨j + 1, by omega, by go_num, Lib.hid ⟨_, HF7, HF.out.trans (f5.trans (Frm.set (F := fun i => i = b) w6 b (j * 3 + 2) (.int .i64 (q : Int)) rfl) (fun i hi => .inl hi)) (fun i hi => .inl (.inr (by rw [hi]; rfl))), fun i hi => (RG_set (m' := ⟨mnm, A5, q, q5, (q : Int)⟩) (W := w.heap.size) hi (fun a ha hq => .inr (by have := hb5 a ha hq; have := HF.out.size; omega))).elim (fun e => HRG.out i e) .inr⟩⟩
              case measure => simp [intOf]; omega
    · obtain rfl : j = N := by omega
      have cf := hx.c4.2.2.2.2
      have f1 := Frm.set (F := fun b => b = g) wr g 1 (.int .i64 (-1)) rfl
      have H1 := hx.field (d' := { midD d keep j with left := -1 }) f1 (dv_box_set hx.box 1 _) rfl
      have f2 := Frm.set (F := fun b => b = g) (wr.setCell ⟨g, 1, none⟩ (.int .i64 (-1))) g 2 (.bool false) rfl
      have H2 := Lib.hid (H1.field (d' := { midD d keep j with left := -1, off := false }) f2 (dv_box_set H1.box 2 _) rfl)
      have F2 := Lib.hid ((HF.out.trans (f1.trans f2 (fun i hi => .inl hi)) (fun i hi => .inl (.inl hi))))
      obtain ⟨k0, k1, k2, k3, cf2⟩ := H1.c4
      obtain ⟨l0, l1, l2, l3, _⟩ := hx.c4
      clear l3 k3
      have HE : Hid (({ midD d keep j with left := -1, off := false } : Dv) = wakeD d keep) := Lib.hid (by rw [← HNN.out, midD_all]; rfl)
      rw [HE.out] at H2
      clear hx H1 f1 f2 H c3
      go_wp2
      go_end0
      exact ⟨rfl, _, _, H2.out, F2.out, HRG.out⟩
end Go.Proofs.Ytfclgjdlkcmnfaa
namespace Go.Proofs.Ytfclgjdlkcmnfaa
open Go.RowKit
set_option linter.unusedVariables false
/-- A list with each byte written over, up to a place. -/
def spoil8 (k : Nat) (l : List Int) : List Int := (l.take k).map (bits .xor .u8 · 90) ++ l.drop k
theorem spoil8_length (k : Nat) (l : List Int) : (spoil8 k l).length = l.length := by simp [spoil8]; omega
theorem xor90_wf (x : Int) (h : (Lit.int .u8 x).wf = true) : (Lit.int .u8 (bits .xor .u8 x 90)).wf = true := by
  have hx := wf_u8 h
  obtain ⟨n, rfl⟩ := Int.eq_ofNat_of_zero_le hx.1
  have hn : n < 256 := by omega
  have := u8_xor_nat n 90 hn (by omega)
  show (Lit.int .u8 (bits .xor .u8 (n : Int) ((90 : Nat) : Int))).wf = true
  rw [this]
  have hlt : n ^^^ 90 < 256 := Nat.xor_lt_two_pow (n := 8) hn (by omega)
  simp [Lit.wf, IntKind.min, IntKind.max, IntKind.signed, IntKind.bits]; omega
theorem spoil8_wf (k : Nat) (l : List Int) (h : ∀ x ∈ l, (Lit.int .u8 x).wf = true) : ∀ x ∈ spoil8 k l, (Lit.int .u8 x).wf = true := by
  intro x hx
  rcases List.mem_append.1 hx with hx | hx
  · obtain ⟨y, hy, rfl⟩ := List.mem_map.1 hx
    exact xor90_wf y (h y (List.mem_of_mem_take hy))
  · exact h x (List.mem_of_mem_drop hx)
theorem spoil8_at (k : Nat) (l : List Int) (hk : k < l.length) : nth (spoil8 k l) k = nth l k := by
  have hl : ((l.take k).map (bits .xor .u8 · 90)).length = k := by simp; omega
  have := nth_right ((l.take k).map (bits .xor .u8 · 90)) (l.drop k) 0
  rw [hl, Nat.add_zero] at this
  rw [spoil8, this, nth, nth, List.getD_eq_getElem?_getD, List.getD_eq_getElem?_getD, List.getElem?_drop, Nat.add_zero]
theorem spoil8_set (k : Nat) (l : List Int) (hk : k < l.length) : (spoil8 k l).set k (bits .xor .u8 (nth l k) 90) = spoil8 (k + 1) l := by
  have hl : ((l.take k).map (bits .xor .u8 · 90)).length = k := by simp; omega
  have hd := List.drop_eq_getElem_cons hk
  rw [spoil8, List.set_append_right _ _ (by omega), hl, Nat.sub_self, spoil8, take_step l k hk]
  simp
  rw [hd]
  rfl
theorem spoil8_zero (l : List Int) : spoil8 0 l = l := by simp [spoil8]

set_option maxHeartbeats 400000 in
theorem spoil_u8 (g n c : Nat) (l r : List Int) (w : World) (hg : w.heap[g]? = some (.cells (blk .u8 (l ++ r)) 5 (0, 0))) (hl : l.length = c) (hn : n ≤ c) (hc : c ≤ 140737488355328) :
    Calls Try.prog 39 #[.slice (some ⟨g, 0, none⟩) n c] w fun e w' => e = .returned (.tuple #[]) ∧ w'.heap[g]? = some (.cells (blk .u8 (spoil8 c l ++ r)) 5 (0, 0)) ∧ w.grownBy w' (some g) ∧ w'.heap.size = w.heap.size := by
  have hl' := Lib.hid hl
  clear hl
  go_enter Try.func39, Try.ntmps39
  go_wp2
  go_loopw [3] (fun i wr => ∃ k : Nat, k ≤ c ∧ i = .int .i64 k ∧ Hid (wr.heap[g]? = some (.cells (blk .u8 (spoil8 k l ++ r)) 5 (0, 0))) ∧ w.grownBy wr (some g) ∧ Hid (wr.heap.size = w.heap.size)) (fun i _ => c - (intOf i).toNat)
  case atStart => exact ⟨0, by omega, rfl, Lib.hid (by rw [spoil8_zero]; exact hg), World.grownBy.refl _ _, Lib.hid rfl⟩
  case round =>
    obtain ⟨k, hk, rfl, hb, hgr, hsz⟩ := hrel
    by_cases hlt : k < c
    · have hc1 : wr.cell? ⟨g, k, none⟩ = some (.int .u8 (nth l k)) := by
        rw [cell_of_row wr g k _ _ _ hb.out, blk_get _ _ _ (by rw [List.length_append, spoil8_length, hl'.out]; omega), nth_left _ _ _ (by rw [spoil8_length, hl'.out]; exact hlt), spoil8_at k l (by have := hl'.out; omega)]
      have hfz := block_frozen wr g k _ _ hb.out
      have hnew := Lib.hid (block_setCell wr g k .u8 5 _ (bits .xor .u8 (nth l k) 90) hb.out)
      rw [List.set_append_left _ _ (by rw [spoil8_length, hl'.out]; exact hlt), spoil8_set k l (by have := hl'.out; omega)] at hnew
      have hgr2 := grown_setCell hgr k (.int .u8 (bits .xor .u8 (nth l k) 90))
      have hsz2 : Hid ((wr.setCell ⟨g, k, none⟩ (.int .u8 (bits .xor .u8 (nth l k) 90))).heap.size = w.heap.size) := by
        show _ = _
        rw [← hsz.out]; simp [World.setCell]
      go_wp2
      go_roundw
      case rel => exact ⟨k + 1, by omega, by go_num, hnew, hgr2, hsz2⟩
      case measure => simp [intOf]; omega
    · obtain rfl : k = c := by omega
      go_wp2
      go_end0
      exact ⟨rfl, hb.out, hgr, hsz.out⟩
theorem spoil_nil (w : World) :
    Calls Try.prog 39 #[.slice none 0 0] w fun e w' => e = .returned (.tuple #[]) ∧ w = w' := by
  go_enter Try.func39, Try.ntmps39
  go_wp2
  go_loop [3] (fun i => i = .int .i64 0) (fun _ => 0)
  case atStart => rfl
  case round =>
    subst hrel
    go_wp2
    go_end0
    exact ⟨rfl, rfl⟩

end Go.Proofs.Ytfclgjdlkcmnfaa
namespace Go.Proofs.Ytfclgjdlkcmnfaa
open Go.RowKit
set_option linter.unusedVariables false

/-- The slice v is nil and xs empty, or v begins a block of the call's own, whose cells are the integers xs, and others behind them. -/
def KOwn (k : IntKind) (e : TypeId) (w : World) (base : Nat) (v : Value) (xs : List Int) : Prop :=
  (v = .slice none 0 0 ∧ xs = []) ∨
  ∃ (g n cap : Nat) (r : List Int), v = .slice (some ⟨g, 0, none⟩) n cap ∧ base ≤ g ∧ xs.length = n ∧ w.heap[g]? = some (.cells (blk k (xs ++ r)) e (0, 0)) ∧ n ≤ cap ∧ cap ≤ maxLen ∧ xs.length + r.length = cap ∧ (∀ x ∈ r, (Lit.int k x).wf = true)
theorem KOwn.nil (k : IntKind) (e : TypeId) (w : World) (base : Nat) : KOwn k e w base (.slice none 0 0) [] := .inl ⟨rfl, rfl⟩
theorem KOwn.below {k : IntKind} {e : TypeId} {w w' : World} {base B : Nat} {v : Value} {xs : List Int} (h : KOwn k e w base v xs) (hb : Below B w w') (hB : w.heap.size ≤ B) : KOwn k e w' base v xs := by
  rcases h with h | ⟨g, n, cap, r, h1, h2, h3, h4, h5⟩
  · exact .inl h
  · exact .inr ⟨g, n, cap, r, h1, h2, h3, (hb.block g (by have := block_lt h4; omega)).trans h4, h5⟩
theorem KOwn.drewN {k : IntKind} {e : TypeId} {w : World} {base : Nat} {v : Value} {xs : List Int} (h : KOwn k e w base v xs) (n : Nat) : KOwn k e (w.drewN n) base v xs := h
theorem KOwn.mono {k : IntKind} {e : TypeId} {w : World} {base base' : Nat} {v : Value} {xs : List Int} (h : KOwn k e w base v xs) (hb : base' ≤ base) : KOwn k e w base' v xs := by
  rcases h with h | ⟨g, n, cap, r, h1, h2, h3⟩
  · exact .inl h
  · exact .inr ⟨g, n, cap, r, h1, by omega, h3⟩
theorem KOwn.block {k : IntKind} {e : TypeId} {w : World} {base : Nat} {v : Value} {xs : List Int} (h : KOwn k e w base v xs) : ∀ g, v.ownBlock = some g → base ≤ g ∧ g < w.heap.size := by
  intro g hg
  rcases h with ⟨rfl, _⟩ | ⟨g', n, cap, r, rfl, h2, h3, h4, h5⟩
  · cases hg
  · injection hg with hg
    subst hg
    exact ⟨h2, block_lt h4⟩
theorem KOwn.own {k : IntKind} {e : TypeId} {w : World} {base : Nat} {v : Value} {xs : List Int} (h : KOwn k e w base v xs) : Own k e w base v xs := by
  rcases h with ⟨rfl, rfl⟩ | ⟨g, n, cap, r, rfl, h2, h3, h4, h5, h6, h7, _⟩
  · exact Own.nil _ _ _ _
  · subst h3
    refine ⟨by simp, .inr ⟨g, cap, _, rfl, h2, h4, h5, h6, by rw [blk_size, List.length_append]; omega, ?_⟩⟩
    rw [Nat.mul_one]
    simp only [blk, List.map_append]
    rw [List.take_left' (by simp)]
theorem KOwn.row {k : IntKind} {e : TypeId} {w : World} {base : Nat} {v : Value} {xs : List Int} (h : KOwn k e w base v xs) (hw : ∀ x ∈ xs, (Lit.int k x).wf = true) :
    ∃ A c, v = .slice A xs.length c ∧ Row k w w.heap.size A xs ∧ xs.length ≤ c ∧ c ≤ maxLen := h.own.row hw
theorem KOwn.kept {k : IntKind} {e : TypeId} {w w' : World} {base : Nat} {v : Value} {xs : List Int} {row : Option Nat} (h : KOwn k e w base v xs) (hg : w.grownBy w' row) (hne : v.ownBlock = none ∨ v.ownBlock ≠ row) : KOwn k e w' base v xs := by
  rcases h with h | ⟨g, n, cap, r, rfl, h2, h3, h4, h5⟩
  · exact .inl h
  · refine .inr ⟨g, n, cap, r, rfl, h2, h3, (hg.block g (block_lt h4) ?_).trans h4, h5⟩
    rcases hne with h | h
    · cases h
    · exact h

section
variable {P : Program}
theorem zero_one (k : IntKind) (m : Nat) : Builtin.zeroCells (Value.int k 0).cells m = blk k (List.replicate m 0) := by
  have h := toList_madeCells_one (Value.int k 0) m
  apply Array.toList_inj.1
  show (madeCells (Value.int k 0).cells (m * 1)).toList = _
  rw [Nat.mul_one, show (Value.int k 0).cells = #[Value.int k 0] from rfl, h]
  simp [blk]
theorem run_append_full (w : World) (t : TypeId) (k : IntKind) (e : TypeId) (bytes : Nat) (ht : P.underlying t = some (.slice e)) (hi : (P.info? e).map (fun i => (i.zero, i.size, i.bytes)) = some (some (.int k 0), 1, bytes))
    (g n : Nat) (xs : List Int) (hg : w.heap[g]? = some (.cells (blk k xs) e (0, 0))) (hn : xs.length = n) (B : Nat) (A : Option Addr) (m c : Nat) (ys : List Int) (hr : Row k w B A ys) (hm : ys.length = m) (h1 : 1 ≤ m)
    (hb : (n + m) * bytes ≤ 140737488355328) (h63 : n + m ≤ maxLen) :
    ∃ cap, (∀ ty, (Builtin.append_ #[t, t] ty #[.slice (some ⟨g, 0, none⟩) n n, .slice A m c]).run P w = .ok (.slice (some ⟨w.heap.size, 0, none⟩) (n + m) cap) (w.drew.alloc (.cells (blk k (xs ++ ys ++ List.replicate (cap - (n + m)) 0)) e))) ∧ n + m ≤ cap ∧ cap ≤ maxLen := by
  obtain ⟨i, hi1, hz, hsz, hby⟩ := info_parts hi
  have h64 := h63
  simp only [maxLen] at h64
  obtain ⟨b, o, rfl, _, hc⟩ := hr.2 (by omega)
  have holds : ∀ j u, (xs.map (Value.int k))[j]? = some u → w.cell? ((⟨g, 0, none⟩ : Addr).add j) = some u := by
    intro j u hu
    rw [Go.WideShapes.add_plain, Nat.zero_add, cell_of_row w g j _ _ _ hg]
    simpa [blk] using hu
  have hnews : ∀ j u, (ys.map (Value.int k))[j]? = some u → w.cell? ((⟨b, o, none⟩ : Addr).add j) = some u := by
    intro j u hu
    rw [List.getElem?_map] at hu
    by_cases hj : j < ys.length
    · rw [List.getElem?_eq_getElem hj] at hu
      rw [Go.WideShapes.add_plain, hc j hj, nth_eq ys j hj]
      exact hu
    · rw [List.getElem?_eq_none (by omega)] at hu
      cases hu
  have hr := fun ty => run_append_grow (P := P) w t ty e i _ ht hi1 hz ⟨g, 0, none⟩ n n (xs.map (Value.int k)) (by rw [hsz]; simp; omega) holds ⟨b, o, none⟩ m c (ys.map (Value.int k)) (by rw [hsz]; simp; omega) hnews (by omega) (by omega) (growslice_fits (by omega) (by rw [hby]; omega))
  have hge := grownCap_ge w (n + m) n e
  refine ⟨grownCap w (n + m) n e, fun ty => ?_, hge, grownCap_le_maxLen w (n + m) n e h63⟩
  rw [hr ty, zero_one]
  congr 3
  apply Array.toList_inj.1
  simp [blk]
/-- An append whose outcome is known. -/
theorem wpList_append_run {ops : Array Oper} {rest : List Oper} {o : Oper} {a : Act} {Q : Exit → Act → World → Prop} (w : World) (hgd : o.guard = none) (s x : Operand) (t : TypeId)
    (ho : o.op = .call { callee := .builtin .append, args := #[s, x], argTypes := #[t, t] }) (v u v' : Value) (w' : World) (hs : a.eval s = v) (hx : a.eval x = u)
    (hrun : ∀ ty, (Builtin.append_ #[t, t] ty #[v, u]).run P w = .ok v' w') (h : wpList P ops Q rest (a.put o.dst v') w') : wpList P ops Q (o :: rest) a w := by
  refine wpList_plain hgd fun K hK => ?_
  unfold Oper.wp
  simp [execOp, ho, resolve, invoke, builtin, hs, hx, hrun, Result.andThen]
  exact hK _ _ h
theorem step_append_run {ops : Array Oper} {o : Oper} {a : Act} {K : Act → World → Prop} {Q : Exit → Act → World → Prop} {E : Prop} (w : World) (hgd : o.guard = none) (s x : Operand) (t : TypeId)
    (ho : o.op = .call { callee := .builtin .append, args := #[s, x], argTypes := #[t, t] }) (v u v' : Value) (w' : World) (hs : a.eval s = v) (hx : a.eval x = u)
    (hrun : ∀ ty, (Builtin.append_ #[t, t] ty #[v, u]).run P w = .ok v' w') (h : K (a.put o.dst v') w') :
    if Region.wanted o (yielded ops a.tmps) = true then Oper.wp P o a w K Q else E := by
  have hw : Region.wanted o (yielded ops a.tmps) = true := by simp [Region.wanted, hgd]
  rw [if_pos hw]
  unfold Oper.wp execOp
  simp only [ho, resolve, invoke, builtin, Sem.run_bind, Sem.run_pure, Result.andThen_ok, List.map_toArray, List.map_cons, List.map_nil, hs, hx, hrun]
  exact h
end
end Go.Proofs.Ytfclgjdlkcmnfaa
namespace Go.Proofs.Ytfclgjdlkcmnfaa
open Go.RowKit
set_option linter.unusedVariables false
set_option maxRecDepth 100000

/-- The cells of texts. -/
def tblk (l : List ByteArray) : Array Value := (l.map Value.string).toArray
theorem tblk_size (l : List ByteArray) : (tblk l).size = l.length := by simp [tblk]
theorem tblk_get (l : List ByteArray) (i : Nat) (hi : i < l.length) : (tblk l)[i]? = some (.string l[i]) := by simp [tblk, hi]
theorem tblk_setCell (w : World) (g i : Nat) (t : TypeId) (l : List ByteArray) (s : ByteArray) (h : w.heap[g]? = some (.cells (tblk l) t (0, 0))) :
    (w.setCell ⟨g, i, none⟩ (.string s)).heap[g]? = some (.cells (tblk (l.set i s)) t (0, 0)) := by
  have e : (tblk l).setIfInBounds i (.string s) = tblk (l.set i s) := by simp [tblk, List.map_set]
  simp [World.setCell, Array.getElem?_modify, h, e]
/-- The slice v is nil and l empty, or v begins a block of the call's own, whose cells are the texts of l, and others behind them. -/
def TkOwn (w : World) (base : Nat) (v : Value) (l : List ByteArray) : Prop :=
  (v = .slice none 0 0 ∧ l = []) ∨
  ∃ (g n cap : Nat) (r : List ByteArray), v = .slice (some ⟨g, 0, none⟩) n cap ∧ base ≤ g ∧ l.length = n ∧ w.heap[g]? = some (.cells (tblk (l ++ r)) 9 (0, 0)) ∧ n ≤ cap ∧ cap ≤ maxLen ∧ l.length + r.length = cap ∧ ∀ s ∈ r, s.size ≤ 1000
theorem TkOwn.nil (w : World) (base : Nat) : TkOwn w base (.slice none 0 0) [] := .inl ⟨rfl, rfl⟩
theorem TkOwn.below {w w' : World} {base B : Nat} {v : Value} {l : List ByteArray} (h : TkOwn w base v l) (hb : Below B w w') (hB : w.heap.size ≤ B) : TkOwn w' base v l := by
  rcases h with h | ⟨g, n, cap, r, h1, h2, h3, h4, h5⟩
  · exact .inl h
  · exact .inr ⟨g, n, cap, r, h1, h2, h3, (hb.block g (by have := block_lt h4; omega)).trans h4, h5⟩
theorem TkOwn.frm {F : Nat → Prop} {w w' : World} {base : Nat} {v : Value} {l : List ByteArray} (h : TkOwn w base v l) (hf : Frm F w w') (hn : ∀ b, v.ownBlock = some b → ¬ F b) : TkOwn w' base v l := by
  rcases h with h | ⟨g, n, cap, r, rfl, h2, h3, h4, h5⟩
  · exact .inl h
  · exact .inr ⟨g, n, cap, r, rfl, h2, h3, (hf.block g (block_lt h4) (hn g rfl)).trans h4, h5⟩
theorem TkOwn.own {w : World} {base : Nat} {v : Value} {l : List ByteArray} (h : TkOwn w base v l) : TxOwn w base v l := by
  rcases h with ⟨rfl, rfl⟩ | ⟨g, n, cap, r, rfl, h2, h3, h4, h5, h6, h7, _⟩
  · exact TxOwn.nil _ _
  · subst h3
    have ef : ∀ l : List ByteArray, flatV txC l = l.map Value.string := fun l => by
      induction l with
      | nil => rfl
      | cons a l ih => rw [flatV_cons, ih]; rfl
    refine ⟨by rw [ef]; simp, .inr ⟨g, cap, _, rfl, h2, h4, h5, h6, by rw [tblk_size, List.length_append]; omega, ?_⟩⟩
    rw [ef, Nat.mul_one]
    simp only [tblk, List.map_append]
    rw [List.take_left' (by simp)]

theorem same_yes_tx (A A' : Option Addr) (n c c' : Nat) (l : List ByteArray) (w : World) (B B' : Nat) (hr : VRow w B A (flatV txC l)) (hr' : VRow w B' A' (flatV txC l)) (hn : l.length = n) (hb : n ≤ 4611686018427387904) :
    Calls Try.prog 30 #[.slice A n c, .slice A' n c'] w fun e w' => e = .returned (.bool true) ∧ ∃ m, w' = w.drewN m := by
  have hn' := Lib.hid hn
  clear hn
  go_enter Try.func30, Try.ntmps30
  go_wp2
  go_loopw [5] (fun i wr => ∃ k : Nat, k ≤ n ∧ i = .int .i64 k ∧ Hid (∃ m, wr = w.drewN m)) (fun i _ => n - (intOf i).toNat)
  case atStart => exact ⟨0, by omega, rfl, Lib.hid ⟨0, rfl⟩⟩
  case round =>
    obtain ⟨k, hk, rfl, hdr⟩ := hrel
    have hrw : VRow wr B A (flatV txC l) := by obtain ⟨m, e⟩ := hdr.out; rw [e]; exact hr.drewN m
    have hrw' : VRow wr B' A' (flatV txC l) := by obtain ⟨m, e⟩ := hdr.out; rw [e]; exact hr'.drewN m
    by_cases hlt : k < n
    · have hkl : k < l.length := by have := hn'.out; omega
      obtain ⟨b, o, rfl, hb1, hc0⟩ := hrw.elem txC_len (by omega) hkl
      obtain ⟨b', o', rfl, hb1', hc0'⟩ := hrw'.elem txC_len (by omega) hkl
      have hc1 : wr.cell? ⟨b, o + k, none⟩ = some (.string l[k]) := by have := hc0 0 _ rfl; simpa using this
      have hc1' : wr.cell? ⟨b', o' + k, none⟩ = some (.string l[k]) := by have := hc0' 0 _ rfl; simpa using this
      clear hrw hrw' hc0 hc0'
      generalize l[k] = t at *
      have hlt' : (k : Int) < (n : Int) := by omega
      go_wp2
      go_quiet (fail)
      go_wp2
      go_roundw
      case rel => exact ⟨k + 1, by omega, by go_num, Lib.hid (by obtain ⟨m, e⟩ := hdr.out; rw [e]; exact ⟨m + nq, by rw [World.drewN_drewN]⟩)⟩
      case measure => simp [intOf]; omega
    · clear hrw hrw'
      go_wp2
      go_ret
      exact ⟨rfl, hdr.out⟩

set_option maxHeartbeats 400000 in
theorem spoil_tx (g n c : Nat) (l : List ByteArray) (w : World) (hg : w.heap[g]? = some (.cells (tblk l) 9 (0, 0))) (hl : l.length = c) (hn : n ≤ c) (hc : c ≤ 9223372036854775807) (hs : ∀ s ∈ l, s.size ≤ 1000) :
    Calls Try.prog 52 #[.slice (some ⟨g, 0, none⟩) n c] w fun e w' => e = .returned (.tuple #[]) ∧ w.grownBy w' (some g) ∧ w'.heap.size = w.heap.size := by
  have hl' := Lib.hid hl
  have HS := Lib.hid hs
  clear hl hs
  go_enter Try.func52, Try.ntmps52
  go_wp2
  go_loopw [3] (fun i wr => ∃ k : Nat, k ≤ c ∧ i = .int .i64 k ∧ Hid (∃ us : List ByteArray, wr.heap[g]? = some (.cells (tblk us) 9 (0, 0)) ∧ us.length = c ∧ ∀ j (hj : j < us.length), k ≤ j → us[j].size ≤ 1000) ∧ w.grownBy wr (some g) ∧ Hid (wr.heap.size = w.heap.size)) (fun i _ => c - (intOf i).toNat)
  case atStart => exact ⟨0, by omega, rfl, Lib.hid ⟨l, hg, hl'.out, fun j hj _ => HS.out _ (List.getElem_mem hj)⟩, World.grownBy.refl _ _, Lib.hid rfl⟩
  case round =>
    obtain ⟨k, hk, rfl, hb, hgr, hsz⟩ := hrel
    by_cases hlt : k < c
    · obtain ⟨us, hus, hul, hu⟩ := hb.out
      have hku : k < us.length := by omega
      have hc1 : wr.cell? ⟨g, k, none⟩ = some (.string us[k]) := by
        rw [cell_of_row wr g k _ _ _ hus, tblk_get us k hku]
      have hfz := block_frozen wr g k _ _ hus
      have hsi := hu k hku (Nat.le_refl _)
      have HU := Lib.hid hu
      have HUL := Lib.hid hul
      have HUS := Lib.hid hus
      obtain ⟨t, ht⟩ : ∃ t, us[k] = t := ⟨_, rfl⟩
      rw [ht] at hc1 hsi
      clear hus hul hu ht hku hb
      go_wp2
      go_roundw
      case rel =>
        have hnew := tblk_setCell wr g k 9 us (t ++ ⟨#[126]⟩) HUS.out
        refine ⟨k + 1, by omega, by go_num, Lib.hid ⟨_, hnew, by rw [List.length_set]; exact HUL.out, fun j hj h1 => ?_⟩, grown_setCell hgr k _, Lib.hid (by rw [← hsz.out]; simp [World.setCell])⟩
        rw [List.getElem_set_ne (by omega)]
        exact HU.out j (by rw [List.length_set] at hj; exact hj) (by omega)
      case measure => simp [intOf]; omega
    · obtain rfl : k = c := by omega
      go_wp2
      go_end0
      exact ⟨rfl, hgr, hsz.out⟩
theorem spoil_tx_nil (w : World) :
    Calls Try.prog 52 #[.slice none 0 0] w fun e w' => e = .returned (.tuple #[]) ∧ w = w' := by
  go_enter Try.func52, Try.ntmps52
  go_wp2
  go_loop [3] (fun i => i = .int .i64 0) (fun _ => 0)
  case atStart => rfl
  case round =>
    subst hrel
    go_wp2
    go_end0
    exact ⟨rfl, rfl⟩
set_option maxHeartbeats 400000 in
theorem spoilM_u8 (g n c : Nat) (l r : List Int) (w : World) (hg : w.heap[g]? = some (.cells (blk .u8 (l ++ r)) 5 (0, 0))) (hl : l.length = c) (hn : n ≤ c) (hc : c ≤ 9223372036854775807) :
    Calls Try.prog 39 #[.slice (some ⟨g, 0, none⟩) n c] w fun e w' => e = .returned (.tuple #[]) ∧ w'.heap[g]? = some (.cells (blk .u8 (spoil8 c l ++ r)) 5 (0, 0)) ∧ w.grownBy w' (some g) ∧ w'.heap.size = w.heap.size := by
  have hl' := Lib.hid hl
  clear hl
  go_enter Try.func39, Try.ntmps39
  go_wp2
  go_loopw [3] (fun i wr => ∃ k : Nat, k ≤ c ∧ i = .int .i64 k ∧ Hid (wr.heap[g]? = some (.cells (blk .u8 (spoil8 k l ++ r)) 5 (0, 0))) ∧ w.grownBy wr (some g) ∧ Hid (wr.heap.size = w.heap.size)) (fun i _ => c - (intOf i).toNat)
  case atStart => exact ⟨0, by omega, rfl, Lib.hid (by rw [spoil8_zero]; exact hg), World.grownBy.refl _ _, Lib.hid rfl⟩
  case round =>
    obtain ⟨k, hk, rfl, hb, hgr, hsz⟩ := hrel
    by_cases hlt : k < c
    · have hc1 : wr.cell? ⟨g, k, none⟩ = some (.int .u8 (nth l k)) := by
        rw [cell_of_row wr g k _ _ _ hb.out, blk_get _ _ _ (by rw [List.length_append, spoil8_length, hl'.out]; omega), nth_left _ _ _ (by rw [spoil8_length, hl'.out]; exact hlt), spoil8_at k l (by have := hl'.out; omega)]
      have hfz := block_frozen wr g k _ _ hb.out
      have hnew := Lib.hid (block_setCell wr g k .u8 5 _ (bits .xor .u8 (nth l k) 90) hb.out)
      rw [List.set_append_left _ _ (by rw [spoil8_length, hl'.out]; exact hlt), spoil8_set k l (by have := hl'.out; omega)] at hnew
      have hgr2 := grown_setCell hgr k (.int .u8 (bits .xor .u8 (nth l k) 90))
      have hsz2 : Hid ((wr.setCell ⟨g, k, none⟩ (.int .u8 (bits .xor .u8 (nth l k) 90))).heap.size = w.heap.size) := by
        show _ = _
        rw [← hsz.out]; simp [World.setCell]
      go_wp2
      go_roundw
      case rel => exact ⟨k + 1, by omega, by go_num, hnew, hgr2, hsz2⟩
      case measure => simp [intOf]; omega
    · obtain rfl : k = c := by omega
      go_wp2
      go_end0
      exact ⟨rfl, hb.out, hgr, hsz.out⟩
theorem spoil_tk (v : Value) (base : Nat) (l : List ByteArray) (w : World) (h : TkOwn w base v l) (hl : ∀ s ∈ l, s.size ≤ 1000) :
    Calls Try.prog 52 #[v] w fun e w' => e = .returned (.tuple #[]) ∧ w.grownBy w' v.ownBlock ∧ w'.heap.size = w.heap.size := by
  rcases h with ⟨rfl, rfl⟩ | ⟨g, n, cap, r, rfl, h2, h3, h4, h5, h6, h7, h8⟩
  · exact (spoil_tx_nil w).mono fun e w' ⟨he, hw⟩ => by subst hw; exact ⟨he, World.grownBy.refl _ _, rfl⟩
  · simp only [maxLen] at h6
    exact (spoil_tx g n cap (l ++ r) w h4 (by rw [List.length_append]; exact h7) h5 h6 (fun s hs => (List.mem_append.1 hs).elim (hl s) (h8 s))).mono fun e w' ⟨he, hg, hz⟩ => ⟨he, hg, hz⟩
theorem spoil_kown8 (v : Value) (base : Nat) (xs : List Int) (w : World) (h : KOwn .u8 5 w base v xs) :
    Calls Try.prog 39 #[v] w fun e w' => e = .returned (.tuple #[]) ∧ w.grownBy w' v.ownBlock ∧ w'.heap.size = w.heap.size := by
  rcases h with ⟨rfl, rfl⟩ | ⟨g, n, cap, r, rfl, h2, h3, h4, h5, h6, h7, h8⟩
  · exact (spoil_nil w).mono fun e w' ⟨he, hw⟩ => by subst hw; exact ⟨he, World.grownBy.refl _ _, rfl⟩
  · simp only [maxLen] at h6
    exact (spoilM_u8 g n cap (xs ++ r) [] w (by rw [List.append_nil]; exact h4) (by rw [List.length_append]; exact h7) h5 h6).mono fun e w' ⟨he, _, hg, hz⟩ => ⟨he, hg, hz⟩
end Go.Proofs.Ytfclgjdlkcmnfaa
namespace Go.Proofs.Ytfclgjdlkcmnfaa
open Go.RowKit
set_option linter.unusedVariables false
set_option maxRecDepth 100000

/-- A device in memory: its blocks, its place, what it is. -/
abbrev DevP := World → (Nat → Prop) → Nat → Dv → Prop
/-- It stays where nothing of it is written, and its blocks are there. -/
structure Dev (D : DevP) : Prop where
  frm : ∀ {F G : Nat → Prop} {w w' : World} {g : Nat} {d : Dv}, D w G g d → Frm F w w' → (∀ b, G b → ¬ F b) → D w' G g d
  lt : ∀ {G : Nat → Prop} {w : World} {g : Nat} {d : Dv}, D w G g d → ∀ b, G b → b < w.heap.size
/-- What a call makes of a device. -/
def Did (D : DevP) (G : Nat → Prop) (g : Nat) (d : Dv) (w w' : World) (G' : Nat → Prop) : Prop := D w' G' g d ∧ Frm G w w' ∧ ∀ b, G' b → G b ∨ w.heap.size ≤ b
/-- A call with a device: what it answers, what it makes of it. -/
def Stp (D : DevP) (G : Nat → Prop) (g : Nat) (d : Dv) (v : Value) (w : World) (e : Ending) (w' : World) : Prop := e = .returned v ∧ ∃ G', Did D G g d w w' G'
/-- The document's device, its blocks just G. -/
def RDe : DevP := fun w G g d => ∃ fv ms, RDx w g fv ms d ∧ ∀ b, RG g fv ms b ↔ G b
theorem rde_dev : Dev RDe :=
  ⟨fun h hf hn => by obtain ⟨fv, ms, hx, hg⟩ := h; exact ⟨fv, ms, hx.frm hf (fun b hb => hn b ((hg b).1 hb)), hg⟩, fun h b hb => by
    obtain ⟨fv, ms, hx, hg⟩ := h
    exact hx.lt b ((hg b).2 hb)⟩
theorem RStep.stp {G : Nat → Prop} {g : Nat} {fv : Value} {ms : List Fm} {d : Dv} {v : Value} {w w' : World} {e : Ending} (h : RStep g fv ms d v w e w') (hg : ∀ b, RG g fv ms b ↔ G b) : Stp RDe G g d v w e w' := by
  obtain ⟨he, fv', ms', hx, hf, hr⟩ := h
  exact ⟨he, RG g fv' ms', ⟨fv', ms', hx, fun b => Iff.rfl⟩, hf.mono (fun b hb => (hg b).1 (hb.elim .inl (fun h => .inr (.inl h)))), fun b hb => (hr b hb).elim (fun h => .inl ((hg b).1 h)) .inr⟩
theorem Stp.mono {D : DevP} {G : Nat → Prop} {g : Nat} {d : Dv} {v : Value} {w0 w : World} {e : Ending} {w' : World} (h : Stp D G g d v w e w') : Stp D G g d v w e w' := h

section
variable {G : Nat → Prop} {g : Nat} {d : Dv} {w : World}
theorem refSync_s (s : ByteArray) (h : RDe w G g d) (ok : Dv.Ok d) : Calls Try.prog 40 #[.pointer (some ⟨g, 0, none⟩), .string s] w (Stp RDe G g (syncD d s).1 (.int .i64 (syncD d s).2) w) := by
  obtain ⟨fv, ms, hx, hg⟩ := h
  exact (refSync_dv g fv ms d s w hx ok).mono fun e w' h => h.stp hg
theorem refTruncate_s (s : ByteArray) (n : Int) (h : RDe w G g d) (ok : Dv.Ok d) : Calls Try.prog 42 #[.pointer (some ⟨g, 0, none⟩), .string s, .int .i64 n] w (Stp RDe G g (truncD d s n).1 (.int .i64 (truncD d s n).2) w) := by
  obtain ⟨fv, ms, hx, hg⟩ := h
  exact (refTruncate_dv g fv ms d s n w hx ok).mono fun e w' h => h.stp hg
theorem refRename_s (s u : ByteArray) (h : RDe w G g d) (ok : Dv.Ok d) : Calls Try.prog 43 #[.pointer (some ⟨g, 0, none⟩), .string s, .string u] w (Stp RDe G g (renD d s u).1 (.int .i64 (renD d s u).2) w) := by
  obtain ⟨fv, ms, hx, hg⟩ := h
  exact (refRename_dv g fv ms d s u w hx ok).mono fun e w' h => h.stp hg
theorem refRemove_s (s : ByteArray) (h : RDe w G g d) (ok : Dv.Ok d) : Calls Try.prog 45 #[.pointer (some ⟨g, 0, none⟩), .string s] w (Stp RDe G g (remD d s).1 (.int .i64 (remD d s).2) w) := by
  obtain ⟨fv, ms, hx, hg⟩ := h
  exact (refRemove_dv g fv ms d s w hx ok).mono fun e w' h => h.stp hg
theorem refWake_s (keep : Int) (h : RDe w G g d) (ok : Dv.Ok d) : Calls Try.prog 47 #[.pointer (some ⟨g, 0, none⟩), .int .i64 keep] w (Stp RDe G g (wakeD d keep) (.tuple #[]) w) := by
  obtain ⟨fv, ms, hx, hg⟩ := h
  exact (refWake_dv g fv ms d keep w hx ok).mono fun e w' h => h.stp hg
theorem refArm_s (n : Int) (h : RDe w G g d) : Calls Try.prog 46 #[.pointer (some ⟨g, 0, none⟩), .int .i64 n] w (Stp RDe G g (armD d n) (.tuple #[]) w) := by
  obtain ⟨fv, ms, hx, hg⟩ := h
  exact (refArm_dv g fv ms d n w hx).mono fun e w' h => RStep.stp (RStep.in h.1 h.2.1 h.2.2) hg
theorem refAppend_s (s : ByteArray) (A : Option Addr) (n c : Nat) (bs : List Int) (h : RDe w G g d) (ok : Dv.Ok d) (hr : Row .u8 w w.heap.size A bs) (hbn : bs.length = n) (hb : n ≤ 100000000) (hA : ∀ a, A = some a → 0 < n → ¬ G a.block) :
    Calls Try.prog 37 #[.pointer (some ⟨g, 0, none⟩), .string s, .slice A n c] w (Stp RDe G g (appD d s bs).1 (.int .i64 (appD d s bs).2) w) := by
  obtain ⟨fv, ms, hx, hg⟩ := h
  exact (refAppend_dv g fv ms d s A n c bs w hx ok hr hbn hb (fun a ha hp e => hA a ha hp ((hg _).1 e))).mono fun e w' h => h.stp hg
end

/-- Two devices, apart, both the same. -/
structure Twin (D1 D2 : DevP) (w : World) (G1 G2 : Nat → Prop) (g1 g2 : Nat) (d : Dv) : Prop where
  one : D1 w G1 g1 d
  two : D2 w G2 g2 d
  off : ∀ b, G1 b → ¬ G2 b
/-- What a call with both makes of them. -/
def Twins (D1 D2 : DevP) (G1 G2 : Nat → Prop) (g1 g2 : Nat) (d : Dv) (w w' : World) : Prop :=
  ∃ G1' G2', Twin D1 D2 w' G1' G2' g1 g2 d ∧ Frm (fun b => G1 b ∨ G2 b) w w' ∧ ∀ b, G1' b ∨ G2' b → (G1 b ∨ G2 b) ∨ w.heap.size ≤ b
theorem Twin.frm {D1 D2 : DevP} (X1 : Dev D1) (X2 : Dev D2) {w w' : World} {G1 G2 F : Nat → Prop} {g1 g2 : Nat} {d : Dv} (h : Twin D1 D2 w G1 G2 g1 g2 d) (hf : Frm F w w') (hn : ∀ b, G1 b ∨ G2 b → ¬ F b) : Twin D1 D2 w' G1 G2 g1 g2 d :=
  ⟨X1.frm h.one hf (fun b hb => hn b (.inl hb)), X2.frm h.two hf (fun b hb => hn b (.inr hb)), h.off⟩
theorem Twin.swap {D1 D2 : DevP} {w : World} {G1 G2 : Nat → Prop} {g1 g2 : Nat} {d : Dv} (h : Twin D1 D2 w G1 G2 g1 g2 d) : Twin D2 D1 w G2 G1 g2 g1 d := ⟨h.two, h.one, fun b h1 h2 => h.off b h2 h1⟩
theorem Twins.swap {D1 D2 : DevP} {w w' : World} {G1 G2 : Nat → Prop} {g1 g2 : Nat} {d : Dv} (h : Twins D1 D2 G1 G2 g1 g2 d w w') : Twins D2 D1 G2 G1 g2 g1 d w w' := by
  obtain ⟨G1', G2', h1, h2, h3⟩ := h
  exact ⟨G2', G1', h1.swap, h2.mono (fun b hb => hb.symm), fun b hb => (h3 b hb.symm).imp .symm id⟩
/-- One step with each, the one behind the other. -/
theorem Twin.steps {D1 D2 : DevP} (X1 : Dev D1) (X2 : Dev D2) {w W1 W2 W3 W4 W5 : World} {G1 G2 G1' G2' : Nat → Prop} {g1 g2 : Nat} {d d' : Dv} (h : Twin D1 D2 w G1 G2 g1 g2 d)
    (f0 : Frm (fun _ => False) w W1) (s1 : Did D1 G1 g1 d' W1 W2 G1') (f1 : Frm (fun _ => False) W2 W3) (s2 : Did D2 G2 g2 d' W3 W4 G2') (f2 : Frm (fun _ => False) W4 W5) : Twins D1 D2 G1 G2 g1 g2 d' w W5 := by
  have l1 := X1.lt h.one
  have l2 := X2.lt h.two
  obtain ⟨a1, a2, a3⟩ := s1
  obtain ⟨b1, b2, b3⟩ := s2
  have m1 := X1.lt a1
  have z0 := f0.size
  have z1 := f1.size
  have z2 := a2.size
  have off2 : ∀ b, G1' b → ¬ G2 b := fun b hb h2 => (a3 b hb).elim (fun e => h.off b e h2) (fun e => by have := l2 b h2; omega)
  refine ⟨G1', G2', ⟨?_, ?_, fun b hb h2 => ?_⟩, ?_, fun b hb => ?_⟩
  · exact X1.frm (X1.frm (X1.frm a1 f1 (fun _ _ e => e)) b2 (fun b hb => off2 b hb)) f2 (fun _ _ e => e)
  · exact X2.frm b1 f2 (fun _ _ e => e)
  · exact (b3 b h2).elim (fun e => off2 b hb e) (fun e => by have := m1 b hb; omega)
  · refine Frm.trans (F := fun b => G1 b ∨ G2 b) ((f0.mono (fun b hb => hb.elim)).trans a2 (fun i hi => .inl (.inl hi))) (((f1.mono (F := fun _ => False) (G := G2) (fun b hb => hb.elim)).trans b2 (fun i hi => .inl hi)).trans f2 (fun i hi => hi.elim)) (fun i hi => .inl (.inr hi))
  · rcases hb with hb | hb
    · exact (a3 b hb).imp .inl (fun e => by omega)
    · exact (b3 b hb).imp .inr (fun e => by omega)
end Go.Proofs.Ytfclgjdlkcmnfaa
namespace Go.Proofs.Ytfclgjdlkcmnfaa
open Go.RowKit
set_option linter.unusedVariables false

theorem zeros_wfK (k : IntKind) (m : Nat) : ∀ x ∈ List.replicate m (0 : Int), (Lit.int k x).wf = true := fun x hx => by
  rw [List.eq_of_mem_replicate hx]; cases k <;> decide
section
variable {P : Program}
theorem run_append_K (w : World) (base : Nat) (t : TypeId) (k : IntKind) (e : TypeId) (bytes : Nat) (ht : P.underlying t = some (.slice e)) (hi : (P.info? e).map (fun i => (i.zero, i.size, i.bytes)) = some (some (.int k 0), 1, bytes))
    (v : Value) (xs : List Int) (hown : KOwn k e w base v xs) (B : Nat) (A : Option Addr) (m c : Nat) (ys : List Int) (hr : Row k w B A ys) (hm : ys.length = m) (h1 : 1 ≤ m)
    (hbytes : (xs.length + m) * bytes ≤ 140737488355328) (h63 : xs.length + m ≤ maxLen) (hbase : base ≤ w.heap.size) :
    ∃ v' w', (∀ ty, (Builtin.append_ #[t, t] ty #[v, .slice A m c]).run P w = .ok v' w') ∧ KOwn k e w' base v' (xs ++ ys) ∧ w.grownBy w' v.ownBlock ∧ (v'.ownBlock = some w.heap.size ∨ (v'.ownBlock = v.ownBlock ∧ v.ownBlock ≠ none)) ∧ ∃ A' n' c', v' = .slice A' n' c' := by
  obtain ⟨i, hi1, hz, hsz, hby⟩ := info_parts hi
  have h64 := h63
  simp only [maxLen] at h64
  obtain ⟨b, o, rfl, _, hc⟩ := hr.2 (by omega)
  have hnews : ∀ j u, (ys.map (Value.int k))[j]? = some u → w.cell? ((⟨b, o, none⟩ : Addr).add j) = some u := by
    intro j u hu
    rw [List.getElem?_map] at hu
    by_cases hj : j < ys.length
    · rw [List.getElem?_eq_getElem hj] at hu
      rw [Go.WideShapes.add_plain, hc j hj, nth_eq ys j hj]
      exact hu
    · rw [List.getElem?_eq_none (by omega)] at hu
      cases hu
  have hnl : (ys.map (Value.int k)).length = m * i.size := by rw [List.length_map, hsz, hm, Nat.mul_one]
  rcases hown with ⟨rfl, rfl⟩ | ⟨g, n, cap, r, rfl, h2, h3, h4, h5, h6, h7, h8⟩
  · simp only [List.length_nil, Nat.zero_add] at hbytes h63 h64
    have hrun := fun ty => run_append_nil (P := P) w t ty e i _ ht hi1 hz ⟨b, o, none⟩ m c (ys.map (Value.int k)) hnl hnews (by omega) (by omega) (by rw [hby]; omega)
    have hge := grownCap_ge w m 0 e
    refine ⟨_, _, hrun, .inr ⟨w.heap.size, m, grownCap w m 0 e, List.replicate (grownCap w m 0 e - m) 0, rfl, hbase, by simpa using hm, ?_, hge, grownCap_le_maxLen w m 0 e h63, by simp; omega, zeros_wfK _ _⟩, ⟨rfl, rfl, rfl, by simp, fun q hq _ => heap_alloc_old w.drew _ hq⟩, .inl rfl, _, _, _, rfl⟩
    rw [zero_one, show ((ys.map (Value.int k)).toArray ++ blk k (List.replicate (grownCap w m 0 e - m) 0)) = blk k ([] ++ ys ++ List.replicate (grownCap w m 0 e - m) 0) by simp [blk]]
    exact heap_alloc_new w.drew _
  · by_cases hroom : n + m ≤ cap
    · have hsz4 : (blk k (xs ++ r)).size = cap := by rw [blk_size, List.length_append]; exact h7
      have hrun := fun ty => run_append_room (P := P) w t ty e i ht hi1 g n cap (blk k (xs ++ r)) h4 ⟨b, o, none⟩ m c (ys.map (Value.int k)) hnl hnews (ints_oneCell k ys) hroom (by rw [hsz4, hsz, Nat.mul_one, List.length_map]; omega)
      refine ⟨_, _, hrun, .inr ⟨g, n + m, cap, r.drop m, rfl, h2, by rw [List.length_append]; omega, ?_, hroom, h6, by rw [List.length_append, List.length_drop]; omega, fun x hx => h8 x (List.mem_of_mem_drop hx)⟩, ⟨rfl, rfl, rfl, by simp, fun q _ hq => setRow_other w g q _ (fun e => hq (by simp [Value.ownBlock, e]))⟩, .inr ⟨rfl, by simp [Value.ownBlock]⟩, _, _, _, rfl⟩
      have hcells : ((blk k (xs ++ r)).toList.take (n * i.size) ++ ys.map (Value.int k) ++ (blk k (xs ++ r)).toList.drop (n * i.size + (ys.map (Value.int k)).length)).toArray = blk k (xs ++ ys ++ r.drop m) := by
        rw [hsz, Nat.mul_one, List.length_map, hm]
        simp only [blk, List.map_append, ← h3]
        congr 1
        rw [List.take_left' (by simp), ← List.drop_drop, List.drop_left' (by simp), List.map_drop]
      rw [hcells]
      exact setRow_heap w g _ _ e _ h4
    · have holds : ∀ j u, (xs.map (Value.int k))[j]? = some u → w.cell? ((⟨g, 0, none⟩ : Addr).add j) = some u := by
        intro j u hu
        have hj : j < xs.length := by have := (List.getElem?_eq_some_iff.1 hu).1; simpa using this
        rw [Go.WideShapes.add_plain, Nat.zero_add, cell_of_row w g j _ _ _ h4, blk_get _ _ _ (by rw [List.length_append]; omega), nth_left _ _ _ hj]
        rw [List.getElem?_map, List.getElem?_eq_getElem hj] at hu
        rw [nth_eq _ _ hj]
        exact hu
      have hrun := fun ty => run_append_grow (P := P) w t ty e i _ ht hi1 hz ⟨g, 0, none⟩ n cap (xs.map (Value.int k)) (by rw [hsz]; simp; omega) holds ⟨b, o, none⟩ m c (ys.map (Value.int k)) hnl hnews (by omega) (by omega) (growslice_fits (by omega) (by rw [hby, ← h3]; exact hbytes))
      have hge := grownCap_ge w (n + m) cap e
      refine ⟨_, _, hrun, .inr ⟨w.heap.size, n + m, grownCap w (n + m) cap e, List.replicate (grownCap w (n + m) cap e - (n + m)) 0, rfl, hbase, by rw [List.length_append]; omega, ?_, hge, grownCap_le_maxLen w (n + m) cap e (by omega), by rw [List.length_append, List.length_replicate]; omega, zeros_wfK _ _⟩, ⟨rfl, rfl, rfl, by simp, fun q hq _ => heap_alloc_old w.drew _ hq⟩, .inl rfl, _, _, _, rfl⟩
      rw [zero_one, show ((xs.map (Value.int k)).toArray ++ (ys.map (Value.int k)).toArray ++ blk k (List.replicate (grownCap w (n + m) cap e - (n + m)) 0)) = blk k (xs ++ ys ++ List.replicate (grownCap w (n + m) cap e - (n + m)) 0) by simp [blk]]
      exact heap_alloc_new w.drew _
theorem step_append_K {ops : Array Oper} {o : Oper} {a : Act} {K : Act → World → Prop} {Q : Exit → Act → World → Prop} {E : Prop} (w : World) (hgd : o.guard = none) (s x : Operand) (t : TypeId)
    (ho : o.op = .call { callee := .builtin .append, args := #[s, x], argTypes := #[t, t] })
    (base : Nat) (k : IntKind) (e : TypeId) (bytes : Nat) (ht : P.underlying t = some (.slice e)) (hi : (P.info? e).map (fun i => (i.zero, i.size, i.bytes)) = some (some (.int k 0), 1, bytes))
    (v : Value) (xs : List Int) (hs : a.eval s = v) (hown : KOwn k e w base v xs) (B : Nat) (A : Option Addr) (m c : Nat) (ys : List Int) (hx : a.eval x = .slice A m c) (hr : Row k w B A ys) (hm : ys.length = m) (h1 : 1 ≤ m)
    (hbytes : (xs.length + m) * bytes ≤ 140737488355328) (h63 : xs.length + m ≤ maxLen) (hbase : base ≤ w.heap.size)
    (h : ∀ v' w', KOwn k e w' base v' (xs ++ ys) → w.grownBy w' v.ownBlock → (v'.ownBlock = some w.heap.size ∨ (v'.ownBlock = v.ownBlock ∧ v.ownBlock ≠ none)) → (∃ A' n' c', v' = .slice A' n' c') → K (a.put o.dst v') w') :
    if Region.wanted o (yielded ops a.tmps) = true then Oper.wp P o a w K Q else E := by
  have hw : Region.wanted o (yielded ops a.tmps) = true := by simp [Region.wanted, hgd]
  rw [if_pos hw]
  obtain ⟨v', w', hrun, g1, g2, g3, g4⟩ := run_append_K (P := P) w base t k e bytes ht hi v xs hown B A m c ys hr hm h1 hbytes h63 hbase
  unfold Oper.wp execOp
  simp only [ho, resolve, invoke, builtin, Sem.run_bind, Sem.run_pure, Result.andThen_ok, List.map_toArray, List.map_cons, List.map_nil, hs, hx, hrun]
  exact h v' w' g1 g2 g3 g4
theorem wpList_append_K {ops : Array Oper} {rest : List Oper} {o : Oper} {a : Act} {Q : Exit → Act → World → Prop} (w : World) (hgd : o.guard = none) (s x : Operand) (t : TypeId)
    (ho : o.op = .call { callee := .builtin .append, args := #[s, x], argTypes := #[t, t] })
    (base : Nat) (k : IntKind) (e : TypeId) (bytes : Nat) (ht : P.underlying t = some (.slice e)) (hi : (P.info? e).map (fun i => (i.zero, i.size, i.bytes)) = some (some (.int k 0), 1, bytes))
    (v : Value) (xs : List Int) (hs : a.eval s = v) (hown : KOwn k e w base v xs)
    (B : Nat) (A : Option Addr) (m c : Nat) (ys : List Int) (hx : a.eval x = .slice A m c) (hr : Row k w B A ys) (hm : ys.length = m) (h1 : 1 ≤ m)
    (hbytes : (xs.length + m) * bytes ≤ 140737488355328) (h63 : xs.length + m ≤ maxLen) (hbase : base ≤ w.heap.size)
    (h : ∀ v' w', KOwn k e w' base v' (xs ++ ys) → w.grownBy w' v.ownBlock → (v'.ownBlock = some w.heap.size ∨ (v'.ownBlock = v.ownBlock ∧ v.ownBlock ≠ none)) → (∃ A' n' c', v' = .slice A' n' c') → wpList P ops Q rest (a.put o.dst v') w') : wpList P ops Q (o :: rest) a w := by
  obtain ⟨v', w', hrun, g1, g2, g3, g4⟩ := run_append_K (P := P) w base t k e bytes ht hi v xs hown B A m c ys hr hm h1 hbytes h63 hbase
  exact wpList_append_run w hgd s x t ho v (.slice A m c) v' w' hs hx hrun (h v' w' g1 g2 g3 g4)
end
end Go.Proofs.Ytfclgjdlkcmnfaa
namespace Go.Proofs.Ytfclgjdlkcmnfaa
open Go.RowKit Go.Maps
set_option linter.unusedVariables false
set_option maxRecDepth 100000

/-- A file of the program's: its block, its data, what it is. -/
structure Pf where
  (g : Nat) (v : Value) (f : Fl)
structure PfIs (w : World) (m : Pf) : Prop where
  box : w.heap[m.g]? = some (.cells #[m.v, .int .i64 (m.f.sy : Int)] 69 (0, 0))
  own : KOwn .u8 5 w 0 m.v m.f.bs
def pfN (m : Pf) : ByteArray × Nat := (m.f.nm, m.g)
def PfA (m k : Pf) : Prop := m.g ≠ k.g ∧ ∀ b, m.v.ownBlock = some b → k.v.ownBlock ≠ some b
theorem PfA.symm {m k : Pf} (h : PfA m k) : PfA k m := ⟨h.1.symm, fun b hb hm => h.2 b hm hb⟩
/-- Its own block's cells. -/
def dvC (d : Dv) (L : Int) (bm : Nat) : Array Value := #[.bool d.off, .bool (decide (0 ≤ d.left)), .int .i64 L, .int .i64 (d.room : Int), .map (some bm)]
structure PDx (w : World) (g bm : Nat) (ms : List Pf) (d : Dv) : Prop where
  box : ∃ L : Int, w.heap[g]? = some (.cells (dvC d L bm) 40 (0, 0)) ∧ (0 ≤ d.left → L = d.left) ∧ -9223372036854775808 ≤ L ∧ L < 9223372036854775808
  map : PMap w bm (ms.map pfN)
  is : ∀ m ∈ ms, PfIs w m
  fs : ms.map (·.f) = d.fs
  apart : ms.Pairwise PfA
/-- Its blocks. -/
def PG (g bm : Nat) (ms : List Pf) (b : Nat) : Prop := b = g ∨ b = bm ∨ ∃ m ∈ ms, b = m.g ∨ m.v.ownBlock = some b
def PDe : DevP := fun w G g d => ∃ bm ms, PDx w g bm ms d ∧ ∀ b, PG g bm ms b ↔ G b

theorem cells_ne {w : World} {a b : Nat} {c1 c2 : Array Value} {t1 t2 : TypeId} {z1 z2 : Nat × Nat} (h1 : w.heap[a]? = some (.cells c1 t1 z1)) (h2 : w.heap[b]? = some (.cells c2 t2 z2)) (ht : t1 ≠ t2) : a ≠ b := by
  intro e
  subst e
  rw [h1] at h2
  injection h2 with h2
  injection h2 with _ h2
  exact ht h2
theorem cells_nm {w : World} {a b : Nat} {c1 : Array Value} {t1 : TypeId} {z1 : Nat × Nat} {es : Array MapEntry} {clock : Nat} (h1 : w.heap[a]? = some (.cells c1 t1 z1)) (h2 : w.heap[b]? = some (.map es clock)) : a ≠ b := by
  intro e
  subst e
  rw [h1] at h2
  injection h2 with h2
  cases h2
theorem KOwn.at_block {k : IntKind} {e : TypeId} {w : World} {base : Nat} {v : Value} {xs : List Int} (h : KOwn k e w base v xs) {b : Nat} (hb : v.ownBlock = some b) : ∃ c, w.heap[b]? = some (.cells c e (0, 0)) := by
  rcases h with ⟨rfl, _⟩ | ⟨g, n, cap, r, rfl, _, _, h4, _⟩
  · cases hb
  · injection hb with hb
    subst hb
    exact ⟨_, h4⟩
theorem KOwn.frm {F : Nat → Prop} {k : IntKind} {e : TypeId} {w w' : World} {base : Nat} {v : Value} {xs : List Int} (h : KOwn k e w base v xs) (hf : Frm F w w') (hn : ∀ b, v.ownBlock = some b → ¬ F b) : KOwn k e w' base v xs := by
  rcases h with h | ⟨g, n, cap, r, rfl, h2, h3, h4, h5⟩
  · exact .inl h
  · exact .inr ⟨g, n, cap, r, rfl, h2, h3, (hf.block g (block_lt h4) (hn g rfl)).trans h4, h5⟩
theorem PfIs.frm {F : Nat → Prop} {w w' : World} {m : Pf} (h : PfIs w m) (hf : Frm F w w') (hg : ¬ F m.g) (hn : ∀ b, m.v.ownBlock = some b → ¬ F b) : PfIs w' m :=
  ⟨(hf.block m.g (block_lt h.box) hg).trans h.box, h.own.frm hf hn⟩
theorem PDx.gbox {w : World} {g bm : Nat} {ms : List Pf} {d : Dv} (h : PDx w g bm ms d) : ∃ c, w.heap[g]? = some (.cells c 40 (0, 0)) := by
  obtain ⟨L, hb, _⟩ := h.box
  exact ⟨_, hb⟩
theorem PDx.lt {w : World} {g bm : Nat} {ms : List Pf} {d : Dv} (h : PDx w g bm ms d) : ∀ b, PG g bm ms b → b < w.heap.size := by
  intro b hb
  rcases hb with rfl | rfl | ⟨m, hm, rfl | hv⟩
  · obtain ⟨c, hc⟩ := h.gbox
    exact block_lt hc
  · exact h.map.lt
  · exact block_lt (h.is m hm).box
  · obtain ⟨c, hc⟩ := (h.is m hm).own.at_block hv
    exact block_lt hc
theorem PDx.frm {F : Nat → Prop} {w w' : World} {g bm : Nat} {ms : List Pf} {d : Dv} (h : PDx w g bm ms d) (hf : Frm F w w') (hn : ∀ b, PG g bm ms b → ¬ F b) : PDx w' g bm ms d := by
  obtain ⟨L, hb, h1, h2, h3⟩ := h.box
  exact ⟨⟨L, (hf.block g (block_lt hb) (hn g (.inl rfl))).trans hb, h1, h2, h3⟩, h.map.same (hf.block bm h.map.lt (hn bm (.inr (.inl rfl)))),
    fun m hm => (h.is m hm).frm hf (hn m.g (.inr (.inr ⟨m, hm, .inl rfl⟩))) (fun b hb => hn b (.inr (.inr ⟨m, hm, .inr hb⟩))), h.fs, h.apart⟩
theorem pde_dev : Dev PDe :=
  ⟨fun h hf hn => by obtain ⟨bm, ms, hx, hg⟩ := h; exact ⟨bm, ms, hx.frm hf (fun b hb => hn b ((hg b).1 hb)), hg⟩, fun h b hb => by
    obtain ⟨bm, ms, hx, hg⟩ := h
    exact hx.lt b ((hg b).2 hb)⟩
theorem PDx.drewN {w : World} {g bm : Nat} {ms : List Pf} {d : Dv} (h : PDx w g bm ms d) (n : Nat) : PDx (w.drewN n) g bm ms d := h.frm (F := fun _ => False) (Frm.of_below (bel_drewN w n)) (fun _ _ e => e)
/-- The blocks are of different kinds. -/
theorem PDx.g_ne {w : World} {g bm : Nat} {ms : List Pf} {d : Dv} (h : PDx w g bm ms d) : g ≠ bm ∧ ∀ m ∈ ms, m.g ≠ g ∧ m.g ≠ bm ∧ ∀ b, m.v.ownBlock = some b → b ≠ g ∧ b ≠ bm ∧ ∀ k ∈ ms, k.g ≠ b := by
  obtain ⟨c, hc⟩ := h.gbox
  obtain ⟨es, clock, hm⟩ := h.map.block
  refine ⟨cells_nm hc hm, fun m hm' => ⟨cells_ne (h.is m hm').box hc (by decide), cells_nm (h.is m hm').box hm, fun b hb => ?_⟩⟩
  obtain ⟨c', hc'⟩ := (h.is m hm').own.at_block hb
  exact ⟨cells_ne hc' hc (by decide), cells_nm hc' hm, fun k hk => cells_ne (h.is k hk).box hc' (by decide)⟩
theorem PDx.cells {w : World} {g bm : Nat} {ms : List Pf} {d : Dv} (h : PDx w g bm ms d) : ∃ L : Int, w.cell? ⟨g, 0, none⟩ = some (.bool d.off) ∧ w.cell? ⟨g, 1, none⟩ = some (.bool (decide (0 ≤ d.left))) ∧ w.cell? ⟨g, 2, none⟩ = some (.int .i64 L) ∧ w.cell? ⟨g, 3, none⟩ = some (.int .i64 (d.room : Int)) ∧ w.cell? ⟨g, 4, none⟩ = some (.map (some bm))
    ∧ (∀ j, w.frozen? ⟨g, j, none⟩ = false) ∧ (0 ≤ d.left → L = d.left) ∧ -9223372036854775808 ≤ L ∧ L < 9223372036854775808 := by
  obtain ⟨L, hb, h1, h2, h3⟩ := h.box
  exact ⟨L, cell_of_row w g 0 _ _ _ hb, cell_of_row w g 1 _ _ _ hb, cell_of_row w g 2 _ _ _ hb, cell_of_row w g 3 _ _ _ hb, cell_of_row w g 4 _ _ _ hb, fun j => block_frozen w g j _ _ hb, h1, h2, h3⟩
theorem PfIs.cells {w : World} {m : Pf} (h : PfIs w m) : w.cell? ⟨m.g, 0, none⟩ = some m.v ∧ w.cell? ⟨m.g, 1, none⟩ = some (.int .i64 (m.f.sy : Int)) ∧ ∀ j, w.frozen? ⟨m.g, j, none⟩ = false :=
  ⟨cell_of_row w m.g 0 _ _ _ h.box, cell_of_row w m.g 1 _ _ _ h.box, fun j => block_frozen w m.g j _ _ h.box⟩
/-- Where a name leads. -/
theorem PDx.look_no {w : World} {g bm : Nat} {ms : List Pf} {d : Dv} (h : PDx w g bm ms d) {s : ByteArray} (hf : findD d.fs s = none) : look (ms.map pfN) s = none := by
  refine look_none ?_
  rw [List.any_eq_false]
  intro p hp hs
  obtain ⟨m, hm, rfl⟩ := List.mem_map.1 hp
  have := findD_none.1 hf m.f (by rw [← h.fs]; exact List.mem_map.2 ⟨m, hm, rfl⟩)
  rw [show sameN m.f.nm s = true from hs] at this
  cases this
theorem PDx.look_yes {w : World} {g bm : Nat} {ms : List Pf} {d : Dv} (h : PDx w g bm ms d) {s : ByteArray} {k : Nat} (hf : findD d.fs s = some k) : ∃ (hk : k < ms.length) (hk' : k < d.fs.length), look (ms.map pfN) s = some ms[k].g ∧ d.fs[k] = ms[k].f ∧ ms[k].f.nm = s := by
  obtain ⟨hk, h1, _⟩ := findD_some hf
  have hl : ms.length = d.fs.length := by rw [← h.fs, List.length_map]
  have hk2 : k < ms.length := by omega
  have e : d.fs[k] = ms[k].f := by simp only [← h.fs, List.getElem_map]
  have e2 : ms[k].f.nm = s := by rw [← e]; exact sameN_iff.1 h1
  refine ⟨hk2, hk, ?_, e, e2⟩
  have := look_mem h.map.nd (p := pfN ms[k]) (List.mem_map.2 ⟨ms[k], List.getElem_mem hk2, rfl⟩)
  rw [show (pfN ms[k]).1 = s from e2] at this
  exact this
end Go.Proofs.Ytfclgjdlkcmnfaa
namespace Go.Proofs.Ytfclgjdlkcmnfaa
open Go.Shelf Go.Proofs
def Try.sortStr_ren : Go.Shelf.Ren := ⟨fun | 190 => 35 | 125 => 67 | 258 => 66 | 128 => 84 | 129 => 85 | 302 => 75 | 303 => 76 | 304 => 77 | 305 => 78 | 306 => 79 | 307 => 80 | 308 => 81 | 309 => 82 | 310 => 83 | 333 => 86 | 329 => 87 | 330 => 88 | 334 => 89 | 335 => 90 | 336 => 91 | 344 => 92 | n => n, fun | 31 => 34 | 9 => 9 | 3 => 3 | 46 => 85 | 0 => 0 | 51 => 100 | 53 => 102 | 4 => 4 | 183 => 92 | 182 => 91 | 131 => 97 | 5 => 5 | 218 => 103 | 222 => 107 | 228 => 109 | 229 => 110 | n => n, fun | n => n⟩
theorem Try.sortStr : Go.Proofs.Lays.n190 Try.prog Try.sortStr_ren := {
  mixed := by kernel_rfl
  f125 := Try.func67.trans (congrArg some (by kernel_rfl))
  f128 := Try.func84.trans (congrArg some (by kernel_rfl))
  f129 := Try.func85.trans (congrArg some (by kernel_rfl))
  f190 := Try.func35.trans (congrArg some (by kernel_rfl))
  f258 := Try.func66.trans (congrArg some (by kernel_rfl))
  f302 := Try.func75.trans (congrArg some (by kernel_rfl))
  f303 := Try.func76.trans (congrArg some (by kernel_rfl))
  f304 := Try.func77.trans (congrArg some (by kernel_rfl))
  f305 := Try.func78.trans (congrArg some (by kernel_rfl))
  f306 := Try.func79.trans (congrArg some (by kernel_rfl))
  f307 := Try.func80.trans (congrArg some (by kernel_rfl))
  f308 := Try.func81.trans (congrArg some (by kernel_rfl))
  f309 := Try.func82.trans (congrArg some (by kernel_rfl))
  f310 := Try.func83.trans (congrArg some (by kernel_rfl))
  f329 := Try.func87.trans (congrArg some (by kernel_rfl))
  f330 := Try.func88.trans (congrArg some (by kernel_rfl))
  f333 := Try.func86.trans (congrArg some (by kernel_rfl))
  f334 := Try.func89.trans (congrArg some (by kernel_rfl))
  f335 := Try.func90.trans (congrArg some (by kernel_rfl))
  f336 := Try.func91.trans (congrArg some (by kernel_rfl))
  f344 := Try.func92.trans (congrArg some (by kernel_rfl))
  t0 := Try.underlying0
  a0 := Try.isAgg0
  z0 := Try.sizeOf0
  v0 := Try.zeroValue0
  t3 := Try.underlying3
  a3 := Try.isAgg3
  z3 := Try.sizeOf3
  v3 := Try.zeroValue3
  t4 := Try.underlying4
  a4 := Try.isAgg4
  z4 := Try.sizeOf4
  v4 := Try.zeroValue4
  t5 := Try.underlying5
  a5 := Try.isAgg5
  z5 := Try.sizeOf5
  v5 := Try.zeroValue5
  t9 := Try.underlying9
  a9 := Try.isAgg9
  z9 := Try.sizeOf9
  v9 := Try.zeroValue9
  t31 := Try.underlying34
  a31 := Try.isAgg34
  z31 := Try.sizeOf34
  v31 := Try.zeroValue34
  t46 := Try.underlying85
  a46 := Try.isAgg85
  z46 := Try.sizeOf85
  v46 := Try.zeroValue85
  t51 := Try.underlying100
  a51 := Try.isAgg100
  z51 := Try.sizeOf100
  v51 := Try.zeroValue100
  t53 := Try.underlying102
  a53 := Try.isAgg102
  z53 := Try.sizeOf102
  v53 := Try.zeroValue102
  t131 := Try.underlying97
  a131 := Try.isAgg97
  z131 := Try.sizeOf97
  v131 := Try.zeroValue97
  t182 := Try.underlying91
  a182 := Try.isAgg91
  z182 := Try.sizeOf91
  v182 := Try.zeroValue91
  t183 := Try.underlying92
  a183 := Try.isAgg92
  z183 := Try.sizeOf92
  v183 := Try.zeroValue92
  t218 := Try.underlying103
  a218 := Try.isAgg103
  z218 := Try.sizeOf103
  v218 := Try.zeroValue103
  t222 := Try.underlying107
  a222 := Try.isAgg107
  z222 := Try.sizeOf107
  v222 := Try.zeroValue107
  t228 := Try.underlying109
  a228 := Try.isAgg109
  z228 := Try.sizeOf109
  v228 := Try.zeroValue109
  t229 := Try.underlying110
  a229 := Try.isAgg110
  z229 := Try.sizeOf110
  v229 := Try.zeroValue110 }
def Try.cloneStr_ren : Go.Shelf.Ren := ⟨fun | 316 => 65 | n => n, fun | 9 => 9 | 3 => 3 | 4 => 4 | 37 => 30 | 0 => 0 | 127 => 89 | 5 => 5 | n => n, fun | n => n⟩
theorem Try.cloneStr : Go.Proofs.LaysM.n316 Try.prog Try.cloneStr_ren := {
  mixed := by kernel_rfl
  f316 := Try.func65.trans (congrArg some (by kernel_rfl))
  t0 := Try.underlying0
  a0 := Try.isAgg0
  z0 := Try.sizeOf0
  v0 := Try.zeroValue0
  t3 := Try.underlying3
  a3 := Try.isAgg3
  z3 := Try.sizeOf3
  v3 := Try.zeroValue3
  t4 := Try.underlying4
  a4 := Try.isAgg4
  z4 := Try.sizeOf4
  v4 := Try.zeroValue4
  t9 := Try.underlying9
  a9 := Try.isAgg9
  z9 := Try.sizeOf9
  v9 := Try.zeroValue9
  t37 := Try.underlying30
  a37 := Try.isAgg30
  z37 := Try.sizeOf30
  v37 := Try.zeroValue30
  t127 := Try.underlying89
  a127 := Try.isAgg89
  z127 := Try.sizeOf89
  v127 := Try.zeroValue89
  t5 := Try.underlying5
  a5 := Try.isAgg5
  z5 := Try.sizeOf5
  v5 := Try.zeroValue5
  i0 := by kernel_rfl
  i3 := by kernel_rfl
  i4 := by kernel_rfl
  i5 := by kernel_rfl
  i9 := by kernel_rfl
  i37 := by kernel_rfl
  i127 := by kernel_rfl }
end Go.Proofs.Ytfclgjdlkcmnfaa
namespace Go.Proofs.Ytfclgjdlkcmnfaa
open Go.RowKit Go.Maps
set_option linter.unusedVariables false
set_option maxRecDepth 100000

theorem isName_any (s : ByteArray) (w : World) : Calls Try.prog 55 #[.string s] w fun e w' => e = .returned (.bool (okN s)) ∧ w' = w := by
  by_cases h1 : 0 < s.size
  · have HO : Hid (okN s = decide ((s.size : Int) ≤ 16)) := Lib.hid (by unfold okN; rw [decide_eq_true h1, Bool.true_and]; exact decide_eq_decide.2 (by omega))
    rw [HO.out]
    have h2 : (s.size : Int) ≥ 1 := by omega
    go_enter Try.func55, Try.ntmps55
    go_wp2
    go_ret
    exact ⟨rfl, rfl⟩
  · have HO : Hid (okN s = false) := Lib.hid (by unfold okN; rw [decide_eq_false h1]; rfl)
    rw [HO.out]
    have h2 : ¬ (s.size : Int) ≥ 1 := by omega
    go_enter Try.func55, Try.ntmps55
    go_wp2
    go_ret
    exact ⟨rfl, rfl⟩
theorem ok_size {s : ByteArray} (h : okN s = true) : s.size ≤ 16 := by
  unfold okN at h
  simp at h
  omega
/-- A copy of a text. -/
theorem sclone_any (s : ByteArray) (w : World) (h : s.size ≤ 1000000) : Calls Try.prog 34 #[.string s] w fun e w' => e = .returned (.string s) ∧ Below w.heap.size w w' := by
  have hc : Hid (Calls Try.prog 65 #[.string s] w fun e w' => e = .returned (.string s) ∧ Below w.heap.size w w') := Lib.hid (Any.stringslite_Clone Try.cloneStr s w (by omega))
  go_enter Try.func34, Try.ntmps34
  go_wp2_with (go_at_call 65; refine hc.out.mono ?_; rintro e w' ⟨rfl, hb⟩)
  go_ret
  exact ⟨rfl, hb⟩

section
variable {w : World} {g bm : Nat} {ms : List Pf} {d : Dv}
theorem down_pd (h : PDx w g bm ms d) : Calls Try.prog 17 #[.pointer (some ⟨g, 0, none⟩)] w fun e w' => e = .returned (.bool d.off) ∧ w' = w := by
  obtain ⟨L, c0, c1, c2, c3, c4, cf, _⟩ := h.cells
  clear h
  go_enter Try.func17, Try.ntmps17
  go_wp2
  go_ret
  exact ⟨rfl, rfl⟩
/-- What 'find' tells. -/
def FindTo (ms : List Pf) (d : Dv) (s : ByteArray) (w : World) (e : Ending) (w' : World) : Prop := w' = w ∧
  ((d.off = true ∧ e = .returned (.tuple #[.pointer none, .int .i64 10])) ∨ (d.off = false ∧ findD d.fs s = none ∧ e = .returned (.tuple #[.pointer none, .int .i64 6]))
    ∨ (d.off = false ∧ ∃ k, ∃ (h : k < ms.length), findD d.fs s = some k ∧ e = .returned (.tuple #[.pointer (some ⟨ms[k].g, 0, none⟩), .int .i64 0])))
theorem find_pd (s : ByteArray) (h : PDx w g bm ms d) : Calls Try.prog 60 #[.pointer (some ⟨g, 0, none⟩), .string s] w (FindTo ms d s w) := by
  obtain ⟨L, c0, c1, c2, c3, c4, cf, _⟩ := h.cells
  have hD : Hid (Calls Try.prog 17 #[.pointer (some ⟨g, 0, none⟩)] w fun e w' => e = .returned (.bool d.off) ∧ w' = w) := Lib.hid (down_pd h)
  have hl := h.map.lookup s
  cases ho : d.off with
  | true =>
    rw [ho] at hD c0
    have HO := Lib.hid ho
    clear h hl ho
    go_enter Try.func60, Try.ntmps60
    go_wp2_with (go_at_call 17; refine hD.out.mono ?_; rintro e w' ⟨rfl, rfl⟩)
    go_ret2
    exact ⟨rfl, .inl ⟨HO.out, rfl⟩⟩
  | false =>
    rw [ho] at hD c0
    cases hf : findD d.fs s with
    | none =>
      rw [h.look_no hf] at hl
      have HF := Lib.hid hf
      have HO := Lib.hid ho
      clear h hf ho
      go_enter Try.func60, Try.ntmps60
      go_wp2_with (go_at_call 17; refine hD.out.mono ?_; rintro e w' ⟨rfl, rfl⟩)
      go_ret2
      exact ⟨rfl, .inr (.inl ⟨HO.out, HF.out, rfl⟩)⟩
    | some k =>
      obtain ⟨hk, _, hlk, _, _⟩ := h.look_yes hf
      rw [hlk] at hl
      have HF := Lib.hid hf
      have HO := Lib.hid ho
      have HE : Hid (∃ q, ms[k].g = q) := Lib.hid ⟨_, rfl⟩
      obtain ⟨q, hq⟩ := HE.out
      have HQ := Lib.hid hq
      rw [hq] at hl
      clear h hf ho hlk hq
      go_enter Try.func60, Try.ntmps60
      go_wp2_with (go_at_call 17; refine hD.out.mono ?_; rintro e w' ⟨rfl, rfl⟩)
      go_ret2
      exact ⟨rfl, .inr (.inr ⟨HO.out, k, hk, HF.out, by rw [HQ.out]; rfl⟩)⟩
theorem hasPlace_pd (s : ByteArray) (h : PDx w g bm ms d) : Calls Try.prog 56 #[.pointer (some ⟨g, 0, none⟩), .string s] w fun e w' => e = .returned (.bool (!decide (findD d.fs s = none ∧ ¬ d.fs.length < 64))) ∧ w' = w := by
  obtain ⟨L, c0, c1, c2, c3, c4, cf, _⟩ := h.cells
  have hl := h.map.lookup s
  have hn := h.map.len
  have hlen : (ms.map pfN).length = d.fs.length := by rw [List.length_map, ← h.fs, List.length_map]
  rw [hlen] at hn
  obtain ⟨B, hB⟩ : ∃ B, (!decide (findD d.fs s = none ∧ ¬ d.fs.length < 64)) = B := ⟨_, rfl⟩
  rw [hB]
  cases hf : findD d.fs s with
  | none =>
    rw [h.look_no hf] at hl
    have HB : Hid (decide ((d.fs.length : Int) < 64) = B) := Lib.hid (by rw [← hB]; by_cases hx : d.fs.length < 64 <;> simp [hf, hx] <;> omega)
    clear h hf hB
    generalize d.fs.length = n at *
    go_enter Try.func56, Try.ntmps56
    go_wp2
    go_ret
    exact ⟨by rw [← HB.out]; rfl, rfl⟩
  | some k =>
    obtain ⟨hk, _, hlk, _, _⟩ := h.look_yes hf
    rw [hlk] at hl
    have HB : Hid (B = true) := Lib.hid (by rw [← hB]; simp [hf])
    rw [HB.out]
    generalize ms[k].g = q at *
    clear h hf hlk hB
    go_enter Try.func56, Try.ntmps56
    go_wp2
    go_ret
    exact ⟨rfl, rfl⟩
end
end Go.Proofs.Ytfclgjdlkcmnfaa
namespace Go.Proofs.Ytfclgjdlkcmnfaa
open Go.RowKit
set_option linter.unusedVariables false

/-- A call returns a new slice, its own, that holds xs; its block is known whole. -/
def MakesCl (w : World) (xs : List Int) (e : Ending) (w' : World) : Prop := ∃ v, e = .returned v ∧ KOwn .u8 5 w' w.heap.size v xs ∧ Below w.heap.size w w'
theorem info_cl : (Try.prog.info? 5).map (fun i => (i.zero, i.size, i.bytes)) = some (some (.int .u8 0), 1, 1) := by kernel_rfl
theorem zeros_cl (m : Nat) : ∀ x ∈ List.replicate m (0 : Int), (Lit.int .u8 x).wf = true := fun x hx => by rw [List.eq_of_mem_replicate hx]; decide
/-- 'append([]byte{}, ..)' of a row that is not empty. -/
theorem append_cl (A : Option Addr) (n c : Nat) (xs : List Int) (w : World) (hr : Row .u8 w w.heap.size A xs) (hn : xs.length = n) (h1 : 1 ≤ n) (hb : n ≤ 140737488351232) :
    ∃ cap w', (∀ ty, (Builtin.append_ #[30, 30] ty #[.slice (some ⟨w.heap.size, 0, none⟩) 0 0, .slice A n c]).run Try.prog (w.alloc (.cells #[] 5)) = .ok (.slice (some ⟨w.heap.size + 1, 0, none⟩) n cap) w') ∧ KOwn .u8 5 w' w.heap.size (.slice (some ⟨w.heap.size + 1, 0, none⟩) n cap) xs ∧ Below w.heap.size w w' := by
  have h := run_append_full (P := Try.prog) (w.alloc (.cells #[] 5)) 30 .u8 5 1 Try.underlying30 info_cl w.heap.size 0 [] (heap_alloc_new w _) rfl _ _ n c xs (hr.alloc (Nat.le_refl _) _) hn h1 (by omega) (by simp only [maxLen]; omega)
  obtain ⟨cap, h2, h3, h4⟩ := h
  have hz : (w.alloc (.cells #[] 5)).heap.size = w.heap.size + 1 := by simp
  simp only [Nat.zero_add, List.nil_append, hz] at h2
  refine ⟨cap, _, h2, ?_, ?_⟩
  · refine .inr ⟨_, n, cap, List.replicate (cap - n) 0, rfl, by omega, hn, ?_, by omega, h4, by rw [List.length_replicate]; omega, zeros_cl _⟩
    have := heap_alloc_new ((w.alloc (.cells #[] 5)).drew) (.cells (blk .u8 (xs ++ List.replicate (cap - n) 0)) 5)
    rw [show ((w.alloc (.cells #[] 5)).drew).heap.size = w.heap.size + 1 from hz] at this
    exact this
  · exact (below_drew (bel_alloc w _)).alloc (by show _ ≤ (w.alloc _).heap.size; omega) _
set_option maxRecDepth 100000 in
theorem clone_any (A : Option Addr) (n c : Nat) (xs : List Int) (w : World) (hr : Row .u8 w w.heap.size A xs) (hn : xs.length = n) (hb : n ≤ 140737488351232) :
    Calls Try.prog 33 #[.slice A n c] w (MakesCl w xs) := by
  by_cases h1 : 1 ≤ n
  · obtain ⟨b, o, rfl, _⟩ := hr.2 (by omega)
    obtain ⟨cap, w1, hap, hk, hbel⟩ := append_cl (some ⟨b, o, none⟩) n c xs w hr hn h1 hb
    have HK := Lib.hid hk
    clear hr hn hk
    have he : ∀ W : World, (binOp .eql 30 (.slice (some ⟨b, o, none⟩) n c) (.slice none 0 0)).run Try.prog W = .ok (.bool false) W := fun _ => rfl
    go_enter Try.func33, Try.ntmps33
    go_wp2_with (at_builtin; refine wpList_append_run _ rfl (.tmp 5) (.tmp 6) 30 rfl (.slice (some ⟨w.heap.size, 0, none⟩) 0 0) (.slice (some ⟨b, o, none⟩) n c) (.slice (some ⟨w.heap.size + 1, 0, none⟩) n cap) w1 rfl rfl hap ?_)
    go_ret
    exact ⟨_, rfl, HK.out, hbel⟩
  obtain rfl : n = 0 := by omega
  obtain rfl : xs = [] := List.eq_nil_of_length_eq_zero hn
  clear hn hb hr
  cases A with
  | none =>
    have he : ∀ W : World, (binOp .eql 30 (.slice none 0 c) (.slice none 0 0)).run Try.prog W = .ok (.bool true) W := fun _ => rfl
    go_enter Try.func33, Try.ntmps33
    go_wp2
    go_ret
    exact ⟨_, rfl, KOwn.nil _ _ _ _, Below.refl _ _⟩
  | some a =>
    have he : ∀ W : World, (binOp .eql 30 (.slice (some a) 0 c) (.slice none 0 0)).run Try.prog W = .ok (.bool false) W := fun _ => rfl
    go_enter Try.func33, Try.ntmps33
    go_wp2
    go_ret
    refine ⟨_, rfl, .inr ⟨w.heap.size, 0, 0, [], rfl, Nat.le_refl _, rfl, ?_, Nat.le_refl _, by unfold maxLen; omega, rfl, by simp⟩, bel_alloc w _⟩
    exact heap_alloc_new w _
end Go.Proofs.Ytfclgjdlkcmnfaa
