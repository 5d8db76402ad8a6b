/-
  The statement DeviceRenamed of outstationlaw12 holds: for every input that can be read, the call returns true, and each argument reads as it did. No condition of its own.
-/
import Derived.Test.YtfclgjdlkcmnfaaJDeviceRenamedC
import Derived.Test.YtfclgjdlkcmnfaaJDeviceRenamedD
import Derived.Test.YtfclgjdlkcmnfaaJDeviceRenamedE
import Derived.Test.YtfclgjdlkcmnfaaRows
import Derived.Test.YtfclgjdlkcmnfaaJDeviceRenamedA
namespace Go.Proofs.Ytfclgjdlkcmnfaa
open Go.RowKit
set_option linter.unusedVariables false
set_option maxRecDepth 100000

/-- A device of the call's own. -/
def DvTo (D : DevP) (g : Nat) (w wr : World) : Prop := ∃ G d, D wr G g d ∧ Dv.Ok d ∧ (∀ b, G b → w.heap.size ≤ b) ∧ Below w.heap.size w wr
set_option maxHeartbeats 8000000 in
theorem renamed_any {D : DevP} (X : DevOk D) (A : Option Addr) (n c : Nat) (l : List Opm) (s u : ByteArray) (keep : Int) (w : World) (hr : VRow w w.heap.size A (flatV opC l)) (hn : l.length = n) (hb : n ≤ 1954687338763) (hok : ∀ m ∈ l, Opm.Ok w w.heap.size m) (hkeep : -9223372036854775808 ≤ keep ∧ keep < 9223372036854775808) :
    Calls Try.prog 8 #[.slice A n c, .string s, .string u, .int .i64 keep] w fun e w' => e = .returned (.bool true) ∧ Below w.heap.size w w' := by
  have HR := Lib.hid hr
  have HN := Lib.hid hn
  have HO := Lib.hid hok
  have HX := Lib.hid X
  have HKP := Lib.hid hkeep
  clear hr hn hok X hkeep
  go_enter Try.func8, Try.ntmps8
  go_wp2_with fail
  refine (works12 HX.out w).mono ?_
  rintro e w1 ⟨rfl, b1⟩
  go_wp2_with fail
  refine (long_any A n c l w1 ((HR.out.below b1).more b1.size) HN.out (by omega)).mono ?_
  rintro e w' ⟨b, rfl, rfl, hlong⟩
  cases b with
  | true =>
    clear hlong
    go_wp2
    go_ret
    exact ⟨rfl, b1⟩
  | false =>
    have HL := Lib.hid (hlong rfl)
    clear hlong
    have HB1 := Lib.hid b1
    clear b1
    go_wp2_with fail
    refine (HX.out.newYes 16384 w1 (by omega)).mono ?_
    rintro e w2 ⟨g1, G1, rfl, h1, b2, n1⟩
    have HI : Hid (DvTo D g1 w w2) := Lib.hid ⟨G1, newD 16384, h1, new_ok 16384 (by omega), fun b hb => Nat.le_trans HB1.out.size (n1 b hb), HB1.out.trans (b2.mono HB1.out.size)⟩
    clear h1 n1 b2
    go_wp2_with fail
    go_loopw [11] (fun i wr => ∃ k : Nat, k ≤ n ∧ i = .int .i64 k ∧ Hid (DvTo D g1 w wr)) (fun i _ => n - (intOf i).toNat)
    case atStart => exact ⟨0, by omega, rfl, HI⟩
    case round =>
      obtain ⟨k, hk, rfl, hrel⟩ := hrel
      clear HI
      obtain ⟨G, d0, hd, ok, hg, bel⟩ := hrel.out
      by_cases hlt : k < n
      · have hkl : k < l.length := by rw [HN.out]; exact hlt
        obtain ⟨b, o, rfl, hbw, hc⟩ := HR.out.elem opC_len (by omega) hkl
        have hm := HO.out _ (List.getElem_mem hkl)
        have hsm := HL.out.2 k hkl
        obtain ⟨m, hmm⟩ : ∃ m, l[k] = m := ⟨_, rfl⟩
        rw [hmm] at hc hm hsm
        obtain ⟨ki, nm, tn, A', n', c', N', bs⟩ := m
        have hc0 := fun j v hv => (bel.cell (p := ⟨b, o + k * 5 + j, none⟩) hbw).trans (hc j v hv)
        have c0 := hc0 0 _ rfl
        have c1 := hc0 1 _ rfl
        have c2 := hc0 2 _ rfl
        have c3 := hc0 3 _ rfl
        have c4 := hc0 4 _ rfl
        have hmr := hm.row
        have hml := hm.len
        simp only at c0 c1 c2 c3 c4 hmr hml
        rw [Nat.add_zero] at c0
        have HRUN := Lib.hid (run_dev HX.out ki nm tn A' n' c' N' bs hd ok ((hmr.below bel).more bel.size) hml hm.le hm.cap hsm.1 (fun a ha hp e => by
          obtain ⟨b', o', e1, e2, _⟩ := hmr.2 (by rw [hml]; exact hp)
          rw [ha] at e1
          injection e1 with e1
          subst e1
          have := hg _ e
          simp only at this
          omega) hm.N)
        have HOK := Lib.hid (call_ok ok ki nm tn hmr.1 hm.N.2)
        generalize (callD d0 ki nm tn bs N').1 = d at HRUN HOK
        generalize (callD d0 ki nm tn bs N').2 = E at HRUN
        have HG := Lib.hid hg
        have HBEL := Lib.hid bel
        have i3 : (0 : Int) ≤ (k : Int) := by omega
        clear hd ok hg hrel hmm hc hm hsm hc0 hmr hml bel
        go_wp2_with fail
        refine HRUN.out.mono ?_
        rintro e wa ⟨rfl, G', hd', fr, hs⟩
        have HEND : Hid (DvTo D g1 w wa) := Lib.hid ⟨G', d, hd', HOK.out, fun b hb => (hs b hb).elim (HG.out b) (fun e => Nat.le_trans HBEL.out.size e), fr.below HBEL.out HBEL.out.size HG.out⟩
        clear c0 c1 c2 c3 c4 fr hs hd'
        go_wp2
        go_roundw
        case rel => exact ⟨k + 1, by omega, by go_num, HEND⟩
        case measure => simp [intOf]; omega
      · obtain rfl : k = n := by omega
        have HD := Lib.hid hd
        have HOK := Lib.hid ok
        have HG := Lib.hid hg
        have HB := Lib.hid bel
        have HW := Lib.hid (wake_ok ok keep)
        have HSY : Hid (∀ f ∈ (wakeD d0 keep).fs, f.sy = f.bs.length) := Lib.hid (fun f hf => wake_synced d0 keep f hf (fun g hg => (ok.fl g hg).sy))
        have HNW : Hid (namesD (wakeD d0 keep) = namesD d0) := Lib.hid (wake_names d0 keep)
        have HRF : Hid (RenTo (wakeD d0 keep) (renD (wakeD d0 keep) s u).1 (renD (wakeD d0 keep) s u).2 s u) := Lib.hid (ren_facts HW.out rfl rfl HSY.out s u)
        have HRO := Lib.hid (ren_ok HW.out s u)
        obtain ⟨NL, hNL⟩ : ∃ NL, namesD d0 = NL := ⟨_, rfl⟩
        have HNL := Lib.hid hNL
        rw [hNL] at HNW
        obtain ⟨M, hM⟩ : ∃ M, NL.length = M := ⟨_, rfl⟩
        have HM := Lib.hid hM
        have hM64 : M ≤ 64 := by rw [← hM, ← hNL]; unfold namesD; rw [List.length_map]; exact ok.ln
        have hwl := readL_wf HW.out s
        obtain ⟨L, hL⟩ : ∃ L, readL (wakeD d0 keep) s = L := ⟨_, rfl⟩
        have HLL := Lib.hid hL
        rw [hL] at hwl
        obtain ⟨Q, hQ⟩ : ∃ Q, L.length = Q := ⟨_, rfl⟩
        have HQ := Lib.hid hQ
        have hQ2 : Q ≤ 16777216 := by rw [← hQ]; exact hwl.2
        have HWF := Lib.hid hwl.1
        obtain ⟨E1, hE1⟩ : ∃ E1, readE (wakeD d0 keep) s = E1 := ⟨_, rfl⟩
        have HE1 := Lib.hid hE1
        clear hd ok hg bel hNL hM hwl hL hQ hE1 hrel
        go_wp2_with fail
        refine (HX.out.names HD.out HOK.out).mono ?_
        rintro e wa ⟨v1, rfl, own1, p1⟩
        rw [HNL.out] at own1
        have HDa := Lib.hid (HX.out.dev.frm HD.out (Frm.of_below (F := fun _ => False) p1) (fun _ _ e => e))
        have HBa := Lib.hid (HB.out.trans (p1.mono HB.out.size))
        have hlta : ∀ b, G b → b < wr.heap.size := fun b hb => HX.out.dev.lt HD.out b hb
        have hv1 : ∀ b, v1.ownBlock = some b → ¬ G b := fun b hb e => by have := hlta b e; have := (TkOwn.lt own1 b hb).1; omega
        obtain ⟨A1, q1, hv⟩ := own1.letters
        rw [HM.out] at hv
        subst hv
        have HO1 := Lib.hid own1
        have HV1 := Lib.hid hv1
        clear own1 hv1 hlta p1
        go_wp2_with fail
        refine (HX.out.read s HDa.out HOK.out).mono ?_
        rintro e wb ⟨v2, rfl, own2, p2⟩
        obtain ⟨Z1, Z2, Z3, rfl⟩ := own2.letters
        have HDb := Lib.hid (HX.out.dev.frm HDa.out (Frm.of_below (F := fun _ => False) p2) (fun _ _ e => e))
        have HBb := Lib.hid (HBa.out.trans (p2.mono HBa.out.size))
        have HO2 := Lib.hid (HO1.out.below p2 (Nat.le_refl _))
        clear own2 p2
        go_wp2_with fail
        refine (HX.out.wake keep HDb.out HOK.out HKP.out).mono ?_
        rintro e wc ⟨rfl, Gc, hdc, frc, hsc⟩
        have HDc := Lib.hid hdc
        have HBc := Lib.hid (frc.below HBb.out HBb.out.size HG.out)
        have HGc : Hid (∀ b, Gc b → w.heap.size ≤ b) := Lib.hid (fun b hb => (hsc b hb).elim (HG.out b) (fun e => Nat.le_trans HBb.out.size e))
        have HO3 := Lib.hid (HO2.out.frm frc (fun b hb => HV1.out b hb))
        have HV3 : Hid (∀ b, (Value.slice A1 M q1).ownBlock = some b → ¬ Gc b) := Lib.hid (fun b hb e => (hsc b e).elim (HV1.out b hb) (fun e => by have := (TkOwn.lt HO2.out b hb).2; omega))
        clear hdc frc hsc HV1 HDa HDb HBa HBb HO1 HO2
        go_wp2_with fail
        refine (HX.out.read s HDc.out HW.out).mono ?_
        rintro e wd ⟨v4, rfl, own4, p4⟩
        rw [HE1.out]
        rw [HLL.out] at own4
        have HDd := Lib.hid (HX.out.dev.frm HDc.out (Frm.of_below (F := fun _ => False) p4) (fun _ _ e => e))
        have HBd := Lib.hid (HBc.out.trans (p4.mono HBc.out.size))
        have HO4 := Lib.hid (HO3.out.below p4 (Nat.le_refl _))
        have hltc : ∀ b, Gc b → b < wc.heap.size := fun b hb => HX.out.dev.lt HDc.out b hb
        have HV4 : Hid (∀ b, v4.ownBlock = some b → ¬ Gc b) := Lib.hid (fun b hb e => by have := hltc b e; have := (own4.block b hb).1; omega)
        obtain ⟨A4, q4, hv4, _, _⟩ := own4.val
        rw [HQ.out] at hv4
        subst hv4
        have HK4 := Lib.hid own4
        clear own4 p4 hltc HDc HBc HO3
        have HREN := Lib.hid (HX.out.rename s u HDd.out HW.out)
        generalize (renD (wakeD d0 keep) s u).1 = d2 at HREN HRF HRO
        generalize (renD (wakeD d0 keep) s u).2 = E at HREN HRF
        go_wp2_with fail
        refine HREN.out.mono ?_
        rintro e we ⟨rfl, Ge, hde, fre, hse⟩
        have HDe := Lib.hid hde
        have HBe := Lib.hid (fre.below HBd.out HBd.out.size HGc.out)
        have HGe : Hid (∀ b, Ge b → w.heap.size ≤ b) := Lib.hid (fun b hb => (hse b hb).elim (HGc.out b) (fun e => Nat.le_trans HBd.out.size e))
        have HO5 := Lib.hid (HO4.out.frm fre (fun b hb => HV3.out b hb))
        have HK5 := Lib.hid (HK4.out.frm fre (fun b hb => HV4.out b hb))
        have HV5 : Hid (∀ b, (Value.slice A4 Q q4).ownBlock = some b → ¬ Ge b) := Lib.hid (fun b hb e => (hse b e).elim (HV4.out b hb) (fun e => by have := (HK4.out.block b hb).2; omega))
        clear hde fre hse HV3 HV4 HO4 HK4 HREN HDd HBd
        rcases HRF.out with ⟨hE, hd2⟩ | ⟨hE, hd2, hrd⟩ | ⟨hE, hr1, hr2, hr3, hr4⟩
        · subst hE
          subst hd2
          clear HRF
          go_wp2_with fail
          refine (HX.out.names HDe.out HRO.out).mono ?_
          rintro e wf ⟨v6, rfl, own6, p5⟩
          rw [HNW.out] at own6
          obtain ⟨A6, q6, hv6⟩ := own6.letters
          rw [HM.out] at hv6
          subst hv6
          obtain ⟨A6', q6', e6, row6, _, _⟩ := own6.own.row
          obtain ⟨A1', q1', e1, row1, _, _⟩ := (HO5.out.below p5 (Nat.le_refl _)).own.row
          rw [HM.out] at e6 e1
          injection e6 with e6A _ _
          injection e1 with e1A _ _
          subst e6A e1A
          have HBf := Lib.hid (HBe.out.trans (p5.mono HBe.out.size))
          clear p5 HDe HBe HO5 own6
          go_wp2_with fail
          refine (same_yes_tx _ _ M _ _ NL wf _ _ row6 row1 HM.out (by omega)).mono ?_
          rintro e wg ⟨rfl, m9, rfl⟩
          clear row6 row1
          go_wp2
          go_ret
          exact ⟨rfl, below_drewN HBf.out m9⟩
        · subst hE
          have hE6 : E1 = 6 := by rw [← HE1.out]; exact hrd
          subst hE6
          clear hrd
          subst hd2
          clear HRF
          go_wp2_with fail
          refine (HX.out.names HDe.out HRO.out).mono ?_
          rintro e wf ⟨v6, rfl, own6, p5⟩
          rw [HNW.out] at own6
          obtain ⟨A6, q6, hv6⟩ := own6.letters
          rw [HM.out] at hv6
          subst hv6
          obtain ⟨A6', q6', e6, row6, _, _⟩ := own6.own.row
          obtain ⟨A1', q1', e1, row1, _, _⟩ := (HO5.out.below p5 (Nat.le_refl _)).own.row
          rw [HM.out] at e6 e1
          injection e6 with e6A _ _
          injection e1 with e1A _ _
          subst e6A e1A
          have HBf := Lib.hid (HBe.out.trans (p5.mono HBe.out.size))
          clear p5 HDe HBe HO5 own6
          go_wp2_with fail
          refine (same_yes_tx _ _ M _ _ NL wf _ _ row6 row1 HM.out (by omega)).mono ?_
          rintro e wg ⟨rfl, m9, rfl⟩
          clear row6 row1
          go_wp2
          go_ret
          exact ⟨rfl, below_drewN HBf.out m9⟩
        · subst hE
          have hE0 : E1 = 0 := by rw [← HE1.out]; exact hr1
          subst hE0
          have HR2 := Lib.hid hr2
          have HR3 : Hid (readL (wakeD d2 0) u = L) := Lib.hid (by rw [hr3, HLL.out])
          have HW2 := Lib.hid (wake_ok HRO.out 0)
          have HR4 := Lib.hid hr4
          clear hr1 hr2 hr3 hr4 HRF HO5
          go_wp2_with fail
          refine (HX.out.wake 0 HDe.out HRO.out ⟨by omega, by omega⟩).mono ?_
          rintro e wf ⟨rfl, Gf, hdf, frf, hsf⟩
          have HDf := Lib.hid hdf
          have HBf := Lib.hid (frf.below HBe.out HBe.out.size HGe.out)
          have HK6 := Lib.hid (HK5.out.frm frf (fun b hb => HV5.out b hb))
          clear hdf frf hsf HV5 HK5 HDe HBe
          go_wp2_with fail
          refine (HX.out.read u HDf.out HW2.out).mono ?_
          rintro e wg ⟨v7, rfl, own7, p7⟩
          rw [HR2.out]
          rw [HR3.out] at own7
          have HDg := Lib.hid (HX.out.dev.frm HDf.out (Frm.of_below (F := fun _ => False) p7) (fun _ _ e => e))
          have HBg := Lib.hid (HBf.out.trans (p7.mono HBf.out.size))
          have HK7 := Lib.hid (HK6.out.below p7 (Nat.le_refl _))
          obtain ⟨A7, q7, hv7, _, _⟩ := own7.val
          rw [HQ.out] at hv7
          subst hv7
          have HC7 := Lib.hid own7
          clear own7 p7 HDf HBf HK6
          go_wp2_with fail
          refine (HX.out.read s HDg.out HW2.out).mono ?_
          rintro e wh ⟨v8, rfl, own8, p8⟩
          obtain ⟨A8, n8, q8, rfl⟩ := own8.letters
          have HBh := Lib.hid (HBg.out.trans (p8.mono HBg.out.size))
          obtain ⟨A4', q4', e4, row4, _, _⟩ := (HK7.out.below p8 (Nat.le_refl _)).own.row HWF.out
          obtain ⟨A7', q7', e7, row7, _, _⟩ := (HC7.out.below p8 (Nat.le_refl _)).own.row HWF.out
          rw [HQ.out] at e4 e7
          injection e4 with e4A _ _
          injection e7 with e7A _ _
          subst e4A e7A
          clear own8 p8 HDg HBg HK7 HC7
          rcases HR4.out with hss | hno
          · have tS : (s.toList == u.toList) = true := hss
            generalize readE (wakeD d2 0) s = E8
            go_wp2_with fail
            refine (same_yes_u8 _ _ Q _ _ L wh _ _ row4 row7 HQ.out (by omega)).mono ?_
            rintro e wi ⟨rfl, m9, rfl⟩
            clear row4 row7
            go_wp2
            go_ret
            exact ⟨rfl, below_drewN HBh.out m9⟩
          · rw [hno]
            clear hno
            go_wp2_with fail
            refine (same_yes_u8 _ _ Q _ _ L wh _ _ row4 row7 HQ.out (by omega)).mono ?_
            rintro e wi ⟨rfl, m9, rfl⟩
            clear row4 row7
            cases tS : (s.toList == u.toList)
            all_goals
              go_wp2
              go_ret
              exact ⟨rfl, below_drewN HBh.out m9⟩
theorem walk_DeviceRenamed (A : Option Addr) (n c : Nat) (l : List Opm) (s u : ByteArray) (keep : Int) (w : World) (hrow : VRow w w.heap.size A (flatV opC l)) (hn : l.length = n) (hok : ∀ m ∈ l, Opm.Ok w w.heap.size m) (hle : n ≤ c) (hb : c * 72 ≤ 140737488351232) (hs : s.size ≤ maxLen) (hu : u.size ≤ maxLen) (hk : (Lit.int .i64 keep).wf = true) :
    Calls Try.prog 8 #[.slice A n c, .string s, .string u, .int .i64 keep] w fun e w' => e = .returned (.bool true) ∧ Below w.heap.size w w' :=
  renamed_any devOk12 A n c l s u keep w hrow hn (by omega) hok (wf_i64 hk)
end Go.Proofs.Ytfclgjdlkcmnfaa
namespace Go.Proofs.Ytfclgjdlkcmnfaa.deviceRenamed
open Go.ChangeShapes Go.WideShapes Go.ChangeAt Go.RowKit
open Go.ChangeMaps (open_string shut_string)
set_option linter.unusedVariables false

theorem own : ownKnob Try.prog.godebug = none := by kernel_rfl
theorem laidOut : laidOutB Try.prog = true := by kernel_rfl

set_option maxRecDepth 100000 in
theorem lifted (os : Os) (started : os.Started) (H : Type) (enc : TypeId × Value → H) :
    ReturnsInHanded {} Try.checked os 8 .any (Rows.deviceRenamedSpec.pre6 enc Try.prog Try.f8 Rows.deviceRenamedRow.domain false) (Rows.deviceRenamedSpec.post enc Try.prog Try.f8 false true false false) := by
  refine returnsInHanded_of_change_sized (C := Try.checked) own started (by kernel_rfl) Try.func8
    (ChangeSpec.witness6 (enc := enc) (C := Try.checked) false ⟨#[], #[.slice none 0 0, .string ⟨#[]⟩, .string ⟨#[]⟩, .int .i64 0], []⟩ 8 (by kernel_rfl) (by kernel_rfl) (by kernel_rfl) (by kernel_rfl)) ?_
  intro W base args ds gs before hval0 hW hcnd hsz0 _
  have hsz : (DataW.weightsEach Try.prog (Try.f8.params.toList ++ Rows.deviceRenamedSpec.plain.varTypes Try.prog) (ds ++ gs)).all (· ≤ reachBytes) = true := hsz0
  clear hsz0
  have hval : ∀ (j : Nat) t v, Try.f8.params[j]? = some t → args[j]? = some v → Value.okWide Try.prog W .any base t v := hval0
  have hW' := hW
  obtain ⟨p, q, hA0, hV, rfl, hfz, hnd⟩ := hW
  have hA : DataW.TrodAll enc Try.prog W 0 (fun _ => true) true Try.f8.params.toList args.toList ds p := hA0
  rw [Try.params8] at hA hval hsz
  obtain ⟨v0, vs0, d0, ds0, p0, q0, hargs, rfl, rfl, h0, r0⟩ := trodAll_cons hA
  obtain ⟨v1, vs1, d1, ds1, p1, q1, rfl, rfl, rfl, h1, r1⟩ := trodAll_cons r0
  obtain ⟨v2, vs2, d2, ds2, p2, q2, rfl, rfl, rfl, h2, r2⟩ := trodAll_cons r1
  obtain ⟨v3, vs3, d3, ds3, p3, q3, rfl, rfl, rfl, h3, r3⟩ := trodAll_cons r2
  obtain ⟨rfl, rfl, rfl⟩ := trodAll_nil r3
  obtain rfl : args = #[v0, v1, v2, v3] := by cases args; simp_all
  obtain ⟨rfl, rfl⟩ := trodVars_none hV
  obtain ⟨a0, l0, c0, rfl⟩ := okWide_slice Try.underlying42 (hval 0 42 v0 rfl rfl)
  have k0 := h0
  have lt0 : ∀ x ∈ p0, x.block < W.heap.size := by obtain ⟨m, hm⟩ := k0; exact DataW.trod_lt m _ _ _ hm
  obtain ⟨x0, w0, n0, o0, s0, r0d⟩ := ops_in h0 lt0 (fun n hn => of_decide_eq_true (List.all_eq_true.1 hsz _ (DataW.weights_mem_each (j := 0) (t := 42) (d := d0) rfl rfl n hn)))
  have m0 := reach_ops hsz 0 rfl rfl r0d
  obtain ⟨a1, rfl, rfl, rfl, w1⟩ := open_string Try.underlying9 (hval 1 9 v1 rfl rfl) h1
  obtain ⟨a2, rfl, rfl, rfl, w2⟩ := open_string Try.underlying9 (hval 2 9 v2 rfl rfl) h2
  obtain ⟨a3, rfl, rfl, rfl, w3⟩ := open_int Try.underlying3 (hval 3 3 v3 rfl rfl) h3
  clear hA0 hval0
  refine (walk_DeviceRenamed a0 l0 c0 x0 a1 a2 a3 W w0 n0 o0 s0 m0 w1 w2 w3).mono fun e W' ⟨he, bel⟩ => ?_
  subst he
  exact ⟨_, rfl, _, _, _, [], _, [], hW', trodAll_mk1 (shut_bool Try.underlying4 _), (trodAll_cons_mk (Below.trod laidOut (by kernel_rfl) (of_decide_eq_true (by kernel_rfl)) k0 bel lt0) (trodAll_cons_mk (shut_string Try.underlying9 w1) (trodAll_cons_mk (shut_string Try.underlying9 w2) (trodAll_cons_mk (shut_int Try.underlying3 w3) trodAll_mk0)))), rfl, bel.frame _, fun h => by cases h⟩

theorem over : Rows.deviceRenamedRow.holds Try.pinned (OpenSpec.ofChange Rows.deviceRenamedSpec) :=
  OpenClaim.holds_of_wide 8 Try.f8 rfl rfl rfl rfl rfl rfl rfl ⟨rfl, rfl, rfl, rfl, rfl⟩ rfl rfl rfl rfl rfl (by kernel_rfl) Try.func8 (by kernel_rfl)
    (of_decide_eq_true (by kernel_rfl)) (by unfold Func.isWrapper; first | (rw [if_pos (by decide +kernel)]; kernel_rfl) | (rw [if_neg (by decide +kernel)]; exact ⟨rfl, rfl⟩))
    (fun os started H enc _ => lifted os started H enc)

theorem proved : Rows.DeviceRenamedSaid := over
#print axioms proved
end Go.Proofs.Ytfclgjdlkcmnfaa.deviceRenamed
