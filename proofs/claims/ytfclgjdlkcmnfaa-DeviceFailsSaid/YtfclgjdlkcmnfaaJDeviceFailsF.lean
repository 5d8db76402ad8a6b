/-
  The statement DeviceFails of outstationlaw12 holds: for every input that can be read, the call returns true, and each argument reads as it did. No condition of its own.
-/
import Derived.Test.YtfclgjdlkcmnfaaJDeviceFailsC
import Derived.Test.YtfclgjdlkcmnfaaJDeviceFailsD
import Derived.Test.YtfclgjdlkcmnfaaJDeviceFailsE
import Derived.Test.YtfclgjdlkcmnfaaRows
import Derived.Test.YtfclgjdlkcmnfaaJDeviceFailsA
namespace Go.Proofs.Ytfclgjdlkcmnfaa
open Go.RowKit
set_option linter.unusedVariables false
set_option maxRecDepth 100000

/-- A device of the call's own, so many operations being left. -/
def FlTo (D : DevP) (g : Nat) (L : Int) (w wr : World) : Prop := ∃ G d, D wr G g d ∧ Dv.Ok d ∧ d.left = L ∧ 0 ≤ L ∧ L ≤ 100 ∧ (d.off = true → d.left = 0) ∧ (∀ b, G b → w.heap.size ≤ b) ∧ Below w.heap.size w wr
set_option maxHeartbeats 8000000 in
theorem fails_any {D : DevP} (X : DevOk D) (A : Option Addr) (n c : Nat) (l : List Opm) (r : Int) (w : World) (hr : VRow w w.heap.size A (flatV opC l)) (hn : l.length = n) (hb : n ≤ 1954687338763) (hok : ∀ m ∈ l, Opm.Ok w w.heap.size m) :
    Calls Try.prog 6 #[.slice A n c, .int .i64 r] w fun e w' => e = .returned (.bool true) ∧ Below w.heap.size w w' := by
  have HR := Lib.hid hr
  have HN := Lib.hid hn
  have HO := Lib.hid hok
  have HX := Lib.hid X
  clear hr hn hok X
  go_enter Try.func6, Try.ntmps6
  go_wp2_with fail
  refine (works12 HX.out w).mono ?_
  rintro e w1 ⟨rfl, b1⟩
  go_wp2_with fail
  refine (long_any A n c l w1 ((HR.out.below b1).more b1.size) HN.out (by omega)).mono ?_
  rintro e w' ⟨b, rfl, rfl, hlong⟩
  cases b with
  | true =>
    clear hlong
    go_wp2
    go_ret
    exact ⟨rfl, b1⟩
  | false =>
    have HL := Lib.hid (hlong rfl)
    clear hlong
    have HB1 := Lib.hid b1
    clear b1
    go_wp2_with fail
    refine (HX.out.newYes 16384 w1 (by omega)).mono ?_
    rintro e w2 ⟨g1, G1, rfl, h1, b2, n1⟩
    have HD1 := Lib.hid h1
    have HN1 : Hid (∀ b, G1 b → w.heap.size ≤ b) := Lib.hid (fun b hb => Nat.le_trans HB1.out.size (n1 b hb))
    have HB2 := Lib.hid (HB1.out.trans (b2.mono HB1.out.size))
    clear h1 n1 b2
    go_wp2_with fail
    refine (Pick_any r 100 w2 (by omega) (by omega)).mono ?_
    rintro e w3 ⟨rfl, rfl⟩
    have hp := pick_lt r 100 (by omega)
    obtain ⟨L0, hL0⟩ : ∃ L0 : Nat, pick r 100 = L0 := ⟨_, rfl⟩
    rw [hL0] at hp ⊢
    have hok0 := new_ok 16384 (by omega)
    have HAR := Lib.hid (HX.out.arm (L0 : Int) HD1.out hok0 ⟨by omega, by omega⟩)
    have HOA := Lib.hid (arm_ok hok0 (L0 : Int) (by omega))
    clear hok0 hL0
    go_wp2_with fail
    refine HAR.out.mono ?_
    rintro e w4 ⟨rfl, G2, hd2, f2, s2⟩
    have HI : Hid (FlTo D g1 (L0 : Int) w w4) := Lib.hid ⟨G2, armD (newD 16384) L0, hd2, HOA.out, by show (if (L0 : Int) < 0 then (-1 : Int) else L0) = L0; rw [if_neg (by omega)], by omega, by omega, fun e => (nomatch (show false = true from e)), fun b hb => (s2 b hb).elim (HN1.out b) (fun e => Nat.le_trans HB2.out.size e), f2.below HB2.out HB2.out.size HN1.out⟩
    clear hd2 f2 s2 HAR HOA
    go_wp2_with fail
    go_loopw [7, 8] (fun v i wr => ∃ k : Nat, k ≤ n ∧ i = .int .i64 k ∧ ∃ L : Int, v = .int .i64 L ∧ Hid (FlTo D g1 L w wr)) (fun _ i _ => n - (intOf i).toNat)
    case atStart => exact ⟨0, by omega, rfl, _, rfl, HI⟩
    case round =>
      obtain ⟨k, hk, rfl, L, rfl, hrel⟩ := hrel
      clear HI
      by_cases hlt : k < n
      · have hkl : k < l.length := by rw [HN.out]; exact hlt
        obtain ⟨G, d0, hd, ok, hleft, hL1, hL2, hoff, hg, bel⟩ := hrel.out
        obtain ⟨b, o, rfl, hbw, hc⟩ := HR.out.elem opC_len (by omega) hkl
        have hm := HO.out _ (List.getElem_mem hkl)
        have hsm := HL.out.2 k hkl
        obtain ⟨m, hmm⟩ : ∃ m, l[k] = m := ⟨_, rfl⟩
        rw [hmm] at hc hm hsm
        obtain ⟨ki, nm, tn, A', n', c', N', bs⟩ := m
        have HC := Lib.hid hc
        have hc0 := fun j v hv => (bel.cell (p := ⟨b, o + k * 5 + j, none⟩) hbw).trans (hc j v hv)
        have c0 := hc0 0 _ rfl
        have i3 : (0 : Int) ≤ (k : Int) := by omega
        simp only at c0
        rw [Nat.add_zero] at c0
        by_cases hk0 : ki < 0
        · clear hd ok hleft hL1 hL2 hoff hg bel hc hm hsm hmm hc0 HC
          go_wp2
          go_roundw
          case rel => exact ⟨k + 1, by omega, by go_num, L, rfl, hrel⟩
          case measure => simp [intOf]; omega
        by_cases hk4 : ki > 4
        · clear hd ok hleft hL1 hL2 hoff hg bel hc hm hsm hmm hc0 HC
          go_wp2
          go_roundw
          case rel => exact ⟨k + 1, by omega, by go_num, L, rfl, hrel⟩
          case measure => simp [intOf]; omega
        have hmr := hm.row
        have hml := hm.len
        have hle := hm.le
        have hcap := hm.cap
        have hmN := hm.N
        simp only at hmr hml hle hcap hmN hsm
        have HFB : Hid (Fails d0 (callD d0 ki nm tn bs N').1 (callD d0 ki nm tn bs N').2) := Lib.hid (call_fails (by omega) hoff (by omega) (by omega) nm tn bs N')
        have HOK := Lib.hid (call_ok ok ki nm tn hmr.1 hmN.2)
        have HG := Lib.hid hg
        have HBEL := Lib.hid bel
        have HD := Lib.hid hd
        have HOK0 := Lib.hid ok
        have HRUN : Hid (∀ W, Below w.heap.size w W → D W G g1 d0 → Calls Try.prog 29 #[.pointer (some ⟨g1, 0, none⟩), .agg #[.int .i64 ki, .string nm, .string tn, .slice A' n' c', .int .i64 N']] W (RunTo D G g1 (callD d0 ki nm tn bs N').1 (callD d0 ki nm tn bs N').2 W)) := Lib.hid (fun W hW hdW =>
          run_dev HX.out ki nm tn A' n' c' N' bs hdW ok ((hmr.below hW).more hW.size) hml hle hcap hsm.1 (fun a ha hp e => by
            obtain ⟨b', o', e1, e2, _⟩ := hmr.2 (by rw [hml]; exact hp)
            rw [ha] at e1
            injection e1 with e1
            subst e1
            have := hg _ e
            simp only at this
            omega) hmN)
        generalize (callD d0 ki nm tn bs N').1 = d at HRUN HOK HFB
        generalize (callD d0 ki nm tn bs N').2 = E at HRUN HFB
        obtain ⟨U, hU⟩ : ∃ U, usedD d0.fs = U := ⟨_, rfl⟩
        have HU := Lib.hid hU
        obtain ⟨NL, hNL⟩ : ∃ NL, namesD d0 = NL := ⟨_, rfl⟩
        have HNL := Lib.hid hNL
        obtain ⟨M, hM⟩ : ∃ M, NL.length = M := ⟨_, rfl⟩
        have HM := Lib.hid hM
        have hM64 : M ≤ 64 := by rw [← hM, ← hNL]; unfold namesD; rw [List.length_map]; exact ok.ln
        have HLE := Lib.hid hleft
        have HOF0 := Lib.hid hoff
        clear hd ok hg hrel hmm hc hm hsm hc0 hmr hml hle hcap hmN bel hU hNL hM hleft hoff
        go_wp2_with fail
        refine (HX.out.used HD.out HOK0.out).mono ?_
        rintro e wa ⟨rfl, p1⟩
        rw [HU.out]
        have HDa := Lib.hid (HX.out.dev.frm HD.out (Frm.of_below (F := fun _ => False) p1) (fun _ _ e => e))
        have HBa := Lib.hid (HBEL.out.trans (p1.mono HBEL.out.size))
        clear p1 c0
        go_wp2_with fail
        refine (HX.out.names HDa.out HOK0.out).mono ?_
        rintro e wb ⟨v1, rfl, own1, p2⟩
        rw [HNL.out] at own1
        have HDb := Lib.hid (HX.out.dev.frm HDa.out (Frm.of_below (F := fun _ => False) p2) (fun _ _ e => e))
        have HBb := Lib.hid (HBa.out.trans (p2.mono HBa.out.size))
        have hlta : ∀ b, G b → b < wa.heap.size := fun b hb => HX.out.dev.lt HDa.out b hb
        have hv1 : ∀ b, v1.ownBlock = some b → ¬ G b := fun b hb e => by have := hlta b e; have := (TkOwn.lt own1 b hb).1; omega
        obtain ⟨A1, q1, hv⟩ := own1.letters
        rw [HM.out] at hv
        subst hv
        have HO1 := Lib.hid own1
        have HV1 := Lib.hid hv1
        clear own1 hv1 hlta p2
        have hc1 := fun j v hv => (HBb.out.cell (p := ⟨b, o + k * 5 + j, none⟩) hbw).trans (HC.out j v hv)
        have c0 := hc1 0 _ rfl
        have c1 := hc1 1 _ rfl
        have c2 := hc1 2 _ rfl
        have c3 := hc1 3 _ rfl
        have c4 := hc1 4 _ rfl
        simp only at c0 c1 c2 c3 c4
        rw [Nat.add_zero] at c0
        clear hc1
        go_wp2_with fail
        refine (HRUN.out wb HBb.out HDb.out).mono ?_
        rintro e wc ⟨rfl, G', hd', fr, hs⟩
        have HDc := Lib.hid hd'
        have HBc := Lib.hid (fr.below HBb.out HBb.out.size HG.out)
        have HGc : Hid (∀ b, G' b → w.heap.size ≤ b) := Lib.hid (fun b hb => (hs b hb).elim (HG.out b) (fun e => Nat.le_trans HBb.out.size e))
        have HO2 := Lib.hid (HO1.out.frm fr (fun b hb => HV1.out b hb))
        clear c0 c1 c2 c3 c4 fr hs hd' HO1 HV1 HRUN HDa HDb HBa HBb HC
        have HUD0 : d.fs = d0.fs → usedD d.fs = U := fun e => by rw [e]; exact HU.out
        have HND0 : d.fs = d0.fs → namesD d = NL := fun e => by unfold namesD; rw [e]; exact HNL.out
        rcases HFB.out with ⟨hE, hf1, hf2, hf3⟩ | ⟨hE, hf1, hf2, hf3, hf4⟩ | ⟨hE, hf1, hf2, hf3⟩ | ⟨hE0, hE10, hE8, hf1, hf2, hf3, hf4⟩
        · subst hE
          clear HFB HUD0 HND0
          have hw1 : IntKind.i64.wrap (L - 1) = L - 1 := by rw [IntKind.wrap_i64]; omega
          have hw2 : ¬ L - 1 < 0 := by rw [HLE.out] at hf2; omega
          have HOF : Hid (d.off = false) := Lib.hid hf3
          have hl' : d.left = L - 1 := by rw [hf1, HLE.out]
          have HLF := Lib.hid hl'
          clear hf1 hf2 hf3 hl'
          go_wp2_with fail
          refine (HX.out.down HDc.out HOK.out).mono ?_
          rintro e wd ⟨rfl, p3⟩
          rw [HOF.out]
          have HEND : Hid (FlTo D g1 (L - 1) w wd) := Lib.hid ⟨G', d, HX.out.dev.frm HDc.out (Frm.of_below (F := fun _ => False) p3) (fun _ _ e => e), HOK.out, HLF.out, by omega, by omega, (fun e => by rw [HOF.out] at e; cases e), HGc.out, HBc.out.trans (p3.mono HBc.out.size)⟩
          clear p3
          go_wp2
          go_roundw
          case rel => exact ⟨k + 1, by omega, by go_num, L - 1, rfl, HEND⟩
          case measure => simp [intOf]; omega
        · subst hE
          have HUD : Hid (usedD d.fs = U) := Lib.hid (HUD0 hf1)
          have HND : Hid (namesD d = NL) := Lib.hid (HND0 hf1)
          have HOF : Hid (d.off = true) := Lib.hid hf4
          have HLF := Lib.hid hf2
          have HOI : Hid (d.off = true → d.left = 0) := Lib.hid (fun _ => by rw [hf2]; exact hf3)
          have hLz : L = 0 := by rw [← HLE.out]; exact hf3
          have hn1 : ¬ L < 0 := by omega
          have tL0 : (L != 0) = false := by rw [hLz]; rfl
          clear HUD0 HND0 hf1 hf2 hf3 hf4 hLz
          clear HFB
          go_wp2_with fail
          refine (HX.out.down HDc.out HOK.out).mono ?_
          rintro e wd ⟨rfl, p3⟩
          rw [HOF.out]
          have HDd := Lib.hid (HX.out.dev.frm HDc.out (Frm.of_below (F := fun _ => False) p3) (fun _ _ e => e))
          have HBd := Lib.hid (HBc.out.trans (p3.mono HBc.out.size))
          have HOd := Lib.hid (HO2.out.below p3 (Nat.le_refl _))
          clear p3 HDc HBc HO2
          go_wp2_with fail
          refine (HX.out.used HDd.out HOK.out).mono ?_
          rintro e we ⟨rfl, p4⟩
          rw [HUD.out]
          have HDe := Lib.hid (HX.out.dev.frm HDd.out (Frm.of_below (F := fun _ => False) p4) (fun _ _ e => e))
          have HBe := Lib.hid (HBd.out.trans (p4.mono HBd.out.size))
          have HOe := Lib.hid (HOd.out.below p4 (Nat.le_refl _))
          clear p4 HDd HBd HOd
          go_wp2_with fail
          refine (HX.out.names HDe.out HOK.out).mono ?_
          rintro e wf ⟨v6, rfl, own6, p5⟩
          rw [HND.out] at own6
          obtain ⟨A6, q6, hv6⟩ := own6.letters
          rw [HM.out] at hv6
          subst hv6
          obtain ⟨A6', q6', e6, row6, _, _⟩ := own6.own.row
          obtain ⟨A1', q1', e1, row1, _, _⟩ := (HOe.out.below p5 (Nat.le_refl _)).own.row
          rw [HM.out] at e6 e1
          injection e6 with e6A _ _
          injection e1 with e1A _ _
          subst e6A e1A
          have HDf := Lib.hid (HX.out.dev.frm HDe.out (Frm.of_below (F := fun _ => False) p5) (fun _ _ e => e))
          have HBf := Lib.hid (HBe.out.trans (p5.mono HBe.out.size))
          clear p5 HDe HBe HOe own6
          go_wp2_with fail
          refine (same_yes_tx _ _ M _ _ NL wf _ _ row6 row1 HM.out (by omega)).mono ?_
          rintro e wg ⟨rfl, m9, rfl⟩
          have HEND : Hid (FlTo D g1 L w (wf.drewN m9)) := Lib.hid ⟨G', d, HX.out.dev.frm HDf.out (Frm.of_below (F := fun _ => False) (bel_drewN wf m9)) (fun _ _ e => e), HOK.out, by rw [HLF.out, HLE.out], hL1, hL2, HOI.out, HGc.out, below_drewN HBf.out m9⟩
          clear row6 row1 HDf HBf
          go_wp2
          go_roundw
          case rel => exact ⟨k + 1, by omega, by go_num, L, rfl, HEND⟩
          case measure => simp [intOf]; omega
        · subst hE
          have HUD : Hid (usedD d.fs = U) := Lib.hid (HUD0 hf1)
          have HND : Hid (namesD d = NL) := Lib.hid (HND0 hf1)
          have HLF := Lib.hid hf2
          have HOI : Hid (d.off = true → d.left = 0) := Lib.hid (fun e => by rw [hf2]; exact HOF0.out (by rw [← hf3]; exact e))
          have hn1 : ¬ L < 0 := by omega
          clear HUD0 HND0 hf1 hf2 hf3
          cases hoo : d.off with
          | true =>
            have HOF : Hid (d.off = true) := Lib.hid hoo
            clear hoo
            clear HFB
            go_wp2_with fail
            refine (HX.out.down HDc.out HOK.out).mono ?_
            rintro e wd ⟨rfl, p3⟩
            rw [HOF.out]
            have HDd := Lib.hid (HX.out.dev.frm HDc.out (Frm.of_below (F := fun _ => False) p3) (fun _ _ e => e))
            have HBd := Lib.hid (HBc.out.trans (p3.mono HBc.out.size))
            have HOd := Lib.hid (HO2.out.below p3 (Nat.le_refl _))
            clear p3 HDc HBc HO2
            go_wp2_with fail
            refine (HX.out.used HDd.out HOK.out).mono ?_
            rintro e we ⟨rfl, p4⟩
            rw [HUD.out]
            have HDe := Lib.hid (HX.out.dev.frm HDd.out (Frm.of_below (F := fun _ => False) p4) (fun _ _ e => e))
            have HBe := Lib.hid (HBd.out.trans (p4.mono HBd.out.size))
            have HOe := Lib.hid (HOd.out.below p4 (Nat.le_refl _))
            clear p4 HDd HBd HOd
            go_wp2_with fail
            refine (HX.out.names HDe.out HOK.out).mono ?_
            rintro e wf ⟨v6, rfl, own6, p5⟩
            rw [HND.out] at own6
            obtain ⟨A6, q6, hv6⟩ := own6.letters
            rw [HM.out] at hv6
            subst hv6
            obtain ⟨A6', q6', e6, row6, _, _⟩ := own6.own.row
            obtain ⟨A1', q1', e1, row1, _, _⟩ := (HOe.out.below p5 (Nat.le_refl _)).own.row
            rw [HM.out] at e6 e1
            injection e6 with e6A _ _
            injection e1 with e1A _ _
            subst e6A e1A
            have HDf := Lib.hid (HX.out.dev.frm HDe.out (Frm.of_below (F := fun _ => False) p5) (fun _ _ e => e))
            have HBf := Lib.hid (HBe.out.trans (p5.mono HBe.out.size))
            clear p5 HDe HBe HOe own6
            go_wp2_with fail
            refine (same_yes_tx _ _ M _ _ NL wf _ _ row6 row1 HM.out (by omega)).mono ?_
            rintro e wg ⟨rfl, m9, rfl⟩
            have HEND : Hid (FlTo D g1 L w (wf.drewN m9)) := Lib.hid ⟨G', d, HX.out.dev.frm HDf.out (Frm.of_below (F := fun _ => False) (bel_drewN wf m9)) (fun _ _ e => e), HOK.out, by rw [HLF.out, HLE.out], hL1, hL2, HOI.out, HGc.out, below_drewN HBf.out m9⟩
            clear row6 row1 HDf HBf
            go_wp2
            go_roundw
            case rel => exact ⟨k + 1, by omega, by go_num, L, rfl, HEND⟩
            case measure => simp [intOf]; omega
          | false =>
            have HOF : Hid (d.off = false) := Lib.hid hoo
            clear hoo
            clear HFB
            go_wp2_with fail
            refine (HX.out.down HDc.out HOK.out).mono ?_
            rintro e wd ⟨rfl, p3⟩
            rw [HOF.out]
            have HDd := Lib.hid (HX.out.dev.frm HDc.out (Frm.of_below (F := fun _ => False) p3) (fun _ _ e => e))
            have HBd := Lib.hid (HBc.out.trans (p3.mono HBc.out.size))
            have HOd := Lib.hid (HO2.out.below p3 (Nat.le_refl _))
            clear p3 HDc HBc HO2
            go_wp2_with fail
            refine (HX.out.used HDd.out HOK.out).mono ?_
            rintro e we ⟨rfl, p4⟩
            rw [HUD.out]
            have HDe := Lib.hid (HX.out.dev.frm HDd.out (Frm.of_below (F := fun _ => False) p4) (fun _ _ e => e))
            have HBe := Lib.hid (HBd.out.trans (p4.mono HBd.out.size))
            have HOe := Lib.hid (HOd.out.below p4 (Nat.le_refl _))
            clear p4 HDd HBd HOd
            go_wp2_with fail
            refine (HX.out.names HDe.out HOK.out).mono ?_
            rintro e wf ⟨v6, rfl, own6, p5⟩
            rw [HND.out] at own6
            obtain ⟨A6, q6, hv6⟩ := own6.letters
            rw [HM.out] at hv6
            subst hv6
            obtain ⟨A6', q6', e6, row6, _, _⟩ := own6.own.row
            obtain ⟨A1', q1', e1, row1, _, _⟩ := (HOe.out.below p5 (Nat.le_refl _)).own.row
            rw [HM.out] at e6 e1
            injection e6 with e6A _ _
            injection e1 with e1A _ _
            subst e6A e1A
            have HDf := Lib.hid (HX.out.dev.frm HDe.out (Frm.of_below (F := fun _ => False) p5) (fun _ _ e => e))
            have HBf := Lib.hid (HBe.out.trans (p5.mono HBe.out.size))
            clear p5 HDe HBe HOe own6
            go_wp2_with fail
            refine (same_yes_tx _ _ M _ _ NL wf _ _ row6 row1 HM.out (by omega)).mono ?_
            rintro e wg ⟨rfl, m9, rfl⟩
            have HEND : Hid (FlTo D g1 L w (wf.drewN m9)) := Lib.hid ⟨G', d, HX.out.dev.frm HDf.out (Frm.of_below (F := fun _ => False) (bel_drewN wf m9)) (fun _ _ e => e), HOK.out, by rw [HLF.out, HLE.out], hL1, hL2, HOI.out, HGc.out, below_drewN HBf.out m9⟩
            clear row6 row1 HDf HBf
            go_wp2
            go_roundw
            case rel => exact ⟨k + 1, by omega, by go_num, L, rfl, HEND⟩
            case measure => simp [intOf]; omega
        · have HUD : Hid (usedD d.fs = U) := Lib.hid (HUD0 hf1)
          have HND : Hid (namesD d = NL) := Lib.hid (HND0 hf1)
          have HOF : Hid (d.off = false) := Lib.hid hf3
          have HLF := Lib.hid hf2
          have HOI : Hid (d.off = true → d.left = 0) := Lib.hid (fun e => by rw [hf3] at e; cases e)
          have hn1 : ¬ L < 0 := by omega
          have tE0 : (E == 0) = false := beq_false_of_ne hE0
          have tE1 : (E == 10) = false := beq_false_of_ne hE10
          have tN0 : (E != 0) = true := by simp [bne, tE0]
          clear HUD0 HND0 hf1 hf2 hf3 hf4 hE0 hE10 hE8
          clear HFB
          go_wp2_with fail
          refine (HX.out.down HDc.out HOK.out).mono ?_
          rintro e wd ⟨rfl, p3⟩
          rw [HOF.out]
          have HDd := Lib.hid (HX.out.dev.frm HDc.out (Frm.of_below (F := fun _ => False) p3) (fun _ _ e => e))
          have HBd := Lib.hid (HBc.out.trans (p3.mono HBc.out.size))
          have HOd := Lib.hid (HO2.out.below p3 (Nat.le_refl _))
          clear p3 HDc HBc HO2
          go_wp2_with fail
          refine (HX.out.used HDd.out HOK.out).mono ?_
          rintro e we ⟨rfl, p4⟩
          rw [HUD.out]
          have HDe := Lib.hid (HX.out.dev.frm HDd.out (Frm.of_below (F := fun _ => False) p4) (fun _ _ e => e))
          have HBe := Lib.hid (HBd.out.trans (p4.mono HBd.out.size))
          have HOe := Lib.hid (HOd.out.below p4 (Nat.le_refl _))
          clear p4 HDd HBd HOd
          go_wp2_with fail
          refine (HX.out.names HDe.out HOK.out).mono ?_
          rintro e wf ⟨v6, rfl, own6, p5⟩
          rw [HND.out] at own6
          obtain ⟨A6, q6, hv6⟩ := own6.letters
          rw [HM.out] at hv6
          subst hv6
          obtain ⟨A6', q6', e6, row6, _, _⟩ := own6.own.row
          obtain ⟨A1', q1', e1, row1, _, _⟩ := (HOe.out.below p5 (Nat.le_refl _)).own.row
          rw [HM.out] at e6 e1
          injection e6 with e6A _ _
          injection e1 with e1A _ _
          subst e6A e1A
          have HDf := Lib.hid (HX.out.dev.frm HDe.out (Frm.of_below (F := fun _ => False) p5) (fun _ _ e => e))
          have HBf := Lib.hid (HBe.out.trans (p5.mono HBe.out.size))
          clear p5 HDe HBe HOe own6
          go_wp2_with fail
          refine (same_yes_tx _ _ M _ _ NL wf _ _ row6 row1 HM.out (by omega)).mono ?_
          rintro e wg ⟨rfl, m9, rfl⟩
          have HEND : Hid (FlTo D g1 L w (wf.drewN m9)) := Lib.hid ⟨G', d, HX.out.dev.frm HDf.out (Frm.of_below (F := fun _ => False) (bel_drewN wf m9)) (fun _ _ e => e), HOK.out, by rw [HLF.out, HLE.out], hL1, hL2, HOI.out, HGc.out, below_drewN HBf.out m9⟩
          clear row6 row1 HDf HBf
          go_wp2
          go_roundw
          case rel => exact ⟨k + 1, by omega, by go_num, L, rfl, HEND⟩
          case measure => simp [intOf]; omega
      · obtain rfl : k = n := by omega
        obtain ⟨G, d, h1, h2, h3, h4, h5, h6, h7, bel⟩ := hrel.out
        clear h1 h2 h3 h6 h7
        go_wp2
        go_ret
        exact ⟨rfl, bel⟩
theorem walk_DeviceFails (A : Option Addr) (n c : Nat) (l : List Opm) (r : Int) (w : World) (hrow : VRow w w.heap.size A (flatV opC l)) (hn : l.length = n) (hok : ∀ m ∈ l, Opm.Ok w w.heap.size m) (hle : n ≤ c) (hb : c * 72 ≤ 140737488351232) (hr : (Lit.int .i64 r).wf = true) :
    Calls Try.prog 6 #[.slice A n c, .int .i64 r] w fun e w' => e = .returned (.bool true) ∧ Below w.heap.size w w' :=
  fails_any devOk12 A n c l r w hrow hn (by omega) hok
end Go.Proofs.Ytfclgjdlkcmnfaa
namespace Go.Proofs.Ytfclgjdlkcmnfaa.deviceFails
open Go.ChangeShapes Go.WideShapes Go.ChangeAt Go.RowKit
open Go.ChangeMaps (open_string shut_string)
set_option linter.unusedVariables false

theorem own : ownKnob Try.prog.godebug = none := by kernel_rfl
theorem laidOut : laidOutB Try.prog = true := by kernel_rfl

set_option maxRecDepth 100000 in
theorem lifted (os : Os) (started : os.Started) (H : Type) (enc : TypeId × Value → H) :
    ReturnsInHanded {} Try.checked os 6 .any (Rows.deviceFailsSpec.pre6 enc Try.prog Try.f6 Rows.deviceFailsRow.domain false) (Rows.deviceFailsSpec.post enc Try.prog Try.f6 false true false false) := by
  refine returnsInHanded_of_change_sized (C := Try.checked) own started (by kernel_rfl) Try.func6
    (ChangeSpec.witness6 (enc := enc) (C := Try.checked) false ⟨#[], #[.slice none 0 0, .int .i64 0], []⟩ 8 (by kernel_rfl) (by kernel_rfl) (by kernel_rfl) (by kernel_rfl)) ?_
  intro W base args ds gs before hval0 hW hcnd hsz0 _
  have hsz : (DataW.weightsEach Try.prog (Try.f6.params.toList ++ Rows.deviceFailsSpec.plain.varTypes Try.prog) (ds ++ gs)).all (· ≤ reachBytes) = true := hsz0
  clear hsz0
  have hval : ∀ (j : Nat) t v, Try.f6.params[j]? = some t → args[j]? = some v → Value.okWide Try.prog W .any base t v := hval0
  have hW' := hW
  obtain ⟨p, q, hA0, hV, rfl, hfz, hnd⟩ := hW
  have hA : DataW.TrodAll enc Try.prog W 0 (fun _ => true) true Try.f6.params.toList args.toList ds p := hA0
  rw [Try.params6] at hA hval hsz
  obtain ⟨v0, vs0, d0, ds0, p0, q0, hargs, rfl, rfl, h0, r0⟩ := trodAll_cons hA
  obtain ⟨v1, vs1, d1, ds1, p1, q1, rfl, rfl, rfl, h1, r1⟩ := trodAll_cons r0
  obtain ⟨rfl, rfl, rfl⟩ := trodAll_nil r1
  obtain rfl : args = #[v0, v1] := by cases args; simp_all
  obtain ⟨rfl, rfl⟩ := trodVars_none hV
  obtain ⟨a0, l0, c0, rfl⟩ := okWide_slice Try.underlying42 (hval 0 42 v0 rfl rfl)
  have k0 := h0
  have lt0 : ∀ x ∈ p0, x.block < W.heap.size := by obtain ⟨m, hm⟩ := k0; exact DataW.trod_lt m _ _ _ hm
  obtain ⟨x0, w0, n0, o0, s0, r0d⟩ := ops_in h0 lt0 (fun n hn => of_decide_eq_true (List.all_eq_true.1 hsz _ (DataW.weights_mem_each (j := 0) (t := 42) (d := d0) rfl rfl n hn)))
  have m0 := reach_ops hsz 0 rfl rfl r0d
  obtain ⟨a1, rfl, rfl, rfl, w1⟩ := open_int Try.underlying3 (hval 1 3 v1 rfl rfl) h1
  clear hA0 hval0
  refine (walk_DeviceFails a0 l0 c0 x0 a1 W w0 n0 o0 s0 m0 w1).mono fun e W' ⟨he, bel⟩ => ?_
  subst he
  exact ⟨_, rfl, _, _, _, [], _, [], hW', trodAll_mk1 (shut_bool Try.underlying4 _), (trodAll_cons_mk (Below.trod laidOut (by kernel_rfl) (of_decide_eq_true (by kernel_rfl)) k0 bel lt0) (trodAll_cons_mk (shut_int Try.underlying3 w1) trodAll_mk0)), rfl, bel.frame _, fun h => by cases h⟩

theorem over : Rows.deviceFailsRow.holds Try.pinned (OpenSpec.ofChange Rows.deviceFailsSpec) :=
  OpenClaim.holds_of_wide 6 Try.f6 rfl rfl rfl rfl rfl rfl rfl ⟨rfl, rfl, rfl, rfl, rfl⟩ rfl rfl rfl rfl rfl (by kernel_rfl) Try.func6 (by kernel_rfl)
    (of_decide_eq_true (by kernel_rfl)) (by unfold Func.isWrapper; first | (rw [if_pos (by decide +kernel)]; kernel_rfl) | (rw [if_neg (by decide +kernel)]; exact ⟨rfl, rfl⟩))
    (fun os started H enc _ => lifted os started H enc)

theorem proved : Rows.DeviceFailsSaid := over
#print axioms proved
end Go.Proofs.Ytfclgjdlkcmnfaa.deviceFails
