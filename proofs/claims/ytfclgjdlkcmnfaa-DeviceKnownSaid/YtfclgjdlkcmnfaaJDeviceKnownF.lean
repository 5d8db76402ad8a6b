/-
  Texts of the proof of DeviceKnown, joined.
-/
import Derived.Test.YtfclgjdlkcmnfaaJDeviceKnownE
import Derived.Test.YtfclgjdlkcmnfaaJDeviceKnownC
import Derived.Test.YtfclgjdlkcmnfaaProg
import Derived.Test.YtfclgjdlkcmnfaaJDeviceKnownA
import Derived.IntWalk
import Derived.WalkKit
import Derived.WalkSpells
import Derived.WalkLawsBesides
import Derived.Outline
import Derived.Lib.Hide
import Derived.Deep.QuietTactic
import Derived.BigQuiet
import Derived.Deep.Draws
namespace Go.Proofs.Ytfclgjdlkcmnfaa
open Go.RowKit
set_option linter.unusedVariables false
set_option maxRecDepth 100000

/-- A device that is the call's own, and of which room. -/
def RmTo (D : DevP) (g q : Nat) (w wr : World) : Prop := ∃ G d, D wr G g d ∧ Dv.Ok d ∧ d.room = q ∧ (∀ b, G b → w.heap.size ≤ b) ∧ Below w.heap.size w wr
/-- A device and its names. -/
def NmTo (D : DevP) (g : Nat) (G : Nat → Prop) (d : Dv) (w wr : World) (v : Value) (base : Nat) : Prop := D wr G g d ∧ (∀ b, G b → w.heap.size ≤ b) ∧ Below w.heap.size w wr ∧ TkOwn wr base v (namesD d)
theorem NmTo.below {D : DevP} (X : Dev D) {g : Nat} {G : Nat → Prop} {d : Dv} {w wr W : World} {v : Value} {base : Nat} (h : NmTo D g G d w wr v base) (hb : Below wr.heap.size wr W) : NmTo D g G d w W v base :=
  ⟨X.frm h.1 (Frm.of_below (F := fun _ => False) hb) (fun _ _ e => e), h.2.1, h.2.2.1.trans (hb.mono h.2.2.1.size), h.2.2.2.below hb (Nat.le_refl _)⟩
set_option maxHeartbeats 8000000 in
theorem room_any {D : DevP} (X : DevOk D) (r : Int) (A : Option Addr) (n c : Nat) (l : List Opm) (w : World) (hr : VRow w w.heap.size A (flatV opC l)) (hn : l.length = n) (hb : n ≤ 1954687338763) (hok : ∀ m ∈ l, Opm.Ok w w.heap.size m) :
    Calls Try.prog 7 #[.int .i64 r, .slice A n c] w fun e w' => e = .returned (.bool true) ∧ Below w.heap.size w w' := by
  have HR := Lib.hid hr
  have HN := Lib.hid hn
  have HO := Lib.hid hok
  have HX := Lib.hid X
  clear hr hn hok X
  by_cases hrr : r < 0 ∨ 16777216 < r
  · have HRR := Lib.hid hrr
    clear hrr
    go_enter Try.func7, Try.ntmps7
    go_wp2_with fail
    refine (HX.out.newNo r w HRR.out).mono ?_
    rintro e w1 ⟨rfl, b1⟩
    go_wp2_with fail
    refine (long_any A n c l w1 ((HR.out.below b1).more b1.size) HN.out (by omega)).mono ?_
    rintro e w' ⟨b, rfl, rfl, hlong⟩
    clear hlong
    cases b
    all_goals
      go_wp2_with fail
      refine (works12 HX.out w1).mono ?_
      rintro e w3 ⟨rfl, b3⟩
      go_wp2
      go_ret
      exact ⟨rfl, b1.trans (b3.mono b1.size)⟩
  obtain ⟨q, rfl⟩ := Int.eq_ofNat_of_zero_le (show 0 ≤ r by omega)
  have hq : q ≤ 16777216 := by omega
  clear hrr
  go_enter Try.func7, Try.ntmps7
  go_wp2_with fail
  refine (HX.out.newYes q w hq).mono ?_
  rintro e w1 ⟨g1, G1, rfl, h1, b1, n1⟩
  have HI : Hid (RmTo D g1 q w w1) := Lib.hid ⟨G1, newD q, h1, new_ok q hq, rfl, n1, b1⟩
  have HB1 := Lib.hid b1
  clear h1 n1
  go_wp2_with fail
  refine (long_any A n c l w1 ((HR.out.below b1).more b1.size) HN.out (by omega)).mono ?_
  rintro e w' ⟨b, rfl, rfl, hlong⟩
  clear b1
  cases b with
  | true =>
    clear hlong
    go_wp2_with fail
    refine (works12 HX.out w1).mono ?_
    rintro e w3 ⟨rfl, b3⟩
    go_wp2
    go_ret
    exact ⟨rfl, HB1.out.trans (b3.mono HB1.out.size)⟩
  | false =>
    have HL := Lib.hid (hlong rfl)
    clear hlong
    go_wp2_with fail
    go_loopw [7] (fun i wr => ∃ k : Nat, k ≤ n ∧ i = .int .i64 k ∧ Hid (RmTo D g1 q w wr)) (fun i _ => n - (intOf i).toNat)
    case atStart => exact ⟨0, by omega, rfl, HI⟩
    case round =>
      obtain ⟨k, hk, rfl, hrel⟩ := hrel
      obtain ⟨G, d0, hd, ok, hroom, hg, bel⟩ := hrel.out
      by_cases hlt : k < n
      · have hkl : k < l.length := by rw [HN.out]; exact hlt
        obtain ⟨b, o, rfl, hbw, hc⟩ := HR.out.elem opC_len (by omega) hkl
        have hm := HO.out _ (List.getElem_mem hkl)
        have hsm := HL.out.2 k hkl
        obtain ⟨m, hmm⟩ : ∃ m, l[k] = m := ⟨_, rfl⟩
        rw [hmm] at hc hm hsm
        obtain ⟨ki, nm, tn, A', n', c', N', bs⟩ := m
        have hc0 := fun j v hv => (bel.cell (p := ⟨b, o + k * 5 + j, none⟩) hbw).trans (hc j v hv)
        have c0 := hc0 0 _ rfl
        have c1 := hc0 1 _ rfl
        have c2 := hc0 2 _ rfl
        have c3 := hc0 3 _ rfl
        have c4 := hc0 4 _ rfl
        have hmr := hm.row
        have hml := hm.len
        simp only at c0 c1 c2 c3 c4 hmr hml
        rw [Nat.add_zero] at c0
        have HRUN := Lib.hid (run_dev HX.out ki nm tn A' n' c' N' bs hd ok ((hmr.below bel).more bel.size) hml hm.le hm.cap hsm.1 (fun a ha hp e => by
          obtain ⟨b', o', e1, e2, _⟩ := hmr.2 (by rw [hml]; exact hp)
          rw [ha] at e1
          injection e1 with e1
          subst e1
          have := hg _ e
          simp only at this
          omega) hm.N)
        have HOK := Lib.hid (call_ok ok ki nm tn hmr.1 hm.N.2)
        have HRM : Hid ((callD d0 ki nm tn bs N').1.room = q) := Lib.hid (by rw [callD_room]; exact hroom)
        generalize (callD d0 ki nm tn bs N').1 = d at HRUN HOK HRM
        generalize (callD d0 ki nm tn bs N').2 = E at HRUN
        have HG := Lib.hid hg
        have HBEL := Lib.hid bel
        have hus := HOK.out.us
        have hrm := HOK.out.rm
        have hln := HOK.out.ln
        rw [HRM.out] at hus
        obtain ⟨U, hU⟩ : ∃ U, usedD d.fs = U := ⟨_, rfl⟩
        have HU := Lib.hid hU
        rw [hU] at hus
        have hnl : (namesD d).length = d.fs.length := by unfold namesD; rw [List.length_map]
        obtain ⟨M, hM⟩ : ∃ M, (namesD d).length = M := ⟨_, rfl⟩
        have HM := Lib.hid hM
        have HMF : Hid (d.fs.length = M) := Lib.hid (hnl.symm.trans hM)
        have hM64 : M ≤ 64 := by rw [← hM, hnl]; exact hln
        have i3 : (0 : Int) ≤ (k : Int) := by omega
        clear hd ok hg hrel hmm hc hm hsm hc0 hmr hml hroom bel hU hrm hln hnl hM
        go_wp2_with fail
        refine HRUN.out.mono ?_
        rintro e wa ⟨rfl, G', hd', fr, hs⟩
        have bela : Below w.heap.size w wa := fr.below HBEL.out HBEL.out.size HG.out
        have hg' : ∀ b, G' b → w.heap.size ≤ b := fun b hb => (hs b hb).elim (HG.out b) (fun e => Nat.le_trans HBEL.out.size e)
        have HD := Lib.hid hd'
        have HG' := Lib.hid hg'
        have HBA := Lib.hid bela
        clear c0 c1 c2 c3 c4 fr hs hd' hg' bela
        go_wp2_with fail
        refine (HX.out.names HD.out HOK.out).mono ?_
        rintro e wb ⟨v, rfl, own, b2⟩
        obtain ⟨A1, q1, hv⟩ := own.letters
        rw [HM.out] at hv
        subst hv
        have HIN : Hid (NmTo D g1 G' d w wb (.slice A1 M q1) wa.heap.size) := Lib.hid ⟨HX.out.dev.frm HD.out (Frm.of_below (F := fun _ => False) b2) (fun _ _ e => e), HG'.out, HBA.out.trans (b2.mono HBA.out.size), own⟩
        clear own b2
        go_wp2_with fail
        go_loopw [9, 10] (fun u j wi => ∃ i : Nat, i ≤ M ∧ j = .int .i64 i ∧ u = .int .i64 (usedD (d.fs.take i) : Nat) ∧ Hid (NmTo D g1 G' d w wi (.slice A1 M q1) wa.heap.size)) (fun _ j _ => M - (intOf j).toNat)
        case atStart => exact ⟨0, by omega, rfl, rfl, HIN⟩
        case round =>
          obtain ⟨i, hi, rfl, rfl, hrl⟩ := hrel
          by_cases hit : i < M
          · have hin : i < (namesD d).length := by rw [HM.out]; exact hit
            have hif : i < d.fs.length := by rw [HMF.out]; exact hit
            have hnf : (namesD d)[i] = d.fs[i].nm := by simp [namesD]
            obtain ⟨b', cap', e, hb1, hbW, _, _, e0, _⟩ := hrl.out.2.2.2.own.elem hin
            injection e with eA en ec
            subst eA ec
            clear en HIN HI
            rw [hnf] at e0
            have hrd := read_there hif
            have hrb := read_bs HOK.out hif
            have hst := used_take_succ d.fs hif
            have hle := used_take_le d.fs (i + 1)
            have hwf := (HOK.out.fl _ (List.getElem_mem hif)).wf
            have HPR : Hid (∀ p, i = p + 1 → ∃ (hp : p < d.fs.length), (∀ W, TkOwn W wa.heap.size (.slice (some ⟨b', 0, none⟩) M q1) (namesD d) → W.cell? ⟨b', p, none⟩ = some (.string d.fs[p].nm)) ∧ lessN d.fs[p].nm d.fs[i].nm = true) := Lib.hid (fun p hp => by
              have hpf : p < d.fs.length := by omega
              refine ⟨hpf, fun W hW => ?_, List.pairwise_iff_getElem.1 HOK.out.up p i hpf hif (by omega)⟩
              have hpn : p < (namesD d).length := by omega
              obtain ⟨b2, cap2, e2, _, _, _, _, e02, _⟩ := hW.own.elem hpn
              injection e2 with eA2 _ _
              injection eA2 with eA2
              injection eA2 with eA2
              subst eA2
              rw [e02]
              simp [namesD])
            obtain ⟨s1, hs1⟩ : ∃ s1, d.fs[i].nm = s1 := ⟨_, rfl⟩
            obtain ⟨L, hL⟩ : ∃ L, d.fs[i].bs = L := ⟨_, rfl⟩
            rw [hs1] at e0 hrd hrb
            rw [hL] at hst hwf hrb
            obtain ⟨N1, hN1⟩ : ∃ N1, L.length = N1 := ⟨_, rfl⟩
            rw [hN1] at hst
            rw [hst, HU.out] at hle
            obtain ⟨u, hu⟩ : ∃ u, usedD (d.fs.take i) = u := ⟨_, rfl⟩
            have HST : Hid (usedD (d.fs.take (i + 1)) = u + N1) := Lib.hid (by rw [hst, hu])
            rw [hu] at hle ⊢
            have HRD := Lib.hid hrd
            have HRB := Lib.hid hrb
            have HN1 := Lib.hid hN1
            have HS1 := Lib.hid hs1
            have hi3 : (0 : Int) ≤ (i : Int) := by omega
            have ht3 : (i : Int) < (M : Int) := by omega
            clear hrd hrb hst hwf hnf hs1 hL hN1 hu hb1
            go_wp2_with fail
            refine (HX.out.read s1 hrl.out.1 HOK.out).mono ?_
            rintro e wc ⟨v3, rfl, own3, p1⟩
            rw [HRD.out]
            rw [HRB.out] at own3
            obtain ⟨A3, c3, rfl, _, _⟩ := own3.val
            rw [HN1.out]
            have HIN2 : Hid (NmTo D g1 G' d w wc (.slice (some ⟨b', 0, none⟩) M q1) wa.heap.size) := Lib.hid ⟨HX.out.dev.frm hrl.out.1 (Frm.of_below (F := fun _ => False) p1) (fun _ _ e => e), hrl.out.2.1, hrl.out.2.2.1.trans (p1.mono hrl.out.2.2.1.size), hrl.out.2.2.2.below p1 (Nat.le_refl _)⟩
            have HIN3 : Hid (NmTo D g1 G' d w wc.drew (.slice (some ⟨b', 0, none⟩) M q1) wa.heap.size) := Lib.hid (HIN2.out.below HX.out.dev (below_drew (Below.refl _ _)))
            have e1 := (p1.cell (p := ⟨b', i, none⟩) hbW).trans e0
            clear e0 own3 p1
            cases i with
            | zero =>
              go_wp2_with fail
              go_region
              go_wp2
              go_roundw
              case rel => exact ⟨1, by omega, by go_num, by rw [HST.out]; go_num, HIN3⟩
              case measure => simp [intOf]; omega
            | succ p =>
              obtain ⟨hpf, hcp, hless⟩ := HPR.out p rfl
              have e2 := hcp wc HIN2.out.2.2.2
              rw [HS1.out] at hless
              obtain ⟨s0, hs0⟩ : ∃ s0, d.fs[p].nm = s0 := ⟨_, rfl⟩
              rw [hs0] at e2 hless
              obtain ⟨x1, x2, x3⟩ := lessN_not hless
              unfold lessN at hless x1
              unfold sameN at x2 x3
              have y1 : IntKind.i64.wrap (((p + 1 : Nat) : Int) - 1) = (p : Int) := by rw [IntKind.wrap_i64]; omega
              have y2 : (((p + 1 : Nat) : Int) > 0) := by omega
              have y3 : (p : Int) < (M : Int) := by omega
              have y4 : (0 : Int) ≤ (p : Int) := by omega
              have y5 : IntKind.i64.wrap ((p : Int) + 1 - 1) = (p : Int) := by rw [IntKind.wrap_i64]; omega
              have y6 : (p : Int) + 1 < (M : Int) := by omega
              have y7 : (p : Int) + 1 > 0 := by omega
              clear HPR hcp hs0 hpf
              go_wp2_with fail
              go_region
              go_wp2
              go_roundw
              case rel => exact ⟨p + 1 + 1, by omega, by go_num, by rw [HST.out]; go_num, HIN3⟩
              case measure => simp [intOf]; omega
          · obtain rfl : i = M := by omega
            have HTW : Hid (usedD (d.fs.take i) = U) := Lib.hid (by rw [List.take_of_length_le (by rw [HMF.out]; exact Nat.le_refl _), HU.out])
            rw [HTW.out]
            obtain ⟨hx1, hx2, hx3, hx4⟩ := hrl.out
            have HX1 := Lib.hid hx1
            have HX3 := Lib.hid hx3
            have HX2 := Lib.hid hx2
            clear HIN HI hrl hx1 hx2 hx3 hx4
            have z1 : IntKind.i64.wrap ((q : Int) - (U : Int)) = (q : Int) - (U : Int) := by rw [IntKind.wrap_i64]; omega
            have z2 : ¬ (U : Int) > (q : Int) := by omega
            have z3 : ¬ (i : Int) > 64 := by omega
            go_wp2_with fail
            refine (HX.out.used HX1.out HOK.out).mono ?_
            rintro e wx ⟨rfl, p1⟩
            rw [HU.out]
            have D2 := Lib.hid (HX.out.dev.frm HX1.out (Frm.of_below (F := fun _ => False) p1) (fun _ _ e => e))
            have B2 := HX3.out.trans (p1.mono HX3.out.size)
            clear p1
            go_wp2_with fail
            refine (HX.out.free D2.out HOK.out).mono ?_
            rintro e wy ⟨rfl, p2⟩
            rw [HU.out, HRM.out]
            have HEND : Hid (RmTo D g1 q w wy) := Lib.hid ⟨G', d, HX.out.dev.frm D2.out (Frm.of_below (F := fun _ => False) p2) (fun _ _ e => e), HOK.out, HRM.out, HX2.out, B2.trans (p2.mono B2.size)⟩
            clear p2 B2
            go_wp2
            go_roundw
            case rel => exact ⟨k + 1, by omega, by go_num, HEND⟩
            case measure => simp [intOf]; omega
      · obtain rfl : k = n := by omega
        clear HI
        go_wp2_with fail
        refine (works12 HX.out wr).mono ?_
        rintro e w3 ⟨rfl, b3⟩
        go_wp2
        go_ret
        exact ⟨rfl, bel.trans (b3.mono bel.size)⟩
theorem walk_DeviceRoom (r : Int) (A : Option Addr) (n c : Nat) (l : List Opm) (w : World) (hr : (Lit.int .i64 r).wf = true) (hrow : VRow w w.heap.size A (flatV opC l)) (hn : l.length = n) (hok : ∀ m ∈ l, Opm.Ok w w.heap.size m) (hle : n ≤ c) (hb : c * 72 ≤ 140737488351232) :
    Calls Try.prog 7 #[.int .i64 r, .slice A n c] w fun e w' => e = .returned (.bool true) ∧ Below w.heap.size w w' :=
  room_any devOk12 r A n c l w hrow hn (by omega) hok
end Go.Proofs.Ytfclgjdlkcmnfaa
namespace Go.Proofs.Ytfclgjdlkcmnfaa
open Go.RowKit
set_option linter.unusedVariables false
set_option maxRecDepth 100000

/-- What a call may come to, so many operations being left. -/
def Fails (d d' : Dv) (E : Int) : Prop :=
  (E = 0 ∧ d'.left = d.left - 1 ∧ 0 < d.left ∧ d'.off = false) ∨ (E = 10 ∧ d'.fs = d.fs ∧ d'.left = d.left ∧ d.left = 0 ∧ d'.off = true) ∨ (E = 8 ∧ d'.fs = d.fs ∧ d'.left = d.left ∧ d'.off = d.off) ∨ (E ≠ 0 ∧ E ≠ 10 ∧ E ≠ 8 ∧ d'.fs = d.fs ∧ d'.left = d.left ∧ d'.off = false ∧ d.off = false)
theorem opD_fails {d : Dv} (hl : 0 ≤ d.left) (ho : d.off = false) (l : List Fl) : Fails d (opD d { spentD d with fs := l }).1 (opD d { spentD d with fs := l }).2 := by
  unfold opD
  by_cases h : d.left = 0
  · rw [if_pos h]
    exact .inr (.inl ⟨rfl, rfl, rfl, h, rfl⟩)
  · rw [if_neg h]
    have hp : 0 < d.left := by omega
    refine .inl ⟨rfl, ?_, hp, ?_⟩
    · show (spentD d).left = _
      unfold spentD
      rw [if_pos hp]
    · show (spentD d).off = _
      unfold spentD
      rw [if_pos hp]
      exact ho
theorem fails_off {d : Dv} (ho : d.off = true) (h0 : d.left = 0) : Fails d d 10 := .inr (.inl ⟨rfl, rfl, rfl, h0, ho⟩)
theorem fails_name (d : Dv) : Fails d d 8 := .inr (.inr (.inl ⟨rfl, rfl, rfl, rfl⟩))
theorem fails_no {d : Dv} (ho : d.off = false) (E : Int) (h0 : E ≠ 0) (h1 : E ≠ 10) (h2 : E ≠ 8) : Fails d d E := .inr (.inr (.inr ⟨h0, h1, h2, rfl, rfl, ho, ho⟩))
theorem call_fails {d : Dv} (hl : 0 ≤ d.left) (ho : d.off = true → d.left = 0) {ki : Int} (h0 : 0 ≤ ki) (h4 : ki ≤ 4) (nm tn : ByteArray) (bs : List Int) (N : Int) : Fails d (callD d ki nm tn bs N).1 (callD d ki nm tn bs N).2 := by
  have off : ¬ d.off = true → d.off = false := fun h => by simpa using h
  unfold callD
  split
  · unfold appD
    split
    · exact fails_name d
    split
    · rename_i h; exact fails_off h (ho h)
    rename_i hoff
    split
    · exact fails_no (off hoff) 9 (by decide) (by decide) (by decide)
    · exact opD_fails hl (off hoff) _
  split
  · unfold syncD
    split
    · rename_i h; exact fails_off h (ho h)
    rename_i hoff
    split
    · exact fails_no (off hoff) 6 (by decide) (by decide) (by decide)
    · exact opD_fails hl (off hoff) _
  split
  · unfold truncD
    split
    · rename_i h; exact fails_off h (ho h)
    rename_i hoff
    split
    · exact fails_no (off hoff) 6 (by decide) (by decide) (by decide)
    split
    · exact fails_no (off hoff) 3 (by decide) (by decide) (by decide)
    · exact opD_fails hl (off hoff) _
  split
  · unfold renD
    split
    · exact fails_name d
    split
    · rename_i h; exact fails_off h (ho h)
    rename_i hoff
    split
    · exact fails_no (off hoff) 6 (by decide) (by decide) (by decide)
    · exact opD_fails hl (off hoff) _
  split
  · unfold remD
    split
    · rename_i h; exact fails_off h (ho h)
    rename_i hoff
    split
    · exact fails_no (off hoff) 6 (by decide) (by decide) (by decide)
    · exact opD_fails hl (off hoff) _
  · omega
end Go.Proofs.Ytfclgjdlkcmnfaa
namespace Go.Proofs.Ytfclgjdlkcmnfaa
open Go.RowKit
set_option linter.unusedVariables false

def pick (k : Int) (n : Nat) : Nat := (if k.tmod n < 0 then k.tmod n + n else k.tmod n).toNat
theorem pick_lt (k : Int) (n : Nat) (h : 1 ≤ n) : pick k n < n := by
  have h1 := Int.tmod_lt_of_pos k (show (0 : Int) < n by omega)
  have h2 : -(n : Int) < k.tmod n := by
    have := Int.lt_tmod_of_pos k (show (0 : Int) < n by omega)
    omega
  unfold pick
  split <;> omega
theorem pick_eq (k : Int) (n : Nat) (h : 1 ≤ n) : ((pick k n : Nat) : Int) = if k.tmod n < 0 then k.tmod n + n else k.tmod n := by
  have h2 : -(n : Int) < k.tmod n := by
    have := Int.lt_tmod_of_pos k (show (0 : Int) < n by omega)
    omega
  unfold pick
  split <;> omega
theorem Pick_any (k : Int) (n : Nat) (w : World) (h1 : 1 ≤ n) (hn : n ≤ 140737488355328) :
    Calls Try.prog 24 #[.int .i64 k, .int .i64 n] w fun e w' => e = .returned (.int .i64 (pick k n : Nat)) ∧ w = w' := by
  have hp := pick_eq k n h1
  have hlt := Int.tmod_lt_of_pos k (show (0 : Int) < n by omega)
  have hgt : -(n : Int) < k.tmod n := by
    have := Int.lt_tmod_of_pos k (show (0 : Int) < n by omega)
    omega
  obtain ⟨p, hpp⟩ : ∃ p : Int, Hid (((pick k n : Nat) : Int) = p) := ⟨_, Lib.hid rfl⟩
  rw [hpp.out] at hp ⊢
  have HP := Lib.hid hp
  have t1 : ¬ ((n : Int) < 1) := by omega
  clear hp hpp
  by_cases hneg : k.tmod n < 0
  · have hq : Hid (p = k.tmod n + n) := Lib.hid (by rw [HP.out, if_pos hneg])
    go_enter Try.func24, Try.ntmps24
    go_wp2
    go_ret
    exact ⟨by rw [hq.out]; rfl, rfl⟩
  · have hq : Hid (p = k.tmod n) := Lib.hid (by rw [HP.out, if_neg hneg])
    go_enter Try.func24, Try.ntmps24
    go_wp2
    go_ret
    exact ⟨by rw [hq.out]; rfl, rfl⟩
end Go.Proofs.Ytfclgjdlkcmnfaa
namespace Go.Proofs.Ytfclgjdlkcmnfaa
open Go.RowKit
set_option linter.unusedVariables false
set_option maxRecDepth 100000

/-- A device of the call's own, so many operations being left. -/
def FlTo (D : DevP) (g : Nat) (L : Int) (w wr : World) : Prop := ∃ G d, D wr G g d ∧ Dv.Ok d ∧ d.left = L ∧ 0 ≤ L ∧ L ≤ 100 ∧ (d.off = true → d.left = 0) ∧ (∀ b, G b → w.heap.size ≤ b) ∧ Below w.heap.size w wr
set_option maxHeartbeats 8000000 in
theorem fails_any {D : DevP} (X : DevOk D) (A : Option Addr) (n c : Nat) (l : List Opm) (r : Int) (w : World) (hr : VRow w w.heap.size A (flatV opC l)) (hn : l.length = n) (hb : n ≤ 1954687338763) (hok : ∀ m ∈ l, Opm.Ok w w.heap.size m) :
    Calls Try.prog 6 #[.slice A n c, .int .i64 r] w fun e w' => e = .returned (.bool true) ∧ Below w.heap.size w w' := by
  have HR := Lib.hid hr
  have HN := Lib.hid hn
  have HO := Lib.hid hok
  have HX := Lib.hid X
  clear hr hn hok X
  go_enter Try.func6, Try.ntmps6
  go_wp2_with fail
  refine (works12 HX.out w).mono ?_
  rintro e w1 ⟨rfl, b1⟩
  go_wp2_with fail
  refine (long_any A n c l w1 ((HR.out.below b1).more b1.size) HN.out (by omega)).mono ?_
  rintro e w' ⟨b, rfl, rfl, hlong⟩
  cases b with
  | true =>
    clear hlong
    go_wp2
    go_ret
    exact ⟨rfl, b1⟩
  | false =>
    have HL := Lib.hid (hlong rfl)
    clear hlong
    have HB1 := Lib.hid b1
    clear b1
    go_wp2_with fail
    refine (HX.out.newYes 16384 w1 (by omega)).mono ?_
    rintro e w2 ⟨g1, G1, rfl, h1, b2, n1⟩
    have HD1 := Lib.hid h1
    have HN1 : Hid (∀ b, G1 b → w.heap.size ≤ b) := Lib.hid (fun b hb => Nat.le_trans HB1.out.size (n1 b hb))
    have HB2 := Lib.hid (HB1.out.trans (b2.mono HB1.out.size))
    clear h1 n1 b2
    go_wp2_with fail
    refine (Pick_any r 100 w2 (by omega) (by omega)).mono ?_
    rintro e w3 ⟨rfl, rfl⟩
    have hp := pick_lt r 100 (by omega)
    obtain ⟨L0, hL0⟩ : ∃ L0 : Nat, pick r 100 = L0 := ⟨_, rfl⟩
    rw [hL0] at hp ⊢
    have hok0 := new_ok 16384 (by omega)
    have HAR := Lib.hid (HX.out.arm (L0 : Int) HD1.out hok0 ⟨by omega, by omega⟩)
    have HOA := Lib.hid (arm_ok hok0 (L0 : Int) (by omega))
    clear hok0 hL0
    go_wp2_with fail
    refine HAR.out.mono ?_
    rintro e w4 ⟨rfl, G2, hd2, f2, s2⟩
    have HI : Hid (FlTo D g1 (L0 : Int) w w4) := Lib.hid ⟨G2, armD (newD 16384) L0, hd2, HOA.out, by show (if (L0 : Int) < 0 then (-1 : Int) else L0) = L0; rw [if_neg (by omega)], by omega, by omega, fun e => (nomatch (show false = true from e)), fun b hb => (s2 b hb).elim (HN1.out b) (fun e => Nat.le_trans HB2.out.size e), f2.below HB2.out HB2.out.size HN1.out⟩
    clear hd2 f2 s2 HAR HOA
    go_wp2_with fail
    go_loopw [7, 8] (fun v i wr => ∃ k : Nat, k ≤ n ∧ i = .int .i64 k ∧ ∃ L : Int, v = .int .i64 L ∧ Hid (FlTo D g1 L w wr)) (fun _ i _ => n - (intOf i).toNat)
    case atStart => exact ⟨0, by omega, rfl, _, rfl, HI⟩
    case round =>
      obtain ⟨k, hk, rfl, L, rfl, hrel⟩ := hrel
      clear HI
      by_cases hlt : k < n
      · have hkl : k < l.length := by rw [HN.out]; exact hlt
        obtain ⟨G, d0, hd, ok, hleft, hL1, hL2, hoff, hg, bel⟩ := hrel.out
        obtain ⟨b, o, rfl, hbw, hc⟩ := HR.out.elem opC_len (by omega) hkl
        have hm := HO.out _ (List.getElem_mem hkl)
        have hsm := HL.out.2 k hkl
        obtain ⟨m, hmm⟩ : ∃ m, l[k] = m := ⟨_, rfl⟩
        rw [hmm] at hc hm hsm
        obtain ⟨ki, nm, tn, A', n', c', N', bs⟩ := m
        have HC := Lib.hid hc
        have hc0 := fun j v hv => (bel.cell (p := ⟨b, o + k * 5 + j, none⟩) hbw).trans (hc j v hv)
        have c0 := hc0 0 _ rfl
        have i3 : (0 : Int) ≤ (k : Int) := by omega
        simp only at c0
        rw [Nat.add_zero] at c0
        by_cases hk0 : ki < 0
        · clear hd ok hleft hL1 hL2 hoff hg bel hc hm hsm hmm hc0 HC
          go_wp2
          go_roundw
          case rel => exact ⟨k + 1, by omega, by go_num, L, rfl, hrel⟩
          case measure => simp [intOf]; omega
        by_cases hk4 : ki > 4
        · clear hd ok hleft hL1 hL2 hoff hg bel hc hm hsm hmm hc0 HC
          go_wp2
          go_roundw
          case rel => exact ⟨k + 1, by omega, by go_num, L, rfl, hrel⟩
          case measure => simp [intOf]; omega
        have hmr := hm.row
        have hml := hm.len
        have hle := hm.le
        have hcap := hm.cap
        have hmN := hm.N
        simp only at hmr hml hle hcap hmN hsm
        have HFB : Hid (Fails d0 (callD d0 ki nm tn bs N').1 (callD d0 ki nm tn bs N').2) := Lib.hid (call_fails (by omega) hoff (by omega) (by omega) nm tn bs N')
        have HOK := Lib.hid (call_ok ok ki nm tn hmr.1 hmN.2)
        have HG := Lib.hid hg
        have HBEL := Lib.hid bel
        have HD := Lib.hid hd
        have HOK0 := Lib.hid ok
        have HRUN : Hid (∀ W, Below w.heap.size w W → D W G g1 d0 → Calls Try.prog 29 #[.pointer (some ⟨g1, 0, none⟩), .agg #[.int .i64 ki, .string nm, .string tn, .slice A' n' c', .int .i64 N']] W (RunTo D G g1 (callD d0 ki nm tn bs N').1 (callD d0 ki nm tn bs N').2 W)) := Lib.hid (fun W hW hdW =>
          run_dev HX.out ki nm tn A' n' c' N' bs hdW ok ((hmr.below hW).more hW.size) hml hle hcap hsm.1 (fun a ha hp e => by
            obtain ⟨b', o', e1, e2, _⟩ := hmr.2 (by rw [hml]; exact hp)
            rw [ha] at e1
            injection e1 with e1
            subst e1
            have := hg _ e
            simp only at this
            omega) hmN)
        generalize (callD d0 ki nm tn bs N').1 = d at HRUN HOK HFB
        generalize (callD d0 ki nm tn bs N').2 = E at HRUN HFB
        obtain ⟨U, hU⟩ : ∃ U, usedD d0.fs = U := ⟨_, rfl⟩
        have HU := Lib.hid hU
        obtain ⟨NL, hNL⟩ : ∃ NL, namesD d0 = NL := ⟨_, rfl⟩
        have HNL := Lib.hid hNL
        obtain ⟨M, hM⟩ : ∃ M, NL.length = M := ⟨_, rfl⟩
        have HM := Lib.hid hM
        have hM64 : M ≤ 64 := by rw [← hM, ← hNL]; unfold namesD; rw [List.length_map]; exact ok.ln
        have HLE := Lib.hid hleft
        have HOF0 := Lib.hid hoff
        clear hd ok hg hrel hmm hc hm hsm hc0 hmr hml hle hcap hmN bel hU hNL hM hleft hoff
        go_wp2_with fail
        refine (HX.out.used HD.out HOK0.out).mono ?_
        rintro e wa ⟨rfl, p1⟩
        rw [HU.out]
        have HDa := Lib.hid (HX.out.dev.frm HD.out (Frm.of_below (F := fun _ => False) p1) (fun _ _ e => e))
        have HBa := Lib.hid (HBEL.out.trans (p1.mono HBEL.out.size))
        clear p1 c0
        go_wp2_with fail
        refine (HX.out.names HDa.out HOK0.out).mono ?_
        rintro e wb ⟨v1, rfl, own1, p2⟩
        rw [HNL.out] at own1
        have HDb := Lib.hid (HX.out.dev.frm HDa.out (Frm.of_below (F := fun _ => False) p2) (fun _ _ e => e))
        have HBb := Lib.hid (HBa.out.trans (p2.mono HBa.out.size))
        have hlta : ∀ b, G b → b < wa.heap.size := fun b hb => HX.out.dev.lt HDa.out b hb
        have hv1 : ∀ b, v1.ownBlock = some b → ¬ G b := fun b hb e => by have := hlta b e; have := (TkOwn.lt own1 b hb).1; omega
        obtain ⟨A1, q1, hv⟩ := own1.letters
        rw [HM.out] at hv
        subst hv
        have HO1 := Lib.hid own1
        have HV1 := Lib.hid hv1
        clear own1 hv1 hlta p2
        have hc1 := fun j v hv => (HBb.out.cell (p := ⟨b, o + k * 5 + j, none⟩) hbw).trans (HC.out j v hv)
        have c0 := hc1 0 _ rfl
        have c1 := hc1 1 _ rfl
        have c2 := hc1 2 _ rfl
        have c3 := hc1 3 _ rfl
        have c4 := hc1 4 _ rfl
        simp only at c0 c1 c2 c3 c4
        rw [Nat.add_zero] at c0
        clear hc1
        go_wp2_with fail
        refine (HRUN.out wb HBb.out HDb.out).mono ?_
        rintro e wc ⟨rfl, G', hd', fr, hs⟩
        have HDc := Lib.hid hd'
        have HBc := Lib.hid (fr.below HBb.out HBb.out.size HG.out)
        have HGc : Hid (∀ b, G' b → w.heap.size ≤ b) := Lib.hid (fun b hb => (hs b hb).elim (HG.out b) (fun e => Nat.le_trans HBb.out.size e))
        have HO2 := Lib.hid (HO1.out.frm fr (fun b hb => HV1.out b hb))
        clear c0 c1 c2 c3 c4 fr hs hd' HO1 HV1 HRUN HDa HDb HBa HBb HC
        have HUD0 : d.fs = d0.fs → usedD d.fs = U := fun e => by rw [e]; exact HU.out
        have HND0 : d.fs = d0.fs → namesD d = NL := fun e => by unfold namesD; rw [e]; exact HNL.out
        rcases HFB.out with ⟨hE, hf1, hf2, hf3⟩ | ⟨hE, hf1, hf2, hf3, hf4⟩ | ⟨hE, hf1, hf2, hf3⟩ | ⟨hE0, hE10, hE8, hf1, hf2, hf3, hf4⟩
        · subst hE
          clear HFB HUD0 HND0
          have hw1 : IntKind.i64.wrap (L - 1) = L - 1 := by rw [IntKind.wrap_i64]; omega
          have hw2 : ¬ L - 1 < 0 := by rw [HLE.out] at hf2; omega
          have HOF : Hid (d.off = false) := Lib.hid hf3
          have hl' : d.left = L - 1 := by rw [hf1, HLE.out]
          have HLF := Lib.hid hl'
          clear hf1 hf2 hf3 hl'
          go_wp2_with fail
          refine (HX.out.down HDc.out HOK.out).mono ?_
          rintro e wd ⟨rfl, p3⟩
          rw [HOF.out]
          have HEND : Hid (FlTo D g1 (L - 1) w wd) := Lib.hid ⟨G', d, HX.out.dev.frm HDc.out (Frm.of_below (F := fun _ => False) p3) (fun _ _ e => e), HOK.out, HLF.out, by omega, by omega, (fun e => by rw [HOF.out] at e; cases e), HGc.out, HBc.out.trans (p3.mono HBc.out.size)⟩
          clear p3
          go_wp2
          go_roundw
          case rel => exact ⟨k + 1, by omega, by go_num, L - 1, rfl, HEND⟩
          case measure => simp [intOf]; omega
        · subst hE
          have HUD : Hid (usedD d.fs = U) := Lib.hid (HUD0 hf1)
          have HND : Hid (namesD d = NL) := Lib.hid (HND0 hf1)
          have HOF : Hid (d.off = true) := Lib.hid hf4
          have HLF := Lib.hid hf2
          have HOI : Hid (d.off = true → d.left = 0) := Lib.hid (fun _ => by rw [hf2]; exact hf3)
          have hLz : L = 0 := by rw [← HLE.out]; exact hf3
          have hn1 : ¬ L < 0 := by omega
          have tL0 : (L != 0) = false := by rw [hLz]; rfl
          clear HUD0 HND0 hf1 hf2 hf3 hf4 hLz
          clear HFB
          go_wp2_with fail
          refine (HX.out.down HDc.out HOK.out).mono ?_
          rintro e wd ⟨rfl, p3⟩
          rw [HOF.out]
          have HDd := Lib.hid (HX.out.dev.frm HDc.out (Frm.of_below (F := fun _ => False) p3) (fun _ _ e => e))
          have HBd := Lib.hid (HBc.out.trans (p3.mono HBc.out.size))
          have HOd := Lib.hid (HO2.out.below p3 (Nat.le_refl _))
          clear p3 HDc HBc HO2
          go_wp2_with fail
          refine (HX.out.used HDd.out HOK.out).mono ?_
          rintro e we ⟨rfl, p4⟩
          rw [HUD.out]
          have HDe := Lib.hid (HX.out.dev.frm HDd.out (Frm.of_below (F := fun _ => False) p4) (fun _ _ e => e))
          have HBe := Lib.hid (HBd.out.trans (p4.mono HBd.out.size))
          have HOe := Lib.hid (HOd.out.below p4 (Nat.le_refl _))
          clear p4 HDd HBd HOd
          go_wp2_with fail
          refine (HX.out.names HDe.out HOK.out).mono ?_
          rintro e wf ⟨v6, rfl, own6, p5⟩
          rw [HND.out] at own6
          obtain ⟨A6, q6, hv6⟩ := own6.letters
          rw [HM.out] at hv6
          subst hv6
          obtain ⟨A6', q6', e6, row6, _, _⟩ := own6.own.row
          obtain ⟨A1', q1', e1, row1, _, _⟩ := (HOe.out.below p5 (Nat.le_refl _)).own.row
          rw [HM.out] at e6 e1
          injection e6 with e6A _ _
          injection e1 with e1A _ _
          subst e6A e1A
          have HDf := Lib.hid (HX.out.dev.frm HDe.out (Frm.of_below (F := fun _ => False) p5) (fun _ _ e => e))
          have HBf := Lib.hid (HBe.out.trans (p5.mono HBe.out.size))
          clear p5 HDe HBe HOe own6
          go_wp2_with fail
          refine (same_yes_tx _ _ M _ _ NL wf _ _ row6 row1 HM.out (by omega)).mono ?_
          rintro e wg ⟨rfl, m9, rfl⟩
          have HEND : Hid (FlTo D g1 L w (wf.drewN m9)) := Lib.hid ⟨G', d, HX.out.dev.frm HDf.out (Frm.of_below (F := fun _ => False) (bel_drewN wf m9)) (fun _ _ e => e), HOK.out, by rw [HLF.out, HLE.out], hL1, hL2, HOI.out, HGc.out, below_drewN HBf.out m9⟩
          clear row6 row1 HDf HBf
          go_wp2
          go_roundw
          case rel => exact ⟨k + 1, by omega, by go_num, L, rfl, HEND⟩
          case measure => simp [intOf]; omega
        · subst hE
          have HUD : Hid (usedD d.fs = U) := Lib.hid (HUD0 hf1)
          have HND : Hid (namesD d = NL) := Lib.hid (HND0 hf1)
          have HLF := Lib.hid hf2
          have HOI : Hid (d.off = true → d.left = 0) := Lib.hid (fun e => by rw [hf2]; exact HOF0.out (by rw [← hf3]; exact e))
          have hn1 : ¬ L < 0 := by omega
          clear HUD0 HND0 hf1 hf2 hf3
          cases hoo : d.off with
          | true =>
            have HOF : Hid (d.off = true) := Lib.hid hoo
            clear hoo
            clear HFB
            go_wp2_with fail
            refine (HX.out.down HDc.out HOK.out).mono ?_
            rintro e wd ⟨rfl, p3⟩
            rw [HOF.out]
            have HDd := Lib.hid (HX.out.dev.frm HDc.out (Frm.of_below (F := fun _ => False) p3) (fun _ _ e => e))
            have HBd := Lib.hid (HBc.out.trans (p3.mono HBc.out.size))
            have HOd := Lib.hid (HO2.out.below p3 (Nat.le_refl _))
            clear p3 HDc HBc HO2
            go_wp2_with fail
            refine (HX.out.used HDd.out HOK.out).mono ?_
            rintro e we ⟨rfl, p4⟩
            rw [HUD.out]
            have HDe := Lib.hid (HX.out.dev.frm HDd.out (Frm.of_below (F := fun _ => False) p4) (fun _ _ e => e))
            have HBe := Lib.hid (HBd.out.trans (p4.mono HBd.out.size))
            have HOe := Lib.hid (HOd.out.below p4 (Nat.le_refl _))
            clear p4 HDd HBd HOd
            go_wp2_with fail
            refine (HX.out.names HDe.out HOK.out).mono ?_
            rintro e wf ⟨v6, rfl, own6, p5⟩
            rw [HND.out] at own6
            obtain ⟨A6, q6, hv6⟩ := own6.letters
            rw [HM.out] at hv6
            subst hv6
            obtain ⟨A6', q6', e6, row6, _, _⟩ := own6.own.row
            obtain ⟨A1', q1', e1, row1, _, _⟩ := (HOe.out.below p5 (Nat.le_refl _)).own.row
            rw [HM.out] at e6 e1
            injection e6 with e6A _ _
            injection e1 with e1A _ _
            subst e6A e1A
            have HDf := Lib.hid (HX.out.dev.frm HDe.out (Frm.of_below (F := fun _ => False) p5) (fun _ _ e => e))
            have HBf := Lib.hid (HBe.out.trans (p5.mono HBe.out.size))
            clear p5 HDe HBe HOe own6
            go_wp2_with fail
            refine (same_yes_tx _ _ M _ _ NL wf _ _ row6 row1 HM.out (by omega)).mono ?_
            rintro e wg ⟨rfl, m9, rfl⟩
            have HEND : Hid (FlTo D g1 L w (wf.drewN m9)) := Lib.hid ⟨G', d, HX.out.dev.frm HDf.out (Frm.of_below (F := fun _ => False) (bel_drewN wf m9)) (fun _ _ e => e), HOK.out, by rw [HLF.out, HLE.out], hL1, hL2, HOI.out, HGc.out, below_drewN HBf.out m9⟩
            clear row6 row1 HDf HBf
            go_wp2
            go_roundw
            case rel => exact ⟨k + 1, by omega, by go_num, L, rfl, HEND⟩
            case measure => simp [intOf]; omega
          | false =>
            have HOF : Hid (d.off = false) := Lib.hid hoo
            clear hoo
            clear HFB
            go_wp2_with fail
            refine (HX.out.down HDc.out HOK.out).mono ?_
            rintro e wd ⟨rfl, p3⟩
            rw [HOF.out]
            have HDd := Lib.hid (HX.out.dev.frm HDc.out (Frm.of_below (F := fun _ => False) p3) (fun _ _ e => e))
            have HBd := Lib.hid (HBc.out.trans (p3.mono HBc.out.size))
            have HOd := Lib.hid (HO2.out.below p3 (Nat.le_refl _))
            clear p3 HDc HBc HO2
            go_wp2_with fail
            refine (HX.out.used HDd.out HOK.out).mono ?_
            rintro e we ⟨rfl, p4⟩
            rw [HUD.out]
            have HDe := Lib.hid (HX.out.dev.frm HDd.out (Frm.of_below (F := fun _ => False) p4) (fun _ _ e => e))
            have HBe := Lib.hid (HBd.out.trans (p4.mono HBd.out.size))
            have HOe := Lib.hid (HOd.out.below p4 (Nat.le_refl _))
            clear p4 HDd HBd HOd
            go_wp2_with fail
            refine (HX.out.names HDe.out HOK.out).mono ?_
            rintro e wf ⟨v6, rfl, own6, p5⟩
            rw [HND.out] at own6
            obtain ⟨A6, q6, hv6⟩ := own6.letters
            rw [HM.out] at hv6
            subst hv6
            obtain ⟨A6', q6', e6, row6, _, _⟩ := own6.own.row
            obtain ⟨A1', q1', e1, row1, _, _⟩ := (HOe.out.below p5 (Nat.le_refl _)).own.row
            rw [HM.out] at e6 e1
            injection e6 with e6A _ _
            injection e1 with e1A _ _
            subst e6A e1A
            have HDf := Lib.hid (HX.out.dev.frm HDe.out (Frm.of_below (F := fun _ => False) p5) (fun _ _ e => e))
            have HBf := Lib.hid (HBe.out.trans (p5.mono HBe.out.size))
            clear p5 HDe HBe HOe own6
            go_wp2_with fail
            refine (same_yes_tx _ _ M _ _ NL wf _ _ row6 row1 HM.out (by omega)).mono ?_
            rintro e wg ⟨rfl, m9, rfl⟩
            have HEND : Hid (FlTo D g1 L w (wf.drewN m9)) := Lib.hid ⟨G', d, HX.out.dev.frm HDf.out (Frm.of_below (F := fun _ => False) (bel_drewN wf m9)) (fun _ _ e => e), HOK.out, by rw [HLF.out, HLE.out], hL1, hL2, HOI.out, HGc.out, below_drewN HBf.out m9⟩
            clear row6 row1 HDf HBf
            go_wp2
            go_roundw
            case rel => exact ⟨k + 1, by omega, by go_num, L, rfl, HEND⟩
            case measure => simp [intOf]; omega
        · have HUD : Hid (usedD d.fs = U) := Lib.hid (HUD0 hf1)
          have HND : Hid (namesD d = NL) := Lib.hid (HND0 hf1)
          have HOF : Hid (d.off = false) := Lib.hid hf3
          have HLF := Lib.hid hf2
          have HOI : Hid (d.off = true → d.left = 0) := Lib.hid (fun e => by rw [hf3] at e; cases e)
          have hn1 : ¬ L < 0 := by omega
          have tE0 : (E == 0) = false := beq_false_of_ne hE0
          have tE1 : (E == 10) = false := beq_false_of_ne hE10
          have tN0 : (E != 0) = true := by simp [bne, tE0]
          clear HUD0 HND0 hf1 hf2 hf3 hf4 hE0 hE10 hE8
          clear HFB
          go_wp2_with fail
          refine (HX.out.down HDc.out HOK.out).mono ?_
          rintro e wd ⟨rfl, p3⟩
          rw [HOF.out]
          have HDd := Lib.hid (HX.out.dev.frm HDc.out (Frm.of_below (F := fun _ => False) p3) (fun _ _ e => e))
          have HBd := Lib.hid (HBc.out.trans (p3.mono HBc.out.size))
          have HOd := Lib.hid (HO2.out.below p3 (Nat.le_refl _))
          clear p3 HDc HBc HO2
          go_wp2_with fail
          refine (HX.out.used HDd.out HOK.out).mono ?_
          rintro e we ⟨rfl, p4⟩
          rw [HUD.out]
          have HDe := Lib.hid (HX.out.dev.frm HDd.out (Frm.of_below (F := fun _ => False) p4) (fun _ _ e => e))
          have HBe := Lib.hid (HBd.out.trans (p4.mono HBd.out.size))
          have HOe := Lib.hid (HOd.out.below p4 (Nat.le_refl _))
          clear p4 HDd HBd HOd
          go_wp2_with fail
          refine (HX.out.names HDe.out HOK.out).mono ?_
          rintro e wf ⟨v6, rfl, own6, p5⟩
          rw [HND.out] at own6
          obtain ⟨A6, q6, hv6⟩ := own6.letters
          rw [HM.out] at hv6
          subst hv6
          obtain ⟨A6', q6', e6, row6, _, _⟩ := own6.own.row
          obtain ⟨A1', q1', e1, row1, _, _⟩ := (HOe.out.below p5 (Nat.le_refl _)).own.row
          rw [HM.out] at e6 e1
          injection e6 with e6A _ _
          injection e1 with e1A _ _
          subst e6A e1A
          have HDf := Lib.hid (HX.out.dev.frm HDe.out (Frm.of_below (F := fun _ => False) p5) (fun _ _ e => e))
          have HBf := Lib.hid (HBe.out.trans (p5.mono HBe.out.size))
          clear p5 HDe HBe HOe own6
          go_wp2_with fail
          refine (same_yes_tx _ _ M _ _ NL wf _ _ row6 row1 HM.out (by omega)).mono ?_
          rintro e wg ⟨rfl, m9, rfl⟩
          have HEND : Hid (FlTo D g1 L w (wf.drewN m9)) := Lib.hid ⟨G', d, HX.out.dev.frm HDf.out (Frm.of_below (F := fun _ => False) (bel_drewN wf m9)) (fun _ _ e => e), HOK.out, by rw [HLF.out, HLE.out], hL1, hL2, HOI.out, HGc.out, below_drewN HBf.out m9⟩
          clear row6 row1 HDf HBf
          go_wp2
          go_roundw
          case rel => exact ⟨k + 1, by omega, by go_num, L, rfl, HEND⟩
          case measure => simp [intOf]; omega
      · obtain rfl : k = n := by omega
        obtain ⟨G, d, h1, h2, h3, h4, h5, h6, h7, bel⟩ := hrel.out
        clear h1 h2 h3 h6 h7
        go_wp2
        go_ret
        exact ⟨rfl, bel⟩
theorem walk_DeviceFails (A : Option Addr) (n c : Nat) (l : List Opm) (r : Int) (w : World) (hrow : VRow w w.heap.size A (flatV opC l)) (hn : l.length = n) (hok : ∀ m ∈ l, Opm.Ok w w.heap.size m) (hle : n ≤ c) (hb : c * 72 ≤ 140737488351232) (hr : (Lit.int .i64 r).wf = true) :
    Calls Try.prog 6 #[.slice A n c, .int .i64 r] w fun e w' => e = .returned (.bool true) ∧ Below w.heap.size w w' :=
  fails_any devOk12 A n c l r w hrow hn (by omega) hok
end Go.Proofs.Ytfclgjdlkcmnfaa
namespace Go.Proofs.Ytfclgjdlkcmnfaa
open Go.RowKit
set_option linter.unusedVariables false
set_option maxRecDepth 100000

def LastIs (d : Dv) (s : ByteArray) (all : List Int) (sy : Nat) : Prop := (d.fs = [] ∧ all = [] ∧ sy = 0) ∨ d.fs = [⟨s, all, sy⟩]
theorem find_one (s : ByteArray) (b : List Int) (y : Nat) : findD [⟨s, b, y⟩] s = some 0 := findD_at 0 (by simp) (sameN_refl s) (fun j hj => absurd hj (by omega))
theorem opD_E (d d' : Dv) : ((opD d d').2 = 0 → (opD d d').1 = d') ∧ ((opD d d').2 ≠ 0 → (opD d d').1.fs = d.fs) := by
  unfold opD
  split
  · exact ⟨fun h => absurd (show (10 : Int) = 0 from h) (by decide), fun _ => rfl⟩
  · exact ⟨fun _ => rfl, fun h => absurd rfl h⟩
theorem LastIs.fs {d d' : Dv} {s : ByteArray} {all : List Int} {sy : Nat} (h : LastIs d s all sy) (e : d'.fs = d.fs) : LastIs d' s all sy := by
  unfold LastIs
  rw [e]; exact h
theorem last_app {d : Dv} {s : ByteArray} {all : List Int} {sy : Nat} (h : LastIs d s all sy) (b : List Int) : ((appD d s b).2 = 0 → LastIs (appD d s b).1 s (all ++ b) sy) ∧ ((appD d s b).2 ≠ 0 → LastIs (appD d s b).1 s all sy) := by
  unfold appD
  split
  · exact ⟨fun e => absurd (show (8 : Int) = 0 from e) (by decide), fun _ => h⟩
  split
  · exact ⟨fun e => absurd (show (10 : Int) = 0 from e) (by decide), fun _ => h⟩
  split
  · exact ⟨fun e => absurd (show (9 : Int) = 0 from e) (by decide), fun _ => h⟩
  · obtain ⟨h1, h2⟩ := opD_E d { spentD d with fs := addF d.fs s b }
    refine ⟨fun e => ?_, fun e => h.fs (h2 e)⟩
    rw [h1 e]
    right
    show addF d.fs s b = _
    rcases h with ⟨hf, rfl, rfl⟩ | hf
    · rw [hf]; rfl
    · rw [hf]
      unfold addF
      rw [find_one]
      rfl
theorem last_sync {d : Dv} {s : ByteArray} {all : List Int} {sy : Nat} (h : LastIs d s all sy) : ((syncD d s).2 = 0 → LastIs (syncD d s).1 s all all.length) ∧ ((syncD d s).2 ≠ 0 → LastIs (syncD d s).1 s all sy) := by
  unfold syncD
  split
  · exact ⟨fun e => absurd (show (10 : Int) = 0 from e) (by decide), fun _ => h⟩
  rcases h with ⟨hf, rfl, rfl⟩ | hf
  · rw [hf]
    exact ⟨fun e => absurd (show (6 : Int) = 0 from e) (by decide), fun _ => .inl ⟨hf, rfl, rfl⟩⟩
  · simp only [hf, find_one]
    obtain ⟨h1, h2⟩ := opD_E d { spentD d with fs := [(⟨s, all, sy⟩ : Fl)].modify 0 (fun f => { f with sy := f.bs.length }) }
    refine ⟨fun e => ?_, fun e => LastIs.fs (Or.inr hf) (h2 e)⟩
    rw [h1 e]
    right
    rfl
theorem last_read {d : Dv} {s : ByteArray} {all : List Int} {sy : Nat} (h : LastIs d s all sy) : (readE d s = 6 ∧ all = [] ∧ namesD d = []) ∨ (readE d s = 0 ∧ readL d s = all ∧ d.fs = [⟨s, all, sy⟩]) := by
  rcases h with ⟨hf, rfl, rfl⟩ | hf
  · left
    unfold readE namesD
    rw [hf]
    exact ⟨rfl, rfl, rfl⟩
  · right
    unfold readE readL
    rw [hf, find_one]
    exact ⟨rfl, rfl, rfl⟩
theorem last_wake {d : Dv} {s : ByteArray} {all : List Int} {sy : Nat} (h : d.fs = [⟨s, all, sy⟩]) (keep : Int) {N : Nat} (hN : N = sy + min keep.toNat (all.length - sy)) : (wakeD d keep).fs = [⟨s, all.take N, N⟩] ∧ readE (wakeD d keep) s = 0 ∧ readL (wakeD d keep) s = all.take N := by
  have e : (wakeD d keep).fs = [⟨s, all.take N, N⟩] := by
    show d.fs.map (wakeF keep) = _
    rw [h, hN]
    rfl
  refine ⟨e, ?_, ?_⟩
  · unfold readE; rw [e, find_one]
  · unfold readL; rw [e, find_one]; rfl
end Go.Proofs.Ytfclgjdlkcmnfaa
namespace Go.Proofs.Ytfclgjdlkcmnfaa
open Go.ChangeShapes Go.WideShapes Go.ChangeAt Go.RowKit Go.Deep
set_option linter.unusedVariables false
set_option maxRecDepth 100000

/-- A list of bytes in a list of such, and what it has. -/
structure Lm where
  (A : Option Addr) (n c : Nat) (bs : List Int)
def lmC (m : Lm) : List Value := [.slice m.A m.n m.c]
theorem lmC_len (m : Lm) : (lmC m).length = 1 := rfl
structure Lm.Ok (w : World) (B : Nat) (m : Lm) : Prop where
  row : Row .u8 w B m.A m.bs
  len : m.bs.length = m.n
  le : m.n ≤ m.c
  cap : m.c ≤ 140737488355328

section
variable {H : Type} {enc : TypeId × Value → H} {W : World}
theorem lm_cells {fuel : Nat} {cs : List Value} {x : DataW H × List MemPlace} (h : DataW.trod enc Try.prog W 0 (fun _ => true) true fuel 30 cs = some x) (hl : cs.length = 1) (lt : ∀ z ∈ x.2, z.block < W.heap.size) (hwt : ∀ n ∈ x.1.weights Try.prog 30, n ≤ reachBytes) :
    ∃ m : Lm, cs = lmC m ∧ Lm.Ok W W.heap.size m := by
  obtain ⟨d, p⟩ := x
  match cs, hl with
  | [c0], _ =>
  obtain ⟨A, m, c, rfl⟩ := slice_form Try.underlying30 h
  obtain ⟨l, r3, hl3, hle, hcap⟩ := row_in Try.underlying30 Try.underlying5 (by kernel_rfl) ⟨fuel, h⟩ lt
  refine ⟨⟨A, m, c, l⟩, rfl, r3, hl3, hle, ?_⟩
  rcases hcap with h0 | ⟨el, sp, hD, hle2⟩
  · show c ≤ _; omega
  · have hmem : (el.length + sp.length) * Try.prog.bytesOf 5 ∈ d.weights Try.prog 30 := by
      rw [hD]
      simp [DataW.weights, Try.underlying30]
    have := hwt _ hmem
    rw [show Try.prog.bytesOf 5 = 1 by kernel_rfl] at this
    simp only [reachBytes] at this
    show c ≤ _
    omega
/-- A list of lists of bytes. -/
theorem lists_in {a : Option Addr} {len cap : Nat} {d : DataW H} {p : List MemPlace}
    (h : DataW.Trod enc Try.prog W 0 (fun _ => true) true 50 (.slice a len cap) d p) (lt : ∀ x ∈ p, x.block < W.heap.size) (hwt : ∀ n ∈ d.weights Try.prog 50, n ≤ reachBytes) :
    ∃ l : List Lm, VRow W W.heap.size a (flatV lmC l) ∧ l.length = len ∧ (∀ m ∈ l, Lm.Ok W W.heap.size m) ∧ len ≤ cap ∧ (cap = 0 ∨ ∃ el sp, d = .slice el sp ∧ cap ≤ el.length + sp.length) := by
  have s0 : Try.prog.cellsOf 30 = 1 := by kernel_rfl
  obtain ⟨fuel, hf⟩ := h
  rcases open_slice Try.underlying50 hf with ⟨hcs, _⟩ | ⟨x, l, c, m, n, D, Pl, hcs, _, hl, hm, hmm, hx, hi⟩
  · injection hcs with hcs
    injection hcs with e1 e2 e3
    subst e1 e2 e3
    exact ⟨[], VRow.nil _ _ _, rfl, fun _ h => absurd h (by simp), Nat.le_refl _, .inl rfl⟩
  · injection hcs with hcs
    injection hcs with e1 e2 e3
    subst e1 e2 e3
    have hm2 : m = cap := by simpa using hmm
    have hcap : cap = 0 ∨ ∃ el sp, d = .slice el sp ∧ cap ≤ el.length + sp.length := by
      right
      simp only [Prod.mk.injEq] at hx
      exact ⟨_, _, hx.1, by simp; omega⟩
    rcases Nat.eq_zero_or_pos len with hz | hpos
    · subst hz; exact ⟨[], VRow.nil _ _ _, rfl, fun _ h => absurd h (by simp), by omega, hcap⟩
    simp only [Prod.mk.injEq] at hx
    have lmi : ∀ i, ∃ t : Lm, i < len → (∀ j v, (lmC t)[j]? = some v → W.cell? (x.add (i * 1 + j)) = some v) ∧ Lm.Ok W W.heap.size t := by
      intro i
      by_cases hil : i < len
      · obtain ⟨cs', hc, ht'⟩ := hi i (by omega)
        rw [s0] at hc
        obtain ⟨_, hcl, hat⟩ := World.cells?_some hc
        obtain ⟨t, e, ok⟩ := lm_cells ht' hcl (fun z hz => lt z (by
          rw [hx.2]
          exact List.mem_append.2 (.inr (List.mem_flatMap.2 ⟨i, List.mem_range.2 (by omega), hz⟩)))) (fun q hq => hwt q (by
          rw [hx.1]
          simp only [DataW.weights, Try.underlying50]
          refine List.mem_cons_of_mem _ (List.mem_append.2 (.inl ?_))
          exact weights_mem_op (d := D i) (List.mem_map.2 ⟨i, List.mem_range.2 hil, rfl⟩) hq))
        refine ⟨t, fun _ => ⟨fun j v hv => ?_, ok⟩⟩
        have hj : j < 1 := by have := (List.getElem?_eq_some_iff.1 hv).1; rwa [lmC_len] at this
        rw [← Go.Deep.add_add, hat j hj, e, hv]
      · exact ⟨⟨none, 0, 0, []⟩, fun h => absurd h hil⟩
    obtain ⟨T, hT⟩ := Classical.axiomOfChoice lmi
    obtain ⟨b, off, spot⟩ := x
    have c0 := (hT 0 (by omega)).1 0 _ rfl
    have hspot : spot = none := by simpa [Addr.add] using World.cell?_spot c0
    subst hspot
    have hb : b < W.heap.size := by
      have := lt (.cell b off) (by
        rw [hx.2]
        refine List.mem_append.2 (.inl (MemPlace.mem_row.2 ⟨0, ?_, by simp⟩))
        rw [s0]; omega)
      exact this
    refine ⟨(List.range len).map T, fun _ => ⟨b, off, rfl, hb, fun i v hv => ?_⟩, by simp, fun t ht => ?_, by omega, hcap⟩
    · have hil : i < ((List.range len).map T).length * 1 := by
        have := (List.getElem?_eq_some_iff.1 hv).1
        rwa [flatV_len lmC_len] at this
      have hlen : ((List.range len).map T).length = len := by simp
      have hi2 : i / 1 < ((List.range len).map T).length := by omega
      have hg := flatV_get lmC_len ((List.range len).map T) (i / 1) hi2 (i % 1) (Nat.mod_lt _ (by omega))
      rw [show i / 1 * 1 + i % 1 = i by omega, hv] at hg
      have hg2 : (lmC (T (i / 1)))[i % 1]? = some v := by rw [hg]; simp
      have := (hT (i / 1) (by omega)).1 (i % 1) v hg2
      rw [show i / 1 * 1 + i % 1 = i by omega] at this
      rw [← Go.WideShapes.add_plain]
      exact this
    · obtain ⟨i, hi', rfl⟩ := List.mem_map.1 ht
      exact (hT i (by have := List.mem_range.1 hi'; omega)).2
theorem reach_lists {ts : List TypeId} {ds : List (DataW H)} (hsz : (DataW.weightsEach Try.prog ts ds).all (· ≤ reachBytes) = true) (j : Nat) {d : DataW H} {cap : Nat} (ht : ts[j]? = some 50) (hd : ds[j]? = some d)
    (h : cap = 0 ∨ ∃ el sp, d = .slice el sp ∧ cap ≤ el.length + sp.length) : cap * 24 ≤ 140737488351232 := by
  rcases h with rfl | ⟨el, sp, rfl, hle⟩
  · omega
  · have := sized_slice hsz ht hd Try.underlying50
    rw [show Try.prog.bytesOf 30 = 24 by kernel_rfl] at this
    simp only [reachBytes] at this
    omega
end
end Go.Proofs.Ytfclgjdlkcmnfaa
namespace Go.Proofs.Ytfclgjdlkcmnfaa.L
open Go.RowKit
set_option linter.unusedVariables false

/-- The i-th number of a list, behind a name that the walk's simp does not open. -/
def nth (l : List Bool) (i : Nat) : Bool := l.getD i false
theorem nth_eq (l : List Bool) (i : Nat) (h : i < l.length) : nth l i = l[i] := by simp [nth, List.getD_eq_getElem?_getD, List.getElem?_eq_getElem h]
theorem nth_mem (l : List Bool) (i : Nat) (h : i < l.length) : nth l i ∈ l := by rw [nth_eq l i h]; exact List.getElem_mem h
theorem nth_left (l m : List Bool) (i : Nat) (h : i < l.length) : nth (l ++ m) i = nth l i := by
  rw [nth_eq _ _ h, nth_eq _ _ (by simp; omega)]; exact List.getElem_append_left h
theorem nth_right (l m : List Bool) (i : Nat) : nth (l ++ m) (l.length + i) = nth m i := by
  simp [nth, List.getD_eq_getElem?_getD, List.getElem?_append_right]
theorem nth_replicate (n i : Nat) (v : Bool) (h : i < n) : nth (List.replicate n v) i = v := by rw [nth_eq _ _ (by simpa using h)]; simp
theorem ext_nth (a b : List Bool) (hl : a.length = b.length) (h : ∀ i, i < a.length → nth a i = nth b i) : a = b := by
  refine List.ext_getElem hl fun i h1 h2 => ?_
  rw [← nth_eq a i h1, ← nth_eq b i h2]; exact h i h1

/-- The cells of a row of integers. -/
def blk (k : Unit) (l : List Bool) : Array Value := (l.map (Value.bool)).toArray

theorem blk_size (k : Unit) (l : List Bool) : (blk k l).size = l.length := by simp [blk]
theorem blk_get (k : Unit) (l : List Bool) (i : Nat) (h : i < l.length) : (blk k l)[i]? = some (.bool (nth l i)) := by
  simp [blk, List.getElem?_eq_getElem h, nth_eq l i h]
theorem blk_set (k : Unit) (l : List Bool) (i : Nat) (v : Bool) : (blk k l).setIfInBounds i (.bool v) = blk k (l.set i v) := by
  simp [blk, List.map_set]

/-- A slice that reads as the list xs of integers of kind k, in blocks below B. -/
def Row (k : Unit) (w : World) (B : Nat) (A : Option Addr) (xs : List Bool) : Prop :=
  (∀ x ∈ xs, (Lit.bool x).wf = true) ∧ (0 < xs.length → ∃ b o, A = some ⟨b, o, none⟩ ∧ b < B ∧ ∀ i, i < xs.length → w.cell? ⟨b, o + i, none⟩ = some (.bool (nth xs i)))

theorem Row.keep {k : Unit} {w w' : World} {B : Nat} {A : Option Addr} {xs : List Bool} (h : Row k w B A xs) (hk : ∀ b o, b < B → w'.cell? ⟨b, o, none⟩ = w.cell? ⟨b, o, none⟩) : Row k w' B A xs := by
  refine ⟨h.1, fun hn => ?_⟩
  obtain ⟨b, o, e, hb, hc⟩ := h.2 hn
  exact ⟨b, o, e, hb, fun i hi => (hk _ _ hb).trans (hc i hi)⟩
theorem Row.more {k : Unit} {w : World} {B B' : Nat} {A : Option Addr} {xs : List Bool} (h : Row k w B A xs) (hB : B ≤ B') : Row k w B' A xs := by
  refine ⟨h.1, fun hn => ?_⟩
  obtain ⟨b, o, e, hb, hc⟩ := h.2 hn
  exact ⟨b, o, e, by omega, hc⟩
theorem Row.below {k : Unit} {w w' : World} {B : Nat} {A : Option Addr} {xs : List Bool} (h : Row k w B A xs) (hb : Below B w w') : Row k w' B A xs :=
  h.keep fun b o hlt => hb.cell (p := ⟨b, o, none⟩) hlt
theorem Row.alloc {k : Unit} {w : World} {B : Nat} {A : Option Addr} {xs : List Bool} (h : Row k w B A xs) (hB : B ≤ w.heap.size) (o : Obj) : Row k (w.alloc o) B A xs :=
  h.below ((Below.refl _ _).alloc hB o)
theorem Row.drewN {k : Unit} {w : World} {B : Nat} {A : Option Addr} {xs : List Bool} (h : Row k w B A xs) (n : Nat) : Row k (w.drewN n) B A xs := h
theorem Row.nil (k : Unit) (w : World) (B : Nat) (A : Option Addr) : Row k w B A [] := ⟨by simp, by simp⟩
/-- A row that lies at the head of a new block. -/
theorem Row.new (k : Unit) (w : World) (t : TypeId) (l xs : List Bool) (hw : ∀ x ∈ xs, (Lit.bool x).wf = true) (hp : xs <+: l) :
    Row k (w.alloc (.cells (blk k l) t)) (w.heap.size + 1) (some ⟨w.heap.size, 0, none⟩) xs := by
  obtain ⟨ys, rfl⟩ := hp
  refine ⟨hw, fun _ => ⟨_, _, rfl, Nat.lt_succ_self _, fun i hi => ?_⟩⟩
  rw [World.cell?_alloc_at _ _ _ _ rfl, Nat.zero_add, blk_get _ _ _ (by simp; omega), nth_left _ _ _ hi]
/-- A row at the head of a block that is known whole, whatever of it is frozen. -/
theorem Row.of_block {k : Unit} {w : World} {g : Nat} {t : TypeId} {fr : Nat × Nat} {l : List Bool} (hg : w.heap[g]? = some (.cells (blk k l) t fr)) (xs : List Bool) (hw : ∀ x ∈ xs, (Lit.bool x).wf = true) (hp : xs <+: l) :
    Row k w (g + 1) (some ⟨g, 0, none⟩) xs := by
  obtain ⟨ys, rfl⟩ := hp
  refine ⟨hw, fun _ => ⟨_, _, rfl, Nat.lt_succ_self _, fun i hi => ?_⟩⟩
  rw [Nat.zero_add, cell_of_row w g i _ _ _ hg, blk_get _ _ _ (by simp; omega), nth_left _ _ _ hi]
/-- One cell of a row, for the walk. -/
theorem Row.at_ {k : Unit} {w : World} {B : Nat} {A : Option Addr} {xs : List Bool} (h : Row k w B A xs) {i : Nat} (hi : i < xs.length) :
    ∃ b o, A = some ⟨b, o, none⟩ ∧ b < B ∧ w.cell? ⟨b, o + i, none⟩ = some (.bool (nth xs i)) := by
  obtain ⟨b, o, e, hb, hc⟩ := h.2 (by omega)
  exact ⟨b, o, e, hb, hc i hi⟩
theorem Row.wf_at {k : Unit} {w : World} {B : Nat} {A : Option Addr} {xs : List Bool} (h : Row k w B A xs) {i : Nat} (hi : i < xs.length) : (Lit.bool (nth xs i)).wf = true := h.1 _ (nth_mem _ _ hi)

theorem wf_append {k : Unit} {xs ys : List Bool} (h : ∀ x ∈ xs, (Lit.bool x).wf = true) (h' : ∀ x ∈ ys, (Lit.bool x).wf = true) : ∀ x ∈ xs ++ ys, (Lit.bool x).wf = true := fun x hx => (List.mem_append.1 hx).elim (h x) (h' x)
theorem take_step (xs : List Bool) (k : Nat) (h : k < xs.length) : xs.take (k + 1) = xs.take k ++ [nth xs k] := by
  rw [List.take_succ_eq_append_getElem h, nth_eq xs k h]
/-- The k-th place of what is filled up to k is written. -/
theorem set_step (l : List Bool) (m k : Nat) (v x : Bool) (h : l.length = k) : (l ++ List.replicate (m + 1) v).set k x = l ++ [x] ++ List.replicate m v := by
  rw [List.set_append_right _ _ (by omega)]
  simp [h, List.replicate_succ]
theorem fill_cell (k : Unit) (l : List Bool) (m i : Nat) (v : Bool) (h : l.length = i) (hm : 0 < m) : (blk k (l ++ List.replicate m v))[i]? = some (.bool v) := by
  rw [blk_get _ _ _ (by simp; omega)]
  subst h
  have := nth_right l (List.replicate m v) 0
  rw [Nat.add_zero] at this
  rw [this, nth_replicate _ _ _ hm]
end Go.Proofs.Ytfclgjdlkcmnfaa.L
namespace Go.Proofs.Ytfclgjdlkcmnfaa
open Go.RowKit
set_option linter.unusedVariables false
set_option maxRecDepth 100000

theorem begins_yes (A1 A2 : Option Addr) (n1 c1 n2 c2 : Nat) (xs : List Int) (w : World) (B1 B2 : Nat) (hr1 : Row .u8 w B1 A1 xs) (hr2 : Row .u8 w B2 A2 (xs.take n2)) (hn1 : xs.length = n1) (h12 : n2 ≤ n1) (hc : n1 ≤ c1) (hb : n1 ≤ 140737488355328) (hA : A1 = none → c1 = 0) :
    Calls Try.prog 28 #[.slice A1 n1 c1, .slice A2 n2 c2] w fun e w' => e = .returned (.bool true) ∧ ∃ m, w' = w.drewN m := by
  have HS : Hid (∀ W, (∃ m, W = w.drewN m) → ∀ c, Calls Try.prog 22 #[.slice A1 n2 c, .slice A2 n2 c2] W fun e w' => e = .returned (.bool true) ∧ ∃ m, w' = w.drewN m) := Lib.hid (fun W ⟨m, hm⟩ c => by
    subst hm
    refine (same_yes_u8 A1 A2 n2 c c2 (xs.take n2) _ _ _ ((hr1.front n2).drewN m) (hr2.drewN m) (by rw [List.length_take]; omega) (by omega)).mono fun e w' ⟨h1, k, h2⟩ => ⟨h1, ?_⟩
    rw [h2]
    exact ⟨m + k, by simp [World.drewN, Nat.add_assoc]⟩)
  have i1 : (n1 : Int) ≥ (n2 : Int) := by omega
  have i2 : (n2 : Int) ≤ (c1 : Int) := by omega
  have i3 : n2 ≤ c1 := by omega
  cases A1 with
  | none =>
    have hc0 := hA rfl
    obtain rfl : c1 = 0 := hc0
    obtain rfl : n1 = 0 := by omega
    obtain rfl : n2 = 0 := by omega
    clear hr1 hr2 hn1 h12 hc hb hA i1 i2 i3
    go_enter Try.func28, Try.ntmps28
    go_wp2_with (go_at_call 22; refine (HS.out _ ⟨0, rfl⟩ _).mono ?_; rintro e w' ⟨rfl, m, rfl⟩)
    go_ret
    exact ⟨rfl, _, rfl⟩
  | some a =>
    clear hr1 hr2 hn1 h12 hc hb hA
    go_enter Try.func28, Try.ntmps28
    go_wp2_with (go_at_call 22; refine (HS.out _ ⟨0, rfl⟩ _).mono ?_; rintro e w' ⟨rfl, m, rfl⟩)
    go_ret
    exact ⟨rfl, _, rfl⟩

theorem KOwn.nilcap {k : IntKind} {e : TypeId} {w : World} {base : Nat} {A : Option Addr} {n c : Nat} {xs : List Int} (h : KOwn k e w base (.slice A n c) xs) : A = none → c = 0 := by
  intro hA
  rcases h with ⟨h1, _⟩ | ⟨g, n', cap, r, h1, _⟩
  · injection h1
  · injection h1 with h1 _ _
    rw [hA] at h1
    cases h1
def logN : ByteArray := ⟨#[108, 111, 103]⟩
/-- One file of a device of the call's own, beside it what was appended to it. -/
structure LsTo (D : DevP) (g : Nat) (G : Nat → Prop) (d : Dv) (all : List Int) (sy k : Nat) (v : Value) (w wr : World) : Prop where
  dev : D wr G g d
  ok : Dv.Ok d
  new : ∀ b, G b → w.heap.size ≤ b
  bel : Below w.heap.size w wr
  own : KOwn .u8 5 wr w.heap.size v all
  off : ∀ b, v.ownBlock = some b → ¬ G b
  is : LastIs d logN all sy
  len : all.length ≤ k * 4096
  wf : ∀ x ∈ all, (Lit.int .u8 x).wf = true
  le : sy ≤ all.length
theorem LsTo.below {D : DevP} (X : Dev D) {g : Nat} {G : Nat → Prop} {d : Dv} {all : List Int} {sy k : Nat} {v : Value} {w wr W : World} (h : LsTo D g G d all sy k v w wr) (hb : Below wr.heap.size wr W) : LsTo D g G d all sy k v w W :=
  ⟨X.frm h.dev (Frm.of_below (F := fun _ => False) hb) (fun _ _ e => e), h.ok, h.new, h.bel.trans (hb.mono h.bel.size), h.own.frm (F := fun _ => False) (Frm.of_below hb) (fun _ _ e => e), h.off, h.is, h.len, h.wf, h.le⟩
/-- A call with the device. -/
theorem LsTo.did {D : DevP} (X : Dev D) {g : Nat} {G G' : Nat → Prop} {d d' : Dv} {all : List Int} {sy sy' k k' : Nat} {v : Value} {w wr W : World} (h : LsTo D g G d all sy k v w wr) (s : Did D G g d' wr W G') (ok : Dv.Ok d') (is : LastIs d' logN all sy') (hk : k ≤ k') (hs : sy' ≤ all.length) : LsTo D g G' d' all sy' k' v w W := by
  obtain ⟨s1, s2, s3⟩ := s
  refine ⟨s1, ok, fun b hb => (s3 b hb).elim (h.new b) (fun e => Nat.le_trans h.bel.size e), s2.below h.bel h.bel.size h.new, h.own.frm s2 h.off, fun b hb e => (s3 b e).elim (h.off b hb) (fun e => ?_), is, Nat.le_trans h.len (Nat.mul_le_mul_right _ hk), h.wf, hs⟩
  have := (h.own.block b hb).2
  omega
/-- Rows of the call's arguments stay. -/
theorem LsTo.arg {D : DevP} {g : Nat} {G : Nat → Prop} {d : Dv} {all : List Int} {sy k : Nat} {v : Value} {w wr : World} (h : LsTo D g G d all sy k v w wr) {A : Option Addr} {bs : List Int} (hr : Row .u8 w w.heap.size A bs) : Row .u8 wr wr.heap.size A bs := (hr.below h.bel).more h.bel.size
/-- An append to what was appended, in any world. -/
theorem LsTo.grow {D : DevP} (X : Dev D) {g : Nat} {G : Nat → Prop} {d : Dv} {all bs : List Int} {sy k : Nat} {v : Value} {w wr : World} (h : LsTo D g G d all sy k v w wr) (A : Option Addr) (n c : Nat) (hr : Row .u8 w w.heap.size A bs) (hn : bs.length = n) (hb : n ≤ 4096) (hk : k ≤ 200) (d' : Dv) (is : d'.fs = d.fs) :
    ∃ A' n' c' w', (∀ ty, (Builtin.append_ #[30, 30] ty #[v, .slice A n c]).run Try.prog wr = .ok (.slice A' n' c') w') ∧ D w' G g d ∧ (∀ b, G b → w.heap.size ≤ b) ∧ Below w.heap.size w w' ∧ KOwn .u8 5 w' w.heap.size (.slice A' n' c') (all ++ bs) ∧ (∀ b, (Value.slice A' n' c').ownBlock = some b → ¬ G b) := by
  have hl := h.len
  obtain ⟨A', n', c', w', r1, r2, r3, r4⟩ := run_append_any wr w.heap.size v all h.own wr.heap.size A n c bs (h.arg hr) hn (by omega) h.bel.size
  have hvb : ∀ b, v.ownBlock = some b → w.heap.size ≤ b := fun b hb => (h.own.block b hb).1
  refine ⟨A', n', c', w', r1, X.frm h.dev r3 (fun b hb e => h.off b e hb), h.new, r3.below h.bel h.bel.size hvb, r2, fun b hb e => (r4 b hb).elim (fun e' => h.off b e' e) (fun e' => ?_)⟩
  have := X.lt h.dev b e
  omega

set_option maxHeartbeats 8000000 in
theorem lasts_any {D : DevP} (X : DevOk D) (A : Option Addr) (n c : Nat) (l : List Lm) (SA : Option Addr) (sn sc : Nat) (ss : List Bool) (cut keep : Int) (w : World) (hr : VRow w w.heap.size A (flatV lmC l)) (hn : l.length = n) (hb : n ≤ 5864062016288) (hok : ∀ m ∈ l, Lm.Ok w w.heap.size m)
    (hsr : L.Row () w w.heap.size SA ss) (hsn : ss.length = sn) (hsb : sn ≤ 140737488351232) (hkeep : -9223372036854775808 ≤ keep ∧ keep < 9223372036854775808) :
    Calls Try.prog 5 #[.slice A n c, .slice SA sn sc, .int .i64 cut, .int .i64 keep] w fun e w' => e = .returned (.bool true) ∧ Below w.heap.size w w' := by
  have HR := Lib.hid hr
  have HN := Lib.hid hn
  have HO := Lib.hid hok
  have HX := Lib.hid X
  have HKP := Lib.hid hkeep
  have HSR := Lib.hid hsr
  have HSN := Lib.hid hsn
  clear hr hn hok X hkeep hsr hsn
  by_cases hbig : (n : Int) > 200
  · clear HR HN HO HKP HSR HSN
    go_enter Try.func5, Try.ntmps5
    go_wp2_with fail
    refine (works12 HX.out w).mono ?_
    rintro e w1 ⟨rfl, b1⟩
    go_wp2
    go_ret
    exact ⟨rfl, b1⟩
  have hn200 : n ≤ 200 := by omega
  have i0 : ¬ (n : Int) > 200 := hbig
  clear hbig
  go_enter Try.func5, Try.ntmps5
  go_wp2_with fail
  refine (works12 HX.out w).mono ?_
  rintro e w1 ⟨rfl, b1⟩
  go_wp2_with fail
  refine (HX.out.newYes 16777216 w1 (by omega)).mono ?_
  rintro e w2 ⟨g1, G1, rfl, h1, b2, n1⟩
  have hok0 := new_ok 16777216 (by omega)
  have hp := pick_lt cut 410 (by omega)
  have HPK : Hid (∀ W, Calls Try.prog 24 #[.int .i64 cut, .int .i64 410] W fun e w' => e = .returned (.int .i64 (pick cut 410 : Nat)) ∧ W = w') := Lib.hid (fun W => Pick_any cut 410 W (by omega) (by omega))
  obtain ⟨L0, hL0⟩ : ∃ L0 : Nat, pick cut 410 = L0 := ⟨_, rfl⟩
  rw [hL0] at hp HPK
  have HOA := Lib.hid (arm_ok hok0 (L0 : Int) (by omega))
  have D2 := HX.out.dev.frm h1 (Frm.of_below (F := fun _ => False) (below_drew (Below.refl w2.heap.size w2))) (fun _ _ e => e)
  have HAR := Lib.hid (HX.out.arm (w := w2.drew) (L0 : Int) D2 hok0 ⟨by omega, by omega⟩)
  have B2 := b1.trans (b2.mono b1.size)
  have HLS : Hid (∀ W G', Did D G1 g1 (armD (newD 16777216) L0) w2.drew W G' → ∃ G d, LsTo D g1 G d [] 0 0 (.slice none 0 0) w W) := Lib.hid (fun W G' s => ⟨G', _, s.1, HOA.out, fun b hb => (s.2.2 b hb).elim (fun e => Nat.le_trans b1.size (n1 b e)) (fun e => Nat.le_trans B2.size e), s.2.1.below (below_drew B2) B2.size (fun b hb => Nat.le_trans b1.size (n1 b hb)), KOwn.nil _ _ _ _, fun b hb => (nomatch hb), .inl ⟨rfl, rfl, rfl⟩, Nat.zero_le _, fun x hx => absurd hx (by simp), Nat.le_refl _⟩)
  clear h1 n1 b2 b1 hok0 hL0 D2 B2 hp HOA
  go_wp2_with fail
  go_region_with (first
    | (go_at_call 24; refine (HPK.out _).mono ?_; rintro e w3 ⟨rfl, rfl⟩)
    | (go_at_call 23; refine HAR.out.mono ?_; rintro e w4 ⟨rfl, G', hd4⟩))
  have HI := Lib.hid (HLS.out _ _ hd4)
  clear hd4 HLS HAR HPK
  go_wp2_with fail
  go_loopw [11, 12, 13] (fun v y i wr => ∃ k : Nat, k ≤ n ∧ i = .int .i64 k ∧ ∃ sy : Nat, y = .int .i64 (sy : Int) ∧ ∃ A0 n0 q0, v = .slice A0 n0 q0 ∧ Hid (∃ G d all, LsTo D g1 G d all sy k (.slice A0 n0 q0) w wr)) (fun _ _ i _ => n - (intOf i).toNat)
  case atStart =>
    obtain ⟨G, d, h⟩ := HI.out
    exact ⟨0, by omega, rfl, 0, rfl, none, 0, 0, rfl, Lib.hid ⟨G, d, [], h⟩⟩
  case round =>
    obtain ⟨k, hk, rfl, sy, rfl, A0, n0, q0, rfl, hrel⟩ := hrel
    clear HI
    by_cases hlt : k < n
    · have hkl : k < l.length := by rw [HN.out]; exact hlt
      obtain ⟨G, d0, all, hls⟩ := hrel.out
      obtain ⟨b, o, rfl, hbw, hc⟩ := HR.out.elem lmC_len (by omega) hkl
      have hm := HO.out _ (List.getElem_mem hkl)
      obtain ⟨m, hmm⟩ : ∃ m, l[k] = m := ⟨_, rfl⟩
      rw [hmm] at hc hm
      obtain ⟨A', n', c', bs⟩ := m
      have HC := Lib.hid (hc 0 _ rfl)
      have c0 := (hls.bel.cell (p := ⟨b, o + k * 1 + 0, none⟩) hbw).trans HC.out
      have hmr := hm.row
      have hml := hm.len
      have hle := hm.le
      have hcap := hm.cap
      simp only at c0 hmr hml hle hcap
      rw [Nat.mul_one, Nat.add_zero] at c0
      have i3 : (0 : Int) ≤ (k : Int) := by omega
      have HLSO := Lib.hid hls
      have HMR := Lib.hid hmr
      have HML := Lib.hid hml
      by_cases hbg : (n' : Int) > 4096
      · have HBE := Lib.hid hls.bel
        clear hls hmm hc hm hmr hml hle hcap hrel
        go_wp2
        go_ret
        exact ⟨rfl, HBE.out⟩
      have hn4 : n' ≤ 4096 := by omega
      have hbg2 : ¬ (n' : Int) > 4096 := hbg
      have HAPP := Lib.hid (HX.out.append logN A' n' c' bs hls.dev hls.ok (hls.arg hmr) hml hle hcap (by omega) (fun a ha hp e => by
        obtain ⟨b', o', e1, e2, _⟩ := hmr.2 (by rw [hml]; exact hp)
        rw [ha] at e1
        injection e1 with e1
        subst e1
        have := hls.new _ e
        simp only at this
        omega))
      have HAO := Lib.hid (app_ok hls.ok logN bs hmr.1)
      have HAL := Lib.hid (last_app hls.is bs)
      generalize (appD d0 logN bs).1 = d1 at HAPP HAO HAL
      generalize (appD d0 logN bs).2 = E1 at HAPP HAL
      have hlo : (⟨#[108, 111, 103]⟩ : ByteArray) = logN := rfl
      clear hls hmm hc hm hmr hml hle hcap hrel hbg
      rw [← hlo] at HAPP
      clear hlo
      go_wp2_with fail
      refine HAPP.out.mono ?_
      rintro e wa ⟨rfl, G2, hd2⟩
      have e0 : wa.cell? ⟨b, o + k, none⟩ = some (.slice A' n' c') := by
        have hB := hd2.2.1.below HLSO.out.bel HLSO.out.bel.size HLSO.out.new
        have := (hB.cell (p := ⟨b, o + k * 1 + 0, none⟩) hbw).trans HC.out
        rw [Nat.mul_one, Nat.add_zero] at this
        exact this
      clear c0 HAPP
      by_cases hE1 : E1 = 0
      · have hA := HAL.out.1 hE1
        have HST : Hid (∃ A1 n1 q1 w', (∀ ty, (Builtin.append_ #[30, 30] ty #[.slice A0 n0 q0, .slice A' n' c']).run Try.prog wa = .ok (.slice A1 n1 q1) w') ∧ LsTo D g1 G2 d1 (all ++ bs) sy (k + 1) (.slice A1 n1 q1) w w' ∧ n1 = (all ++ bs).length) := Lib.hid (by
          have s := hd2
          have hB := s.2.1.below HLSO.out.bel HLSO.out.bel.size HLSO.out.new
          have hNew : ∀ b, G2 b → w.heap.size ≤ b := fun b hb => (s.2.2 b hb).elim (HLSO.out.new b) (fun e => Nat.le_trans HLSO.out.bel.size e)
          have hK := HLSO.out.own.frm s.2.1 HLSO.out.off
          have hOff : ∀ b, (Value.slice A0 n0 q0).ownBlock = some b → ¬ G2 b := fun b hb e => (s.2.2 b e).elim (HLSO.out.off b hb) (fun e => by have := (HLSO.out.own.block b hb).2; omega)
          have hl := HLSO.out.len
          obtain ⟨A1, n1, q1, w', r1, r2, r3, r4⟩ := run_append_any wa w.heap.size (.slice A0 n0 q0) all hK wa.heap.size A' n' c' bs ((HMR.out.below hB).more hB.size) HML.out (by omega) hB.size
          have hvb : ∀ b, (Value.slice A0 n0 q0).ownBlock = some b → w.heap.size ≤ b := fun b hb => (hK.block b hb).1
          refine ⟨A1, n1, q1, w', r1, ⟨HX.out.dev.frm s.1 r3 (fun b hb e => hOff b e hb), HAO.out, hNew, r3.below hB hB.size hvb, r2, fun b hb e => (r4 b hb).elim (fun e' => hOff b e' e) (fun e' => ?_), hA, ?_, wf_append HLSO.out.wf HMR.out.1, ?_⟩, ?_⟩
          · have := HX.out.dev.lt s.1 b e
            omega
          · have h4 := HML.out
            rw [List.length_append]; omega
          · have := HLSO.out.le
            rw [List.length_append]; omega
          · obtain ⟨A9, q9, e9, _⟩ := r2.val
            injection e9)
        subst hE1
        clear hA hd2 HAL HAO HLSO
        obtain ⟨A1, n1, q1, w', hrun, hls2, hn1⟩ := HST.out
        have HLS2 := Lib.hid hls2
        have HN1 := Lib.hid hn1
        have hn1b : n1 ≤ 819200 := by
          have h1 := hls2.len
          rw [← hn1] at h1
          have : (k + 1) * 4096 ≤ 200 * 4096 := Nat.mul_le_mul_right _ (by omega)
          omega
        clear hls2 HST hn1
        by_cases hks : k < sn
        · have hks1 : decide ((k : Int) < (sn : Int)) = true := decide_eq_true (by omega)
          have hks2 : (k : Int) < (sn : Int) := by omega
          have hkss : k < ss.length := by have := HSN.out; omega
          obtain ⟨sb, so, rfl, hsbw, hsc⟩ := HSR.out.2 (by omega)
          have s0 := (HLS2.out.bel.cell (p := ⟨sb, so + k, none⟩) hsbw).trans (hsc k hkss)
          clear hsc
          generalize L.nth ss k = want at s0
          cases want with
          | false =>
            have HEND : Hid (∃ G d all, LsTo D g1 G d all sy (k + 1) (.slice A1 n1 q1) w w') := Lib.hid ⟨_, _, _, HLS2.out⟩
            go_wp2_with (at_builtin; refine wpList_append_run _ rfl _ _ 30 rfl _ _ _ _ rfl rfl hrun ?_)
            go_roundw
            case rel => exact ⟨k + 1, by omega, by go_num, sy, rfl, A1, n1, q1, rfl, HEND⟩
            case measure => simp [intOf]; omega
          | true =>
            have HSY := Lib.hid (HX.out.sync logN HLS2.out.dev HLS2.out.ok)
            have HSO := Lib.hid (sync_ok HLS2.out.ok logN)
            have HSL := Lib.hid (last_sync HLS2.out.is)
            generalize (syncD d1 logN).1 = d3 at HSY HSO HSL
            generalize (syncD d1 logN).2 = E3 at HSY HSL
            have hlo : (⟨#[108, 111, 103]⟩ : ByteArray) = logN := rfl
            rw [← hlo] at HSY
            clear hlo
            go_wp2_with (at_builtin; refine wpList_append_run _ rfl _ _ 30 rfl _ _ _ _ rfl rfl hrun ?_)
            refine HSY.out.mono ?_
            rintro e wb ⟨rfl, G3, hd3⟩
            clear s0
            by_cases hE3 : E3 = 0
            · have HEND : Hid (∃ G d all, LsTo D g1 G d all n1 (k + 1) (.slice A1 n1 q1) w wb) := Lib.hid ⟨_, _, _, HLS2.out.did HX.out.dev hd3 HSO.out (by rw [HN1.out]; exact HSL.out.1 hE3) (Nat.le_refl _) (by rw [HN1.out]; exact Nat.le_refl _)⟩
              subst hE3
              clear hd3
              go_wp2
              go_roundw
              case rel => exact ⟨k + 1, by omega, by go_num, n1, rfl, A1, n1, q1, rfl, HEND⟩
              case measure => simp [intOf]; omega
            · have hE3b : (E3 == 0) = false := beq_false_of_ne hE3
              have HEND : Hid (∃ G d all, LsTo D g1 G d all sy (k + 1) (.slice A1 n1 q1) w wb) := Lib.hid ⟨_, _, _, HLS2.out.did HX.out.dev hd3 HSO.out (HSL.out.2 hE3) (Nat.le_refl _) HLS2.out.le⟩
              clear hd3 hE3
              go_wp2
              go_roundw
              case rel => exact ⟨k + 1, by omega, by go_num, sy, rfl, A1, n1, q1, rfl, HEND⟩
              case measure => simp [intOf]; omega
        · have hks1 : decide ((k : Int) < (sn : Int)) = false := decide_eq_false (by omega)
          have HEND : Hid (∃ G d all, LsTo D g1 G d all sy (k + 1) (.slice A1 n1 q1) w w') := Lib.hid ⟨_, _, _, HLS2.out⟩
          go_wp2_with (at_builtin; refine wpList_append_run _ rfl _ _ 30 rfl _ _ _ _ rfl rfl hrun ?_)
          go_roundw
          case rel => exact ⟨k + 1, by omega, by go_num, sy, rfl, A1, n1, q1, rfl, HEND⟩
          case measure => simp [intOf]; omega
      · have hE1b : (E1 == 0) = false := beq_false_of_ne hE1
        have hA := HAL.out.2 hE1
        have HLS2 : Hid (LsTo D g1 G2 d1 all sy (k + 1) (.slice A0 n0 q0) w wa) := Lib.hid (HLSO.out.did HX.out.dev hd2 HAO.out hA (Nat.le_succ _) HLSO.out.le)
        have HN1 : Hid (n0 = all.length) := Lib.hid (by
          obtain ⟨A9, q9, e9, _⟩ := HLSO.out.own.val
          injection e9)
        have hn1b : n0 ≤ 819200 := by
          have h1 := HLS2.out.len
          have h2 := HN1.out
          have : (k + 1) * 4096 ≤ 200 * 4096 := Nat.mul_le_mul_right _ (by omega)
          omega
        clear hA hd2 HAL HAO HLSO hE1 e0
        by_cases hks : k < sn
        · have hks1 : decide ((k : Int) < (sn : Int)) = true := decide_eq_true (by omega)
          have hks2 : (k : Int) < (sn : Int) := by omega
          have hkss : k < ss.length := by have := HSN.out; omega
          obtain ⟨sb, so, rfl, hsbw, hsc⟩ := HSR.out.2 (by omega)
          have s0 := (HLS2.out.bel.cell (p := ⟨sb, so + k, none⟩) hsbw).trans (hsc k hkss)
          clear hsc
          generalize L.nth ss k = want at s0
          cases want with
          | false =>
            have HEND : Hid (∃ G d all, LsTo D g1 G d all sy (k + 1) (.slice A0 n0 q0) w wa) := Lib.hid ⟨_, _, _, HLS2.out⟩
            go_wp2
            go_roundw
            case rel => exact ⟨k + 1, by omega, by go_num, sy, rfl, A0, n0, q0, rfl, HEND⟩
            case measure => simp [intOf]; omega
          | true =>
            have HSY := Lib.hid (HX.out.sync logN HLS2.out.dev HLS2.out.ok)
            have HSO := Lib.hid (sync_ok HLS2.out.ok logN)
            have HSL := Lib.hid (last_sync HLS2.out.is)
            generalize (syncD d1 logN).1 = d3 at HSY HSO HSL
            generalize (syncD d1 logN).2 = E3 at HSY HSL
            have hlo : (⟨#[108, 111, 103]⟩ : ByteArray) = logN := rfl
            rw [← hlo] at HSY
            clear hlo
            go_wp2_with fail
            refine HSY.out.mono ?_
            rintro e wb ⟨rfl, G3, hd3⟩
            clear s0
            by_cases hE3 : E3 = 0
            · have HEND : Hid (∃ G d all, LsTo D g1 G d all n0 (k + 1) (.slice A0 n0 q0) w wb) := Lib.hid ⟨_, _, _, HLS2.out.did HX.out.dev hd3 HSO.out (by rw [HN1.out]; exact HSL.out.1 hE3) (Nat.le_refl _) (by rw [HN1.out]; exact Nat.le_refl _)⟩
              subst hE3
              clear hd3
              go_wp2
              go_roundw
              case rel => exact ⟨k + 1, by omega, by go_num, n0, rfl, A0, n0, q0, rfl, HEND⟩
              case measure => simp [intOf]; omega
            · have hE3b : (E3 == 0) = false := beq_false_of_ne hE3
              have HEND : Hid (∃ G d all, LsTo D g1 G d all sy (k + 1) (.slice A0 n0 q0) w wb) := Lib.hid ⟨_, _, _, HLS2.out.did HX.out.dev hd3 HSO.out (HSL.out.2 hE3) (Nat.le_refl _) HLS2.out.le⟩
              clear hd3 hE3
              go_wp2
              go_roundw
              case rel => exact ⟨k + 1, by omega, by go_num, sy, rfl, A0, n0, q0, rfl, HEND⟩
              case measure => simp [intOf]; omega
        · have hks1 : decide ((k : Int) < (sn : Int)) = false := decide_eq_false (by omega)
          have HEND : Hid (∃ G d all, LsTo D g1 G d all sy (k + 1) (.slice A0 n0 q0) w wa) := Lib.hid ⟨_, _, _, HLS2.out⟩
          go_wp2
          go_roundw
          case rel => exact ⟨k + 1, by omega, by go_num, sy, rfl, A0, n0, q0, rfl, HEND⟩
          case measure => simp [intOf]; omega
    · obtain rfl : k = n := by omega
      obtain ⟨G, d, all, hls⟩ := hrel.out
      have hlo3 : logN = (⟨#[108, 111, 103]⟩ : ByteArray) := rfl
      have HLS := Lib.hid hls
      have HN1 : Hid (n0 = all.length) := Lib.hid (by
        obtain ⟨A9, q9, e9, _⟩ := hls.own.val
        injection e9)
      have hn0b : n0 ≤ 819200 := by
        have h1 := hls.len
        have h2 := HN1.out
        have : k * 4096 ≤ 200 * 4096 := Nat.mul_le_mul_right _ (by omega)
        omega
      have HWA : Hid (∀ x ∈ all, (Lit.int .u8 x).wf = true) := Lib.hid hls.wf
      have HAR : Hid (∀ W, Below w.heap.size w W → KOwn .u8 5 W w.heap.size (.slice A0 n0 q0) all → Row .u8 W W.heap.size A0 all) := Lib.hid (fun W _ hk => by
        obtain ⟨A9, q9, e9, r9, _⟩ := hk.own.row HWA.out
        injection e9 with e9 _ _
        rw [e9]; exact r9)
      have HRD := Lib.hid (last_read hls.is)
      have hsyl : sy ≤ all.length := hls.le
      clear hls hrel
      rcases HRD.out with ⟨hr1, hr2, hr3⟩ | ⟨hr1, hr2, hr3⟩
      · have HR1 : Hid (readE d ⟨#[108, 111, 103]⟩ = 6) := Lib.hid hr1
        have HNM : Hid (namesD d = []) := Lib.hid hr3
        have hz : n0 = 0 := by rw [HN1.out, hr2]; rfl
        subst hz
        clear hr1 hr2 hr3 HRD HAR HWA
        go_wp2_with fail
        refine (HX.out.read ⟨#[108, 111, 103]⟩ HLS.out.dev HLS.out.ok).mono ?_
        rintro e wa ⟨v1, rfl, own1, p1⟩
        rw [HR1.out]
        obtain ⟨Z1, Z2, Z3, rfl⟩ := own1.letters
        have HLa := Lib.hid (HLS.out.below HX.out.dev p1)
        clear own1 p1
        go_wp2_with fail
        refine (HX.out.names HLa.out.dev HLa.out.ok).mono ?_
        rintro e wb ⟨v2, rfl, own2, p2⟩
        rw [HNM.out] at own2
        obtain ⟨Z4, Z5, rfl⟩ := own2.letters
        have HBb := Lib.hid (HLa.out.bel.trans (p2.mono HLa.out.bel.size))
        clear own2 p2
        go_wp2
        go_ret
        exact ⟨rfl, HBb.out⟩
      · have HR1 : Hid (readE d ⟨#[108, 111, 103]⟩ = 0) := Lib.hid hr1
        have HR2 : Hid (readL d ⟨#[108, 111, 103]⟩ = all) := Lib.hid hr2
        have HW1 := Lib.hid (wake_ok HLS.out.ok keep)
        have HW2 := Lib.hid (wake_ok HW1.out (-1))
        obtain ⟨K, hmax, hK⟩ := max_lit keep
        obtain ⟨y, hy⟩ : ∃ y, y = n0 - sy := ⟨_, rfl⟩
        obtain ⟨q, hmin, hq⟩ := min_lit K y
        obtain ⟨N, hN⟩ : ∃ N, N = sy + q := ⟨_, rfl⟩
        have hN2 : N = sy + min keep.toNat (all.length - sy) := by rw [hN, hq, hy, hK, HN1.out]
        have hNn : N ≤ n0 := by have := HN1.out; omega
        have hsN : sy ≤ N := by omega
        obtain ⟨w1, w2, w3⟩ := last_wake hr3 keep hN2
        obtain ⟨w4, w5, w6⟩ := last_wake w1 (-1) (N := N) (by simp)
        have htl : (all.take N).length = N := by rw [List.length_take]; have := HN1.out; omega
        rw [List.take_of_length_le (by omega)] at w6
        have HE2 : Hid (readE (wakeD d keep) ⟨#[108, 111, 103]⟩ = 0) := Lib.hid w2
        have HL2 : Hid (readL (wakeD d keep) ⟨#[108, 111, 103]⟩ = all.take N) := Lib.hid w3
        have HE3 : Hid (readE (wakeD (wakeD d keep) (-1)) ⟨#[108, 111, 103]⟩ = 0) := Lib.hid w5
        have HL3 : Hid (readL (wakeD (wakeD d keep) (-1)) ⟨#[108, 111, 103]⟩ = all.take N) := Lib.hid w6
        have HTL := Lib.hid htl
        have HTT : Hid ((all.take N).take sy = all.take sy) := Lib.hid (by rw [List.take_take, Nat.min_eq_left hsN])
        have HWT : Hid (∀ x ∈ all.take N, (Lit.int .u8 x).wf = true) := Lib.hid (fun x hx => HWA.out x (List.mem_of_mem_take hx))
        have v1e : IntKind.i64.wrap ((N : Int) - (sy : Int)) = (q : Int) := by rw [IntKind.wrap_i64]; omega
        have v2e : IntKind.i64.wrap ((n0 : Int) - (sy : Int)) = (y : Int) := by rw [IntKind.wrap_i64]; have := HN1.out; omega
        have hcap : sy ≤ q0 := by
          obtain ⟨A9, q9, e9, h9, _⟩ := HLS.out.own.val
          injection e9 with _ _ e9
          omega
        have hnil : A0 = none → q0 = 0 := HLS.out.own.nilcap
        clear hr1 hr2 hr3 HRD w1 w2 w3 w4 w5 w6 htl hN hN2 hq hy hK hsyl hlo3
        go_wp2_with fail
        refine (HX.out.read ⟨#[108, 111, 103]⟩ HLS.out.dev HLS.out.ok).mono ?_
        rintro e wa ⟨v1, rfl, own1, p1⟩
        rw [HR1.out]
        rw [HR2.out] at own1
        obtain ⟨Z1, Z3, hz1, rowN, _, _⟩ := own1.own.row HWA.out
        rw [← HN1.out] at hz1
        subst hz1
        have HLa := Lib.hid (HLS.out.below HX.out.dev p1)
        have HBa := Lib.hid HLa.out.bel
        have HKa := Lib.hid HLa.out.own
        clear own1 p1
        have HNN := Lib.hid hnil
        cases A0 with
        | none =>
          have hq0 : q0 = 0 := hnil rfl
          subst hq0
          have hs0 : sy = 0 := by omega
          subst hs0
          clear hnil
          clear HNN
          go_wp2_with fail
          refine (same_yes_u8 _ _ n0 _ _ all wa _ _ rowN (HAR.out wa HBa.out HKa.out) HN1.out.symm (by omega)).mono ?_
          rintro e wb ⟨rfl, m1, rfl⟩
          have HLb := Lib.hid (HLa.out.below HX.out.dev (bel_drewN wa m1))
          clear rowN
          go_wp2_with fail
          refine (HX.out.wake keep HLb.out.dev HLb.out.ok HKP.out).mono ?_
          rintro e wc ⟨rfl, G2, hd2⟩
          have HKc : Hid (KOwn .u8 5 wc w.heap.size (.slice none n0 0) all) := Lib.hid (HLb.out.own.frm hd2.2.1 HLb.out.off)
          have HBc : Hid (Below w.heap.size w wc) := Lib.hid (hd2.2.1.below HLb.out.bel HLb.out.bel.size HLb.out.new)
          have HGc : Hid (∀ b, G2 b → w.heap.size ≤ b) := Lib.hid (fun b hb => (hd2.2.2 b hb).elim (HLb.out.new b) (fun e => Nat.le_trans HLb.out.bel.size e))
          have HOc : Hid (∀ b, (Value.slice none n0 0).ownBlock = some b → ¬ G2 b) := Lib.hid (fun b hb e => (hd2.2.2 b e).elim (HLb.out.off b hb) (fun e => by have := (HLb.out.own.block b hb).2; omega))
          have HDc := Lib.hid hd2.1
          clear hd2 HLb HLa
          go_wp2_with fail
          refine (HX.out.read ⟨#[108, 111, 103]⟩ HDc.out HW1.out).mono ?_
          rintro e wd ⟨vb, rfl, ownb, p4⟩
          rw [HE2.out]
          rw [HL2.out] at ownb
          have HDd := Lib.hid (HX.out.dev.frm HDc.out (Frm.of_below (F := fun _ => False) p4) (fun _ _ e => e))
          have HBd := Lib.hid (HBc.out.trans (p4.mono HBc.out.size))
          have HKd := Lib.hid (HKc.out.frm (F := fun _ => False) (Frm.of_below p4) (fun _ _ e => e))
          have hltc : ∀ b, G2 b → b < wc.heap.size := fun b hb => HX.out.dev.lt HDc.out b hb
          obtain ⟨Ab, qb, hvb, _, _⟩ := ownb.val
          rw [HTL.out] at hvb
          subst hvb
          have HVb : Hid (∀ b, (Value.slice Ab N qb).ownBlock = some b → ¬ G2 b) := Lib.hid (fun b hb e => by have := hltc b e; have := (ownb.block b hb).1; omega)
          have HOb := Lib.hid ownb
          clear ownb p4 hltc HDc HBc HKc
          go_wp2_with fail
          refine (HX.out.down HDd.out HW1.out).mono ?_
          rintro e we ⟨rfl, p5⟩
          rw [show (wakeD d keep).off = false from rfl]
          have HDe := Lib.hid (HX.out.dev.frm HDd.out (Frm.of_below (F := fun _ => False) p5) (fun _ _ e => e))
          have HBe := Lib.hid (HBd.out.trans (p5.mono HBd.out.size))
          have HKe := Lib.hid (HKd.out.frm (F := fun _ => False) (Frm.of_below p5) (fun _ _ e => e))
          have HObe := Lib.hid (HOb.out.frm (F := fun _ => False) (Frm.of_below p5) (fun _ _ e => e))
          clear p5 HDd HBd HKd HOb
          obtain ⟨Ab', qb', eb, rowb, hNq, _⟩ := HObe.out.own.row HWT.out
          obtain ⟨A0', q0', e0, row0, hnq, _⟩ := HKe.out.own.row HWA.out
          rw [HTL.out] at eb hNq
          rw [← HN1.out] at e0 hnq
          injection eb with ebA _ ebq
          injection e0 with e0A _ e0q
          subst ebA ebq
          rw [← e0A] at row0
          rw [← e0q] at hnq
          clear e0A e0q
          have HBG1 : Hid (∀ W, (∃ m, W = we.drewN m) → ∀ Z, Calls Try.prog 28 #[.slice Ab N qb, .slice none 0 Z] W fun e w' => e = .returned (.bool true) ∧ ∃ m, w' = we.drewN m) := Lib.hid (fun W ⟨m, hm⟩ Z => by
            subst hm
            have hr2 := (row0.front 0).drewN m
            rw [← HTT.out] at hr2
            refine (begins_yes Ab none N qb 0 Z (all.take N) (we.drewN m) _ _ (rowb.drewN m) hr2 HTL.out (by omega) hNq (by omega) HObe.out.nilcap).mono fun e w' ⟨h1, k, h2⟩ => ⟨h1, m + k, ?_⟩
            rw [h2]
            simp [World.drewN, Nat.add_assoc])
          have HBG2 : Hid (∀ W, (∃ m, W = we.drewN m) → Calls Try.prog 28 #[.slice none n0 0, .slice Ab N qb] W fun e w' => e = .returned (.bool true) ∧ ∃ m, w' = we.drewN m) := Lib.hid (fun W ⟨m, hm⟩ => by
            subst hm
            refine (begins_yes none Ab n0 0 N qb all (we.drewN m) _ _ (row0.drewN m) (rowb.drewN m) HN1.out.symm (by omega) hnq (by omega) HKe.out.nilcap).mono fun e w' ⟨h1, k, h2⟩ => ⟨h1, m + k, ?_⟩
            rw [h2]
            simp [World.drewN, Nat.add_assoc])
          have HRB := Lib.hid rowb
          clear rowb row0 hNq

          go_wp2_with fail
          refine (HBG1.out _ ⟨0, rfl⟩ _).mono ?_
          rintro e wf ⟨rfl, m2, rfl⟩
          go_wp2_with fail
          refine (HBG2.out _ ⟨m2, rfl⟩).mono ?_
          rintro e wg ⟨rfl, m3, rfl⟩
          have HDg : Hid (D (we.drewN m3) G2 g1 (wakeD d keep)) := Lib.hid (HX.out.dev.frm HDe.out (Frm.of_below (F := fun _ => False) (bel_drewN we m3)) (fun _ _ e => e))
          have HBg := Lib.hid (below_drewN HBe.out m3)
          have HObg : Hid (KOwn .u8 5 (we.drewN m3) wc.heap.size (.slice Ab N qb) (all.take N)) := Lib.hid (HObe.out.drewN m3)
          clear HBG1 HBG2 HDe HBe HKe HObe HRB
          go_wp2_with fail
          refine (HX.out.wake (-1) HDg.out HW1.out ⟨by omega, by omega⟩).mono ?_
          rintro e wh ⟨rfl, G3, hd3⟩
          have HDh := Lib.hid hd3.1
          have HBh := Lib.hid (hd3.2.1.below HBg.out HBg.out.size HGc.out)
          have HObh := Lib.hid (HObg.out.frm hd3.2.1 HVb.out)
          clear hd3 HDg HBg HObg
          go_wp2_with fail
          refine (HX.out.read ⟨#[108, 111, 103]⟩ HDh.out HW2.out).mono ?_
          rintro e wi ⟨vc, rfl, ownc, p6⟩
          rw [HE3.out]
          rw [HL3.out] at ownc
          have HBi := Lib.hid (HBh.out.trans (p6.mono HBh.out.size))
          obtain ⟨Ac, qc, hvc, rowc, _, _⟩ := ownc.own.row HWT.out
          obtain ⟨Ab2, qb2, eb2, rowb2, _, _⟩ := (HObh.out.frm (F := fun _ => False) (Frm.of_below p6) (fun _ _ e => e)).own.row HWT.out
          rw [HTL.out] at hvc eb2
          subst hvc
          injection eb2 with eb2A _ _
          subst eb2A
          clear ownc p6 HDh HBh HObh
          go_wp2_with fail
          refine (same_yes_u8 _ _ N _ _ (all.take N) wi _ _ rowb2 rowc HTL.out (by omega)).mono ?_
          rintro e wj ⟨rfl, m4, rfl⟩
          clear rowb2 rowc
          go_wp2
          go_ret
          exact ⟨rfl, below_drewN HBi.out m4⟩
        | some a0 =>
          clear hnil
          clear HNN
          go_wp2_with fail
          refine (same_yes_u8 _ _ n0 _ _ all wa _ _ rowN (HAR.out wa HBa.out HKa.out) HN1.out.symm (by omega)).mono ?_
          rintro e wb ⟨rfl, m1, rfl⟩
          have HLb := Lib.hid (HLa.out.below HX.out.dev (bel_drewN wa m1))
          clear rowN
          go_wp2_with fail
          refine (HX.out.wake keep HLb.out.dev HLb.out.ok HKP.out).mono ?_
          rintro e wc ⟨rfl, G2, hd2⟩
          have HKc : Hid (KOwn .u8 5 wc w.heap.size (.slice (some a0) n0 q0) all) := Lib.hid (HLb.out.own.frm hd2.2.1 HLb.out.off)
          have HBc : Hid (Below w.heap.size w wc) := Lib.hid (hd2.2.1.below HLb.out.bel HLb.out.bel.size HLb.out.new)
          have HGc : Hid (∀ b, G2 b → w.heap.size ≤ b) := Lib.hid (fun b hb => (hd2.2.2 b hb).elim (HLb.out.new b) (fun e => Nat.le_trans HLb.out.bel.size e))
          have HOc : Hid (∀ b, (Value.slice (some a0) n0 q0).ownBlock = some b → ¬ G2 b) := Lib.hid (fun b hb e => (hd2.2.2 b e).elim (HLb.out.off b hb) (fun e => by have := (HLb.out.own.block b hb).2; omega))
          have HDc := Lib.hid hd2.1
          clear hd2 HLb HLa
          go_wp2_with fail
          refine (HX.out.read ⟨#[108, 111, 103]⟩ HDc.out HW1.out).mono ?_
          rintro e wd ⟨vb, rfl, ownb, p4⟩
          rw [HE2.out]
          rw [HL2.out] at ownb
          have HDd := Lib.hid (HX.out.dev.frm HDc.out (Frm.of_below (F := fun _ => False) p4) (fun _ _ e => e))
          have HBd := Lib.hid (HBc.out.trans (p4.mono HBc.out.size))
          have HKd := Lib.hid (HKc.out.frm (F := fun _ => False) (Frm.of_below p4) (fun _ _ e => e))
          have hltc : ∀ b, G2 b → b < wc.heap.size := fun b hb => HX.out.dev.lt HDc.out b hb
          obtain ⟨Ab, qb, hvb, _, _⟩ := ownb.val
          rw [HTL.out] at hvb
          subst hvb
          have HVb : Hid (∀ b, (Value.slice Ab N qb).ownBlock = some b → ¬ G2 b) := Lib.hid (fun b hb e => by have := hltc b e; have := (ownb.block b hb).1; omega)
          have HOb := Lib.hid ownb
          clear ownb p4 hltc HDc HBc HKc
          go_wp2_with fail
          refine (HX.out.down HDd.out HW1.out).mono ?_
          rintro e we ⟨rfl, p5⟩
          rw [show (wakeD d keep).off = false from rfl]
          have HDe := Lib.hid (HX.out.dev.frm HDd.out (Frm.of_below (F := fun _ => False) p5) (fun _ _ e => e))
          have HBe := Lib.hid (HBd.out.trans (p5.mono HBd.out.size))
          have HKe := Lib.hid (HKd.out.frm (F := fun _ => False) (Frm.of_below p5) (fun _ _ e => e))
          have HObe := Lib.hid (HOb.out.frm (F := fun _ => False) (Frm.of_below p5) (fun _ _ e => e))
          clear p5 HDd HBd HKd HOb
          obtain ⟨Ab', qb', eb, rowb, hNq, _⟩ := HObe.out.own.row HWT.out
          obtain ⟨A0', q0', e0, row0, hnq, _⟩ := HKe.out.own.row HWA.out
          rw [HTL.out] at eb hNq
          rw [← HN1.out] at e0 hnq
          injection eb with ebA _ ebq
          injection e0 with e0A _ e0q
          subst ebA ebq
          rw [← e0A] at row0
          rw [← e0q] at hnq
          clear e0A e0q
          have HBG1 : Hid (∀ W, (∃ m, W = we.drewN m) → ∀ Z, Calls Try.prog 28 #[.slice Ab N qb, .slice (some a0) sy Z] W fun e w' => e = .returned (.bool true) ∧ ∃ m, w' = we.drewN m) := Lib.hid (fun W ⟨m, hm⟩ Z => by
            subst hm
            have hr2 := (row0.front sy).drewN m
            rw [← HTT.out] at hr2
            refine (begins_yes Ab (some a0) N qb sy Z (all.take N) (we.drewN m) _ _ (rowb.drewN m) hr2 HTL.out (by omega) hNq (by omega) HObe.out.nilcap).mono fun e w' ⟨h1, k, h2⟩ => ⟨h1, m + k, ?_⟩
            rw [h2]
            simp [World.drewN, Nat.add_assoc])
          have HBG2 : Hid (∀ W, (∃ m, W = we.drewN m) → Calls Try.prog 28 #[.slice (some a0) n0 q0, .slice Ab N qb] W fun e w' => e = .returned (.bool true) ∧ ∃ m, w' = we.drewN m) := Lib.hid (fun W ⟨m, hm⟩ => by
            subst hm
            refine (begins_yes (some a0) Ab n0 q0 N qb all (we.drewN m) _ _ (row0.drewN m) (rowb.drewN m) HN1.out.symm (by omega) hnq (by omega) HKe.out.nilcap).mono fun e w' ⟨h1, k, h2⟩ => ⟨h1, m + k, ?_⟩
            rw [h2]
            simp [World.drewN, Nat.add_assoc])
          have HRB := Lib.hid rowb
          clear rowb row0 hNq
          have sl1 : (sy : Int) ≤ (q0 : Int) := by omega

          go_wp2_with fail
          refine (HBG1.out _ ⟨0, rfl⟩ _).mono ?_
          rintro e wf ⟨rfl, m2, rfl⟩
          go_wp2_with fail
          refine (HBG2.out _ ⟨m2, rfl⟩).mono ?_
          rintro e wg ⟨rfl, m3, rfl⟩
          have HDg : Hid (D (we.drewN m3) G2 g1 (wakeD d keep)) := Lib.hid (HX.out.dev.frm HDe.out (Frm.of_below (F := fun _ => False) (bel_drewN we m3)) (fun _ _ e => e))
          have HBg := Lib.hid (below_drewN HBe.out m3)
          have HObg : Hid (KOwn .u8 5 (we.drewN m3) wc.heap.size (.slice Ab N qb) (all.take N)) := Lib.hid (HObe.out.drewN m3)
          clear HBG1 HBG2 HDe HBe HKe HObe HRB
          go_wp2_with fail
          refine (HX.out.wake (-1) HDg.out HW1.out ⟨by omega, by omega⟩).mono ?_
          rintro e wh ⟨rfl, G3, hd3⟩
          have HDh := Lib.hid hd3.1
          have HBh := Lib.hid (hd3.2.1.below HBg.out HBg.out.size HGc.out)
          have HObh := Lib.hid (HObg.out.frm hd3.2.1 HVb.out)
          clear hd3 HDg HBg HObg
          go_wp2_with fail
          refine (HX.out.read ⟨#[108, 111, 103]⟩ HDh.out HW2.out).mono ?_
          rintro e wi ⟨vc, rfl, ownc, p6⟩
          rw [HE3.out]
          rw [HL3.out] at ownc
          have HBi := Lib.hid (HBh.out.trans (p6.mono HBh.out.size))
          obtain ⟨Ac, qc, hvc, rowc, _, _⟩ := ownc.own.row HWT.out
          obtain ⟨Ab2, qb2, eb2, rowb2, _, _⟩ := (HObh.out.frm (F := fun _ => False) (Frm.of_below p6) (fun _ _ e => e)).own.row HWT.out
          rw [HTL.out] at hvc eb2
          subst hvc
          injection eb2 with eb2A _ _
          subst eb2A
          clear ownc p6 HDh HBh HObh
          go_wp2_with fail
          refine (same_yes_u8 _ _ N _ _ (all.take N) wi _ _ rowb2 rowc HTL.out (by omega)).mono ?_
          rintro e wj ⟨rfl, m4, rfl⟩
          clear rowb2 rowc
          go_wp2
          go_ret
          exact ⟨rfl, below_drewN HBi.out m4⟩
theorem walk_DeviceLasts (A : Option Addr) (n c : Nat) (l : List Lm) (SA : Option Addr) (sn sc : Nat) (ss : List Bool) (cut keep : Int) (w : World) (hrow : VRow w w.heap.size A (flatV lmC l)) (hn : l.length = n) (hok : ∀ m ∈ l, Lm.Ok w w.heap.size m) (hle : n ≤ c) (hb : c * 24 ≤ 140737488351232)
    (hsr : L.Row () w w.heap.size SA ss) (hsn : ss.length = sn) (hsl : sn ≤ sc) (hsb : sc ≤ 140737488351232) (hc : (Lit.int .i64 cut).wf = true) (hk : (Lit.int .i64 keep).wf = true) :
    Calls Try.prog 5 #[.slice A n c, .slice SA sn sc, .int .i64 cut, .int .i64 keep] w fun e w' => e = .returned (.bool true) ∧ Below w.heap.size w w' :=
  lasts_any devOk12 A n c l SA sn sc ss cut keep w hrow hn (by omega) hok hsr hsn (by omega) (wf_i64 hk)
end Go.Proofs.Ytfclgjdlkcmnfaa
namespace Go.Proofs.Ytfclgjdlkcmnfaa
open Go.RowKit
set_option linter.unusedVariables false
set_option maxRecDepth 100000

theorem find_map (l : List Fl) (F : Fl → Fl) (hF : ∀ f, (F f).nm = f.nm) (s : ByteArray) : findD (l.map F) s = findD l s := by
  unfold findD
  rw [List.findIdx?_map]
  congr 1
  funext f
  simp [hF]
theorem wakeF_nm (keep : Int) (f : Fl) : (wakeF keep f).nm = f.nm := rfl
theorem wake_synced (d : Dv) (keep : Int) : ∀ f ∈ (wakeD d keep).fs, (∀ g ∈ d.fs, g.sy ≤ g.bs.length) → f.sy = f.bs.length := by
  intro f hf h
  obtain ⟨g, hg, rfl⟩ := List.mem_map.1 hf
  have := h g hg
  unfold wakeF
  simp only [List.length_take]
  omega
theorem wake_names (d : Dv) (keep : Int) : namesD (wakeD d keep) = namesD d := by
  unfold namesD wakeD
  rw [List.map_map]
  rfl
/-- A file that is synced whole stays whole. -/
theorem wakeF_whole {f : Fl} (h : f.sy = f.bs.length) (keep : Int) : (wakeF keep f).bs = f.bs := by
  unfold wakeF
  simp only
  rw [h]
  exact List.take_of_length_le (by omega)
def RenTo (d1 d2 : Dv) (E : Int) (s u : ByteArray) : Prop :=
  (E = 8 ∧ d2 = d1) ∨ (E = 6 ∧ d2 = d1 ∧ readE d1 s = 6) ∨
  (E = 0 ∧ readE d1 s = 0 ∧ readE (wakeD d2 0) u = 0 ∧ readL (wakeD d2 0) u = readL d1 s ∧ (sameN s u = true ∨ readE (wakeD d2 0) s = 6))
theorem ren_facts {d1 : Dv} (ok : Dv.Ok d1) (hoff : d1.off = false) (hleft : d1.left = -1) (hsy : ∀ f ∈ d1.fs, f.sy = f.bs.length) (s u : ByteArray) : RenTo d1 (renD d1 s u).1 (renD d1 s u).2 s u := by
  unfold renD
  by_cases hu : okN u = false
  · rw [if_pos hu]
    exact .inl ⟨rfl, rfl⟩
  rw [if_neg hu, if_neg (by rw [hoff]; simp)]
  cases hf : findD d1.fs s with
  | none =>
    refine .inr (.inl ⟨rfl, rfl, ?_⟩)
    unfold readE; rw [hf]
  | some k =>
    obtain ⟨hk, h1, _⟩ := findD_some hf
    refine .inr (.inr ?_)
    simp only [List.getElem?_eq_getElem hk]
    unfold opD
    rw [if_neg (by rw [hleft]; decide)]
    have hout : outD d1.fs s = d1.fs.eraseIdx k := by unfold outD; rw [hf]
    have hupe := erase_up ok.up k
    have hnone := findD_none.2 (outD_none hupe u)
    obtain ⟨F, hF⟩ : ∃ F, d1.fs[k] = F := ⟨_, rfl⟩
    have hFs : F.sy = F.bs.length := by rw [← hF]; exact hsy _ (List.getElem_mem hk)
    rw [hF]
    obtain ⟨i1, hk2, i2⟩ := ins_find hnone F.bs F.sy
    have hw : ∀ t, findD (wakeD { spentD d1 with fs := insD (outD (d1.fs.eraseIdx k) u) { F with nm := u } } 0).fs t = findD (insD (outD (d1.fs.eraseIdx k) u) ⟨u, F.bs, F.sy⟩) t := fun t => find_map _ _ (wakeF_nm 0) t
    refine ⟨rfl, ?_, ?_, ?_, ?_⟩
    · unfold readE; rw [hf]
    · unfold readE; rw [hw, i1]
    · unfold readL
      rw [hw, i1, hf]
      simp only [List.getElem?_eq_getElem hk, hF, Option.map_some, Option.getD_some]
      show (((insD (outD (d1.fs.eraseIdx k) u) ⟨u, F.bs, F.sy⟩).map (wakeF 0))[posD (outD (d1.fs.eraseIdx k) u) u]?.map fun f => f.bs).getD [] = F.bs
      rw [List.getElem?_map, List.getElem?_eq_getElem hk2, i2]
      exact wakeF_whole (f := ⟨u, F.bs, F.sy⟩) hFs 0
    · by_cases he : sameN s u = true
      · exact .inl he
      · right
        unfold readE
        rw [hw, findD_none.2 (fun g hg => ?_)]
        rcases ins_mem hg with rfl | hg
        · rw [sameN_comm]
          simpa using he
        · have := outD_mem hg
          rw [← hout] at this
          exact outD_none ok.up s g this
end Go.Proofs.Ytfclgjdlkcmnfaa
namespace Go.Proofs.Ytfclgjdlkcmnfaa
open Go.RowKit
set_option linter.unusedVariables false
set_option maxRecDepth 100000

/-- A device of the call's own. -/
def DvTo (D : DevP) (g : Nat) (w wr : World) : Prop := ∃ G d, D wr G g d ∧ Dv.Ok d ∧ (∀ b, G b → w.heap.size ≤ b) ∧ Below w.heap.size w wr
set_option maxHeartbeats 8000000 in
theorem renamed_any {D : DevP} (X : DevOk D) (A : Option Addr) (n c : Nat) (l : List Opm) (s u : ByteArray) (keep : Int) (w : World) (hr : VRow w w.heap.size A (flatV opC l)) (hn : l.length = n) (hb : n ≤ 1954687338763) (hok : ∀ m ∈ l, Opm.Ok w w.heap.size m) (hkeep : -9223372036854775808 ≤ keep ∧ keep < 9223372036854775808) :
    Calls Try.prog 8 #[.slice A n c, .string s, .string u, .int .i64 keep] w fun e w' => e = .returned (.bool true) ∧ Below w.heap.size w w' := by
  have HR := Lib.hid hr
  have HN := Lib.hid hn
  have HO := Lib.hid hok
  have HX := Lib.hid X
  have HKP := Lib.hid hkeep
  clear hr hn hok X hkeep
  go_enter Try.func8, Try.ntmps8
  go_wp2_with fail
  refine (works12 HX.out w).mono ?_
  rintro e w1 ⟨rfl, b1⟩
  go_wp2_with fail
  refine (long_any A n c l w1 ((HR.out.below b1).more b1.size) HN.out (by omega)).mono ?_
  rintro e w' ⟨b, rfl, rfl, hlong⟩
  cases b with
  | true =>
    clear hlong
    go_wp2
    go_ret
    exact ⟨rfl, b1⟩
  | false =>
    have HL := Lib.hid (hlong rfl)
    clear hlong
    have HB1 := Lib.hid b1
    clear b1
    go_wp2_with fail
    refine (HX.out.newYes 16384 w1 (by omega)).mono ?_
    rintro e w2 ⟨g1, G1, rfl, h1, b2, n1⟩
    have HI : Hid (DvTo D g1 w w2) := Lib.hid ⟨G1, newD 16384, h1, new_ok 16384 (by omega), fun b hb => Nat.le_trans HB1.out.size (n1 b hb), HB1.out.trans (b2.mono HB1.out.size)⟩
    clear h1 n1 b2
    go_wp2_with fail
    go_loopw [11] (fun i wr => ∃ k : Nat, k ≤ n ∧ i = .int .i64 k ∧ Hid (DvTo D g1 w wr)) (fun i _ => n - (intOf i).toNat)
    case atStart => exact ⟨0, by omega, rfl, HI⟩
    case round =>
      obtain ⟨k, hk, rfl, hrel⟩ := hrel
      clear HI
      obtain ⟨G, d0, hd, ok, hg, bel⟩ := hrel.out
      by_cases hlt : k < n
      · have hkl : k < l.length := by rw [HN.out]; exact hlt
        obtain ⟨b, o, rfl, hbw, hc⟩ := HR.out.elem opC_len (by omega) hkl
        have hm := HO.out _ (List.getElem_mem hkl)
        have hsm := HL.out.2 k hkl
        obtain ⟨m, hmm⟩ : ∃ m, l[k] = m := ⟨_, rfl⟩
        rw [hmm] at hc hm hsm
        obtain ⟨ki, nm, tn, A', n', c', N', bs⟩ := m
        have hc0 := fun j v hv => (bel.cell (p := ⟨b, o + k * 5 + j, none⟩) hbw).trans (hc j v hv)
        have c0 := hc0 0 _ rfl
        have c1 := hc0 1 _ rfl
        have c2 := hc0 2 _ rfl
        have c3 := hc0 3 _ rfl
        have c4 := hc0 4 _ rfl
        have hmr := hm.row
        have hml := hm.len
        simp only at c0 c1 c2 c3 c4 hmr hml
        rw [Nat.add_zero] at c0
        have HRUN := Lib.hid (run_dev HX.out ki nm tn A' n' c' N' bs hd ok ((hmr.below bel).more bel.size) hml hm.le hm.cap hsm.1 (fun a ha hp e => by
          obtain ⟨b', o', e1, e2, _⟩ := hmr.2 (by rw [hml]; exact hp)
          rw [ha] at e1
          injection e1 with e1
          subst e1
          have := hg _ e
          simp only at this
          omega) hm.N)
        have HOK := Lib.hid (call_ok ok ki nm tn hmr.1 hm.N.2)
        generalize (callD d0 ki nm tn bs N').1 = d at HRUN HOK
        generalize (callD d0 ki nm tn bs N').2 = E at HRUN
        have HG := Lib.hid hg
        have HBEL := Lib.hid bel
        have i3 : (0 : Int) ≤ (k : Int) := by omega
        clear hd ok hg hrel hmm hc hm hsm hc0 hmr hml bel
        go_wp2_with fail
        refine HRUN.out.mono ?_
        rintro e wa ⟨rfl, G', hd', fr, hs⟩
        have HEND : Hid (DvTo D g1 w wa) := Lib.hid ⟨G', d, hd', HOK.out, fun b hb => (hs b hb).elim (HG.out b) (fun e => Nat.le_trans HBEL.out.size e), fr.below HBEL.out HBEL.out.size HG.out⟩
        clear c0 c1 c2 c3 c4 fr hs hd'
        go_wp2
        go_roundw
        case rel => exact ⟨k + 1, by omega, by go_num, HEND⟩
        case measure => simp [intOf]; omega
      · obtain rfl : k = n := by omega
        have HD := Lib.hid hd
        have HOK := Lib.hid ok
        have HG := Lib.hid hg
        have HB := Lib.hid bel
        have HW := Lib.hid (wake_ok ok keep)
        have HSY : Hid (∀ f ∈ (wakeD d0 keep).fs, f.sy = f.bs.length) := Lib.hid (fun f hf => wake_synced d0 keep f hf (fun g hg => (ok.fl g hg).sy))
        have HNW : Hid (namesD (wakeD d0 keep) = namesD d0) := Lib.hid (wake_names d0 keep)
        have HRF : Hid (RenTo (wakeD d0 keep) (renD (wakeD d0 keep) s u).1 (renD (wakeD d0 keep) s u).2 s u) := Lib.hid (ren_facts HW.out rfl rfl HSY.out s u)
        have HRO := Lib.hid (ren_ok HW.out s u)
        obtain ⟨NL, hNL⟩ : ∃ NL, namesD d0 = NL := ⟨_, rfl⟩
        have HNL := Lib.hid hNL
        rw [hNL] at HNW
        obtain ⟨M, hM⟩ : ∃ M, NL.length = M := ⟨_, rfl⟩
        have HM := Lib.hid hM
        have hM64 : M ≤ 64 := by rw [← hM, ← hNL]; unfold namesD; rw [List.length_map]; exact ok.ln
        have hwl := readL_wf HW.out s
        obtain ⟨L, hL⟩ : ∃ L, readL (wakeD d0 keep) s = L := ⟨_, rfl⟩
        have HLL := Lib.hid hL
        rw [hL] at hwl
        obtain ⟨Q, hQ⟩ : ∃ Q, L.length = Q := ⟨_, rfl⟩
        have HQ := Lib.hid hQ
        have hQ2 : Q ≤ 16777216 := by rw [← hQ]; exact hwl.2
        have HWF := Lib.hid hwl.1
        obtain ⟨E1, hE1⟩ : ∃ E1, readE (wakeD d0 keep) s = E1 := ⟨_, rfl⟩
        have HE1 := Lib.hid hE1
        clear hd ok hg bel hNL hM hwl hL hQ hE1 hrel
        go_wp2_with fail
        refine (HX.out.names HD.out HOK.out).mono ?_
        rintro e wa ⟨v1, rfl, own1, p1⟩
        rw [HNL.out] at own1
        have HDa := Lib.hid (HX.out.dev.frm HD.out (Frm.of_below (F := fun _ => False) p1) (fun _ _ e => e))
        have HBa := Lib.hid (HB.out.trans (p1.mono HB.out.size))
        have hlta : ∀ b, G b → b < wr.heap.size := fun b hb => HX.out.dev.lt HD.out b hb
        have hv1 : ∀ b, v1.ownBlock = some b → ¬ G b := fun b hb e => by have := hlta b e; have := (TkOwn.lt own1 b hb).1; omega
        obtain ⟨A1, q1, hv⟩ := own1.letters
        rw [HM.out] at hv
        subst hv
        have HO1 := Lib.hid own1
        have HV1 := Lib.hid hv1
        clear own1 hv1 hlta p1
        go_wp2_with fail
        refine (HX.out.read s HDa.out HOK.out).mono ?_
        rintro e wb ⟨v2, rfl, own2, p2⟩
        obtain ⟨Z1, Z2, Z3, rfl⟩ := own2.letters
        have HDb := Lib.hid (HX.out.dev.frm HDa.out (Frm.of_below (F := fun _ => False) p2) (fun _ _ e => e))
        have HBb := Lib.hid (HBa.out.trans (p2.mono HBa.out.size))
        have HO2 := Lib.hid (HO1.out.below p2 (Nat.le_refl _))
        clear own2 p2
        go_wp2_with fail
        refine (HX.out.wake keep HDb.out HOK.out HKP.out).mono ?_
        rintro e wc ⟨rfl, Gc, hdc, frc, hsc⟩
        have HDc := Lib.hid hdc
        have HBc := Lib.hid (frc.below HBb.out HBb.out.size HG.out)
        have HGc : Hid (∀ b, Gc b → w.heap.size ≤ b) := Lib.hid (fun b hb => (hsc b hb).elim (HG.out b) (fun e => Nat.le_trans HBb.out.size e))
        have HO3 := Lib.hid (HO2.out.frm frc (fun b hb => HV1.out b hb))
        have HV3 : Hid (∀ b, (Value.slice A1 M q1).ownBlock = some b → ¬ Gc b) := Lib.hid (fun b hb e => (hsc b e).elim (HV1.out b hb) (fun e => by have := (TkOwn.lt HO2.out b hb).2; omega))
        clear hdc frc hsc HV1 HDa HDb HBa HBb HO1 HO2
        go_wp2_with fail
        refine (HX.out.read s HDc.out HW.out).mono ?_
        rintro e wd ⟨v4, rfl, own4, p4⟩
        rw [HE1.out]
        rw [HLL.out] at own4
        have HDd := Lib.hid (HX.out.dev.frm HDc.out (Frm.of_below (F := fun _ => False) p4) (fun _ _ e => e))
        have HBd := Lib.hid (HBc.out.trans (p4.mono HBc.out.size))
        have HO4 := Lib.hid (HO3.out.below p4 (Nat.le_refl _))
        have hltc : ∀ b, Gc b → b < wc.heap.size := fun b hb => HX.out.dev.lt HDc.out b hb
        have HV4 : Hid (∀ b, v4.ownBlock = some b → ¬ Gc b) := Lib.hid (fun b hb e => by have := hltc b e; have := (own4.block b hb).1; omega)
        obtain ⟨A4, q4, hv4, _, _⟩ := own4.val
        rw [HQ.out] at hv4
        subst hv4
        have HK4 := Lib.hid own4
        clear own4 p4 hltc HDc HBc HO3
        have HREN := Lib.hid (HX.out.rename s u HDd.out HW.out)
        generalize (renD (wakeD d0 keep) s u).1 = d2 at HREN HRF HRO
        generalize (renD (wakeD d0 keep) s u).2 = E at HREN HRF
        go_wp2_with fail
        refine HREN.out.mono ?_
        rintro e we ⟨rfl, Ge, hde, fre, hse⟩
        have HDe := Lib.hid hde
        have HBe := Lib.hid (fre.below HBd.out HBd.out.size HGc.out)
        have HGe : Hid (∀ b, Ge b → w.heap.size ≤ b) := Lib.hid (fun b hb => (hse b hb).elim (HGc.out b) (fun e => Nat.le_trans HBd.out.size e))
        have HO5 := Lib.hid (HO4.out.frm fre (fun b hb => HV3.out b hb))
        have HK5 := Lib.hid (HK4.out.frm fre (fun b hb => HV4.out b hb))
        have HV5 : Hid (∀ b, (Value.slice A4 Q q4).ownBlock = some b → ¬ Ge b) := Lib.hid (fun b hb e => (hse b e).elim (HV4.out b hb) (fun e => by have := (HK4.out.block b hb).2; omega))
        clear hde fre hse HV3 HV4 HO4 HK4 HREN HDd HBd
        rcases HRF.out with ⟨hE, hd2⟩ | ⟨hE, hd2, hrd⟩ | ⟨hE, hr1, hr2, hr3, hr4⟩
        · subst hE
          subst hd2
          clear HRF
          go_wp2_with fail
          refine (HX.out.names HDe.out HRO.out).mono ?_
          rintro e wf ⟨v6, rfl, own6, p5⟩
          rw [HNW.out] at own6
          obtain ⟨A6, q6, hv6⟩ := own6.letters
          rw [HM.out] at hv6
          subst hv6
          obtain ⟨A6', q6', e6, row6, _, _⟩ := own6.own.row
          obtain ⟨A1', q1', e1, row1, _, _⟩ := (HO5.out.below p5 (Nat.le_refl _)).own.row
          rw [HM.out] at e6 e1
          injection e6 with e6A _ _
          injection e1 with e1A _ _
          subst e6A e1A
          have HBf := Lib.hid (HBe.out.trans (p5.mono HBe.out.size))
          clear p5 HDe HBe HO5 own6
          go_wp2_with fail
          refine (same_yes_tx _ _ M _ _ NL wf _ _ row6 row1 HM.out (by omega)).mono ?_
          rintro e wg ⟨rfl, m9, rfl⟩
          clear row6 row1
          go_wp2
          go_ret
          exact ⟨rfl, below_drewN HBf.out m9⟩
        · subst hE
          have hE6 : E1 = 6 := by rw [← HE1.out]; exact hrd
          subst hE6
          clear hrd
          subst hd2
          clear HRF
          go_wp2_with fail
          refine (HX.out.names HDe.out HRO.out).mono ?_
          rintro e wf ⟨v6, rfl, own6, p5⟩
          rw [HNW.out] at own6
          obtain ⟨A6, q6, hv6⟩ := own6.letters
          rw [HM.out] at hv6
          subst hv6
          obtain ⟨A6', q6', e6, row6, _, _⟩ := own6.own.row
          obtain ⟨A1', q1', e1, row1, _, _⟩ := (HO5.out.below p5 (Nat.le_refl _)).own.row
          rw [HM.out] at e6 e1
          injection e6 with e6A _ _
          injection e1 with e1A _ _
          subst e6A e1A
          have HBf := Lib.hid (HBe.out.trans (p5.mono HBe.out.size))
          clear p5 HDe HBe HO5 own6
          go_wp2_with fail
          refine (same_yes_tx _ _ M _ _ NL wf _ _ row6 row1 HM.out (by omega)).mono ?_
          rintro e wg ⟨rfl, m9, rfl⟩
          clear row6 row1
          go_wp2
          go_ret
          exact ⟨rfl, below_drewN HBf.out m9⟩
        · subst hE
          have hE0 : E1 = 0 := by rw [← HE1.out]; exact hr1
          subst hE0
          have HR2 := Lib.hid hr2
          have HR3 : Hid (readL (wakeD d2 0) u = L) := Lib.hid (by rw [hr3, HLL.out])
          have HW2 := Lib.hid (wake_ok HRO.out 0)
          have HR4 := Lib.hid hr4
          clear hr1 hr2 hr3 hr4 HRF HO5
          go_wp2_with fail
          refine (HX.out.wake 0 HDe.out HRO.out ⟨by omega, by omega⟩).mono ?_
          rintro e wf ⟨rfl, Gf, hdf, frf, hsf⟩
          have HDf := Lib.hid hdf
          have HBf := Lib.hid (frf.below HBe.out HBe.out.size HGe.out)
          have HK6 := Lib.hid (HK5.out.frm frf (fun b hb => HV5.out b hb))
          clear hdf frf hsf HV5 HK5 HDe HBe
          go_wp2_with fail
          refine (HX.out.read u HDf.out HW2.out).mono ?_
          rintro e wg ⟨v7, rfl, own7, p7⟩
          rw [HR2.out]
          rw [HR3.out] at own7
          have HDg := Lib.hid (HX.out.dev.frm HDf.out (Frm.of_below (F := fun _ => False) p7) (fun _ _ e => e))
          have HBg := Lib.hid (HBf.out.trans (p7.mono HBf.out.size))
          have HK7 := Lib.hid (HK6.out.below p7 (Nat.le_refl _))
          obtain ⟨A7, q7, hv7, _, _⟩ := own7.val
          rw [HQ.out] at hv7
          subst hv7
          have HC7 := Lib.hid own7
          clear own7 p7 HDf HBf HK6
          go_wp2_with fail
          refine (HX.out.read s HDg.out HW2.out).mono ?_
          rintro e wh ⟨v8, rfl, own8, p8⟩
          obtain ⟨A8, n8, q8, rfl⟩ := own8.letters
          have HBh := Lib.hid (HBg.out.trans (p8.mono HBg.out.size))
          obtain ⟨A4', q4', e4, row4, _, _⟩ := (HK7.out.below p8 (Nat.le_refl _)).own.row HWF.out
          obtain ⟨A7', q7', e7, row7, _, _⟩ := (HC7.out.below p8 (Nat.le_refl _)).own.row HWF.out
          rw [HQ.out] at e4 e7
          injection e4 with e4A _ _
          injection e7 with e7A _ _
          subst e4A e7A
          clear own8 p8 HDg HBg HK7 HC7
          rcases HR4.out with hss | hno
          · have tS : (s.toList == u.toList) = true := hss
            generalize readE (wakeD d2 0) s = E8
            go_wp2_with fail
            refine (same_yes_u8 _ _ Q _ _ L wh _ _ row4 row7 HQ.out (by omega)).mono ?_
            rintro e wi ⟨rfl, m9, rfl⟩
            clear row4 row7
            go_wp2
            go_ret
            exact ⟨rfl, below_drewN HBh.out m9⟩
          · rw [hno]
            clear hno
            go_wp2_with fail
            refine (same_yes_u8 _ _ Q _ _ L wh _ _ row4 row7 HQ.out (by omega)).mono ?_
            rintro e wi ⟨rfl, m9, rfl⟩
            clear row4 row7
            cases tS : (s.toList == u.toList)
            all_goals
              go_wp2
              go_ret
              exact ⟨rfl, below_drewN HBh.out m9⟩
theorem walk_DeviceRenamed (A : Option Addr) (n c : Nat) (l : List Opm) (s u : ByteArray) (keep : Int) (w : World) (hrow : VRow w w.heap.size A (flatV opC l)) (hn : l.length = n) (hok : ∀ m ∈ l, Opm.Ok w w.heap.size m) (hle : n ≤ c) (hb : c * 72 ≤ 140737488351232) (hs : s.size ≤ maxLen) (hu : u.size ≤ maxLen) (hk : (Lit.int .i64 keep).wf = true) :
    Calls Try.prog 8 #[.slice A n c, .string s, .string u, .int .i64 keep] w fun e w' => e = .returned (.bool true) ∧ Below w.heap.size w w' :=
  renamed_any devOk12 A n c l s u keep w hrow hn (by omega) hok (wf_i64 hk)
end Go.Proofs.Ytfclgjdlkcmnfaa
