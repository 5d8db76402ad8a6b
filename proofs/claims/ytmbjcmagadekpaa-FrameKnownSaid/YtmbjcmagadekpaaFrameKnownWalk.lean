/-
  The walk of FrameKnown.
-/
import Derived.Test.YtmbjcmagadekpaaFrSplit
import Derived.Test.YtmbjcmagadekpaaFrKnown
namespace Go.Proofs.Ytmbjcmagadekpaa
open Go.RowKit
set_option linter.unusedVariables false

theorem ort_lit (A : Option Addr) (n : Nat) (l : List Int) (E : Int) (hE : ortE l = E) (hn : l.length = n) (W : World) (hr : Row .u8 W W.heap.size A l) :
    Calls Try.prog 33 #[.slice A n n] W fun e w' => ∃ U A1 m1, e = .returned (.tuple #[.int .u8 U, .slice A1 m1 m1, .int .i64 E]) ∧ Below W.heap.size W w' :=
  (ort_any A n n l W hr hn (Nat.le_refl _)).mono fun e w' ⟨A1, m, g, he, hm, hg, hl, hb⟩ => ⟨ortU l, A1, m, by rw [he, hE], hb⟩
theorem rtu_lit (A : Option Addr) (u : Int) (n c : Nat) (l : List Int) (E : Int) (hE : rtuE u l = E) (hn : l.length = n) (W : World) (hr : Row .u8 W W.heap.size A l) :
    Calls Try.prog 31 #[.int .u8 u, .slice A n c] W fun e w' => ∃ A1 m1, e = .returned (.tuple #[.slice A1 m1 m1, .int .i64 E]) ∧ Below W.heap.size W w' :=
  (rtu_any A n c u l W hr hn).mono fun e w' ⟨A1, m, g, he, hm, hg, hl, hb⟩ => ⟨A1, m, by rw [he, hE], hb⟩
theorem get_lit (A : Option Addr) (n c : Nat) (l : List Int) (E : Int) (L : Nat) (hE : frErr l = E) (hL : frLen l = L) (hn : l.length = n) (hc : n ≤ c) (hw : ∀ x ∈ l, (Lit.int .u8 x).wf = true) (W : World) (hr : Row .u8 W W.heap.size A l) :
    Calls Try.prog 37 #[.slice A n c] W fun e w' => ∃ i u A1 m1 c1, e = .returned (.tuple #[.agg #[.int .u16 i, .int .u8 u, .slice A1 m1 c1], .int .i64 (L : Nat), .int .i64 E]) ∧ Below W.heap.size W w' :=
  (frGet_any A n c l W hr hn hc).mono fun e w' ⟨v, he, hv, hb⟩ => by
    obtain ⟨A1, c1, rfl, _, _, _⟩ := hv.row (frGot_wf hw).l
    exact ⟨_, _, A1, _, c1, by rw [he, hE, hL], hb⟩
theorem split_lit (A : Option Addr) (n c : Nat) (l : List Int) (fs : List Tc) (m k : Nat) (E : Int) (hs : Spl l fs k E) (hm : fs.length = m) (hn : l.length = n) (hc : n ≤ c) (hb : n ≤ 30000000000000) (W : World) (hr : Row .u8 W W.heap.size A l) :
    Calls Try.prog 39 #[.slice A n c] W fun e w' => ∃ A1 c1, e = .returned (.tuple #[.slice A1 m c1, .int .i64 (k : Nat), .int .i64 E]) ∧ Below W.heap.size W w' :=
  (split_any A n c l W hr hn hc hb).mono fun e w' ⟨fs', k', E', v, hs', he, ho, hbel⟩ => by
    obtain ⟨rfl, rfl, rfl⟩ := hs'.one hs
    obtain ⟨A1, c1, rfl, _⟩ := ho.len
    rw [hm] at he
    exact ⟨A1, c1, he, hbel⟩

def lA : List Int := [1, 3, 0, 0, 0, 10, 197, 204]
def lP : List Int := [0, 1, 0, 0, 0, 6, 17, 3, 0, 107, 0, 3]
def lPdu : List Int := [3, 0, 107, 0, 3]
def lI : List Int := [0, 1, 0, 0, 0, 1, 17]
def lJ : List Int := [0, 1, 0, 1, 0, 6, 17]
def lK : List Int := [0, 1, 0, 0, 0, 6]
def lL : List Int := [0, 1, 0, 0, 0, 255, 17]
def lM : List Int := [0, 1, 0, 0, 0, 254, 17]
def lT : List Int := [0, 1, 0, 0, 0]
def lQ : List Int := [0, 1, 0, 0, 0, 0, 17]
theorem eA : ortE lA = 5 := by decide +kernel
theorem eB : rtuE 0 [3] = 24 := by decide +kernel
theorem eC : rtuE 248 [3] = 24 := by decide +kernel
theorem eD : rtuE 1 [] = 1 := by decide +kernel
theorem eE : rtuE 247 (List.replicate 253 0) = 0 := by decide +kernel
theorem eF : rtuE 1 (List.replicate 254 0) = 2 := by decide +kernel
theorem eP : frPut ⟨1, 17, lPdu⟩ = lP ∧ frChk lPdu = 0 := by decide +kernel
theorem eH : frErr (lP ++ [255]) = 0 ∧ frLen (lP ++ [255]) = 12 := by decide +kernel
theorem eI : frErr lI = 4 ∧ frLen lI = 0 := by decide +kernel
theorem eJ : frErr lJ = 4 ∧ frLen lJ = 0 := by decide +kernel
theorem eK : frErr lK = 1 ∧ frLen lK = 0 := by decide +kernel
theorem eL : frErr lL = 4 ∧ frLen lL = 0 := by decide +kernel
theorem eM : frErr lM = 1 ∧ frLen lM = 0 := by decide +kernel
theorem eAll : ∃ fs, Spl (lP ++ lP ++ lT) fs 24 0 ∧ fs.length = 2 := by
  have h0 : frErr (lP ++ lP ++ lT) = 0 ∧ frLen (lP ++ lP ++ lT) = 12 := by decide +kernel
  have h1 : frErr ((lP ++ lP ++ lT).drop 12) = 0 ∧ frLen ((lP ++ lP ++ lT).drop 12) = 12 := by decide +kernel
  have h2 : frErr (((lP ++ lP ++ lT).drop 12).drop 12) = 1 := by decide +kernel
  have s2 := Spl.stop (((lP ++ lP ++ lT).drop 12).drop 12) (by rw [h2]; decide)
  rw [h2, if_pos rfl] at s2
  have s1 := Spl.step ((lP ++ lP ++ lT).drop 12) h1.1 (by rw [h1.2]; exact s2)
  have s0 := Spl.step (lP ++ lP ++ lT) h0.1 (by rw [h0.2]; exact s1)
  rw [h0.2, h1.2] at s0
  exact ⟨_, s0, rfl⟩
theorem eOne : ∃ fs, Spl (lP ++ lQ) fs 12 4 ∧ fs.length = 1 := by
  have h0 : frErr (lP ++ lQ) = 0 ∧ frLen (lP ++ lQ) = 12 := by decide +kernel
  have h2 : frErr ((lP ++ lQ).drop 12) = 4 := by decide +kernel
  have s2 := Spl.stop ((lP ++ lQ).drop 12) (by rw [h2]; decide)
  rw [h2, if_neg (by decide)] at s2
  have s0 := Spl.step (lP ++ lQ) h0.1 (by rw [h0.2]; exact s2)
  rw [h0.2] at s0
  exact ⟨_, s0, rfl⟩

set_option maxHeartbeats 8000000 in
set_option maxRecDepth 100000 in
theorem walk_FrameKnown (w : World) : Calls Try.prog 12 #[] w fun e w' => e = .returned (.bool true) ∧ Below w.heap.size w w' := by
  have hm1 : ∀ W : World, (Instr.makeSlice 34 (.int .i64 253) (.int .i64 253)).run Try.prog W = .ok (.slice (some ⟨W.heap.size, 0, none⟩) 253 253) (W.alloc (.cells (blk .u8 (List.replicate 253 0)) 5)) := fun W => make_u8 253 (by omega) W
  have hm2 : ∀ W : World, (Instr.makeSlice 34 (.int .i64 254) (.int .i64 254)).run Try.prog W = .ok (.slice (some ⟨W.heap.size, 0, none⟩) 254 254) (W.alloc (.cells (blk .u8 (List.replicate 254 0)) 5)) := fun W => make_u8 254 (by omega) W
  have HM1 := Lib.hid hm1
  have HM2 := Lib.hid hm2
  clear hm1 hm2
  obtain ⟨fs1, sp1, sl1⟩ := eAll
  obtain ⟨fs2, sp2, sl2⟩ := eOne
  have SP1 := Lib.hid sp1
  have SL1 := Lib.hid sl1
  have SP2 := Lib.hid sp2
  have SL2 := Lib.hid sl2
  clear sp1 sl1 sp2 sl2
  go_enter Try.func12, Try.ntmps12
  go_wp2_with fail
  refine (ort_lit _ 8 lA 5 eA rfl _ (lit_row w 5 lA (by decide))).mono ?_
  rintro e w1 ⟨U1, A1, m1, rfl, b1⟩
  have bel1 : Below w.heap.size w w1 := (bel_alloc w _).trans (b1.mono (by simp))
  clear b1
  go_wp2_with fail
  refine (rtu_lit _ 0 1 1 [3] 24 eB rfl _ (lit_row w1 5 [3] (by decide))).mono ?_
  rintro e w2 ⟨A2, m2, rfl, b2⟩
  have bel2 : Below w.heap.size w w2 := bel1.trans (((bel_alloc w1 _).trans (b2.mono (by simp))).mono bel1.size)
  clear b2 bel1
  go_wp2_with fail
  refine (rtu_lit _ 248 1 1 [3] 24 eC rfl _ (lit_row w2 5 [3] (by decide))).mono ?_
  rintro e w3 ⟨A3, m3, rfl, b3⟩
  have bel3 : Below w.heap.size w w3 := bel2.trans (((bel_alloc w2 _).trans (b3.mono (by simp))).mono bel2.size)
  clear b3 bel2
  go_wp2_with fail
  refine (rtu_lit none 1 0 0 [] 1 eD rfl _ (Row.nil _ _ _ _)).mono ?_
  rintro e w4 ⟨A4, m4, rfl, b4⟩
  have bel4 : Below w.heap.size w w4 := bel3.trans (b4.mono bel3.size)
  have mk4 := HM1.out w4
  clear b4 bel3
  go_wp2_with fail
  refine (rtu_lit _ 247 253 253 (List.replicate 253 0) 0 eE rfl _ (lit_row w4 5 (List.replicate 253 0) (zeros_wf _))).mono ?_
  rintro e w5 ⟨A5, m5, rfl, b5⟩
  have bel5 : Below w.heap.size w w5 := bel4.trans (((bel_alloc w4 _).trans (b5.mono (by simp))).mono bel4.size)
  have mk5 := HM2.out w5
  clear b5 bel4 mk4
  go_wp2_with fail
  refine (rtu_lit _ 1 254 254 (List.replicate 254 0) 2 eF rfl _ (lit_row w5 5 (List.replicate 254 0) (zeros_wf _))).mono ?_
  rintro e w6 ⟨A6, m6, rfl, b6⟩
  have bel6 : Below w.heap.size w w6 := bel5.trans (((bel_alloc w5 _).trans (b6.mono (by simp))).mono bel5.size)
  clear b6 bel5 mk5
  go_wp2_with fail
  refine (frPut_any 1 17 _ 5 5 lPdu _ (lit_row w6 5 lPdu (by decide)) rfl (by omega) (by omega)).mono ?_
  rintro e w7 ⟨v7, rfl, o7, b7⟩
  rw [eP.2]
  rw [eP.1] at o7
  obtain ⟨Ap, cp, rfl, rp, hcp, _⟩ := o7.row (by decide)
  have bel7 : Below w.heap.size w w7 := bel6.trans (((bel_alloc w6 _).trans (b7.mono (by simp))).mono bel6.size)
  have RP7 := Lib.hid rp
  have HPL : Hid (lP.length = 12) := Lib.hid rfl
  rw [HPL.out] at hcp ⊢
  clear b7 bel6 o7 rp
  go_wp2_with fail
  refine (same_yes_u8 _ _ 12 _ _ lP _ _ _ (RP7.out.alloc (Nat.le_refl _) _) (lit_row w7 5 lP (by decide)) rfl (by omega)).mono ?_
  rintro e w8 ⟨rfl, m8, hw8⟩
  have b78 : Below w7.heap.size w7 w8 := by rw [hw8]; exact below_drewN (bel_alloc w7 _) _
  have bel8 := bel7.trans (b78.mono bel7.size)
  have RP8 := Lib.hid ((RP7.out.below b78).more b78.size)
  clear hw8 b78 bel7 RP7
  go_wp2_with fail
  refine (copy_u8 Ap 12 cp lP _ RP8.out rfl (by omega)).mono ?_
  rintro e w9 ⟨v9, rfl, o9, b9⟩
  have bel9 := bel8.trans (b9.mono bel8.size)
  have RP9 := Lib.hid ((RP8.out.below b9).more b9.size)
  have hsz9 := b9.size
  have one9 := Row.one .u8 w9 5 255 (by decide)
  clear RP9
  go_wp2_with (at_builtin; refine wpList_append_row _ rfl _ _ 34 rfl w8.heap.size .u8 5 1 Try.underlying34 info_u8 _ lP rfl (o9.alloc _) _ _ 1 1 [255] rfl one9 rfl (by decide) (by decide) (by simp; omega) ?_; intro va wa oa ga)
  have ba : Below w8.heap.size w8 wa := Below.own1 b9 hsz9 o9 ga
  have bela := bel8.trans (ba.mono bel8.size)
  have RPa := Lib.hid ((RP8.out.below ba).more ba.size)
  obtain ⟨Ax, cx, hvx, rx, hcx, _⟩ := oa.row (by decide)
  have hl13 : (lP ++ [255]).length = 13 := rfl
  rw [hl13] at hvx hcx
  subst hvx
  have RX := Lib.hid rx
  clear ba bel8 RP8 o9 oa ga hl13 rx b9 one9
  go_wp2_with fail
  refine (get_lit Ax 13 cx (lP ++ [255]) 0 12 eH.1 eH.2 rfl hcx (by decide) _ RX.out).mono ?_
  rintro e wq0 ⟨i0, u0, A0', m0', c0', rfl, bb⟩
  have belq0 := bela.trans (bb.mono bela.size)
  have RQ0 := Lib.hid ((RPa.out.below bb).more bb.size)
  clear bb bela RPa RX
  go_wp2_with fail
  refine (get_lit _ 7 7 lI 4 0 eI.1 eI.2 rfl (Nat.le_refl _) (by decide) _ (lit_rowz (wq0.alloc (.cells #[.int .u16 i0, .int .u8 u0, .slice A0' m0' c0'] 57)) _ (by simp) 5 lI (by decide))).mono ?_
  rintro e wq1 ⟨i1, u1, A1', m1', c1', rfl, bb⟩
  have bj : Below wq0.heap.size wq0 wq1 := ((bel_alloc wq0 (.cells #[.int .u16 i0, .int .u8 u0, .slice A0' m0' c0'] 57)).alloc (by simp) (.cells (blk .u8 lI) 5)).trans (bb.mono (by simp; omega))
  have belq1 := belq0.trans (bj.mono belq0.size)
  have RQ1 := Lib.hid ((RQ0.out.below bj).more bj.size)
  clear bb bj belq0 RQ0
  go_wp2_with fail
  refine (get_lit _ 7 7 lJ 4 0 eJ.1 eJ.2 rfl (Nat.le_refl _) (by decide) _ (lit_rowz (wq1.alloc (.cells #[.int .u16 i1, .int .u8 u1, .slice A1' m1' c1'] 57)) _ (by simp) 5 lJ (by decide))).mono ?_
  rintro e wq2 ⟨i2, u2, A2', m2', c2', rfl, bb⟩
  have bj : Below wq1.heap.size wq1 wq2 := ((bel_alloc wq1 (.cells #[.int .u16 i1, .int .u8 u1, .slice A1' m1' c1'] 57)).alloc (by simp) (.cells (blk .u8 lJ) 5)).trans (bb.mono (by simp; omega))
  have belq2 := belq1.trans (bj.mono belq1.size)
  have RQ2 := Lib.hid ((RQ1.out.below bj).more bj.size)
  clear bb bj belq1 RQ1
  go_wp2_with fail
  refine (get_lit _ 6 6 lK 1 0 eK.1 eK.2 rfl (Nat.le_refl _) (by decide) _ (lit_rowz (wq2.alloc (.cells #[.int .u16 i2, .int .u8 u2, .slice A2' m2' c2'] 57)) _ (by simp) 5 lK (by decide))).mono ?_
  rintro e wq3 ⟨i3, u3, A3', m3', c3', rfl, bb⟩
  have bj : Below wq2.heap.size wq2 wq3 := ((bel_alloc wq2 (.cells #[.int .u16 i2, .int .u8 u2, .slice A2' m2' c2'] 57)).alloc (by simp) (.cells (blk .u8 lK) 5)).trans (bb.mono (by simp; omega))
  have belq3 := belq2.trans (bj.mono belq2.size)
  have RQ3 := Lib.hid ((RQ2.out.below bj).more bj.size)
  clear bb bj belq2 RQ2
  go_wp2_with fail
  refine (get_lit _ 7 7 lL 4 0 eL.1 eL.2 rfl (Nat.le_refl _) (by decide) _ (lit_rowz (wq3.alloc (.cells #[.int .u16 i3, .int .u8 u3, .slice A3' m3' c3'] 57)) _ (by simp) 5 lL (by decide))).mono ?_
  rintro e wq4 ⟨i4, u4, A4', m4', c4', rfl, bb⟩
  have bj : Below wq3.heap.size wq3 wq4 := ((bel_alloc wq3 (.cells #[.int .u16 i3, .int .u8 u3, .slice A3' m3' c3'] 57)).alloc (by simp) (.cells (blk .u8 lL) 5)).trans (bb.mono (by simp; omega))
  have belq4 := belq3.trans (bj.mono belq3.size)
  have RQ4 := Lib.hid ((RQ3.out.below bj).more bj.size)
  clear bb bj belq3 RQ3
  go_wp2_with fail
  refine (get_lit _ 7 7 lM 1 0 eM.1 eM.2 rfl (Nat.le_refl _) (by decide) _ (lit_rowz (wq4.alloc (.cells #[.int .u16 i4, .int .u8 u4, .slice A4' m4' c4'] 57)) _ (by simp) 5 lM (by decide))).mono ?_
  rintro e wq5 ⟨i5, u5, A5', m5', c5', rfl, bb⟩
  have bj : Below wq4.heap.size wq4 wq5 := ((bel_alloc wq4 (.cells #[.int .u16 i4, .int .u8 u4, .slice A4' m4' c4'] 57)).alloc (by simp) (.cells (blk .u8 lM) 5)).trans (bb.mono (by simp; omega))
  have belq5 := belq4.trans (bj.mono belq4.size)
  have RQ5 := Lib.hid ((RQ4.out.below bj).more bj.size)
  clear bb bj belq4 RQ4
  have bq := bel_alloc wq5 (.cells #[.int .u16 i5, .int .u8 u5, .slice A5' m5' c5'] 57)
  have bels := belq5.trans (bq.mono belq5.size)
  have RS := Lib.hid ((RQ5.out.below bq).more bq.size)
  clear bq belq5 RQ5
  go_wp2_with fail
  generalize wq5.alloc (.cells #[.int .u16 i5, .int .u8 u5, .slice A5' m5' c5'] 57) = ws at *
  refine (copy_u8 Ap 12 cp lP _ RS.out rfl (by omega)).mono ?_
  rintro e x1 ⟨y1, rfl, p1, d1⟩
  have R1 := Lib.hid ((RS.out.below d1).more d1.size)
  go_wp2_with (first
    | (at_builtin; refine wpList_append_row _ rfl (.tmp 148) (.tmp 149) 34 rfl ws.heap.size .u8 5 1 Try.underlying34 info_u8 _ lP rfl p1 _ _ 12 cp lP rfl R1.out rfl (by decide) (by decide) d1.size ?_; intro y2 x2 p2 g2; have d2 := Below.own d1 d1.size p1 g2; have q2 := Lib.hid (lit_row x2 5 lT (by decide)))
    | (at_builtin; refine wpList_append_row _ rfl (.tmp 150) (.tmp 151) 34 rfl ws.heap.size .u8 5 1 Try.underlying34 info_u8 _ (lP ++ lP) rfl (p2.alloc _) _ _ 5 5 lT rfl q2.out rfl (by decide) (by decide) (by have := d2.size; simp; omega) ?_; intro y3 x3 p3 g3; have d3 := Below.own1 d2 d2.size p2 g3))
  obtain ⟨A7, c7, h7, r7, k7, _⟩ := p3.row (by decide)
  have hl29 : (lP ++ lP ++ lT).length = 29 := rfl
  rw [hl29] at h7 k7
  subst h7
  have R7 := Lib.hid r7
  have belt := bels.trans (d3.mono bels.size)
  have RT := Lib.hid ((RS.out.below d3).more d3.size)
  clear p1 d1 R1 p2 g2 d2 q2 p3 g3 d3 hl29 r7 RS bels
  go_wp2_with fail
  refine (split_lit A7 29 c7 (lP ++ lP ++ lT) fs1 2 24 0 SP1.out SL1.out rfl k7 (by omega) _ R7.out).mono ?_
  rintro e wt ⟨A8, c8, rfl, bt⟩
  have belu := belt.trans (bt.mono belt.size)
  have RU := Lib.hid ((RT.out.below bt).more bt.size)
  clear bt belt RT R7
  go_wp2_with fail
  refine (copy_u8 Ap 12 cp lP _ RU.out rfl (by omega)).mono ?_
  rintro e x5 ⟨y5, rfl, p5, d5⟩
  have q5 := Lib.hid (lit_row x5 5 lQ (by decide))
  go_wp2_with (at_builtin; refine wpList_append_row _ rfl (.tmp 161) (.tmp 162) 34 rfl wt.heap.size .u8 5 1 Try.underlying34 info_u8 _ lP rfl (p5.alloc _) _ _ 7 7 lQ rfl q5.out rfl (by decide) (by decide) (by have := d5.size; simp; omega) ?_; intro y6 x6 p6 g6; have d6 := Below.own1 d5 d5.size p5 g6)
  obtain ⟨A9, c9, h9, r9, k9, _⟩ := p6.row (by decide)
  have hl19 : (lP ++ lQ).length = 19 := rfl
  rw [hl19] at h9 k9
  subst h9
  have R9 := Lib.hid r9
  have belv := belu.trans (d6.mono belu.size)
  clear p5 d5 q5 p6 g6 d6 hl19 r9 RU belu
  go_wp2_with fail
  refine (split_lit A9 19 c9 (lP ++ lQ) fs2 1 12 4 SP2.out SL2.out rfl k9 (by omega) _ R9.out).mono ?_
  rintro e wx ⟨Aa, ca, rfl, bx⟩
  have belx := belv.trans (bx.mono belv.size)
  clear bx belv R9
  go_wp2_with fail
  refine (known5_yes _).mono ?_
  rintro e wy ⟨rfl, by9⟩
  go_wp2
  go_ret
  exact ⟨rfl, belx.trans (by9.mono belx.size)⟩
end Go.Proofs.Ytmbjcmagadekpaa
