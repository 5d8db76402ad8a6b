/-
  Texts of the proof of SegsOpens, joined.
-/
import Derived.Test.YtbdhhmhlcdganaaGreatDoorJSegsOpensD
import Derived.Test.YtbdhhmhlcdganaaGreatDoorJSegsOpensC
import Derived.Test.YtbdhhmhlcdganaaGreatDoorJSegsOpensE
import Derived.Deep.RegionHeld
import Derived.Shelf.Strconv.AtoiAll
import Derived.Shelf.Strconv.Itoa3
import Derived.Shelf.Strings.Prefix
import Derived.Ground.NamesProg
import Derived.Test.YtbdhhmhlcdganaaGreatDoorProg
import Derived.Lib.AtoiTie
import Derived.Lib.ItoaMem
import Derived.Lib.Strings
import Derived.Test.YtbdhhmhlcdganaaGreatDoorJSegsOpensB
import Derived.Test.YtbdhhmhlcdganaaGreatDoorJSegsOpensA
import Derived.Lib.AtoiErrMem
import Derived.Test.YtbdhhmhlcdganaaGreatDoorRows
import Derived.Laws.AppendOwn
namespace Go.Proofs.YtbdhhmhlcdganaaGreatDoor
open Go.RowKit
set_option linter.unusedVariables false
set_option maxRecDepth 100000

structure BackTo (D : DevP) (g : Nat) (G : Nat → Prop) (d : Dv) (all : List (List Int)) (v : Value) (w wr : World) : Prop where
  dev : D wr G g d
  new : ∀ b, G b → w.heap.size ≤ b
  bel : Below w.heap.size w wr
  own : RwOwn w wr v all
  off : ∀ b, v.ownBlock = some b → ¬ G b
theorem BackTo.below {D : DevP} (Y : DevGl D) {g : Nat} {G : Nat → Prop} {d : Dv} {all : List (List Int)} {v : Value} {w wr W : World} (h : BackTo D g G d all v w wr) (hb : Below wr.heap.size wr W) : BackTo D g G d all v w W :=
  ⟨Y.below h.dev hb, h.new, h.bel.trans (hb.mono h.bel.size), h.own.frm (F := fun _ => False) (Frm.of_below hb) (fun _ _ e => e), h.off⟩
theorem BackTo.did {D : DevP} {g : Nat} {G G' : Nat → Prop} {d d' : Dv} {all : List (List Int)} {v : Value} {w wr W : World} (h : BackTo D g G d all v w wr) (s : Did D G g d' wr W G') : BackTo D g G' d' all v w W := by
  obtain ⟨s1, s2, s3⟩ := s
  refine ⟨s1, fun b hb => (s3 b hb).elim (h.new b) (fun e => Nat.le_trans h.bel.size e), s2.below h.bel h.bel.size h.new, h.own.frm s2 h.off, fun b hb e => (s3 b e).elim (h.off b hb) (fun e => ?_)⟩
  have := (h.own.block b hb).2
  omega
theorem Frm.then {F F' : Nat → Prop} {a b c : World} (h : Frm F a b) (h' : Frm F' b c) (hF : ∀ k, k < a.heap.size → F' k → F k) : Frm F a c :=
  ⟨h'.os.trans h.os, h'.tape.trans h.tape, h'.output.trans h.output, Nat.le_trans h.size h'.size, fun k hk hn => (h'.block k (Nat.lt_of_lt_of_le hk h.size) (fun e => hn (hF k hk e))).trans (h.block k hk hn)⟩
theorem LOwn.frm {F : Nat → Prop} {w w' : World} {base : Nat} {v : Value} {ls : List (List Int)} (h : LOwn w base v ls) (hf : Frm F w w') (hF : ∀ b, F b → b < base) : LOwn w' base v ls := by
  obtain ⟨L, h1, h2, h3⟩ := h
  refine ⟨L, h1, ⟨h2.1, ?_⟩, fun p hp => (h3 p hp).frm hf (fun b hb e => ?_)⟩
  · rcases h2.2 with h4 | ⟨g, cap, cur, hv, h5, h6, h7⟩
    · exact .inl h4
    · exact .inr ⟨g, cap, cur, hv, h5, (hf.block g (block_lt h6) (fun e => by have := hF g e; omega)).trans h6, h7⟩
  · have := ((h3 p hp).block b hb).1
    have := hF b e
    omega
abbrev newL (segs : List (List (List Int))) : Lg := ⟨1, 0, segs, 0 + cntS segs⟩
theorem open_log {D : DevP} {K : LogP} (Y : DevOkG D) (X : LogOk D K) {g : Nat} {G : Nat → Prop} {d : Dv} {segs : List (List (List Int))} {all : List (List Int)} {v : Value} {w wr : World} (h : BackTo D g G d all v w wr) (R : Rest d 1 0 segs) (h1 : d.off = false) (h2 : d.left = -1) :
    Calls Tryz.prog 10 #[.pointer (some ⟨g, 0, none⟩)] wr fun e w' => ∃ q, e = .returned (.tuple #[.pointer (some ⟨q, 0, none⟩), .int .i64 0]) ∧ ∃ G' Gd d', K w' G' g q d' (newL segs) ∧ BackTo D g Gd d' all v w w' ∧ Rest d' 1 0 segs ∧ d'.off = false ∧ d'.left = -1 ∧ Frm G wr w' := by
  obtain ⟨d', o, E, q1, R1, h3, h4⟩ := open_rest R h1
  obtain ⟨rfl, hl⟩ := h4 h2
  rcases h3 with ⟨_, rfl, ho, _⟩ | ⟨h9, _⟩
  · refine (X.openYes h.dev R.ok q1).mono ?_
    rintro e w' ⟨q, he, G', k1, k2, k3⟩
    obtain ⟨_, Gd, dv, ds⟩ := X.dev k1
    have hb := h.did (G' := Gd) (d' := d') ⟨dv, k2, fun b hb => k3 b (ds b hb)⟩
    exact ⟨q, he, G', Gd, d', k1, hb, R1, ho, hl, k2⟩
  · exact absurd h9 (by decide)
structure TellsL (q : Nat) (segs : List (List (List Int))) (all : List (List Int)) (m : Nat) (W : World) : Prop where
  first : Calls Tryz.prog 19 #[.pointer (some ⟨q, 0, none⟩)] W fun e w' => e = .returned (.int .i64 0) ∧ Below W.heap.size W w'
  next : Calls Tryz.prog 18 #[.pointer (some ⟨q, 0, none⟩)] W fun e w' => e = .returned (.int .i64 (m : Nat)) ∧ Below W.heap.size W w'
  safe : Calls Tryz.prog 15 #[.pointer (some ⟨q, 0, none⟩)] W fun e w' => e = .returned (.int .i64 (m : Nat)) ∧ Below W.heap.size W w'
  segments : Calls Tryz.prog 38 #[.pointer (some ⟨q, 0, none⟩)] W fun e w' => e = .returned (.int .i64 (segs.length : Nat)) ∧ Below W.heap.size W w'
  told : Calls Tryz.prog 24 #[.pointer (some ⟨q, 0, none⟩)] W fun e w' => ∃ A c, e = .returned (.tuple #[.slice A m c, .bool true]) ∧ LOwn w' W.heap.size (.slice A m c) (all.take m) ∧ Below W.heap.size W w'
theorem tellsL_of {D : DevP} {K : LogP} (X : LogOk D K) {g q m : Nat} {G : Nat → Prop} {d : Dv} {segs : List (List (List Int))} {all : List (List Int)} {W : World} (h : K W G g q d (newL segs)) (hc : cntS segs = m) (hf : segs.flatten = all.take m) (hm : m ≤ all.length) (h4 : m ≤ 10000) : TellsL q segs all m W := by
  have hl : segs.flatten.length = m := by rw [← cntS_flat]; exact hc
  refine ⟨X.first h, ?_, ?_, X.segments h, ?_⟩
  · have := X.next h
    rw [show nextG (newL segs) = m by unfold nextG; show 0 + cntS segs = m; omega] at this
    exact this
  · have := X.safe h
    rw [show (newL segs).safe = m by show 0 + cntS segs = m; omega] at this
    exact this
  · refine (told_any X h (by show segs.flatten.length ≤ _; omega) (Nat.zero_le _)).mono ?_
    rintro e w' ⟨A, c, he, ho, hb⟩
    have e1 : (newL segs).segs.flatten = all.take m := hf
    have e2 : (newL segs).segs.flatten.length = m := hl
    rw [e2] at he ho
    rw [e1] at ho
    exact ⟨A, c, he, ho, hb⟩
set_option maxHeartbeats 8000000 in
theorem behind_any {D : DevP} {K : LogP} (Y : DevOkG D) (X : LogOk D K) {g : Nat} {G : Nat → Prop} {d : Dv} {segs : List (List (List Int))} {all : List (List Int)} (A : Option Addr) (n c m : Nat) (safe keep : Int) {w w0 : World} (h : BackTo D g G d all (.slice A n c) w w0) (hok : Dv.Ok d) (R : Rest (wakeD d keep) 1 0 segs) (hk : -9223372036854775808 ≤ keep ∧ keep < 9223372036854775808)
    (hc : cntS segs = m) (hf : segs.flatten = all.take m) (hm : m ≤ n) (hn : all.length = n) (h4 : n ≤ 10000) (hs : safe ≤ (m : Int)) (hlen : ∀ p ∈ all, p.length ≤ 1024) :
    Calls Tryz.prog 14 #[.pointer (some ⟨g, 0, none⟩), .slice A n c, .int .i64 0, .int .i64 safe, .int .i64 keep] w0 fun e w' => e = .returned (.bool true) ∧ ∃ G' d', BackTo D g G' d' all (.slice A n c) w w' ∧ Rest d' 1 0 segs ∧ d'.off = false ∧ d'.left = -1 := by
  have HWK := Lib.hid (Y.wake keep h.dev hok hk)
  have HH := Lib.hid h
  have HY := Lib.hid Y
  have HX := Lib.hid X
  have HR := Lib.hid R
  have HC := Lib.hid hc
  have HF := Lib.hid hf
  have HN := Lib.hid hn
  have HL := Lib.hid hlen
  have HWF : Hid (∀ xs ∈ all, ∀ x ∈ xs, (Lit.int .u8 x).wf = true) := Lib.hid (by
    obtain ⟨A9, c9, e9, _, h9⟩ := h.own.brow h.bel
    exact h9.wf)
  have HTL : Hid (∀ W G' q d', K W G' g q d' (newL segs) → ∀ W', Below W.heap.size W W' → TellsL q segs all m W') := Lib.hid fun W G' q d' hk W' hb => tellsL_of X (X.below hk hb) HC.out HF.out (by rw [HN.out]; exact hm) (by omega)
  have HBR : Hid (∀ G' d' W, BackTo D g G' d' all (.slice A n c) w W → BRow W W.heap.size A all) := Lib.hid fun G' d' W hb => by
    obtain ⟨A9, c9, e9, _, h9⟩ := hb.own.brow hb.bel
    injection e9 with e91 e92 e93
    subst e91
    exact h9
  obtain ⟨z, hz⟩ : ∃ z : Nat, segs.length = z := ⟨_, rfl⟩
  have HTZ : Hid (∀ W q, TellsL q segs all m W → Calls Tryz.prog 38 #[.pointer (some ⟨q, 0, none⟩)] W fun e w' => e = .returned (.int .i64 (z : Nat)) ∧ Below W.heap.size W w') := Lib.hid fun W q h => by have := h.segments; rw [hz] at this; exact this
  clear h hok Y X R hc hf hn hlen hz
  have i0 : decide ((m : Int) < safe) = false := decide_eq_false (by omega)
  have i1 : decide ((m : Int) > (n : Int)) = false := decide_eq_false (by omega)
  have i2 : decide (n < m) = false := decide_eq_false (by omega)
  go_enter Tryz.func14, Tryz.ntmps14
  go_wp2_with fail
  refine HWK.out.mono ?_
  rintro e w1 ⟨rfl, G1, s1⟩
  have HB1 := Lib.hid (HH.out.did s1)
  clear HWK s1 HH
  go_wp2_with fail
  refine (open_log HY.out HX.out HB1.out HR.out rfl rfl).mono ?_
  rintro e w2 ⟨q, rfl, G2, Gd2, d2, k2, hb2, r2, o2, l2, _⟩
  have HB2 := Lib.hid hb2
  have HR2 := Lib.hid r2
  have HT2 : Hid (∀ W, Below w2.heap.size w2 W → TellsL q segs all m W) := Lib.hid fun W hW => HTL.out _ _ _ _ k2 W hW
  clear k2 hb2 r2 HB1 HR
  go_wp2_with fail
  refine ((HT2.out w2 (Below.refl _ _)).told).mono ?_
  rintro e w3 ⟨A1, c1, rfl, o3, b3⟩
  have HO3 := Lib.hid o3
  have HB3 := Lib.hid b3
  clear o3 b3
  go_wp2_with fail
  refine ((HT2.out w3 HB3.out).first).mono ?_
  rintro e w4 ⟨rfl, b4⟩
  have HB4 := Lib.hid (HB3.out.trans (b4.mono HB3.out.size))
  have HU4 := Lib.hid b4
  clear b4
  go_wp2_with fail
  refine ((HT2.out w4 HB4.out).next).mono ?_
  rintro e w5 ⟨rfl, b5⟩
  have HB5 := Lib.hid (HB4.out.trans (b5.mono HB4.out.size))
  have HU5 := Lib.hid (HU4.out.trans (b5.mono HU4.out.size))
  clear b5 HB4 HU4
  go_wp2_with fail
  refine ((HT2.out w5 HB5.out).next).mono ?_
  rintro e w6 ⟨rfl, b6⟩
  have HB6 := Lib.hid (HB5.out.trans (b6.mono HB5.out.size))
  have HU6 := Lib.hid (HU5.out.trans (b6.mono HU5.out.size))
  clear b6 HB5 HU5
  go_wp2_with fail
  refine ((HT2.out w6 HB6.out).safe).mono ?_
  rintro e w7 ⟨rfl, b7⟩
  have HB7 := Lib.hid (HB6.out.trans (b7.mono HB6.out.size))
  have HU7 := Lib.hid (HU6.out.trans (b7.mono HU6.out.size))
  clear b7 HB6 HU6
  go_wp2_with fail
  refine ((HT2.out w7 HB7.out).next).mono ?_
  rintro e w8 ⟨rfl, b8⟩
  have HB8 := Lib.hid (HB7.out.trans (b8.mono HB7.out.size))
  have HU8 := Lib.hid (HU7.out.trans (b8.mono HU7.out.size))
  clear b8 HB7 HU7
  have HONE : Hid (∀ W, Below w8.heap.size w8 W → BRow W W.heap.size A1 (all.take m)) := Lib.hid fun W hW => by
    have h3 := (HO3.out.below (HU8.out.trans (hW.mono HU8.out.size)) (Nat.le_refl _))
    exact h3.brow (fun xs hx => HWF.out xs (List.mem_of_mem_take hx))
  have HTW : Hid (∀ W, Below w8.heap.size w8 W → Below w2.heap.size w2 W) := Lib.hid fun W hW => HB8.out.trans (hW.mono HB8.out.size)
  have hm1 : (all.take m).length = m := by rw [List.length_take, HN.out]; omega
  have HM1 := Lib.hid hm1
  have HD2 : Hid (∀ b, Gd2 b → b < w2.heap.size) := Lib.hid (HY.out.dev.lt HB2.out.dev)
  have HT3 : Hid (∀ W, Below w8.heap.size w8 W → Below w3.heap.size w3 W) := Lib.hid fun W hW => HU8.out.trans (hW.mono HU8.out.size)
  have HZ3 := Lib.hid HB3.out.size
  clear HB8 HU8 HB3 hm1
  go_wp2
  go_loopw [15] (fun i wr => ∃ k : Nat, k ≤ m ∧ i = .int .i64 k ∧ Below w8.heap.size w8 wr) (fun i _ => m - (intOf i).toNat)
  case atStart => exact ⟨0, by omega, rfl, Below.refl _ _⟩
  case round =>
    obtain ⟨k, hk, rfl, bel⟩ := hrel
    by_cases hlt : k < m
    · have hka : k < all.length := by rw [HN.out]; omega
      obtain ⟨ob, oo, Ao, co, hAo, hob, hoc, hor, hol, hom⟩ := (HONE.out wr bel).at_ (i := k) (by rw [HM1.out]; exact hlt)
      obtain ⟨ab, ao, Aa, ca, hAa, hab, hac, har, hal, ham⟩ := (HBR.out _ _ _ (HB2.out.below HY.out.dev (HTW.out wr bel))).at_ (i := k) hka
      have hnt : nthB (all.take m) k = nthB all k := by
        rw [nthB_eq _ _ (by rw [HM1.out]; exact hlt), nthB_eq _ _ hka, List.getElem_take]
      rw [hnt] at hoc hor hol
      obtain ⟨p, hp⟩ : ∃ p, nthB all k = p := ⟨_, rfl⟩
      have hpl : p.length ≤ 1024 := by rw [← hp]; exact HL.out _ (nthB_mem all k hka)
      rw [hp] at hoc hor hol hac har hal
      subst hAo hAa
      obtain ⟨pn, hpn⟩ : ∃ pn : Nat, p.length = pn := ⟨_, rfl⟩
      rw [hpn] at hoc hac hpl
      have HFI : Hid (∀ W, Below wr.heap.size wr W → Calls Tryz.prog 19 #[.pointer (some ⟨q, 0, none⟩)] W fun e w' => e = .returned (.int .i64 0) ∧ Below W.heap.size W w') := Lib.hid fun W hW => (HT2.out W (HTW.out W (bel.trans (hW.mono bel.size)))).first
      have HSB : Hid (∀ W, Below wr.heap.size wr W → Calls Tryz.prog 32 #[.slice Ao pn co, .slice Aa pn ca] W fun e w' => e = .returned (.bool true) ∧ Below W.heap.size W w') := Lib.hid fun W hW => by
        refine (same_yes_u8 Ao Aa pn co ca p W _ _ (hor.below hW) (har.below hW) hpn (by omega)).mono ?_
        rintro e w' ⟨he, mm, rfl⟩
        exact ⟨he, below_drewN (Below.refl _ _) mm⟩
      have HK : Hid (∀ w9, Below wr.heap.size wr w9 → Below wr.heap.size wr w9 ∧ w9.cell? ⟨ob, oo + k, none⟩ = some (.slice Ao pn co) ∧ w9.cell? ⟨ab, ao + k, none⟩ = some (.slice Aa pn ca)) := Lib.hid fun w9 h9 => ⟨h9, (h9.cell (p := ⟨ob, oo + k, none⟩) hob).trans hoc, (h9.cell (p := ⟨ab, ao + k, none⟩) hab).trans hac⟩
      have BEL := Lib.hid bel
      have hw1 : IntKind.i64.wrap (0 + (k : Int)) = (k : Int) := by rw [IntKind.wrap_i64]; omega
      have hw2 : IntKind.i64.wrap (k : Int) = (k : Int) := by rw [IntKind.wrap_i64]; omega
      have i3 : (k : Int) < (m : Int) := by omega
      have i4 : (k : Int) < (n : Int) := by omega
      have i5 : (0 : Int) ≤ (k : Int) := by omega
      clear hoc hor hol hac har hal hnt hp bel hom ham hka
      go_wp2
      refine wp_region_held_drew (S := (fun w9 => Below wr.heap.size wr w9 ∧ w9.cell? ⟨ob, oo + k, none⟩ = some (.slice Ao pn co) ∧ w9.cell? ⟨ab, ao + k, none⟩ = some (.slice Aa pn ca))) (by kernel_rfl) (HK.out _ (below_drew (Below.refl _ _))) (fun hHeld => ?_)
      refine wpAnyH_take (i := 0) (oi := { dst := some 73, op := Op.move (Operand.tmp 13), type := 22, pos := "outright.go:96", after := #[], guard := none }) (v := ?v1) rfl (by kernel_rfl) (by kernel_rfl) (by kernel_rfl) (fun _ _ _ h => h) (Or.inl ⟨by rfl, ?hy1⟩) (by assumption) ?rest1
      case hy1 => (intro w' hSw; (try dsimp only at hSw); go_simp; try with_reducible rfl)
      simp only [Act.put, List.setIfInBounds_toArray, List.set_cons_zero, List.set_cons_succ]
      refine wpAnyH_take (i := 1) (oi := { dst := some 74, op := Op.move (Operand.tmp 15), type := 3, pos := "outright.go:96", after := #[], guard := none }) (v := ?v2) rfl (by kernel_rfl) (by kernel_rfl) (by kernel_rfl) (fun _ _ _ h => h) (Or.inl ⟨by rfl, ?hy2⟩) (by assumption) ?rest2
      case hy2 => (intro w' hSw; (try dsimp only at hSw); go_simp; try with_reducible rfl)
      simp only [Act.put, List.setIfInBounds_toArray, List.set_cons_zero, List.set_cons_succ]
      refine wpAnyH_take (i := 2) (oi := { dst := some 75, op := Op.indexAddr 22 (Operand.tmp 73) (Operand.tmp 74), type := 0, pos := "outright.go:96", after := #[{ on := 0, ground := Ground.data }, { on := 1, ground := Ground.data }], guard := none }) (v := ?v3) rfl (by kernel_rfl) (by kernel_rfl) (by kernel_rfl) (fun _ _ _ h => h) (Or.inl ⟨by rfl, ?hy3⟩) (by assumption) ?rest3
      case hy3 => (intro w' hSw; (try dsimp only at hSw); go_simp; try with_reducible rfl)
      simp only [Act.put, List.setIfInBounds_toArray, List.set_cons_zero, List.set_cons_succ]
      refine wpAnyH_take (i := 3) (oi := { dst := some 76, op := Op.load 47 (Operand.tmp 75), type := 47, pos := "outright.go:96", after := #[{ on := 2, ground := Ground.data }], guard := none }) (v := ?v4) rfl (by kernel_rfl) (by kernel_rfl) (by kernel_rfl) (fun _ _ _ h => h) (Or.inl ⟨by rfl, ?hy4⟩) (by assumption) ?rest4
      case hy4 => (intro w' hSw; (try dsimp only at hSw); go_simp; try with_reducible rfl)
      simp only [Act.put, List.setIfInBounds_toArray, List.set_cons_zero, List.set_cons_succ]
      refine wpAnyH_take (i := 4) (oi := { dst := some 77, op := Op.move (Operand.tmp 1), type := 22, pos := "outright.go:96", after := #[], guard := none }) (v := ?v5) rfl (by kernel_rfl) (by kernel_rfl) (by kernel_rfl) (fun _ _ _ h => h) (Or.inl ⟨by rfl, ?hy5⟩) (by assumption) ?rest5
      case hy5 => (intro w' hSw; (try dsimp only at hSw); go_simp; try with_reducible rfl)
      simp only [Act.put, List.setIfInBounds_toArray, List.set_cons_zero, List.set_cons_succ]
      refine wpAnyH_take (i := 5) (oi := { dst := some 78, op := Op.move (Operand.tmp 11), type := 30, pos := "outright.go:96", after := #[], guard := none }) (v := ?v6) rfl (by kernel_rfl) (by kernel_rfl) (by kernel_rfl) (fun _ _ _ h => h) (Or.inl ⟨by rfl, ?hy6⟩) (by assumption) ?rest6
      case hy6 => (intro w' hSw; (try dsimp only at hSw); go_simp; try with_reducible rfl)
      simp only [Act.put, List.setIfInBounds_toArray, List.set_cons_zero, List.set_cons_succ]
      refine wpAnyH_take (i := 7) (oi := { dst := some 80, op := Op.move (Operand.tmp 15), type := 3, pos := "outright.go:96", after := #[], guard := none }) (v := ?v7) rfl (by kernel_rfl) (by kernel_rfl) (by kernel_rfl) (fun _ _ _ h => h) (Or.inl ⟨by rfl, ?hy7⟩) (by assumption) ?rest7
      case hy7 => (intro w' hSw; (try dsimp only at hSw); go_simp; try with_reducible rfl)
      simp only [Act.put, List.setIfInBounds_toArray, List.set_cons_zero, List.set_cons_succ]
      refine wpAnyH_ready (rs := [6]) (by kernel_rfl) (by simp) ?_
      refine AllReadyH.cons (o := { dst := some 79, op := Op.call { callee := Callee.value (Operand.func 19), args := #[Operand.tmp 78], argTypes := #[30] }, type := 3, pos := "outright.go:96", after := #[{ on := 5, ground := Ground.data }], guard := none }) rfl (fun K hK => ?_) AllReadyH.nil
      go_simp
      go_at_call 19
      have bh := hHeld.1
      refine (HFI.out _ bh).mono ?_
      rintro e w4 ⟨rfl, bw4⟩
      have belw4 := bh.trans (bw4.mono bh.size)
      clear bh bw4
      refine hK.out _ _ (HK.out _ belw4) (fun hHeld => ?_)
      clear hK K
      (try simp only [Act.put, List.setIfInBounds_toArray, List.set_cons_zero, List.set_cons_succ])
      refine wpAnyH_take (i := 8) (oi := { dst := some 81, op := Op.binOp BinOp.add 3 (Operand.tmp 79) (Operand.tmp 80) 3, type := 3, pos := "outright.go:96", after := #[{ on := 6, ground := Ground.data }, { on := 7, ground := Ground.data }], guard := none }) (v := ?v8) rfl (by kernel_rfl) (by kernel_rfl) (by kernel_rfl) (fun _ _ _ h => h) (Or.inl ⟨by rfl, ?hy8⟩) (by assumption) ?rest8
      case hy8 => (intro w' hSw; (try dsimp only at hSw); go_simp; try with_reducible rfl)
      simp only [Act.put, List.setIfInBounds_toArray, List.set_cons_zero, List.set_cons_succ]
      refine wpAnyH_take (i := 9) (oi := { dst := some 82, op := Op.indexAddr 22 (Operand.tmp 77) (Operand.tmp 81), type := 0, pos := "outright.go:96", after := #[{ on := 4, ground := Ground.data }, { on := 8, ground := Ground.data }], guard := none }) (v := ?v9) rfl (by kernel_rfl) (by kernel_rfl) (by kernel_rfl) (fun _ _ _ h => h) (Or.inl ⟨by rfl, ?hy9⟩) (by assumption) ?rest9
      case hy9 => (intro w' hSw; (try dsimp only at hSw); go_simp; try with_reducible rfl)
      simp only [Act.put, List.setIfInBounds_toArray, List.set_cons_zero, List.set_cons_succ]
      refine wpAnyH_take (i := 10) (oi := { dst := some 83, op := Op.load 47 (Operand.tmp 82), type := 47, pos := "outright.go:96", after := #[{ on := 9, ground := Ground.data }], guard := none }) (v := ?v10) rfl (by kernel_rfl) (by kernel_rfl) (by kernel_rfl) (fun _ _ _ h => h) (Or.inl ⟨by rfl, ?hy10⟩) (by assumption) ?rest10
      case hy10 => (intro w' hSw; (try dsimp only at hSw); go_simp; try with_reducible rfl)
      simp only [Act.put, List.setIfInBounds_toArray, List.set_cons_zero, List.set_cons_succ]
      refine wpAnyH_ready (rs := [11]) (by kernel_rfl) (by simp) ?_
      refine AllReadyH.cons (o := { dst := some 84, op := Op.call { callee := Callee.value (Operand.func 32), args := #[Operand.tmp 76, Operand.tmp 83], argTypes := #[47, 47] }, type := 4, pos := "outright.go:96", after := #[{ on := 3, ground := Ground.data }, { on := 10, ground := Ground.data }, { on := 6, ground := Ground.chain }], guard := none }) rfl (fun K hK => ?_) AllReadyH.nil
      go_simp
      go_at_call 32
      have bh := hHeld.1
      refine (HSB.out _ bh).mono ?_
      rintro e w5 ⟨rfl, bw5⟩
      have belw5 := bh.trans (bw5.mono bh.size)
      clear bh bw5
      refine hK.out _ _ (HK.out _ belw5) (fun hHeld => ?_)
      clear hK K
      (try simp only [Act.put, List.setIfInBounds_toArray, List.set_cons_zero, List.set_cons_succ])
      refine wpAnyH_take (i := 12) (oi := { dst := some 85, op := Op.unOp UnOp.not 4 (Operand.tmp 84), type := 4, pos := "outright.go:96", after := #[{ on := 11, ground := Ground.data }], guard := none }) (v := ?v11) rfl (by kernel_rfl) (by kernel_rfl) (by kernel_rfl) (fun _ _ _ h => h) (Or.inl ⟨by rfl, ?hy11⟩) (by assumption) ?rest11
      case hy11 => (intro w' hSw; (try dsimp only at hSw); go_simp; try with_reducible rfl)
      simp only [Act.put, List.setIfInBounds_toArray, List.set_cons_zero, List.set_cons_succ]
      refine wpAnyH_done (by kernel_rfl) ?_ _
      have BW := Lib.hid (BEL.out.trans (belw5.mono BEL.out.size))
      clear HK HFI HSB belw4 belw5 BEL
      go_wp2
      go_roundw
      case rel => exact ⟨k + 1, by omega, by go_num, BW.out⟩
      case measure => simp [intOf]; omega
    · obtain rfl : k = m := by omega
      have i3 : ¬ (k : Int) < (k : Int) := by omega
      have HB9 := Lib.hid (HTW.out _ bel)
      have HA9 := Lib.hid (HT3.out _ bel)
      clear bel HONE HTW HT3
      go_wp2_with fail
      refine ((HT2.out wr HB9.out).first).mono ?_
      rintro e w9 ⟨rfl, b9⟩
      have HB10 := Lib.hid (HB9.out.trans (b9.mono HB9.out.size))
      have HA10 := Lib.hid (HA9.out.trans (b9.mono HA9.out.size))
      clear b9 HB9 HA9
      go_wp2_with fail
      refine (HTZ.out _ _ (HT2.out w9 HB10.out)).mono ?_
      rintro e w10 ⟨rfl, b10⟩
      have HB12 := Lib.hid (HB2.out.below HY.out.dev (HB10.out.trans (b10.mono HB10.out.size)))
      have HF10 : Hid (Frm (fun b => b < w2.heap.size) w3 w10) := Lib.hid (Frm.of_below (HA10.out.trans (b10.mono HA10.out.size)))
      clear b10 HB10 HA10
      go_wp2_with fail
      refine (HY.out.wake 0 HB12.out.dev HR2.out.ok (by omega)).mono ?_
      rintro e w11 ⟨rfl, G11, s11⟩
      have HB13 := Lib.hid (HB12.out.did s11)
      have HF11 : Hid (Frm (fun b => b < w2.heap.size) w3 w11) := Lib.hid (HF10.out.then s11.2.1 (fun k _ e => HD2.out k e))
      have HG11 : Hid (∀ k, k < w3.heap.size → G11 k → k < w2.heap.size) := Lib.hid (fun k hk e => (s11.2.2 k e).elim (HD2.out k) (fun e => by have := HF10.out.size; omega))
      have HR11 := Lib.hid (HR2.out.wake 0)
      clear s11 HB12 HF10 HR2
      go_wp2_with fail
      refine (open_log HY.out HX.out HB13.out HR11.out rfl rfl).mono ?_
      rintro e w12 ⟨q2, rfl, G12, Gd12, d12, k12, hb12, r12, o12, l12, f12⟩
      have HB14 := Lib.hid hb12
      have HF12 : Hid (Frm (fun b => b < w2.heap.size) w3 w12) := Lib.hid (HF11.out.then f12 HG11.out)
      have HT12 : Hid (∀ W, Below w12.heap.size w12 W → TellsL q2 segs all k W) := Lib.hid fun W hW => HTL.out _ _ _ _ k12 W hW
      have HQ : Hid (Rest d12 1 0 segs ∧ d12.off = false ∧ d12.left = -1) := Lib.hid ⟨r12, o12, l12⟩
      have HO12 := Lib.hid (HO3.out.frm HF12.out (fun b e => e))
      clear k12 hb12 f12 HF11 HG11 HF12 HB13 r12 o12 l12 HR11 HO3
      go_wp2_with fail
      refine ((HT12.out w12 (Below.refl _ _)).told).mono ?_
      rintro e w13 ⟨A2, c2, rfl, o13, b13⟩
      have HO13 := Lib.hid o13
      have HB15 := Lib.hid b13
      clear o13 b13
      go_wp2_with fail
      refine ((HT12.out w13 HB15.out).first).mono ?_
      rintro e w14 ⟨rfl, b14⟩
      have HB16 := Lib.hid (HB15.out.trans (b14.mono HB15.out.size))
      have HU14 := Lib.hid b14
      clear b14
      go_wp2_with fail
      refine (HTZ.out _ _ (HT12.out w14 HB16.out)).mono ?_
      rintro e w15 ⟨rfl, b15⟩
      have HB17 := Lib.hid (HB16.out.trans (b15.mono HB16.out.size))
      have HSR : Hid (Calls Tryz.prog 25 #[.slice A1 k c1, .slice A2 k c2] w15 fun e w' => e = .returned (.bool true) ∧ ∃ m, w' = w15.drewN m) := Lib.hid (by
        have hwf : ∀ xs ∈ all.take k, ∀ x ∈ xs, (Lit.int .u8 x).wf = true := fun xs hx => HWF.out xs (List.mem_of_mem_take hx)
        have o1 := (HO12.out.below HB17.out (Nat.le_refl _)).brow hwf
        have o2 := (HO13.out.below (HU14.out.trans (b15.mono HU14.out.size)) (Nat.le_refl _)).brow hwf
        exact SameRows_yes A1 A2 k c1 c2 (all.take k) w15 _ _ o1 o2 HM1.out (by omega) (fun i hi => by
          have := HL.out _ (List.mem_of_mem_take (nthB_mem (all.take k) i (by rw [HM1.out]; exact hi)))
          omega))
      clear b15 HO12 HO13 HB15 HB16 HU14
      go_wp2_with fail
      refine HSR.out.mono ?_
      rintro e w16 ⟨rfl, m16, rfl⟩
      have HE : Hid (∃ G' d', BackTo D g G' d' all (.slice A n c) w (w15.drewN m16) ∧ Rest d' 1 0 segs ∧ d'.off = false ∧ d'.left = -1) := Lib.hid ⟨_, _, HB14.out.below HY.out.dev (below_drewN HB17.out m16), HQ.out⟩
      clear HSR HB14 HB17 HQ HT12
      go_wp2
      go_ret
      exact ⟨rfl, HE.out⟩
end Go.Proofs.YtbdhhmhlcdganaaGreatDoor
namespace Go.Proofs.YtbdhhmhlcdganaaGreatDoor
open Go.RowKit
set_option linter.unusedVariables false
set_option maxRecDepth 100000

theorem FillTo.back {D : DevP} {K : LogP} (X : LogOk D K) {g q : Nat} {d0 : Dv} {k : Nat} {A0 : Option Addr} {n0 c0 : Nat} {w wr : World} (h : FillTo K g q d0 k A0 n0 c0 w wr) (hk : k ≤ 1000) :
    ∃ G d l all, K wr G g q d l ∧ Core d l ∧ l.n = 1 ∧ l.first = 0 ∧ PwOn d0 d ∧ l.segs.flatten = all ∧ all.length = n0 ∧ n0 ≤ k ∧ (∀ p ∈ all, p.length ≤ 1024) ∧ ∀ W, Below wr.heap.size wr W → ∃ Gd, BackTo D g Gd d all (.slice A0 n0 c0) w W := by
  obtain ⟨G, d, l, all, f1, f2, f3, f4⟩ := h
  refine ⟨G, d, l, all, f1.log, f1.is.core (fun b y hb => by rw [f2] at hb; cases hb), f1.n1, f1.f0, f3, f1.fl, f4.symm, by have := f1.len; omega, f1.mem, fun W hW => ?_⟩
  have f9 := f1.below X hW
  obtain ⟨_, Gd, hd, hs⟩ := X.dev f9.log
  exact ⟨Gd, hd, fun b hb => f9.new b (hs b hb), f9.bel, f9.own, fun b hb e => f9.off b hb (hs b e)⟩
theorem head_new (r : Nat) (s : ByteArray) : lkF (newD r) s = none := by rw [lk_none]; intro f hf; simp [newD] at hf
theorem new_log {D : DevP} {K : LogP} (X : LogOk D K) (r : Nat) (hr : r ≤ 16777216) : ∃ d0, lkF d0 headN = none ∧ d0.left = -1 ∧ d0.off = false ∧ SgIs d0 (newL []) ∧ ∀ (W : World) (G : Nat → Prop) (g : Nat), D W G g (newD r) → Calls Tryz.prog 10 #[.pointer (some ⟨g, 0, none⟩)] W fun e w' => ∃ q, LStp K G g q d0 (newL []) (.tuple #[.pointer (some ⟨q, 0, none⟩), .int .i64 0]) W e w' := by
  obtain ⟨d0, o0, E0, q0, R0, h0, l0⟩ := open_rest (new_rest r hr) rfl
  obtain ⟨rfl, hl0⟩ := l0 rfl
  rcases h0 with ⟨_, rfl, hoff0, F0⟩ | ⟨h9, _⟩
  · refine ⟨d0, ?_, hl0, hoff0, F0.is (Nat.le_refl 1), fun W G g h => X.openYes h (new_ok r (by omega)) q0⟩
    have h1 := F0.rest.hd
    rw [← Bool.not_eq_true] at hoff0
    cases hh : lkF d0 headN with
    | none => rfl
    | some x =>
      exfalso
      have h2 : (openG (newD r)).1 = d0 := by rw [q0]
      have h3 : lkF (openG (newD r)).1 headN = none := by
        have e : openG (newD r) = (newD r, some ⟨1, 0, [], 0⟩, 0) := by
          unfold openG
          rw [if_neg (by simp [newD])]
          have hw : wipeG (newD r) hnewN = (newD r, 0) := by unfold wipeG; rw [if_pos (head_new r _)]
          rw [hw]
          simp only [ne_eq, not_true_eq_false, if_false]
          have hg : headG (newD r) = some (1, 0) := by unfold headG; rw [if_pos (head_new r _)]
          rw [hg]
          simp only [readG, List.length_nil, Nat.add_zero, head_new r]
          simp [namesD, newD, dropG, cntS]
        rw [e]
        exact head_new r _
      rw [h2, hh] at h3
      cases h3
  · exact absurd h9 (by decide)
end Go.Proofs.YtbdhhmhlcdganaaGreatDoor
namespace Go.Proofs.YtbdhhmhlcdganaaGreatDoor
open Go.RowKit
set_option linter.unusedVariables false
set_option maxRecDepth 100000

theorem row_tri (w : World) (a b c : Int) (h : ∀ x ∈ [a, b, c], (Lit.int .u8 x).wf = true) : Row .u8 (w.alloc (.cells #[.int .u8 a, .int .u8 b, .int .u8 c] 5)) (w.alloc (.cells #[.int .u8 a, .int .u8 b, .int .u8 c] 5)).heap.size (some ⟨w.heap.size, 0, none⟩) [a, b, c] := by
  have hx : (w.alloc (.cells #[.int .u8 a, .int .u8 b, .int .u8 c] 5)).heap[w.heap.size]? = some (.cells (blk .u8 [a, b, c]) 5 (0, 0)) := heap_alloc_new w _
  exact (Row.of_block hx [a, b, c] h (List.prefix_refl _)).more (block_lt hx)
theorem open_may {D : DevP} {K : LogP} (Y : DevOkG D) (X : LogOk D K) {g m : Nat} {G : Nat → Prop} {d : Dv} {segs : List (List (List Int))} {all : List (List Int)} {v : Value} {w wr : World} (h : BackTo D g G d all v w wr) (R : Rest d 1 0 segs) (h1 : d.off = false) (hm : cntS segs = m) :
    Calls Tryz.prog 10 #[.pointer (some ⟨g, 0, none⟩)] wr fun e w' => (∃ q, e = .returned (.tuple #[.pointer (some ⟨q, 0, none⟩), .int .i64 0]) ∧ (∀ W, Below w'.heap.size w' W → Calls Tryz.prog 18 #[.pointer (some ⟨q, 0, none⟩)] W fun e w2 => e = .returned (.int .i64 (m : Nat)) ∧ Below W.heap.size W w2) ∧ ∃ G' d', BackTo D g G' d' all v w w' ∧ Rest d' 1 0 segs) ∨
      (e = .returned (.tuple #[.pointer none, .int .i64 10]) ∧ ∃ G' d', BackTo D g G' d' all v w w' ∧ Rest d' 1 0 segs) := by
  obtain ⟨d', o, E, q1, R1, h3, h4⟩ := open_rest R h1
  rcases h3 with ⟨rfl, rfl, ho, _⟩ | ⟨rfl, rfl, _⟩
  · refine (X.openYes h.dev R.ok q1).mono ?_
    rintro e w' ⟨q, he, G', k1, k2, k3⟩
    obtain ⟨_, Gd, dv, ds⟩ := X.dev k1
    refine .inl ⟨q, he, fun W hW => ?_, Gd, d', h.did ⟨dv, k2, fun b hb => k3 b (ds b hb)⟩, R1⟩
    have := X.next (X.below k1 hW)
    rw [show nextG (newL segs) = m by unfold nextG; show 0 + cntS segs = m; omega] at this
    exact this
  · refine (X.openNo h.dev R.ok q1).mono ?_
    rintro e w' ⟨he, G', hd⟩
    exact .inr ⟨he, G', d', h.did hd, R1⟩
theorem seg77 : (⟨#[108, 111, 103, 45, 55, 55]⟩ : ByteArray) = segN 77 := by decide +kernel
set_option maxHeartbeats 8000000 in
theorem opens14_any {D : DevP} {K : LogP} (Y : DevOkG D) (X : LogOk D K) (A : Option Addr) (n c : Nat) (l : List Lm) (SA : Option Addr) (sn sc : Nat) (ss : List Bool) (keep : Int) (CA : Option Addr) (cn cc : Nat) (cs : List Int) (w : World) (hr : VRow w w.heap.size A (flatV lmC l)) (hn : l.length = n) (hb : n ≤ 5864062016288) (hok : ∀ m ∈ l, Lm.Ok w w.heap.size m)
    (hsr : L.Row () w w.heap.size SA ss) (hsn : ss.length = sn) (hsb : sn ≤ 140737488351232) (hkeep : -9223372036854775808 ≤ keep ∧ keep < 9223372036854775808) (hcr : Row .i64 w w.heap.size CA cs) (hcn : cs.length = cn) (hcb : cn ≤ 140737488351232) (gl : Gl w) :
    Calls Tryz.prog 4 #[.slice A n c, .slice SA sn sc, .int .i64 keep, .slice CA cn cc] w fun e w' => e = .returned (.bool true) ∧ Below w.heap.size w w' := by
  have HR := Lib.hid hr
  have HN := Lib.hid hn
  have HO := Lib.hid hok
  have HX := Lib.hid X
  have HY := Lib.hid Y
  have HGL := Lib.hid gl
  have HKP := Lib.hid hkeep
  have HSR := Lib.hid hsr
  have HSN := Lib.hid hsn
  have HSB := Lib.hid hsb
  have HCR := Lib.hid hcr
  have HCN := Lib.hid hcn
  clear hr hn hok X Y gl hkeep hsr hsn hsb hcr hcn
  have HGR : Hid (∀ W, Below w.heap.size w W → Calls Tryz.prog 8 #[.slice A n c] W (GreatTo n l W)) := Lib.hid fun W hW => great_any A n c l W ((HR.out.below hW).more hW.size) HN.out (by omega)
  obtain ⟨d0, hh0, hl0, hoff0, is0, op0⟩ := new_log HX.out 16777216 (Nat.le_refl _)
  have HH0 := Lib.hid hh0
  have HIS := Lib.hid is0
  have HOP := Lib.hid op0
  have HON0 := Lib.hid (And.intro hl0 hoff0)
  clear hh0 is0 op0 hl0 hoff0
  by_cases hbig : 20 < cn
  · have hd1 : decide ((cn : Int) > 20) = true := decide_eq_true (by omega)
    have hd2 : decide ((20 : Int) < (cn : Int)) = true := decide_eq_true (by omega)
    have hd3 : decide (20 < cn) = true := decide_eq_true hbig
    go_enter Tryz.func4, Tryz.ntmps4
    go_wp2_with fail
    refine (works14 HY.out HX.out w HGL.out).mono ?_
    rintro e w1 ⟨rfl, b1⟩
    go_wp2_with fail
    refine (HGR.out w1 b1).mono ?_
    rintro e w2 ⟨bb, rfl, rfl, hb2⟩
    cases bb with
    | true =>
      go_wp2
      go_ret
      exact ⟨rfl, b1⟩
    | false =>
      go_wp2
      go_ret
      exact ⟨rfl, b1⟩
  have hcn20 : cn ≤ 20 := by omega
  have hd1 : decide ((cn : Int) > 20) = false := decide_eq_false (by omega)
  clear hbig
  go_enter Tryz.func4, Tryz.ntmps4
  go_wp2_with fail
  refine (works14 HY.out HX.out w HGL.out).mono ?_
  rintro e w1 ⟨rfl, b1⟩
  go_wp2_with fail
  refine (HGR.out w1 b1).mono ?_
  rintro e w2 ⟨bb, rfl, rfl, hb2⟩
  cases bb with
  | true =>
    go_wp2
    go_ret
    exact ⟨rfl, b1⟩
  | false =>
  have HSM := Lib.hid (hb2 rfl).2
  have hn100 := (hb2 rfl).1
  clear hb2
  go_wp2_with fail
  refine (HY.out.newYes 16777216 w1 (HGL.out.below b1) (by omega)).mono ?_
  rintro e w2 ⟨g, G1, rfl, h1, b2, n1⟩
  have n1' : ∀ b, G1 b → w.heap.size ≤ b := fun b hb => Nat.le_trans b1.size (n1 b hb)
  have b2' := b1.trans (b2.mono b1.size)
  go_wp2_with fail
  refine (HOP.out w2 G1 g h1).mono ?_
  rintro e w3 ⟨q, hst⟩
  have HFU : Hid (e = .returned (.tuple #[.pointer (some ⟨q, 0, none⟩), .int .i64 0]) ∧ ∃ G, FullTo K g q G d0 (newL []) [] 0 (.slice none 0 0) w w3) := Lib.hid (by
    obtain ⟨he, G2, k2, f2, m2⟩ := hst
    obtain ⟨n3, b3⟩ := new_blocks f2 m2 n1' b2'
    exact ⟨he, G2, ⟨k2, n3, b3, RwOwn.nil _ _, fun b hb => (nomatch hb), HIS.out, rfl, rfl, rfl, Nat.le_refl _, fun p hp => (nomatch hp)⟩⟩)
  obtain ⟨rfl, G3, hfu⟩ := HFU.out
  have HFA : Hid (Calls Tryz.prog 13 #[.pointer (some ⟨q, 0, none⟩), .slice A n c, .slice SA sn sc] w3 fun e w' => ∃ A0 n0 c0, e = .returned (.tuple #[.slice A0 n0 c0, .bool true]) ∧ FillTo K g q d0 n A0 n0 c0 w w') := Lib.hid (fill_any HX.out HGL.out A n c l SA sn sc ss w3 HR.out HN.out hn100 HO.out HSM.out HSR.out HSN.out HSB.out hfu HH0.out)
  clear hst h1 n1 n1' b2 b2' b1 HIS HOP HGR HH0 HFU hfu HSM HSR HSN HSB
  go_wp2_with fail
  refine HFA.out.mono ?_
  rintro e w6 ⟨A0, n0, c0, rfl, hfi⟩
  obtain ⟨G6, d6, l6, all, k6, co6, hn6, hf6, pw6, hfl6, hal6, hle6, hmem6, hbk6⟩ := hfi.back HX.out (by omega)
  have HSA := Lib.hid (HX.out.safe k6)
  obtain ⟨sf, hsf⟩ : ∃ sf : Nat, l6.safe = sf := ⟨_, rfl⟩
  rw [hsf] at HSA
  have hfew : l6.segs.length ≤ 64 := few_files co6.ok l6.n l6.segs.length fun i hi => by
    obtain ⟨y, h1, _⟩ := co6.at_ i hi
    rw [h1]; simp
  have HCT : Hid (∀ W, Below w6.heap.size w6 W → ∃ G d, BackTo D g G d all (.slice A0 n0 c0) w W ∧ Core d l6) := Lib.hid fun W hW => by
    obtain ⟨Gd, hb⟩ := hbk6 W hW
    exact ⟨Gd, d6, hb, co6⟩
  have HAP : Hid (∀ (W : World) (s : ByteArray) (bs : List Int) (sz : Nat) (o : Obj), (∃ G d, BackTo D g G d all (.slice A0 n0 c0) w W ∧ Core d l6) → Row .u8 (W.alloc o) (W.alloc o).heap.size (some ⟨W.heap.size, 0, none⟩) bs → bs.length = sz → sz ≤ 3 → s ≠ headN → (∀ i, i ≤ l6.segs.length → s ≠ segN (l6.n + i)) → Calls Tryz.prog 16 #[.pointer (some ⟨g, 0, none⟩), .string s, .slice (some ⟨W.heap.size, 0, none⟩) sz sz] (W.alloc o) fun e w' => ∃ E, e = .returned (.int .i64 E) ∧ ∃ G d, BackTo D g G d all (.slice A0 n0 c0) w w' ∧ Core d l6) := Lib.hid fun W s bs sz o ⟨G, d, hb, hc⟩ hrow hlen hsz h1 h2 => by
    have hb2 := hb.below HY.out.dev (bel_alloc W o)
    refine (HY.out.append s (some ⟨W.heap.size, 0, none⟩) sz sz bs hb2.dev hc.ok hrow hlen (Nat.le_refl _) (by omega) (by omega) (fun a ha _ e => by injection ha with ha; subst ha; exact Nat.lt_irrefl _ (HY.out.dev.lt hb.dev _ e))).mono ?_
    rintro e w' ⟨he, G', hd⟩
    exact ⟨_, he, G', _, hb2.did hd, hc.beside (app_ok hc.ok s bs hrow.1) (fun t ht => appD_else hc.ok s bs hrow.1 ht) h1 h2⟩
  have HWK : Hid (∀ W, (∃ G d, BackTo D g G d all (.slice A0 n0 c0) w W ∧ Core d l6) → Calls Tryz.prog 17 #[.pointer (some ⟨g, 0, none⟩), .int .i64 keep] W fun e w' => e = .returned (.tuple #[]) ∧ ∃ segs m, cntS segs = m ∧ segs.flatten = all.take m ∧ m ≤ n0 ∧ (sf : Int) ≤ (m : Int) ∧ ∃ G d, BackTo D g G d all (.slice A0 n0 c0) w w' ∧ Rest d 1 0 segs ∧ d.off = false ∧ d.left = -1) := Lib.hid fun W ⟨G, d, hb, hc⟩ => by
    refine (HY.out.wake keep hb.dev hc.ok HKP.out).mono ?_
    rintro e w' ⟨he, G', hd⟩
    obtain ⟨segs, R6, _, s3, s4, s5⟩ := wake_rest hc keep
    rw [hn6, hf6] at R6
    rw [hf6, hsf] at s4
    exact ⟨he, segs, cntS segs, rfl, by rw [s3, hfl6], by rw [← hal6, ← hfl6, ← cntS_flat]; exact s5, by omega, G', _, hb.did hd, R6, rfl, rfl⟩
  have HS77 : Hid (∀ i, i ≤ l6.segs.length → segN 77 ≠ segN (l6.n + i)) := Lib.hid fun i hi e => by
    have := segN_inj e
    omega
  have HSHN : Hid (∀ i, i ≤ l6.segs.length → hnewN ≠ segN (l6.n + i)) := Lib.hid fun i hi e => segN_hnew _ e.symm
  have HMEM := Lib.hid hmem6
  have HAL := Lib.hid hal6
  clear hfi k6 co6 hbk6 hmem6 hfl6 hal6 hsf pw6 hfew hn6 hf6 HFA HON0
  go_wp2_with fail
  refine HSA.out.mono ?_
  rintro e w7 ⟨rfl, b7⟩
  have HC7 := Lib.hid (HCT.out w7 b7)
  have hhn : (⟨#[104, 101, 97, 100, 46, 110, 101, 119]⟩ : ByteArray) = hnewN := rfl
  have HA1 : Hid (Calls Tryz.prog 16 #[.pointer (some ⟨g, 0, none⟩), .string ⟨#[104, 101, 97, 100, 46, 110, 101, 119]⟩, .slice (some ⟨w7.heap.size, 0, none⟩) 3 3] (w7.alloc (.cells #[.int .u8 1, .int .u8 2, .int .u8 3] 5)) fun e w' => ∃ E, e = .returned (.int .i64 E) ∧ ∃ G d, BackTo D g G d all (.slice A0 n0 c0) w w' ∧ Core d l6) := Lib.hid (HAP.out w7 _ [1, 2, 3] 3 _ HC7.out (row_tri w7 1 2 3 (by decide)) rfl (by omega) (fun e => head_hnew (hhn ▸ e.symm)) (fun i hi => by rw [hhn]; exact HSHN.out i hi))
  clear b7 HCT HSA HC7 hhn HSHN
  go_wp2_with fail
  refine HA1.out.mono ?_
  rintro e w8 ⟨E8, rfl, h8⟩
  have HA2 : Hid (Calls Tryz.prog 16 #[.pointer (some ⟨g, 0, none⟩), .string ⟨#[108, 111, 103, 45, 55, 55]⟩, .slice (some ⟨w8.heap.size, 0, none⟩) 1 1] (w8.alloc (.cells #[.int .u8 4] 5)) fun e w' => ∃ E, e = .returned (.int .i64 E) ∧ ∃ G d, BackTo D g G d all (.slice A0 n0 c0) w w' ∧ Core d l6) := Lib.hid (HAP.out w8 _ [4] 1 _ h8 (row_one w8 4 (by decide)) rfl (by omega) (by rw [seg77]; exact segN_head 77) (fun i hi => by rw [seg77]; exact HS77.out i hi))
  clear h8 HA1 HS77 HAP
  go_wp2_with fail
  refine HA2.out.mono ?_
  rintro e w9 ⟨E9, rfl, h9⟩
  have HW9 := Lib.hid (HWK.out w9 h9)
  clear h9 HA2 HWK
  go_wp2_with fail
  refine HW9.out.mono ?_
  rintro e w10 ⟨rfl, segs, m, hcm, hfm, hmn, hsm, h10⟩
  have HI := Lib.hid h10
  have HCM := Lib.hid hcm
  have HFM := Lib.hid hfm
  have HSF := Lib.hid hsm
  clear h10 hcm hfm hsm HW9
  have HARM : Hid (∀ W W' (r : Nat), r < 9 → (∃ G d, BackTo D g G d all (.slice A0 n0 c0) w W ∧ Rest d 1 0 segs ∧ d.off = false ∧ d.left = -1) → Below W.heap.size W W' → Calls Tryz.prog 11 #[.pointer (some ⟨g, 0, none⟩), .int .i64 (r : Nat)] W' fun e w' => e = .returned (.tuple #[]) ∧ ∃ G d, BackTo D g G d all (.slice A0 n0 c0) w w' ∧ Rest d 1 0 segs ∧ d.off = false) := Lib.hid fun W W' r hr9 ⟨G, d, hb, R, ho, _⟩ hW => by
    have hb2 := hb.below HY.out.dev hW
    refine (HY.out.arm (r : Int) hb2.dev R.ok (by omega)).mono ?_
    rintro e w' ⟨he, G', hd⟩
    exact ⟨he, G', _, hb2.did hd, R.arm (r : Int) (by omega), ho⟩
  have HOPN : Hid (∀ W, (∃ G d, BackTo D g G d all (.slice A0 n0 c0) w W ∧ Rest d 1 0 segs ∧ d.off = false) → Calls Tryz.prog 10 #[.pointer (some ⟨g, 0, none⟩)] W fun e w' => (∃ q, e = .returned (.tuple #[.pointer (some ⟨q, 0, none⟩), .int .i64 0]) ∧ (∀ W, Below w'.heap.size w' W → Calls Tryz.prog 18 #[.pointer (some ⟨q, 0, none⟩)] W fun e w2 => e = .returned (.int .i64 (m : Nat)) ∧ Below W.heap.size W w2) ∧ ∃ G' d', BackTo D g G' d' all (.slice A0 n0 c0) w w' ∧ Rest d' 1 0 segs) ∨
      (e = .returned (.tuple #[.pointer none, .int .i64 10]) ∧ ∃ G' d', BackTo D g G' d' all (.slice A0 n0 c0) w w' ∧ Rest d' 1 0 segs)) := Lib.hid fun W ⟨G, d, hb, R, ho⟩ => open_may HY.out HX.out hb R ho HCM.out
  have HWM : Hid (∀ W W', (∃ G d, BackTo D g G d all (.slice A0 n0 c0) w W ∧ Rest d 1 0 segs) → Below W.heap.size W W' → Calls Tryz.prog 17 #[.pointer (some ⟨g, 0, none⟩), .int .i64 (-1)] W' fun e w' => e = .returned (.tuple #[]) ∧ ∃ G d, BackTo D g G d all (.slice A0 n0 c0) w w' ∧ Rest d 1 0 segs ∧ d.off = false ∧ d.left = -1) := Lib.hid fun W W' ⟨G, d, hb, R⟩ hW => by
    have hb2 := hb.below HY.out.dev hW
    refine (HY.out.wake (-1) hb2.dev R.ok (by omega)).mono ?_
    rintro e w' ⟨he, G', hd⟩
    exact ⟨he, G', _, hb2.did hd, R.wake (-1), rfl, rfl⟩
  go_wp2
  go_loopw [16, 17, 18, 19] (fun mo i _ _ wr => ∃ k : Nat, k ≤ cn ∧ i = .int .i64 k ∧ ∃ mz : Int, mo = .int .i64 mz ∧ (mz = -1 ∨ mz = (m : Int)) ∧ Hid (∃ G d, BackTo D g G d all (.slice A0 n0 c0) w wr ∧ Rest d 1 0 segs ∧ d.off = false ∧ d.left = -1)) (fun _ i _ _ _ => cn - (intOf i).toNat)
  case atStart => exact ⟨0, by omega, rfl, -1, rfl, .inl rfl, HI⟩
  case round =>
    obtain ⟨k, hk, rfl, mz, rfl, hmz, hrel⟩ := hrel
    clear HI
    by_cases hlt : k < cn
    · have hkl : k < cs.length := by rw [HCN.out]; exact hlt
      obtain ⟨cb, co, rfl, hcb1, hcc⟩ := HCR.out.2 (by omega)
      obtain ⟨G9, d9, hb9, _⟩ := hrel.out
      have e0 := (hb9.bel.cell (p := ⟨cb, co + k, none⟩) hcb1).trans (hcc k hkl)
      generalize nth cs k = cv at e0
      have i3 : (k : Int) < (cn : Int) := by omega
      have HPK : Hid (∀ W, Calls Tryz.prog 12 #[.int .i64 cv, .int .i64 9] W fun e w' => e = .returned (.int .i64 (pick cv 9 : Nat)) ∧ W = w') := Lib.hid (fun W => Pick_any cv 9 W (by omega) (by omega))
      have hp := pick_lt cv 9 (by omega)
      obtain ⟨r0, hr0⟩ : ∃ r0 : Nat, pick cv 9 = r0 := ⟨_, rfl⟩
      rw [hr0] at hp HPK
      clear hr0 hcc hb9
      have HA1 := Lib.hid (HARM.out wr wr.drew r0 hp hrel.out (below_drew (Below.refl wr.heap.size wr)))
      clear hrel
      go_wp2_with fail
      go_region_with (first
        | (go_at_call 12; refine (HPK.out _).mono ?_; rintro e w11 ⟨rfl, rfl⟩)
        | (go_at_call 11; refine HA1.out.mono ?_; rintro e w12 ⟨rfl, h12⟩))
      have HO12 := Lib.hid (HOPN.out w12 h12)
      clear h12 HA1 HPK e0 hp
      go_wp2_with fail
      refine HO12.out.mono ?_
      rintro e w13 (⟨q2, rfl, hnx, h13⟩ | ⟨rfl, h13⟩)
      · have HN13 := Lib.hid hnx
        have HB13 := Lib.hid h13
        clear hnx h13 HO12
        rcases hmz with rfl | rfl
        · go_wp2_with fail
          refine (HN13.out w13 (Below.refl _ _)).mono ?_
          rintro e w14 ⟨rfl, b14⟩
          have HW14 := Lib.hid (HWM.out w13 w14 HB13.out b14)
          clear b14 HN13 HB13
          go_wp2_with fail
          refine HW14.out.mono ?_
          rintro e w15 ⟨rfl, h15⟩
          have HI15 := Lib.hid h15
          clear h15 HW14
          go_wp2
          go_roundw
          case rel => exact ⟨k + 1, by omega, by go_num, (m : Int), rfl, .inr rfl, HI15⟩
          case measure => simp [intOf]; omega
        · have im : decide ((m : Int) ≥ 0) = true := decide_eq_true (by omega)
          go_wp2_with fail
          refine (HN13.out w13 (Below.refl _ _)).mono ?_
          rintro e w14 ⟨rfl, b14⟩
          have HB14 := Lib.hid b14
          have HN14 := Lib.hid (HN13.out w14 b14)
          clear b14 HN13
          go_wp2_with fail
          refine HN14.out.mono ?_
          rintro e w15 ⟨rfl, b15⟩
          have HW15 := Lib.hid (HWM.out w13 w15 HB13.out (HB14.out.trans (b15.mono HB14.out.size)))
          clear b15 HB14 HN14 HB13
          go_wp2_with fail
          refine HW15.out.mono ?_
          rintro e w16 ⟨rfl, h16⟩
          have HI16 := Lib.hid h16
          clear h16 HW15
          go_wp2
          go_roundw
          case rel => exact ⟨k + 1, by omega, by go_num, (m : Int), rfl, .inr rfl, HI16⟩
          case measure => simp [intOf]; omega
      · have HW14 := Lib.hid (HWM.out w13 w13 h13 (Below.refl _ _))
        clear h13 HO12
        go_wp2_with fail
        refine HW14.out.mono ?_
        rintro e w15 ⟨rfl, h15⟩
        have HI15 := Lib.hid h15
        clear h15 HW14
        go_wp2
        go_roundw
        case rel => exact ⟨k + 1, by omega, by go_num, mz, rfl, hmz, HI15⟩
        case measure => simp [intOf]; omega
    · obtain rfl : k = cn := by omega
      have i3 : ¬ (k : Int) < (k : Int) := by omega
      have HBH : Hid (Calls Tryz.prog 14 #[.pointer (some ⟨g, 0, none⟩), .slice A0 n0 c0, .int .i64 0, .int .i64 (sf : Nat), .int .i64 0] wr fun e w' => e = .returned (.bool true) ∧ ∃ G' d', BackTo D g G' d' all (.slice A0 n0 c0) w w' ∧ Rest d' 1 0 segs ∧ d'.off = false ∧ d'.left = -1) := Lib.hid (by
        obtain ⟨G9, d9, hb9, R9, _⟩ := hrel.out
        exact behind_any HY.out HX.out A0 n0 c0 m (sf : Int) 0 hb9 R9.ok (R9.wake 0) (by omega) HCM.out HFM.out hmn HAL.out (by omega) HSF.out HMEM.out)
      clear hrel HARM HOPN HWM
      go_wp2_with fail
      refine HBH.out.mono ?_
      rintro e w11 ⟨rfl, G11, d11, hb11, R11, ho11, hl11⟩
      have HO11 := Lib.hid (open_log HY.out HX.out hb11 R11 ho11 hl11)
      clear hb11 R11 ho11 hl11 HBH
      go_wp2_with fail
      refine HO11.out.mono ?_
      rintro e w12 ⟨q2, rfl, G12, Gd12, d12, k12, hb12, _⟩
      have HT : Hid (∀ W, Below w12.heap.size w12 W → TellsL q2 segs all m W) := Lib.hid fun W hW => tellsL_of HX.out (HX.out.below k12 hW) HCM.out HFM.out (by rw [HAL.out]; exact hmn) (by omega)
      have HB12 := Lib.hid hb12.bel
      clear k12 hb12 HO11
      rcases hmz with rfl | rfl
      · go_wp2_with fail
        refine ((HT.out w12 (Below.refl _ _)).first).mono ?_
        rintro e w13 ⟨rfl, b13⟩
        have HB13 := Lib.hid (HB12.out.trans (b13.mono HB12.out.size))
        clear b13 HT
        go_wp2
        go_ret
        exact ⟨rfl, HB13.out⟩
      · have im : decide ((m : Int) < 0) = false := decide_eq_false (by omega)
        go_wp2_with fail
        refine ((HT.out w12 (Below.refl _ _)).first).mono ?_
        rintro e w13 ⟨rfl, b13⟩
        have HB13 := Lib.hid (HB12.out.trans (b13.mono HB12.out.size))
        have HN13 := Lib.hid ((HT.out w13 b13).next)
        clear b13 HT
        go_wp2_with fail
        refine HN13.out.mono ?_
        rintro e w14 ⟨rfl, b14⟩
        have HB14 := Lib.hid (HB13.out.trans (b14.mono HB13.out.size))
        clear b14 HN13
        go_wp2
        go_ret
        exact ⟨rfl, HB14.out⟩
end Go.Proofs.YtbdhhmhlcdganaaGreatDoor
namespace Go.Proofs.YtbdhhmhlcdganaaGreatDoor
open Go.RowKit
set_option linter.unusedVariables false
set_option maxRecDepth 100000

theorem lk_wf {d : Dv} (ok : Dv.Ok d) {s : ByteArray} {b : List Int} {y : Nat} (h : lkF d s = some (b, y)) : ∀ x ∈ b, (Lit.int .u8 x).wf = true := by
  obtain ⟨f, hf, _, rfl, _⟩ := (lk_some ok).1 h
  exact (ok.fl f hf).wf
theorem mem_sum : ∀ (l : List Nat) (a : Nat), a ∈ l → a ≤ l.sum
  | b :: t, a, h => by
    rw [List.sum_cons]
    rcases List.mem_cons.1 h with rfl | h
    · omega
    · have := mem_sum t a h; omega
theorem lk_len {d : Dv} (ok : Dv.Ok d) {s : ByteArray} {b : List Int} {y : Nat} (h : lkF d s = some (b, y)) : b.length ≤ 16777216 := by
  obtain ⟨f, hf, _, rfl, _⟩ := (lk_some ok).1 h
  have h1 : f.bs.length ≤ usedD d.fs := by
    unfold usedD
    exact mem_sum _ _ (List.mem_map.2 ⟨f, hf, rfl⟩)
  have := ok.us
  have := ok.rm
  omega
theorem lk_name {d : Dv} (ok : Dv.Ok d) {s : ByteArray} {x : List Int × Nat} (h : lkF d s = some x) : s.size ≤ 16 := by
  obtain ⟨f, hf, e, _, _⟩ := (lk_some ok).1 (show lkF d s = some (x.1, x.2) from h)
  have := (ok.fl f hf).nm
  rw [e] at this
  unfold okN at this
  simp at this
  omega
theorem rem_err {d : Dv} (ok : Dv.Ok d) {s : ByteArray} (h : lkF d s ≠ none) (he : (remD d s).2 ≠ 0) : (remD d s).2 = 10 := by
  obtain ⟨d', e, q, _, h1⟩ := rem_step ok s
  rw [q] at he ⊢
  rcases h1 with ⟨_, h2, h3⟩ | ⟨h2, _⟩
  · rcases h2 with h2 | h2
    · exact absurd (h3 h2) h
    · exact h2
  · exact absurd h2 he
theorem sync_err {d : Dv} (ok : Dv.Ok d) {s : ByteArray} (h : lkF d s ≠ none) (he : (syncD d s).2 ≠ 0) : (syncD d s).2 = 10 := by
  obtain ⟨d', e, q, _, h1⟩ := sync_step ok s
  rw [q] at he ⊢
  rcases h1 with ⟨_, h2, h3⟩ | ⟨h2, _⟩
  · rcases h2 with h2 | h2
    · exact absurd (h3 h2) h
    · exact h2
  · exact absurd h2 he
theorem readG_ex (f : Nat) : ∀ (d : Dv) (n : Nat) (acc : List (List (List Int))), Dv.Ok d → (∀ i (h : i < acc.length), lkF d (segN (n + i)) = some (ckAll acc[i], (ckAll acc[i]).length)) → (∀ s ∈ acc, ∀ p ∈ s, p.length ≤ 1024) →
    ∀ d' acc' e, readG f d n acc = (d', acc', e) → Dv.Ok d' ∧ (∀ i (h : i < acc'.length), lkF d' (segN (n + i)) = some (ckAll acc'[i], (ckAll acc'[i]).length)) ∧ (∀ s ∈ acc', ∀ p ∈ s, p.length ≤ 1024) ∧ lkF d' headN = lkF d headN := by
  induction f with
  | zero =>
    intro d n acc ok hat hm d' acc' e q
    unfold readG at q
    injection q with q1 q; injection q with q2 q3
    subst q1 q2
    exact ⟨ok, hat, hm, rfl⟩
  | succ f ih =>
    intro d n acc ok hat hm d' acc' e q
    unfold readG at q
    cases hl : lkF d (segN (n + acc.length)) with
    | none =>
      rw [hl] at q
      simp only at q
      injection q with q1 q; injection q with q2 q3
      subst q1 q2
      exact ⟨ok, hat, hm, rfl⟩
    | some x =>
      obtain ⟨b, y0⟩ := x
      rw [hl] at q
      simp only at q
      have hw := lk_wf ok hl
      have hne : ∀ i, i < acc.length → segN (n + i) ≠ segN (n + acc.length) := fun i hi h9 => by have := segN_inj h9; omega
      have hadd : ∀ d2, Dv.Ok d2 → (∀ t, t ≠ segN (n + acc.length) → lkF d2 t = lkF d t) → lkF d2 (segN (n + acc.length)) = some (ckAll (ckScan b).1, (ckAll (ckScan b).1).length) →
          (∀ i (h : i < (acc ++ [(ckScan b).1]).length), lkF d2 (segN (n + i)) = some (ckAll (acc ++ [(ckScan b).1])[i], (ckAll (acc ++ [(ckScan b).1])[i]).length)) := fun d2 ok2 ho hs i hi => by
        rw [List.length_append] at hi
        by_cases h1 : i < acc.length
        · rw [ho _ (hne i h1), List.getElem_append_left h1]
          exact hat i h1
        · obtain rfl : i = acc.length := by simp at hi; omega
          rw [hs]; simp
      have hmm : ∀ s ∈ acc ++ [(ckScan b).1], ∀ p ∈ s, p.length ≤ 1024 := fun s hs p hp => by
        rcases List.mem_append.1 hs with hs | hs
        · exact hm s hs p hp
        · rw [List.mem_singleton.1 hs] at hp
          exact (ckScan_mem hw p hp).1
      by_cases hlt : (ckScan b).2 < b.length
      · rw [if_pos hlt] at q
        obtain ⟨d1, e1, t1, ok1, h1⟩ := trunc_step ok (segN (n + acc.length)) (ckScan b).2
        rw [t1] at q
        rcases h1 with ⟨hn, _⟩ | ⟨rfl, _, _, b', y', hb', _, hk1⟩
        · simp only [if_neg hn.1] at q
          injection q with q1 q; injection q with q2 q3
          subst q1 q2
          exact ⟨ok1, fun i hi => by rw [hn.lk]; exact hat i hi, hm, by rw [hn.lk]⟩
        · rw [hl] at hb'
          injection hb' with hb'; injection hb' with hb1 hb2
          subst hb1 hb2
          simp only [if_true] at q
          obtain ⟨d2, e2, t2, ok2, h2⟩ := sync_step ok1 (segN (n + acc.length))
          rw [t2] at q
          rcases h2 with ⟨hn, _⟩ | ⟨rfl, _, _, _, b2, y2, hb2, hk2⟩
          · simp only [if_neg hn.1] at q
            injection q with q1 q; injection q with q2 q3
            subst q1 q2
            refine ⟨ok2, fun i hi => ?_, hm, ?_⟩
            · rw [hn.lk, hk1, if_neg (hne i hi)]; exact hat i hi
            · rw [hn.lk, hk1, if_neg (fun x => segN_head _ x.symm)]
          · simp only [if_true] at q
            injection q with q1 q; injection q with q2 q3
            subst q1 q2
            rw [hk1, if_pos rfl] at hb2
            injection hb2 with hb2; injection hb2 with hb3 hb4
            subst hb3
            refine ⟨ok2, hadd d2 ok2 (fun t ht => by rw [hk2, if_neg ht, hk1, if_neg ht]) ?_, hmm, ?_⟩
            · rw [hk2, if_pos rfl, ckScan_all hw]
            · rw [hk2, if_neg (fun x => segN_head _ x.symm), hk1, if_neg (fun x => segN_head _ x.symm)]
      · rw [if_neg hlt] at q
        have hwh : ckAll (ckScan b).1 = b := by rw [ckScan_all hw, List.take_of_length_le (by have := ckScan_le b; omega)]
        obtain ⟨d2, e2, t2, ok2, h2⟩ := sync_step ok (segN (n + acc.length))
        rw [t2] at q
        rcases h2 with ⟨hn, _⟩ | ⟨rfl, _, _, _, b2, y2, hb2, hk2⟩
        · simp only [if_neg hn.1] at q
          injection q with q1 q; injection q with q2 q3
          subst q1 q2
          exact ⟨ok2, fun i hi => by rw [hn.lk]; exact hat i hi, hm, by rw [hn.lk]⟩
        · simp only [if_true] at q
          rw [hl] at hb2
          injection hb2 with hb2; injection hb2 with hb3 hb4
          subst hb3
          obtain ⟨r1, r2, r3, r4⟩ := ih d2 n _ ok2 (hadd d2 ok2 (fun t ht => by rw [hk2, if_neg ht]) (by rw [hk2, if_pos rfl, hwh])) hmm _ _ _ q
          exact ⟨r1, r2, r3, by rw [r4, hk2, if_neg (fun x => segN_head _ x.symm)]⟩
theorem dropG_ex (n k : Nat) : ∀ (L : List ByteArray) (d : Dv), Dv.Ok d → ∀ d' e, dropG n k d L = (d', e) → Dv.Ok d' ∧ (∀ t, mineS n k t = true → lkF d' t = lkF d t) ∧ (∀ t, lkF d' t = none ∨ lkF d' t = lkF d t) ∧ (e = 0 → ∀ s ∈ L, mineS n k s = false → lkF d' s = none) := by
  intro L
  induction L with
  | nil =>
    intro d ok d' e q
    unfold dropG at q
    injection q with q1 q2
    subst q1
    exact ⟨ok, fun _ _ => rfl, fun _ => .inr rfl, fun _ s hs => by cases hs⟩
  | cons s t ih =>
    intro d ok d' e q
    unfold dropG at q
    by_cases hm : mineS n k s = true
    · rw [if_pos hm] at q
      obtain ⟨r1, r2, r3, r4⟩ := ih d ok d' e q
      refine ⟨r1, r2, r3, fun he x hx hx2 => ?_⟩
      rcases List.mem_cons.1 hx with rfl | hx
      · rw [hm] at hx2; cases hx2
      · exact r4 he x hx hx2
    · rw [if_neg hm] at q
      obtain ⟨d1, e1, t1, ok1, h1⟩ := rem_step ok s
      rw [t1] at q
      rcases h1 with ⟨hn, _⟩ | ⟨rfl, _, _, _, hk⟩
      · simp only [if_neg hn.1] at q
        injection q with q1 q2
        subst q1 q2
        exact ⟨ok1, fun _ _ => by rw [hn.lk], fun _ => .inr (by rw [hn.lk]), fun he => absurd he (by decide)⟩
      · simp only [if_true] at q
        obtain ⟨r1, r2, r3, r4⟩ := ih d1 ok1 d' e q
        refine ⟨r1, fun x hx => ?_, fun x => ?_, fun he x hx hx2 => ?_⟩
        · rw [r2 x hx, hk, if_neg (fun e9 => hm (by rw [← e9]; exact hx))]
        · rcases r3 x with h | h
          · exact .inl h
          · rw [h, hk]
            by_cases e9 : x = s
            · rw [if_pos e9]; exact .inl rfl
            · rw [if_neg e9]; exact .inr rfl
        · rcases List.mem_cons.1 hx with rfl | hx
          · rcases r3 x with h | h
            · exact h
            · rw [h, hk, if_pos rfl]
          · exact r4 he x hx hx2
theorem cntS_few (segs : List (List (List Int))) (h : ∀ s ∈ segs, s.length ≤ 16777216) : cntS segs ≤ segs.length * 16777216 := by
  induction segs with
  | nil => simp [cntS]
  | cons s t ih =>
    have h1 := ih (fun x hx => h x (by simp [hx]))
    have h2 := h s (by simp)
    unfold cntS at h1 ⊢
    simp only [List.map_cons, List.sum_cons, List.length_cons]
    omega
theorem headG_le {d : Dv} {n first : Nat} (h : headG d = some (n, first)) : 1 ≤ n ∧ n ≤ 999999999999 ∧ first ≤ 1099511627776 := by
  unfold headG at h
  split at h
  · injection h with h; injection h with h1 h2
    subst h1 h2
    omega
  · unfold hdOf at h
    split at h
    · rename_i hh
      injection h with h; injection h with h1 h2
      subst h1 h2
      exact ⟨hh.2.2.2.1, hh.2.2.2.2.1, hh.2.2.2.2.2⟩
    · cases h
structure SgAt (d : Dv) (l : Lg) (k : Nat) : Prop where
  ok : Dv.Ok d
  rd : ∀ i (h : i < l.segs.length), k ≤ i → ∃ y, lkF d (segN (l.n + i)) = some (ckAll l.segs[i], y)
  mem : ∀ s ∈ l.segs, ∀ p ∈ s, p.length ≤ 1024 ∧ ∀ x ∈ p, (Lit.int .u8 x).wf = true
  live : d.off = false → k = 0 ∧ SgIs d l
  n1 : 1 ≤ l.n
  n2 : l.n ≤ 999999999999
  few : l.segs.length ≤ 64
  fst : l.first ≤ 1099511627776
  nxt : nextG l ≤ 1200000000000
  saf : l.safe ≤ nextG l
  emp : l.segs = [] → l.safe = l.first
  byt : ∀ s ∈ l.segs, (ckAll s).length ≤ 16777216
structure SgBd (l : Lg) : Prop where
  n2 : l.n ≤ 999999999999
  few : l.segs.length ≤ 64
  nxt : nextG l ≤ 1200000000000
  siz : (ckAll (lastS l)).length ≤ 16777216
theorem SgAt.bd {d : Dv} {l : Lg} {k : Nat} (h : SgAt d l k) : SgBd l := ⟨h.n2, h.few, h.nxt, by
  by_cases h0 : l.segs = []
  · have : lastS l = [] := by unfold lastS; rw [h0]; rfl
    rw [this]; exact Nat.zero_le _
  · obtain ⟨hk, hl, _, _⟩ := last_at h0
    rw [hl]
    exact h.byt _ (List.getElem_mem hk)⟩
theorem ckAll_wf14 {s : List (List Int)} (h : ∀ x ∈ ckAll s, (Lit.int .u8 x).wf = true) : ∀ p ∈ s, ∀ x ∈ p, (Lit.int .u8 x).wf = true := fun p hp x hx => h x (by
  unfold ckAll
  rw [List.mem_flatMap]
  exact ⟨p, hp, by unfold ckL; simp [hx]⟩)
theorem SgIs.sat {d : Dv} {l : Lg} (h : SgIs d l) (n2 : l.n ≤ 999999999999) (fst : l.first ≤ 1099511627776) (nxt : nextG l ≤ 1200000000000) : SgAt d l 0 :=
  ⟨h.ok, fun i hi _ => by obtain ⟨y, h1, _⟩ := h.at_ i hi; exact ⟨y, h1⟩, fun s hs p hp => ⟨h.mem s hs p hp, by
    obtain ⟨i, hi, rfl⟩ := List.mem_iff_getElem.1 hs
    obtain ⟨y, h1, _⟩ := h.at_ i hi
    exact ckAll_wf14 (lk_wf h.ok h1) p hp⟩, fun _ => ⟨rfl, h⟩, h.lim, n2, few_files h.ok l.n l.segs.length (fun i hi => by obtain ⟨y, h1, _⟩ := h.at_ i hi; rw [h1]; simp), fst, nxt, h.safe_le.1, h.saf.1, fun s hs => by
    obtain ⟨i, hi, rfl⟩ := List.mem_iff_getElem.1 hs
    obtain ⟨y, h1, _⟩ := h.at_ i hi
    exact lk_len h.ok h1⟩
theorem open_is {d d' : Dv} {l : Lg} {E : Int} (ok : Dv.Ok d) (h : openG d = (d', some l, E)) : E = 0 ∧ SgIs d' l ∧ SgAt d' l 0 ∧ l.safe = nextG l ∧ d.off = false := by
  unfold openG at h
  by_cases hoff : d.off = true
  · rw [if_pos hoff] at h; injection h with _ h; injection h with h; cases h
  rw [if_neg hoff] at h
  by_cases hw : (wipeG d hnewN).2 ≠ 0
  · rw [if_pos hw] at h; injection h with _ h; injection h with h; cases h
  rw [if_neg hw] at h
  have ok1 : Dv.Ok (wipeG d hnewN).1 := by
    unfold wipeG
    split
    · exact ok
    · split <;> exact rem_ok ok hnewN
  generalize (wipeG d hnewN).1 = d1 at h ok1
  cases hh : headG d1 with
  | none => rw [hh] at h; simp only at h; injection h with _ h; injection h with h; cases h
  | some x =>
    obtain ⟨n, first⟩ := x
    rw [hh] at h
    simp only at h
    obtain ⟨hn1, hn2, hf⟩ := headG_le hh
    obtain ⟨d2, acc, e2, q2⟩ : ∃ d2 acc e2, readG 66 d1 n [] = (d2, acc, e2) := ⟨_, _, _, rfl⟩
    rw [q2] at h
    simp only at h
    obtain ⟨ok2, r2, m2, hd2⟩ := readG_ex 66 d1 n [] ok1 (fun i hi => absurd hi (by simp)) (fun s hs => by cases hs) _ _ _ q2
    by_cases he2 : e2 ≠ 0
    · rw [if_pos he2] at h; injection h with _ h; injection h with h; cases h
    rw [if_neg he2] at h
    obtain ⟨d3, e3, q3⟩ : ∃ d3 e3, dropG n acc.length d2 (namesD d2) = (d3, e3) := ⟨_, _, rfl⟩
    rw [q3] at h
    simp only at h
    obtain ⟨ok3, k3, o3, n3⟩ := dropG_ex n acc.length (namesD d2) d2 ok2 _ _ q3
    by_cases he3 : e3 ≠ 0
    · rw [if_pos he3] at h; injection h with _ h; injection h with h; cases h
    rw [if_neg he3] at h
    injection h with e1 h; injection h with e4 e5
    injection e4 with e4
    subst e1 e4 e5
    have he3 : e3 = 0 := Classical.byContradiction he3
    have hex : ∀ i (h : i < acc.length), lkF d3 (segN (n + i)) = some (ckAll acc[i], (ckAll acc[i]).length) := fun i hi => by rw [k3 _ (mine_seg n _ i hi)]; exact r2 i hi
    have his : SgIs d3 ⟨n, first, acc, first + cntS acc⟩ := by
      refine ⟨ok3, ?_, fun i hi => ⟨_, hex i hi, Nat.le_refl _, fun _ => rfl⟩, fun s hs => ?_, m2, ⟨fun h0 => ?_, fun h0 => ?_⟩, hn1⟩
      · rw [headG_lk (d := d1) (d' := d3) (by rw [k3 _ (mine_head n _), hd2])]; exact hh
      · by_cases hin : s ∈ namesD d2
        · exact n3 he3 s hin hs
        · have h0 : lkF d2 s = none := Classical.byContradiction fun hh => hin (names_mem.2 hh)
          rcases o3 s with h9 | h9
          · exact h9
          · rw [h9, h0]
      · show first + cntS acc = first
        rw [show acc = [] from h0]; simp [cntS]
      · obtain ⟨hk, hl, hc, _⟩ := last_at h0
        refine ⟨(lastS (⟨n, first, acc, first + cntS acc⟩ : Lg)).length, (ckAll (lastS (⟨n, first, acc, first + cntS acc⟩ : Lg))).length, Nat.le_refl _, ?_, ?_, ?_⟩
        · rw [hc, hl]; exact hex _ hk
        · have h9 : cntS acc = cntS acc.dropLast + (lastS (⟨n, first, acc, first + cntS acc⟩ : Lg)).length := cntS_last h0
          show first + cntS acc = first + cntS acc.dropLast + (lastS (⟨n, first, acc, first + cntS acc⟩ : Lg)).length
          generalize (lastS (⟨n, first, acc, first + cntS acc⟩ : Lg)).length = z at h9 ⊢
          omega
        · rw [List.take_length]; exact Nat.le_refl _
    have hfew : acc.length ≤ 64 := few_files ok3 n acc.length (fun i hi => by rw [hex i hi]; simp)
    have hcnt : cntS acc ≤ acc.length * 16777216 := cntS_few acc fun s hs => by
      obtain ⟨i, hi, rfl⟩ := List.mem_iff_getElem.1 hs
      have h1 := lk_len ok3 (hex i hi)
      have h2 := ckAll_len_ge acc[i]
      omega
    refine ⟨rfl, his, his.sat hn2 hf ?_, rfl, by simpa using hoff⟩
    show first + cntS acc ≤ _
    omega
end Go.Proofs.YtbdhhmhlcdganaaGreatDoor
namespace Go.Proofs.YtbdhhmhlcdganaaGreatDoor
open Go.Shelf Go.Proofs
def Tryz.atoiAll_ren : Go.Shelf.Ren := ⟨fun | 172 => 108 | 244 => 146 | 245 => 147 | 247 => 167 | 279 => 168 | 280 => 169 | 281 => 170 | 282 => 171 | 287 => 181 | 316 => 77 | 171 => 76 | 205 => 182 | 321 => 188 | 322 => 189 | 243 => 113 | 246 => 150 | 283 => 174 | 284 => 175 | 285 => 176 | 286 => 177 | 129 => 124 | 317 => 184 | 318 => 185 | 319 => 186 | 320 => 187 | 337 => 190 | 338 => 191 | n => n, fun | 9 => 9 | 3 => 3 | 75 => 133 | 76 => 134 | 4 => 4 | 5 => 5 | 167 => 177 | 37 => 47 | 0 => 0 | 85 => 178 | 2 => 2 | 168 => 180 | 53 => 105 | 175 => 191 | 46 => 114 | 210 => 194 | 127 => 141 | 145 => 203 | 143 => 201 | 21 => 21 | 171 => 184 | 173 => 186 | 212 => 198 | 51 => 138 | 20 => 20 | 213 => 199 | 232 => 204 | 233 => 205 | 80 => 82 | n => n, fun | 15 => 0 | 16 => 1 | 17 => 2 | 18 => 3 | 19 => 4 | n => n⟩
theorem Tryz.atoiAll : Go.Proofs.LaysC.n172 Tryz.prog Tryz.atoiAll_ren := {
  mixed := by kernel_rfl
  f129 := Tryz.func124.trans (congrArg some (by kernel_rfl))
  f171 := Tryz.func76.trans (congrArg some (by kernel_rfl))
  f172 := Tryz.func108.trans (congrArg some (by kernel_rfl))
  f205 := Tryz.func182.trans (congrArg some (by kernel_rfl))
  f243 := Tryz.func113.trans (congrArg some (by kernel_rfl))
  f244 := Tryz.func146.trans (congrArg some (by kernel_rfl))
  f245 := Tryz.func147.trans (congrArg some (by kernel_rfl))
  f246 := Tryz.func150.trans (congrArg some (by kernel_rfl))
  f247 := Tryz.func167.trans (congrArg some (by kernel_rfl))
  f279 := Tryz.func168.trans (congrArg some (by kernel_rfl))
  f280 := Tryz.func169.trans (congrArg some (by kernel_rfl))
  f281 := Tryz.func170.trans (congrArg some (by kernel_rfl))
  f282 := Tryz.func171.trans (congrArg some (by kernel_rfl))
  f283 := Tryz.func174.trans (congrArg some (by kernel_rfl))
  f284 := Tryz.func175.trans (congrArg some (by kernel_rfl))
  f285 := Tryz.func176.trans (congrArg some (by kernel_rfl))
  f286 := Tryz.func177.trans (congrArg some (by kernel_rfl))
  f287 := Tryz.func181.trans (congrArg some (by kernel_rfl))
  f316 := Tryz.func77.trans (congrArg some (by kernel_rfl))
  f317 := Tryz.func184.trans (congrArg some (by kernel_rfl))
  f318 := Tryz.func185.trans (congrArg some (by kernel_rfl))
  f319 := Tryz.func186.trans (congrArg some (by kernel_rfl))
  f320 := Tryz.func187.trans (congrArg some (by kernel_rfl))
  f321 := Tryz.func188.trans (congrArg some (by kernel_rfl))
  f322 := Tryz.func189.trans (congrArg some (by kernel_rfl))
  f337 := Tryz.func190.trans (congrArg some (by kernel_rfl))
  f338 := Tryz.func191.trans (congrArg some (by kernel_rfl))
  t0 := Tryz.underlying0
  a0 := Tryz.isAgg0
  z0 := Tryz.sizeOf0
  v0 := Tryz.zeroValue0
  t2 := Tryz.underlying2
  a2 := Tryz.isAgg2
  z2 := Tryz.sizeOf2
  v2 := Tryz.zeroValue2
  t3 := Tryz.underlying3
  a3 := Tryz.isAgg3
  z3 := Tryz.sizeOf3
  v3 := Tryz.zeroValue3
  t4 := Tryz.underlying4
  a4 := Tryz.isAgg4
  z4 := Tryz.sizeOf4
  v4 := Tryz.zeroValue4
  t5 := Tryz.underlying5
  a5 := Tryz.isAgg5
  z5 := Tryz.sizeOf5
  v5 := Tryz.zeroValue5
  t9 := Tryz.underlying9
  a9 := Tryz.isAgg9
  z9 := Tryz.sizeOf9
  v9 := Tryz.zeroValue9
  t20 := Tryz.underlying20
  a20 := Tryz.isAgg20
  z20 := Tryz.sizeOf20
  v20 := Tryz.zeroValue20
  t21 := Tryz.underlying21
  a21 := Tryz.isAgg21
  z21 := Tryz.sizeOf21
  v21 := Tryz.zeroValue21
  t37 := Tryz.underlying47
  a37 := Tryz.isAgg47
  z37 := Tryz.sizeOf47
  v37 := Tryz.zeroValue47
  t46 := Tryz.underlying114
  a46 := Tryz.isAgg114
  z46 := Tryz.sizeOf114
  v46 := Tryz.zeroValue114
  t51 := Tryz.underlying138
  a51 := Tryz.isAgg138
  z51 := Tryz.sizeOf138
  v51 := Tryz.zeroValue138
  t53 := Tryz.underlying105
  a53 := Tryz.isAgg105
  z53 := Tryz.sizeOf105
  v53 := Tryz.zeroValue105
  t75 := Tryz.underlying133
  a75 := Tryz.isAgg133
  z75 := Tryz.sizeOf133
  v75 := Tryz.zeroValue133
  t76 := Tryz.underlying134
  a76 := Tryz.isAgg134
  z76 := Tryz.sizeOf134
  v76 := Tryz.zeroValue134
  t85 := Tryz.underlying178
  a85 := Tryz.isAgg178
  z85 := Tryz.sizeOf178
  v85 := Tryz.zeroValue178
  t127 := Tryz.underlying141
  a127 := Tryz.isAgg141
  z127 := Tryz.sizeOf141
  v127 := Tryz.zeroValue141
  t143 := Tryz.underlying201
  a143 := Tryz.isAgg201
  z143 := Tryz.sizeOf201
  v143 := Tryz.zeroValue201
  t145 := Tryz.underlying203
  a145 := Tryz.isAgg203
  z145 := Tryz.sizeOf203
  v145 := Tryz.zeroValue203
  t167 := Tryz.underlying177
  a167 := Tryz.isAgg177
  z167 := Tryz.sizeOf177
  v167 := Tryz.zeroValue177
  t168 := Tryz.underlying180
  a168 := Tryz.isAgg180
  z168 := Tryz.sizeOf180
  v168 := Tryz.zeroValue180
  t171 := Tryz.underlying184
  a171 := Tryz.isAgg184
  z171 := Tryz.sizeOf184
  v171 := Tryz.zeroValue184
  t173 := Tryz.underlying186
  a173 := Tryz.isAgg186
  z173 := Tryz.sizeOf186
  v173 := Tryz.zeroValue186
  t175 := Tryz.underlying191
  a175 := Tryz.isAgg191
  z175 := Tryz.sizeOf191
  v175 := Tryz.zeroValue191
  t210 := Tryz.underlying194
  a210 := Tryz.isAgg194
  z210 := Tryz.sizeOf194
  v210 := Tryz.zeroValue194
  t212 := Tryz.underlying198
  a212 := Tryz.isAgg198
  z212 := Tryz.sizeOf198
  v212 := Tryz.zeroValue198
  t213 := Tryz.underlying199
  a213 := Tryz.isAgg199
  z213 := Tryz.sizeOf199
  t232 := Tryz.underlying204
  a232 := Tryz.isAgg204
  z232 := Tryz.sizeOf204
  v232 := Tryz.zeroValue204
  t233 := Tryz.underlying205
  a233 := Tryz.isAgg205
  z233 := Tryz.sizeOf205
  v233 := Tryz.zeroValue205
  g15 := by kernel_rfl
  g16 := by kernel_rfl
  g17 := by kernel_rfl
  g18 := by kernel_rfl
  g19 := by kernel_rfl
  t80 := Tryz.underlying82
  a80 := Tryz.isAgg82
  z80 := Tryz.sizeOf82
  v80 := Tryz.zeroValue82
  i0 := by kernel_rfl
  i2 := by kernel_rfl
  i3 := by kernel_rfl
  i4 := by kernel_rfl
  i5 := by kernel_rfl
  i9 := by kernel_rfl
  i20 := by kernel_rfl
  i21 := by kernel_rfl
  i37 := by kernel_rfl
  i46 := by kernel_rfl
  i51 := by kernel_rfl
  i53 := by kernel_rfl
  i75 := by kernel_rfl
  i76 := by kernel_rfl
  i80 := by kernel_rfl
  i85 := by kernel_rfl
  i127 := by kernel_rfl
  i143 := by kernel_rfl
  i145 := by kernel_rfl
  i167 := by kernel_rfl
  i168 := by kernel_rfl
  i171 := by kernel_rfl
  i173 := by kernel_rfl
  i175 := by kernel_rfl
  i210 := by kernel_rfl
  i212 := by kernel_rfl
  i232 := by kernel_rfl
  i233 := by kernel_rfl
  m15 := by kernel_rfl
  m16 := by kernel_rfl
  m17 := by kernel_rfl
  m18 := by kernel_rfl
  m19 := by kernel_rfl
  c0 := by kernel_rfl
  c2 := by kernel_rfl
  c3 := by kernel_rfl
  c4 := by kernel_rfl
  c5 := by kernel_rfl
  c9 := by kernel_rfl
  c20 := by kernel_rfl
  c21 := by kernel_rfl
  c37 := by kernel_rfl
  c46 := by kernel_rfl
  c51 := by kernel_rfl
  c53 := by kernel_rfl
  c75 := by kernel_rfl
  c76 := by kernel_rfl
  c80 := by kernel_rfl
  c85 := by kernel_rfl
  c127 := by kernel_rfl
  c143 := by kernel_rfl
  c145 := by kernel_rfl
  c167 := by kernel_rfl
  c168 := by kernel_rfl
  c171 := by kernel_rfl
  c173 := by kernel_rfl
  c175 := by kernel_rfl
  c210 := by kernel_rfl
  c212 := by kernel_rfl
  c213 := by kernel_rfl
  c232 := by kernel_rfl
  c233 := by kernel_rfl }
def Tryz.itoaAll_ren : Go.Shelf.Ren := ⟨fun | 171 => 76 | 243 => 113 | 246 => 150 | 283 => 174 | 284 => 175 | 285 => 176 | 286 => 177 | 129 => 124 | 317 => 184 | 318 => 185 | 319 => 186 | 320 => 187 | 337 => 190 | 338 => 191 | n => n, fun | 3 => 3 | 9 => 9 | 2 => 2 | 4 => 4 | 171 => 184 | 0 => 0 | 53 => 105 | 37 => 47 | 5 => 5 | 173 => 186 | 212 => 198 | 51 => 138 | 20 => 20 | 213 => 199 | 46 => 114 | 232 => 204 | 233 => 205 | n => n, fun | 17 => 2 | 18 => 3 | 19 => 4 | n => n⟩
theorem Tryz.itoaAll : Go.Proofs.LaysM.n171 Tryz.prog Tryz.itoaAll_ren := {
  mixed := by kernel_rfl
  f129 := Tryz.func124.trans (congrArg some (by kernel_rfl))
  f171 := Tryz.func76.trans (congrArg some (by kernel_rfl))
  f243 := Tryz.func113.trans (congrArg some (by kernel_rfl))
  f246 := Tryz.func150.trans (congrArg some (by kernel_rfl))
  f283 := Tryz.func174.trans (congrArg some (by kernel_rfl))
  f284 := Tryz.func175.trans (congrArg some (by kernel_rfl))
  f285 := Tryz.func176.trans (congrArg some (by kernel_rfl))
  f286 := Tryz.func177.trans (congrArg some (by kernel_rfl))
  f317 := Tryz.func184.trans (congrArg some (by kernel_rfl))
  f318 := Tryz.func185.trans (congrArg some (by kernel_rfl))
  f319 := Tryz.func186.trans (congrArg some (by kernel_rfl))
  f320 := Tryz.func187.trans (congrArg some (by kernel_rfl))
  f337 := Tryz.func190.trans (congrArg some (by kernel_rfl))
  f338 := Tryz.func191.trans (congrArg some (by kernel_rfl))
  t0 := Tryz.underlying0
  a0 := Tryz.isAgg0
  z0 := Tryz.sizeOf0
  v0 := Tryz.zeroValue0
  t2 := Tryz.underlying2
  a2 := Tryz.isAgg2
  z2 := Tryz.sizeOf2
  v2 := Tryz.zeroValue2
  t3 := Tryz.underlying3
  a3 := Tryz.isAgg3
  z3 := Tryz.sizeOf3
  v3 := Tryz.zeroValue3
  t4 := Tryz.underlying4
  a4 := Tryz.isAgg4
  z4 := Tryz.sizeOf4
  v4 := Tryz.zeroValue4
  t5 := Tryz.underlying5
  a5 := Tryz.isAgg5
  z5 := Tryz.sizeOf5
  v5 := Tryz.zeroValue5
  t9 := Tryz.underlying9
  a9 := Tryz.isAgg9
  z9 := Tryz.sizeOf9
  v9 := Tryz.zeroValue9
  t20 := Tryz.underlying20
  a20 := Tryz.isAgg20
  z20 := Tryz.sizeOf20
  v20 := Tryz.zeroValue20
  t37 := Tryz.underlying47
  a37 := Tryz.isAgg47
  z37 := Tryz.sizeOf47
  v37 := Tryz.zeroValue47
  t46 := Tryz.underlying114
  a46 := Tryz.isAgg114
  z46 := Tryz.sizeOf114
  v46 := Tryz.zeroValue114
  t51 := Tryz.underlying138
  a51 := Tryz.isAgg138
  z51 := Tryz.sizeOf138
  v51 := Tryz.zeroValue138
  t53 := Tryz.underlying105
  a53 := Tryz.isAgg105
  z53 := Tryz.sizeOf105
  v53 := Tryz.zeroValue105
  t171 := Tryz.underlying184
  a171 := Tryz.isAgg184
  z171 := Tryz.sizeOf184
  v171 := Tryz.zeroValue184
  t173 := Tryz.underlying186
  a173 := Tryz.isAgg186
  z173 := Tryz.sizeOf186
  v173 := Tryz.zeroValue186
  t212 := Tryz.underlying198
  a212 := Tryz.isAgg198
  z212 := Tryz.sizeOf198
  v212 := Tryz.zeroValue198
  t213 := Tryz.underlying199
  a213 := Tryz.isAgg199
  z213 := Tryz.sizeOf199
  t232 := Tryz.underlying204
  a232 := Tryz.isAgg204
  z232 := Tryz.sizeOf204
  v232 := Tryz.zeroValue204
  t233 := Tryz.underlying205
  a233 := Tryz.isAgg205
  z233 := Tryz.sizeOf205
  v233 := Tryz.zeroValue205
  g17 := by kernel_rfl
  g18 := by kernel_rfl
  g19 := by kernel_rfl
  i0 := by kernel_rfl
  i2 := by kernel_rfl
  i3 := by kernel_rfl
  i4 := by kernel_rfl
  i5 := by kernel_rfl
  i9 := by kernel_rfl
  i20 := by kernel_rfl
  i37 := by kernel_rfl
  i46 := by kernel_rfl
  i51 := by kernel_rfl
  i53 := by kernel_rfl
  i171 := by kernel_rfl
  i173 := by kernel_rfl
  i212 := by kernel_rfl
  i232 := by kernel_rfl
  i233 := by kernel_rfl
  m17 := by kernel_rfl
  m18 := by kernel_rfl
  m19 := by kernel_rfl }
def Tryz.trimPre_ren : Go.Shelf.Ren := ⟨fun | 101 => 109 | 208 => 148 | 206 => 172 | n => n, fun | 9 => 9 | 4 => 4 | 3 => 3 | n => n, fun | n => n⟩
theorem Tryz.trimPre : Go.Proofs.Lays.n101 Tryz.prog Tryz.trimPre_ren := {
  mixed := by kernel_rfl
  f101 := Tryz.func109.trans (congrArg some (by kernel_rfl))
  f206 := Tryz.func172.trans (congrArg some (by kernel_rfl))
  f208 := Tryz.func148.trans (congrArg some (by kernel_rfl))
  t3 := Tryz.underlying3
  a3 := Tryz.isAgg3
  z3 := Tryz.sizeOf3
  v3 := Tryz.zeroValue3
  t4 := Tryz.underlying4
  a4 := Tryz.isAgg4
  z4 := Tryz.sizeOf4
  v4 := Tryz.zeroValue4
  t9 := Tryz.underlying9
  a9 := Tryz.isAgg9
  z9 := Tryz.sizeOf9
  v9 := Tryz.zeroValue9 }
end Go.Proofs.YtbdhhmhlcdganaaGreatDoor
namespace Go.Proofs.YtbdhhmhlcdganaaGreatDoor
open Go.RowKit
set_option linter.unusedVariables false
set_option maxRecDepth 100000

theorem dec_dig (n : Nat) (h : 1 ≤ n) : Lib.decDigits n = digN n := by
  induction n using Nat.strongRecOn with
  | ind n ih =>
    rw [Lib.decDigits, digN_step n (by omega)]
    by_cases h1 : n < 10
    · rw [dif_pos h1, show n / 10 = 0 by omega, show n % 10 = n by omega]; rfl
    · rw [dif_neg h1, ih (n / 10) (by omega) (by omega)]
theorem itoa_dig (n : Nat) (h : 1 ≤ n) : Lib.itoa (n : Int) = digN n := by rw [Lib.itoa_nonneg, dec_dig n h]
theorem dig_of : ∀ (k : Nat) (l : List UInt8), l.length = k → (∀ x ∈ l, 48 ≤ x.toNat ∧ x.toNat ≤ 57) → l.head? ≠ some 48 → digN (valN l) = l := by
  intro k
  induction k with
  | zero => intro l hl _ _; obtain rfl := List.length_eq_zero_iff.1 hl; rfl
  | succ k ih =>
    intro l hl hd hh
    have hne : l ≠ [] := by intro e; rw [e] at hl; cases hl
    obtain ⟨a, x, e⟩ : ∃ a x, l = a ++ [x] := ⟨_, _, (List.dropLast_concat_getLast hne).symm⟩
    subst e
    have hla : a.length = k := by simpa using hl
    have hx := hd x (by simp)
    rw [valN_snoc]
    have hr : UInt8.ofNat (48 + (x.toNat - 48)) = x := by rw [show 48 + (x.toNat - 48) = x.toNat by omega]; simp
    by_cases ha : a = []
    · subst ha
      have h0 : x.toNat ≠ 48 := fun e => hh (by
        have : x = 48 := UInt8.toNat_inj.1 e
        rw [this]; rfl)
      have hv : valN [] = 0 := rfl
      rw [hv, digN_step _ (by omega), show (0 * 10 + (x.toNat - 48)) / 10 = 0 by omega, show (0 * 10 + (x.toNat - 48)) % 10 = x.toNat - 48 by omega, hr]; rfl
    · have h1 := ih a hla (fun y hy => hd y (by simp [hy])) (by cases a with | nil => exact absurd rfl ha | cons b t => simpa using hh)
      have h2 : valN a ≠ 0 := fun e => ha (by rw [← h1, e]; rfl)
      rw [digN_step _ (by omega), show (valN a * 10 + (x.toNat - 48)) / 10 = valN a by omega, show (valN a * 10 + (x.toNat - 48)) % 10 = x.toNat - 48 by omega, hr, h1]
def numS (s : ByteArray) : Nat := if isSeg s = true then valN (s.data.toList.drop 4) else 0
theorem seg_is {s : ByteArray} (h : isSeg s = true) : 1 ≤ numS s ∧ numS s < 10 ^ 12 ∧ s = segN (numS s) := by
  have hn : numS s = valN (s.data.toList.drop 4) := if_pos h
  unfold isSeg at h
  simp only [Bool.and_eq_true, decide_eq_true_eq, beq_iff_eq, List.all_eq_true] at h
  obtain ⟨⟨⟨⟨h5, h16⟩, hp⟩, hd⟩, h0⟩ := h
  have hsz : s.data.toList.length = s.size := by rw [Array.length_toList]; rfl
  have hdl : (s.data.toList.drop 4).length = s.size - 4 := by rw [List.length_drop, hsz]
  have hap := List.take_append_drop 4 s.data.toList
  rw [hp] at hap
  generalize s.data.toList.drop 4 = l at hn hd h0 hdl hap
  have e := dig_of _ l rfl hd h0
  rw [hn]
  refine ⟨?_, ?_, ?_⟩
  · rcases Nat.eq_zero_or_pos (valN l) with e0 | h1
    · rw [e0] at e
      rw [← e] at hdl
      have : (digN 0).length = 0 := rfl
      omega
    · exact h1
  · apply Nat.lt_of_not_le
    intro hb
    have h1 : 12 < (digN (valN l)).length := digF_big 12 (valN l + 1) (valN l) (by omega) hb
    rw [e] at h1
    omega
  · unfold segN
    rw [e, hap]
theorem numS_zero {s : ByteArray} (h : isSeg s = false) : numS s = 0 := by unfold numS; rw [if_neg (by rw [h]; decide)]
theorem numS_segN {m : Nat} (h1 : 1 ≤ m) (h2 : m < 10 ^ 12) : numS (segN m) = m := (segN_inj (seg_is (isSeg_segN h1 h2)).2.2).symm
theorem mineS_num (n k : Nat) (s : ByteArray) : mineS n k s = decide (numS s = 0 ∨ (n ≤ numS s ∧ numS s < n + k)) := by
  unfold mineS
  cases h : isSeg s with
  | false => rw [numS_zero h]; simp
  | true =>
    obtain ⟨h1, h2, h3⟩ := seg_is h
    rw [Bool.eq_iff_iff]
    simp only [Bool.not_true, Bool.false_or, List.any_eq_true, List.mem_range, decide_eq_true_eq]
    constructor
    · rintro ⟨i, hi, he⟩
      have := sameN_iff.1 he
      rw [h3] at this
      have := segN_inj this
      right
      omega
    · intro h4
      refine ⟨numS s - n, by omega, ?_⟩
      rw [sameN_iff, show n + (numS s - n) = numS s by omega]
      exact h3
theorem trim_seg (m : Nat) : Lib.trimPrefix (segN m).data.toList [108, 111, 103, 45] = digN m := by
  have e : (segN m).data.toList = [108, 111, 103, 45] ++ digN m := by simp [segN]
  rw [e]
  unfold Lib.trimPrefix Lib.hasPrefix
  simp
theorem decFrom_snoc (l : List UInt8) (x : UInt8) : ∀ acc, Lib.decFrom acc (l ++ [x]) = (Lib.decFrom acc l).bind fun v => (Lib.digitVal x).map fun d => v * 10 + d := by
  induction l with
  | nil => intro acc; simp only [List.nil_append, Lib.decFrom, Option.bind_some]; cases Lib.digitVal x <;> rfl
  | cons a t ih =>
    intro acc
    simp only [List.cons_append, Lib.decFrom]
    cases Lib.digitVal a with
    | none => rfl
    | some d => exact ih _
theorem decFrom_dig (m : Nat) : Lib.decFrom 0 (digN m) = some m := by
  induction m using Nat.strongRecOn with
  | ind m ih =>
    by_cases h0 : m = 0
    · subst h0; rfl
    · rw [digN_step m h0, decFrom_snoc, ih (m / 10) (by omega)]
      have e : (UInt8.ofNat (48 + m % 10)).toNat = 48 + m % 10 := by simp; omega
      have hv : Lib.digitVal (UInt8.ofNat (48 + m % 10)) = some (m % 10) := by
        unfold Lib.digitVal
        rw [e, if_pos (by omega)]
        simp
      rw [hv]
      simp
      omega
theorem atoi_dig (m : Nat) (h1 : 1 ≤ m) (h2 : m < 10 ^ 12) : Lib.atoiAll (digN m) = .ok (m : Int) := by
  have hl : (digN m).length ≤ 12 := digF_len (m + 1) m 12 h2
  rw [Lib.atoiAll_short _ (by omega)]
  obtain ⟨x, l, hx, _⟩ := digF_head (m + 1) m (by omega) (by omega)
  have hd : digN m = x :: l := hx
  have ha := digF_all (m + 1) m x (by rw [hx]; simp)
  have hn : Lib.decNat (x :: l) = some m := by
    unfold Lib.decNat
    rw [if_neg (by simp), ← hd]
    exact decFrom_dig m
  have n45 : ¬ (x == 45) = true := by intro e; rw [beq_iff_eq] at e; rw [e] at ha; exact absurd ha.1 (by decide)
  have n43 : ¬ (x == 43) = true := by intro e; rw [beq_iff_eq] at e; rw [e] at ha; exact absurd ha.1 (by decide)
  rw [hd]
  have he : Lib.atoi (x :: l) = some (m : Int) := by
    show (if (x == 45) = true then _ else if (x == 43) = true then _ else (Lib.decNat (x :: l)).map _) = _
    rw [if_neg n45, if_neg n43, hn]
    rfl
  rw [he]
  rfl
theorem not_seg {s : ByteArray} (h : ∀ m : Nat, 1 ≤ m → m < 10 ^ 12 → Lib.atoiAll (Lib.trimPrefix s.data.toList [108, 111, 103, 45]) = .ok (m : Int) → s ≠ segN m) : numS s = 0 := by
  cases hs : isSeg s with
  | false => exact numS_zero hs
  | true =>
    obtain ⟨h1, h2, h3⟩ := seg_is hs
    exfalso
    refine h (numS s) h1 h2 ?_ h3
    conv => lhs; rw [h3]
    rw [trim_seg]
    exact atoi_dig _ h1 h2
theorem yes_seg {s : ByteArray} (h16 : s.size ≤ 16) {m : Nat} (h1 : 1 ≤ m) (he : s = segN m) : numS s = m := by
  by_cases h2 : m < 10 ^ 12
  · rw [he]; exact numS_segN h1 h2
  · exfalso
    have := digF_big 12 (m + 1) m (by omega) (by omega)
    have h3 := segN_size m
    rw [← he] at h3
    unfold digN at h3
    omega
end Go.Proofs.YtbdhhmhlcdganaaGreatDoor
namespace Go.Proofs.YtbdhhmhlcdganaaGreatDoor
open Go.RowKit
set_option linter.unusedVariables false
set_option maxRecDepth 100000

theorem str_app (a b : List UInt8) : (⟨a.toArray⟩ : ByteArray) ++ ⟨b.toArray⟩ = ⟨(a ++ b).toArray⟩ := by
  apply ByteArray.ext
  simp [ByteArray.data_append]
end Go.Proofs.YtbdhhmhlcdganaaGreatDoor
namespace Go.Proofs.YtbdhhmhlcdganaaGreatDoor
open Go.RowKit
set_option linter.unusedVariables false
set_option maxRecDepth 100000

theorem below_grow {w : World} (k : Nat) (os : Array Obj) : Below w.heap.size w (Go.Sort.grow (w.drewN k) os) := ⟨rfl, rfl, rfl, by simp [Go.Sort.grow], fun i hi => by
  show (w.heap ++ os)[i]? = _
  rw [Array.getElem?_append, if_pos hi]⟩
theorem itoa_any (m : Nat) (h1 : 1 ≤ m) (h2 : m ≤ 9223372036854775807) (w : World) (gl : Gl w) : Calls Tryz.prog 76 #[.int .i64 (m : Nat)] w fun e w' => e = .returned (.string ⟨(digN m).toArray⟩) ∧ Below w.heap.size w w' := by
  refine (Any.strconv_Itoa Tryz.itoaAll (m : Int) (by omega) (by omega) w (gl.is (by kernel_rfl))).mono ?_
  rintro e w' ⟨he, k, os, rfl⟩
  rw [itoa_dig m h1] at he
  exact ⟨he, below_grow k os⟩
theorem atoi_any (s : ByteArray) (hs : s.size ≤ 281474976710656) (w : World) (gl : Gl w) : Calls Tryz.prog 108 #[.string s] w fun e w' => ((∃ v : Int, Lib.atoiAll s.data.toList = .ok v ∧ e = .returned (.tuple #[.int .i64 v, .nilIface])) ∨ (∃ (n : Int) (t : TypeId) (p : Addr), (∀ v, Lib.atoiAll s.data.toList ≠ .ok v) ∧ e = .returned (.tuple #[.int .i64 n, .iface t (.pointer (some p))]))) ∧ Below w.heap.size w w' := by
  cases h : Lib.atoiAll s.data.toList with
  | ok v =>
    refine (Any.strconv_Atoi_ok Tryz.atoiAll s (by omega) v h w).mono ?_
    rintro e w' ⟨he, hw⟩
    refine ⟨.inl ⟨v, rfl, he⟩, ?_⟩
    rcases hw with rfl | ⟨t, rfl⟩
    · exact Below.refl _ _
    · exact Lib.bytesWorld_below w _ _
  | range =>
    obtain ⟨ev, h1, h2⟩ := gl.rng
    refine (Any.strconv_Atoi_range Tryz.atoiAll s hs h ev w h1 h2).mono ?_
    rintro e w' ⟨N, he, _, _, hb⟩
    exact ⟨.inr ⟨_, _, _, (fun v h9 => by cases h9), he⟩, hb⟩
  | _ =>
    obtain ⟨ev, h1, h2⟩ := gl.syn
    refine (Any.strconv_Atoi_syntax Tryz.atoiAll s hs h ev w h1 h2).mono ?_
    rintro e w' ⟨N, he, _, _, hb⟩
    exact ⟨.inr ⟨_, _, _, (fun v h9 => by cases h9), he⟩, hb⟩
theorem trimPrefix_any (s p : ByteArray) (w : World) : Calls Tryz.prog 109 #[.string s, .string p] w fun e w' => e = .returned (.string ⟨(Lib.trimPrefix s.data.toList p.data.toList).toArray⟩) ∧ w' = w :=
  Any.strings_TrimPrefix Tryz.trimPre s p w
theorem file_any (m : Nat) (b : Int) (h1 : 1 ≤ m) (h2 : m ≤ 9223372036854775807) (w : World) (gl : Gl w) : Calls Tryz.prog 50 #[.agg #[.int .i64 (m : Nat), .int .i64 b]] w fun e w' => e = .returned (.string (segN m)) ∧ Below w.heap.size w w' := by
  have HG := Lib.hid gl
  have HB := Lib.hid (bel_alloc w (.cells #[.int .i64 (m : Nat), .int .i64 b] 67))
  have HI := Lib.hid (itoa_any m h1 h2 _ (HG.out.below HB.out))
  clear gl
  go_enter Tryz.func50, Tryz.ntmps50
  go_wp2_with fail
  refine HI.out.mono ?_
  rintro e w1 ⟨rfl, b1⟩
  have hs : (⟨#[108, 111, 103, 45]⟩ : ByteArray) ++ ⟨(digN m).toArray⟩ = segN m := str_app [108, 111, 103, 45] (digN m)
  have hl : (digN m).length ≤ 19 := digF_len _ m 19 (by omega)
  have hsz : ¬ 9223372036854775807 < (⟨#[108, 111, 103, 45]⟩ : ByteArray).size + (⟨(digN m).toArray⟩ : ByteArray).size := by simp [ByteArray.size]; omega
  clear hl
  have b2 := HB.out.trans (b1.mono HB.out.size)
  go_wp2
  go_ret
  exact ⟨rfl, b2⟩
theorem trim_size (s : ByteArray) (p : List UInt8) : (Lib.trimPrefix s.data.toList p).length ≤ s.size := by
  have h : s.data.toList.length = s.size := by rw [Array.length_toList]; rfl
  unfold Lib.trimPrefix
  split
  · rw [List.length_drop]; omega
  · omega
theorem segOf_any (s : ByteArray) (h16 : s.size ≤ 16) (w : World) (gl : Gl w) : Calls Tryz.prog 73 #[.string s] w fun e w' => e = .returned (.int .i64 (numS s : Nat)) ∧ Below w.heap.size w w' := by
  have HG := Lib.hid gl
  have HT : Hid (Calls Tryz.prog 109 #[.string s, .string ⟨#[108, 111, 103, 45]⟩] w fun e w' => e = .returned (.string ⟨(Lib.trimPrefix s.data.toList [108, 111, 103, 45]).toArray⟩) ∧ w' = w) := Lib.hid (trimPrefix_any s ⟨#[108, 111, 103, 45]⟩ w)
  obtain ⟨T, hT⟩ : ∃ T, Lib.trimPrefix s.data.toList [108, 111, 103, 45] = T := ⟨_, rfl⟩
  have hTl : T.length ≤ 16 := by rw [← hT]; exact Nat.le_trans (trim_size s _) h16
  rw [hT] at HT
  have HNO : Hid ((∀ m : Nat, 1 ≤ m → m < 10 ^ 12 → Lib.atoiAll T = .ok (m : Int) → s ≠ segN m) → numS s = 0) := Lib.hid (by rw [← hT]; exact not_seg)
  have HYES : Hid (∀ m : Nat, 1 ≤ m → s = segN m → numS s = m) := Lib.hid (fun m h1 he => yes_seg h16 h1 he)
  have HA := Lib.hid (atoi_any ⟨T.toArray⟩ (by simp [ByteArray.size]; omega) w gl)
  have HTT : Hid ((⟨T.toArray⟩ : ByteArray).data.toList = T) := Lib.hid (by simp)
  rw [HTT.out] at HA
  obtain ⟨N, hN⟩ : ∃ N, numS s = N := ⟨_, rfl⟩
  rw [hN] at HNO HYES ⊢
  clear gl hT hTl hN
  go_enter Tryz.func73, Tryz.ntmps73
  go_wp2_with fail
  refine HT.out.mono ?_
  rintro e w1 ⟨rfl, hw⟩
  rw [hw]
  clear hw HT
  go_wp2_with fail
  refine HA.out.mono ?_
  rintro e w2 ⟨hor, b2⟩
  have HB2 := Lib.hid b2
  have HG2 := Lib.hid (HG.out.below b2)
  clear b2 HA
  rcases hor with ⟨v, hv, rfl⟩ | ⟨n, t, p, hno, rfl⟩
  · have HV := Lib.hid hv
    clear hv
    by_cases h1 : v < 1
    · have h0 : N = 0 := HNO.out fun m hm _ he => by
        rw [HV.out] at he
        injection he with he
        omega
      subst h0
      clear HNO HYES HV
      go_wp2
      go_ret
      exact ⟨rfl, HB2.out⟩
    · obtain ⟨m, rfl⟩ : ∃ m : Nat, v = (m : Int) := ⟨v.toNat, by omega⟩
      have hvb := Lib.atoiAll_bounds HV.out
      have HF := Lib.hid (file_any m 0 (by omega) (by omega) w2 HG2.out)
      by_cases he : s = segN m
      · have hN : N = m := HYES.out m (by omega) he
        subst hN
        have hb : (s.toList == (segN N).toList) = true := by rw [he]; simp
        clear HNO HYES HV he
        go_wp2_with fail
        refine HF.out.mono ?_
        rintro e w3 ⟨rfl, b3⟩
        have HB3 := Lib.hid (HB2.out.trans (b3.mono HB2.out.size))
        clear b3
        go_wp2
        go_ret
        exact ⟨rfl, HB3.out⟩
      · have h0 : N = 0 := HNO.out fun k hk _ hk2 => by
          rw [HV.out] at hk2
          injection hk2 with hk2
          obtain rfl : k = m := by omega
          exact he
        subst h0
        have hb : (s.toList == (segN m).toList) = false := by
          cases hx : (s.toList == (segN m).toList) with
          | false => rfl
          | true => exact absurd (sameN_iff.1 hx) he
        clear HNO HYES HV he
        go_wp2_with fail
        refine HF.out.mono ?_
        rintro e w3 ⟨rfl, b3⟩
        have HB3 := Lib.hid (HB2.out.trans (b3.mono HB2.out.size))
        clear b3
        go_wp2
        go_ret
        exact ⟨rfl, HB3.out⟩
  · have h0 : N = 0 := HNO.out fun m hm _ he => absurd he (hno m)
    subst h0
    clear HNO HYES hno
    go_wp2
    go_ret
    exact ⟨rfl, HB2.out⟩
end Go.Proofs.YtbdhhmhlcdganaaGreatDoor
namespace Go.Proofs.YtbdhhmhlcdganaaGreatDoor
open Go.RowKit
set_option linter.unusedVariables false

def distI (a b : Int) : Int := max a b - min a b
structure Hd where
  has : Bool
  v : Int
  t : Int
def Hd.zero : Hd := ⟨false, 0, 0⟩
abbrev Pt := Int × Int

def farB7 (d a b : Int) : Bool := decide (max d 0 < distI a b)
def dueB (q t y : Int) : Bool := decide (0 < q) && (decide (t ≤ y) && decide (q ≤ distI y t))
def toldB (d q : Int) (h : Hd) (p : Pt) : Bool := !h.has || (farB7 d p.1 h.v || dueB q h.t p.2)
def stepH (d q : Int) (h : Hd) (p : Pt) : Hd := bif toldB d q h p then ⟨true, p.1, p.2⟩ else h
def endH (d q : Int) (h : Hd) (l : List Pt) : Hd := l.foldl (stepH d q) h
def runP (d q : Int) : Hd → List Pt → List Pt
  | _, [] => []
  | h, p :: l => bif toldB d q h p then p :: runP d q (stepH d q h p) l else runP d q (stepH d q h p) l
def chkB (d q : Int) : Int := if 0 ≤ d ∧ d ≤ 1099511627776 ∧ 0 ≤ q ∧ q ≤ 1099511627776 then 0 else 26

def flP (l : List Pt) : List Int := l.flatMap fun p => [p.1, p.2]
theorem flP_nil : flP [] = [] := rfl
theorem flP_cons (p : Pt) (l : List Pt) : flP (p :: l) = p.1 :: p.2 :: flP l := rfl
theorem flP_append (a b : List Pt) : flP (a ++ b) = flP a ++ flP b := by simp [flP]
theorem flP_len (l : List Pt) : (flP l).length = 2 * l.length := by
  induction l with
  | nil => rfl
  | cons p l ih => rw [flP_cons, List.length_cons, List.length_cons, List.length_cons, ih]; omega
def ptX (l : List Pt) (k : Nat) : Int := (l.getD k (0, 0)).1
def ptY (l : List Pt) (k : Nat) : Int := (l.getD k (0, 0)).2
theorem pt_eq (l : List Pt) (k : Nat) (h : k < l.length) : l[k] = (ptX l k, ptY l k) := by simp [ptX, ptY, List.getD_eq_getElem?_getD, List.getElem?_eq_getElem h]
theorem nth_cons_succ (x : Int) (l : List Int) (i : Nat) : nth (x :: l) (i + 1) = nth l i := rfl
theorem flP_x (l : List Pt) (k : Nat) : nth (flP l) (2 * k) = ptX l k := by
  induction l generalizing k with
  | nil => rfl
  | cons p l ih =>
    cases k with
    | zero => rfl
    | succ k =>
      rw [flP_cons, show 2 * (k + 1) = 2 * k + 1 + 1 by omega, nth_cons_succ, nth_cons_succ, ih]; rfl
theorem flP_y (l : List Pt) (k : Nat) : nth (flP l) (2 * k + 1) = ptY l k := by
  induction l generalizing k with
  | nil => rfl
  | cons p l ih =>
    cases k with
    | zero => rfl
    | succ k =>
      rw [flP_cons, show 2 * (k + 1) + 1 = 2 * k + 1 + 1 + 1 by omega, nth_cons_succ, nth_cons_succ, ih]; rfl
def Pt.Ok (p : Pt) : Prop := (-9223372036854775808 ≤ p.1 ∧ p.1 < 9223372036854775808) ∧ (-9223372036854775808 ≤ p.2 ∧ p.2 < 9223372036854775808)
theorem flP_wf {l : List Pt} (h : ∀ p ∈ l, Pt.Ok p) : ∀ x ∈ flP l, (Lit.int .i64 x).wf = true := by
  intro x hx
  simp only [flP, List.mem_flatMap] at hx
  obtain ⟨p, hp, hx⟩ := hx
  have := h p hp
  simp only [Pt.Ok] at this
  simp only [List.mem_cons, List.not_mem_nil, or_false] at hx
  rcases hx with rfl | rfl <;> (simp [Lit.wf, IntKind.min, IntKind.max, IntKind.signed, IntKind.bits]; omega)
def Hd.Ok (h : Hd) : Prop := Pt.Ok (h.v, h.t)
end Go.Proofs.YtbdhhmhlcdganaaGreatDoor
namespace Go.Proofs.YtbdhhmhlcdganaaGreatDoor
open Go.RowKit
set_option linter.unusedVariables false

theorem Row.pt {w : World} {B : Nat} {A : Option Addr} {l : List Pt} (h : Row .i64 w B A (flP l)) {k : Nat} (hk : k < l.length) :
    ∃ b o, A = some ⟨b, o, none⟩ ∧ b < B ∧ w.cell? ⟨b, o + k * 2, none⟩ = some (.int .i64 (ptX l k)) ∧ w.cell? ⟨b, o + k * 2 + 1, none⟩ = some (.int .i64 (ptY l k)) := by
  have hl := flP_len l
  obtain ⟨b, o, e, hb, hc⟩ := h.2 (by omega)
  refine ⟨b, o, e, hb, ?_, ?_⟩
  · rw [Nat.mul_comm k 2, ← flP_x]; exact hc _ (by omega)
  · rw [Nat.mul_comm k 2, Nat.add_assoc, ← flP_y]; exact hc _ (by omega)
theorem Row.pts_of_block {w : World} {g : Nat} {t : TypeId} {l m : List Pt} (hg : w.heap[g]? = some (.cells (blk .i64 (flP (l ++ m))) t (0, 0))) (hw : ∀ p ∈ l, Pt.Ok p) : Row .i64 w w.heap.size (some ⟨g, 0, none⟩) (flP l) :=
  (Row.of_block hg (flP l) (flP_wf hw) (by rw [flP_append]; exact List.prefix_append _ _)).more (block_lt hg)

def zeroP (n : Nat) : List Pt := List.replicate n (0, 0)
theorem zeroP_succ (n : Nat) : zeroP (n + 1) = (0, 0) :: zeroP n := List.replicate_succ
theorem flP_zero (n : Nat) : flP (zeroP n) = List.replicate (2 * n) 0 := by
  induction n with
  | zero => rfl
  | succ n ih => rw [zeroP_succ, flP_cons, ih, show 2 * (n + 1) = 2 * n + 1 + 1 by omega, List.replicate_succ, List.replicate_succ]
theorem zeroP_len (n : Nat) : (zeroP n).length = n := by simp [zeroP]
theorem made_two (n : Nat) : madeCells (Value.agg #[.int .i64 0, .int .i64 0]).cells (n * 2) = blk .i64 (flP (zeroP n)) := by
  rw [flP_zero]
  have hc : (Value.agg #[.int .i64 0, .int .i64 0]).cells = #[.int .i64 0, .int .i64 0] := rfl
  apply Array.ext
  · rw [size_madeCells, blk_size, List.length_replicate, Nat.mul_comm]
  · intro i h1 h2
    rw [blk_size, List.length_replicate] at h2
    have e1 : (blk .i64 (List.replicate (2 * n) 0))[i] = .int .i64 0 := by simp [blk]
    rw [e1]
    simp only [madeCells, Array.getElem_map, Array.getElem_range, hc]
    have h3 : i % (#[Value.int .i64 0, .int .i64 0] : Array Value).size = i % 2 := rfl
    rw [h3]
    rcases (show i % 2 = 0 ∨ i % 2 = 1 by omega) with h | h <;> rw [h] <;> rfl
theorem zero_two (m : Nat) : Builtin.zeroCells (Value.agg #[.int .i64 0, .int .i64 0]).cells m = blk .i64 (flP (zeroP m)) := by
  rw [← made_two m]; rfl
def marksT : List Pt := [(-77, -77), (-77, -77), (-77, -77), (-77, -77), (-77, -77)]

end Go.Proofs.YtbdhhmhlcdganaaGreatDoor
