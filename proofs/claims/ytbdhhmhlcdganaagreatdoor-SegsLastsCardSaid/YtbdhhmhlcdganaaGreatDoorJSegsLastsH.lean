/-
  Texts of the proof of SegsLasts, joined.
-/
import Derived.Test.YtbdhhmhlcdganaaGreatDoorJSegsLastsG
import Derived.Test.YtbdhhmhlcdganaaGreatDoorJSegsLastsB
import Derived.Test.YtbdhhmhlcdganaaGreatDoorJSegsLastsA
import Derived.Test.YtbdhhmhlcdganaaGreatDoorJSegsLastsC
import Derived.Laws.CopyOwn
import Derived.Test.YtbdhhmhlcdganaaGreatDoorJSegsLastsF
import Derived.Lib.SmallJoins
namespace Go.Proofs.YtbdhhmhlcdganaaGreatDoor
open Go.RowKit
set_option linter.unusedVariables false
set_option maxRecDepth 100000

theorem cntS_take (l : List (List (List Int))) {i : Nat} (h : i < l.length) : cntS (l.take (i + 1)) = cntS (l.take i) + l[i].length := by
  rw [List.take_succ_eq_append_getElem h, cntS_append]
  simp [cntS]
theorem flat_at (l : List (List (List Int))) {i j : Nat} (h : i < l.length) (hj : j < l[i].length) : l.flatten.getD (cntS (l.take i) + j) [] = nthB l[i] j := by
  have e : l.flatten = (l.take i).flatten ++ (l[i] ++ (l.drop (i + 1)).flatten) := by
    conv => lhs; rw [← List.take_append_drop i l, List.flatten_append, List.drop_eq_getElem_cons h, List.flatten_cons]
  have hc : cntS (l.take i) = (l.take i).flatten.length := cntS_flat _
  rw [e, hc, List.getD_eq_getElem?_getD, List.getElem?_append_right (by omega), Nat.add_sub_cancel_left, List.getElem?_append_left hj]
  unfold nthB
  rw [List.getD_eq_getElem?_getD]
section
variable {D : DevP} {w w' : World} {G : Nat → Prop} {g q : Nat} {d : Dv} {l : Lg} {Gd Gg : Nat → Prop} {sv gv : Value} {gs : List (List Int)}
theorem holder14 (h : LgK D w G g q d l Gd Gg sv gv gs) (ha : SgBd l) (n : Nat) (h1 : l.first ≤ n) (h2 : n < nextG l) :
    Calls Tryz.prog 65 #[.pointer (some ⟨q, 0, none⟩), .int .i64 (n : Nat)] w fun e w' => ∃ i : Nat, e = .returned (.int .i64 (i : Nat)) ∧ w = w' ∧ i < l.segs.length ∧ l.first + cntS (l.segs.take i) ≤ n ∧ n < l.first + cntS (l.segs.take (i + 1)) := by
  obtain ⟨A, c, rfl, hr, hc, hm⟩ := h.slice ha
  obtain ⟨_, _, _, c3, _⟩ := h.cell
  have hfew := ha.few
  have hp : 0 < l.segs.length := by
    apply Nat.pos_of_ne_zero
    intro e
    have : l.segs = [] := List.length_eq_zero_iff.1 e
    unfold nextG at h2
    rw [this] at h2
    simp [cntS] at h2
    omega
  have HR : Hid (∀ i, i < l.segs.length → ∃ b o, A = some ⟨b, o, none⟩ ∧ w.cell? ⟨b, o + i * 2 + 1, none⟩ = some (.int .i64 ((l.first + cntS (l.segs.take i) : Nat) : Int))) := Lib.hid fun i hi => by
    obtain ⟨b, o, e, _, _, p2⟩ := hr.pt (k := i) (by rw [segL_len]; omega)
    obtain ⟨_, e2⟩ := segL_at l.n l.first l.segs hi
    rw [e2] at p2
    exact ⟨b, o, e, p2⟩
  have H0 : Hid (cntS (l.segs.take 0) = 0) := Lib.hid (by simp [cntS])
  have HNX : Hid (n < l.first + cntS (l.segs.take l.segs.length)) := Lib.hid (by rw [List.take_length]; exact h2)
  obtain ⟨m, hm0⟩ : ∃ m, l.segs.length = m := ⟨_, rfl⟩
  rw [hm0] at c3 hc hp HR HNX hfew ⊢
  generalize hB : (fun i => l.first + cntS (l.segs.take i)) = B at *
  have HB : Hid (∀ i, l.first + cntS (l.segs.take i) = B i) := Lib.hid fun i => by rw [← hB]
  simp only [HB.out] at HR HNX ⊢
  have HB0 : Hid (B 0 ≤ n) := Lib.hid (by rw [← HB.out, H0.out]; omega)
  have hnx := ha.nxt
  clear h ha hr hm h2 H0 hm0 hB
  have hw1 : IntKind.i64.wrap ((m : Int) - 1) = ((m - 1 : Nat) : Int) := by rw [IntKind.wrap_i64]; omega
  go_enter Tryz.func65, Tryz.ntmps65
  go_wp2
  go_loop [5] (fun i => ∃ k : Nat, k < m ∧ i = .int .i64 (k : Int) ∧ Hid (n < B (k + 1))) (fun i => (intOf i).toNat)
  case atStart => exact ⟨m - 1, by omega, rfl, Lib.hid (by rw [show m - 1 + 1 = m by omega]; exact HNX.out)⟩
  case round =>
    obtain ⟨k, hk, rfl, hlt⟩ := hrel
    obtain ⟨b, o, rfl, p2⟩ := HR.out k hk
    by_cases hgt : (B k : Int) > (n : Int)
    · have hk0 : k ≠ 0 := fun e => by subst e; have := HB0.out; omega
      have hw2 : IntKind.i64.wrap ((k : Int) - 1) = ((k - 1 : Nat) : Int) := by rw [IntKind.wrap_i64]; omega
      go_wp2
      go_round
      case rel => exact ⟨k - 1, by omega, rfl, Lib.hid (by rw [show k - 1 + 1 = k by omega]; omega)⟩
      case measure => simp [intOf]; omega
    · go_wp2
      go_ret
      exact ⟨k, rfl, rfl, hk, by omega, hlt.out⟩
theorem read14 (Y : DevOkG D) (h : LgK D w G g q d l Gd Gg sv gv gs) (ha : SgAt d l gs.length) (i : Nat) (hi : i < l.segs.length) :
    Calls Tryz.prog 67 #[.pointer (some ⟨q, 0, none⟩), .int .i64 (i : Nat)] w fun e w' => ∃ A c, e = .returned (.slice A (ckAll l.segs[i]).length c) ∧ Row .u8 w' w'.heap.size A (ckAll l.segs[i]) ∧ (ckAll l.segs[i]).length ≤ c ∧ Below w.heap.size w w' := by
  have hfew := ha.few
  obtain ⟨Ag, cg, hgv, hgone⟩ := h.gone
  subst hgv
  have hbg := hgone (fun _ => False) w (Frm.refl _ _) (fun _ _ e => e)
  by_cases hlt : i < gs.length
  · have hgi : nthB gs i = ckAll l.segs[i] := by
      rw [nthB_eq _ _ hlt]
      have e := h.gis
      have h1 : gs[i]? = ((l.segs.take gs.length).map ckAll)[i]? := by rw [← e]
      rw [List.getElem?_eq_getElem hlt, List.getElem?_map, List.getElem?_take_of_lt hlt, List.getElem?_eq_getElem hi] at h1
      injection h1
    obtain ⟨b, o, Ai, ci, rfl, hb, c1, hr, hc, hm⟩ := hbg.at_ hlt
    rw [hgi] at c1 hr hc
    have c7 := h.cell.2.2.2.2.2.2.2
    have hgl : gs.length ≤ 64 := by
      have := congrArg List.length h.gis
      rw [List.length_map, List.length_take] at this
      omega
    have HR := Lib.hid hr
    have HC := Lib.hid hc
    generalize ckAll l.segs[i] = bs at *
    generalize gs.length = m at *
    have i1 : (i : Int) < (m : Int) := by omega
    clear h ha hgone hbg hr hc hm hgi
    go_enter Tryz.func67, Tryz.ntmps67
    go_wp2
    go_ret
    exact ⟨Ai, ci, rfl, HR.out, HC.out, Below.refl _ _⟩
  · obtain ⟨A, c, rfl, hr, hc, hm⟩ := h.slice ha.bd
    obtain ⟨c0, _, _, c3, _, _, _, c7⟩ := h.cell
    obtain ⟨b, o, rfl, hb, p1, p2⟩ := hr.pt (k := i) (by rw [segL_len]; omega)
    obtain ⟨e1, e2⟩ := segL_at l.n l.first l.segs hi
    rw [e1] at p1
    rw [e2] at p2
    obtain ⟨y, hy⟩ := ha.rd i hi (by omega)
    have hn1 := ha.n1
    have hn2 := ha.n2
    have HFI : Hid (∀ W, Below w.heap.size w W → Calls Tryz.prog 50 #[.agg #[.int .i64 ((l.n + i : Nat) : Int), .int .i64 ((l.first + cntS (l.segs.take i) : Nat) : Int)]] W fun e w' => e = .returned (.string (segN (l.n + i))) ∧ Below w.heap.size w w' ∧ w'.cell? ⟨q, 0, none⟩ = some (.pointer (some ⟨g, 0, none⟩)) ∧ w'.cell? ⟨q, 3, none⟩ = some (.slice (some ⟨b, o, none⟩) l.segs.length c) ∧ w'.cell? ⟨b, o + i * 2, none⟩ = some (.int .i64 ((l.n + i : Nat) : Int)) ∧ w'.cell? ⟨b, o + i * 2 + 1, none⟩ = some (.int .i64 ((l.first + cntS (l.segs.take i) : Nat) : Int))) := Lib.hid fun W hW => by
      refine (file_any (l.n + i) _ (by omega) (by omega) W ((Y.dev.gl h.dev).below hW)).mono ?_
      rintro e w' ⟨he, hb'⟩
      have hb2 := hW.trans (hb'.mono hW.size)
      obtain ⟨x0, _, _, x3, _⟩ := (h.below Y.dev hb2).cell
      exact ⟨he, hb2, x0, x3, (hb2.cell (p := ⟨b, o + i * 2, none⟩) hb).trans p1, (hb2.cell (p := ⟨b, o + i * 2 + 1, none⟩) hb).trans p2⟩
    have HRD : Hid (∀ W, Below w.heap.size w W → Calls Tryz.prog 69 #[.pointer (some ⟨g, 0, none⟩), .string (segN (l.n + i))] W fun e w' => ∃ A' c', e = .returned (.tuple #[.slice A' (ckAll l.segs[i]).length c', .int .i64 0]) ∧ (w'.cell? ⟨q, 0, none⟩ = some (.pointer (some ⟨g, 0, none⟩)) ∧ w'.cell? ⟨q, 3, none⟩ = some (.slice (some ⟨b, o, none⟩) l.segs.length c) ∧ w'.cell? ⟨b, o + i * 2, none⟩ = some (.int .i64 ((l.n + i : Nat) : Int)) ∧ w'.cell? ⟨b, o + i * 2 + 1, none⟩ = some (.int .i64 ((l.first + cntS (l.segs.take i) : Nat) : Int))) ∧ Row .u8 w' w'.heap.size A' (ckAll l.segs[i]) ∧ (ckAll l.segs[i]).length ≤ c' ∧ Below w.heap.size w w') := Lib.hid fun W hW => by
      have h2 := h.below Y.dev hW
      refine (Y.read (segN (l.n + i)) h2.dev ha.ok).mono ?_
      rintro e w' ⟨v, he, hv, hb'⟩
      have e1 : readE d (segN (l.n + i)) = 0 := by rw [readE_lk, hy]; rfl
      have e2 : readL d (segN (l.n + i)) = ckAll l.segs[i] := by rw [readL_lk, hy]; rfl
      rw [e1] at he
      rw [e2] at hv
      have hb2 := hW.trans (hb'.mono hW.size)
      obtain ⟨x0, _, _, x3, _⟩ := (h.below Y.dev hb2).cell
      obtain ⟨A', c', rfl, r1, r2, r3⟩ := hv.own.row (fun x hx => lk_wf ha.ok hy x hx)
      exact ⟨A', c', he, ⟨x0, x3, (hb2.cell (p := ⟨b, o + i * 2, none⟩) hb).trans p1, (hb2.cell (p := ⟨b, o + i * 2 + 1, none⟩) hb).trans p2⟩, r1, r2, hb2⟩
    generalize ckAll l.segs[i] = bs at *
    generalize gs.length = m at *
    generalize hN : l.n + i = N at *
    generalize hB : l.first + cntS (l.segs.take i) = B at *
    generalize l.segs.length = k at *
    have i1 : ¬ (i : Int) < (m : Int) := by omega
    have bd := below_drew (Below.refl w.heap.size w)
    have t0 : w.drew.cell? ⟨q, 0, none⟩ = some (.pointer (some ⟨g, 0, none⟩)) := c0
    have t3 : w.drew.cell? ⟨q, 3, none⟩ = some (.slice (some ⟨b, o, none⟩) k c) := c3
    have t4 : w.drew.cell? ⟨b, o + i * 2, none⟩ = some (.int .i64 (N : Nat)) := p1
    have t5 : w.drew.cell? ⟨b, o + i * 2 + 1, none⟩ = some (.int .i64 (B : Nat)) := p2
    clear h ha hgone hbg hr hc hm e1 e2 hy hN hB
    go_enter Tryz.func67, Tryz.ntmps67
    go_wp2
    go_region_held3 (fun w9 => w9.cell? ⟨q, 0, none⟩ = some (.pointer (some ⟨g, 0, none⟩)) ∧ w9.cell? ⟨q, 3, none⟩ = some (.slice (some ⟨b, o, none⟩) k c) ∧ w9.cell? ⟨b, o + i * 2, none⟩ = some (.int .i64 (N : Nat)) ∧ w9.cell? ⟨b, o + i * 2 + 1, none⟩ = some (.int .i64 (B : Nat))) (exact ⟨by assumption, by assumption, by assumption, by assumption⟩) (first
      | (go_at_call 50; refine (HFI.out _ bd).mono ?_; rintro e w2 ⟨rfl, b2, u0, u1, u2, u3⟩)
      | (go_at_call 69; refine (HRD.out _ b2).mono ?_; rintro e w3 ⟨A', c', rfl, ⟨v0, v1, v2, v3⟩, r1, r2, b3⟩; have HR1 := Lib.hid r1; have HR2 := Lib.hid r2; have HB3 := Lib.hid b3; clear r1 r2 b3)
      | fail)
    go_wp2
    go_ret
    exact ⟨A', c', rfl, HR1.out, HR2.out, HB3.out⟩
theorem get14 (Y : DevOkG D) (h : LgK D w G g q d l Gd Gg sv gv gs) (ha : SgAt d l gs.length) (n : Int) (hn : -9223372036854775808 ≤ n ∧ n < 9223372036854775808) :
    Calls Tryz.prog 31 #[.pointer (some ⟨q, 0, none⟩), .int .i64 n] w fun e w' => ∃ v, e = .returned (.tuple #[v, .int .i64 (getE14 l n)]) ∧ KOwn .u8 5 w' w.heap.size v (getG l n) ∧ Below w.heap.size w w' := by
  have HFS := Lib.hid (first14 h)
  by_cases h1 : n < (l.first : Int)
  · have e1 : getE14 l n = 31 := if_pos h1
    have e2 : getG l n = [] := by unfold getG; rw [if_neg (by rw [e1]; decide)]
    rw [e1, e2]
    clear h ha e1 e2
    go_enter Tryz.func31, Tryz.ntmps31
    go_wp2_with fail
    refine HFS.out.mono ?_
    rintro e w1 ⟨rfl, b1⟩
    have B1 := Lib.hid b1
    clear b1
    go_wp2
    go_ret2
    exact ⟨_, rfl, KOwn.nil _ _ _ _, B1.out⟩
  have HC5 : Hid (∀ W, Below w.heap.size w W → W.cell? ⟨q, 5, none⟩ = some (.int .i64 (nextG l : Nat))) := Lib.hid fun W hW => (h.below Y.dev hW).cell.2.2.2.2.2.1
  by_cases h2 : (nextG l : Int) ≤ n
  · have e1 : getE14 l n = 6 := by unfold getE14; rw [if_neg h1, if_pos h2]
    have e2 : getG l n = [] := by unfold getG; rw [if_neg (by rw [e1]; decide)]
    rw [e1, e2]
    have i2 : n ≥ (nextG l : Int) := h2
    clear h ha e1 e2 h2
    go_enter Tryz.func31, Tryz.ntmps31
    go_wp2_with fail
    refine HFS.out.mono ?_
    rintro e w1 ⟨rfl, b1⟩
    have c5 := HC5.out w1 b1
    have B1 := Lib.hid b1
    clear b1
    go_wp2
    go_ret2
    exact ⟨_, rfl, KOwn.nil _ _ _ _, B1.out⟩
  obtain ⟨n, rfl⟩ : ∃ m : Nat, n = (m : Int) := ⟨n.toNat, by omega⟩
  have e1 : getE14 l (n : Int) = 0 := by unfold getE14; rw [if_neg h1, if_neg h2]
  have e2 : getG l (n : Int) = l.segs.flatten.getD (n - l.first) [] := by
    unfold getG
    rw [if_pos e1]
    congr 1
    omega
  rw [e1, e2]
  have HHO : Hid (∀ W, Below w.heap.size w W → Calls Tryz.prog 65 #[.pointer (some ⟨q, 0, none⟩), .int .i64 (n : Nat)] W fun e w' => ∃ i : Nat, e = .returned (.int .i64 (i : Nat)) ∧ W = w' ∧ i < l.segs.length ∧ l.first + cntS (l.segs.take i) ≤ n ∧ n < l.first + cntS (l.segs.take (i + 1))) := Lib.hid fun W hW => holder14 (h.below Y.dev hW) ha.bd n (by omega) (by omega)
  have HRD : Hid (∀ W i (hi : i < l.segs.length), Below w.heap.size w W → Calls Tryz.prog 67 #[.pointer (some ⟨q, 0, none⟩), .int .i64 (i : Nat)] W fun e w' => ∃ A c, e = .returned (.slice A (ckAll l.segs[i]).length c) ∧ Row .u8 w' w'.heap.size A (ckAll l.segs[i]) ∧ (ckAll l.segs[i]).length ≤ c ∧ Below w.heap.size w w') := Lib.hid fun W i hi hW => by
    refine (read14 Y (h.below Y.dev hW) ha i hi).mono ?_
    rintro e w' ⟨A, c, he, hr, hc, hb⟩
    exact ⟨A, c, he, hr, hc, hW.trans (hb.mono hW.size)⟩
  have HSC : Hid (∀ W A c i (hi : i < l.segs.length), Below w.heap.size w W → Row .u8 W W.heap.size A (ckAll l.segs[i]) → (ckAll l.segs[i]).length ≤ c → Calls Tryz.prog 66 #[.slice A (ckAll l.segs[i]).length c] W fun e w' => ∃ A' c', e = .returned (.tuple #[.slice A' l.segs[i].length c', .int .i64 ((ckAll l.segs[i]).length : Nat)]) ∧ LOwn w' w.heap.size (.slice A' l.segs[i].length c') l.segs[i] ∧ Below w.heap.size w w') := Lib.hid fun W A c i hi hW hr hc => by
    have hb := ha.byt _ (List.getElem_mem hi)
    have hs := ckScan_whole l.segs[i] (fun p hp => (ha.mem _ (List.getElem_mem hi) p hp).1)
    refine (chScan_any A _ c (ckAll l.segs[i]) W hr rfl hc (by omega)).mono ?_
    rintro e w' ⟨v, he, hv, hb'⟩
    rw [hs] at he hv
    obtain ⟨A', c', rfl, _⟩ := hv.len
    exact ⟨A', c', he, hv.mono hW.size, hW.trans (hb'.mono hW.size)⟩
  have HSL : Hid (∀ W i, Below w.heap.size w W → i < l.segs.length → ∃ b o c, W.cell? ⟨q, 3, none⟩ = some (.slice (some ⟨b, o, none⟩) l.segs.length c) ∧ W.cell? ⟨b, o + i * 2 + 1, none⟩ = some (.int .i64 ((l.first + cntS (l.segs.take i) : Nat) : Int))) := Lib.hid fun W i hW hi => by
    have h2 := h.below Y.dev hW
    obtain ⟨A, c, rfl, hr, hc, hm⟩ := h2.slice ha.bd
    obtain ⟨_, _, _, c3, _⟩ := h2.cell
    obtain ⟨b, o, rfl, hb, p1, p2⟩ := hr.pt (k := i) (by rw [segL_len]; omega)
    obtain ⟨_, e2⟩ := segL_at l.n l.first l.segs hi
    rw [e2] at p2
    exact ⟨b, o, c, c3, p2⟩
  have HFL : Hid (∀ i j (hi : i < l.segs.length) (hj : j < l.segs[i].length), n = l.first + cntS (l.segs.take i) + j → l.segs.flatten.getD (n - l.first) [] = nthB l.segs[i] j) := Lib.hid fun i j hi hj e => by
    rw [← flat_at l.segs hi hj]
    congr 1
    omega
  have HCT : Hid (∀ i (hi : i < l.segs.length), cntS (l.segs.take (i + 1)) = cntS (l.segs.take i) + l.segs[i].length) := Lib.hid fun i hi => cntS_take l.segs hi
  have HLN : Hid (∀ i (hi : i < l.segs.length), l.segs[i].length ≤ 16777216) := Lib.hid fun i hi => by
    have h8 := ha.byt _ (List.getElem_mem hi)
    have h9 := ckAll_len_ge l.segs[i]
    omega
  have hfew := ha.few
  have hnx := ha.nxt
  have i2 : ¬ (n : Int) ≥ (nextG l : Int) := by omega
  generalize l.segs.flatten.getD (n - l.first) [] = P at *
  clear h ha e1 e2 h2
  go_enter Tryz.func31, Tryz.ntmps31
  go_wp2_with fail
  refine HFS.out.mono ?_
  rintro e w1 ⟨rfl, b1⟩
  have c5 := HC5.out w1 b1
  go_wp2_with fail
  refine (HHO.out w1 b1).mono ?_
  rintro e w2 ⟨i, rfl, hw, hi, k1, k2⟩
  subst hw
  rw [HCT.out i hi] at k2
  have HR1 := Lib.hid (HRD.out w1 i hi b1)
  obtain ⟨j, hj⟩ : ∃ j, Hid (n = l.first + cntS (l.segs.take i) + j) := ⟨n - (l.first + cntS (l.segs.take i)), Lib.hid (by omega)⟩
  have hjl : j < l.segs[i].length := by have := hj.out; omega
  have HPJ := Lib.hid (HFL.out i j hi hjl hj.out)
  have hjb := HLN.out i hi
  clear k1 k2
  go_wp2_with fail
  refine HR1.out.mono ?_
  rintro e w3 ⟨A3, c3, rfl, r3, lc3, b3⟩
  have HS3 := Lib.hid (HSC.out w3 A3 c3 i hi b3 r3 lc3)
  clear r3 lc3 HR1
  go_wp2_with fail
  refine HS3.out.mono ?_
  rintro e w4 ⟨A4, c4, rfl, o4, b4⟩
  obtain ⟨b, o, cs, x3, x5⟩ := HSL.out w4 i b4 hi
  obtain ⟨gg, u, rfl, hg1, hg2, cu, ku, _⟩ := o4.at_ hjl
  rw [← HPJ.out] at ku
  have KU := Lib.hid ku
  have B4 := Lib.hid b4
  have OKV : ∃ Au cu', u = .slice Au P.length cu' := by
    rcases ku with ⟨rfl, h9⟩ | ⟨g9, n9, cap9, r9, rfl, _, h9, _⟩
    · rw [h9]; exact ⟨_, _, rfl⟩
    · subst h9; exact ⟨_, _, rfl⟩
  clear ku b4 o4 HS3 HPJ HHO HRD HSC HSL HFL HCT HLN HC5 HFS
  generalize hBB : l.first + cntS (l.segs.take i) = BB at *
  generalize l.segs[i].length = L at *
  obtain ⟨k, hk⟩ : ∃ k, Hid (l.segs.length = k) := ⟨_, Lib.hid rfl⟩
  rw [hk.out] at x3
  have i7 : i < k := by rw [← hk.out]; exact hi
  have w1' : IntKind.i64.wrap ((n : Int) - (BB : Int)) = (j : Int) := by have := hj.out; rw [IntKind.wrap_i64]; omega
  have i5 : ¬ (j : Int) ≥ (L : Int) := by omega
  have i6 : (j : Int) < (L : Int) := by omega
  obtain ⟨Au, cu', rfl⟩ := OKV
  clear hBB hj
  go_wp2
  go_ret2
  exact ⟨_, rfl, KU.out, B4.out⟩
end
end Go.Proofs.YtbdhhmhlcdganaaGreatDoor
namespace Go.Proofs.YtbdhhmhlcdganaaGreatDoor
open Go.RowKit
set_option linter.unusedVariables false
structure Parts (w : World) (B gl m : Nat) (A : Nat → Option Addr) (n c : Nat → Nat) (l r : Nat → List Int) : Prop where
  at_ : ∀ k, k < m → w.cell? ⟨gl, k, none⟩ = some (.slice (A k) (n k) (c k))
  size : ∀ k, k < m → n k ≤ c k ∧ c k ≤ 140737488355328 ∧ (l k).length = c k
  wf : ∀ k, k < m → ∀ x ∈ l k, (Lit.int .u8 x).wf = true
  lies : ∀ k, k < m → (A k = none ∧ n k = 0 ∧ c k = 0) ∨ ∃ g, A k = some ⟨g, 0, none⟩ ∧ B ≤ g ∧ g ≠ gl ∧ w.heap[g]? = some (.cells (blk .u8 (l k ++ r k)) 5 (0, 0))
  apart : ∀ i k, i < m → k < m → i ≠ k → ∀ g, A i = some ⟨g, 0, none⟩ → A k ≠ some ⟨g, 0, none⟩
  gl_lt : gl < w.heap.size

theorem Parts.row {w : World} {B gl m : Nat} {A : Nat → Option Addr} {n c : Nat → Nat} {l r : Nat → List Int} (h : Parts w B gl m A n c l r) {k : Nat} (hk : k < m) :
    Row .u8 w w.heap.size (A k) ((l k).take (n k)) ∧ ((l k).take (n k)).length = n k := by
  have hs := h.size k hk
  refine ⟨?_, by simp; omega⟩
  rcases h.lies k hk with ⟨ha, hn, hc⟩ | ⟨g, ha, _, _, hg⟩
  · rw [hn, List.take_zero]; exact Row.nil _ _ _ _
  · rw [ha]
    exact (Row.of_block hg _ (fun x hx => h.wf k hk x (List.mem_of_mem_take hx)) ((List.take_prefix _ _).trans (List.prefix_append _ _))).more (block_lt hg)
theorem Parts.below {w w' : World} {B gl m : Nat} {A : Nat → Option Addr} {n c : Nat → Nat} {l r : Nat → List Int} (h : Parts w B gl m A n c l r) (hb : Below w.heap.size w w') : Parts w' B gl m A n c l r where
  at_ := fun k hk => (hb.cell (p := ⟨gl, k, none⟩) h.gl_lt).trans (h.at_ k hk)
  size := h.size
  wf := h.wf
  lies := fun k hk => by
    rcases h.lies k hk with h0 | ⟨g, ha, hB, hne, hg⟩
    · exact .inl h0
    · exact .inr ⟨g, ha, hB, hne, (hb.block g (block_lt hg)).trans hg⟩
  apart := h.apart
  gl_lt := Nat.lt_of_lt_of_le h.gl_lt hb.size
structure Ent where
  a : Option Nat
  n : Nat
  c : Nat
  l : List Int
  r : List Int
def Ent.none_ : Ent := ⟨none, 0, 0, [], []⟩
def Ent.adr (e : Ent) : Option Addr := e.a.map fun g => ⟨g, 0, none⟩
def Ent.val (e : Ent) : Value := .slice e.adr e.n e.c
structure Ent.Ok (w : World) (B : Nat) (e : Ent) : Prop where
  size : e.n ≤ e.c ∧ e.c ≤ 140737488355328 ∧ e.l.length = e.c
  wf : ∀ x ∈ e.l, (Lit.int .u8 x).wf = true
  lies : (e.a = none ∧ e.n = 0 ∧ e.c = 0) ∨ ∃ g, e.a = some g ∧ B ≤ g ∧ w.heap[g]? = some (.cells (blk .u8 (e.l ++ e.r)) 5 (0, 0))
def Ent.Far (e e' : Ent) : Prop := ∀ g, e.a = some g → e'.a ≠ some g
end Go.Proofs.YtbdhhmhlcdganaaGreatDoor
namespace Go.Proofs.YtbdhhmhlcdganaaGreatDoor
open Go.RowKit
def be : Nat → Nat → List Int
  | 0, _ => []
  | n + 1, v => ((v / 256 ^ n % 256 : Nat) : Int) :: be n v
def bval (xs : List Int) : Nat := xs.foldl (fun v x => v * 256 + x.toNat) 0
theorem bval_snoc (xs : List Int) (x : Int) : bval (xs ++ [x]) = bval xs * 256 + x.toNat := by simp [bval]
theorem bval_lt (xs : List Int) (h : ∀ x ∈ xs, (Lit.int .u8 x).wf = true) : bval xs < 256 ^ xs.length := by
  have H : ∀ (xs : List Int) (a n : Nat), (∀ x ∈ xs, (Lit.int .u8 x).wf = true) → a < 256 ^ n → xs.foldl (fun v x => v * 256 + x.toNat) a < 256 ^ (n + xs.length) := by
    intro xs
    induction xs with
    | nil => intro a n _ ha; simpa using ha
    | cons x xs ih =>
      intro a n hx ha
      have h1 := wf_u8 (hx x (by simp))
      have h2 := ih (a * 256 + x.toNat) (n + 1) (fun y hy => hx y (by simp [hy])) (by rw [Nat.pow_succ]; omega)
      rw [show n + 1 + xs.length = n + (x :: xs).length by simp; omega] at h2
      exact h2
  have := H xs 0 0 h (by simp)
  simpa [bval] using this
theorem bval_pow_le {n : Nat} (h : n ≤ 7) {a : Nat} (ha : a < 256 ^ n) : a * 256 + 255 < 18446744073709551616 := by
  have : (256 : Nat) ^ n ≤ 256 ^ 7 := Nat.pow_le_pow_right (by omega) h
  have e : (256 : Nat) ^ 7 = 72057594037927936 := by decide
  omega
theorem or_low (a b : Nat) (h : b < 256) : a * 256 ||| b = a * 256 + b := by
  have := Nat.shiftLeft_add_eq_or_of_lt (i := 8) h a
  rw [Nat.shiftLeft_eq] at this
  exact this.symm
end Go.Proofs.YtbdhhmhlcdganaaGreatDoor
namespace Go.Proofs.YtbdhhmhlcdganaaGreatDoor
open Go.RowKit
set_option linter.unusedVariables false

theorem isWidth_yes (n : Int) (h1 : 1 ≤ n) (h2 : n ≤ 8) (w : World) : Calls Tryz.prog 106 #[.int .i64 n] w fun e w' => e = .returned (.bool true) ∧ w = w' := by
  go_enter Tryz.func106, Tryz.ntmps106
  go_wp2
  go_ret
  exact ⟨rfl, rfl⟩
theorem isWidth_no (n : Int) (h : ¬ (1 ≤ n ∧ n ≤ 8)) (w : World) : Calls Tryz.prog 106 #[.int .i64 n] w fun e w' => e = .returned (.bool false) ∧ w = w' := by
  by_cases h1 : 1 ≤ n
  · have h2 : ¬ n ≤ 8 := fun h2 => h ⟨h1, h2⟩
    clear h
    go_enter Tryz.func106, Tryz.ntmps106
    go_wp2
    go_ret
    exact ⟨rfl, rfl⟩
  · clear h
    go_enter Tryz.func106, Tryz.ntmps106
    go_wp2
    go_ret
    exact ⟨rfl, rfl⟩
theorem shl_or (a : Nat) (x : Int) (k : Nat) (h : k ≤ 7) (ha : a < 256 ^ k) (hx : 0 ≤ x ∧ x < 256) : bits .or .u64 (IntKind.u64.wrap ((a : Int) * 256)) x = ((a * 256 + x.toNat : Nat) : Int) := by
  have h1 := bval_pow_le h ha
  clear ha h
  obtain ⟨y, rfl⟩ := Int.eq_ofNat_of_zero_le hx.1
  have h3 : a * 256 < 18446744073709551616 := Nat.lt_of_le_of_lt (Nat.le_add_right _ _) h1
  have hy : y < 256 := by omega
  have h4 : y < 18446744073709551616 := Nat.lt_trans hy (by decide)
  have h2 : IntKind.u64.wrap ((a : Int) * 256) = ((a * 256 : Nat) : Int) := by
    have e : ((a : Int) * 256) = ((a * 256 : Nat) : Int) := rfl
    rw [IntKind.wrap_u64, e]
    exact Int.emod_eq_of_lt (Int.natCast_nonneg _) (Int.ofNat_lt.2 h3)
  have h5 := u64_or_nat (a * 256) y h3 h4
  rw [h2, h5, or_low a y hy, Int.toNat_natCast]
theorem number_any (A : Option Addr) (m c n : Nat) (xs : List Int) (w : World) (B : Nat) (hr : Row .u8 w B A xs) (hm : xs.length = m) (hn : n ≤ m) (h8 : n ≤ 8) (hb : m ≤ 140737488355328) :
    Calls Tryz.prog 107 #[.slice A m c, .int .i64 n] w fun e w' => e = .returned (.int .u64 (bval (xs.take n) : Nat)) ∧ w = w' := by
  go_enter Tryz.func107, Tryz.ntmps107
  go_wp2
  go_loop [5, 8] (fun t i => ∃ k : Nat, k ≤ n ∧ i = .int .i64 k ∧ t = .int .u64 (bval (xs.take k) : Nat)) (fun _ i => n - (intOf i).toNat)
  case atStart => exact ⟨0, by omega, rfl, rfl⟩
  case round =>
    obtain ⟨k, hk, rfl, rfl⟩ := hrel
    by_cases hlt : k < n
    · obtain ⟨b, o, rfl, hb1, hc1⟩ := hr.at_ (i := k) (by omega)
      have hwf := wf_u8 (hr.wf_at (i := k) (by omega))
      have hl := bval_lt (xs.take k) (fun x hx => hr.1 x (List.mem_of_mem_take hx))
      rw [show (xs.take k).length = k by simp; omega] at hl
      have HO := Lib.hid (shl_or (bval (xs.take k)) (nth xs k) k (by omega) hl hwf)
      have HT := Lib.hid (take_step xs k (by omega))
      have HS := Lib.hid (bval_snoc (xs.take k) (nth xs k))
      go_wp2
      go_round
      case rel => exact ⟨k + 1, by omega, by go_num, by rw [HO.out, HT.out, HS.out]⟩
      case measure => simp [intOf]; omega
    · obtain rfl : k = n := by omega
      go_wp2
      go_ret
      exact ⟨rfl, rfl⟩

end Go.Proofs.YtbdhhmhlcdganaaGreatDoor
namespace Go.Proofs.YtbdhhmhlcdganaaGreatDoor
open Go.RowKit
set_option linter.unusedVariables false
end Go.Proofs.YtbdhhmhlcdganaaGreatDoor
namespace Go.Proofs.YtbdhhmhlcdganaaGreatDoor
open Go.RowKit
set_option linter.unusedVariables false

def Errs (n : Int) (w : World) (e : Ending) (w' : World) : Prop := e = .returned (.tuple #[.slice none 0 0, .int .i64 n]) ∧ w = w'
def Opens (w : World) (l : List Int) (m : Nat) (e : Ending) (w' : World) : Prop :=
  e = .returned (.tuple #[.slice (some ⟨w.heap.size, 0, none⟩) m m, .int .i64 0]) ∧ w'.heap[w.heap.size]? = some (.cells (blk .u8 l) 5 (0, 0)) ∧ Below w.heap.size w w'
def Makes2 (w : World) (xs : List Int) (e : Ending) (w' : World) : Prop := ∃ v, e = .returned (.tuple #[v, .int .i64 0]) ∧ Own .u8 5 w' w.heap.size v xs ∧ Below w.heap.size w w'

end Go.Proofs.YtbdhhmhlcdganaaGreatDoor
namespace Go.Proofs.YtbdhhmhlcdganaaGreatDoor
open Go.RowKit
set_option linter.unusedVariables false
end Go.Proofs.YtbdhhmhlcdganaaGreatDoor
namespace Go.Proofs.YtbdhhmhlcdganaaGreatDoor
open Go.RowKit
set_option linter.unusedVariables false
def Tells (v e : Int) (w : World) (r : Ending) (w' : World) : Prop := r = .returned (.tuple #[.int .u64 v, .int .i64 e]) ∧ w = w'

theorem Get_width (A : Option Addr) (m c : Nat) (a n : Int) (w : World) (h : ¬ (1 ≤ n ∧ n ≤ 8)) :
    Calls Tryz.prog 71 #[.slice A m c, .int .i64 a, .int .i64 n] w (Tells 0 3 w) := by
  have HW := Lib.hid h
  clear h
  go_enter Tryz.func71, Tryz.ntmps71
  go_wp2_with (go_at_call 106; refine (isWidth_no _ HW.out _).mono ?_; rintro e w' ⟨rfl, rfl⟩)
  go_ret2
  exact ⟨rfl, rfl⟩
theorem Get_short (A : Option Addr) (m c : Nat) (a n : Int) (w : World) (hm : m ≤ 140737488355328) (h1 : 1 ≤ n) (h8 : n ≤ 8) (h : a < 0 ∨ (m : Int) - n < a) :
    Calls Tryz.prog 71 #[.slice A m c, .int .i64 a, .int .i64 n] w (Tells 0 1 w) := by
  by_cases h0 : a < 0
  · clear h
    go_enter Tryz.func71, Tryz.ntmps71
    go_wp2_with (go_at_call 106; refine (isWidth_yes _ (by omega) (by omega) _).mono ?_; rintro e w' ⟨rfl, rfl⟩)
    go_ret2
    exact ⟨rfl, rfl⟩
  · have h2 : (m : Int) - n < a := h.resolve_left h0
    clear h
    go_enter Tryz.func71, Tryz.ntmps71
    go_wp2_with (go_at_call 106; refine (isWidth_yes _ (by omega) (by omega) _).mono ?_; rintro e w' ⟨rfl, rfl⟩)
    go_ret2
    exact ⟨rfl, rfl⟩
theorem Get_ok (A : Option Addr) (m c a n : Nat) (xs : List Int) (w : World) (B : Nat) (hr : Row .u8 w B A xs) (hx : xs.length = m) (hc : m ≤ c) (hm : m ≤ 140737488355328) (h1 : 1 ≤ n) (h8 : n ≤ 8) (h : a + n ≤ m) :
    Calls Tryz.prog 71 #[.slice A m c, .int .i64 a, .int .i64 n] w (Tells (bval ((xs.drop a).take n) : Nat) 0 w) := by
  obtain ⟨b, o, rfl, hb1, _⟩ := hr.at_ (i := a) (by omega)
  have hrd := hr.drop a
  have hl : Hid ((xs.drop a).length = m - a) := Lib.hid (by rw [List.length_drop, hx])
  have h3 : ¬ ((m : Int) - n < a) := by omega
  clear hx hr
  go_enter Tryz.func71, Tryz.ntmps71
  go_wp2_with (first
    | (go_at_call 106; refine (isWidth_yes _ (by omega) (by omega) _).mono ?_; rintro e w' ⟨rfl, rfl⟩)
    | (go_at_call 107; refine (number_any _ _ _ n (xs.drop a) _ B hrd hl.out (by omega) h8 (by omega)).mono ?_; rintro e w' ⟨rfl, rfl⟩))
  go_ret2
  exact ⟨rfl, rfl⟩

end Go.Proofs.YtbdhhmhlcdganaaGreatDoor
namespace Go.Proofs.YtbdhhmhlcdganaaGreatDoor
open Go.RowKit
set_option linter.unusedVariables false
end Go.Proofs.YtbdhhmhlcdganaaGreatDoor
namespace Go.Proofs.YtbdhhmhlcdganaaGreatDoor
open Go.RowKit
set_option linter.unusedVariables false
end Go.Proofs.YtbdhhmhlcdganaaGreatDoor
namespace Go.Proofs.YtbdhhmhlcdganaaGreatDoor
open Go.RowKit
set_option linter.unusedVariables false

def okPut (v n : Int) : Prop := (1 ≤ n ∧ n ≤ 8) ∧ v.toNat < 256 ^ n.toNat
instance (v n : Int) : Decidable (okPut v n) := inferInstanceAs (Decidable ((1 ≤ n ∧ n ≤ 8) ∧ v.toNat < 256 ^ n.toNat))
def putL2 (xs : List Int) (v n : Int) : List Int := if okPut v n then xs ++ be n.toNat v.toNat else []
def putE (v n : Int) : Int := if okPut v n then 0 else 3
def okAt (m : Nat) (a n : Int) : Prop := ¬ (a < 0 ∨ (m : Int) - n < a)
instance (m : Nat) (a n : Int) : Decidable (okAt m a n) := inferInstanceAs (Decidable (¬ (a < 0 ∨ (m : Int) - n < a)))
def getV (xs : List Int) (a n : Int) : Int := if (1 ≤ n ∧ n ≤ 8) ∧ okAt xs.length a n then ((bval ((xs.drop a.toNat).take n.toNat) : Nat) : Int) else 0
def getE2 (xs : List Int) (a n : Int) : Int := if 1 ≤ n ∧ n ≤ 8 then if okAt xs.length a n then 0 else 1 else 3
theorem Get_any2 (A : Option Addr) (m c : Nat) (a n : Int) (xs : List Int) (w : World) (B : Nat) (hr : Row .u8 w B A xs) (hm : xs.length = m) (hc : m ≤ c) (hb : m ≤ 140737488351232) :
    Calls Tryz.prog 71 #[.slice A m c, .int .i64 a, .int .i64 n] w (Tells (getV xs a n) (getE2 xs a n) w) := by
  subst hm
  by_cases h1 : 1 ≤ n ∧ n ≤ 8
  · by_cases h2 : a < 0 ∨ (xs.length : Int) - n < a
    · rw [show getV xs a n = 0 from if_neg (fun h => h.2 h2), show getE2 xs a n = 1 by rw [getE2, if_pos h1]; exact if_neg (fun h => h h2)]
      exact Get_short _ _ _ _ _ _ (by omega) h1.1 h1.2 h2
    · rw [show getV xs a n = _ from if_pos ⟨h1, h2⟩, show getE2 xs a n = 0 by rw [getE2, if_pos h1]; exact if_pos h2]
      obtain ⟨n, rfl⟩ := Int.eq_ofNat_of_zero_le (show 0 ≤ n by omega)
      obtain ⟨a, rfl⟩ := Int.eq_ofNat_of_zero_le (show 0 ≤ a by omega)
      exact Get_ok _ _ _ a n xs _ B hr rfl hc (by omega) (by omega) (by omega) (by omega)
  · rw [show getV xs a n = 0 from if_neg (fun h => h1 h.1), show getE2 xs a n = 3 from if_neg h1]
    exact Get_width _ _ _ _ _ _ h1
end Go.Proofs.YtbdhhmhlcdganaaGreatDoor
namespace Go.Proofs.YtbdhhmhlcdganaaGreatDoor
open Go.RowKit
set_option linter.unusedVariables false
set_option maxRecDepth 100000

section
variable {D : DevP} {w : World} {G : Nat → Prop} {g : Nat} {d : Dv}
theorem Stp.same {D : DevP} {v : Value} {w w' : World} (Y : DevGl D) (h : D w G g d) (hb : Below w.heap.size w w') : Stp D G g d v w (.returned v) w' := ⟨rfl, G, Y.below h hb, Frm.of_below hb, fun b hb => .inl hb⟩
theorem wipe14 (Y : DevOkG D) (h : D w G g d) (ok : Dv.Ok d) (hoff : d.off = false) : Calls Tryz.prog 34 #[.pointer (some ⟨g, 0, none⟩)] w (Stp D G g (wipeG d hnewN).1 (.int .i64 (wipeG d hnewN).2) w) := by
  have HRM : Hid (Calls Tryz.prog 68 #[.pointer (some ⟨g, 0, none⟩), .string ⟨#[104, 101, 97, 100, 46, 110, 101, 119]⟩] w (Stp D G g (remD d hnewN).1 (.int .i64 (remD d hnewN).2) w)) := Lib.hid (Y.remove hnewN h ok)
  by_cases h0 : lkF d hnewN = none
  · have e1 : remD d hnewN = (d, 6) := by unfold remD; rw [if_neg (by rw [hoff]; simp), find_none_lk.2 h0]
    have e2 : wipeG d hnewN = (d, 0) := if_pos h0
    rw [e1] at HRM
    rw [e2]
    clear h e1 e2 h0 hoff
    go_enter Tryz.func34, Tryz.ntmps34
    go_wp2_with fail
    refine HRM.out.mono ?_
    rintro e w1 ⟨rfl, hd⟩
    have HD := Lib.hid hd
    clear hd
    go_wp2
    go_ret
    exact ⟨rfl, HD.out⟩
  · obtain ⟨d1, e1, q1, ok1, h1⟩ := rem_step ok hnewN
    have e2 : wipeG d hnewN = if e1 = 0 then (d1, 0) else (d1, 10) := by unfold wipeG; rw [if_neg h0, q1]
    have h10 : e1 = 0 ∨ e1 = 10 := by
      rcases h1 with ⟨_, h2, h3⟩ | ⟨h2, _⟩
      · rcases h2 with h2 | h2
        · exact absurd (h3 h2) h0
        · exact .inr h2
      · exact .inl h2
    rw [q1] at HRM
    rw [e2]
    clear h e2 h0 hoff q1 h1 ok1
    rcases h10 with rfl | rfl
    · go_enter Tryz.func34, Tryz.ntmps34
      go_wp2_with fail
      refine HRM.out.mono ?_
      rintro e w1 ⟨rfl, hd⟩
      have HD := Lib.hid hd
      clear hd
      go_wp2
      go_ret
      exact ⟨rfl, HD.out⟩
    · go_enter Tryz.func34, Tryz.ntmps34
      go_wp2_with fail
      refine HRM.out.mono ?_
      rintro e w1 ⟨rfl, hd⟩
      have HD := Lib.hid hd
      clear hd
      go_wp2
      go_ret
      exact ⟨rfl, HD.out⟩
def setG (d : Dv) (s : ByteArray) (m n : Nat) : Dv × Int := if m < n then (if (truncD d s m).2 = 0 then syncD (truncD d s m).1 s else truncD d s m) else syncD d s
theorem settle14 (Y : DevOkG D) (h : D w G g d) (ok : Dv.Ok d) (s : ByteArray) (m n : Nat) (hm : m ≤ 16777216) (hn : n ≤ 16777216) : Calls Tryz.prog 72 #[.pointer (some ⟨g, 0, none⟩), .string s, .int .i64 (m : Nat), .int .i64 (n : Nat)] w (Stp D G g (setG d s m n).1 (.int .i64 (setG d s m n).2) w) := by
  by_cases hlt : m < n
  · obtain ⟨d1, e1, q1, ok1, _⟩ := trunc_step ok s m
    have HT : Hid (Calls Tryz.prog 84 #[.pointer (some ⟨g, 0, none⟩), .string s, .int .i64 (m : Nat)] w (Stp D G g d1 (.int .i64 e1) w)) := Lib.hid (by
      have := Y.truncate s (m : Int) h ok ⟨by omega, by omega⟩
      rw [q1] at this
      exact this)
    have e2 : setG d s m n = if e1 = 0 then syncD d1 s else (d1, e1) := by unfold setG; rw [if_pos hlt, q1]
    have i1 : (m : Int) < (n : Int) := by omega
    rw [e2]
    by_cases he : e1 = 0
    · subst he
      rw [if_pos rfl]
      have HS : Hid (∀ G1 W, D W G1 g d1 → Calls Tryz.prog 64 #[.pointer (some ⟨g, 0, none⟩), .string s] W (Stp D G1 g (syncD d1 s).1 (.int .i64 (syncD d1 s).2) W)) := Lib.hid fun G1 W h1 => Y.sync s h1 ok1
      have HJ : Hid (∀ G1 W w' v, Did D G g d1 w W G1 → Stp D G1 g (syncD d1 s).1 v W (.returned v) w' → Stp D G g (syncD d1 s).1 v w (.returned v) w') := Lib.hid fun G1 W w' v hd ⟨_, G', h1, h2, h3⟩ => ⟨rfl, G', h1, hd.2.1.trans h2 hd.2.2, fun b hb => (h3 b hb).elim (hd.2.2 b) (fun e => .inr (Nat.le_trans hd.2.1.size e))⟩
      generalize syncD d1 s = R at *
      clear h ok ok1 q1 e2 hm hn hlt
      go_enter Tryz.func72, Tryz.ntmps72
      go_wp2_with fail
      refine HT.out.mono ?_
      rintro e w1 ⟨rfl, G1, hd⟩
      have HD := Lib.hid hd
      have HS1 := Lib.hid (HS.out G1 w1 hd.1)
      clear hd
      go_wp2_with fail
      refine HS1.out.mono ?_
      rintro e w2 ⟨rfl, hd2⟩
      have HQ := Lib.hid (HJ.out G1 w1 w2 (.int .i64 R.2) HD.out ⟨rfl, hd2⟩)
      clear hd2
      go_wp2
      go_ret
      exact HQ.out
    · rw [if_neg he]
      have i2 : (e1 == 0) = false := by simpa using he
      have i3 : (e1 != 0) = true := by simpa using he
      clear h ok ok1 q1 e2 hm hn hlt he
      go_enter Tryz.func72, Tryz.ntmps72
      go_wp2_with fail
      refine HT.out.mono ?_
      rintro e w1 ⟨rfl, hd⟩
      have HD := Lib.hid hd
      clear hd
      go_wp2
      go_ret
      exact ⟨rfl, HD.out⟩
  · have e2 : setG d s m n = syncD d s := if_neg hlt
    have HS := Lib.hid (Y.sync s h ok)
    have i1 : ¬ (m : Int) < (n : Int) := by omega
    rw [e2]
    generalize syncD d s = R at *
    clear h ok e2 hm hn hlt
    go_enter Tryz.func72, Tryz.ntmps72
    go_wp2_with fail
    refine HS.out.mono ?_
    rintro e w1 ⟨rfl, hd⟩
    have HD := Lib.hid hd
    clear hd
    go_wp2
    go_ret
    exact ⟨rfl, HD.out⟩
def HdTo (d : Dv) (w : World) (e : Ending) (w' : World) : Prop := (∃ n f E : Int, e = .returned (.tuple #[.agg #[.int .i64 n, .int .i64 f], .int .i64 E]) ∧ ((∃ n' f', headG d = some (n', f') ∧ n = (n' : Int) ∧ f = (f' : Int) ∧ E = 0) ∨ (headG d = none ∧ n = 0 ∧ f = 0 ∧ E = 30))) ∧ Below w.heap.size w w'
end
end Go.Proofs.YtbdhhmhlcdganaaGreatDoor
namespace Go.Proofs.YtbdhhmhlcdganaaGreatDoor
open Go.RowKit
set_option linter.unusedVariables false
set_option maxRecDepth 100000

theorem hd_box {w w0 W : World} (h0 : w.alloc (.cells #[.int .i64 0, .int .i64 0] 67) = w0) (hW : Below w0.heap.size w0 W) : Below w.heap.size w W ∧ W.heap[w.heap.size]? = some (.cells #[.int .i64 0, .int .i64 0] 67 (0, 0)) := by
  have b0 : Below w.heap.size w w0 := by rw [← h0]; exact bel_alloc _ _
  have z0 : w0.heap.size = w.heap.size + 1 := by rw [← h0]; simp
  refine ⟨b0.trans (hW.mono b0.size), (hW.block w.heap.size (by omega)).trans ?_⟩
  rw [← h0]
  exact heap_alloc_new w _
theorem hd_facts {w W : World} (hb : Below w.heap.size w W) (hx : W.heap[w.heap.size]? = some (.cells #[.int .i64 0, .int .i64 0] 67 (0, 0))) : W.cell? ⟨w.heap.size, 0, none⟩ = some (.int .i64 0) ∧ W.cell? ⟨w.heap.size, 1, none⟩ = some (.int .i64 0) ∧ W.frozen? ⟨w.heap.size, 0, none⟩ = false ∧ W.frozen? ⟨w.heap.size, 1, none⟩ = false ∧ ∀ x y : Value, Below w.heap.size w ((W.setCell ⟨w.heap.size, 0, none⟩ x).setCell ⟨w.heap.size, 1, none⟩ y) ∧ ((W.setCell ⟨w.heap.size, 0, none⟩ x).setCell ⟨w.heap.size, 1, none⟩ y).cell? ⟨w.heap.size, 0, none⟩ = some x ∧ ((W.setCell ⟨w.heap.size, 0, none⟩ x).setCell ⟨w.heap.size, 1, none⟩ y).cell? ⟨w.heap.size, 1, none⟩ = some y := by
  refine ⟨by rw [cell_of_row W _ 0 _ _ _ hx]; rfl, by rw [cell_of_row W _ 1 _ _ _ hx]; rfl, Joins.unfrozen_of_block hx 0, Joins.unfrozen_of_block hx 1, fun x y => ?_⟩
  have b2 := Joins.block_setCell (i := 1) (Joins.block_setCell (i := 0) hx x) y
  refine ⟨Frm.below (((Frm.set (F := fun b => b = w.heap.size) W w.heap.size 0 x rfl)).trans (Frm.set (F := fun b => b = w.heap.size) _ w.heap.size 1 y rfl) (fun i hi => .inl hi)) hb hb.size (fun i hi => by omega), ?_, ?_⟩
  · rw [cell_of_row _ _ 0 _ _ _ b2]; rfl
  · rw [cell_of_row _ _ 1 _ _ _ b2]; rfl
set_option maxHeartbeats 2000000 in
theorem head14 {D : DevP} {w : World} {G : Nat → Prop} {g : Nat} {d : Dv} (Y : DevOkG D) (h : D w G g d) (ok : Dv.Ok d) : Calls Tryz.prog 35 #[.pointer (some ⟨g, 0, none⟩)] w (HdTo d w) := by
  obtain ⟨w0, hw0⟩ : ∃ w0, w.alloc (.cells #[.int .i64 0, .int .i64 0] 67) = w0 := ⟨_, rfl⟩
  have HB0 : Hid (Below w.heap.size w w0) := Lib.hid (hd_box hw0 (Below.refl _ _)).1
  have HRD : Hid (Calls Tryz.prog 69 #[.pointer (some ⟨g, 0, none⟩), .string ⟨#[104, 101, 97, 100]⟩] w0 fun e w' => ∃ A c, e = .returned (.tuple #[.slice A (readL d headN).length c, .int .i64 (readE d headN)]) ∧ Row .u8 w' w'.heap.size A (readL d headN) ∧ (readL d headN).length ≤ c ∧ Below w0.heap.size w0 w') := Lib.hid (by
    refine (Y.read headN (Y.dev.below h HB0.out) ok).mono ?_
    rintro e w' ⟨v, he, hv, hb⟩
    obtain ⟨A, c, rfl, r1, r2, r3⟩ := hv.own.row (fun x hx => by
      rw [readL_lk] at hx
      cases hl : lkF d headN with
      | none => rw [hl] at hx; cases hx
      | some y => rw [hl] at hx; exact lk_wf ok (show lkF d headN = some (y.1, y.2) from hl) x hx)
    exact ⟨A, c, he, r1, r2, hb⟩)
  cases hl : lkF d headN with
  | none =>
    have e1 : readE d headN = 6 := by rw [readE_lk, hl]; rfl
    have e2 : readL d headN = [] := by rw [readL_lk, hl]; rfl
    have e3 : headG d = some (1, 0) := if_pos hl
    rw [e1, e2] at HRD
    have HEND : Hid (∀ W, Below w.heap.size w W → HdTo d w (.returned (.tuple #[.agg #[.int .i64 1, .int .i64 0], .int .i64 0])) W) := Lib.hid fun W hW => ⟨⟨1, 0, 0, rfl, .inl ⟨1, 0, e3, rfl, rfl, rfl⟩⟩, hW⟩
    clear h ok hl e1 e2 e3
    go_enter Tryz.func35, Tryz.ntmps35
    go_wp2_with fail
    refine HRD.out.mono ?_
    rintro e w1 ⟨A1, c1, rfl, r1, _, b1⟩
    obtain ⟨bw1, zx1⟩ := hd_box hw0 b1
    obtain ⟨z0, z1, f0, f1, hset⟩ := hd_facts bw1 zx1
    have HS := Lib.hid (hset (.int .i64 1) (.int .i64 0))
    clear hset r1 zx1
    go_wp2
    obtain ⟨s1, s2, s3⟩ := HS.out
    refine bodyPost_ret (v := .tuple #[.agg #[.int .i64 1, .int .i64 0], .int .i64 0]) (by simp [results, Tryz.results35, go_sem, s2, s3]) rfl ?_
    exact HEND.out _ s1
  | some y =>
  obtain ⟨b, y⟩ := y
  have e1 : readE d headN = 0 := by rw [readE_lk, hl]; rfl
  have e2 : readL d headN = b := by rw [readL_lk, hl]; rfl
  have e3 : headG d = hdOf b := by unfold headG; rw [if_neg (by rw [hl]; simp), e2]
  have hwf := lk_wf ok hl
  have hlen := lk_len ok hl
  rw [e1, e2] at HRD
  have HGT : Hid (∀ W A c, Row .u8 W W.heap.size A b → b.length ≤ c → Calls Tryz.prog 70 #[.slice A b.length c] W fun e w' => ∃ A' c', e = .returned (.tuple #[.slice A' (ckG b).length c', .int .i64 (ckM b : Nat), .int .i64 (ckE b)]) ∧ Row .u8 w' w'.heap.size A' (ckG b) ∧ (ckG b).length ≤ c' ∧ Below W.heap.size W w') := Lib.hid fun W A c hr hc => by
    refine (chGet_any A _ c b W hr rfl hc (by omega)).mono ?_
    rintro e w' ⟨v, he, hv, hb⟩
    obtain ⟨A', c', rfl, r1, r2, _⟩ := hv.own.row (fun x hx => ckG_wf hwf x hx)
    exact ⟨A', c', he, r1, r2, hb⟩
  have HNO : Hid (∀ W, hdOf b = none → Below w.heap.size w W → HdTo d w (.returned (.tuple #[.agg #[.int .i64 0, .int .i64 0], .int .i64 30])) W) := Lib.hid fun W hn hW => ⟨⟨0, 0, 30, rfl, .inr ⟨by rw [e3]; exact hn, rfl, rfl, rfl⟩⟩, hW⟩
  have HYES : Hid (∀ W n f, hdOf b = some (n, f) → Below w.heap.size w W → HdTo d w (.returned (.tuple #[.agg #[.int .i64 (n : Nat), .int .i64 (f : Nat)], .int .i64 0])) W) := Lib.hid fun W n f hn hW => ⟨⟨n, f, 0, rfl, .inl ⟨n, f, by rw [e3]; exact hn, rfl, rfl, rfl⟩⟩, hW⟩
  have hcm := ckM_le b
  have hcg := ckG_len b
  have hce := ckE_small b
  by_cases hE : ckE b = 0
  case neg =>
    have hno : Hid (hdOf b = none) := Lib.hid (if_neg (fun h => hE h.1))
    have i1 : (ckE b != 0) = true := by simpa using hE
    have i2 : (ckE b == 0) = false := by simpa using hE
    clear h ok hl e1 e2 e3 hwf hE
    generalize ckE b = E at *
    generalize ckM b = M at *
    generalize (ckG b).length = L at *
    generalize b.length = K at *
    go_enter Tryz.func35, Tryz.ntmps35
    go_wp2_with fail
    refine HRD.out.mono ?_
    rintro e w1 ⟨A1, c1, rfl, r1, k1, b1⟩
    have HG1 := Lib.hid (HGT.out w1 A1 c1 r1 k1)
    clear r1 k1
    go_wp2_with fail
    refine HG1.out.mono ?_
    rintro e w2 ⟨A2, c2, rfl, r2, k2, b2⟩
    obtain ⟨bw2, zx2⟩ := hd_box hw0 (b1.trans (b2.mono b1.size))
    obtain ⟨z0, z1, f0, f1, hset⟩ := hd_facts bw2 zx2
    have HS := Lib.hid (hset (.int .i64 0) (.int .i64 0))
    clear hset r2 zx2 b2 HG1
    go_wp2
    obtain ⟨s1, s2, s3⟩ := HS.out
    refine bodyPost_ret (v := .tuple #[.agg #[.int .i64 0, .int .i64 0], .int .i64 30]) (by simp [results, Tryz.results35, go_sem, s2, s3]) rfl ?_
    exact HNO.out _ hno.out s1
  by_cases hM : ckM b = b.length
  case neg =>
    have hno : Hid (hdOf b = none) := Lib.hid (if_neg (fun h => hM h.2.1))
    have i1 : ((ckM b : Int) != (b.length : Int)) = true := by simpa using (show ¬ (ckM b : Int) = (b.length : Int) by omega)
    have i2 : ((ckM b : Int) == (b.length : Int)) = false := by simpa using (show ¬ (ckM b : Int) = (b.length : Int) by omega)
    rw [hE] at HGT
    clear h ok hl e1 e2 e3 hwf hE hM
    generalize ckM b = M at *
    generalize (ckG b).length = L at *
    generalize b.length = K at *
    go_enter Tryz.func35, Tryz.ntmps35
    go_wp2_with fail
    refine HRD.out.mono ?_
    rintro e w1 ⟨A1, c1, rfl, r1, k1, b1⟩
    have HG1 := Lib.hid (HGT.out w1 A1 c1 r1 k1)
    clear r1 k1
    go_wp2_with fail
    refine HG1.out.mono ?_
    rintro e w2 ⟨A2, c2, rfl, r2, k2, b2⟩
    obtain ⟨bw2, zx2⟩ := hd_box hw0 (b1.trans (b2.mono b1.size))
    obtain ⟨z0, z1, f0, f1, hset⟩ := hd_facts bw2 zx2
    have HS := Lib.hid (hset (.int .i64 0) (.int .i64 0))
    clear hset r2 zx2 b2 HG1
    go_wp2
    obtain ⟨s1, s2, s3⟩ := HS.out
    refine bodyPost_ret (v := .tuple #[.agg #[.int .i64 0, .int .i64 0], .int .i64 30]) (by simp [results, Tryz.results35, go_sem, s2, s3]) rfl ?_
    exact HNO.out _ hno.out s1
  have i1 : ((ckM b : Int) != (b.length : Int)) = false := by rw [hM]; simp
  have i2 : ((ckM b : Int) == (b.length : Int)) = true := by rw [hM]; simp
  by_cases hL : (ckG b).length = 16
  case neg =>
    have hno : Hid (hdOf b = none) := Lib.hid (if_neg (fun h => hL h.2.2.1))
    have i3 : (((ckG b).length : Int) != 16) = true := by simpa using (show ¬ ((ckG b).length : Int) = 16 by omega)
    have i4 : (((ckG b).length : Int) == 16) = false := by simpa using (show ¬ ((ckG b).length : Int) = 16 by omega)
    rw [hE] at HGT
    clear h ok hl e1 e2 e3 hwf hE hM hL
    generalize ckM b = M at *
    generalize (ckG b).length = L at *
    generalize b.length = K at *
    go_enter Tryz.func35, Tryz.ntmps35
    go_wp2_with fail
    refine HRD.out.mono ?_
    rintro e w1 ⟨A1, c1, rfl, r1, k1, b1⟩
    have HG1 := Lib.hid (HGT.out w1 A1 c1 r1 k1)
    clear r1 k1
    go_wp2_with fail
    refine HG1.out.mono ?_
    rintro e w2 ⟨A2, c2, rfl, r2, k2, b2⟩
    obtain ⟨bw2, zx2⟩ := hd_box hw0 (b1.trans (b2.mono b1.size))
    obtain ⟨z0, z1, f0, f1, hset⟩ := hd_facts bw2 zx2
    have HS := Lib.hid (hset (.int .i64 0) (.int .i64 0))
    clear hset r2 zx2 b2 HG1
    go_wp2
    obtain ⟨s1, s2, s3⟩ := HS.out
    refine bodyPost_ret (v := .tuple #[.agg #[.int .i64 0, .int .i64 0], .int .i64 30]) (by simp [results, Tryz.results35, go_sem, s2, s3]) rfl ?_
    exact HNO.out _ hno.out s1
  have hgw := ckG_wf hwf
  have HP1 : Hid (∀ W A c, Row .u8 W W.heap.size A (ckG b) → 16 ≤ c → Calls Tryz.prog 71 #[.slice A 16 c, .int .i64 0, .int .i64 8] W fun e w' => e = .returned (.tuple #[.int .u64 ((bvalC ((ckG b).take 8) : Nat) : Int), .int .i64 0]) ∧ W = w') := Lib.hid fun W A c hr hc => by
    have := Get_any2 A 16 c 0 8 (ckG b) W _ hr hL hc (by omega)
    have e4 : getV (ckG b) 0 8 = ((bvalC ((ckG b).take 8) : Nat) : Int) := by unfold getV; rw [if_pos ⟨by omega, by unfold okAt; omega⟩]; rfl
    have hok2 : okAt (ckG b).length 0 8 := by unfold okAt; omega
    have e5 : getE2 (ckG b) 0 8 = 0 := by unfold getE2; rw [if_pos (by omega), if_pos hok2]
    rw [e4, e5] at this
    exact this
  have HP2 : Hid (∀ W A c, Row .u8 W W.heap.size A (ckG b) → 16 ≤ c → Calls Tryz.prog 71 #[.slice A 16 c, .int .i64 8, .int .i64 8] W fun e w' => e = .returned (.tuple #[.int .u64 ((bvalC ((ckG b).drop 8) : Nat) : Int), .int .i64 0]) ∧ W = w') := Lib.hid fun W A c hr hc => by
    have := Get_any2 A 16 c 8 8 (ckG b) W _ hr hL hc (by omega)
    have e4 : getV (ckG b) 8 8 = ((bvalC ((ckG b).drop 8) : Nat) : Int) := by
      unfold getV
      rw [if_pos ⟨by omega, by unfold okAt; omega⟩]
      have : ((ckG b).drop (8 : Int).toNat).take (8 : Int).toNat = (ckG b).drop 8 := List.take_of_length_le (by rw [List.length_drop]; show _ - 8 ≤ 8; omega)
      rw [this]; rfl
    have hok2 : okAt (ckG b).length 8 8 := by unfold okAt; omega
    have e5 : getE2 (ckG b) 8 8 = 0 := by unfold getE2; rw [if_pos (by omega), if_pos hok2]
    rw [e4, e5] at this
    exact this
  have hb1 : bvalC ((ckG b).take 8) < 256 ^ 8 := by
    have := bval_lt ((ckG b).take 8) (fun x hx => hgw x (List.mem_of_mem_take hx))
    rw [List.length_take, hL] at this
    exact this
  have hb2 : bvalC ((ckG b).drop 8) < 256 ^ 8 := by
    have := bval_lt ((ckG b).drop 8) (fun x hx => hgw x (List.mem_of_mem_drop hx))
    rw [List.length_drop, hL] at this
    exact this
  have HHD : Hid (hdOf b = if 1 ≤ bvalC ((ckG b).take 8) ∧ bvalC ((ckG b).take 8) ≤ 999999999999 ∧ bvalC ((ckG b).drop 8) ≤ 1099511627776 then some (bvalC ((ckG b).take 8), bvalC ((ckG b).drop 8)) else none) := Lib.hid (by
    unfold hdOf
    by_cases hc : 1 ≤ bvalC ((ckG b).take 8) ∧ bvalC ((ckG b).take 8) ≤ 999999999999 ∧ bvalC ((ckG b).drop 8) ≤ 1099511627776
    · rw [if_pos hc, if_pos ⟨hE, hM, hL, hc⟩]
    · rw [if_neg hc, if_neg (fun h => hc h.2.2.2)])
  have e256 : (256 : Nat) ^ 8 = 18446744073709551616 := by decide
  rw [e256] at hb1 hb2
  rw [hE, hL] at HGT
  rw [hM] at HGT
  generalize bvalC ((ckG b).take 8) = N at *
  generalize bvalC ((ckG b).drop 8) = M at *
  have HRG := HGT
  clear h ok hl e1 e2 e3 hwf hE hM hL i1 i2 e256 hgw hcm hcg hce HGT
  have i1 : ((b.length : Int) != (b.length : Int)) = false := by simp
  have i2 : ((b.length : Int) == (b.length : Int)) = true := by simp
  obtain ⟨K, hK⟩ : ∃ K, Hid (b.length = K) := ⟨_, Lib.hid rfl⟩
  rw [hK.out] at HRD HRG hlen i1 i2
  obtain ⟨NI, hNI⟩ : ∃ NI : Int, Hid (NI = (N : Int)) := ⟨_, Lib.hid rfl⟩
  obtain ⟨MI, hMI⟩ : ∃ MI : Int, Hid (MI = (M : Int)) := ⟨_, Lib.hid rfl⟩
  rw [← hNI.out] at HP1
  rw [← hMI.out] at HP2
  by_cases h1 : 1 ≤ N
  case neg =>
    have hno : Hid (hdOf b = none) := Lib.hid (by rw [HHD.out]; exact if_neg (fun h => by omega))
    have a0 : decide (NI < 1) = true := by rw [decide_eq_true_iff]; have := hNI.out; have := hMI.out; omega
    clear HHD hK
    go_enter Tryz.func35, Tryz.ntmps35
    go_wp2_with fail
    refine HRD.out.mono ?_
    rintro e w1 ⟨A1, c1, rfl, r1, k1, b1⟩
    have HG1 := Lib.hid (HRG.out w1 A1 c1 r1 k1)
    clear r1 k1
    go_wp2_with fail
    refine HG1.out.mono ?_
    rintro e w2 ⟨A2, c2, rfl, r2, k2, b2⟩
    obtain ⟨bw2, zx2⟩ := hd_box hw0 (b1.trans (b2.mono b1.size))
    obtain ⟨z0, z1, f0, f1, hset⟩ := hd_facts bw2 zx2
    have HS := Lib.hid (hset (.int .i64 0) (.int .i64 0))
    have HQ1 := Lib.hid (HP1.out w2 A2 c2 r2 k2)
    have HQ2 := Lib.hid (HP2.out w2 A2 c2 r2 k2)
    clear hset r2 zx2 b2 HG1
    go_wp2_with fail
    refine HQ1.out.mono ?_
    rintro e w3 ⟨rfl, hw3⟩
    subst hw3
    go_wp2_with fail
    refine HQ2.out.mono ?_
    rintro e w3 ⟨rfl, hw3⟩
    subst hw3
    go_wp2
    obtain ⟨s1, s2, s3⟩ := HS.out
    refine bodyPost_ret (v := .tuple #[.agg #[.int .i64 0, .int .i64 0], .int .i64 30]) (by simp [results, Tryz.results35, go_sem, s2, s3]) rfl ?_
    exact HNO.out _ hno.out s1
  by_cases h2 : N ≤ 999999999999
  case neg =>
    have hno : Hid (hdOf b = none) := Lib.hid (by rw [HHD.out]; exact if_neg (fun h => by omega))
    have a0 : decide (NI < 1) = false := by rw [decide_eq_false_iff_not]; have := hNI.out; have := hMI.out; omega
    have a1 : decide (999999999999 < NI) = true := by rw [decide_eq_true_iff]; have := hNI.out; have := hMI.out; omega
    clear HHD hK
    go_enter Tryz.func35, Tryz.ntmps35
    go_wp2_with fail
    refine HRD.out.mono ?_
    rintro e w1 ⟨A1, c1, rfl, r1, k1, b1⟩
    have HG1 := Lib.hid (HRG.out w1 A1 c1 r1 k1)
    clear r1 k1
    go_wp2_with fail
    refine HG1.out.mono ?_
    rintro e w2 ⟨A2, c2, rfl, r2, k2, b2⟩
    obtain ⟨bw2, zx2⟩ := hd_box hw0 (b1.trans (b2.mono b1.size))
    obtain ⟨z0, z1, f0, f1, hset⟩ := hd_facts bw2 zx2
    have HS := Lib.hid (hset (.int .i64 0) (.int .i64 0))
    have HQ1 := Lib.hid (HP1.out w2 A2 c2 r2 k2)
    have HQ2 := Lib.hid (HP2.out w2 A2 c2 r2 k2)
    clear hset r2 zx2 b2 HG1
    go_wp2_with fail
    refine HQ1.out.mono ?_
    rintro e w3 ⟨rfl, hw3⟩
    subst hw3
    go_wp2_with fail
    refine HQ2.out.mono ?_
    rintro e w3 ⟨rfl, hw3⟩
    subst hw3
    go_wp2
    obtain ⟨s1, s2, s3⟩ := HS.out
    refine bodyPost_ret (v := .tuple #[.agg #[.int .i64 0, .int .i64 0], .int .i64 30]) (by simp [results, Tryz.results35, go_sem, s2, s3]) rfl ?_
    exact HNO.out _ hno.out s1
  by_cases h3 : M ≤ 1099511627776
  case neg =>
    have hno : Hid (hdOf b = none) := Lib.hid (by rw [HHD.out]; exact if_neg (fun h => by omega))
    have a0 : decide (NI < 1) = false := by rw [decide_eq_false_iff_not]; have := hNI.out; have := hMI.out; omega
    have a1 : decide (999999999999 < NI) = false := by rw [decide_eq_false_iff_not]; have := hNI.out; have := hMI.out; omega
    have a2 : decide (1099511627776 < MI) = true := by rw [decide_eq_true_iff]; have := hNI.out; have := hMI.out; omega
    clear HHD hK
    go_enter Tryz.func35, Tryz.ntmps35
    go_wp2_with fail
    refine HRD.out.mono ?_
    rintro e w1 ⟨A1, c1, rfl, r1, k1, b1⟩
    have HG1 := Lib.hid (HRG.out w1 A1 c1 r1 k1)
    clear r1 k1
    go_wp2_with fail
    refine HG1.out.mono ?_
    rintro e w2 ⟨A2, c2, rfl, r2, k2, b2⟩
    obtain ⟨bw2, zx2⟩ := hd_box hw0 (b1.trans (b2.mono b1.size))
    obtain ⟨z0, z1, f0, f1, hset⟩ := hd_facts bw2 zx2
    have HS := Lib.hid (hset (.int .i64 0) (.int .i64 0))
    have HQ1 := Lib.hid (HP1.out w2 A2 c2 r2 k2)
    have HQ2 := Lib.hid (HP2.out w2 A2 c2 r2 k2)
    clear hset r2 zx2 b2 HG1
    go_wp2_with fail
    refine HQ1.out.mono ?_
    rintro e w3 ⟨rfl, hw3⟩
    subst hw3
    go_wp2_with fail
    refine HQ2.out.mono ?_
    rintro e w3 ⟨rfl, hw3⟩
    subst hw3
    go_wp2
    obtain ⟨s1, s2, s3⟩ := HS.out
    refine bodyPost_ret (v := .tuple #[.agg #[.int .i64 0, .int .i64 0], .int .i64 30]) (by simp [results, Tryz.results35, go_sem, s2, s3]) rfl ?_
    exact HNO.out _ hno.out s1
  have hyes : Hid (hdOf b = some (N, M)) := Lib.hid (by rw [HHD.out]; exact if_pos ⟨h1, h2, h3⟩)
  have a0 : decide (NI < 1) = false := by rw [decide_eq_false_iff_not]; have := hNI.out; have := hMI.out; omega
  have a1 : decide (999999999999 < NI) = false := by rw [decide_eq_false_iff_not]; have := hNI.out; have := hMI.out; omega
  have a2 : decide (1099511627776 < MI) = false := by rw [decide_eq_false_iff_not]; have := hNI.out; have := hMI.out; omega
  have v1 : IntKind.i64.wrap NI = NI := by have := hNI.out; rw [IntKind.wrap_i64]; omega
  have v2 : IntKind.i64.wrap MI = MI := by have := hMI.out; rw [IntKind.wrap_i64]; omega
  clear HHD hK
  go_enter Tryz.func35, Tryz.ntmps35
  go_wp2_with fail
  refine HRD.out.mono ?_
  rintro e w1 ⟨A1, c1, rfl, r1, k1, b1⟩
  have HG1 := Lib.hid (HRG.out w1 A1 c1 r1 k1)
  clear r1 k1
  go_wp2_with fail
  refine HG1.out.mono ?_
  rintro e w2 ⟨A2, c2, rfl, r2, k2, b2⟩
  obtain ⟨bw2, zx2⟩ := hd_box hw0 (b1.trans (b2.mono b1.size))
  obtain ⟨z0, z1, f0, f1, hset⟩ := hd_facts bw2 zx2
  have HS := Lib.hid (hset (.int .i64 NI) (.int .i64 MI))
  have HQ1 := Lib.hid (HP1.out w2 A2 c2 r2 k2)
  have HQ2 := Lib.hid (HP2.out w2 A2 c2 r2 k2)
  clear hset r2 zx2 b2 HG1
  go_wp2_with fail
  refine HQ1.out.mono ?_
  rintro e w3 ⟨rfl, hw3⟩
  subst hw3
  go_wp2_with fail
  refine HQ2.out.mono ?_
  rintro e w3 ⟨rfl, hw3⟩
  subst hw3
  go_wp2
  obtain ⟨s1, s2, s3⟩ := HS.out
  refine bodyPost_ret (v := .tuple #[.agg #[.int .i64 NI, .int .i64 MI], .int .i64 0]) (by simp [results, Tryz.results35, go_sem, s2, s3]) rfl ?_
  rw [hNI.out, hMI.out]
  rw [hNI.out, hMI.out] at s1
  exact HYES.out _ N M hyes.out s1
end Go.Proofs.YtbdhhmhlcdganaaGreatDoor
namespace Go.Proofs.YtbdhhmhlcdganaaGreatDoor
open Go.RowKit
set_option linter.unusedVariables false
set_option maxRecDepth 100000

theorem readG_step {f n : Nat} {d ds : Dv} {acc : List (List (List Int))} {b : List Int} {y : Nat} {es : Int} (hl : lkF d (segN (n + acc.length)) = some (b, y)) (hs : setG d (segN (n + acc.length)) (ckScan b).2 b.length = (ds, es)) :
    readG (f + 1) d n acc = if es = 0 then (if (ckScan b).2 < b.length then (ds, acc ++ [(ckScan b).1], 0) else readG f ds n (acc ++ [(ckScan b).1])) else (ds, acc, es) := by
  conv => lhs; unfold readG
  rw [hl]
  simp only
  unfold setG at hs
  by_cases hlt : (ckScan b).2 < b.length
  · rw [if_pos hlt] at hs ⊢
    by_cases ht : (truncD d (segN (n + acc.length)) (ckScan b).2).2 = 0
    · rw [if_pos ht] at hs
      rw [if_pos ht, hs]
      simp only
      by_cases he : es = 0
      · rw [if_pos he, if_pos he, if_pos hlt]
      · rw [if_neg he, if_neg he]
    · rw [if_neg ht] at hs
      rw [hs] at ht
      rw [hs, if_neg ht, if_neg ht]
  · rw [if_neg hlt] at hs ⊢
    rw [hs]
    simp only
    by_cases he : es = 0
    · rw [if_pos he, if_pos he, if_neg hlt]
    · rw [if_neg he, if_neg he]
theorem readG_none {f n : Nat} {d : Dv} {acc : List (List (List Int))} (hl : lkF d (segN (n + acc.length)) = none) : readG (f + 1) d n acc = (d, acc, 0) := by
  unfold readG
  rw [hl]
theorem setG_lk {d ds : Dv} (ok : Dv.Ok d) {s : ByteArray} {b : List Int} {y m : Nat} {es : Int} (hl : lkF d s = some (b, y)) (hs : setG d s m b.length = (ds, es)) : Dv.Ok ds ∧ ∀ t, lkF ds t = none → lkF d t = none := by
  unfold setG at hs
  by_cases hlt : m < b.length
  · rw [if_pos hlt] at hs
    obtain ⟨d1, e1, q1, ok1, h1⟩ := trunc_step ok s m
    rw [q1] at hs
    simp only at hs
    have hk1 : ∀ t, lkF d1 t = none → lkF d t = none := fun t ht => by
      rcases h1 with ⟨hn, _⟩ | ⟨_, _, _, b', y', hb', _, hk⟩
      · rw [hn.lk] at ht; exact ht
      · rw [hk] at ht
        split at ht
        · cases ht
        · exact ht
    by_cases he : e1 = 0
    · rw [if_pos he] at hs
      obtain ⟨d2, e2, q2, ok2, h2⟩ := sync_step ok1 s
      rw [q2] at hs
      injection hs with x1 x2
      subst x1
      refine ⟨ok2, fun t ht => hk1 t ?_⟩
      rcases h2 with ⟨hn, _⟩ | ⟨_, _, _, _, b', y', hb', hk⟩
      · rw [hn.lk] at ht; exact ht
      · rw [hk] at ht
        split at ht
        · cases ht
        · exact ht
    · rw [if_neg he] at hs
      injection hs with x1 x2
      subst x1
      exact ⟨ok1, hk1⟩
  · rw [if_neg hlt] at hs
    obtain ⟨d2, e2, q2, ok2, h2⟩ := sync_step ok s
    rw [q2] at hs
    injection hs with x1 x2
    subst x1
    refine ⟨ok2, fun t ht => ?_⟩
    rcases h2 with ⟨hn, _⟩ | ⟨_, _, _, _, b', y', hb', hk⟩
    · rw [hn.lk] at ht; exact ht
    · rw [hk] at ht
      split at ht
      · cases ht
      · exact ht
abbrev rsL (n first : Nat) (acc : List (List (List Int))) : Lg := ⟨n, first, acc, 0⟩
structure RsTo (D : DevP) (d : Dv) (n first g q : Nat) (G Gg : Nat → Prop) (gv : Value) (w wr : World) (acc : List (List (List Int))) (dk : Dv) (Gk Gdk : Nat → Prop) (sv : Value) : Prop where
  lg : LgK D wr Gk g q dk (rsL n first acc) Gdk Gg sv gv []
  eq : readG 66 d n [] = readG (66 - acc.length) dk n acc
  ok : Dv.Ok dk
  at_ : ∀ i, i < acc.length → lkF dk (segN (n + i)) ≠ none
  byt : ∀ s ∈ acc, (ckAll s).length ≤ 16777216
  box : wr.heap[w.heap.size]? = some (.cells #[.int .i64 ((n + acc.length : Nat) : Int), .int .i64 ((first + cntS acc : Nat) : Int)] 67 (0, 0))
  zG : ¬ Gk w.heap.size
  frm : Frm G w wr
  new : ∀ b, Gk b → G b ∨ w.heap.size ≤ b
def RsEnd (D : DevP) (d : Dv) (n first g q : Nat) (G Gg : Nat → Prop) (gv : Value) (w : World) (e : Ending) (w' : World) : Prop := ∃ acc d' E G' Gd' sv', readG 66 d n [] = (d', acc, E) ∧ e = .returned (.int .i64 E) ∧ LgK D w' G' g q d' (rsL n first acc) Gd' Gg sv' gv [] ∧ Frm G w w' ∧ (∀ b, G' b → G b ∨ w.heap.size ≤ b) ∧ Dv.Ok d' ∧ SgBd (rsL n first acc)
section
variable {D : DevP} {d : Dv} {n first g q : Nat} {G Gg : Nat → Prop} {gv : Value} {w wr : World} {acc : List (List (List Int))} {dk : Dv} {Gk Gdk : Nat → Prop} {sv : Value}
theorem RsTo.few (h : RsTo D d n first g q G Gg gv w wr acc dk Gk Gdk sv) : acc.length ≤ 64 := few_files h.ok n acc.length h.at_
theorem cnt_few (acc : List (List (List Int))) (hb : ∀ s ∈ acc, (ckAll s).length ≤ 16777216) (hf : acc.length ≤ 64) : cntS acc ≤ 1073741824 := by
  have h3 : ∀ s ∈ acc, s.length ≤ 16777216 := fun s hs => by
    have h1 := hb s hs
    have h2 := ckAll_len_ge s
    omega
  have h4 := cntS_few acc h3
  have h5 : acc.length * 16777216 ≤ 64 * 16777216 := Nat.mul_le_mul_right _ hf
  exact Nat.le_trans h4 h5
theorem rs_bd (hn : n ≤ 999999999999) (hf : first ≤ 1099511627776) (hb : ∀ s ∈ acc, (ckAll s).length ≤ 16777216) (hl : acc.length ≤ 64) : SgBd (rsL n first acc) := ⟨hn, hl, by have := cnt_few acc hb hl; show first + cntS acc ≤ _; omega, by
  by_cases h0 : acc = []
  · have : lastS (rsL n first acc) = [] := by unfold lastS rsL; rw [h0]; rfl
    rw [this]; exact Nat.zero_le _
  · obtain ⟨hk, hl, _, _⟩ := last_at (l := rsL n first acc) h0
    rw [hl]
    exact hb _ (List.getElem_mem hk)⟩
theorem RsTo.below (Y : DevGl D) (h : RsTo D d n first g q G Gg gv w wr acc dk Gk Gdk sv) {W : World} (hb : Below wr.heap.size wr W) : RsTo D d n first g q G Gg gv w W acc dk Gk Gdk sv :=
  ⟨h.lg.below Y hb, h.eq, h.ok, h.at_, h.byt, (hb.block _ (block_lt h.box)).trans h.box, h.zG, h.frm.trans (Frm.of_below (F := fun _ => False) hb) (fun _ e => e.elim), h.new⟩
theorem RsTo.stop (h : RsTo D d n first g q G Gg gv w wr acc dk Gk Gdk sv) (hn : n ≤ 999999999999) (hf : first ≤ 1099511627776) (hl : lkF dk (segN (n + acc.length)) = none) : RsEnd D d n first g q G Gg gv w (.returned (.int .i64 0)) wr := by
  have h64 := h.few
  have he := h.eq
  rw [show 66 - acc.length = (65 - acc.length) + 1 by omega, readG_none hl] at he
  exact ⟨acc, dk, 0, Gk, Gdk, sv, he, rfl, h.lg, h.frm, h.new, h.ok, rs_bd hn hf h.byt h64⟩
theorem RsTo.settled (Y : DevGl D) (h : RsTo D d n first g q G Gg gv w wr acc dk Gk Gdk sv) (hn : n ≤ 999999999999) (hf : first ≤ 1099511627776) {b : List Int} {y : Nat} {ds : Dv} {es : Int} (hl : lkF dk (segN (n + acc.length)) = some (b, y)) (hs : setG dk (segN (n + acc.length)) (ckScan b).2 b.length = (ds, es)) {W w' : World} (hW : Below wr.heap.size wr W) {Gd' : Nat → Prop} (hd : Did D Gdk g ds W w' Gd') :
    LgK D w' (fun b => Gk b ∨ Gd' b) g q ds (rsL n first acc) Gd' Gg sv gv [] ∧ Frm G w w' ∧ (∀ b, Gk b ∨ Gd' b → G b ∨ w.heap.size ≤ b) ∧ ¬ (Gk w.heap.size ∨ Gd' w.heap.size) ∧ w'.heap[w.heap.size]? = some (.cells #[.int .i64 ((n + acc.length : Nat) : Int), .int .i64 ((first + cntS acc : Nat) : Int)] 67 (0, 0)) ∧ (es ≠ 0 → RsEnd D d n first g q G Gg gv w (.returned (.int .i64 es)) w') := by
  have h2 := h.below Y hW
  have k1 := h2.lg.did Y hd
  have hz : w.heap.size < W.heap.size := block_lt h2.box
  have hzd : ¬ Gdk w.heap.size := fun e => h.zG (h.lg.sub _ e)
  have f1 : Frm G w w' := h2.frm.trans hd.2.1 (fun i hi => h.new i (h.lg.sub i hi))
  have n1 : ∀ b, Gk b ∨ Gd' b → G b ∨ w.heap.size ≤ b := fun b hb => hb.elim (h.new b) (fun e => (hd.2.2 b e).elim (fun e => h.new b (h.lg.sub b e)) (fun e => .inr (by omega)))
  refine ⟨k1, f1, n1, fun e => e.elim h.zG (fun e => (hd.2.2 _ e).elim hzd (fun e => by omega)), (hd.2.1.block _ hz hzd).trans h2.box, fun he => ?_⟩
  have h64 := h.few
  have heq := h.eq
  rw [show 66 - acc.length = (65 - acc.length) + 1 by omega, readG_step hl hs, if_neg he] at heq
  exact ⟨acc, ds, es, _, _, sv, heq, rfl, k1, f1, n1, (setG_lk h.ok hl hs).1, rs_bd hn hf h.byt h64⟩
theorem RsTo.go (Y : DevGl D) (gl0 : Gl w) (h : RsTo D d n first g q G Gg gv w wr acc dk Gk Gdk sv) (hn : n ≤ 999999999999) (hf : first ≤ 1099511627776) {b : List Int} {y : Nat} {ds : Dv} (hl : lkF dk (segN (n + acc.length)) = some (b, y)) (hs : setG dk (segN (n + acc.length)) (ckScan b).2 b.length = (ds, 0)) {W w6 : World} {G1 Gd1 : Nat → Prop} (f1 : Frm G w W) (n1 : ∀ b, G1 b → G b ∨ w.heap.size ≤ b) (z1 : ¬ G1 w.heap.size) (b1 : W.heap[w.heap.size]? = some (.cells #[.int .i64 ((n + acc.length : Nat) : Int), .int .i64 ((first + cntS acc : Nat) : Int)] 67 (0, 0))) (hq : LStq D W G1 g q ds (rsL n first (acc ++ [(ckScan b).1])) Gd1 Gg gv [] w6) :
    w6.cell? ⟨q, 5, none⟩ = some (.int .i64 ((first + cntS (acc ++ [(ckScan b).1]) : Nat) : Int)) ∧ w6.cell? ⟨w.heap.size, 0, none⟩ = some (.int .i64 ((n + acc.length : Nat) : Int)) ∧ w6.cell? ⟨w.heap.size, 1, none⟩ = some (.int .i64 ((first + cntS acc : Nat) : Int)) ∧ w6.frozen? ⟨w.heap.size, 0, none⟩ = false ∧ w6.frozen? ⟨w.heap.size, 1, none⟩ = false ∧
    ((ckScan b).2 < b.length → RsEnd D d n first g q G Gg gv w (.returned (.int .i64 0)) w6) ∧
    (¬ (ckScan b).2 < b.length → ∀ W', Below ((w6.setCell ⟨w.heap.size, 0, none⟩ (.int .i64 ((n + (acc ++ [(ckScan b).1]).length : Nat) : Int))).setCell ⟨w.heap.size, 1, none⟩ (.int .i64 ((first + cntS (acc ++ [(ckScan b).1]) : Nat) : Int))).heap.size ((w6.setCell ⟨w.heap.size, 0, none⟩ (.int .i64 ((n + (acc ++ [(ckScan b).1]).length : Nat) : Int))).setCell ⟨w.heap.size, 1, none⟩ (.int .i64 ((first + cntS (acc ++ [(ckScan b).1]) : Nat) : Int))) W' → ∃ Gk' Gdk' sv', RsTo D d n first g q G Gg gv w W' (acc ++ [(ckScan b).1]) ds Gk' Gdk' sv') := by
  obtain ⟨G6, sv6, k6, f6, n6⟩ := hq
  have hzW : w.heap.size < W.heap.size := block_lt b1
  have b6 := (f6.block _ hzW z1).trans b1
  have h64 := h.few
  have hwf := lk_wf h.ok hl
  have hlen := lk_len h.ok hl
  have ha := ckScan_all hwf
  have hle := ckScan_le b
  have hb2 : ∀ s ∈ acc ++ [(ckScan b).1], (ckAll s).length ≤ 16777216 := fun s hs2 => by
    rcases List.mem_append.1 hs2 with hs2 | hs2
    · exact h.byt s hs2
    · rw [List.mem_singleton.1 hs2, ha, List.length_take]; omega
  obtain ⟨ok2, hno⟩ := setG_lk h.ok hl hs
  have hat2 : ∀ i, i < (acc ++ [(ckScan b).1]).length → lkF ds (segN (n + i)) ≠ none := fun i hi e => by
    have h9 := hno _ e
    rw [List.length_append] at hi
    by_cases hlt : i < acc.length
    · exact h.at_ i hlt h9
    · obtain rfl : i = acc.length := by simp at hi; omega
      rw [hl] at h9
      cases h9
  have h65 := few_files ok2 n _ hat2
  have z6 : ¬ G6 w.heap.size := fun e => (n6 _ e).elim z1 (fun e => by omega)
  have f6w : Frm G w w6 := f1.trans f6 (fun i hi => n1 i hi)
  have n6w : ∀ b, G6 b → G b ∨ w.heap.size ≤ b := fun b hb => (n6 b hb).elim (n1 b) (fun e => .inr (by omega))
  have heq := h.eq
  rw [show 66 - acc.length = (65 - acc.length) + 1 by omega, readG_step hl hs, if_pos rfl] at heq
  refine ⟨k6.cell.2.2.2.2.2.1, by rw [cell_of_row w6 _ 0 _ _ _ b6]; rfl, by rw [cell_of_row w6 _ 1 _ _ _ b6]; rfl, Joins.unfrozen_of_block b6 0, Joins.unfrozen_of_block b6 1, fun hlt => ?_, fun hlt W' hW' => ?_⟩
  · rw [if_pos hlt] at heq
    exact ⟨_, ds, 0, G6, Gd1, sv6, heq, rfl, k6, f6w, n6w, ok2, rs_bd hn hf hb2 h65⟩
  · rw [if_neg hlt] at heq
    have hfz : ∀ x y : Value, Frm (fun b => b = w.heap.size) w6 ((w6.setCell ⟨w.heap.size, 0, none⟩ x).setCell ⟨w.heap.size, 1, none⟩ y) := fun x y => (Frm.set (F := fun b => b = w.heap.size) w6 w.heap.size 0 x rfl).trans (Frm.set (F := fun b => b = w.heap.size) _ w.heap.size 1 y rfl) (fun i hi => .inl hi)
    have hf7 := hfz (.int .i64 ((n + (acc ++ [(ckScan b).1]).length : Nat) : Int)) (.int .i64 ((first + cntS (acc ++ [(ckScan b).1]) : Nat) : Int))
    have b7 := Joins.block_setCell (i := 1) (Joins.block_setCell (i := 0) b6 (.int .i64 ((n + (acc ++ [(ckScan b).1]).length : Nat) : Int))) (.int .i64 ((first + cntS (acc ++ [(ckScan b).1]) : Nat) : Int))
    have gl7 := (Y.gl k6.dev).frm hf7 (fun b hb e => by
      subst hb
      have := gl0.lt e
      omega)
    have k7 := k6.frm Y hf7 (fun b hb e => z6 (by rw [← e]; exact hb)) gl7
    have R : RsTo D d n first g q G Gg gv w _ (acc ++ [(ckScan b).1]) ds G6 Gd1 sv6 := ⟨k7, by rw [heq, List.length_append, show 66 - (acc.length + [(ckScan b).1].length) = 65 - acc.length by simp], ok2, hat2, hb2, b7, z6, f6w.trans hf7 (fun i hi => .inr (by omega)), n6w⟩
    exact ⟨G6, Gd1, sv6, R.below Y hW'⟩
end
end Go.Proofs.YtbdhhmhlcdganaaGreatDoor
