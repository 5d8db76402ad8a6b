/-
  Texts of the proof of SegsOpens, joined.
-/
import Derived.Test.YtbdhhmhlcdganaaGreatDoorJSegsOpensH
import Derived.Test.YtbdhhmhlcdganaaGreatDoorJSegsOpensC
import Derived.Test.YtbdhhmhlcdganaaGreatDoorJSegsOpensF
import Derived.Test.YtbdhhmhlcdganaaGreatDoorJSegsOpensB
import Derived.Lib.SmallJoins
import Derived.Test.YtbdhhmhlcdganaaGreatDoorJSegsOpensG
import Derived.BigQuiet
import Derived.Shelf.Sort.Plain
import Derived.Shelf.Strconv.Clone
import Derived.Ground.NamesProg
import Derived.Test.YtbdhhmhlcdganaaGreatDoorProg
import Derived.Test.YtbdhhmhlcdganaaGreatDoorJSegsOpensE
import Derived.Maps.OwnSet
namespace Go.Proofs.YtbdhhmhlcdganaaGreatDoor
open Go.RowKit
set_option linter.unusedVariables false

def okPut (v n : Int) : Prop := (1 ≤ n ∧ n ≤ 8) ∧ v.toNat < 256 ^ n.toNat
instance (v n : Int) : Decidable (okPut v n) := inferInstanceAs (Decidable ((1 ≤ n ∧ n ≤ 8) ∧ v.toNat < 256 ^ n.toNat))
def putL2 (xs : List Int) (v n : Int) : List Int := if okPut v n then xs ++ be n.toNat v.toNat else []
def putE (v n : Int) : Int := if okPut v n then 0 else 3
def okAt (m : Nat) (a n : Int) : Prop := ¬ (a < 0 ∨ (m : Int) - n < a)
instance (m : Nat) (a n : Int) : Decidable (okAt m a n) := inferInstanceAs (Decidable (¬ (a < 0 ∨ (m : Int) - n < a)))
def getV (xs : List Int) (a n : Int) : Int := if (1 ≤ n ∧ n ≤ 8) ∧ okAt xs.length a n then ((bval ((xs.drop a.toNat).take n.toNat) : Nat) : Int) else 0
def getE2 (xs : List Int) (a n : Int) : Int := if 1 ≤ n ∧ n ≤ 8 then if okAt xs.length a n then 0 else 1 else 3
theorem Get_any2 (A : Option Addr) (m c : Nat) (a n : Int) (xs : List Int) (w : World) (B : Nat) (hr : Row .u8 w B A xs) (hm : xs.length = m) (hc : m ≤ c) (hb : m ≤ 140737488351232) :
    Calls Tryz.prog 71 #[.slice A m c, .int .i64 a, .int .i64 n] w (Tells (getV xs a n) (getE2 xs a n) w) := by
  subst hm
  by_cases h1 : 1 ≤ n ∧ n ≤ 8
  · by_cases h2 : a < 0 ∨ (xs.length : Int) - n < a
    · rw [show getV xs a n = 0 from if_neg (fun h => h.2 h2), show getE2 xs a n = 1 by rw [getE2, if_pos h1]; exact if_neg (fun h => h h2)]
      exact Get_short _ _ _ _ _ _ (by omega) h1.1 h1.2 h2
    · rw [show getV xs a n = _ from if_pos ⟨h1, h2⟩, show getE2 xs a n = 0 by rw [getE2, if_pos h1]; exact if_pos h2]
      obtain ⟨n, rfl⟩ := Int.eq_ofNat_of_zero_le (show 0 ≤ n by omega)
      obtain ⟨a, rfl⟩ := Int.eq_ofNat_of_zero_le (show 0 ≤ a by omega)
      exact Get_ok _ _ _ a n xs _ B hr rfl hc (by omega) (by omega) (by omega) (by omega)
  · rw [show getV xs a n = 0 from if_neg (fun h => h1 h.1), show getE2 xs a n = 3 from if_neg h1]
    exact Get_width _ _ _ _ _ _ h1
end Go.Proofs.YtbdhhmhlcdganaaGreatDoor
namespace Go.Proofs.YtbdhhmhlcdganaaGreatDoor
open Go.RowKit
set_option linter.unusedVariables false
set_option maxRecDepth 100000

section
variable {D : DevP} {w : World} {G : Nat → Prop} {g : Nat} {d : Dv}
theorem Stp.same {D : DevP} {v : Value} {w w' : World} (Y : DevGl D) (h : D w G g d) (hb : Below w.heap.size w w') : Stp D G g d v w (.returned v) w' := ⟨rfl, G, Y.below h hb, Frm.of_below hb, fun b hb => .inl hb⟩
theorem wipe14 (Y : DevOkG D) (h : D w G g d) (ok : Dv.Ok d) (hoff : d.off = false) : Calls Tryz.prog 34 #[.pointer (some ⟨g, 0, none⟩)] w (Stp D G g (wipeG d hnewN).1 (.int .i64 (wipeG d hnewN).2) w) := by
  have HRM : Hid (Calls Tryz.prog 68 #[.pointer (some ⟨g, 0, none⟩), .string ⟨#[104, 101, 97, 100, 46, 110, 101, 119]⟩] w (Stp D G g (remD d hnewN).1 (.int .i64 (remD d hnewN).2) w)) := Lib.hid (Y.remove hnewN h ok)
  by_cases h0 : lkF d hnewN = none
  · have e1 : remD d hnewN = (d, 6) := by unfold remD; rw [if_neg (by rw [hoff]; simp), find_none_lk.2 h0]
    have e2 : wipeG d hnewN = (d, 0) := if_pos h0
    rw [e1] at HRM
    rw [e2]
    clear h e1 e2 h0 hoff
    go_enter Tryz.func34, Tryz.ntmps34
    go_wp2_with fail
    refine HRM.out.mono ?_
    rintro e w1 ⟨rfl, hd⟩
    have HD := Lib.hid hd
    clear hd
    go_wp2
    go_ret
    exact ⟨rfl, HD.out⟩
  · obtain ⟨d1, e1, q1, ok1, h1⟩ := rem_step ok hnewN
    have e2 : wipeG d hnewN = if e1 = 0 then (d1, 0) else (d1, 10) := by unfold wipeG; rw [if_neg h0, q1]
    have h10 : e1 = 0 ∨ e1 = 10 := by
      rcases h1 with ⟨_, h2, h3⟩ | ⟨h2, _⟩
      · rcases h2 with h2 | h2
        · exact absurd (h3 h2) h0
        · exact .inr h2
      · exact .inl h2
    rw [q1] at HRM
    rw [e2]
    clear h e2 h0 hoff q1 h1 ok1
    rcases h10 with rfl | rfl
    · go_enter Tryz.func34, Tryz.ntmps34
      go_wp2_with fail
      refine HRM.out.mono ?_
      rintro e w1 ⟨rfl, hd⟩
      have HD := Lib.hid hd
      clear hd
      go_wp2
      go_ret
      exact ⟨rfl, HD.out⟩
    · go_enter Tryz.func34, Tryz.ntmps34
      go_wp2_with fail
      refine HRM.out.mono ?_
      rintro e w1 ⟨rfl, hd⟩
      have HD := Lib.hid hd
      clear hd
      go_wp2
      go_ret
      exact ⟨rfl, HD.out⟩
def setG (d : Dv) (s : ByteArray) (m n : Nat) : Dv × Int := if m < n then (if (truncD d s m).2 = 0 then syncD (truncD d s m).1 s else truncD d s m) else syncD d s
theorem settle14 (Y : DevOkG D) (h : D w G g d) (ok : Dv.Ok d) (s : ByteArray) (m n : Nat) (hm : m ≤ 16777216) (hn : n ≤ 16777216) : Calls Tryz.prog 72 #[.pointer (some ⟨g, 0, none⟩), .string s, .int .i64 (m : Nat), .int .i64 (n : Nat)] w (Stp D G g (setG d s m n).1 (.int .i64 (setG d s m n).2) w) := by
  by_cases hlt : m < n
  · obtain ⟨d1, e1, q1, ok1, _⟩ := trunc_step ok s m
    have HT : Hid (Calls Tryz.prog 84 #[.pointer (some ⟨g, 0, none⟩), .string s, .int .i64 (m : Nat)] w (Stp D G g d1 (.int .i64 e1) w)) := Lib.hid (by
      have := Y.truncate s (m : Int) h ok ⟨by omega, by omega⟩
      rw [q1] at this
      exact this)
    have e2 : setG d s m n = if e1 = 0 then syncD d1 s else (d1, e1) := by unfold setG; rw [if_pos hlt, q1]
    have i1 : (m : Int) < (n : Int) := by omega
    rw [e2]
    by_cases he : e1 = 0
    · subst he
      rw [if_pos rfl]
      have HS : Hid (∀ G1 W, D W G1 g d1 → Calls Tryz.prog 64 #[.pointer (some ⟨g, 0, none⟩), .string s] W (Stp D G1 g (syncD d1 s).1 (.int .i64 (syncD d1 s).2) W)) := Lib.hid fun G1 W h1 => Y.sync s h1 ok1
      have HJ : Hid (∀ G1 W w' v, Did D G g d1 w W G1 → Stp D G1 g (syncD d1 s).1 v W (.returned v) w' → Stp D G g (syncD d1 s).1 v w (.returned v) w') := Lib.hid fun G1 W w' v hd ⟨_, G', h1, h2, h3⟩ => ⟨rfl, G', h1, hd.2.1.trans h2 hd.2.2, fun b hb => (h3 b hb).elim (hd.2.2 b) (fun e => .inr (Nat.le_trans hd.2.1.size e))⟩
      generalize syncD d1 s = R at *
      clear h ok ok1 q1 e2 hm hn hlt
      go_enter Tryz.func72, Tryz.ntmps72
      go_wp2_with fail
      refine HT.out.mono ?_
      rintro e w1 ⟨rfl, G1, hd⟩
      have HD := Lib.hid hd
      have HS1 := Lib.hid (HS.out G1 w1 hd.1)
      clear hd
      go_wp2_with fail
      refine HS1.out.mono ?_
      rintro e w2 ⟨rfl, hd2⟩
      have HQ := Lib.hid (HJ.out G1 w1 w2 (.int .i64 R.2) HD.out ⟨rfl, hd2⟩)
      clear hd2
      go_wp2
      go_ret
      exact HQ.out
    · rw [if_neg he]
      have i2 : (e1 == 0) = false := by simpa using he
      have i3 : (e1 != 0) = true := by simpa using he
      clear h ok ok1 q1 e2 hm hn hlt he
      go_enter Tryz.func72, Tryz.ntmps72
      go_wp2_with fail
      refine HT.out.mono ?_
      rintro e w1 ⟨rfl, hd⟩
      have HD := Lib.hid hd
      clear hd
      go_wp2
      go_ret
      exact ⟨rfl, HD.out⟩
  · have e2 : setG d s m n = syncD d s := if_neg hlt
    have HS := Lib.hid (Y.sync s h ok)
    have i1 : ¬ (m : Int) < (n : Int) := by omega
    rw [e2]
    generalize syncD d s = R at *
    clear h ok e2 hm hn hlt
    go_enter Tryz.func72, Tryz.ntmps72
    go_wp2_with fail
    refine HS.out.mono ?_
    rintro e w1 ⟨rfl, hd⟩
    have HD := Lib.hid hd
    clear hd
    go_wp2
    go_ret
    exact ⟨rfl, HD.out⟩
def HdTo (d : Dv) (w : World) (e : Ending) (w' : World) : Prop := (∃ n f E : Int, e = .returned (.tuple #[.agg #[.int .i64 n, .int .i64 f], .int .i64 E]) ∧ ((∃ n' f', headG d = some (n', f') ∧ n = (n' : Int) ∧ f = (f' : Int) ∧ E = 0) ∨ (headG d = none ∧ n = 0 ∧ f = 0 ∧ E = 30))) ∧ Below w.heap.size w w'
end
end Go.Proofs.YtbdhhmhlcdganaaGreatDoor
namespace Go.Proofs.YtbdhhmhlcdganaaGreatDoor
open Go.RowKit
set_option linter.unusedVariables false
set_option maxRecDepth 100000

theorem hd_box {w w0 W : World} (h0 : w.alloc (.cells #[.int .i64 0, .int .i64 0] 67) = w0) (hW : Below w0.heap.size w0 W) : Below w.heap.size w W ∧ W.heap[w.heap.size]? = some (.cells #[.int .i64 0, .int .i64 0] 67 (0, 0)) := by
  have b0 : Below w.heap.size w w0 := by rw [← h0]; exact bel_alloc _ _
  have z0 : w0.heap.size = w.heap.size + 1 := by rw [← h0]; simp
  refine ⟨b0.trans (hW.mono b0.size), (hW.block w.heap.size (by omega)).trans ?_⟩
  rw [← h0]
  exact heap_alloc_new w _
theorem hd_facts {w W : World} (hb : Below w.heap.size w W) (hx : W.heap[w.heap.size]? = some (.cells #[.int .i64 0, .int .i64 0] 67 (0, 0))) : W.cell? ⟨w.heap.size, 0, none⟩ = some (.int .i64 0) ∧ W.cell? ⟨w.heap.size, 1, none⟩ = some (.int .i64 0) ∧ W.frozen? ⟨w.heap.size, 0, none⟩ = false ∧ W.frozen? ⟨w.heap.size, 1, none⟩ = false ∧ ∀ x y : Value, Below w.heap.size w ((W.setCell ⟨w.heap.size, 0, none⟩ x).setCell ⟨w.heap.size, 1, none⟩ y) ∧ ((W.setCell ⟨w.heap.size, 0, none⟩ x).setCell ⟨w.heap.size, 1, none⟩ y).cell? ⟨w.heap.size, 0, none⟩ = some x ∧ ((W.setCell ⟨w.heap.size, 0, none⟩ x).setCell ⟨w.heap.size, 1, none⟩ y).cell? ⟨w.heap.size, 1, none⟩ = some y := by
  refine ⟨by rw [cell_of_row W _ 0 _ _ _ hx]; rfl, by rw [cell_of_row W _ 1 _ _ _ hx]; rfl, Joins.unfrozen_of_block hx 0, Joins.unfrozen_of_block hx 1, fun x y => ?_⟩
  have b2 := Joins.block_setCell (i := 1) (Joins.block_setCell (i := 0) hx x) y
  refine ⟨Frm.below (((Frm.set (F := fun b => b = w.heap.size) W w.heap.size 0 x rfl)).trans (Frm.set (F := fun b => b = w.heap.size) _ w.heap.size 1 y rfl) (fun i hi => .inl hi)) hb hb.size (fun i hi => by omega), ?_, ?_⟩
  · rw [cell_of_row _ _ 0 _ _ _ b2]; rfl
  · rw [cell_of_row _ _ 1 _ _ _ b2]; rfl
set_option maxHeartbeats 2000000 in
theorem head14 {D : DevP} {w : World} {G : Nat → Prop} {g : Nat} {d : Dv} (Y : DevOkG D) (h : D w G g d) (ok : Dv.Ok d) : Calls Tryz.prog 35 #[.pointer (some ⟨g, 0, none⟩)] w (HdTo d w) := by
  obtain ⟨w0, hw0⟩ : ∃ w0, w.alloc (.cells #[.int .i64 0, .int .i64 0] 67) = w0 := ⟨_, rfl⟩
  have HB0 : Hid (Below w.heap.size w w0) := Lib.hid (hd_box hw0 (Below.refl _ _)).1
  have HRD : Hid (Calls Tryz.prog 69 #[.pointer (some ⟨g, 0, none⟩), .string ⟨#[104, 101, 97, 100]⟩] w0 fun e w' => ∃ A c, e = .returned (.tuple #[.slice A (readL d headN).length c, .int .i64 (readE d headN)]) ∧ Row .u8 w' w'.heap.size A (readL d headN) ∧ (readL d headN).length ≤ c ∧ Below w0.heap.size w0 w') := Lib.hid (by
    refine (Y.read headN (Y.dev.below h HB0.out) ok).mono ?_
    rintro e w' ⟨v, he, hv, hb⟩
    obtain ⟨A, c, rfl, r1, r2, r3⟩ := hv.own.row (fun x hx => by
      rw [readL_lk] at hx
      cases hl : lkF d headN with
      | none => rw [hl] at hx; cases hx
      | some y => rw [hl] at hx; exact lk_wf ok (show lkF d headN = some (y.1, y.2) from hl) x hx)
    exact ⟨A, c, he, r1, r2, hb⟩)
  cases hl : lkF d headN with
  | none =>
    have e1 : readE d headN = 6 := by rw [readE_lk, hl]; rfl
    have e2 : readL d headN = [] := by rw [readL_lk, hl]; rfl
    have e3 : headG d = some (1, 0) := if_pos hl
    rw [e1, e2] at HRD
    have HEND : Hid (∀ W, Below w.heap.size w W → HdTo d w (.returned (.tuple #[.agg #[.int .i64 1, .int .i64 0], .int .i64 0])) W) := Lib.hid fun W hW => ⟨⟨1, 0, 0, rfl, .inl ⟨1, 0, e3, rfl, rfl, rfl⟩⟩, hW⟩
    clear h ok hl e1 e2 e3
    go_enter Tryz.func35, Tryz.ntmps35
    go_wp2_with fail
    refine HRD.out.mono ?_
    rintro e w1 ⟨A1, c1, rfl, r1, _, b1⟩
    obtain ⟨bw1, zx1⟩ := hd_box hw0 b1
    obtain ⟨z0, z1, f0, f1, hset⟩ := hd_facts bw1 zx1
    have HS := Lib.hid (hset (.int .i64 1) (.int .i64 0))
    clear hset r1 zx1
    go_wp2
    obtain ⟨s1, s2, s3⟩ := HS.out
    refine bodyPost_ret (v := .tuple #[.agg #[.int .i64 1, .int .i64 0], .int .i64 0]) (by simp [results, Tryz.results35, go_sem, s2, s3]) rfl ?_
    exact HEND.out _ s1
  | some y =>
  obtain ⟨b, y⟩ := y
  have e1 : readE d headN = 0 := by rw [readE_lk, hl]; rfl
  have e2 : readL d headN = b := by rw [readL_lk, hl]; rfl
  have e3 : headG d = hdOf b := by unfold headG; rw [if_neg (by rw [hl]; simp), e2]
  have hwf := lk_wf ok hl
  have hlen := lk_len ok hl
  rw [e1, e2] at HRD
  have HGT : Hid (∀ W A c, Row .u8 W W.heap.size A b → b.length ≤ c → Calls Tryz.prog 70 #[.slice A b.length c] W fun e w' => ∃ A' c', e = .returned (.tuple #[.slice A' (ckG b).length c', .int .i64 (ckM b : Nat), .int .i64 (ckE b)]) ∧ Row .u8 w' w'.heap.size A' (ckG b) ∧ (ckG b).length ≤ c' ∧ Below W.heap.size W w') := Lib.hid fun W A c hr hc => by
    refine (chGet_any A _ c b W hr rfl hc (by omega)).mono ?_
    rintro e w' ⟨v, he, hv, hb⟩
    obtain ⟨A', c', rfl, r1, r2, _⟩ := hv.own.row (fun x hx => ckG_wf hwf x hx)
    exact ⟨A', c', he, r1, r2, hb⟩
  have HNO : Hid (∀ W, hdOf b = none → Below w.heap.size w W → HdTo d w (.returned (.tuple #[.agg #[.int .i64 0, .int .i64 0], .int .i64 30])) W) := Lib.hid fun W hn hW => ⟨⟨0, 0, 30, rfl, .inr ⟨by rw [e3]; exact hn, rfl, rfl, rfl⟩⟩, hW⟩
  have HYES : Hid (∀ W n f, hdOf b = some (n, f) → Below w.heap.size w W → HdTo d w (.returned (.tuple #[.agg #[.int .i64 (n : Nat), .int .i64 (f : Nat)], .int .i64 0])) W) := Lib.hid fun W n f hn hW => ⟨⟨n, f, 0, rfl, .inl ⟨n, f, by rw [e3]; exact hn, rfl, rfl, rfl⟩⟩, hW⟩
  have hcm := ckM_le b
  have hcg := ckG_len b
  have hce := ckE_small b
  by_cases hE : ckE b = 0
  case neg =>
    have hno : Hid (hdOf b = none) := Lib.hid (if_neg (fun h => hE h.1))
    have i1 : (ckE b != 0) = true := by simpa using hE
    have i2 : (ckE b == 0) = false := by simpa using hE
    clear h ok hl e1 e2 e3 hwf hE
    generalize ckE b = E at *
    generalize ckM b = M at *
    generalize (ckG b).length = L at *
    generalize b.length = K at *
    go_enter Tryz.func35, Tryz.ntmps35
    go_wp2_with fail
    refine HRD.out.mono ?_
    rintro e w1 ⟨A1, c1, rfl, r1, k1, b1⟩
    have HG1 := Lib.hid (HGT.out w1 A1 c1 r1 k1)
    clear r1 k1
    go_wp2_with fail
    refine HG1.out.mono ?_
    rintro e w2 ⟨A2, c2, rfl, r2, k2, b2⟩
    obtain ⟨bw2, zx2⟩ := hd_box hw0 (b1.trans (b2.mono b1.size))
    obtain ⟨z0, z1, f0, f1, hset⟩ := hd_facts bw2 zx2
    have HS := Lib.hid (hset (.int .i64 0) (.int .i64 0))
    clear hset r2 zx2 b2 HG1
    go_wp2
    obtain ⟨s1, s2, s3⟩ := HS.out
    refine bodyPost_ret (v := .tuple #[.agg #[.int .i64 0, .int .i64 0], .int .i64 30]) (by simp [results, Tryz.results35, go_sem, s2, s3]) rfl ?_
    exact HNO.out _ hno.out s1
  by_cases hM : ckM b = b.length
  case neg =>
    have hno : Hid (hdOf b = none) := Lib.hid (if_neg (fun h => hM h.2.1))
    have i1 : ((ckM b : Int) != (b.length : Int)) = true := by simpa using (show ¬ (ckM b : Int) = (b.length : Int) by omega)
    have i2 : ((ckM b : Int) == (b.length : Int)) = false := by simpa using (show ¬ (ckM b : Int) = (b.length : Int) by omega)
    rw [hE] at HGT
    clear h ok hl e1 e2 e3 hwf hE hM
    generalize ckM b = M at *
    generalize (ckG b).length = L at *
    generalize b.length = K at *
    go_enter Tryz.func35, Tryz.ntmps35
    go_wp2_with fail
    refine HRD.out.mono ?_
    rintro e w1 ⟨A1, c1, rfl, r1, k1, b1⟩
    have HG1 := Lib.hid (HGT.out w1 A1 c1 r1 k1)
    clear r1 k1
    go_wp2_with fail
    refine HG1.out.mono ?_
    rintro e w2 ⟨A2, c2, rfl, r2, k2, b2⟩
    obtain ⟨bw2, zx2⟩ := hd_box hw0 (b1.trans (b2.mono b1.size))
    obtain ⟨z0, z1, f0, f1, hset⟩ := hd_facts bw2 zx2
    have HS := Lib.hid (hset (.int .i64 0) (.int .i64 0))
    clear hset r2 zx2 b2 HG1
    go_wp2
    obtain ⟨s1, s2, s3⟩ := HS.out
    refine bodyPost_ret (v := .tuple #[.agg #[.int .i64 0, .int .i64 0], .int .i64 30]) (by simp [results, Tryz.results35, go_sem, s2, s3]) rfl ?_
    exact HNO.out _ hno.out s1
  have i1 : ((ckM b : Int) != (b.length : Int)) = false := by rw [hM]; simp
  have i2 : ((ckM b : Int) == (b.length : Int)) = true := by rw [hM]; simp
  by_cases hL : (ckG b).length = 16
  case neg =>
    have hno : Hid (hdOf b = none) := Lib.hid (if_neg (fun h => hL h.2.2.1))
    have i3 : (((ckG b).length : Int) != 16) = true := by simpa using (show ¬ ((ckG b).length : Int) = 16 by omega)
    have i4 : (((ckG b).length : Int) == 16) = false := by simpa using (show ¬ ((ckG b).length : Int) = 16 by omega)
    rw [hE] at HGT
    clear h ok hl e1 e2 e3 hwf hE hM hL
    generalize ckM b = M at *
    generalize (ckG b).length = L at *
    generalize b.length = K at *
    go_enter Tryz.func35, Tryz.ntmps35
    go_wp2_with fail
    refine HRD.out.mono ?_
    rintro e w1 ⟨A1, c1, rfl, r1, k1, b1⟩
    have HG1 := Lib.hid (HGT.out w1 A1 c1 r1 k1)
    clear r1 k1
    go_wp2_with fail
    refine HG1.out.mono ?_
    rintro e w2 ⟨A2, c2, rfl, r2, k2, b2⟩
    obtain ⟨bw2, zx2⟩ := hd_box hw0 (b1.trans (b2.mono b1.size))
    obtain ⟨z0, z1, f0, f1, hset⟩ := hd_facts bw2 zx2
    have HS := Lib.hid (hset (.int .i64 0) (.int .i64 0))
    clear hset r2 zx2 b2 HG1
    go_wp2
    obtain ⟨s1, s2, s3⟩ := HS.out
    refine bodyPost_ret (v := .tuple #[.agg #[.int .i64 0, .int .i64 0], .int .i64 30]) (by simp [results, Tryz.results35, go_sem, s2, s3]) rfl ?_
    exact HNO.out _ hno.out s1
  have hgw := ckG_wf hwf
  have HP1 : Hid (∀ W A c, Row .u8 W W.heap.size A (ckG b) → 16 ≤ c → Calls Tryz.prog 71 #[.slice A 16 c, .int .i64 0, .int .i64 8] W fun e w' => e = .returned (.tuple #[.int .u64 ((bvalC ((ckG b).take 8) : Nat) : Int), .int .i64 0]) ∧ W = w') := Lib.hid fun W A c hr hc => by
    have := Get_any2 A 16 c 0 8 (ckG b) W _ hr hL hc (by omega)
    have e4 : getV (ckG b) 0 8 = ((bvalC ((ckG b).take 8) : Nat) : Int) := by unfold getV; rw [if_pos ⟨by omega, by unfold okAt; omega⟩]; rfl
    have hok2 : okAt (ckG b).length 0 8 := by unfold okAt; omega
    have e5 : getE2 (ckG b) 0 8 = 0 := by unfold getE2; rw [if_pos (by omega), if_pos hok2]
    rw [e4, e5] at this
    exact this
  have HP2 : Hid (∀ W A c, Row .u8 W W.heap.size A (ckG b) → 16 ≤ c → Calls Tryz.prog 71 #[.slice A 16 c, .int .i64 8, .int .i64 8] W fun e w' => e = .returned (.tuple #[.int .u64 ((bvalC ((ckG b).drop 8) : Nat) : Int), .int .i64 0]) ∧ W = w') := Lib.hid fun W A c hr hc => by
    have := Get_any2 A 16 c 8 8 (ckG b) W _ hr hL hc (by omega)
    have e4 : getV (ckG b) 8 8 = ((bvalC ((ckG b).drop 8) : Nat) : Int) := by
      unfold getV
      rw [if_pos ⟨by omega, by unfold okAt; omega⟩]
      have : ((ckG b).drop (8 : Int).toNat).take (8 : Int).toNat = (ckG b).drop 8 := List.take_of_length_le (by rw [List.length_drop]; show _ - 8 ≤ 8; omega)
      rw [this]; rfl
    have hok2 : okAt (ckG b).length 8 8 := by unfold okAt; omega
    have e5 : getE2 (ckG b) 8 8 = 0 := by unfold getE2; rw [if_pos (by omega), if_pos hok2]
    rw [e4, e5] at this
    exact this
  have hb1 : bvalC ((ckG b).take 8) < 256 ^ 8 := by
    have := bval_lt ((ckG b).take 8) (fun x hx => hgw x (List.mem_of_mem_take hx))
    rw [List.length_take, hL] at this
    exact this
  have hb2 : bvalC ((ckG b).drop 8) < 256 ^ 8 := by
    have := bval_lt ((ckG b).drop 8) (fun x hx => hgw x (List.mem_of_mem_drop hx))
    rw [List.length_drop, hL] at this
    exact this
  have HHD : Hid (hdOf b = if 1 ≤ bvalC ((ckG b).take 8) ∧ bvalC ((ckG b).take 8) ≤ 999999999999 ∧ bvalC ((ckG b).drop 8) ≤ 1099511627776 then some (bvalC ((ckG b).take 8), bvalC ((ckG b).drop 8)) else none) := Lib.hid (by
    unfold hdOf
    by_cases hc : 1 ≤ bvalC ((ckG b).take 8) ∧ bvalC ((ckG b).take 8) ≤ 999999999999 ∧ bvalC ((ckG b).drop 8) ≤ 1099511627776
    · rw [if_pos hc, if_pos ⟨hE, hM, hL, hc⟩]
    · rw [if_neg hc, if_neg (fun h => hc h.2.2.2)])
  have e256 : (256 : Nat) ^ 8 = 18446744073709551616 := by decide
  rw [e256] at hb1 hb2
  rw [hE, hL] at HGT
  rw [hM] at HGT
  generalize bvalC ((ckG b).take 8) = N at *
  generalize bvalC ((ckG b).drop 8) = M at *
  have HRG := HGT
  clear h ok hl e1 e2 e3 hwf hE hM hL i1 i2 e256 hgw hcm hcg hce HGT
  have i1 : ((b.length : Int) != (b.length : Int)) = false := by simp
  have i2 : ((b.length : Int) == (b.length : Int)) = true := by simp
  obtain ⟨K, hK⟩ : ∃ K, Hid (b.length = K) := ⟨_, Lib.hid rfl⟩
  rw [hK.out] at HRD HRG hlen i1 i2
  obtain ⟨NI, hNI⟩ : ∃ NI : Int, Hid (NI = (N : Int)) := ⟨_, Lib.hid rfl⟩
  obtain ⟨MI, hMI⟩ : ∃ MI : Int, Hid (MI = (M : Int)) := ⟨_, Lib.hid rfl⟩
  rw [← hNI.out] at HP1
  rw [← hMI.out] at HP2
  by_cases h1 : 1 ≤ N
  case neg =>
    have hno : Hid (hdOf b = none) := Lib.hid (by rw [HHD.out]; exact if_neg (fun h => by omega))
    have a0 : decide (NI < 1) = true := by rw [decide_eq_true_iff]; have := hNI.out; have := hMI.out; omega
    clear HHD hK
    go_enter Tryz.func35, Tryz.ntmps35
    go_wp2_with fail
    refine HRD.out.mono ?_
    rintro e w1 ⟨A1, c1, rfl, r1, k1, b1⟩
    have HG1 := Lib.hid (HRG.out w1 A1 c1 r1 k1)
    clear r1 k1
    go_wp2_with fail
    refine HG1.out.mono ?_
    rintro e w2 ⟨A2, c2, rfl, r2, k2, b2⟩
    obtain ⟨bw2, zx2⟩ := hd_box hw0 (b1.trans (b2.mono b1.size))
    obtain ⟨z0, z1, f0, f1, hset⟩ := hd_facts bw2 zx2
    have HS := Lib.hid (hset (.int .i64 0) (.int .i64 0))
    have HQ1 := Lib.hid (HP1.out w2 A2 c2 r2 k2)
    have HQ2 := Lib.hid (HP2.out w2 A2 c2 r2 k2)
    clear hset r2 zx2 b2 HG1
    go_wp2_with fail
    refine HQ1.out.mono ?_
    rintro e w3 ⟨rfl, hw3⟩
    subst hw3
    go_wp2_with fail
    refine HQ2.out.mono ?_
    rintro e w3 ⟨rfl, hw3⟩
    subst hw3
    go_wp2
    obtain ⟨s1, s2, s3⟩ := HS.out
    refine bodyPost_ret (v := .tuple #[.agg #[.int .i64 0, .int .i64 0], .int .i64 30]) (by simp [results, Tryz.results35, go_sem, s2, s3]) rfl ?_
    exact HNO.out _ hno.out s1
  by_cases h2 : N ≤ 999999999999
  case neg =>
    have hno : Hid (hdOf b = none) := Lib.hid (by rw [HHD.out]; exact if_neg (fun h => by omega))
    have a0 : decide (NI < 1) = false := by rw [decide_eq_false_iff_not]; have := hNI.out; have := hMI.out; omega
    have a1 : decide (999999999999 < NI) = true := by rw [decide_eq_true_iff]; have := hNI.out; have := hMI.out; omega
    clear HHD hK
    go_enter Tryz.func35, Tryz.ntmps35
    go_wp2_with fail
    refine HRD.out.mono ?_
    rintro e w1 ⟨A1, c1, rfl, r1, k1, b1⟩
    have HG1 := Lib.hid (HRG.out w1 A1 c1 r1 k1)
    clear r1 k1
    go_wp2_with fail
    refine HG1.out.mono ?_
    rintro e w2 ⟨A2, c2, rfl, r2, k2, b2⟩
    obtain ⟨bw2, zx2⟩ := hd_box hw0 (b1.trans (b2.mono b1.size))
    obtain ⟨z0, z1, f0, f1, hset⟩ := hd_facts bw2 zx2
    have HS := Lib.hid (hset (.int .i64 0) (.int .i64 0))
    have HQ1 := Lib.hid (HP1.out w2 A2 c2 r2 k2)
    have HQ2 := Lib.hid (HP2.out w2 A2 c2 r2 k2)
    clear hset r2 zx2 b2 HG1
    go_wp2_with fail
    refine HQ1.out.mono ?_
    rintro e w3 ⟨rfl, hw3⟩
    subst hw3
    go_wp2_with fail
    refine HQ2.out.mono ?_
    rintro e w3 ⟨rfl, hw3⟩
    subst hw3
    go_wp2
    obtain ⟨s1, s2, s3⟩ := HS.out
    refine bodyPost_ret (v := .tuple #[.agg #[.int .i64 0, .int .i64 0], .int .i64 30]) (by simp [results, Tryz.results35, go_sem, s2, s3]) rfl ?_
    exact HNO.out _ hno.out s1
  by_cases h3 : M ≤ 1099511627776
  case neg =>
    have hno : Hid (hdOf b = none) := Lib.hid (by rw [HHD.out]; exact if_neg (fun h => by omega))
    have a0 : decide (NI < 1) = false := by rw [decide_eq_false_iff_not]; have := hNI.out; have := hMI.out; omega
    have a1 : decide (999999999999 < NI) = false := by rw [decide_eq_false_iff_not]; have := hNI.out; have := hMI.out; omega
    have a2 : decide (1099511627776 < MI) = true := by rw [decide_eq_true_iff]; have := hNI.out; have := hMI.out; omega
    clear HHD hK
    go_enter Tryz.func35, Tryz.ntmps35
    go_wp2_with fail
    refine HRD.out.mono ?_
    rintro e w1 ⟨A1, c1, rfl, r1, k1, b1⟩
    have HG1 := Lib.hid (HRG.out w1 A1 c1 r1 k1)
    clear r1 k1
    go_wp2_with fail
    refine HG1.out.mono ?_
    rintro e w2 ⟨A2, c2, rfl, r2, k2, b2⟩
    obtain ⟨bw2, zx2⟩ := hd_box hw0 (b1.trans (b2.mono b1.size))
    obtain ⟨z0, z1, f0, f1, hset⟩ := hd_facts bw2 zx2
    have HS := Lib.hid (hset (.int .i64 0) (.int .i64 0))
    have HQ1 := Lib.hid (HP1.out w2 A2 c2 r2 k2)
    have HQ2 := Lib.hid (HP2.out w2 A2 c2 r2 k2)
    clear hset r2 zx2 b2 HG1
    go_wp2_with fail
    refine HQ1.out.mono ?_
    rintro e w3 ⟨rfl, hw3⟩
    subst hw3
    go_wp2_with fail
    refine HQ2.out.mono ?_
    rintro e w3 ⟨rfl, hw3⟩
    subst hw3
    go_wp2
    obtain ⟨s1, s2, s3⟩ := HS.out
    refine bodyPost_ret (v := .tuple #[.agg #[.int .i64 0, .int .i64 0], .int .i64 30]) (by simp [results, Tryz.results35, go_sem, s2, s3]) rfl ?_
    exact HNO.out _ hno.out s1
  have hyes : Hid (hdOf b = some (N, M)) := Lib.hid (by rw [HHD.out]; exact if_pos ⟨h1, h2, h3⟩)
  have a0 : decide (NI < 1) = false := by rw [decide_eq_false_iff_not]; have := hNI.out; have := hMI.out; omega
  have a1 : decide (999999999999 < NI) = false := by rw [decide_eq_false_iff_not]; have := hNI.out; have := hMI.out; omega
  have a2 : decide (1099511627776 < MI) = false := by rw [decide_eq_false_iff_not]; have := hNI.out; have := hMI.out; omega
  have v1 : IntKind.i64.wrap NI = NI := by have := hNI.out; rw [IntKind.wrap_i64]; omega
  have v2 : IntKind.i64.wrap MI = MI := by have := hMI.out; rw [IntKind.wrap_i64]; omega
  clear HHD hK
  go_enter Tryz.func35, Tryz.ntmps35
  go_wp2_with fail
  refine HRD.out.mono ?_
  rintro e w1 ⟨A1, c1, rfl, r1, k1, b1⟩
  have HG1 := Lib.hid (HRG.out w1 A1 c1 r1 k1)
  clear r1 k1
  go_wp2_with fail
  refine HG1.out.mono ?_
  rintro e w2 ⟨A2, c2, rfl, r2, k2, b2⟩
  obtain ⟨bw2, zx2⟩ := hd_box hw0 (b1.trans (b2.mono b1.size))
  obtain ⟨z0, z1, f0, f1, hset⟩ := hd_facts bw2 zx2
  have HS := Lib.hid (hset (.int .i64 NI) (.int .i64 MI))
  have HQ1 := Lib.hid (HP1.out w2 A2 c2 r2 k2)
  have HQ2 := Lib.hid (HP2.out w2 A2 c2 r2 k2)
  clear hset r2 zx2 b2 HG1
  go_wp2_with fail
  refine HQ1.out.mono ?_
  rintro e w3 ⟨rfl, hw3⟩
  subst hw3
  go_wp2_with fail
  refine HQ2.out.mono ?_
  rintro e w3 ⟨rfl, hw3⟩
  subst hw3
  go_wp2
  obtain ⟨s1, s2, s3⟩ := HS.out
  refine bodyPost_ret (v := .tuple #[.agg #[.int .i64 NI, .int .i64 MI], .int .i64 0]) (by simp [results, Tryz.results35, go_sem, s2, s3]) rfl ?_
  rw [hNI.out, hMI.out]
  rw [hNI.out, hMI.out] at s1
  exact HYES.out _ N M hyes.out s1
end Go.Proofs.YtbdhhmhlcdganaaGreatDoor
namespace Go.Proofs.YtbdhhmhlcdganaaGreatDoor
open Go.RowKit
set_option linter.unusedVariables false
set_option maxRecDepth 100000

theorem readG_step {f n : Nat} {d ds : Dv} {acc : List (List (List Int))} {b : List Int} {y : Nat} {es : Int} (hl : lkF d (segN (n + acc.length)) = some (b, y)) (hs : setG d (segN (n + acc.length)) (ckScan b).2 b.length = (ds, es)) :
    readG (f + 1) d n acc = if es = 0 then (if (ckScan b).2 < b.length then (ds, acc ++ [(ckScan b).1], 0) else readG f ds n (acc ++ [(ckScan b).1])) else (ds, acc, es) := by
  conv => lhs; unfold readG
  rw [hl]
  simp only
  unfold setG at hs
  by_cases hlt : (ckScan b).2 < b.length
  · rw [if_pos hlt] at hs ⊢
    by_cases ht : (truncD d (segN (n + acc.length)) (ckScan b).2).2 = 0
    · rw [if_pos ht] at hs
      rw [if_pos ht, hs]
      simp only
      by_cases he : es = 0
      · rw [if_pos he, if_pos he, if_pos hlt]
      · rw [if_neg he, if_neg he]
    · rw [if_neg ht] at hs
      rw [hs] at ht
      rw [hs, if_neg ht, if_neg ht]
  · rw [if_neg hlt] at hs ⊢
    rw [hs]
    simp only
    by_cases he : es = 0
    · rw [if_pos he, if_pos he, if_neg hlt]
    · rw [if_neg he, if_neg he]
theorem readG_none {f n : Nat} {d : Dv} {acc : List (List (List Int))} (hl : lkF d (segN (n + acc.length)) = none) : readG (f + 1) d n acc = (d, acc, 0) := by
  unfold readG
  rw [hl]
theorem setG_lk {d ds : Dv} (ok : Dv.Ok d) {s : ByteArray} {b : List Int} {y m : Nat} {es : Int} (hl : lkF d s = some (b, y)) (hs : setG d s m b.length = (ds, es)) : Dv.Ok ds ∧ ∀ t, lkF ds t = none → lkF d t = none := by
  unfold setG at hs
  by_cases hlt : m < b.length
  · rw [if_pos hlt] at hs
    obtain ⟨d1, e1, q1, ok1, h1⟩ := trunc_step ok s m
    rw [q1] at hs
    simp only at hs
    have hk1 : ∀ t, lkF d1 t = none → lkF d t = none := fun t ht => by
      rcases h1 with ⟨hn, _⟩ | ⟨_, _, _, b', y', hb', _, hk⟩
      · rw [hn.lk] at ht; exact ht
      · rw [hk] at ht
        split at ht
        · cases ht
        · exact ht
    by_cases he : e1 = 0
    · rw [if_pos he] at hs
      obtain ⟨d2, e2, q2, ok2, h2⟩ := sync_step ok1 s
      rw [q2] at hs
      injection hs with x1 x2
      subst x1
      refine ⟨ok2, fun t ht => hk1 t ?_⟩
      rcases h2 with ⟨hn, _⟩ | ⟨_, _, _, _, b', y', hb', hk⟩
      · rw [hn.lk] at ht; exact ht
      · rw [hk] at ht
        split at ht
        · cases ht
        · exact ht
    · rw [if_neg he] at hs
      injection hs with x1 x2
      subst x1
      exact ⟨ok1, hk1⟩
  · rw [if_neg hlt] at hs
    obtain ⟨d2, e2, q2, ok2, h2⟩ := sync_step ok s
    rw [q2] at hs
    injection hs with x1 x2
    subst x1
    refine ⟨ok2, fun t ht => ?_⟩
    rcases h2 with ⟨hn, _⟩ | ⟨_, _, _, _, b', y', hb', hk⟩
    · rw [hn.lk] at ht; exact ht
    · rw [hk] at ht
      split at ht
      · cases ht
      · exact ht
abbrev rsL (n first : Nat) (acc : List (List (List Int))) : Lg := ⟨n, first, acc, 0⟩
structure RsTo (D : DevP) (d : Dv) (n first g q : Nat) (G Gg : Nat → Prop) (gv : Value) (w wr : World) (acc : List (List (List Int))) (dk : Dv) (Gk Gdk : Nat → Prop) (sv : Value) : Prop where
  lg : LgK D wr Gk g q dk (rsL n first acc) Gdk Gg sv gv []
  eq : readG 66 d n [] = readG (66 - acc.length) dk n acc
  ok : Dv.Ok dk
  at_ : ∀ i, i < acc.length → lkF dk (segN (n + i)) ≠ none
  byt : ∀ s ∈ acc, (ckAll s).length ≤ 16777216
  box : wr.heap[w.heap.size]? = some (.cells #[.int .i64 ((n + acc.length : Nat) : Int), .int .i64 ((first + cntS acc : Nat) : Int)] 67 (0, 0))
  zG : ¬ Gk w.heap.size
  frm : Frm G w wr
  new : ∀ b, Gk b → G b ∨ w.heap.size ≤ b
def RsEnd (D : DevP) (d : Dv) (n first g q : Nat) (G Gg : Nat → Prop) (gv : Value) (w : World) (e : Ending) (w' : World) : Prop := ∃ acc d' E G' Gd' sv', readG 66 d n [] = (d', acc, E) ∧ e = .returned (.int .i64 E) ∧ LgK D w' G' g q d' (rsL n first acc) Gd' Gg sv' gv [] ∧ Frm G w w' ∧ (∀ b, G' b → G b ∨ w.heap.size ≤ b) ∧ Dv.Ok d' ∧ SgBd (rsL n first acc)
section
variable {D : DevP} {d : Dv} {n first g q : Nat} {G Gg : Nat → Prop} {gv : Value} {w wr : World} {acc : List (List (List Int))} {dk : Dv} {Gk Gdk : Nat → Prop} {sv : Value}
theorem RsTo.few (h : RsTo D d n first g q G Gg gv w wr acc dk Gk Gdk sv) : acc.length ≤ 64 := few_files h.ok n acc.length h.at_
theorem cnt_few (acc : List (List (List Int))) (hb : ∀ s ∈ acc, (ckAll s).length ≤ 16777216) (hf : acc.length ≤ 64) : cntS acc ≤ 1073741824 := by
  have h3 : ∀ s ∈ acc, s.length ≤ 16777216 := fun s hs => by
    have h1 := hb s hs
    have h2 := ckAll_len_ge s
    omega
  have h4 := cntS_few acc h3
  have h5 : acc.length * 16777216 ≤ 64 * 16777216 := Nat.mul_le_mul_right _ hf
  exact Nat.le_trans h4 h5
theorem rs_bd (hn : n ≤ 999999999999) (hf : first ≤ 1099511627776) (hb : ∀ s ∈ acc, (ckAll s).length ≤ 16777216) (hl : acc.length ≤ 64) : SgBd (rsL n first acc) := ⟨hn, hl, by have := cnt_few acc hb hl; show first + cntS acc ≤ _; omega, by
  by_cases h0 : acc = []
  · have : lastS (rsL n first acc) = [] := by unfold lastS rsL; rw [h0]; rfl
    rw [this]; exact Nat.zero_le _
  · obtain ⟨hk, hl, _, _⟩ := last_at (l := rsL n first acc) h0
    rw [hl]
    exact hb _ (List.getElem_mem hk)⟩
theorem RsTo.below (Y : DevGl D) (h : RsTo D d n first g q G Gg gv w wr acc dk Gk Gdk sv) {W : World} (hb : Below wr.heap.size wr W) : RsTo D d n first g q G Gg gv w W acc dk Gk Gdk sv :=
  ⟨h.lg.below Y hb, h.eq, h.ok, h.at_, h.byt, (hb.block _ (block_lt h.box)).trans h.box, h.zG, h.frm.trans (Frm.of_below (F := fun _ => False) hb) (fun _ e => e.elim), h.new⟩
theorem RsTo.stop (h : RsTo D d n first g q G Gg gv w wr acc dk Gk Gdk sv) (hn : n ≤ 999999999999) (hf : first ≤ 1099511627776) (hl : lkF dk (segN (n + acc.length)) = none) : RsEnd D d n first g q G Gg gv w (.returned (.int .i64 0)) wr := by
  have h64 := h.few
  have he := h.eq
  rw [show 66 - acc.length = (65 - acc.length) + 1 by omega, readG_none hl] at he
  exact ⟨acc, dk, 0, Gk, Gdk, sv, he, rfl, h.lg, h.frm, h.new, h.ok, rs_bd hn hf h.byt h64⟩
theorem RsTo.settled (Y : DevGl D) (h : RsTo D d n first g q G Gg gv w wr acc dk Gk Gdk sv) (hn : n ≤ 999999999999) (hf : first ≤ 1099511627776) {b : List Int} {y : Nat} {ds : Dv} {es : Int} (hl : lkF dk (segN (n + acc.length)) = some (b, y)) (hs : setG dk (segN (n + acc.length)) (ckScan b).2 b.length = (ds, es)) {W w' : World} (hW : Below wr.heap.size wr W) {Gd' : Nat → Prop} (hd : Did D Gdk g ds W w' Gd') :
    LgK D w' (fun b => Gk b ∨ Gd' b) g q ds (rsL n first acc) Gd' Gg sv gv [] ∧ Frm G w w' ∧ (∀ b, Gk b ∨ Gd' b → G b ∨ w.heap.size ≤ b) ∧ ¬ (Gk w.heap.size ∨ Gd' w.heap.size) ∧ w'.heap[w.heap.size]? = some (.cells #[.int .i64 ((n + acc.length : Nat) : Int), .int .i64 ((first + cntS acc : Nat) : Int)] 67 (0, 0)) ∧ (es ≠ 0 → RsEnd D d n first g q G Gg gv w (.returned (.int .i64 es)) w') := by
  have h2 := h.below Y hW
  have k1 := h2.lg.did Y hd
  have hz : w.heap.size < W.heap.size := block_lt h2.box
  have hzd : ¬ Gdk w.heap.size := fun e => h.zG (h.lg.sub _ e)
  have f1 : Frm G w w' := h2.frm.trans hd.2.1 (fun i hi => h.new i (h.lg.sub i hi))
  have n1 : ∀ b, Gk b ∨ Gd' b → G b ∨ w.heap.size ≤ b := fun b hb => hb.elim (h.new b) (fun e => (hd.2.2 b e).elim (fun e => h.new b (h.lg.sub b e)) (fun e => .inr (by omega)))
  refine ⟨k1, f1, n1, fun e => e.elim h.zG (fun e => (hd.2.2 _ e).elim hzd (fun e => by omega)), (hd.2.1.block _ hz hzd).trans h2.box, fun he => ?_⟩
  have h64 := h.few
  have heq := h.eq
  rw [show 66 - acc.length = (65 - acc.length) + 1 by omega, readG_step hl hs, if_neg he] at heq
  exact ⟨acc, ds, es, _, _, sv, heq, rfl, k1, f1, n1, (setG_lk h.ok hl hs).1, rs_bd hn hf h.byt h64⟩
theorem RsTo.go (Y : DevGl D) (gl0 : Gl w) (h : RsTo D d n first g q G Gg gv w wr acc dk Gk Gdk sv) (hn : n ≤ 999999999999) (hf : first ≤ 1099511627776) {b : List Int} {y : Nat} {ds : Dv} (hl : lkF dk (segN (n + acc.length)) = some (b, y)) (hs : setG dk (segN (n + acc.length)) (ckScan b).2 b.length = (ds, 0)) {W w6 : World} {G1 Gd1 : Nat → Prop} (f1 : Frm G w W) (n1 : ∀ b, G1 b → G b ∨ w.heap.size ≤ b) (z1 : ¬ G1 w.heap.size) (b1 : W.heap[w.heap.size]? = some (.cells #[.int .i64 ((n + acc.length : Nat) : Int), .int .i64 ((first + cntS acc : Nat) : Int)] 67 (0, 0))) (hq : LStq D W G1 g q ds (rsL n first (acc ++ [(ckScan b).1])) Gd1 Gg gv [] w6) :
    w6.cell? ⟨q, 5, none⟩ = some (.int .i64 ((first + cntS (acc ++ [(ckScan b).1]) : Nat) : Int)) ∧ w6.cell? ⟨w.heap.size, 0, none⟩ = some (.int .i64 ((n + acc.length : Nat) : Int)) ∧ w6.cell? ⟨w.heap.size, 1, none⟩ = some (.int .i64 ((first + cntS acc : Nat) : Int)) ∧ w6.frozen? ⟨w.heap.size, 0, none⟩ = false ∧ w6.frozen? ⟨w.heap.size, 1, none⟩ = false ∧
    ((ckScan b).2 < b.length → RsEnd D d n first g q G Gg gv w (.returned (.int .i64 0)) w6) ∧
    (¬ (ckScan b).2 < b.length → ∀ W', Below ((w6.setCell ⟨w.heap.size, 0, none⟩ (.int .i64 ((n + (acc ++ [(ckScan b).1]).length : Nat) : Int))).setCell ⟨w.heap.size, 1, none⟩ (.int .i64 ((first + cntS (acc ++ [(ckScan b).1]) : Nat) : Int))).heap.size ((w6.setCell ⟨w.heap.size, 0, none⟩ (.int .i64 ((n + (acc ++ [(ckScan b).1]).length : Nat) : Int))).setCell ⟨w.heap.size, 1, none⟩ (.int .i64 ((first + cntS (acc ++ [(ckScan b).1]) : Nat) : Int))) W' → ∃ Gk' Gdk' sv', RsTo D d n first g q G Gg gv w W' (acc ++ [(ckScan b).1]) ds Gk' Gdk' sv') := by
  obtain ⟨G6, sv6, k6, f6, n6⟩ := hq
  have hzW : w.heap.size < W.heap.size := block_lt b1
  have b6 := (f6.block _ hzW z1).trans b1
  have h64 := h.few
  have hwf := lk_wf h.ok hl
  have hlen := lk_len h.ok hl
  have ha := ckScan_all hwf
  have hle := ckScan_le b
  have hb2 : ∀ s ∈ acc ++ [(ckScan b).1], (ckAll s).length ≤ 16777216 := fun s hs2 => by
    rcases List.mem_append.1 hs2 with hs2 | hs2
    · exact h.byt s hs2
    · rw [List.mem_singleton.1 hs2, ha, List.length_take]; omega
  obtain ⟨ok2, hno⟩ := setG_lk h.ok hl hs
  have hat2 : ∀ i, i < (acc ++ [(ckScan b).1]).length → lkF ds (segN (n + i)) ≠ none := fun i hi e => by
    have h9 := hno _ e
    rw [List.length_append] at hi
    by_cases hlt : i < acc.length
    · exact h.at_ i hlt h9
    · obtain rfl : i = acc.length := by simp at hi; omega
      rw [hl] at h9
      cases h9
  have h65 := few_files ok2 n _ hat2
  have z6 : ¬ G6 w.heap.size := fun e => (n6 _ e).elim z1 (fun e => by omega)
  have f6w : Frm G w w6 := f1.trans f6 (fun i hi => n1 i hi)
  have n6w : ∀ b, G6 b → G b ∨ w.heap.size ≤ b := fun b hb => (n6 b hb).elim (n1 b) (fun e => .inr (by omega))
  have heq := h.eq
  rw [show 66 - acc.length = (65 - acc.length) + 1 by omega, readG_step hl hs, if_pos rfl] at heq
  refine ⟨k6.cell.2.2.2.2.2.1, by rw [cell_of_row w6 _ 0 _ _ _ b6]; rfl, by rw [cell_of_row w6 _ 1 _ _ _ b6]; rfl, Joins.unfrozen_of_block b6 0, Joins.unfrozen_of_block b6 1, fun hlt => ?_, fun hlt W' hW' => ?_⟩
  · rw [if_pos hlt] at heq
    exact ⟨_, ds, 0, G6, Gd1, sv6, heq, rfl, k6, f6w, n6w, ok2, rs_bd hn hf hb2 h65⟩
  · rw [if_neg hlt] at heq
    have hfz : ∀ x y : Value, Frm (fun b => b = w.heap.size) w6 ((w6.setCell ⟨w.heap.size, 0, none⟩ x).setCell ⟨w.heap.size, 1, none⟩ y) := fun x y => (Frm.set (F := fun b => b = w.heap.size) w6 w.heap.size 0 x rfl).trans (Frm.set (F := fun b => b = w.heap.size) _ w.heap.size 1 y rfl) (fun i hi => .inl hi)
    have hf7 := hfz (.int .i64 ((n + (acc ++ [(ckScan b).1]).length : Nat) : Int)) (.int .i64 ((first + cntS (acc ++ [(ckScan b).1]) : Nat) : Int))
    have b7 := Joins.block_setCell (i := 1) (Joins.block_setCell (i := 0) b6 (.int .i64 ((n + (acc ++ [(ckScan b).1]).length : Nat) : Int))) (.int .i64 ((first + cntS (acc ++ [(ckScan b).1]) : Nat) : Int))
    have gl7 := (Y.gl k6.dev).frm hf7 (fun b hb e => by
      subst hb
      have := gl0.lt e
      omega)
    have k7 := k6.frm Y hf7 (fun b hb e => z6 (by rw [← e]; exact hb)) gl7
    have R : RsTo D d n first g q G Gg gv w _ (acc ++ [(ckScan b).1]) ds G6 Gd1 sv6 := ⟨k7, by rw [heq, List.length_append, show 66 - (acc.length + [(ckScan b).1].length) = 65 - acc.length by simp], ok2, hat2, hb2, b7, z6, f6w.trans hf7 (fun i hi => .inr (by omega)), n6w⟩
    exact ⟨G6, Gd1, sv6, R.below Y hW'⟩
end
end Go.Proofs.YtbdhhmhlcdganaaGreatDoor
namespace Go.Proofs.YtbdhhmhlcdganaaGreatDoor
open Go.RowKit
set_option linter.unusedVariables false
set_option maxRecDepth 100000

def farC (w : World) (z N : Nat) : Nat := N - (match w.cell? ⟨z, 0, none⟩ with | some (.int _ v) => v.toNat | _ => 0)
theorem farC_eq {w : World} {z N k : Nat} (h : w.cell? ⟨z, 0, none⟩ = some (.int .i64 (k : Int))) : farC w z N = N - k := by unfold farC; rw [h]; simp
set_option maxHeartbeats 4000000 in
theorem reads14 {D : DevP} (Y : DevOkG D) {w : World} {G : Nat → Prop} {g q : Nat} {d : Dv} {n first : Nat} {Gd Gg : Nat → Prop} {gv : Value} (h : LgK D w G g q d (rsL n first []) Gd Gg (.slice none 0 0) gv []) (ok : Dv.Ok d) (hn1 : 1 ≤ n) (hn : n ≤ 999999999999) (hf : first ≤ 1099511627776) :
    Calls Tryz.prog 36 #[.pointer (some ⟨q, 0, none⟩)] w (RsEnd D d n first g q G Gg gv w) := by
  have HGL := Lib.hid (Y.dev.gl h.dev)
  have hq := h.lt q h.gq.1
  obtain ⟨_, c1, c2, _⟩ := h.cell
  obtain ⟨w0, hw0⟩ : ∃ w0, w.alloc (.cells #[.int .i64 (n : Nat), .int .i64 (first : Nat)] 67) = w0 := ⟨_, rfl⟩
  have HST : Hid (∃ dk Gk Gdk svk, RsTo D d n first g q G Gg gv w w0 [] dk Gk Gdk svk) := Lib.hid (by
    have hb : Below w.heap.size w w0 := by rw [← hw0]; exact bel_alloc _ _
    exact ⟨d, G, Gd, _, h.below Y.dev hb, rfl, ok, fun i hi => absurd hi (by simp), fun s hs => (by cases hs), by rw [← hw0]; exact heap_alloc_new w _, fun e => by have := h.lt _ e; omega, Frm.of_below hb, fun b hb => .inl hb⟩)
  clear h ok
  go_enter Tryz.func36, Tryz.ntmps36
  go_wp2
  go_step3
  go_wp2
  go_step3
  go_wp2
  go_loopw [4, 5, 6, 7, 8] (fun _ _ _ _ _ wr => Hid (∃ acc dk Gk Gdk svk, RsTo D d n first g q G Gg gv w wr acc dk Gk Gdk svk)) (fun _ _ _ _ _ wr => farC wr w.heap.size (n + 66))
  case atStart => exact Lib.hid (by obtain ⟨dk, Gk, Gdk, svk, hh⟩ := HST.out; exact ⟨[], dk, Gk, Gdk, svk, hh⟩)
  case round =>
    obtain ⟨acc, dk, Gk, Gdk, svk, rs⟩ := hrel.out
    have h64 := rs.few
    have hcl := cnt_few acc rs.byt h64
    have RS := Lib.hid rs
    have hzx := rs.box
    have z0 : wr.cell? ⟨w.heap.size, 0, none⟩ = some (.int .i64 ((n + acc.length : Nat) : Int)) := by rw [cell_of_row wr _ 0 _ _ _ hzx]; rfl
    have hfar : Hid (farC wr w.heap.size (n + 66) = 66 - acc.length) := Lib.hid (by rw [farC_eq z0]; omega)
    have HCE : Hid (∀ W, Below wr.heap.size wr W → W.cell? ⟨q, 0, none⟩ = some (.pointer (some ⟨g, 0, none⟩)) ∧ W.cell? ⟨w.heap.size, 0, none⟩ = some (.int .i64 ((n + acc.length : Nat) : Int)) ∧ W.cell? ⟨w.heap.size, 1, none⟩ = some (.int .i64 ((first + cntS acc : Nat) : Int))) := Lib.hid fun W hW => by
      have r2 := RS.out.below Y.dev hW
      have hb := r2.box
      exact ⟨r2.lg.cell.1, by rw [cell_of_row W _ 0 _ _ _ hb]; rfl, by rw [cell_of_row W _ 1 _ _ _ hb]; rfl⟩
    have HFI : Hid (∀ W, Below wr.heap.size wr W → Calls Tryz.prog 50 #[.agg #[.int .i64 ((n + acc.length : Nat) : Int), .int .i64 ((first + cntS acc : Nat) : Int)]] W fun e w' => e = .returned (.string (segN (n + acc.length))) ∧ Below wr.heap.size wr w' ∧ w'.cell? ⟨q, 0, none⟩ = some (.pointer (some ⟨g, 0, none⟩)) ∧ w'.cell? ⟨w.heap.size, 0, none⟩ = some (.int .i64 ((n + acc.length : Nat) : Int)) ∧ w'.cell? ⟨w.heap.size, 1, none⟩ = some (.int .i64 ((first + cntS acc : Nat) : Int))) := Lib.hid fun W hW => by
      refine (file_any (n + acc.length) _ (by omega) (by omega) W ((Y.dev.gl RS.out.lg.dev).below hW)).mono ?_
      rintro e w' ⟨he, hb⟩
      have hb2 := hW.trans (hb.mono hW.size)
      exact ⟨he, hb2, HCE.out w' hb2⟩
    have HRD : Hid (∀ W, Below wr.heap.size wr W → Calls Tryz.prog 69 #[.pointer (some ⟨g, 0, none⟩), .string (segN (n + acc.length))] W fun e w' => ∃ A c, e = .returned (.tuple #[.slice A (readL dk (segN (n + acc.length))).length c, .int .i64 (readE dk (segN (n + acc.length)))]) ∧ (w'.cell? ⟨q, 0, none⟩ = some (.pointer (some ⟨g, 0, none⟩)) ∧ w'.cell? ⟨w.heap.size, 0, none⟩ = some (.int .i64 ((n + acc.length : Nat) : Int)) ∧ w'.cell? ⟨w.heap.size, 1, none⟩ = some (.int .i64 ((first + cntS acc : Nat) : Int))) ∧ Row .u8 w' w'.heap.size A (readL dk (segN (n + acc.length))) ∧ (readL dk (segN (n + acc.length))).length ≤ c ∧ Below wr.heap.size wr w') := Lib.hid fun W hW => by
      refine (Y.read (segN (n + acc.length)) (Y.dev.below RS.out.lg.dev hW) RS.out.ok).mono ?_
      rintro e w' ⟨v, he, hv, hb⟩
      have hb2 := hW.trans (hb.mono hW.size)
      obtain ⟨A, c, rfl, r1, r2, r3⟩ := hv.own.row (fun x hx => by
        rw [readL_lk] at hx
        cases hl : lkF dk (segN (n + acc.length)) with
        | none => rw [hl] at hx; cases hx
        | some y => rw [hl] at hx; exact lk_wf RS.out.ok (show lkF dk _ = some (y.1, y.2) from hl) x hx)
      exact ⟨A, c, he, HCE.out w' hb2, r1, r2, hb2⟩
    have bd := below_drew (Below.refl wr.heap.size wr)
    obtain ⟨t0, t1, t2⟩ := HCE.out _ bd
    cases hl : lkF dk (segN (n + acc.length)) with
    | none =>
      have HEND : Hid (∀ W, Below wr.heap.size wr W → RsEnd D d n first g q G Gg gv w (.returned (.int .i64 0)) W) := Lib.hid fun W hW => (RS.out.below Y.dev hW).stop hn hf hl
      rw [readE_lk, readL_lk, hl] at HRD
      simp only [if_true, Option.map_none, Option.getD_none, List.length_nil] at HRD
      generalize n + acc.length = N at *
      generalize first + cntS acc = B at *
      clear rs hl hrel hzx z0 RS
      go_wp2
      go_region_held3 (fun w9 => w9.cell? ⟨q, 0, none⟩ = some (.pointer (some ⟨g, 0, none⟩)) ∧ w9.cell? ⟨w.heap.size, 0, none⟩ = some (.int .i64 (N : Nat)) ∧ w9.cell? ⟨w.heap.size, 1, none⟩ = some (.int .i64 (B : Nat))) (exact ⟨by assumption, by assumption, by assumption⟩) (first
        | (go_at_call 50; refine (HFI.out _ bd).mono ?_; rintro e w2 ⟨rfl, b2, u0, u1, u2⟩)
        | (go_at_call 69; refine (HRD.out _ b2).mono ?_; rintro e w3 ⟨A3, c3, rfl, ⟨v0, v1, v2⟩, r3, l3, b3⟩; have HB3 := Lib.hid b3; clear b3 r3 l3)
        | fail)
      go_wp2
      (try rw [Exit.noGoto_ret])
      go_ret
      exact HEND.out _ HB3.out
    | some x =>
      obtain ⟨b, y⟩ := x
      have hwf := lk_wf rs.ok hl
      have hlen := lk_len rs.ok hl
      have hle := ckScan_le b
      have hfe := ckScan_few b
      obtain ⟨ds, es, hs⟩ : ∃ ds es, setG dk (segN (n + acc.length)) (ckScan b).2 b.length = (ds, es) := ⟨_, _, rfl⟩
      have hbd := rs_bd (acc := acc) hn hf rs.byt h64
      obtain ⟨As, cs, hsv, _⟩ := rs.lg.slice hbd
      subst hsv
      have e1 : readE dk (segN (n + acc.length)) = 0 := by rw [readE_lk, hl]; rfl
      have e2 : readL dk (segN (n + acc.length)) = b := by rw [readL_lk, hl]; rfl
      rw [e1, e2] at HRD
      have HSC : Hid (∀ W A c, Row .u8 W W.heap.size A b → b.length ≤ c → Calls Tryz.prog 66 #[.slice A b.length c] W fun e w' => ∃ A' c', e = .returned (.tuple #[.slice A' (ckScan b).1.length c', .int .i64 ((ckScan b).2 : Nat)]) ∧ Below W.heap.size W w') := Lib.hid fun W A c hr hc => by
        refine (chScan_any A _ c b W hr rfl hc (by omega)).mono ?_
        rintro e w' ⟨v, he, hv, hb⟩
        obtain ⟨A', c', rfl, _⟩ := hv.len
        exact ⟨A', c', he, hb⟩
      have HSE : Hid (∀ W, Below wr.heap.size wr W → Calls Tryz.prog 72 #[.pointer (some ⟨g, 0, none⟩), .string (segN (n + acc.length)), .int .i64 ((ckScan b).2 : Nat), .int .i64 (b.length : Nat)] W fun e w' => e = .returned (.int .i64 es) ∧ (w'.cell? ⟨q, 0, none⟩ = some (.pointer (some ⟨g, 0, none⟩)) ∧ w'.cell? ⟨w.heap.size, 0, none⟩ = some (.int .i64 ((n + acc.length : Nat) : Int)) ∧ w'.cell? ⟨w.heap.size, 1, none⟩ = some (.int .i64 ((first + cntS acc : Nat) : Int))) ∧ Hid (∃ G1 Gd1, LgK D w' G1 g q ds (rsL n first acc) Gd1 Gg (.slice As acc.length cs) gv [] ∧ Frm G w w' ∧ (∀ b, G1 b → G b ∨ w.heap.size ≤ b) ∧ ¬ G1 w.heap.size ∧ w'.heap[w.heap.size]? = some (.cells #[.int .i64 ((n + acc.length : Nat) : Int), .int .i64 ((first + cntS acc : Nat) : Int)] 67 (0, 0))) ∧ (es ≠ 0 → RsEnd D d n first g q G Gg gv w (.returned (.int .i64 es)) w')) := Lib.hid fun W hW => by
        refine (settle14 Y (Y.dev.below RS.out.lg.dev hW) RS.out.ok (segN (n + acc.length)) (ckScan b).2 b.length (by omega) hlen).mono ?_
        rintro e w' ⟨he, Gd', hd⟩
        rw [hs] at he hd
        obtain ⟨k1, k2, k3, k4, k5, k6⟩ := RS.out.settled Y.dev hn hf hl hs hW hd
        exact ⟨he, ⟨k1.cell.1, by rw [cell_of_row w' _ 0 _ _ _ k5]; rfl, by rw [cell_of_row w' _ 1 _ _ _ k5]; rfl⟩, Lib.hid ⟨_, _, k1, k2, k3, k4, k5⟩, k6⟩
      by_cases hes : es = 0
      case neg =>
        have i2 : (es == 0) = false := by simpa using hes
        have i3 : (es != 0) = true := by simpa using hes
        have HEE : Hid (∀ w', (es ≠ 0 → RsEnd D d n first g q G Gg gv w (.returned (.int .i64 es)) w') → RsEnd D d n first g q G Gg gv w (.returned (.int .i64 es)) w') := Lib.hid fun w' hh => hh hes
        generalize (ckScan b).1.length = L at *
        generalize (ckScan b).2 = M at *
        generalize b.length = K at *
        generalize n + acc.length = N at *
        generalize first + cntS acc = B at *
        clear rs hl hrel hzx z0 RS hwf hs hbd e1 e2 hes
        go_wp2
        go_region_held3 (fun w9 => w9.cell? ⟨q, 0, none⟩ = some (.pointer (some ⟨g, 0, none⟩)) ∧ w9.cell? ⟨w.heap.size, 0, none⟩ = some (.int .i64 (N : Nat)) ∧ w9.cell? ⟨w.heap.size, 1, none⟩ = some (.int .i64 (B : Nat))) (exact ⟨by assumption, by assumption, by assumption⟩) (first
          | (go_at_call 50; refine (HFI.out _ bd).mono ?_; rintro e w2 ⟨rfl, b2, u0, u1, u2⟩)
          | (go_at_call 69; refine (HRD.out _ b2).mono ?_; rintro e w3 ⟨A3, c3, rfl, ⟨v0, v1, v2⟩, r3, l3, b3⟩; have HS3 := Lib.hid (HSC.out w3 A3 c3 r3 l3); have HB3 := Lib.hid b3; clear b3 r3 l3)
          | fail)
        clear t0 t1 t2 u0 u1 u2 v0 v1 v2
        go_wp2_with fail
        refine HS3.out.mono ?_
        rintro e w4 ⟨A4, c4, rfl, b34⟩
        have b4 := HB3.out.trans (b34.mono HB3.out.size)
        have bd4 := below_drew b4
        obtain ⟨t0, t1, t2⟩ := HCE.out _ bd4
        clear b34 HS3
        go_wp2
        go_region_held3 (fun w9 => w9.cell? ⟨q, 0, none⟩ = some (.pointer (some ⟨g, 0, none⟩)) ∧ w9.cell? ⟨w.heap.size, 0, none⟩ = some (.int .i64 (N : Nat)) ∧ w9.cell? ⟨w.heap.size, 1, none⟩ = some (.int .i64 (B : Nat))) (exact ⟨by assumption, by assumption, by assumption⟩) (first
          | (go_at_call 50; refine (HFI.out _ bd4).mono ?_; rintro e w7 ⟨rfl, b7, u0, u1, u2⟩)
          | (go_at_call 72; refine (HSE.out _ b7).mono ?_; rintro e w8 ⟨rfl, ⟨v0, v1, v2⟩, hk5, kend⟩)
          | fail)
        have HQ := Lib.hid (HEE.out _ kend)
        clear kend hk5
        go_wp2
        (try rw [Exit.noGoto_ret])
        go_ret
        exact HQ.out
      subst hes
      have hlast : (ckAll (lastS (rsL n first (acc ++ [(ckScan b).1])))).length = (ckScan b).2 := by
        have : lastS (rsL n first (acc ++ [(ckScan b).1])) = (ckScan b).1 := by unfold lastS rsL; simp
        rw [this, ckScan_all hwf, List.length_take]
        omega
      have hcn : cntS (acc ++ [(ckScan b).1]) = cntS acc + (ckScan b).1.length := by rw [cntS_append]; simp [cntS]
      have hln : (acc ++ [(ckScan b).1]).length = acc.length + 1 := by simp
      have HAP : Hid (∀ W1 W, Hid (∃ G1 Gd1, LgK D W1 G1 g q ds (rsL n first acc) Gd1 Gg (.slice As acc.length cs) gv [] ∧ Frm G w W1 ∧ (∀ b, G1 b → G b ∨ w.heap.size ≤ b) ∧ ¬ G1 w.heap.size ∧ W1.heap[w.heap.size]? = some (.cells #[.int .i64 ((n + acc.length : Nat) : Int), .int .i64 ((first + cntS acc : Nat) : Int)] 67 (0, 0))) → Below W1.heap.size W1 W → ∃ A' n' c' w5 w6, (Builtin.append_ #[70, 70] 70 #[.slice As acc.length cs, .slice (some ⟨W.heap.size, 0, none⟩) 1 1]).run Tryz.prog (W.alloc (.cells #[.int .i64 ((n + acc.length : Nat) : Int), .int .i64 ((first + cntS acc : Nat) : Int)] 67)) = .ok (.slice A' n' c') w5 ∧
          w5.cell? ⟨q, 3, none⟩ = some (.slice As acc.length cs) ∧ w5.cell? ⟨q, 4, none⟩ = some (.int .i64 ((ckAll (lastS (rsL n first acc))).length : Nat)) ∧ w5.cell? ⟨q, 5, none⟩ = some (.int .i64 ((first + cntS acc : Nat) : Int)) ∧ w5.frozen? ⟨q, 3, none⟩ = false ∧ w5.frozen? ⟨q, 4, none⟩ = false ∧ w5.frozen? ⟨q, 5, none⟩ = false ∧
          (((w5.setCell ⟨q, 3, none⟩ (.slice A' n' c')).setCell ⟨q, 4, none⟩ (.int .i64 ((ckScan b).2 : Nat))).setCell ⟨q, 5, none⟩ (.int .i64 ((first + cntS (acc ++ [(ckScan b).1]) : Nat) : Int))) = w6 ∧
          w6.cell? ⟨q, 5, none⟩ = some (.int .i64 ((first + cntS (acc ++ [(ckScan b).1]) : Nat) : Int)) ∧ w6.cell? ⟨w.heap.size, 0, none⟩ = some (.int .i64 ((n + acc.length : Nat) : Int)) ∧ w6.cell? ⟨w.heap.size, 1, none⟩ = some (.int .i64 ((first + cntS acc : Nat) : Int)) ∧ w6.frozen? ⟨w.heap.size, 0, none⟩ = false ∧ w6.frozen? ⟨w.heap.size, 1, none⟩ = false ∧
          Hid ((ckScan b).2 < b.length → RsEnd D d n first g q G Gg gv w (.returned (.int .i64 0)) w6) ∧
          Hid (¬ (ckScan b).2 < b.length → ∀ W', Below ((w6.setCell ⟨w.heap.size, 0, none⟩ (.int .i64 ((n + (acc ++ [(ckScan b).1]).length : Nat) : Int))).setCell ⟨w.heap.size, 1, none⟩ (.int .i64 ((first + cntS (acc ++ [(ckScan b).1]) : Nat) : Int))).heap.size ((w6.setCell ⟨w.heap.size, 0, none⟩ (.int .i64 ((n + (acc ++ [(ckScan b).1]).length : Nat) : Int))).setCell ⟨w.heap.size, 1, none⟩ (.int .i64 ((first + cntS (acc ++ [(ckScan b).1]) : Nat) : Int))) W' → ∃ Gk' Gdk' sv', RsTo D d n first g q G Gg gv w W' (acc ++ [(ckScan b).1]) ds Gk' Gdk' sv')) := Lib.hid fun W1 W hk hW => by
        obtain ⟨G1, Gd1, k1, f1, n1, z1, b1⟩ := hk.out
        have hW2 := hW.alloc hW.size (.cells #[.int .i64 ((n + acc.length : Nat) : Int), .int .i64 ((first + cntS acc : Nat) : Int)] 67)
        have h2 := k1.below Y.dev hW2
        have hbox := box_two W 67 ((n + acc.length : Nat) : Int) ((first + cntS acc : Nat) : Int)
        have hlen2 : ((segL n first acc).length + 1) * 16 ≤ 140737488355328 := by rw [segL_len]; omega
        obtain ⟨v', w5, hrun, ho, hg⟩ := run_append_pt (P := Tryz.prog) (W.alloc (.cells #[.int .i64 ((n + acc.length : Nat) : Int), .int .i64 ((first + cntS acc : Nat) : Int)] 67)) 0 70 70 67 Tryz.underlying70 info_seg (.slice As acc.length cs) (segL n first acc) h2.own ⟨W.heap.size, 0, none⟩ 1 ((n + acc.length : Nat) : Int) ((first + cntS acc : Nat) : Int) hbox hlen2 (Nat.zero_le _)
        have hv := pt_app_block (P := Tryz.prog) (W.alloc (.cells #[.int .i64 ((n + acc.length : Nat) : Int), .int .i64 ((first + cntS acc : Nat) : Int)] 67)) 0 70 70 67 Tryz.underlying70 info_seg (.slice As acc.length cs) (segL n first acc) h2.own ⟨W.heap.size, 0, none⟩ 1 ((n + acc.length : Nat) : Int) ((first + cntS acc : Nat) : Int) hbox hlen2 hrun
        obtain ⟨A', n', c', rfl⟩ : ∃ A' n' c', v' = .slice A' n' c' := by
          rcases ho with ⟨rfl, _⟩ | ⟨g', cap, r, rfl, _⟩
          · exact ⟨_, _, _, rfl⟩
          · exact ⟨_, _, _, rfl⟩
        have b0 : w5.heap[q]? = _ := (hg.block q (h2.lt q h2.gq.1) (fun e => (h2.sblk q e.symm).2.2 rfl)).trans h2.box
        have hst := h2.grown1 Y.dev (l' := rsL n first (acc ++ [(ckScan b).1])) rfl rfl rfl (segL_app n first acc (ckScan b).1) hlast (show nextG (rsL n first (acc ++ [(ckScan b).1])) = first + cntS (acc ++ [(ckScan b).1]) from rfl) rfl ho hg hv
        have hgo := RS.out.go Y.dev HGL.out hn hf hl hs (W := W.alloc (.cells #[.int .i64 ((n + acc.length : Nat) : Int), .int .i64 ((first + cntS acc : Nat) : Int)] 67)) (f1.trans (Frm.of_below (F := fun _ => False) hW2) (fun _ e => e.elim)) n1 z1 ((hW2.block _ (block_lt b1)).trans b1) hst
        obtain ⟨g1, g2, g3, g4, g5, g6, g7⟩ := hgo
        refine ⟨A', n', c', w5, _, hrun, ?_, ?_, ?_, Joins.unfrozen_of_block b0 3, Joins.unfrozen_of_block b0 4, Joins.unfrozen_of_block b0 5, rfl, g1, g2, g3, g4, g5, Lib.hid g6, Lib.hid g7⟩
        · rw [cell_of_row w5 q 3 _ _ _ b0]; rfl
        · rw [cell_of_row w5 q 4 _ _ _ b0]; rfl
        · rw [cell_of_row w5 q 5 _ _ _ b0]; rfl
      have HKC : Hid (∀ W1 W, Hid (∃ G1 Gd1, LgK D W1 G1 g q ds (rsL n first acc) Gd1 Gg (.slice As acc.length cs) gv [] ∧ Frm G w W1 ∧ (∀ b, G1 b → G b ∨ w.heap.size ≤ b) ∧ ¬ G1 w.heap.size ∧ W1.heap[w.heap.size]? = some (.cells #[.int .i64 ((n + acc.length : Nat) : Int), .int .i64 ((first + cntS acc : Nat) : Int)] 67 (0, 0))) → Below W1.heap.size W1 W → W.cell? ⟨q, 3, none⟩ = some (.slice As acc.length cs) ∧ W.cell? ⟨w.heap.size, 0, none⟩ = some (.int .i64 ((n + acc.length : Nat) : Int)) ∧ W.cell? ⟨w.heap.size, 1, none⟩ = some (.int .i64 ((first + cntS acc : Nat) : Int)) ∧ q < W.heap.size) := Lib.hid fun W1 W hk hW => by
        obtain ⟨G1, Gd1, k1, f1, n1, z1, b1⟩ := hk.out
        have k2 := k1.below Y.dev hW
        have b2 := (hW.block _ (block_lt b1)).trans b1
        exact ⟨k2.cell.2.2.2.1, by rw [cell_of_row W _ 0 _ _ _ b2]; rfl, by rw [cell_of_row W _ 1 _ _ _ b2]; rfl, k2.lt q k2.gq.1⟩
      have w1' : IntKind.i64.wrap (((first + cntS acc : Nat) : Int) + ((ckScan b).1.length : Int)) = ((first + cntS (acc ++ [(ckScan b).1]) : Nat) : Int) := by rw [IntKind.wrap_i64, hcn]; omega
      have w2' : IntKind.i64.wrap (((n + acc.length : Nat) : Int) + 1) = ((n + (acc ++ [(ckScan b).1]).length : Nat) : Int) := by rw [IntKind.wrap_i64, hln]; omega
      have HFA : Hid (∀ W', (∃ Gk' Gdk' sv', RsTo D d n first g q G Gg gv w W' (acc ++ [(ckScan b).1]) ds Gk' Gdk' sv') → Hid (∃ acc dk Gk Gdk svk, RsTo D d n first g q G Gg gv w W' acc dk Gk Gdk svk) ∧ farC W' w.heap.size (n + 66) < farC wr w.heap.size (n + 66)) := Lib.hid fun W' ⟨Gk', Gdk', sv', r⟩ => by
        have h65 := r.few
        have hb := r.box
        have z9 : W'.cell? ⟨w.heap.size, 0, none⟩ = some (.int .i64 ((n + (acc ++ [(ckScan b).1]).length : Nat) : Int)) := by rw [cell_of_row W' _ 0 _ _ _ hb]; rfl
        refine ⟨Lib.hid ⟨_, _, _, _, _, r⟩, ?_⟩
        rw [hfar.out, farC_eq z9, hln]
        rw [hln] at h65
        omega
      by_cases hlt : (ckScan b).2 < b.length
      · have i7 : (((ckScan b).2 : Nat) : Int) < (b.length : Int) := by omega
        have HSTOP : Hid (∀ w6, Hid ((ckScan b).2 < b.length → RsEnd D d n first g q G Gg gv w (.returned (.int .i64 0)) w6) → RsEnd D d n first g q G Gg gv w (.returned (.int .i64 0)) w6) := Lib.hid fun w6 hh => hh.out hlt
        clear hs hlast hcn hln hlt HFA hfar
        generalize first + cntS (acc ++ [(ckScan b).1]) = B2 at *
        generalize n + (acc ++ [(ckScan b).1]).length = N2 at *
        clear rs hl hrel hzx z0 RS hwf hbd e1 e2
        generalize (ckScan b).1.length = L at *
        generalize (ckScan b).2 = M at *
        generalize b.length = K at *
        generalize n + acc.length = N at *
        generalize first + cntS acc = B at *
        go_wp2
        go_region_held3 (fun w9 => w9.cell? ⟨q, 0, none⟩ = some (.pointer (some ⟨g, 0, none⟩)) ∧ w9.cell? ⟨w.heap.size, 0, none⟩ = some (.int .i64 (N : Nat)) ∧ w9.cell? ⟨w.heap.size, 1, none⟩ = some (.int .i64 (B : Nat))) (exact ⟨by assumption, by assumption, by assumption⟩) (first
          | (go_at_call 50; refine (HFI.out _ bd).mono ?_; rintro e w2 ⟨rfl, b2, u0, u1, u2⟩)
          | (go_at_call 69; refine (HRD.out _ b2).mono ?_; rintro e w3 ⟨A3, c3, rfl, ⟨v0, v1, v2⟩, r3, l3, b3⟩; have HS3 := Lib.hid (HSC.out w3 A3 c3 r3 l3); have HB3 := Lib.hid b3; clear b3 r3 l3)
          | fail)
        clear t0 t1 t2 u0 u1 u2 v0 v1 v2
        go_wp2_with fail
        refine HS3.out.mono ?_
        rintro e w4 ⟨A4, c4, rfl, b34⟩
        have b4 := HB3.out.trans (b34.mono HB3.out.size)
        have bd4 := below_drew b4
        obtain ⟨t0, t1, t2⟩ := HCE.out _ bd4
        clear b34 HS3
        go_wp2
        go_region_held3 (fun w9 => w9.cell? ⟨q, 0, none⟩ = some (.pointer (some ⟨g, 0, none⟩)) ∧ w9.cell? ⟨w.heap.size, 0, none⟩ = some (.int .i64 (N : Nat)) ∧ w9.cell? ⟨w.heap.size, 1, none⟩ = some (.int .i64 (B : Nat))) (exact ⟨by assumption, by assumption, by assumption⟩) (first
          | (go_at_call 50; refine (HFI.out _ bd4).mono ?_; rintro e w7 ⟨rfl, b7, u0, u1, u2⟩)
          | (go_at_call 72; refine (HSE.out _ b7).mono ?_; rintro e w8 ⟨rfl, ⟨v0, v1, v2⟩, hk5, kend⟩)
          | fail)
        clear kend
        obtain ⟨y3, y0, y1, yq⟩ := HKC.out w8 w8 hk5 (Below.refl _ _)
        have xa3 : (w8.alloc (.cells #[.int .i64 (N : Nat), .int .i64 (B : Nat)] 67)).cell? ⟨q, 3, none⟩ = some (.slice As acc.length cs) := (World.cell?_alloc_lt _ _ _ yq).trans y3
        clear v0 v1 v2 u0 u1 u2 t0 t1 t2
        go_wp2_with fail
        go_region_law (first
          | (obtain ⟨A', n', c', w5, w6, hrun, k3, k4, k5, z3, z4, z5, hw6, s5, s6, s7, s8, s9, fin1, fin2⟩ := HAP.out w8 (w8) hk5 (Below.refl _ _); refine step_append_ty ((w8).alloc (.cells #[.int .i64 (N : Nat), .int .i64 (B : Nat)] 67)) rfl (.tmp 47) (.tmp 49) 70 rfl (.slice As acc.length cs) (.slice (some ⟨w8.heap.size, 0, none⟩) 1 1) (.slice A' n' c') w5 rfl rfl hrun ?_; clear hrun)
          | (obtain ⟨A', n', c', w5, w6, hrun, k3, k4, k5, z3, z4, z5, hw6, s5, s6, s7, s8, s9, fin1, fin2⟩ := HAP.out w8 (w8.drew) hk5 (below_drew (Below.refl _ _)); refine step_append_ty ((w8.drew).alloc (.cells #[.int .i64 (N : Nat), .int .i64 (B : Nat)] 67)) rfl (.tmp 47) (.tmp 49) 70 rfl (.slice As acc.length cs) (.slice (some ⟨w8.heap.size, 0, none⟩) 1 1) (.slice A' n' c') w5 rfl rfl hrun ?_; clear hrun)
          | (obtain ⟨A', n', c', w5, w6, hrun, k3, k4, k5, z3, z4, z5, hw6, s5, s6, s7, s8, s9, fin1, fin2⟩ := HAP.out w8 (w8.drew.drew) hk5 (below_drew (below_drew (Below.refl _ _))); refine step_append_ty ((w8.drew.drew).alloc (.cells #[.int .i64 (N : Nat), .int .i64 (B : Nat)] 67)) rfl (.tmp 47) (.tmp 49) 70 rfl (.slice As acc.length cs) (.slice (some ⟨w8.heap.size, 0, none⟩) 1 1) (.slice A' n' c') w5 rfl rfl hrun ?_; clear hrun)
          | fail)
        all_goals
          have HQ := Lib.hid (HSTOP.out _ fin1)
          clear fin1 fin2
          go_wp2
          (try rw [Exit.noGoto_ret])
          go_ret
          exact HQ.out
      · have i7 : ¬ (((ckScan b).2 : Nat) : Int) < (b.length : Int) := by omega
        have HON : Hid (∀ w6 : World, Hid (¬ (ckScan b).2 < b.length → ∀ W', Below ((w6.setCell ⟨w.heap.size, 0, none⟩ (.int .i64 ((n + (acc ++ [(ckScan b).1]).length : Nat) : Int))).setCell ⟨w.heap.size, 1, none⟩ (.int .i64 ((first + cntS (acc ++ [(ckScan b).1]) : Nat) : Int))).heap.size ((w6.setCell ⟨w.heap.size, 0, none⟩ (.int .i64 ((n + (acc ++ [(ckScan b).1]).length : Nat) : Int))).setCell ⟨w.heap.size, 1, none⟩ (.int .i64 ((first + cntS (acc ++ [(ckScan b).1]) : Nat) : Int))) W' → ∃ Gk' Gdk' sv', RsTo D d n first g q G Gg gv w W' (acc ++ [(ckScan b).1]) ds Gk' Gdk' sv') →
            Hid (∃ ac2 dk Gk Gdk svk, RsTo D d n first g q G Gg gv w ((w6.setCell ⟨w.heap.size, 0, none⟩ (.int .i64 ((n + (acc ++ [(ckScan b).1]).length : Nat) : Int))).setCell ⟨w.heap.size, 1, none⟩ (.int .i64 ((first + cntS (acc ++ [(ckScan b).1]) : Nat) : Int))).drew ac2 dk Gk Gdk svk) ∧ Hid (farC ((w6.setCell ⟨w.heap.size, 0, none⟩ (.int .i64 ((n + (acc ++ [(ckScan b).1]).length : Nat) : Int))).setCell ⟨w.heap.size, 1, none⟩ (.int .i64 ((first + cntS (acc ++ [(ckScan b).1]) : Nat) : Int))).drew w.heap.size (n + 66) < farC wr w.heap.size (n + 66))) := Lib.hid fun w6 hh => by
          obtain ⟨h1, h2⟩ := HFA.out _ (hh.out hlt _ (below_drew (Below.refl _ _)))
          exact ⟨h1, Lib.hid h2⟩
        clear hs hlast hcn hln hlt HFA hfar
        generalize first + cntS (acc ++ [(ckScan b).1]) = B2 at *
        generalize n + (acc ++ [(ckScan b).1]).length = N2 at *
        clear rs hl hrel hzx z0 RS hwf hbd e1 e2
        generalize (ckScan b).1.length = L at *
        generalize (ckScan b).2 = M at *
        generalize b.length = K at *
        generalize n + acc.length = N at *
        generalize first + cntS acc = B at *
        go_wp2
        go_region_held3 (fun w9 => w9.cell? ⟨q, 0, none⟩ = some (.pointer (some ⟨g, 0, none⟩)) ∧ w9.cell? ⟨w.heap.size, 0, none⟩ = some (.int .i64 (N : Nat)) ∧ w9.cell? ⟨w.heap.size, 1, none⟩ = some (.int .i64 (B : Nat))) (exact ⟨by assumption, by assumption, by assumption⟩) (first
          | (go_at_call 50; refine (HFI.out _ bd).mono ?_; rintro e w2 ⟨rfl, b2, u0, u1, u2⟩)
          | (go_at_call 69; refine (HRD.out _ b2).mono ?_; rintro e w3 ⟨A3, c3, rfl, ⟨v0, v1, v2⟩, r3, l3, b3⟩; have HS3 := Lib.hid (HSC.out w3 A3 c3 r3 l3); have HB3 := Lib.hid b3; clear b3 r3 l3)
          | fail)
        clear t0 t1 t2 u0 u1 u2 v0 v1 v2
        go_wp2_with fail
        refine HS3.out.mono ?_
        rintro e w4 ⟨A4, c4, rfl, b34⟩
        have b4 := HB3.out.trans (b34.mono HB3.out.size)
        have bd4 := below_drew b4
        obtain ⟨t0, t1, t2⟩ := HCE.out _ bd4
        clear b34 HS3
        go_wp2
        go_region_held3 (fun w9 => w9.cell? ⟨q, 0, none⟩ = some (.pointer (some ⟨g, 0, none⟩)) ∧ w9.cell? ⟨w.heap.size, 0, none⟩ = some (.int .i64 (N : Nat)) ∧ w9.cell? ⟨w.heap.size, 1, none⟩ = some (.int .i64 (B : Nat))) (exact ⟨by assumption, by assumption, by assumption⟩) (first
          | (go_at_call 50; refine (HFI.out _ bd4).mono ?_; rintro e w7 ⟨rfl, b7, u0, u1, u2⟩)
          | (go_at_call 72; refine (HSE.out _ b7).mono ?_; rintro e w8 ⟨rfl, ⟨v0, v1, v2⟩, hk5, kend⟩)
          | fail)
        clear kend
        obtain ⟨y3, y0, y1, yq⟩ := HKC.out w8 w8 hk5 (Below.refl _ _)
        have xa3 : (w8.alloc (.cells #[.int .i64 (N : Nat), .int .i64 (B : Nat)] 67)).cell? ⟨q, 3, none⟩ = some (.slice As acc.length cs) := (World.cell?_alloc_lt _ _ _ yq).trans y3
        clear v0 v1 v2 u0 u1 u2 t0 t1 t2
        go_wp2_with fail
        go_region_law (first
          | (obtain ⟨A', n', c', w5, w6, hrun, k3, k4, k5, z3, z4, z5, hw6, s5, s6, s7, s8, s9, fin1, fin2⟩ := HAP.out w8 (w8) hk5 (Below.refl _ _); refine step_append_ty ((w8).alloc (.cells #[.int .i64 (N : Nat), .int .i64 (B : Nat)] 67)) rfl (.tmp 47) (.tmp 49) 70 rfl (.slice As acc.length cs) (.slice (some ⟨w8.heap.size, 0, none⟩) 1 1) (.slice A' n' c') w5 rfl rfl hrun ?_; clear hrun)
          | (obtain ⟨A', n', c', w5, w6, hrun, k3, k4, k5, z3, z4, z5, hw6, s5, s6, s7, s8, s9, fin1, fin2⟩ := HAP.out w8 (w8.drew) hk5 (below_drew (Below.refl _ _)); refine step_append_ty ((w8.drew).alloc (.cells #[.int .i64 (N : Nat), .int .i64 (B : Nat)] 67)) rfl (.tmp 47) (.tmp 49) 70 rfl (.slice As acc.length cs) (.slice (some ⟨w8.heap.size, 0, none⟩) 1 1) (.slice A' n' c') w5 rfl rfl hrun ?_; clear hrun)
          | (obtain ⟨A', n', c', w5, w6, hrun, k3, k4, k5, z3, z4, z5, hw6, s5, s6, s7, s8, s9, fin1, fin2⟩ := HAP.out w8 (w8.drew.drew) hk5 (below_drew (below_drew (Below.refl _ _))); refine step_append_ty ((w8.drew.drew).alloc (.cells #[.int .i64 (N : Nat), .int .i64 (B : Nat)] 67)) rfl (.tmp 47) (.tmp 49) 70 rfl (.slice As acc.length cs) (.slice (some ⟨w8.heap.size, 0, none⟩) 1 1) (.slice A' n' c') w5 rfl rfl hrun ?_; clear hrun)
          | fail)
        all_goals
          obtain ⟨hr1, hr2⟩ := HON.out _ fin2
          have HR2 := Lib.hid hr2
          clear fin1 fin2 hr2
          go_wp2
          go_region
          go_wp2
          go_roundw
          case rel => exact hr1
          case measure => exact HR2.out.out
end Go.Proofs.YtbdhhmhlcdganaaGreatDoor
namespace Go.Proofs.YtbdhhmhlcdganaaGreatDoor
open Go.RowKit
set_option linter.unusedVariables false
set_option maxRecDepth 100000

def OtEnd (D : DevP) (d : Dv) (n first g q : Nat) (acc : List (List (List Int))) (G Gg : Nat → Prop) (sv gv : Value) (w : World) (e : Ending) (w' : World) : Prop := ∃ d' E G' Gd', dropG n acc.length d (namesD d) = (d', E) ∧ e = .returned (.int .i64 E) ∧ LgK D w' G' g q d' (rsL n first acc) Gd' Gg sv gv [] ∧ Frm G w w' ∧ (∀ b, G' b → G b ∨ w.heap.size ≤ b) ∧ Dv.Ok d'
structure OtTo (D : DevP) (d : Dv) (n first g q : Nat) (acc : List (List (List Int))) (G Gg : Nat → Prop) (sv gv nv : Value) (w wr : World) (k : Nat) (dk : Dv) (Gk Gdk : Nat → Prop) : Prop where
  lg : LgK D wr Gk g q dk (rsL n first acc) Gdk Gg sv gv []
  eq : dropG n acc.length d (namesD d) = dropG n acc.length dk ((namesD d).drop k)
  ok : Dv.Ok dk
  at_ : ∀ s ∈ (namesD d).drop k, lkF dk s ≠ none
  own : TkOwn wr w.heap.size nv (namesD d)
  off : ∀ b, nv.ownBlock = some b → ¬ Gk b
  frm : Frm G w wr
  new : ∀ b, Gk b → G b ∨ w.heap.size ≤ b
section
variable {D : DevP} {d : Dv} {n first g q : Nat} {acc : List (List (List Int))} {G Gg : Nat → Prop} {sv gv nv : Value} {w wr : World} {k : Nat} {dk : Dv} {Gk Gdk : Nat → Prop}
theorem OtTo.below (Y : DevGl D) (h : OtTo D d n first g q acc G Gg sv gv nv w wr k dk Gk Gdk) {W : World} (hb : Below wr.heap.size wr W) : OtTo D d n first g q acc G Gg sv gv nv w W k dk Gk Gdk :=
  ⟨h.lg.below Y hb, h.eq, h.ok, h.at_, h.own.below hb (Nat.le_refl _), h.off, h.frm.trans (Frm.of_below (F := fun _ => False) hb) (fun _ e => e.elim), h.new⟩
theorem OtTo.skip (h : OtTo D d n first g q acc G Gg sv gv nv w wr k dk Gk Gdk) (hk : k < (namesD d).length) (hm : mineS n acc.length (namesD d)[k] = true) : OtTo D d n first g q acc G Gg sv gv nv w wr (k + 1) dk Gk Gdk :=
  ⟨h.lg, by rw [h.eq, List.drop_eq_getElem_cons hk]; unfold dropG; rw [if_pos hm]; cases (namesD d).drop (k + 1) <;> rfl, h.ok, fun s hs => h.at_ s (by rw [List.drop_eq_getElem_cons hk]; exact List.mem_cons_of_mem _ hs), h.own, h.off, h.frm, h.new⟩
theorem OtTo.done (h : OtTo D d n first g q acc G Gg sv gv nv w wr k dk Gk Gdk) (hk : (namesD d).length ≤ k) : OtEnd D d n first g q acc G Gg sv gv w (.returned (.int .i64 0)) wr := by
  have he := h.eq
  rw [List.drop_eq_nil_of_le hk] at he
  exact ⟨dk, 0, Gk, Gdk, he, rfl, h.lg, h.frm, h.new, h.ok⟩
theorem dropG_cons {d : Dv} {n k : Nat} {s : ByteArray} {t : List ByteArray} (hm : mineS n k s = false) : dropG n k d (s :: t) = if (remD d s).2 = 0 then dropG n k (remD d s).1 t else ((remD d s).1, 10) := by
  conv => lhs; unfold dropG
  rw [if_neg (by rw [hm]; decide)]
theorem OtTo.gone (Y : DevGl D) (h : OtTo D d n first g q acc G Gg sv gv nv w wr k dk Gk Gdk) (hok : Dv.Ok d) (hk : k < (namesD d).length) (hm : mineS n acc.length (namesD d)[k] = false) {d1 : Dv} {e1 : Int} (hr : remD dk (namesD d)[k] = (d1, e1)) {W w' : World} (hW : Below wr.heap.size wr W) {Gd' : Nat → Prop} (hd : Did D Gdk g d1 W w' Gd') :
    (e1 ≠ 0 → OtEnd D d n first g q acc G Gg sv gv w (.returned (.int .i64 e1)) w') ∧ (e1 = 0 → OtTo D d n first g q acc G Gg sv gv nv w w' (k + 1) d1 (fun b => Gk b ∨ Gd' b) Gd') := by
  have h2 := h.below Y hW
  have k1 := h2.lg.did Y hd
  have f1 : Frm G w w' := h2.frm.trans hd.2.1 (fun i hi => h.new i (h.lg.sub i hi))
  have n1 : ∀ b, Gk b ∨ Gd' b → G b ∨ w.heap.size ≤ b := fun b hb => hb.elim (h.new b) (fun e => (hd.2.2 b e).elim (fun e => h.new b (h.lg.sub b e)) (fun e => .inr (by have := h2.frm.size; omega)))
  have heq := h.eq
  rw [List.drop_eq_getElem_cons hk, dropG_cons hm, hr] at heq
  have hpr : lkF dk (namesD d)[k] ≠ none := h.at_ _ (by rw [List.drop_eq_getElem_cons hk]; exact List.mem_cons_self)
  obtain ⟨d2, e2, q2, ok2, h3⟩ := rem_step h.ok (namesD d)[k]
  rw [hr] at q2
  injection q2 with x1 x2
  subst x1 x2
  have hob : ∀ b, nv.ownBlock = some b → b < W.heap.size := fun b hb => by
    rcases h2.own with ⟨rfl, _⟩ | ⟨g9, n9, cap, r, rfl, _, _, h9, _⟩
    · cases hb
    · injection hb with hb
      subst hb
      exact block_lt h9
  refine ⟨fun he => ?_, fun he => ?_⟩
  · have h10 := rem_err h.ok hpr (by rw [hr]; exact he)
    rw [hr] at h10
    simp only [if_neg he] at heq
    exact ⟨d1, 10, _, _, heq, by rw [show e1 = 10 from h10], k1, f1, n1, ok2⟩
  · subst he
    simp only [if_true] at heq
    refine ⟨k1, heq, ok2, fun s hs hs2 => ?_, h2.own.frm hd.2.1 (fun b hb e => h.off b hb (h.lg.sub b e)), fun b hb e => e.elim (h.off b hb) (fun e => (hd.2.2 b e).elim (fun e => h.off b hb (h.lg.sub b e)) (fun e => by have := hob b hb; omega)), f1, n1⟩
    have hnd := nodup_names hok
    have hne : s ≠ (namesD d)[k] := fun e => by
      rw [e] at hs
      have h5 := (List.drop_sublist k (namesD d)).nodup hnd
      rw [List.drop_eq_getElem_cons hk] at h5
      exact (List.nodup_cons.1 h5).1 hs
    rcases h3 with ⟨hn, _⟩ | ⟨_, _, _, _, hkk⟩
    · exact absurd rfl hn.1
    · rw [hkk, if_neg hne] at hs2
      exact h.at_ s (by rw [List.drop_eq_getElem_cons hk]; exact List.mem_cons_of_mem _ hs) hs2
end
set_option maxHeartbeats 4000000 in
theorem others14 {D : DevP} (Y : DevOkG D) {w : World} {G : Nat → Prop} {g q : Nat} {d : Dv} {n first : Nat} {acc : List (List (List Int))} {Gd Gg : Nat → Prop} {sv gv : Value} (h : LgK D w G g q d (rsL n first acc) Gd Gg sv gv []) (ok : Dv.Ok d) (hbd : SgBd (rsL n first acc)) :
    Calls Tryz.prog 37 #[.pointer (some ⟨q, 0, none⟩)] w (OtEnd D d n first g q acc G Gg sv gv w) := by
  obtain ⟨As, cs, rfl, _, _, hcm⟩ := h.slice hbd
  have hfew : acc.length ≤ 64 := hbd.few
  have hn2 : n ≤ 999999999999 := hbd.n2
  have c0 := h.cell.1
  have hnl : (namesD d).length ≤ 64 := by unfold namesD; rw [List.length_map]; exact ok.ln
  have hsz : Hid (∀ k (hk : k < (namesD d).length), ((namesD d)[k]).size ≤ 16) := Lib.hid fun k hk => by
    have := names_mem.1 (List.getElem_mem hk)
    cases hl : lkF d (namesD d)[k] with
    | none => exact absurd hl this
    | some x => exact lk_name ok hl
  have HNM : Hid (Calls Tryz.prog 23 #[.pointer (some ⟨g, 0, none⟩)] w fun e w' => ∃ A c, e = .returned (.slice A (namesD d).length c) ∧ OtTo D d n first g q acc G Gg (.slice As acc.length cs) gv (.slice A (namesD d).length c) w w' 0 d G Gd) := Lib.hid (by
    refine (Y.names h.dev ok).mono ?_
    rintro e w' ⟨v, he, hv, hb⟩
    obtain ⟨A, c, rfl⟩ := hv.letters
    refine ⟨A, c, he, h.below Y.dev hb, rfl, ok, fun s hs => names_mem.1 hs, hv, fun b hb2 e => ?_, Frm.of_below hb, fun b hb => .inl hb⟩
    have := (hv.own.lt b hb2).1
    have := h.lt b e
    omega)
  have OK := Lib.hid ok
  clear h ok hbd hcm
  go_enter Tryz.func37, Tryz.ntmps37
  go_wp2_with fail
  refine HNM.out.mono ?_
  rintro e w1 ⟨An, cn, rfl, ot1⟩
  have HST := Lib.hid ot1
  clear ot1 HNM
  obtain ⟨L, hL⟩ : ∃ L, Hid ((namesD d).length = L) := ⟨_, Lib.hid rfl⟩
  rw [hL.out] at hnl HST ⊢
  go_wp2
  go_loopw [4, 5, 6, 13] (fun _ _ _ i wr => ∃ k : Nat, k ≤ L ∧ i = .int .i64 (k : Int) ∧ Hid (∃ dk Gk Gdk, OtTo D d n first g q acc G Gg (.slice As acc.length cs) gv (.slice An L cn) w wr k dk Gk Gdk)) (fun _ _ _ i _ => L - (intOf i).toNat)
  case atStart => exact ⟨0, Nat.zero_le _, rfl, Lib.hid ⟨_, _, _, HST.out⟩⟩
  case round =>
    obtain ⟨k, hk, rfl, hot⟩ := hrel
    obtain ⟨dk, Gk, Gdk, ot⟩ := hot.out
    have OT := Lib.hid ot
    clear ot hot
    by_cases hlt : k < L
    · have hkl : Hid (k < (namesD d).length) := Lib.hid (by rw [hL.out]; exact hlt)
      obtain ⟨bn, cap, hv, hbn1, hbn2, hc1, hc2, cx, _⟩ := OT.out.own.own.elem hkl.out
      injection hv with hv1 hv2 hv3
      subst hv1 hv3
      have HSG : Hid (∀ W, Below wr.heap.size wr W → Calls Tryz.prog 73 #[.string ((namesD d)[k]'hkl.out)] W fun e w' => e = .returned (.int .i64 (numS ((namesD d)[k]'hkl.out) : Nat)) ∧ Below wr.heap.size wr w' ∧ w'.cell? ⟨q, 0, none⟩ = some (.pointer (some ⟨g, 0, none⟩)) ∧ w'.cell? ⟨q, 1, none⟩ = some (.int .i64 (n : Nat)) ∧ w'.cell? ⟨q, 3, none⟩ = some (.slice As acc.length cs)) := Lib.hid fun W hW => by
        refine (segOf_any _ (hsz.out k hkl.out) W ((Y.dev.gl OT.out.lg.dev).below hW)).mono ?_
        rintro e w' ⟨he, hb⟩
        have hb2 := hW.trans (hb.mono hW.size)
        obtain ⟨x0, x1, _, x3, _⟩ := (OT.out.lg.below Y.dev hb2).cell
        exact ⟨he, hb2, x0, x1, x3⟩
      have HMI : Hid (mineS n acc.length ((namesD d)[k]'hkl.out) = decide (numS ((namesD d)[k]'hkl.out) = 0 ∨ (n ≤ numS ((namesD d)[k]'hkl.out) ∧ numS ((namesD d)[k]'hkl.out) < n + acc.length))) := Lib.hid (mineS_num _ _ _)
      have HSK : Hid (mineS n acc.length ((namesD d)[k]'hkl.out) = true → ∀ W, Below wr.heap.size wr W → Hid (∃ dk Gk Gdk, OtTo D d n first g q acc G Gg (.slice As acc.length cs) gv (.slice (some ⟨bn, 0, none⟩) L cn) w W (k + 1) dk Gk Gdk)) := Lib.hid fun hm W hW => Lib.hid ⟨_, _, _, (OT.out.below Y.dev hW).skip hkl.out hm⟩
      obtain ⟨d1, e1, q1, ok1, hst1⟩ := rem_step OT.out.ok ((namesD d)[k]'hkl.out)
      have HRM : Hid (mineS n acc.length ((namesD d)[k]'hkl.out) = false → ∀ W, Below wr.heap.size wr W → Calls Tryz.prog 68 #[.pointer (some ⟨g, 0, none⟩), .string ((namesD d)[k]'hkl.out)] W fun e w' => e = .returned (.int .i64 e1) ∧ Hid (e1 ≠ 0 → OtEnd D d n first g q acc G Gg (.slice As acc.length cs) gv w (.returned (.int .i64 e1)) w') ∧ Hid (e1 = 0 → ∃ dk Gk Gdk, OtTo D d n first g q acc G Gg (.slice As acc.length cs) gv (.slice (some ⟨bn, 0, none⟩) L cn) w w' (k + 1) dk Gk Gdk)) := Lib.hid fun hm W hW => by
        refine (Y.remove _ (Y.dev.below OT.out.lg.dev hW) OT.out.ok).mono ?_
        rintro e w' ⟨he, Gd', hd⟩
        rw [q1] at he hd
        obtain ⟨r1, r2⟩ := OT.out.gone Y.dev OK.out hkl.out hm q1 hW hd
        exact ⟨he, Lib.hid r1, Lib.hid fun h0 => ⟨_, _, _, r2 h0⟩⟩
      have i1 : (k : Int) < (L : Int) := by omega
      have cx2 : wr.cell? ⟨bn, 0 + k, none⟩ = some (.string ((namesD d)[k]'hkl.out)) := by rw [Nat.zero_add]; exact cx
      generalize (namesD d)[k]'hkl.out = nm at *
      generalize acc.length = K at *
      have hnb : Hid (numS nm ≤ 1000000000000) := Lib.hid (by
        cases hs : isSeg nm with
        | false => rw [numS_zero hs]; omega
        | true => have := (seg_is hs).2.1; omega)
      obtain ⟨MI, hMI⟩ : ∃ MI : Int, Hid (MI = (numS nm : Int)) := ⟨_, Lib.hid rfl⟩
      have HSG2 : Hid (∀ W, Below wr.heap.size wr W → Calls Tryz.prog 73 #[.string nm] W fun e w' => e = .returned (.int .i64 MI) ∧ Below wr.heap.size wr w' ∧ w'.cell? ⟨q, 0, none⟩ = some (.pointer (some ⟨g, 0, none⟩)) ∧ w'.cell? ⟨q, 1, none⟩ = some (.int .i64 (n : Nat)) ∧ w'.cell? ⟨q, 3, none⟩ = some (.slice As K cs)) := Lib.hid (by rw [hMI.out]; exact HSG.out)
      clear hL hsz HST OT hkl HSG q1 ok1 hst1 OK hv2
      have w3' : IntKind.i64.wrap ((n : Int) + (K : Int)) = (n : Int) + (K : Int) := by rw [IntKind.wrap_i64]; omega
      by_cases h0 : numS nm = 0
      · have HS1 := Lib.hid (HSK.out (by rw [HMI.out]; exact decide_eq_true (.inl h0)))
        have a0 : (MI == 0) = true := by rw [hMI.out, h0]; rfl
        clear h0 hnb HMI hMI
        go_wp2_with fail
        refine (HSG2.out wr (Below.refl _ _)).mono ?_
        rintro e w2 ⟨rfl, b2, x0, x1, x3⟩
        have HS2 := Lib.hid (fun m : Nat => HS1.out _ (below_drewN b2 m))
        clear b2
        go_wp2
        go_quiet (fail)
        go_wp2
        go_roundw
        case rel => exact ⟨k + 1, by omega, by go_num, HS2.out _⟩
        case measure => simp [intOf]; omega
      have a0 : (MI == 0) = false := by rw [hMI.out]; simpa using h0
      by_cases h1 : n ≤ numS nm
      case neg =>
        have hmf : mineS n K nm = false := by rw [HMI.out]; exact decide_eq_false (by omega)
        have HR1 := Lib.hid (HRM.out hmf)
        have a1 : decide ((n : Int) ≤ MI) = false := by rw [decide_eq_false_iff_not, hMI.out]; omega
        clear h0 hnb HMI hMI hmf h1
        by_cases he : e1 = 0
        · subst he
          go_wp2_with fail
          refine (HSG2.out wr (Below.refl _ _)).mono ?_
          rintro e w2 ⟨rfl, b2, x0, x1, x3⟩
          have HRW := Lib.hid (fun m : Nat => HR1.out _ (below_drewN b2 m))
          clear b2
          go_wp2
          go_quiet (fail)
          go_wp2_with fail
          refine (HRW.out _).mono ?_
          rintro e w3 ⟨rfl, r1, r2⟩
          have HO := Lib.hid (r2.out (by first | trivial | rfl))
          clear r1 r2
          go_wp2
          go_roundw
          case rel => exact ⟨k + 1, by omega, by go_num, HO⟩
          case measure => simp [intOf]; omega
        · have i2 : (e1 == 0) = false := by simpa using he
          have i3 : (e1 != 0) = true := by simpa using he
          have HE0 := Lib.hid he
          clear he
          go_wp2_with fail
          refine (HSG2.out wr (Below.refl _ _)).mono ?_
          rintro e w2 ⟨rfl, b2, x0, x1, x3⟩
          have HRW := Lib.hid (fun m : Nat => HR1.out _ (below_drewN b2 m))
          clear b2
          go_wp2
          go_quiet (fail)
          go_wp2_with fail
          refine (HRW.out _).mono ?_
          rintro e w3 ⟨rfl, r1, r2⟩
          have HO := Lib.hid (r1.out HE0.out)
          clear r1 r2
          go_wp2
          go_ret
          exact HO.out
      have a1 : decide ((n : Int) ≤ MI) = true := by rw [decide_eq_true_iff, hMI.out]; omega
      by_cases h2 : numS nm < n + K
      · have HS1 := Lib.hid (HSK.out (by rw [HMI.out]; exact decide_eq_true (.inr ⟨h1, h2⟩)))
        have a2 : decide (MI < (n : Int) + (K : Int)) = true := by rw [decide_eq_true_iff, hMI.out]; omega
        clear h0 hnb HMI hMI h1 h2
        go_wp2_with fail
        refine (HSG2.out wr (Below.refl _ _)).mono ?_
        rintro e w2 ⟨rfl, b2, x0, x1, x3⟩
        have HS2 := Lib.hid (fun m : Nat => HS1.out _ (below_drewN b2 m))
        clear b2
        go_wp2
        go_quiet (fail)
        go_wp2
        go_roundw
        case rel => exact ⟨k + 1, by omega, by go_num, HS2.out _⟩
        case measure => simp [intOf]; omega
      · have hmf : mineS n K nm = false := by rw [HMI.out]; exact decide_eq_false (by omega)
        have HR1 := Lib.hid (HRM.out hmf)
        have a2 : decide (MI < (n : Int) + (K : Int)) = false := by rw [decide_eq_false_iff_not, hMI.out]; omega
        clear h0 hnb HMI hMI hmf h1 h2
        by_cases he : e1 = 0
        · subst he
          go_wp2_with fail
          refine (HSG2.out wr (Below.refl _ _)).mono ?_
          rintro e w2 ⟨rfl, b2, x0, x1, x3⟩
          have HRW := Lib.hid (fun m : Nat => HR1.out _ (below_drewN b2 m))
          clear b2
          go_wp2
          go_quiet (fail)
          go_wp2_with fail
          refine (HRW.out _).mono ?_
          rintro e w3 ⟨rfl, r1, r2⟩
          have HO := Lib.hid (r2.out (by first | trivial | rfl))
          clear r1 r2
          go_wp2
          go_roundw
          case rel => exact ⟨k + 1, by omega, by go_num, HO⟩
          case measure => simp [intOf]; omega
        · have i2 : (e1 == 0) = false := by simpa using he
          have i3 : (e1 != 0) = true := by simpa using he
          have HE0 := Lib.hid he
          clear he
          go_wp2_with fail
          refine (HSG2.out wr (Below.refl _ _)).mono ?_
          rintro e w2 ⟨rfl, b2, x0, x1, x3⟩
          have HRW := Lib.hid (fun m : Nat => HR1.out _ (below_drewN b2 m))
          clear b2
          go_wp2
          go_quiet (fail)
          go_wp2_with fail
          refine (HRW.out _).mono ?_
          rintro e w3 ⟨rfl, r1, r2⟩
          have HO := Lib.hid (r1.out HE0.out)
          clear r1 r2
          go_wp2
          go_ret
          exact HO.out
    · obtain rfl : k = L := by omega
      have HE := Lib.hid (OT.out.done (by rw [hL.out]; exact Nat.le_refl _))
      clear OT
      go_wp2
      go_ret
      exact HE.out
end Go.Proofs.YtbdhhmhlcdganaaGreatDoor
namespace Go.Proofs.YtbdhhmhlcdganaaGreatDoor
open Go.RowKit
set_option linter.unusedVariables false
set_option maxRecDepth 100000

def OpTo (D : DevP) (G : Nat → Prop) (g : Nat) (d : Dv) (w : World) (e : Ending) (w' : World) : Prop := ∃ d' o E, openG d = (d', o, E) ∧ ((o = none ∧ Stp D G g d' (.tuple #[.pointer none, .int .i64 E]) w e w') ∨ (∃ l q, o = some l ∧ LStp (KLg D) G g q d' l (.tuple #[.pointer (some ⟨q, 0, none⟩), .int .i64 E]) w e w'))
theorem openG_off {d : Dv} (h : d.off = true) : openG d = (d, none, 10) := by unfold openG; rw [if_pos h]
theorem openG_wipe {d d1 : Dv} {e1 : Int} (h : d.off = false) (q : wipeG d hnewN = (d1, e1)) (he : e1 ≠ 0) : openG d = (d1, none, 10) := by unfold openG; rw [if_neg (by rw [h]; simp), q, if_pos he]
theorem openG_head {d d1 : Dv} (h : d.off = false) (q : wipeG d hnewN = (d1, 0)) (hh : headG d1 = none) : openG d = (d1, none, 30) := by unfold openG; rw [if_neg (by rw [h]; simp), q, if_neg (by simp), hh]
theorem openG_read {d d1 d2 : Dv} {n f : Nat} {acc : List (List (List Int))} {E : Int} (h : d.off = false) (q : wipeG d hnewN = (d1, 0)) (hh : headG d1 = some (n, f)) (hr : readG 66 d1 n [] = (d2, acc, E)) (he : E ≠ 0) : openG d = (d2, none, E) := by unfold openG; rw [if_neg (by rw [h]; simp), q, if_neg (by simp), hh]; simp only; rw [hr, if_pos he]
theorem openG_drop {d d1 d2 d3 : Dv} {n f : Nat} {acc : List (List (List Int))} {E : Int} (h : d.off = false) (q : wipeG d hnewN = (d1, 0)) (hh : headG d1 = some (n, f)) (hr : readG 66 d1 n [] = (d2, acc, 0)) (hd : dropG n acc.length d2 (namesD d2) = (d3, E)) (he : E ≠ 0) : openG d = (d3, none, 10) := by unfold openG; rw [if_neg (by rw [h]; simp), q, if_neg (by simp), hh]; simp only; rw [hr, if_neg (by simp)]; simp only; rw [hd, if_pos he]
theorem openG_all {d d1 d2 d3 : Dv} {n f : Nat} {acc : List (List (List Int))} (h : d.off = false) (q : wipeG d hnewN = (d1, 0)) (hh : headG d1 = some (n, f)) (hr : readG 66 d1 n [] = (d2, acc, 0)) (hd : dropG n acc.length d2 (namesD d2) = (d3, 0)) : openG d = (d3, some ⟨n, f, acc, f + cntS acc⟩, 0) := by unfold openG; rw [if_neg (by rw [h]; simp), q, if_neg (by simp), hh]; simp only; rw [hr, if_neg (by simp)]; simp only; rw [hd, if_neg (by simp)]
theorem dropG_ten {n k : Nat} : ∀ (L : List ByteArray) (d : Dv) (d' : Dv) (E : Int), dropG n k d L = (d', E) → E ≠ 0 → E = 10
  | [], d, d', E, h, he => by unfold dropG at h; injection h with _ h; exact absurd h.symm he
  | s :: t, d, d', E, h, he => by
    unfold dropG at h
    split at h
    · exact dropG_ten t d d' E h he
    · split at h
      · exact dropG_ten t _ d' E h he
      · injection h with _ h; exact h.symm
theorem wipeG_ten {d : Dv} {s : ByteArray} (h : (wipeG d s).2 ≠ 0) : (wipeG d s).2 = 10 := by
  unfold wipeG at h ⊢
  split
  · rename_i h0; rw [if_pos h0] at h; exact absurd rfl h
  · split
    · rename_i h0 h1; rw [if_neg h0, if_pos h1] at h; exact absurd rfl h
    · rfl
theorem lgk_new {D : DevP} (Y : DevGl D) {W : World} {G : Nat → Prop} {g : Nat} {d : Dv} {n f : Nat} (h : D W G g d) : LgK D (W.alloc (.cells #[.pointer (some ⟨g, 0, none⟩), .int .i64 (n : Nat), .int .i64 (f : Nat), .slice none 0 0, .int .i64 0, .int .i64 (f : Nat), .int .i64 0, .slice none 0 0] 72)) (fun b => G b ∨ b = W.heap.size) g W.heap.size d (rsL n f []) G (fun _ => False) (.slice none 0 0) (.slice none 0 0) [] := by
  have hb := bel_alloc W (.cells #[.pointer (some ⟨g, 0, none⟩), .int .i64 (n : Nat), .int .i64 (f : Nat), .slice none 0 0, .int .i64 0, .int .i64 (f : Nat), .int .i64 0, .slice none 0 0] 72)
  refine ⟨Y.below h hb, fun b hb => .inl hb, fun b hb => hb.elim, ⟨.inr rfl, fun e => by have := Y.lt h _ e; omega⟩, heap_alloc_new W _, PtOwn.nil _ _ _, (fun b hb => by cases hb), Gone.nil _, rfl, fun b hb => ?_, fun b hb => ?_⟩
  · rcases hb with hb | rfl
    · have := Y.lt h b hb; simp; omega
    · simp
  · rcases hb with hb | rfl
    · exact Y.ng h b hb
    · intro e; have := (Y.gl h).lt e; omega
theorem stp_of_lgk {D : DevP} {w0 w W w' : World} {G G5 G' : Nat → Prop} {g q : Nat} {d : Dv} {l : Lg} {Gd Gg : Nat → Prop} {sv gv : Value} {gs : List (List Int)} (v : Value) (hf : Frm G w W) (hn : ∀ b, G5 b → G b ∨ w.heap.size ≤ b) (k : LgK D w' G' g q d l Gd Gg sv gv gs) (f : Frm G5 W w') (n : ∀ b, G' b → G5 b ∨ W.heap.size ≤ b) : Stp D G g d v w (.returned v) w' :=
  ⟨rfl, Gd, k.dev, hf.trans f hn, fun b hb => (n b (k.sub b hb)).elim (hn b) (fun e => .inr (Nat.le_trans hf.size e))⟩
set_option maxHeartbeats 2000000 in
theorem open14 {D : DevP} (Y : DevOkG D) {w : World} {G : Nat → Prop} {g : Nat} {d : Dv} (h : D w G g d) (ok : Dv.Ok d) : Calls Tryz.prog 10 #[.pointer (some ⟨g, 0, none⟩)] w (OpTo D G g d w) := by
  have HDN := Lib.hid (Y.down h ok)
  by_cases hoff : d.off = true
  · have HEND : Hid (∀ W, Below w.heap.size w W → OpTo D G g d w (.returned (.tuple #[.pointer none, .int .i64 10])) W) := Lib.hid fun W hW => ⟨d, none, 10, openG_off hoff, .inl ⟨rfl, Stp.same Y.dev h hW⟩⟩
    rw [hoff] at HDN
    clear h ok hoff
    go_enter Tryz.func10, Tryz.ntmps10
    go_wp2_with fail
    refine HDN.out.mono ?_
    rintro e w1 ⟨rfl, b1⟩
    have HE := Lib.hid (HEND.out w1 b1)
    clear b1
    go_wp2
    go_ret2
    exact HE.out
  have hoff' : d.off = false := by simpa using hoff
  rw [hoff'] at HDN
  obtain ⟨d1, e1, q1⟩ : ∃ d1 e1, wipeG d hnewN = (d1, e1) := ⟨_, _, rfl⟩
  have ok1 : Dv.Ok d1 := by
    have h9 : (wipeG d hnewN).1 = d1 := by rw [q1]
    rw [← h9]
    unfold wipeG
    split
    · exact ok
    · split <;> exact rem_ok ok hnewN
  have HWI : Hid (∀ W, Below w.heap.size w W → Calls Tryz.prog 34 #[.pointer (some ⟨g, 0, none⟩)] W fun e w' => e = .returned (.int .i64 e1) ∧ ∃ G2, Did D G g d1 W w' G2) := Lib.hid fun W hW => by
    refine (wipe14 Y (Y.dev.below h hW) ok hoff').mono ?_
    rintro e w' ⟨he, hd⟩
    rw [q1] at he hd
    exact ⟨he, hd⟩
  have HDD : Hid (∀ W w' G2, Below w.heap.size w W → Did D G g d1 W w' G2 → Frm G w w' ∧ ∀ b, G2 b → G b ∨ w.heap.size ≤ b) := Lib.hid fun W w' G2 hW hd => ⟨(Frm.of_below hW).trans hd.2.1 (fun i hi => .inl hi), fun b hb => (hd.2.2 b hb).imp id (fun e => Nat.le_trans hW.size e)⟩
  by_cases he1 : e1 = 0
  case neg =>
    have i2 : (e1 == 0) = false := by simpa using he1
    have i3 : (e1 != 0) = true := by simpa using he1
    have h10 : e1 = 10 := by
      have := wipeG_ten (d := d) (s := hnewN) (by rw [q1]; exact he1)
      rw [q1] at this
      exact this
    have HEND : Hid (∀ W w' G2, Below w.heap.size w W → Did D G g d1 W w' G2 → OpTo D G g d w (.returned (.tuple #[.pointer none, .int .i64 e1])) w') := Lib.hid fun W w' G2 hW hd => by
      obtain ⟨f1, n1⟩ := HDD.out W w' G2 hW hd
      refine ⟨d1, none, 10, openG_wipe hoff' q1 he1, .inl ⟨rfl, by rw [h10], G2, hd.1, f1, n1⟩⟩
    clear h ok hoff hoff' q1 ok1 he1 h10 HDD
    go_enter Tryz.func10, Tryz.ntmps10
    go_wp2_with fail
    refine HDN.out.mono ?_
    rintro e w1 ⟨rfl, b1⟩
    go_wp2_with fail
    refine (HWI.out w1 b1).mono ?_
    rintro e w2 ⟨rfl, G2, hd⟩
    have HE := Lib.hid (HEND.out w1 w2 G2 b1 hd)
    clear b1 hd
    go_wp2
    go_ret2
    exact HE.out
  subst he1
  have HHD : Hid (∀ W G2, D W G2 g d1 → Calls Tryz.prog 35 #[.pointer (some ⟨g, 0, none⟩)] W (HdTo d1 W)) := Lib.hid fun W G2 h2 => head14 Y h2 ok1
  cases hh : headG d1 with
  | none =>
    have HEND : Hid (∀ W w' G2 w3, Below w.heap.size w W → Did D G g d1 W w' G2 → Below w'.heap.size w' w3 → OpTo D G g d w (.returned (.tuple #[.pointer none, .int .i64 30])) w3) := Lib.hid fun W w' G2 w3 hW hd h3 => by
      obtain ⟨f1, n1⟩ := HDD.out W w' G2 hW hd
      exact ⟨d1, none, 30, openG_head hoff' q1 hh, .inl ⟨rfl, rfl, G2, Y.dev.below hd.1 h3, f1.trans (Frm.of_below (F := fun _ => False) h3) (fun _ e => e.elim), n1⟩⟩
    have HHD2 : Hid (∀ W G2, D W G2 g d1 → Calls Tryz.prog 35 #[.pointer (some ⟨g, 0, none⟩)] W fun e w' => e = .returned (.tuple #[.agg #[.int .i64 0, .int .i64 0], .int .i64 30]) ∧ Below W.heap.size W w') := Lib.hid fun W G2 h2 => by
      refine (HHD.out W G2 h2).mono ?_
      rintro e w' ⟨⟨n, f, E, he, hor⟩, hb⟩
      rcases hor with ⟨n', f', h9, _⟩ | ⟨_, rfl, rfl, rfl⟩
      · rw [hh] at h9; cases h9
      · exact ⟨he, hb⟩
    clear h ok hoff hoff' q1 ok1 HDD HHD hh
    go_enter Tryz.func10, Tryz.ntmps10
    go_wp2_with fail
    refine HDN.out.mono ?_
    rintro e w1 ⟨rfl, b1⟩
    go_wp2_with fail
    refine (HWI.out w1 b1).mono ?_
    rintro e w2 ⟨rfl, G2, hd⟩
    have HH2 := Lib.hid (HHD2.out w2 G2 hd.1)
    have HE := Lib.hid (fun w3 => HEND.out w1 w2 G2 w3 b1 hd)
    clear b1 hd
    go_wp2_with fail
    refine HH2.out.mono ?_
    rintro e w3 ⟨rfl, b3⟩
    have HE3 := Lib.hid (HE.out _ (b3.alloc b3.size (.cells #[.int .i64 0, .int .i64 0] 67)))
    clear b3
    go_wp2
    go_ret2
    exact HE3.out
  | some x =>
    obtain ⟨n, f⟩ := x
    obtain ⟨hn1, hn2, hf⟩ := headG_le hh
    have HHD2 : Hid (∀ W G2, D W G2 g d1 → Calls Tryz.prog 35 #[.pointer (some ⟨g, 0, none⟩)] W fun e w' => e = .returned (.tuple #[.agg #[.int .i64 (n : Nat), .int .i64 (f : Nat)], .int .i64 0]) ∧ Below W.heap.size W w') := Lib.hid fun W G2 h2 => by
      refine (HHD.out W G2 h2).mono ?_
      rintro e w' ⟨⟨n', f', E, he, hor⟩, hb⟩
      rcases hor with ⟨n2, f2, h9, rfl, rfl, rfl⟩ | ⟨h9, _⟩
      · rw [hh] at h9
        injection h9 with h9
        injection h9 with h8 h9
        subst h8 h9
        exact ⟨he, hb⟩
      · rw [hh] at h9; cases h9
    have HOK := Lib.hid ok
    have HOK1 := Lib.hid ok1
    have HOFF := Lib.hid hoff'
    have HQ1 := Lib.hid q1
    have HHH := Lib.hid hh
    clear h ok hoff hoff' q1 ok1 HHD hh
    go_enter Tryz.func10, Tryz.ntmps10
    go_wp2_with fail
    refine HDN.out.mono ?_
    rintro e w1 ⟨rfl, b1⟩
    go_wp2_with fail
    refine (HWI.out w1 b1).mono ?_
    rintro e w2 ⟨rfl, G2, hd⟩
    have HH2 := Lib.hid (HHD2.out w2 G2 hd.1)
    obtain ⟨f2, n2⟩ := HDD.out w1 w2 G2 b1 hd
    have HD2 := Lib.hid hd.1
    clear b1 hd HDD
    go_wp2_with fail
    refine HH2.out.mono ?_
    rintro e w3 ⟨rfl, b3⟩
    obtain ⟨w4, hw4⟩ : ∃ w4, w3.alloc (.cells #[.int .i64 (n : Nat), .int .i64 (f : Nat)] 67) = w4 := ⟨_, rfl⟩
    have b34 : Below w3.heap.size w3 w4 := by rw [← hw4]; exact bel_alloc _ _
    have z4 : w4.heap.size = w3.heap.size + 1 := by rw [← hw4]; simp
    have b4 := b3.trans (b34.mono b3.size)
    have d4 := Y.dev.below HD2.out b4
    obtain ⟨w5, hw5⟩ : ∃ w5, w4.alloc (.cells #[.pointer (some ⟨g, 0, none⟩), .int .i64 (n : Nat), .int .i64 (f : Nat), .slice none 0 0, .int .i64 0, .int .i64 (f : Nat), .int .i64 0, .slice none 0 0] 72) = w5 := ⟨_, rfl⟩
    have k5 := lgk_new (n := n) (f := f) Y.dev d4
    rw [hw5, z4] at k5
    have b45 : Below w4.heap.size w4 w5 := by rw [← hw5]; exact bel_alloc _ _
    have f5 : Frm G w w5 := (f2.trans (Frm.of_below (F := fun _ => False) b4) (fun _ e => e.elim)).trans (Frm.of_below (F := fun _ => False) b45) (fun _ e => e.elim)
    have n5 : ∀ b, G2 b ∨ b = w3.heap.size + 1 → G b ∨ w.heap.size ≤ b := fun b hb => hb.elim (n2 b) (fun e => .inr (by have := f2.size; have := b4.size; omega))
    have HR := Lib.hid (reads14 Y k5 HOK1.out hn1 hn2 hf)
    have HF5 := Lib.hid f5
    have HN5 := Lib.hid n5
    have x40 : w4.cell? ⟨w3.heap.size, 0, none⟩ = some (.int .i64 (n : Nat)) := by rw [← hw4, World.cell?_alloc_at _ _ _ _ rfl]; rfl
    have x41 : w4.cell? ⟨w3.heap.size, 1, none⟩ = some (.int .i64 (f : Nat)) := by rw [← hw4, World.cell?_alloc_at _ _ _ _ rfl]; rfl
    clear k5 f5 n5 d4 b34 b45 f2 n2 b3 HH2
    go_wp2_with fail
    refine HR.out.mono ?_
    rintro e w6 ⟨acc, d2, E, G6, Gd6, sv6, hr6, rfl, k6, f6, n6, ok6, bd6⟩
    by_cases hE : E = 0
    case neg =>
      have i2 : (E == 0) = false := by simpa using hE
      have i3 : (E != 0) = true := by simpa using hE
      have HE := Lib.hid (show OpTo D G g d w (.returned (.tuple #[.pointer none, .int .i64 E])) w6 from ⟨d2, none, E, openG_read HOFF.out HQ1.out HHH.out hr6 hE, .inl ⟨rfl, stp_of_lgk (w0 := w) _ HF5.out HN5.out k6 f6 n6⟩⟩)
      clear hr6 k6 f6 n6 ok6 bd6 hE
      go_wp2
      go_ret2
      exact HE.out
    subst hE
    have f6w : Frm G w w6 := HF5.out.trans f6 HN5.out
    have n6w : ∀ b, G6 b → G b ∨ w.heap.size ≤ b := fun b hb => (n6 b hb).elim (HN5.out b) (fun e => .inr (Nat.le_trans HF5.out.size e))
    have HOT := Lib.hid (others14 Y k6 ok6 bd6)
    have HF6 := Lib.hid f6w
    have HN6 := Lib.hid n6w
    have HR6 := Lib.hid hr6
    clear k6 f6 n6 ok6 bd6 hr6 f6w n6w
    go_wp2_with fail
    refine HOT.out.mono ?_
    rintro e w7 ⟨d3, E, G7, Gd7, hd7, rfl, k7, f7, n7, ok7⟩
    by_cases hE : E = 0
    case neg =>
      have i2 : (E == 0) = false := by simpa using hE
      have i3 : (E != 0) = true := by simpa using hE
      have h10 := dropG_ten _ _ _ _ hd7 hE
      have HE := Lib.hid (show OpTo D G g d w (.returned (.tuple #[.pointer none, .int .i64 E])) w7 from ⟨d3, none, 10, openG_drop HOFF.out HQ1.out HHH.out HR6.out hd7 hE, .inl ⟨rfl, by rw [h10]; exact stp_of_lgk (w0 := w) _ HF6.out HN6.out k7 f7 n7⟩⟩)
      clear hd7 k7 f7 n7 ok7 hE h10
      go_wp2
      go_ret2
      exact HE.out
    subst hE
    have hop := openG_all HOFF.out HQ1.out HHH.out HR6.out hd7
    have at7 := (open_is HOK.out hop).2.2.1
    have k8 := k7.safe Y.dev (f + cntS acc)
    have f7w : Frm G w w7 := HF6.out.trans f7 HN6.out
    have n7w : ∀ b, G7 b → G b ∨ w.heap.size ≤ b := fun b hb => (n7 b hb).elim (HN6.out b) (fun e => .inr (Nat.le_trans HF6.out.size e))
    have HE := Lib.hid (show OpTo D G g d w (.returned (.tuple #[.pointer (some ⟨w3.heap.size + 1, 0, none⟩), .int .i64 0])) (w7.setCell ⟨w3.heap.size + 1, 6, none⟩ (.int .i64 ((f + cntS acc : Nat) : Int))) from ⟨d3, some ⟨n, f, acc, f + cntS acc⟩, 0, hop, .inr ⟨_, w3.heap.size + 1, rfl, rfl, _, ⟨_, _, _, _, _, k8, at7⟩, f7w.trans (Frm.set w7 (w3.heap.size + 1) 6 _ k7.gq.1) n7w, fun b hb => hb.elim (n7w b) (fun e => n7w b (k7.sblk b e).1)⟩⟩)
    have x5 := k7.cell.2.2.2.2.2.1
    have x6 := k7.cell.2.2.2.2.2.2.1
    have x5' : w7.cell? ⟨w3.heap.size + 1, 5, none⟩ = some (.int .i64 ((f + cntS acc : Nat) : Int)) := x5
    have x6' : w7.cell? ⟨w3.heap.size + 1, 6, none⟩ = some (.int .i64 0) := x6
    have xf := Joins.unfrozen_of_block k7.box 6
    clear hd7 k7 f7 n7 ok7 hop at7 k8 f7w n7w x5 x6 hw4 hw5 z4 x40 x41 b4
    generalize f + cntS acc = N at *
    generalize w3.heap.size + 1 = qq at *
    clear HF5 HN5 HF6 HN6 HR6 HOT HQ1 HHH HOFF HOK HOK1 HR HD2 HHD2 HWI HDN hn1 hn2 hf
    go_wp2
    go_ret2
    exact HE.out
end Go.Proofs.YtbdhhmhlcdganaaGreatDoor
namespace Go.Proofs.YtbdhhmhlcdganaaGreatDoor
open Go.RowKit
set_option linter.unusedVariables false
set_option maxRecDepth 100000

theorem SgAt.arm {d : Dv} {l : Lg} {k : Nat} (h : SgAt d l k) (n : Int) (hn : n < 9223372036854775808) : SgAt (armD d n) l k := by
  have e : lkF (armD d n) = lkF d := by unfold armD; split <;> rfl
  have eo : (armD d n).off = d.off := by unfold armD; split <;> rfl
  refine ⟨arm_ok h.ok n hn, by rw [e]; exact h.rd, h.mem, fun ho => ?_, h.n1, h.n2, h.few, h.fst, h.nxt, h.saf, h.emp, h.byt⟩
  obtain ⟨h1, h2⟩ := h.live (eo ▸ ho)
  exact ⟨h1, h2.of_lk (arm_ok h.ok n hn) (by rw [e])⟩
theorem logOk14 {D : DevP} (Y : DevOkG D) : LogOk D (KLg D) where
  frm := fun ⟨Gd, Gg, sv, gv, gs, h, ha⟩ hf hn gl => ⟨Gd, Gg, sv, gv, gs, h.frm Y.dev hf hn gl, ha⟩
  gl := fun ⟨_, _, _, _, _, h, _⟩ => Y.dev.gl h.dev
  lt := fun ⟨_, _, _, _, _, h, _⟩ => h.lt
  dev := fun ⟨Gd, _, _, _, _, h, ha⟩ => ⟨ha.ok, Gd, h.dev, h.sub⟩
  openNo := fun h ok he => (open14 Y h ok).mono fun e w' ⟨d2, o, E2, h1, h2⟩ => by
    rw [he] at h1
    injection h1 with h1 h3
    injection h3 with h3 h4
    subst h1 h3 h4
    rcases h2 with ⟨_, h2⟩ | ⟨l, q, h2, _⟩
    · exact h2
    · cases h2
  openYes := fun h ok he => (open14 Y h ok).mono fun e w' ⟨d2, o, E2, h1, h2⟩ => by
    rw [he] at h1
    injection h1 with h1 h3
    injection h3 with h3 h4
    subst h1 h3 h4
    rcases h2 with ⟨h2, _⟩ | ⟨l, q, h2, h5⟩
    · cases h2
    · injection h2 with h2
      subst h2
      have h0 := (open_is ok he).1
      exact ⟨q, h0 ▸ h5⟩
  append := fun A n c p hk hr hn _ _ hn4 _ he => append14 Y hk A n c p hr hn hn4 he
  sync := fun hk he => sync14 Y hk he
  arm := fun n ⟨Gd, Gg, sv, gv, gs, h, ha⟩ hn => (Y.arm n h.dev ha.ok hn).mono fun e w' ⟨he, Gd', h1, h2, h3⟩ => ⟨he, _, ⟨Gd', Gg, sv, gv, gs, h.did Y.dev ⟨h1, h2, h3⟩, ha.arm n hn.2⟩, h2.mono h.sub, fun b hb => hb.elim .inl fun hb => (h3 b hb).imp (h.sub b) id⟩
  first := fun ⟨_, _, _, _, _, h, _⟩ => first14 h
  next := fun ⟨_, _, _, _, _, h, _⟩ => next14 h
  safe := fun ⟨_, _, _, _, _, h, _⟩ => safe14 h
  segments := fun ⟨_, _, _, _, _, h, ha⟩ => segments14 h ha.bd
  get := fun n ⟨_, _, _, _, _, h, ha⟩ hn => get14 Y h ha n hn
end Go.Proofs.YtbdhhmhlcdganaaGreatDoor
namespace Go.Proofs.YtbdhhmhlcdganaaGreatDoor
open Go.Shelf Go.Proofs
def Tryz.sortStr_ren : Go.Shelf.Ren := ⟨fun | 190 => 53 | 125 => 79 | 258 => 78 | 128 => 123 | 129 => 124 | 302 => 114 | 303 => 115 | 304 => 116 | 305 => 117 | 306 => 118 | 307 => 119 | 308 => 120 | 309 => 121 | 310 => 122 | 333 => 151 | 329 => 152 | 330 => 153 | 334 => 154 | 335 => 155 | 336 => 156 | 344 => 178 | n => n, fun | 31 => 51 | 9 => 9 | 3 => 3 | 46 => 114 | 0 => 0 | 51 => 138 | 53 => 105 | 4 => 4 | 183 => 144 | 182 => 143 | 131 => 149 | 5 => 5 | 218 => 169 | 222 => 173 | 228 => 188 | 229 => 189 | n => n, fun | n => n⟩
theorem Tryz.sortStr : Go.Proofs.Lays.n190 Tryz.prog Tryz.sortStr_ren := {
  mixed := by kernel_rfl
  f125 := Tryz.func79.trans (congrArg some (by kernel_rfl))
  f128 := Tryz.func123.trans (congrArg some (by kernel_rfl))
  f129 := Tryz.func124.trans (congrArg some (by kernel_rfl))
  f190 := Tryz.func53.trans (congrArg some (by kernel_rfl))
  f258 := Tryz.func78.trans (congrArg some (by kernel_rfl))
  f302 := Tryz.func114.trans (congrArg some (by kernel_rfl))
  f303 := Tryz.func115.trans (congrArg some (by kernel_rfl))
  f304 := Tryz.func116.trans (congrArg some (by kernel_rfl))
  f305 := Tryz.func117.trans (congrArg some (by kernel_rfl))
  f306 := Tryz.func118.trans (congrArg some (by kernel_rfl))
  f307 := Tryz.func119.trans (congrArg some (by kernel_rfl))
  f308 := Tryz.func120.trans (congrArg some (by kernel_rfl))
  f309 := Tryz.func121.trans (congrArg some (by kernel_rfl))
  f310 := Tryz.func122.trans (congrArg some (by kernel_rfl))
  f329 := Tryz.func152.trans (congrArg some (by kernel_rfl))
  f330 := Tryz.func153.trans (congrArg some (by kernel_rfl))
  f333 := Tryz.func151.trans (congrArg some (by kernel_rfl))
  f334 := Tryz.func154.trans (congrArg some (by kernel_rfl))
  f335 := Tryz.func155.trans (congrArg some (by kernel_rfl))
  f336 := Tryz.func156.trans (congrArg some (by kernel_rfl))
  f344 := Tryz.func178.trans (congrArg some (by kernel_rfl))
  t0 := Tryz.underlying0
  a0 := Tryz.isAgg0
  z0 := Tryz.sizeOf0
  v0 := Tryz.zeroValue0
  t3 := Tryz.underlying3
  a3 := Tryz.isAgg3
  z3 := Tryz.sizeOf3
  v3 := Tryz.zeroValue3
  t4 := Tryz.underlying4
  a4 := Tryz.isAgg4
  z4 := Tryz.sizeOf4
  v4 := Tryz.zeroValue4
  t5 := Tryz.underlying5
  a5 := Tryz.isAgg5
  z5 := Tryz.sizeOf5
  v5 := Tryz.zeroValue5
  t9 := Tryz.underlying9
  a9 := Tryz.isAgg9
  z9 := Tryz.sizeOf9
  v9 := Tryz.zeroValue9
  t31 := Tryz.underlying51
  a31 := Tryz.isAgg51
  z31 := Tryz.sizeOf51
  v31 := Tryz.zeroValue51
  t46 := Tryz.underlying114
  a46 := Tryz.isAgg114
  z46 := Tryz.sizeOf114
  v46 := Tryz.zeroValue114
  t51 := Tryz.underlying138
  a51 := Tryz.isAgg138
  z51 := Tryz.sizeOf138
  v51 := Tryz.zeroValue138
  t53 := Tryz.underlying105
  a53 := Tryz.isAgg105
  z53 := Tryz.sizeOf105
  v53 := Tryz.zeroValue105
  t131 := Tryz.underlying149
  a131 := Tryz.isAgg149
  z131 := Tryz.sizeOf149
  v131 := Tryz.zeroValue149
  t182 := Tryz.underlying143
  a182 := Tryz.isAgg143
  z182 := Tryz.sizeOf143
  v182 := Tryz.zeroValue143
  t183 := Tryz.underlying144
  a183 := Tryz.isAgg144
  z183 := Tryz.sizeOf144
  v183 := Tryz.zeroValue144
  t218 := Tryz.underlying169
  a218 := Tryz.isAgg169
  z218 := Tryz.sizeOf169
  v218 := Tryz.zeroValue169
  t222 := Tryz.underlying173
  a222 := Tryz.isAgg173
  z222 := Tryz.sizeOf173
  v222 := Tryz.zeroValue173
  t228 := Tryz.underlying188
  a228 := Tryz.isAgg188
  z228 := Tryz.sizeOf188
  v228 := Tryz.zeroValue188
  t229 := Tryz.underlying189
  a229 := Tryz.isAgg189
  z229 := Tryz.sizeOf189
  v229 := Tryz.zeroValue189 }
def Tryz.cloneStr_ren : Go.Shelf.Ren := ⟨fun | 316 => 77 | n => n, fun | 9 => 9 | 3 => 3 | 4 => 4 | 37 => 47 | 0 => 0 | 127 => 141 | 5 => 5 | n => n, fun | n => n⟩
theorem Tryz.cloneStr : Go.Proofs.LaysM.n316 Tryz.prog Tryz.cloneStr_ren := {
  mixed := by kernel_rfl
  f316 := Tryz.func77.trans (congrArg some (by kernel_rfl))
  t0 := Tryz.underlying0
  a0 := Tryz.isAgg0
  z0 := Tryz.sizeOf0
  v0 := Tryz.zeroValue0
  t3 := Tryz.underlying3
  a3 := Tryz.isAgg3
  z3 := Tryz.sizeOf3
  v3 := Tryz.zeroValue3
  t4 := Tryz.underlying4
  a4 := Tryz.isAgg4
  z4 := Tryz.sizeOf4
  v4 := Tryz.zeroValue4
  t9 := Tryz.underlying9
  a9 := Tryz.isAgg9
  z9 := Tryz.sizeOf9
  v9 := Tryz.zeroValue9
  t37 := Tryz.underlying47
  a37 := Tryz.isAgg47
  z37 := Tryz.sizeOf47
  v37 := Tryz.zeroValue47
  t127 := Tryz.underlying141
  a127 := Tryz.isAgg141
  z127 := Tryz.sizeOf141
  v127 := Tryz.zeroValue141
  t5 := Tryz.underlying5
  a5 := Tryz.isAgg5
  z5 := Tryz.sizeOf5
  v5 := Tryz.zeroValue5
  i0 := by kernel_rfl
  i3 := by kernel_rfl
  i4 := by kernel_rfl
  i5 := by kernel_rfl
  i9 := by kernel_rfl
  i37 := by kernel_rfl
  i127 := by kernel_rfl }
end Go.Proofs.YtbdhhmhlcdganaaGreatDoor
namespace Go.Proofs.YtbdhhmhlcdganaaGreatDoor
open Go.RowKit Go.Maps
set_option linter.unusedVariables false
set_option maxRecDepth 100000

theorem isName_any (s : ByteArray) (w : World) : Calls Tryz.prog 39 #[.string s] w fun e w' => e = .returned (.bool (okN s)) ∧ w' = w := by
  by_cases h1 : 0 < s.size
  · have HO : Hid (okN s = decide ((s.size : Int) ≤ 16)) := Lib.hid (by unfold okN; rw [decide_eq_true h1, Bool.true_and]; exact decide_eq_decide.2 (by omega))
    rw [HO.out]
    have h2 : (s.size : Int) ≥ 1 := by omega
    go_enter Tryz.func39, Tryz.ntmps39
    go_wp2
    go_ret
    exact ⟨rfl, rfl⟩
  · have HO : Hid (okN s = false) := Lib.hid (by unfold okN; rw [decide_eq_false h1]; rfl)
    rw [HO.out]
    have h2 : ¬ (s.size : Int) ≥ 1 := by omega
    go_enter Tryz.func39, Tryz.ntmps39
    go_wp2
    go_ret
    exact ⟨rfl, rfl⟩
theorem ok_size {s : ByteArray} (h : okN s = true) : s.size ≤ 16 := by
  unfold okN at h
  simp at h
  omega
theorem sclone_any (s : ByteArray) (w : World) (h : s.size ≤ 1000000) : Calls Tryz.prog 52 #[.string s] w fun e w' => e = .returned (.string s) ∧ Below w.heap.size w w' := by
  have hc : Hid (Calls Tryz.prog 77 #[.string s] w fun e w' => e = .returned (.string s) ∧ Below w.heap.size w w') := Lib.hid (Any.stringslite_Clone Tryz.cloneStr s w (by omega))
  go_enter Tryz.func52, Tryz.ntmps52
  go_wp2_with (go_at_call 77; refine hc.out.mono ?_; rintro e w' ⟨rfl, hb⟩)
  go_ret
  exact ⟨rfl, hb⟩

section
variable {w : World} {g bm : Nat} {ms : List Pf} {d : Dv}
theorem down_pd (h : PDx w g bm ms d) : Calls Tryz.prog 33 #[.pointer (some ⟨g, 0, none⟩)] w fun e w' => e = .returned (.bool d.off) ∧ w' = w := by
  obtain ⟨L, c0, c1, c2, c3, c4, cf, _⟩ := h.cells
  clear h
  go_enter Tryz.func33, Tryz.ntmps33
  go_wp2
  go_ret
  exact ⟨rfl, rfl⟩
def FindTo (ms : List Pf) (d : Dv) (s : ByteArray) (w : World) (e : Ending) (w' : World) : Prop := w' = w ∧
  ((d.off = true ∧ e = .returned (.tuple #[.pointer none, .int .i64 10])) ∨ (d.off = false ∧ findD d.fs s = none ∧ e = .returned (.tuple #[.pointer none, .int .i64 6]))
    ∨ (d.off = false ∧ ∃ k, ∃ (h : k < ms.length), findD d.fs s = some k ∧ e = .returned (.tuple #[.pointer (some ⟨ms[k].g, 0, none⟩), .int .i64 0])))
theorem find_pd (s : ByteArray) (h : PDx w g bm ms d) : Calls Tryz.prog 103 #[.pointer (some ⟨g, 0, none⟩), .string s] w (FindTo ms d s w) := by
  obtain ⟨L, c0, c1, c2, c3, c4, cf, _⟩ := h.cells
  have hD : Hid (Calls Tryz.prog 33 #[.pointer (some ⟨g, 0, none⟩)] w fun e w' => e = .returned (.bool d.off) ∧ w' = w) := Lib.hid (down_pd h)
  have hl := h.map.lookup s
  cases ho : d.off with
  | true =>
    rw [ho] at hD c0
    have HO := Lib.hid ho
    clear h hl ho
    go_enter Tryz.func103, Tryz.ntmps103
    go_wp2_with (go_at_call 33; refine hD.out.mono ?_; rintro e w' ⟨rfl, rfl⟩)
    go_ret2
    exact ⟨rfl, .inl ⟨HO.out, rfl⟩⟩
  | false =>
    rw [ho] at hD c0
    cases hf : findD d.fs s with
    | none =>
      rw [h.look_no hf] at hl
      have HF := Lib.hid hf
      have HO := Lib.hid ho
      clear h hf ho
      go_enter Tryz.func103, Tryz.ntmps103
      go_wp2_with (go_at_call 33; refine hD.out.mono ?_; rintro e w' ⟨rfl, rfl⟩)
      go_ret2
      exact ⟨rfl, .inr (.inl ⟨HO.out, HF.out, rfl⟩)⟩
    | some k =>
      obtain ⟨hk, _, hlk, _, _⟩ := h.look_yes hf
      rw [hlk] at hl
      have HF := Lib.hid hf
      have HO := Lib.hid ho
      have HE : Hid (∃ q, ms[k].g = q) := Lib.hid ⟨_, rfl⟩
      obtain ⟨q, hq⟩ := HE.out
      have HQ := Lib.hid hq
      rw [hq] at hl
      clear h hf ho hlk hq
      go_enter Tryz.func103, Tryz.ntmps103
      go_wp2_with (go_at_call 33; refine hD.out.mono ?_; rintro e w' ⟨rfl, rfl⟩)
      go_ret2
      exact ⟨rfl, .inr (.inr ⟨HO.out, k, hk, HF.out, by rw [HQ.out]; rfl⟩)⟩
theorem hasPlace_pd (s : ByteArray) (h : PDx w g bm ms d) : Calls Tryz.prog 40 #[.pointer (some ⟨g, 0, none⟩), .string s] w fun e w' => e = .returned (.bool (!decide (findD d.fs s = none ∧ ¬ d.fs.length < 64))) ∧ w' = w := by
  obtain ⟨L, c0, c1, c2, c3, c4, cf, _⟩ := h.cells
  have hl := h.map.lookup s
  have hn := h.map.len
  have hlen : (ms.map pfN).length = d.fs.length := by rw [List.length_map, ← h.fs, List.length_map]
  rw [hlen] at hn
  obtain ⟨B, hB⟩ : ∃ B, (!decide (findD d.fs s = none ∧ ¬ d.fs.length < 64)) = B := ⟨_, rfl⟩
  rw [hB]
  cases hf : findD d.fs s with
  | none =>
    rw [h.look_no hf] at hl
    have HB : Hid (decide ((d.fs.length : Int) < 64) = B) := Lib.hid (by rw [← hB]; by_cases hx : d.fs.length < 64 <;> simp [hf, hx] <;> omega)
    clear h hf hB
    generalize d.fs.length = n at *
    go_enter Tryz.func40, Tryz.ntmps40
    go_wp2
    go_ret
    exact ⟨by rw [← HB.out]; rfl, rfl⟩
  | some k =>
    obtain ⟨hk, _, hlk, _, _⟩ := h.look_yes hf
    rw [hlk] at hl
    have HB : Hid (B = true) := Lib.hid (by rw [← hB]; simp [hf])
    rw [HB.out]
    generalize ms[k].g = q at *
    clear h hf hlk hB
    go_enter Tryz.func40, Tryz.ntmps40
    go_wp2
    go_ret
    exact ⟨rfl, rfl⟩
end
end Go.Proofs.YtbdhhmhlcdganaaGreatDoor
