/-
  Texts of the proof of SegsOpens, joined.
-/
import Derived.Test.YtbdhhmhlcdganaaGreatDoorJSegsOpensG
import Derived.Test.YtbdhhmhlcdganaaGreatDoorJSegsOpensB
import Derived.Test.YtbdhhmhlcdganaaGreatDoorJSegsOpensA
import Derived.Test.YtbdhhmhlcdganaaGreatDoorJSegsOpensC
import Derived.Laws.CopyOwn
namespace Go.Proofs.YtbdhhmhlcdganaaGreatDoor
open Go.RowKit
set_option linter.unusedVariables false
set_option maxRecDepth 100000

theorem LStp.after {K : LogP} {G G0 : Nat → Prop} {g q : Nat} {d : Dv} {l : Lg} {v : Value} {w W w' : World} {e : Ending} (hf : Frm G w W) (hG : ∀ b, G0 b → G b ∨ w.heap.size ≤ b) (s : LStp K G0 g q d l v W e w') : LStp K G g q d l v w e w' := by
  obtain ⟨he, G', k, f, n⟩ := s
  exact ⟨he, G', k, hf.trans f hG, fun b hb => (n b hb).elim (hG b) (fun e => .inr (Nat.le_trans hf.size e))⟩
theorem app_dev {D : DevP} (Y : DevOkG D) {w : World} {G : Nat → Prop} {g q : Nat} {d da : Dv} {l : Lg} {Gd Gg : Nat → Prop} {sv gv : Value} {gs : List (List Int)} (h : LgK D w G g q d l Gd Gg sv gv gs) (ok : Dv.Ok d) {A : Option Addr} {n c : Nat} {b : List Int} (hr : Row .u8 w w.heap.size A b) (hn : b.length = n) (hc : n ≤ c) (hm : c ≤ 9223372036854775807) (h1 : n ≤ 2000) (hA : ∀ a, A = some a → ¬ G a.block) {s : ByteArray} {ea : Int} (qa : appD d s b = (da, ea)) :
    ∀ W, Below w.heap.size w W → Calls Tryz.prog 16 #[.pointer (some ⟨g, 0, none⟩), .string s, .slice A n c] W fun e w' => e = .returned (.int .i64 ea) ∧ ∃ Gd', LgK D w' (fun b => G b ∨ Gd' b) g q da l Gd' Gg sv gv gs ∧ Frm G w w' ∧ (∀ b, G b ∨ Gd' b → G b ∨ w.heap.size ≤ b) := fun W hW => by
  have h2 := h.below Y.dev hW
  refine (Y.append s A n c b h2.dev ok ((hr.below hW).more hW.size) hn hc hm (by omega) (fun a ha _ e => hA a ha (h.sub _ e))).mono ?_
  rintro e w' ⟨he, Gd', hd⟩
  rw [qa] at he hd
  exact ⟨he, Gd', h2.did Y.dev hd, (Frm.of_below hW).trans (hd.2.1.mono h.sub) (fun i hi => .inl hi), fun b hb => hb.elim .inl (fun e => (hd.2.2 b e).imp (h.sub b) (fun e => Nat.le_trans hW.size e))⟩
theorem LStp.of_q {D : DevP} {G G0 : Nat → Prop} {g q : Nat} {d : Dv} {l : Lg} {v : Value} {w W w' : World} {Gd Gg : Nat → Prop} {gv : Value} {gs : List (List Int)} (hf : Frm G w W) (hG : ∀ b, G0 b → G b ∨ w.heap.size ≤ b) (s : LStq D W G0 g q d l Gd Gg gv gs w') (at' : SgAt d l gs.length) : LStp (KLg D) G g q d l v w (.returned v) w' ∧ w'.cell? ⟨q, 5, none⟩ = some (.int .i64 (nextG l : Nat)) := by
  obtain ⟨G', sv', k, f, n⟩ := s
  exact ⟨⟨rfl, G', ⟨_, _, _, _, _, k, at'⟩, hf.trans f hG, fun b hb => (n b hb).elim (hG b) (fun e => .inr (Nat.le_trans hf.size e))⟩, k.cell.2.2.2.2.2.1⟩
theorem isFull_at {w : World} {q : Nat} {b : Bool} (h : ∀ W, Below w.heap.size w W → Calls Tryz.prog 49 #[.pointer (some ⟨q, 0, none⟩)] W fun e w' => e = .returned (.bool b) ∧ Below w.heap.size w w' ∧ Below W.heap.size W w') {W : World} (hW : Below w.heap.size w W) : Calls Tryz.prog 49 #[.pointer (some ⟨q, 0, none⟩)] W fun e w' => e = .returned (.bool b) ∧ Below w.heap.size w w' ∧ Below W.heap.size W w' := h W hW
theorem putG_eq {d da : Dv} {l : Lg} {p : List Int} {ea : Int} (qa : appD d (segN (putN l)) (ckL p) = (da, ea)) : putG d l p = if ea = 0 then (da, { l with segs := addS l p }, (nextG l : Int), 0) else (da, l, 0, ea) := by
  unfold putG
  rw [qa]
set_option maxHeartbeats 4000000 in
theorem append14 {D : DevP} (Y : DevOkG D) {w : World} {G : Nat → Prop} {g q : Nat} {d d' : Dv} {l l' : Lg} {a E : Int} (hk : KLg D w G g q d l) (A : Option Addr) (n c : Nat) (p : List Int) (hr : Row .u8 w w.heap.size A p) (hn : p.length = n) (hn4 : n ≤ 4096) (he : appG d l p = (d', l', a, E)) :
    Calls Tryz.prog 21 #[.pointer (some ⟨q, 0, none⟩), .slice A n c] w (LStp (KLg D) G g q d' l' (.tuple #[.int .i64 a, .int .i64 E]) w) := by
  obtain ⟨Gd, Gg, sv, gv, gs, h, ha⟩ := hk
  have HDN := Lib.hid (down14 Y h ha.ok w (Below.refl _ _))
  have c0 := h.cell.1
  by_cases hoff : d.off = true
  · have e0 : appG d l p = (d, l, 0, 10) := if_pos hoff
    rw [e0] at he
    injection he with e1 he; injection he with e2 he; injection he with e3 e4
    subst e1 e2 e3 e4
    rw [hoff] at HDN
    have HA := Lib.hid ha
    clear h e0 hoff ha hr hn
    go_enter Tryz.func21, Tryz.ntmps21
    go_wp2_with fail
    refine HDN.out.mono ?_
    rintro e w1 ⟨rfl, b1, h1⟩
    have HQ := Lib.hid (lstp_same (K := KLg D) (v := .tuple #[.int .i64 0, .int .i64 10]) (⟨_, _, _, _, _, h1, HA.out⟩ : KLg D w1 G g q d l) b1)
    clear h1
    go_wp2
    go_ret2
    exact HQ.out
  have hoff' : d.off = false := by simpa using hoff
  rw [hoff'] at HDN
  obtain ⟨hgs, his⟩ := ha.live hoff'
  have hw := hr.1
  have HPU : Hid (∀ W, Below w.heap.size w W → Calls Tryz.prog 47 #[.slice A n c] W (ChMakes W (ckPut p) (ckPE p))) := Lib.hid fun W hW => chPut_any A n c p W ((hr.below hW).more hW.size) hn (by omega)
  by_cases hlong : 1024 < p.length
  · have e0 : appG d l p = (d, l, 0, 2) := by unfold appG; rw [if_neg hoff, if_pos hlong]
    rw [e0] at he
    injection he with e1 he; injection he with e2 he; injection he with e3 e4
    subst e1 e2 e3 e4
    rw [ckPE_big hlong, ckPut_big hlong] at HPU
    have HA := Lib.hid ha
    clear e0 hoff hoff' ha hr hn h his hlong hw
    go_enter Tryz.func21, Tryz.ntmps21
    go_wp2_with fail
    refine HDN.out.mono ?_
    rintro e w1 ⟨rfl, b1, h1⟩
    have H1 := Lib.hid h1
    clear h1
    go_wp2_with fail
    refine (HPU.out w1 b1).mono ?_
    rintro e w2 ⟨v, rfl, hv, b2⟩
    have HQ := Lib.hid (lstp_same (K := KLg D) (v := .tuple #[.int .i64 0, .int .i64 2]) (⟨_, _, _, _, _, H1.out.below Y.dev b2, HA.out⟩ : KLg D w2 G g q d l) (b1.trans (b2.mono b1.size)))
    obtain ⟨Av, cv, rfl, _⟩ : ∃ Av cv, v = .slice Av 0 cv ∧ True := by
      rcases hv with ⟨rfl, _⟩ | ⟨gg, nn, cap, r, rfl, _, hz, _⟩
      · exact ⟨_, _, rfl, trivial⟩
      · have : nn = 0 := by rw [← hz]; rfl
        subst this
        exact ⟨_, _, rfl, trivial⟩
    clear hv
    go_wp2
    go_ret2
    exact HQ.out
  rw [ckPE_ok (by omega), ckPut_ok (by omega)] at HPU
  have HPU2 : Hid (∀ W, Below w.heap.size w W → Calls Tryz.prog 47 #[.slice A n c] W fun e w' => ∃ Ac cc, e = .returned (.tuple #[.slice Ac (ckL p).length cc, .int .i64 0]) ∧ Below w.heap.size w w' ∧ Row .u8 w' w'.heap.size Ac (ckL p) ∧ (ckL p).length ≤ cc ∧ cc ≤ 9223372036854775807 ∧ ∀ x, Ac = some x → w.heap.size ≤ x.block ∧ x.block < w'.heap.size) := Lib.hid fun W hW => by
    refine (HPU.out W hW).mono ?_
    rintro e w' ⟨v, rfl, hv, hb⟩
    obtain ⟨Ac, cc, rfl, r1, r2, r3⟩ := hv.own.row (fun x hx => ckL_wf (by omega) hw x hx)
    refine ⟨Ac, cc, rfl, hW.trans (hb.mono hW.size), r1, r2, by unfold maxLen at r3; omega, fun x hx => ?_⟩
    subst hx
    have := hv.block x.block ?_
    · have := hW.size
      omega
    · rcases hv with ⟨hv, _⟩ | ⟨gg, nn, cap, r, hv, _⟩
      · cases hv
      · injection hv with hv
        injection hv with hv
        subst hv
        rfl
  have HCU : Hid (∀ W, Below w.heap.size w W → Calls Tryz.prog 48 #[.pointer (some ⟨q, 0, none⟩)] W fun e w' => e = .returned (.agg #[.int .i64 (curN l : Nat), .int .i64 (curB l : Nat)]) ∧ Below w.heap.size w w' ∧ Below W.heap.size W w') := Lib.hid fun W hW => by
    refine (current14 (h.below Y.dev hW) ha.bd).mono ?_
    rintro e w' ⟨he, hb⟩
    exact ⟨he, hW.trans (hb.mono hW.size), hb⟩
  have HIF : Hid (∀ W, Below w.heap.size w W → Calls Tryz.prog 49 #[.pointer (some ⟨q, 0, none⟩)] W fun e w' => e = .returned (.bool (fullS l)) ∧ Below w.heap.size w w' ∧ Below W.heap.size W w') := Lib.hid fun W hW => by
    refine (isFull14 (h.below Y.dev hW)).mono ?_
    rintro e w' ⟨he, hb⟩
    exact ⟨he, hW.trans (hb.mono hW.size), hb⟩
  have HCE : Hid (∀ W, Below w.heap.size w W → W.cell? ⟨q, 0, none⟩ = some (.pointer (some ⟨g, 0, none⟩)) ∧ W.cell? ⟨q, 5, none⟩ = some (.int .i64 (nextG l : Nat))) := Lib.hid fun W hW => by
    obtain ⟨x0, _, _, _, _, x5, _⟩ := (h.below Y.dev hW).cell
    exact ⟨x0, x5⟩
  have hcn : curN l ≤ 999999999999 := by
    by_cases h0 : l.segs = []
    · have : curN l = l.n := by unfold curN; rw [h0]; simp
      rw [this]; exact ha.n2
    · obtain ⟨hk, _, hc, _⟩ := last_at h0
      obtain ⟨y, hy, _⟩ := his.at_ _ hk
      rw [← hc] at hy
      have : curN l < 10 ^ 12 := by
        apply Nat.lt_of_not_le
        intro hb
        rw [long_name his.ok (segN_long hb)] at hy
        cases hy
      omega
  have hc1 : 1 ≤ curN l := by have := his.lim; unfold curN; omega
  have hnx := ha.nxt
  have hq := h.lt q h.gq.1
  by_cases hst : 1099511627776 ≤ nextG l ∨ 999999999999 < putN l
  · have e0 : appG d l p = (d, l, 0, 12) := by unfold appG; rw [if_neg hoff, if_neg hlong, if_pos hst]
    rw [e0] at he
    injection he with e1 he; injection he with e2 he; injection he with e3 e4
    subst e1 e2 e3 e4
    have HEND : Hid (∀ W, Below w.heap.size w W → LStp (KLg D) G g q d l (.tuple #[.int .i64 0, .int .i64 12]) w (.returned (.tuple #[.int .i64 0, .int .i64 12])) W) := Lib.hid fun W hW => lstp_same (K := KLg D) (⟨_, _, _, _, _, h.below Y.dev hW, ha⟩ : KLg D W G g q d l) hW
    by_cases hbig : 1099511627776 ≤ nextG l
    · have i1 : (nextG l : Int) ≥ 1099511627776 := by omega
      clear e0 hoff hoff' ha hr hn h his hlong hw hst hbig hnx
      generalize nextG l = N at *
      go_enter Tryz.func21, Tryz.ntmps21
      go_wp2_with fail
      refine HDN.out.mono ?_
      rintro e w1 ⟨rfl, b1, h1⟩
      have c01 := h1.cell.1
      clear h1 c0
      go_wp2_with fail
      refine (HPU2.out w1 b1).mono ?_
      rintro e w2 ⟨Ac, cc, rfl, b2, rc, lc, mc, bc⟩
      have HRC := Lib.hid (show Row .u8 w2 w2.heap.size Ac (ckL p) from rc)
      have HBC := Lib.hid bc
      clear rc bc
      go_wp2_with fail
      refine (HCU.out w2 b2).mono ?_
      rintro e w3 ⟨rfl, b3, b23⟩
      have HEN := Lib.hid (HEND.out _ (b3.alloc b3.size (.cells #[.int .i64 (curN l : Nat), .int .i64 (curB l : Nat)] 67)))
      obtain ⟨_, x5⟩ := HCE.out _ (b3.alloc b3.size (.cells #[.int .i64 (curN l : Nat), .int .i64 (curB l : Nat)] 67))
      clear HCE HEND
      go_wp2
      go_ret2
      exact HEN.out
    · have hfu : fullS l = true := by
        cases hf : fullS l with
        | true => rfl
        | false => unfold putN at hst; rw [hf] at hst; simp at hst; omega
      have hc9 : curN l = 999999999999 := by unfold putN at hst; rw [if_pos hfu] at hst; omega
      have i1 : ¬ (nextG l : Int) ≥ 1099511627776 := by omega
      rw [hfu] at HIF
      rw [hc9] at HCU
      clear e0 hoff hoff' ha hr hn h his hlong hw hst hbig hnx hfu hc9
      generalize nextG l = N at *
      go_enter Tryz.func21, Tryz.ntmps21
      go_wp2_with fail
      refine HDN.out.mono ?_
      rintro e w1 ⟨rfl, b1, h1⟩
      have c01 := h1.cell.1
      clear h1 c0
      go_wp2_with fail
      refine (HPU2.out w1 b1).mono ?_
      rintro e w2 ⟨Ac, cc, rfl, b2, rc, lc, mc, bc⟩
      have HRC := Lib.hid (show Row .u8 w2 w2.heap.size Ac (ckL p) from rc)
      have HBC := Lib.hid bc
      clear rc bc
      go_wp2_with fail
      refine (HCU.out w2 b2).mono ?_
      rintro e w3 ⟨rfl, b3, b23⟩
      have b4 := Lib.hid (b3.alloc b3.size (.cells #[.int .i64 999999999999, .int .i64 (curB l : Nat)] 67))
      have z0 : (w3.alloc (.cells #[.int .i64 999999999999, .int .i64 (curB l : Nat)] 67)).cell? ⟨w3.heap.size, 0, none⟩ = some (.int .i64 999999999999) := by rw [World.cell?_alloc_at _ _ _ _ rfl]; rfl
      obtain ⟨_, x5⟩ := HCE.out _ b4.out
      have z9 : (w3.alloc (.cells #[.int .i64 999999999999, .int .i64 (curB l : Nat)] 67)).heap.size = w3.heap.size + 1 := by simp
      have HIF2 : Hid (Calls Tryz.prog 49 #[.pointer (some ⟨q, 0, none⟩)] (w3.alloc (.cells #[.int .i64 999999999999, .int .i64 (curB l : Nat)] 67)) fun e w' => e = .returned (.bool true) ∧ w'.cell? ⟨w3.heap.size, 0, none⟩ = some (.int .i64 999999999999) ∧ LStp (KLg D) G g q d l (.tuple #[.int .i64 0, .int .i64 12]) w (.returned (.tuple #[.int .i64 0, .int .i64 12])) w') := Lib.hid ((isFull_at HIF.out b4.out).mono fun e w' ⟨h1, h2, h3⟩ => ⟨h1, (h3.cell (p := ⟨w3.heap.size, 0, none⟩) (by show w3.heap.size < _; omega)).trans z0, HEND.out w' h2⟩)
      clear HCE HEND z0 z9
      go_wp2_with fail
      refine HIF2.out.mono ?_
      rintro e w5 ⟨rfl, y0, hq5⟩
      have HEN := Lib.hid hq5
      clear hq5
      go_wp2
      go_ret2
      exact HEN.out
  have hpn : putN l ≤ 999999999999 ∧ nextG l < 1099511627776 := by omega
  obtain ⟨d9, l9, a9, E9, q9, s1, s2, s3, s4, s5, s6, s7⟩ := app_is his p hw
  rw [he] at q9
  injection q9 with x1 q9; injection q9 with x2 q9; injection q9 with x3 x4
  subst x1 x2 x3 x4
  have hnx2 : nextG l' ≤ 1200000000000 := by
    unfold nextG
    rw [s3]
    rcases s7 with ⟨_, _, h9, _⟩ | ⟨_, _, h9, _⟩
    · rw [h9, addS_cnt]; have := hpn.2; unfold nextG at this; omega
    · rw [h9]; exact hnx
  have at1 : SgAt d' l' gs.length := by
    rw [hgs]
    exact s1.sat (by rw [s2]; exact ha.n2) (by rw [s3]; exact ha.fst) hnx2
  have hgs0 : gs = [] := List.length_eq_zero_iff.1 hgs
  have i1 : ¬ (nextG l : Int) ≥ 1099511627776 := by have := hpn.2; omega
  have i1d : decide ((1099511627776 : Int) ≤ (nextG l : Int)) = false := by rw [decide_eq_false_iff_not]; have := hpn.2; omega
  have hlc : (ckL p).length ≤ 1030 := by rw [ckL_len]; omega
  have hG0 : ∀ b, G b → b < w.heap.size := h.lt
  by_cases hfu : fullS l = true
  · obtain ⟨d1, l1, es, q1, y1, y2, y3, y4, y5, y6, y7, y8, y9, y10⟩ := sync_is his
    have hpu : putN l = curN l + 1 := by unfold putN; rw [if_pos hfu]
    have i4 : ((curN l : Int) == 999999999999) = false := by have := hpn.1; rw [hpu] at this; simp; omega
    rw [hfu] at HIF
    have HSYN : Hid (∀ W, Below w.heap.size w W → Calls Tryz.prog 30 #[.pointer (some ⟨q, 0, none⟩)] W (LStp (KLg D) G g q d1 l1 (.int .i64 es) W)) := Lib.hid fun W hW => sync14 Y ⟨_, _, _, _, _, h.below Y.dev hW, ha⟩ q1
    have hsq : (syncG d l).2.2 = es := by rw [q1]
    have hsd : (syncG d l).1 = d1 := by rw [q1]
    have hsl : (syncG d l).2.1 = l1 := by rw [q1]
    by_cases hes : es = 0
    case neg =>
      have e0 : appG d l p = (d1, l1, 0, 10) := by unfold appG; rw [if_neg hoff, if_neg hlong, if_neg hst, if_pos hfu, hsq, hsd, hsl, if_neg hes]
      rw [e0] at he
      injection he with x1 he; injection he with x2 he; injection he with x3 x4
      subst x1 x2 x3 x4
      have h10 : es = 10 := by
        rcases y9 with ⟨h9, _⟩ | ⟨h9, _⟩
        · exact absurd h9 hes
        · exact h9
      subst h10
      have HEND : Hid (∀ W w', Below w.heap.size w W → LStp (KLg D) G g q d1 l1 (.int .i64 10) W (.returned (.int .i64 10)) w' → LStp (KLg D) G g q d1 l1 (.tuple #[.int .i64 0, .int .i64 10]) w (.returned (.tuple #[.int .i64 0, .int .i64 10])) w') := Lib.hid fun W w' hW ⟨_, G', k, f, n⟩ => ⟨rfl, G', k, (Frm.of_below hW).trans f (fun i hi => .inl hi), fun b hb => (n b hb).imp id (fun e => Nat.le_trans hW.size e)⟩
      clear hoff hoff' ha hr hn h his hlong hw hst hnx e0 s1 s2 s3 s4 s5 s6 s7 hnx2 at1 hgs0 hgs hpn hpu hfu hcn hc1 q1 y1 y2 y3 y4 y5 y6 y7 y8 y9 y10 hsq hsd hsl hes
      generalize nextG l = N at *
      generalize curN l = CN at *
      generalize curB l = CB at *
      go_enter Tryz.func21, Tryz.ntmps21
      go_wp2_with fail
      refine HDN.out.mono ?_
      rintro e w1 ⟨rfl, b1, h1⟩
      have c01 := h1.cell.1
      clear h1 c0
      go_wp2_with fail
      refine (HPU2.out w1 b1).mono ?_
      rintro e w2 ⟨Ac, cc, rfl, b2, rc, lc, mc, bc⟩
      have HRC := Lib.hid (show Row .u8 w2 w2.heap.size Ac (ckL p) from rc)
      have HBC := Lib.hid bc
      clear rc bc
      go_wp2_with fail
      refine (HCU.out w2 b2).mono ?_
      rintro e w3 ⟨rfl, b3, b23⟩
      obtain ⟨w4, hw4⟩ : ∃ w4, w3.alloc (.cells #[.int .i64 (CN : Nat), .int .i64 (CB : Nat)] 67) = w4 := ⟨_, rfl⟩
      have zx0 : w4.cell? ⟨w3.heap.size, 0, none⟩ = some (.int .i64 (CN : Nat)) := by rw [← hw4, World.cell?_alloc_at _ _ _ _ rfl]; rfl
      have zx1 : w4.cell? ⟨w3.heap.size, 1, none⟩ = some (.int .i64 (CB : Nat)) := by rw [← hw4, World.cell?_alloc_at _ _ _ _ rfl]; rfl
      have zs4 : w4.heap.size = w3.heap.size + 1 := by rw [← hw4]; simp
      have b34 : Below w3.heap.size w3 w4 := by rw [← hw4]; exact bel_alloc _ _
      have b24 : Below w2.heap.size w2 w3 := b23
      have b4 := b3.trans (b34.mono b3.size)
      have HZ : Hid (∀ W, Below w4.heap.size w4 W → Below w.heap.size w W ∧ W.cell? ⟨w3.heap.size, 0, none⟩ = some (.int .i64 (CN : Nat)) ∧ W.cell? ⟨w3.heap.size, 1, none⟩ = some (.int .i64 (CB : Nat)) ∧ W.cell? ⟨q, 0, none⟩ = some (.pointer (some ⟨g, 0, none⟩)) ∧ W.cell? ⟨q, 5, none⟩ = some (.int .i64 (N : Nat)) ∧ Row .u8 W W.heap.size Ac (ckL p)) := Lib.hid fun W hW => by
        have hW' := b4.trans (hW.mono b4.size)
        obtain ⟨y0, y5⟩ := HCE.out W hW'
        have h2W : Below w2.heap.size w2 W := (b24.trans (b34.mono b24.size)).trans (hW.mono (Nat.le_trans b24.size b34.size))
        exact ⟨hW', (hW.cell (p := ⟨w3.heap.size, 0, none⟩) (by show w3.heap.size < _; omega)).trans zx0, (hW.cell (p := ⟨w3.heap.size, 1, none⟩) (by show w3.heap.size < _; omega)).trans zx1, y0, y5, (HRC.out.below h2W).more h2W.size⟩
      have HI4 : Hid (∀ W, Below w4.heap.size w4 W → Calls Tryz.prog 49 #[.pointer (some ⟨q, 0, none⟩)] W fun e w' => e = .returned (.bool true) ∧ Below w4.heap.size w4 w') := Lib.hid fun W hW => by
        refine (HIF.out W (HZ.out W hW).1).mono ?_
        rintro e w' ⟨h1, _, h3⟩
        exact ⟨h1, hW.trans (h3.mono hW.size)⟩
      have x54 := (HZ.out w4 (Below.refl _ _)).2.2.2.2.1
      clear zx0 zx1
      go_wp2_with fail
      refine (HI4.out w4 (Below.refl _ _)).mono ?_
      rintro e w5 ⟨rfl, b5⟩
      have zz5 := (HZ.out w5 b5).2.1
      go_wp2_with fail
      refine (HI4.out w5 b5).mono ?_
      rintro e w6 ⟨rfl, b6⟩
      clear zz5 x54
      go_wp2_with fail
      refine (HSYN.out w6 (HZ.out w6 b6).1).mono ?_
      rintro e w7 hst7
      have HQ := Lib.hid (HEND.out w6 w7 (HZ.out w6 b6).1 (by obtain ⟨h1, h2⟩ := hst7; exact ⟨rfl, h2⟩))
      obtain ⟨rfl, _⟩ := hst7
      go_wp2
      go_ret2
      exact HQ.out
    subst hes
    obtain ⟨y11, y12, y13⟩ : l1.safe = nextG l ∧ d.off = false ∧ d1.off = false := by
      rcases y9 with ⟨_, h1, h2, h3⟩ | ⟨h9, _⟩
      · exact ⟨h1, h2, h3⟩
      · exact absurd h9 (by decide)
    obtain ⟨da, ea, qa⟩ : ∃ da ea, appD d1 (segN (putN l)) (ckL p) = (da, ea) := ⟨_, _, rfl⟩
    have e0 : appG d l p = if ea = 0 then (da, { l1 with segs := addS l p }, (nextG l : Int), 0) else (da, l1, 0, ea) := by
      unfold appG
      rw [if_neg hoff, if_neg hlong, if_neg hst, if_pos hfu, hsq, hsd, hsl, if_pos rfl, qa]
    rw [e0] at he
    rw [hpu] at qa
    have hadd : addS l p = l1.segs ++ [[p]] := by unfold addS; rw [if_pos (.inr hfu), y1]
    have hcur : curN l + 1 = l1.n + l1.segs.length := by
      have := List.length_pos_iff.2 (full_ne hfu)
      unfold curN
      rw [y1, y2]
      omega
    have hnx1 : nextG l1 = nextG l := by unfold nextG; rw [y1, y3]
    have at2 : SgAt d1 l1 0 := y5.sat (by rw [y2]; exact ha.n2) (by rw [y3]; exact ha.fst) (by rw [hnx1]; exact hnx)
    have HN7 : Hid (∀ W G7 Gd7 Gg7 sv7 gv7 gs7, LgK D W G7 g q d1 l1 Gd7 Gg7 sv7 gv7 gs7 → W.cell? ⟨q, 0, none⟩ = some (.pointer (some ⟨g, 0, none⟩)) ∧ W.cell? ⟨q, 5, none⟩ = some (.int .i64 (nextG l : Nat))) := Lib.hid fun W G7 Gd7 Gg7 sv7 gv7 gs7 h7 => by
      obtain ⟨c0, _, _, _, _, c5, _⟩ := h7.cell
      rw [hnx1] at c5
      exact ⟨c0, c5⟩
    have HGLW := Lib.hid (Y.dev.gl h.dev)
    have HQA := Lib.hid qa
    have HOK := Lib.hid at2.ok
    have HBD := Lib.hid at2.bd
    have HAT : Hid (SgAt d' l' 0) := Lib.hid (by rw [hgs] at at1; exact at1)
    have HNX1 := Lib.hid hnx1
    have hs0 : Hid (l1.segs ≠ []) := Lib.hid (by rw [y1]; exact full_ne hfu)
    have HCUR := Lib.hid hcur
    have hc2 : Hid (1 ≤ curN l + 1 ∧ curN l + 1 ≤ 1000000000000) := Lib.hid ⟨by omega, by omega⟩
    obtain ⟨CM, hCM⟩ : ∃ CM, curN l + 1 = CM := ⟨_, rfl⟩
    rw [hCM] at HQA HCUR hc2
    have w2' : IntKind.i64.wrap ((curN l : Int) + 1) = (CM : Int) := by rw [IntKind.wrap_i64, ← hCM]; omega
    by_cases hea : ea = 0
    · subst hea
      rw [if_pos rfl] at he
      injection he with x1 he; injection he with x2 he; injection he with x3 x4
      subst x1 x2 x3 x4
      have hnn : nextG { l1 with segs := addS l p } = nextG l + 1 := by rw [hadd, ← hnx1]; unfold nextG; simp only; rw [cntS_append]; simp [cntS]; omega
      have w1' : IntKind.i64.wrap ((nextG l : Int) + 1 - 1) = (nextG l : Int) := by rw [IntKind.wrap_i64]; omega
      have HEN : Hid (∀ W G0 Gd' Gg' sv' gv' gs', gs'.length = 0 → LgK D W G0 g q da l1 Gd' Gg' sv' gv' gs' → Calls Tryz.prog 51 #[.pointer (some ⟨q, 0, none⟩), .agg #[.int .i64 (CM : Nat), .int .i64 (nextG l : Nat)], .int .i64 ((ckL p).length : Nat)] W fun e w' => e = .returned (.tuple #[]) ∧ LStq D W G0 g q da { l1 with segs := addS l p } Gd' Gg' gv' gs' w') := Lib.hid fun W G0 Gd' Gg' sv' gv' gs' hg k => by
        have := enterNew Y k HBD.out (List.length_eq_zero_iff.1 hg) hs0.out p (by omega) CM (nextG l) HCUR.out HNX1.out.symm
        rw [hadd]
        exact this
      have HEND : Hid (∀ W G0 Gd' Gg' gv' gs' w', gs'.length = 0 → Frm G w W → (∀ b, G0 b → G b ∨ w.heap.size ≤ b) → LStq D W G0 g q da { l1 with segs := addS l p } Gd' Gg' gv' gs' w' → LStp (KLg D) G g q da { l1 with segs := addS l p } (.tuple #[.int .i64 (nextG l : Nat), .int .i64 0]) w (.returned (.tuple #[.int .i64 (nextG l : Nat), .int .i64 0])) w' ∧ w'.cell? ⟨q, 5, none⟩ = some (.int .i64 ((nextG l : Int) + 1))) := Lib.hid fun W G0 Gd' Gg' gv' gs' w' hg hf hG hq => by
        obtain ⟨r1, r2⟩ := LStp.of_q (v := .tuple #[.int .i64 (nextG l : Nat), .int .i64 0]) hf hG hq (by rw [hg]; exact HAT.out)
        rw [hnn] at r2
        exact ⟨r1, r2⟩
      clear hoff hoff' ha hr hn h his hlong hw hst hnx e0 s1 s2 s3 s4 s5 s6 s7 hnx2 hgs0 hgs hpn hpu hfu hcn hc1 q1 y1 y2 y3 y4 y5 y6 y7 y8 y9 y10 hsq hsd hsl hnn hadd hcur hnx1 at1 at2 qa hCM
      generalize nextG l = N at *
      generalize curN l = CN at *
      generalize curB l = CB at *
      generalize { l1 with segs := addS l p } = l2 at *
      go_enter Tryz.func21, Tryz.ntmps21
      go_wp2_with fail
      refine HDN.out.mono ?_
      rintro e w1 ⟨rfl, b1, h1⟩
      have c01 := h1.cell.1
      clear h1 c0
      go_wp2_with fail
      refine (HPU2.out w1 b1).mono ?_
      rintro e w2 ⟨Ac, cc, rfl, b2, rc, lc, mc, bc⟩
      have HRC := Lib.hid (show Row .u8 w2 w2.heap.size Ac (ckL p) from rc)
      have HBC := Lib.hid bc
      clear rc bc
      go_wp2_with fail
      refine (HCU.out w2 b2).mono ?_
      rintro e w3 ⟨rfl, b3, b23⟩
      obtain ⟨w4, hw4⟩ : ∃ w4, w3.alloc (.cells #[.int .i64 (CN : Nat), .int .i64 (CB : Nat)] 67) = w4 := ⟨_, rfl⟩
      have zx0 : w4.cell? ⟨w3.heap.size, 0, none⟩ = some (.int .i64 (CN : Nat)) := by rw [← hw4, World.cell?_alloc_at _ _ _ _ rfl]; rfl
      have zx1 : w4.cell? ⟨w3.heap.size, 1, none⟩ = some (.int .i64 (CB : Nat)) := by rw [← hw4, World.cell?_alloc_at _ _ _ _ rfl]; rfl
      have zs4 : w4.heap.size = w3.heap.size + 1 := by rw [← hw4]; simp
      have b34 : Below w3.heap.size w3 w4 := by rw [← hw4]; exact bel_alloc _ _
      have b24 : Below w2.heap.size w2 w3 := b23
      have b4 := b3.trans (b34.mono b3.size)
      have HZ : Hid (∀ W, Below w4.heap.size w4 W → Below w.heap.size w W ∧ W.cell? ⟨w3.heap.size, 0, none⟩ = some (.int .i64 (CN : Nat)) ∧ W.cell? ⟨w3.heap.size, 1, none⟩ = some (.int .i64 (CB : Nat)) ∧ W.cell? ⟨q, 0, none⟩ = some (.pointer (some ⟨g, 0, none⟩)) ∧ W.cell? ⟨q, 5, none⟩ = some (.int .i64 (N : Nat)) ∧ Row .u8 W W.heap.size Ac (ckL p)) := Lib.hid fun W hW => by
        have hW' := b4.trans (hW.mono b4.size)
        obtain ⟨y0, y5⟩ := HCE.out W hW'
        have h2W : Below w2.heap.size w2 W := (b24.trans (b34.mono b24.size)).trans (hW.mono (Nat.le_trans b24.size b34.size))
        exact ⟨hW', (hW.cell (p := ⟨w3.heap.size, 0, none⟩) (by show w3.heap.size < _; omega)).trans zx0, (hW.cell (p := ⟨w3.heap.size, 1, none⟩) (by show w3.heap.size < _; omega)).trans zx1, y0, y5, (HRC.out.below h2W).more h2W.size⟩
      have HI4 : Hid (∀ W, Below w4.heap.size w4 W → Calls Tryz.prog 49 #[.pointer (some ⟨q, 0, none⟩)] W fun e w' => e = .returned (.bool true) ∧ Below w4.heap.size w4 w') := Lib.hid fun W hW => by
        refine (HIF.out W (HZ.out W hW).1).mono ?_
        rintro e w' ⟨h1, _, h3⟩
        exact ⟨h1, hW.trans (h3.mono hW.size)⟩
      have x54 := (HZ.out w4 (Below.refl _ _)).2.2.2.2.1
      clear zx0 zx1
      go_wp2_with fail
      refine (HI4.out w4 (Below.refl _ _)).mono ?_
      rintro e w5 ⟨rfl, b5⟩
      have zz5 := (HZ.out w5 b5).2.1
      go_wp2_with fail
      refine (HI4.out w5 b5).mono ?_
      rintro e w6 ⟨rfl, b6⟩
      clear zz5 x54
      have b6w := (HZ.out w6 b6).1
      have hz3 : ¬ G w3.heap.size := fun e => by have := hG0 _ e; have := b3.size; omega
      have hz4 : w3.heap.size < w6.heap.size := by have := b6.size; omega
      have zb6 : w6.heap[w3.heap.size]? = some (.cells #[.int .i64 (CN : Nat), .int .i64 (CB : Nat)] 67 (0, 0)) := (b6.block w3.heap.size (by omega)).trans (by rw [← hw4]; exact heap_alloc_new w3 _)
      have HRC6 := Lib.hid (HZ.out w6 b6).2.2.2.2.2
      go_wp2_with fail
      refine (HSYN.out w6 b6w).mono ?_
      rintro e w7 ⟨rfl, G7, ⟨Gd7, Gg7, sv7, gv7, gs7, h7, ha7⟩, f67, n7⟩
      have hg7 : gs7.length = 0 := (ha7.live y13).1
      have zb7 := (f67.block w3.heap.size hz4 hz3).trans zb6
      have z70 : w7.cell? ⟨w3.heap.size, 0, none⟩ = some (.int .i64 (CN : Nat)) := by rw [cell_of_row w7 _ 0 _ _ _ zb7]; rfl
      have z71 : w7.cell? ⟨w3.heap.size, 1, none⟩ = some (.int .i64 (CB : Nat)) := by rw [cell_of_row w7 _ 1 _ _ _ zb7]; rfl
      have zf0 := Joins.unfrozen_of_block zb7 0
      have zf1 := Joins.unfrozen_of_block zb7 1
      have q75 := h7.cell.2.2.2.2.2.1
      rw [HNX1.out] at q75
      obtain ⟨w8, hw8⟩ : ∃ w8, (w7.setCell ⟨w3.heap.size, 0, none⟩ (.int .i64 (CM : Nat))).setCell ⟨w3.heap.size, 1, none⟩ (.int .i64 (N : Nat)) = w8 := ⟨_, rfl⟩
      have hz7 : ∀ b, G7 b → ¬ b = w3.heap.size := fun b hb e => by
        subst e
        exact (n7 _ hb).elim hz3 (fun e => by omega)
      have f78 : Frm (fun b => b = w3.heap.size) w7 w8 := by
        rw [← hw8]
        exact (Frm.set (F := fun b => b = w3.heap.size) w7 w3.heap.size 0 (.int .i64 (CM : Nat)) rfl).trans (Frm.set (F := fun b => b = w3.heap.size) _ w3.heap.size 1 (.int .i64 (N : Nat)) rfl) (fun i hi => .inl hi)
      have zb8 : w8.heap[w3.heap.size]? = some (.cells #[.int .i64 (CM : Nat), .int .i64 (N : Nat)] 67 (0, 0)) := by
        rw [← hw8]
        exact Joins.block_setCell (i := 1) (Joins.block_setCell (i := 0) zb7 (.int .i64 (CM : Nat))) (.int .i64 (N : Nat))
      have gl8 : Gl w8 := (Y.dev.gl h7.dev).frm f78 (fun b hb e => by subst hb; have := HGLW.out.lt e; have := b3.size; omega)
      have h8 := h7.frm Y.dev f78 hz7 gl8
      have hac : ∀ x, Ac = some x → ¬ G x.block ∧ ¬ x.block = w3.heap.size ∧ x.block < w6.heap.size := fun x hx => by
        obtain ⟨h1, h2⟩ := HBC.out x hx
        have := b23.size
        exact ⟨fun e => by have := hG0 _ e; omega, by omega, by omega⟩
      have rc8 : Row .u8 w8 w8.heap.size Ac (ckL p) := f78.row (f67.row HRC6.out (fun x hx _ => (hac x hx).1)) (fun x hx _ => (hac x hx).2.1)
      have n8w : ∀ b, G7 b → G b ∨ w.heap.size ≤ b := fun b hb => (n7 b hb).imp id (fun e => by have := b6w.size; omega)
      have f8w : Frm G w w8 := ((Frm.of_below b6w).trans f67 (fun i hi => .inl hi)).trans f78 (fun i hi => by subst hi; exact .inr b3.size)
      have HC8 : Hid (∀ W, Below w8.heap.size w8 W → W.cell? ⟨q, 0, none⟩ = some (.pointer (some ⟨g, 0, none⟩)) ∧ W.cell? ⟨w3.heap.size, 0, none⟩ = some (.int .i64 (CM : Nat)) ∧ W.cell? ⟨w3.heap.size, 1, none⟩ = some (.int .i64 (N : Nat))) := Lib.hid fun W hW => by
        have zbW := (hW.block w3.heap.size (block_lt zb8)).trans zb8
        exact ⟨(h8.below Y.dev hW).cell.1, by rw [cell_of_row W _ 0 _ _ _ zbW]; rfl, by rw [cell_of_row W _ 1 _ _ _ zbW]; rfl⟩
      have HFI8 : Hid (∀ W, Below w8.heap.size w8 W → Calls Tryz.prog 50 #[.agg #[.int .i64 (CM : Nat), .int .i64 (N : Nat)]] W fun e w' => e = .returned (.string (segN CM)) ∧ Below W.heap.size W w') := Lib.hid fun W hW => file_any CM _ hc2.out.1 (by have := hc2.out.2; omega) W (gl8.below hW)
      have HAP8 : Hid (∀ W, Below w8.heap.size w8 W → Calls Tryz.prog 16 #[.pointer (some ⟨g, 0, none⟩), .string (segN CM), .slice Ac (ckL p).length cc] W fun e w' => e = .returned (.int .i64 0) ∧ w'.cell? ⟨q, 0, none⟩ = some (.pointer (some ⟨g, 0, none⟩)) ∧ w'.cell? ⟨w3.heap.size, 0, none⟩ = some (.int .i64 (CM : Nat)) ∧ w'.cell? ⟨w3.heap.size, 1, none⟩ = some (.int .i64 (N : Nat)) ∧ ∃ G0 Gd' Gg' sv' gv' gs', gs'.length = 0 ∧ LgK D w' G0 g q da l1 Gd' Gg' sv' gv' gs' ∧ Frm G w w' ∧ (∀ b, G0 b → G b ∨ w.heap.size ≤ b)) := Lib.hid fun W hW => by
        refine (app_dev Y h8 HOK.out rc8 rfl lc mc (by omega) (fun x hx e => (n7 _ e).elim (hac x hx).1 (fun e => by have := (hac x hx).2.2; omega)) HQA.out W hW).mono ?_
        rintro e w' ⟨he, Gd', k1, k2, k3⟩
        have hzG : ¬ G7 w3.heap.size := fun e => hz7 _ e rfl
        have zb9 := (k2.block w3.heap.size (block_lt zb8) hzG).trans zb8
        exact ⟨he, k1.cell.1, by rw [cell_of_row w' _ 0 _ _ _ zb9]; rfl, by rw [cell_of_row w' _ 1 _ _ _ zb9]; rfl, _, _, _, _, _, _, hg7, k1, f8w.trans k2 n8w, fun b hb => (k3 b hb).elim (n8w b) (fun e => .inr (Nat.le_trans f8w.size e))⟩
      have bd8 : Below w8.heap.size w8 w8.drew.drew := below_drew (below_drew (Below.refl _ _))
      obtain ⟨t0, t1, t2⟩ := HC8.out _ bd8
      clear h7 ha7 n7 f67 zb6 h8 rc8 gl8 f78 zb8 f8w n8w hac hz7
      go_wp2
      go_region
      go_wp2
      clear zf0 zf1 z70 z71 zb7 q75
      go_region_held3 (fun w9 => w9.cell? ⟨q, 0, none⟩ = some (.pointer (some ⟨g, 0, none⟩)) ∧ w9.cell? ⟨w3.heap.size, 0, none⟩ = some (.int .i64 (CM : Nat)) ∧ w9.cell? ⟨w3.heap.size, 1, none⟩ = some (.int .i64 (N : Nat))) (exact ⟨by assumption, by assumption, by assumption⟩) (first
        | (go_at_call 50; refine (HFI8.out _ bd8).mono ?_; rintro e w9 ⟨rfl, b89⟩; have b9 : Below w8.heap.size w8 w9 := bd8.trans (b89.mono bd8.size); obtain ⟨u0, u1, u2⟩ := HC8.out _ b9)
        | (go_at_call 16; refine (HAP8.out _ b9).mono ?_; rintro e w11 ⟨rfl, v0, v1, v2, G8, Gd8, Gg8, sv8, gv8, gs8, hg8, k8, f8, n8⟩)
        | fail)
      all_goals
        have HG8 := Lib.hid hg8
        go_wp2_with fail
        refine (HEN.out _ _ _ _ _ _ _ hg8 k8).mono ?_
        rintro e w10 ⟨rfl, hq9⟩
        obtain ⟨r1, r2⟩ := HEND.out _ _ _ _ _ _ _ HG8.out f8 n8 hq9
        have HR1 := Lib.hid r1
        clear r1 hq9 k8 f8 n8 hg8
        go_wp2
        go_ret2
        exact HR1.out
    · rw [if_neg hea] at he
      injection he with x1 he; injection he with x2 he; injection he with x3 x4
      subst x1 x2 x3 x4
      have i2 : (ea == 0) = false := by simpa using hea
      have i3 : (ea != 0) = true := by simpa using hea
      have HEND : Hid (∀ W G0 Gd' Gg' sv' gv' gs', gs'.length = 0 → LgK D W G0 g q da l1 Gd' Gg' sv' gv' gs' → Frm G w W → (∀ b, G0 b → G b ∨ w.heap.size ≤ b) → LStp (KLg D) G g q da l1 (.tuple #[.int .i64 0, .int .i64 ea]) w (.returned (.tuple #[.int .i64 0, .int .i64 ea])) W) := Lib.hid fun W G0 Gd' Gg' sv' gv' gs' hg k hf hG => ⟨rfl, _, ⟨_, _, _, _, _, k, by rw [hg]; exact HAT.out⟩, hf, hG⟩
      clear hoff hoff' ha hr hn h his hlong hw hst hnx e0 s1 s2 s3 s4 s5 s6 s7 hnx2 hgs0 hgs hpn hpu hfu hcn hc1 q1 y1 y2 y3 y4 y5 y6 y7 y8 y9 y10 hsq hsd hsl hadd hcur hnx1 at1 at2 qa hCM hea
      generalize nextG l = N at *
      generalize curN l = CN at *
      generalize curB l = CB at *
      go_enter Tryz.func21, Tryz.ntmps21
      go_wp2_with fail
      refine HDN.out.mono ?_
      rintro e w1 ⟨rfl, b1, h1⟩
      have c01 := h1.cell.1
      clear h1 c0
      go_wp2_with fail
      refine (HPU2.out w1 b1).mono ?_
      rintro e w2 ⟨Ac, cc, rfl, b2, rc, lc, mc, bc⟩
      have HRC := Lib.hid (show Row .u8 w2 w2.heap.size Ac (ckL p) from rc)
      have HBC := Lib.hid bc
      clear rc bc
      go_wp2_with fail
      refine (HCU.out w2 b2).mono ?_
      rintro e w3 ⟨rfl, b3, b23⟩
      obtain ⟨w4, hw4⟩ : ∃ w4, w3.alloc (.cells #[.int .i64 (CN : Nat), .int .i64 (CB : Nat)] 67) = w4 := ⟨_, rfl⟩
      have zx0 : w4.cell? ⟨w3.heap.size, 0, none⟩ = some (.int .i64 (CN : Nat)) := by rw [← hw4, World.cell?_alloc_at _ _ _ _ rfl]; rfl
      have zx1 : w4.cell? ⟨w3.heap.size, 1, none⟩ = some (.int .i64 (CB : Nat)) := by rw [← hw4, World.cell?_alloc_at _ _ _ _ rfl]; rfl
      have zs4 : w4.heap.size = w3.heap.size + 1 := by rw [← hw4]; simp
      have b34 : Below w3.heap.size w3 w4 := by rw [← hw4]; exact bel_alloc _ _
      have b24 : Below w2.heap.size w2 w3 := b23
      have b4 := b3.trans (b34.mono b3.size)
      have HZ : Hid (∀ W, Below w4.heap.size w4 W → Below w.heap.size w W ∧ W.cell? ⟨w3.heap.size, 0, none⟩ = some (.int .i64 (CN : Nat)) ∧ W.cell? ⟨w3.heap.size, 1, none⟩ = some (.int .i64 (CB : Nat)) ∧ W.cell? ⟨q, 0, none⟩ = some (.pointer (some ⟨g, 0, none⟩)) ∧ W.cell? ⟨q, 5, none⟩ = some (.int .i64 (N : Nat)) ∧ Row .u8 W W.heap.size Ac (ckL p)) := Lib.hid fun W hW => by
        have hW' := b4.trans (hW.mono b4.size)
        obtain ⟨y0, y5⟩ := HCE.out W hW'
        have h2W : Below w2.heap.size w2 W := (b24.trans (b34.mono b24.size)).trans (hW.mono (Nat.le_trans b24.size b34.size))
        exact ⟨hW', (hW.cell (p := ⟨w3.heap.size, 0, none⟩) (by show w3.heap.size < _; omega)).trans zx0, (hW.cell (p := ⟨w3.heap.size, 1, none⟩) (by show w3.heap.size < _; omega)).trans zx1, y0, y5, (HRC.out.below h2W).more h2W.size⟩
      have HI4 : Hid (∀ W, Below w4.heap.size w4 W → Calls Tryz.prog 49 #[.pointer (some ⟨q, 0, none⟩)] W fun e w' => e = .returned (.bool true) ∧ Below w4.heap.size w4 w') := Lib.hid fun W hW => by
        refine (HIF.out W (HZ.out W hW).1).mono ?_
        rintro e w' ⟨h1, _, h3⟩
        exact ⟨h1, hW.trans (h3.mono hW.size)⟩
      have x54 := (HZ.out w4 (Below.refl _ _)).2.2.2.2.1
      clear zx0 zx1
      go_wp2_with fail
      refine (HI4.out w4 (Below.refl _ _)).mono ?_
      rintro e w5 ⟨rfl, b5⟩
      have zz5 := (HZ.out w5 b5).2.1
      go_wp2_with fail
      refine (HI4.out w5 b5).mono ?_
      rintro e w6 ⟨rfl, b6⟩
      clear zz5 x54
      have b6w := (HZ.out w6 b6).1
      have hz3 : ¬ G w3.heap.size := fun e => by have := hG0 _ e; have := b3.size; omega
      have hz4 : w3.heap.size < w6.heap.size := by have := b6.size; omega
      have zb6 : w6.heap[w3.heap.size]? = some (.cells #[.int .i64 (CN : Nat), .int .i64 (CB : Nat)] 67 (0, 0)) := (b6.block w3.heap.size (by omega)).trans (by rw [← hw4]; exact heap_alloc_new w3 _)
      have HRC6 := Lib.hid (HZ.out w6 b6).2.2.2.2.2
      go_wp2_with fail
      refine (HSYN.out w6 b6w).mono ?_
      rintro e w7 ⟨rfl, G7, ⟨Gd7, Gg7, sv7, gv7, gs7, h7, ha7⟩, f67, n7⟩
      have hg7 : gs7.length = 0 := (ha7.live y13).1
      have zb7 := (f67.block w3.heap.size hz4 hz3).trans zb6
      have z70 : w7.cell? ⟨w3.heap.size, 0, none⟩ = some (.int .i64 (CN : Nat)) := by rw [cell_of_row w7 _ 0 _ _ _ zb7]; rfl
      have z71 : w7.cell? ⟨w3.heap.size, 1, none⟩ = some (.int .i64 (CB : Nat)) := by rw [cell_of_row w7 _ 1 _ _ _ zb7]; rfl
      have zf0 := Joins.unfrozen_of_block zb7 0
      have zf1 := Joins.unfrozen_of_block zb7 1
      have q75 := h7.cell.2.2.2.2.2.1
      rw [HNX1.out] at q75
      obtain ⟨w8, hw8⟩ : ∃ w8, (w7.setCell ⟨w3.heap.size, 0, none⟩ (.int .i64 (CM : Nat))).setCell ⟨w3.heap.size, 1, none⟩ (.int .i64 (N : Nat)) = w8 := ⟨_, rfl⟩
      have hz7 : ∀ b, G7 b → ¬ b = w3.heap.size := fun b hb e => by
        subst e
        exact (n7 _ hb).elim hz3 (fun e => by omega)
      have f78 : Frm (fun b => b = w3.heap.size) w7 w8 := by
        rw [← hw8]
        exact (Frm.set (F := fun b => b = w3.heap.size) w7 w3.heap.size 0 (.int .i64 (CM : Nat)) rfl).trans (Frm.set (F := fun b => b = w3.heap.size) _ w3.heap.size 1 (.int .i64 (N : Nat)) rfl) (fun i hi => .inl hi)
      have zb8 : w8.heap[w3.heap.size]? = some (.cells #[.int .i64 (CM : Nat), .int .i64 (N : Nat)] 67 (0, 0)) := by
        rw [← hw8]
        exact Joins.block_setCell (i := 1) (Joins.block_setCell (i := 0) zb7 (.int .i64 (CM : Nat))) (.int .i64 (N : Nat))
      have gl8 : Gl w8 := (Y.dev.gl h7.dev).frm f78 (fun b hb e => by subst hb; have := HGLW.out.lt e; have := b3.size; omega)
      have h8 := h7.frm Y.dev f78 hz7 gl8
      have hac : ∀ x, Ac = some x → ¬ G x.block ∧ ¬ x.block = w3.heap.size ∧ x.block < w6.heap.size := fun x hx => by
        obtain ⟨h1, h2⟩ := HBC.out x hx
        have := b23.size
        exact ⟨fun e => by have := hG0 _ e; omega, by omega, by omega⟩
      have rc8 : Row .u8 w8 w8.heap.size Ac (ckL p) := f78.row (f67.row HRC6.out (fun x hx _ => (hac x hx).1)) (fun x hx _ => (hac x hx).2.1)
      have n8w : ∀ b, G7 b → G b ∨ w.heap.size ≤ b := fun b hb => (n7 b hb).imp id (fun e => by have := b6w.size; omega)
      have f8w : Frm G w w8 := ((Frm.of_below b6w).trans f67 (fun i hi => .inl hi)).trans f78 (fun i hi => by subst hi; exact .inr b3.size)
      have HC8 : Hid (∀ W, Below w8.heap.size w8 W → W.cell? ⟨q, 0, none⟩ = some (.pointer (some ⟨g, 0, none⟩)) ∧ W.cell? ⟨w3.heap.size, 0, none⟩ = some (.int .i64 (CM : Nat)) ∧ W.cell? ⟨w3.heap.size, 1, none⟩ = some (.int .i64 (N : Nat))) := Lib.hid fun W hW => by
        have zbW := (hW.block w3.heap.size (block_lt zb8)).trans zb8
        exact ⟨(h8.below Y.dev hW).cell.1, by rw [cell_of_row W _ 0 _ _ _ zbW]; rfl, by rw [cell_of_row W _ 1 _ _ _ zbW]; rfl⟩
      have HFI8 : Hid (∀ W, Below w8.heap.size w8 W → Calls Tryz.prog 50 #[.agg #[.int .i64 (CM : Nat), .int .i64 (N : Nat)]] W fun e w' => e = .returned (.string (segN CM)) ∧ Below W.heap.size W w') := Lib.hid fun W hW => file_any CM _ hc2.out.1 (by have := hc2.out.2; omega) W (gl8.below hW)
      have HAP8 : Hid (∀ W, Below w8.heap.size w8 W → Calls Tryz.prog 16 #[.pointer (some ⟨g, 0, none⟩), .string (segN CM), .slice Ac (ckL p).length cc] W fun e w' => e = .returned (.int .i64 ea) ∧ w'.cell? ⟨q, 0, none⟩ = some (.pointer (some ⟨g, 0, none⟩)) ∧ w'.cell? ⟨w3.heap.size, 0, none⟩ = some (.int .i64 (CM : Nat)) ∧ w'.cell? ⟨w3.heap.size, 1, none⟩ = some (.int .i64 (N : Nat)) ∧ ∃ G0 Gd' Gg' sv' gv' gs', gs'.length = 0 ∧ LgK D w' G0 g q da l1 Gd' Gg' sv' gv' gs' ∧ Frm G w w' ∧ (∀ b, G0 b → G b ∨ w.heap.size ≤ b)) := Lib.hid fun W hW => by
        refine (app_dev Y h8 HOK.out rc8 rfl lc mc (by omega) (fun x hx e => (n7 _ e).elim (hac x hx).1 (fun e => by have := (hac x hx).2.2; omega)) HQA.out W hW).mono ?_
        rintro e w' ⟨he, Gd', k1, k2, k3⟩
        have hzG : ¬ G7 w3.heap.size := fun e => hz7 _ e rfl
        have zb9 := (k2.block w3.heap.size (block_lt zb8) hzG).trans zb8
        exact ⟨he, k1.cell.1, by rw [cell_of_row w' _ 0 _ _ _ zb9]; rfl, by rw [cell_of_row w' _ 1 _ _ _ zb9]; rfl, _, _, _, _, _, _, hg7, k1, f8w.trans k2 n8w, fun b hb => (k3 b hb).elim (n8w b) (fun e => .inr (Nat.le_trans f8w.size e))⟩
      have bd8 : Below w8.heap.size w8 w8.drew.drew := below_drew (below_drew (Below.refl _ _))
      obtain ⟨t0, t1, t2⟩ := HC8.out _ bd8
      clear h7 ha7 n7 f67 zb6 h8 rc8 gl8 f78 zb8 f8w n8w hac hz7
      go_wp2
      go_region
      go_wp2
      clear zf0 zf1 z70 z71 zb7 q75
      go_region_held3 (fun w9 => w9.cell? ⟨q, 0, none⟩ = some (.pointer (some ⟨g, 0, none⟩)) ∧ w9.cell? ⟨w3.heap.size, 0, none⟩ = some (.int .i64 (CM : Nat)) ∧ w9.cell? ⟨w3.heap.size, 1, none⟩ = some (.int .i64 (N : Nat))) (exact ⟨by assumption, by assumption, by assumption⟩) (first
        | (go_at_call 50; refine (HFI8.out _ bd8).mono ?_; rintro e w9 ⟨rfl, b89⟩; have b9 : Below w8.heap.size w8 w9 := bd8.trans (b89.mono bd8.size); obtain ⟨u0, u1, u2⟩ := HC8.out _ b9)
        | (go_at_call 16; refine (HAP8.out _ b9).mono ?_; rintro e w11 ⟨rfl, v0, v1, v2, G8, Gd8, Gg8, sv8, gv8, gs8, hg8, k8, f8, n8⟩)
        | fail)
      all_goals
        have HR1 := Lib.hid (HEND.out _ _ _ _ _ _ _ hg8 k8 f8 n8)
        clear k8 f8 n8 hg8
        go_wp2
        go_ret2
        exact HR1.out
  have hfu' : fullS l = false := by simpa using hfu
  have hpu : putN l = curN l := by unfold putN; rw [if_neg hfu]
  have e0 : appG d l p = putG d l p := by unfold appG; rw [if_neg hoff, if_neg hlong, if_neg hst, if_neg hfu]
  obtain ⟨da, ea, qa⟩ : ∃ da ea, appD d (segN (putN l)) (ckL p) = (da, ea) := ⟨_, _, rfl⟩
  rw [e0, putG_eq qa] at he
  rw [hpu] at qa
  rw [hfu'] at HIF
  have HFI : Hid (∀ W, Below w.heap.size w W → Calls Tryz.prog 50 #[.agg #[.int .i64 (curN l : Nat), .int .i64 (curB l : Nat)]] W fun e w' => e = .returned (.string (segN (curN l))) ∧ Below W.heap.size W w') := Lib.hid fun W hW => file_any (curN l) _ hc1 (by omega) W ((Y.dev.gl h.dev).below hW)
  have HDA : Hid (∀ W Ac cc, Below w.heap.size w W → Row .u8 W W.heap.size Ac (ckL p) → (ckL p).length ≤ cc → cc ≤ 9223372036854775807 → (∀ x, Ac = some x → w.heap.size ≤ x.block) → Calls Tryz.prog 16 #[.pointer (some ⟨g, 0, none⟩), .string (segN (curN l)), .slice Ac (ckL p).length cc] W fun e w' => e = .returned (.int .i64 ea) ∧ ∃ Gd', LgK D w' (fun b => G b ∨ Gd' b) g q da l Gd' Gg sv gv gs ∧ Frm G w w' ∧ Frm G W w' ∧ (∀ b, G b ∨ Gd' b → G b ∨ w.heap.size ≤ b)) := Lib.hid fun W Ac cc hW hr hl hm hx => by
    refine (app_dev Y (h.below Y.dev hW) ha.ok hr rfl hl hm (by omega) (fun x hx2 e => by have := hx x hx2; have := hG0 _ e; omega) qa W (Below.refl _ _)).mono ?_
    rintro e w' ⟨he, Gd', k1, k2, k3⟩
    exact ⟨he, Gd', k1, (Frm.of_below hW).trans k2 (fun i hi => .inl hi), k2, fun b hb => (k3 b hb).imp id (fun e => Nat.le_trans hW.size e)⟩
  by_cases hea : ea = 0
  · subst hea
    rw [if_pos rfl] at he
    injection he with x1 he; injection he with x2 he; injection he with x3 x4
    subst x1 x2 x3 x4
    have w1' : IntKind.i64.wrap ((nextG l : Int) + 1 - 1) = (nextG l : Int) := by rw [IntKind.wrap_i64]; omega
    have hnn : nextG { l with segs := addS l p } = nextG l + 1 := by unfold nextG; simp only; rw [addS_cnt]; omega
    have HEN : Hid (∀ W Gd', LgK D W (fun b => G b ∨ Gd' b) g q da l Gd' Gg sv gv gs → Calls Tryz.prog 51 #[.pointer (some ⟨q, 0, none⟩), .agg #[.int .i64 (curN l : Nat), .int .i64 (curB l : Nat)], .int .i64 ((ckL p).length : Nat)] W fun e w' => e = .returned (.tuple #[]) ∧ LStq D W (fun b => G b ∨ Gd' b) g q da { l with segs := addS l p } Gd' Gg gv gs w') := Lib.hid fun W Gd' k => by
      by_cases h0 : l.segs = []
      · have := enterNil Y k ha.bd hgs0 h0 p (by omega) (curN l) (curB l) (by unfold curN; rw [h0]; simp) (by unfold curB nextG; rw [h0]; rfl)
        rw [show addS l p = l.segs ++ [[p]] by unfold addS; rw [if_pos (.inl h0)]]
        exact this
      · have := enterOld Y k ha.bd hgs0 h0 p (by omega)
        rw [show addS l p = l.segs.dropLast ++ [lastS l ++ [p]] by unfold addS; rw [if_neg (by rintro (h9 | h9); exact h0 h9; exact hfu h9)]]
        exact this
    have HEND : Hid (∀ W Gd' w', Frm G w W → (∀ b, G b ∨ Gd' b → G b ∨ w.heap.size ≤ b) → LStq D W (fun b => G b ∨ Gd' b) g q da { l with segs := addS l p } Gd' Gg gv gs w' → LStp (KLg D) G g q da { l with segs := addS l p } (.tuple #[.int .i64 (nextG l : Nat), .int .i64 0]) w (.returned (.tuple #[.int .i64 (nextG l : Nat), .int .i64 0])) w' ∧ w'.cell? ⟨q, 5, none⟩ = some (.int .i64 ((nextG l : Int) + 1))) := Lib.hid fun W Gd' w' hf hG hq => by
      obtain ⟨r1, r2⟩ := LStp.of_q (v := .tuple #[.int .i64 (nextG l : Nat), .int .i64 0]) hf hG hq at1
      rw [hnn] at r2
      exact ⟨r1, r2⟩
    clear hoff hoff' ha hr hn h his hlong hw hst hnx e0 qa s1 s2 s3 s4 s5 s6 s7 hnx2 at1 hgs0 hgs hpn hpu hfu hfu' hcn hc1 hnn
    generalize nextG l = N at *
    generalize curN l = CN at *
    generalize curB l = CB at *
    generalize { l with segs := addS l p } = l2 at *
    go_enter Tryz.func21, Tryz.ntmps21
    go_wp2_with fail
    refine HDN.out.mono ?_
    rintro e w1 ⟨rfl, b1, h1⟩
    have c01 := h1.cell.1
    clear h1 c0
    go_wp2_with fail
    refine (HPU2.out w1 b1).mono ?_
    rintro e w2 ⟨Ac, cc, rfl, b2, rc, lc, mc, bc⟩
    have HRC := Lib.hid (show Row .u8 w2 w2.heap.size Ac (ckL p) from rc)
    have HBC := Lib.hid bc
    clear rc bc
    go_wp2_with fail
    refine (HCU.out w2 b2).mono ?_
    rintro e w3 ⟨rfl, b3, b23⟩
    obtain ⟨w4, hw4⟩ : ∃ w4, w3.alloc (.cells #[.int .i64 (CN : Nat), .int .i64 (CB : Nat)] 67) = w4 := ⟨_, rfl⟩
    have zx0 : w4.cell? ⟨w3.heap.size, 0, none⟩ = some (.int .i64 (CN : Nat)) := by rw [← hw4, World.cell?_alloc_at _ _ _ _ rfl]; rfl
    have zx1 : w4.cell? ⟨w3.heap.size, 1, none⟩ = some (.int .i64 (CB : Nat)) := by rw [← hw4, World.cell?_alloc_at _ _ _ _ rfl]; rfl
    have zs4 : w4.heap.size = w3.heap.size + 1 := by rw [← hw4]; simp
    have b34 : Below w3.heap.size w3 w4 := by rw [← hw4]; exact bel_alloc _ _
    have b24 : Below w2.heap.size w2 w3 := b23
    have b4 := b3.trans (b34.mono b3.size)
    have HZ : Hid (∀ W, Below w4.heap.size w4 W → Below w.heap.size w W ∧ W.cell? ⟨w3.heap.size, 0, none⟩ = some (.int .i64 (CN : Nat)) ∧ W.cell? ⟨w3.heap.size, 1, none⟩ = some (.int .i64 (CB : Nat)) ∧ W.cell? ⟨q, 0, none⟩ = some (.pointer (some ⟨g, 0, none⟩)) ∧ W.cell? ⟨q, 5, none⟩ = some (.int .i64 (N : Nat)) ∧ Row .u8 W W.heap.size Ac (ckL p)) := Lib.hid fun W hW => by
      have hW' := b4.trans (hW.mono b4.size)
      obtain ⟨y0, y5⟩ := HCE.out W hW'
      have h2W : Below w2.heap.size w2 W := (b24.trans (b34.mono b24.size)).trans (hW.mono (Nat.le_trans b24.size b34.size))
      exact ⟨hW', (hW.cell (p := ⟨w3.heap.size, 0, none⟩) (by show w3.heap.size < _; omega)).trans zx0, (hW.cell (p := ⟨w3.heap.size, 1, none⟩) (by show w3.heap.size < _; omega)).trans zx1, y0, y5, (HRC.out.below h2W).more h2W.size⟩
    have HI4 : Hid (∀ W, Below w4.heap.size w4 W → Calls Tryz.prog 49 #[.pointer (some ⟨q, 0, none⟩)] W fun e w' => e = .returned (.bool false) ∧ Below w4.heap.size w4 w') := Lib.hid fun W hW => by
      refine (HIF.out W (HZ.out W hW).1).mono ?_
      rintro e w' ⟨h1, _, h3⟩
      exact ⟨h1, hW.trans (h3.mono hW.size)⟩
    have x54 := (HZ.out w4 (Below.refl _ _)).2.2.2.2.1
    clear zx0 zx1
    go_wp2_with fail
    refine (HI4.out w4 (Below.refl _ _)).mono ?_
    rintro e w5 ⟨rfl, b5⟩
    have zz5 := (HZ.out w5 b5).2.1
    go_wp2_with fail
    refine (HI4.out w5 b5).mono ?_
    rintro e w6 ⟨rfl, b6⟩
    clear zz5 x54
    have HAP8 : Hid (∀ W, Below w4.heap.size w4 W → Calls Tryz.prog 16 #[.pointer (some ⟨g, 0, none⟩), .string (segN CN), .slice Ac (ckL p).length cc] W fun e w' => e = .returned (.int .i64 0) ∧ w'.cell? ⟨q, 0, none⟩ = some (.pointer (some ⟨g, 0, none⟩)) ∧ w'.cell? ⟨w3.heap.size, 0, none⟩ = some (.int .i64 (CN : Nat)) ∧ w'.cell? ⟨w3.heap.size, 1, none⟩ = some (.int .i64 (CB : Nat)) ∧ ∃ Gd', LgK D w' (fun b => G b ∨ Gd' b) g q da l Gd' Gg sv gv gs ∧ Frm G w w' ∧ (∀ b, G b ∨ Gd' b → G b ∨ w.heap.size ≤ b)) := Lib.hid fun W hW => by
      obtain ⟨y1, y2, y3, y4, _, y6⟩ := HZ.out W hW
      refine (HDA.out W Ac cc y1 y6 lc mc (fun x hx => (HBC.out x hx).1)).mono ?_
      rintro e w' ⟨he, Gd', k1, k2, k3, k4⟩
      have hz3 : ¬ G w3.heap.size := fun e => by have := hG0 _ e; have := b3.size; omega
      have hz4 : w3.heap.size < W.heap.size := by have := hW.size; omega
      exact ⟨he, k1.cell.1, (k3.cell hz4 hz3).trans y2, (k3.cell hz4 hz3).trans y3, Gd', k1, k2, k4⟩
    have bd6 : Below w4.heap.size w4 w6.drew := below_drew b6
    obtain ⟨_, t0, t1, t2, _, _⟩ := HZ.out _ bd6
    have HZ8 : Hid (∀ w8, Frm G w w8 → Frm G w6.drew w8 → True) := Lib.hid fun _ _ _ => trivial
    go_wp2
    go_region_held3 (fun w9 => w9.cell? ⟨q, 0, none⟩ = some (.pointer (some ⟨g, 0, none⟩)) ∧ w9.cell? ⟨w3.heap.size, 0, none⟩ = some (.int .i64 (CN : Nat)) ∧ w9.cell? ⟨w3.heap.size, 1, none⟩ = some (.int .i64 (CB : Nat))) (exact ⟨by assumption, by assumption, by assumption⟩) (first
      | (go_at_call 50; refine (HFI.out _ (HZ.out _ bd6).1).mono ?_; rintro e w7 ⟨rfl, b67⟩; have b7 : Below w4.heap.size w4 w7 := bd6.trans (b67.mono bd6.size); obtain ⟨bw7, u0, u1, u2, _, urow⟩ := HZ.out _ b7)
      | (go_at_call 16; refine (HAP8.out _ b7).mono ?_; rintro e w8 ⟨rfl, v0, v1, v2, Gd8, k8, f8, n8⟩)
      | fail)
    all_goals
      have k5 := k8
      go_wp2_with fail
      refine (HEN.out _ _ k8).mono ?_
      rintro e w9 ⟨rfl, hq9⟩
      obtain ⟨r1, r2⟩ := HEND.out _ _ _ f8 n8 hq9
      have HR1 := Lib.hid r1
      clear r1 hq9 k8 k5 f8 n8
      go_wp2
      go_ret2
      exact HR1.out
  · rw [if_neg hea] at he
    injection he with x1 he; injection he with x2 he; injection he with x3 x4
    subst x1 x2 x3 x4
    have i2 : (ea == 0) = false := by simpa using hea
    have i3 : (ea != 0) = true := by simpa using hea
    have HEND : Hid (∀ W Gd', LgK D W (fun b => G b ∨ Gd' b) g q da l Gd' Gg sv gv gs → Frm G w W → (∀ b, G b ∨ Gd' b → G b ∨ w.heap.size ≤ b) → LStp (KLg D) G g q da l (.tuple #[.int .i64 0, .int .i64 ea]) w (.returned (.tuple #[.int .i64 0, .int .i64 ea])) W) := Lib.hid fun W Gd' k hf hG => ⟨rfl, _, ⟨_, _, _, _, _, k, at1⟩, hf, hG⟩
    clear hoff hoff' ha hr hn h his hlong hw hst hnx e0 qa s1 s2 s3 s4 s5 s6 s7 hnx2 at1 hgs0 hgs hpn hpu hfu hfu' hcn hc1 hea
    generalize nextG l = N at *
    generalize curN l = CN at *
    generalize curB l = CB at *
    go_enter Tryz.func21, Tryz.ntmps21
    go_wp2_with fail
    refine HDN.out.mono ?_
    rintro e w1 ⟨rfl, b1, h1⟩
    have c01 := h1.cell.1
    clear h1 c0
    go_wp2_with fail
    refine (HPU2.out w1 b1).mono ?_
    rintro e w2 ⟨Ac, cc, rfl, b2, rc, lc, mc, bc⟩
    have HRC := Lib.hid (show Row .u8 w2 w2.heap.size Ac (ckL p) from rc)
    have HBC := Lib.hid bc
    clear rc bc
    go_wp2_with fail
    refine (HCU.out w2 b2).mono ?_
    rintro e w3 ⟨rfl, b3, b23⟩
    obtain ⟨w4, hw4⟩ : ∃ w4, w3.alloc (.cells #[.int .i64 (CN : Nat), .int .i64 (CB : Nat)] 67) = w4 := ⟨_, rfl⟩
    have zx0 : w4.cell? ⟨w3.heap.size, 0, none⟩ = some (.int .i64 (CN : Nat)) := by rw [← hw4, World.cell?_alloc_at _ _ _ _ rfl]; rfl
    have zx1 : w4.cell? ⟨w3.heap.size, 1, none⟩ = some (.int .i64 (CB : Nat)) := by rw [← hw4, World.cell?_alloc_at _ _ _ _ rfl]; rfl
    have zs4 : w4.heap.size = w3.heap.size + 1 := by rw [← hw4]; simp
    have b34 : Below w3.heap.size w3 w4 := by rw [← hw4]; exact bel_alloc _ _
    have b24 : Below w2.heap.size w2 w3 := b23
    have b4 := b3.trans (b34.mono b3.size)
    have HZ : Hid (∀ W, Below w4.heap.size w4 W → Below w.heap.size w W ∧ W.cell? ⟨w3.heap.size, 0, none⟩ = some (.int .i64 (CN : Nat)) ∧ W.cell? ⟨w3.heap.size, 1, none⟩ = some (.int .i64 (CB : Nat)) ∧ W.cell? ⟨q, 0, none⟩ = some (.pointer (some ⟨g, 0, none⟩)) ∧ W.cell? ⟨q, 5, none⟩ = some (.int .i64 (N : Nat)) ∧ Row .u8 W W.heap.size Ac (ckL p)) := Lib.hid fun W hW => by
      have hW' := b4.trans (hW.mono b4.size)
      obtain ⟨y0, y5⟩ := HCE.out W hW'
      have h2W : Below w2.heap.size w2 W := (b24.trans (b34.mono b24.size)).trans (hW.mono (Nat.le_trans b24.size b34.size))
      exact ⟨hW', (hW.cell (p := ⟨w3.heap.size, 0, none⟩) (by show w3.heap.size < _; omega)).trans zx0, (hW.cell (p := ⟨w3.heap.size, 1, none⟩) (by show w3.heap.size < _; omega)).trans zx1, y0, y5, (HRC.out.below h2W).more h2W.size⟩
    have HI4 : Hid (∀ W, Below w4.heap.size w4 W → Calls Tryz.prog 49 #[.pointer (some ⟨q, 0, none⟩)] W fun e w' => e = .returned (.bool false) ∧ Below w4.heap.size w4 w') := Lib.hid fun W hW => by
      refine (HIF.out W (HZ.out W hW).1).mono ?_
      rintro e w' ⟨h1, _, h3⟩
      exact ⟨h1, hW.trans (h3.mono hW.size)⟩
    have x54 := (HZ.out w4 (Below.refl _ _)).2.2.2.2.1
    clear zx0 zx1
    go_wp2_with fail
    refine (HI4.out w4 (Below.refl _ _)).mono ?_
    rintro e w5 ⟨rfl, b5⟩
    have zz5 := (HZ.out w5 b5).2.1
    go_wp2_with fail
    refine (HI4.out w5 b5).mono ?_
    rintro e w6 ⟨rfl, b6⟩
    clear zz5 x54
    have HAP8 : Hid (∀ W, Below w4.heap.size w4 W → Calls Tryz.prog 16 #[.pointer (some ⟨g, 0, none⟩), .string (segN CN), .slice Ac (ckL p).length cc] W fun e w' => e = .returned (.int .i64 ea) ∧ w'.cell? ⟨q, 0, none⟩ = some (.pointer (some ⟨g, 0, none⟩)) ∧ w'.cell? ⟨w3.heap.size, 0, none⟩ = some (.int .i64 (CN : Nat)) ∧ w'.cell? ⟨w3.heap.size, 1, none⟩ = some (.int .i64 (CB : Nat)) ∧ ∃ Gd', LgK D w' (fun b => G b ∨ Gd' b) g q da l Gd' Gg sv gv gs ∧ Frm G w w' ∧ (∀ b, G b ∨ Gd' b → G b ∨ w.heap.size ≤ b)) := Lib.hid fun W hW => by
      obtain ⟨y1, y2, y3, y4, _, y6⟩ := HZ.out W hW
      refine (HDA.out W Ac cc y1 y6 lc mc (fun x hx => (HBC.out x hx).1)).mono ?_
      rintro e w' ⟨he, Gd', k1, k2, k3, k4⟩
      have hz3 : ¬ G w3.heap.size := fun e => by have := hG0 _ e; have := b3.size; omega
      have hz4 : w3.heap.size < W.heap.size := by have := hW.size; omega
      exact ⟨he, k1.cell.1, (k3.cell hz4 hz3).trans y2, (k3.cell hz4 hz3).trans y3, Gd', k1, k2, k4⟩
    have bd6 : Below w4.heap.size w4 w6.drew := below_drew b6
    obtain ⟨_, t0, t1, t2, _, _⟩ := HZ.out _ bd6
    have HZ8 : Hid (∀ w8, Frm G w w8 → Frm G w6.drew w8 → True) := Lib.hid fun _ _ _ => trivial
    go_wp2
    go_region_held3 (fun w9 => w9.cell? ⟨q, 0, none⟩ = some (.pointer (some ⟨g, 0, none⟩)) ∧ w9.cell? ⟨w3.heap.size, 0, none⟩ = some (.int .i64 (CN : Nat)) ∧ w9.cell? ⟨w3.heap.size, 1, none⟩ = some (.int .i64 (CB : Nat))) (exact ⟨by assumption, by assumption, by assumption⟩) (first
      | (go_at_call 50; refine (HFI.out _ (HZ.out _ bd6).1).mono ?_; rintro e w7 ⟨rfl, b67⟩; have b7 : Below w4.heap.size w4 w7 := bd6.trans (b67.mono bd6.size); obtain ⟨bw7, u0, u1, u2, _, urow⟩ := HZ.out _ b7)
      | (go_at_call 16; refine (HAP8.out _ b7).mono ?_; rintro e w8 ⟨rfl, v0, v1, v2, Gd8, k8, f8, n8⟩)
      | fail)
    all_goals
      have HR1 := Lib.hid (HEND.out _ _ k8 f8 n8)
      clear k8 f8 n8
      go_wp2
      go_ret2
      exact HR1.out
end Go.Proofs.YtbdhhmhlcdganaaGreatDoor
namespace Go.Proofs.YtbdhhmhlcdganaaGreatDoor
open Go.RowKit
set_option linter.unusedVariables false
set_option maxRecDepth 100000

theorem cntS_take (l : List (List (List Int))) {i : Nat} (h : i < l.length) : cntS (l.take (i + 1)) = cntS (l.take i) + l[i].length := by
  rw [List.take_succ_eq_append_getElem h, cntS_append]
  simp [cntS]
theorem flat_at (l : List (List (List Int))) {i j : Nat} (h : i < l.length) (hj : j < l[i].length) : l.flatten.getD (cntS (l.take i) + j) [] = nthB l[i] j := by
  have e : l.flatten = (l.take i).flatten ++ (l[i] ++ (l.drop (i + 1)).flatten) := by
    conv => lhs; rw [← List.take_append_drop i l, List.flatten_append, List.drop_eq_getElem_cons h, List.flatten_cons]
  have hc : cntS (l.take i) = (l.take i).flatten.length := cntS_flat _
  rw [e, hc, List.getD_eq_getElem?_getD, List.getElem?_append_right (by omega), Nat.add_sub_cancel_left, List.getElem?_append_left hj]
  unfold nthB
  rw [List.getD_eq_getElem?_getD]
section
variable {D : DevP} {w w' : World} {G : Nat → Prop} {g q : Nat} {d : Dv} {l : Lg} {Gd Gg : Nat → Prop} {sv gv : Value} {gs : List (List Int)}
theorem holder14 (h : LgK D w G g q d l Gd Gg sv gv gs) (ha : SgBd l) (n : Nat) (h1 : l.first ≤ n) (h2 : n < nextG l) :
    Calls Tryz.prog 65 #[.pointer (some ⟨q, 0, none⟩), .int .i64 (n : Nat)] w fun e w' => ∃ i : Nat, e = .returned (.int .i64 (i : Nat)) ∧ w = w' ∧ i < l.segs.length ∧ l.first + cntS (l.segs.take i) ≤ n ∧ n < l.first + cntS (l.segs.take (i + 1)) := by
  obtain ⟨A, c, rfl, hr, hc, hm⟩ := h.slice ha
  obtain ⟨_, _, _, c3, _⟩ := h.cell
  have hfew := ha.few
  have hp : 0 < l.segs.length := by
    apply Nat.pos_of_ne_zero
    intro e
    have : l.segs = [] := List.length_eq_zero_iff.1 e
    unfold nextG at h2
    rw [this] at h2
    simp [cntS] at h2
    omega
  have HR : Hid (∀ i, i < l.segs.length → ∃ b o, A = some ⟨b, o, none⟩ ∧ w.cell? ⟨b, o + i * 2 + 1, none⟩ = some (.int .i64 ((l.first + cntS (l.segs.take i) : Nat) : Int))) := Lib.hid fun i hi => by
    obtain ⟨b, o, e, _, _, p2⟩ := hr.pt (k := i) (by rw [segL_len]; omega)
    obtain ⟨_, e2⟩ := segL_at l.n l.first l.segs hi
    rw [e2] at p2
    exact ⟨b, o, e, p2⟩
  have H0 : Hid (cntS (l.segs.take 0) = 0) := Lib.hid (by simp [cntS])
  have HNX : Hid (n < l.first + cntS (l.segs.take l.segs.length)) := Lib.hid (by rw [List.take_length]; exact h2)
  obtain ⟨m, hm0⟩ : ∃ m, l.segs.length = m := ⟨_, rfl⟩
  rw [hm0] at c3 hc hp HR HNX hfew ⊢
  generalize hB : (fun i => l.first + cntS (l.segs.take i)) = B at *
  have HB : Hid (∀ i, l.first + cntS (l.segs.take i) = B i) := Lib.hid fun i => by rw [← hB]
  simp only [HB.out] at HR HNX ⊢
  have HB0 : Hid (B 0 ≤ n) := Lib.hid (by rw [← HB.out, H0.out]; omega)
  have hnx := ha.nxt
  clear h ha hr hm h2 H0 hm0 hB
  have hw1 : IntKind.i64.wrap ((m : Int) - 1) = ((m - 1 : Nat) : Int) := by rw [IntKind.wrap_i64]; omega
  go_enter Tryz.func65, Tryz.ntmps65
  go_wp2
  go_loop [5] (fun i => ∃ k : Nat, k < m ∧ i = .int .i64 (k : Int) ∧ Hid (n < B (k + 1))) (fun i => (intOf i).toNat)
  case atStart => exact ⟨m - 1, by omega, rfl, Lib.hid (by rw [show m - 1 + 1 = m by omega]; exact HNX.out)⟩
  case round =>
    obtain ⟨k, hk, rfl, hlt⟩ := hrel
    obtain ⟨b, o, rfl, p2⟩ := HR.out k hk
    by_cases hgt : (B k : Int) > (n : Int)
    · have hk0 : k ≠ 0 := fun e => by subst e; have := HB0.out; omega
      have hw2 : IntKind.i64.wrap ((k : Int) - 1) = ((k - 1 : Nat) : Int) := by rw [IntKind.wrap_i64]; omega
      go_wp2
      go_round
      case rel => exact ⟨k - 1, by omega, rfl, Lib.hid (by rw [show k - 1 + 1 = k by omega]; omega)⟩
      case measure => simp [intOf]; omega
    · go_wp2
      go_ret
      exact ⟨k, rfl, rfl, hk, by omega, hlt.out⟩
theorem read14 (Y : DevOkG D) (h : LgK D w G g q d l Gd Gg sv gv gs) (ha : SgAt d l gs.length) (i : Nat) (hi : i < l.segs.length) :
    Calls Tryz.prog 67 #[.pointer (some ⟨q, 0, none⟩), .int .i64 (i : Nat)] w fun e w' => ∃ A c, e = .returned (.slice A (ckAll l.segs[i]).length c) ∧ Row .u8 w' w'.heap.size A (ckAll l.segs[i]) ∧ (ckAll l.segs[i]).length ≤ c ∧ Below w.heap.size w w' := by
  have hfew := ha.few
  obtain ⟨Ag, cg, hgv, hgone⟩ := h.gone
  subst hgv
  have hbg := hgone (fun _ => False) w (Frm.refl _ _) (fun _ _ e => e)
  by_cases hlt : i < gs.length
  · have hgi : nthB gs i = ckAll l.segs[i] := by
      rw [nthB_eq _ _ hlt]
      have e := h.gis
      have h1 : gs[i]? = ((l.segs.take gs.length).map ckAll)[i]? := by rw [← e]
      rw [List.getElem?_eq_getElem hlt, List.getElem?_map, List.getElem?_take_of_lt hlt, List.getElem?_eq_getElem hi] at h1
      injection h1
    obtain ⟨b, o, Ai, ci, rfl, hb, c1, hr, hc, hm⟩ := hbg.at_ hlt
    rw [hgi] at c1 hr hc
    have c7 := h.cell.2.2.2.2.2.2.2
    have hgl : gs.length ≤ 64 := by
      have := congrArg List.length h.gis
      rw [List.length_map, List.length_take] at this
      omega
    have HR := Lib.hid hr
    have HC := Lib.hid hc
    generalize ckAll l.segs[i] = bs at *
    generalize gs.length = m at *
    have i1 : (i : Int) < (m : Int) := by omega
    clear h ha hgone hbg hr hc hm hgi
    go_enter Tryz.func67, Tryz.ntmps67
    go_wp2
    go_ret
    exact ⟨Ai, ci, rfl, HR.out, HC.out, Below.refl _ _⟩
  · obtain ⟨A, c, rfl, hr, hc, hm⟩ := h.slice ha.bd
    obtain ⟨c0, _, _, c3, _, _, _, c7⟩ := h.cell
    obtain ⟨b, o, rfl, hb, p1, p2⟩ := hr.pt (k := i) (by rw [segL_len]; omega)
    obtain ⟨e1, e2⟩ := segL_at l.n l.first l.segs hi
    rw [e1] at p1
    rw [e2] at p2
    obtain ⟨y, hy⟩ := ha.rd i hi (by omega)
    have hn1 := ha.n1
    have hn2 := ha.n2
    have HFI : Hid (∀ W, Below w.heap.size w W → Calls Tryz.prog 50 #[.agg #[.int .i64 ((l.n + i : Nat) : Int), .int .i64 ((l.first + cntS (l.segs.take i) : Nat) : Int)]] W fun e w' => e = .returned (.string (segN (l.n + i))) ∧ Below w.heap.size w w' ∧ w'.cell? ⟨q, 0, none⟩ = some (.pointer (some ⟨g, 0, none⟩)) ∧ w'.cell? ⟨q, 3, none⟩ = some (.slice (some ⟨b, o, none⟩) l.segs.length c) ∧ w'.cell? ⟨b, o + i * 2, none⟩ = some (.int .i64 ((l.n + i : Nat) : Int)) ∧ w'.cell? ⟨b, o + i * 2 + 1, none⟩ = some (.int .i64 ((l.first + cntS (l.segs.take i) : Nat) : Int))) := Lib.hid fun W hW => by
      refine (file_any (l.n + i) _ (by omega) (by omega) W ((Y.dev.gl h.dev).below hW)).mono ?_
      rintro e w' ⟨he, hb'⟩
      have hb2 := hW.trans (hb'.mono hW.size)
      obtain ⟨x0, _, _, x3, _⟩ := (h.below Y.dev hb2).cell
      exact ⟨he, hb2, x0, x3, (hb2.cell (p := ⟨b, o + i * 2, none⟩) hb).trans p1, (hb2.cell (p := ⟨b, o + i * 2 + 1, none⟩) hb).trans p2⟩
    have HRD : Hid (∀ W, Below w.heap.size w W → Calls Tryz.prog 69 #[.pointer (some ⟨g, 0, none⟩), .string (segN (l.n + i))] W fun e w' => ∃ A' c', e = .returned (.tuple #[.slice A' (ckAll l.segs[i]).length c', .int .i64 0]) ∧ (w'.cell? ⟨q, 0, none⟩ = some (.pointer (some ⟨g, 0, none⟩)) ∧ w'.cell? ⟨q, 3, none⟩ = some (.slice (some ⟨b, o, none⟩) l.segs.length c) ∧ w'.cell? ⟨b, o + i * 2, none⟩ = some (.int .i64 ((l.n + i : Nat) : Int)) ∧ w'.cell? ⟨b, o + i * 2 + 1, none⟩ = some (.int .i64 ((l.first + cntS (l.segs.take i) : Nat) : Int))) ∧ Row .u8 w' w'.heap.size A' (ckAll l.segs[i]) ∧ (ckAll l.segs[i]).length ≤ c' ∧ Below w.heap.size w w') := Lib.hid fun W hW => by
      have h2 := h.below Y.dev hW
      refine (Y.read (segN (l.n + i)) h2.dev ha.ok).mono ?_
      rintro e w' ⟨v, he, hv, hb'⟩
      have e1 : readE d (segN (l.n + i)) = 0 := by rw [readE_lk, hy]; rfl
      have e2 : readL d (segN (l.n + i)) = ckAll l.segs[i] := by rw [readL_lk, hy]; rfl
      rw [e1] at he
      rw [e2] at hv
      have hb2 := hW.trans (hb'.mono hW.size)
      obtain ⟨x0, _, _, x3, _⟩ := (h.below Y.dev hb2).cell
      obtain ⟨A', c', rfl, r1, r2, r3⟩ := hv.own.row (fun x hx => lk_wf ha.ok hy x hx)
      exact ⟨A', c', he, ⟨x0, x3, (hb2.cell (p := ⟨b, o + i * 2, none⟩) hb).trans p1, (hb2.cell (p := ⟨b, o + i * 2 + 1, none⟩) hb).trans p2⟩, r1, r2, hb2⟩
    generalize ckAll l.segs[i] = bs at *
    generalize gs.length = m at *
    generalize hN : l.n + i = N at *
    generalize hB : l.first + cntS (l.segs.take i) = B at *
    generalize l.segs.length = k at *
    have i1 : ¬ (i : Int) < (m : Int) := by omega
    have bd := below_drew (Below.refl w.heap.size w)
    have t0 : w.drew.cell? ⟨q, 0, none⟩ = some (.pointer (some ⟨g, 0, none⟩)) := c0
    have t3 : w.drew.cell? ⟨q, 3, none⟩ = some (.slice (some ⟨b, o, none⟩) k c) := c3
    have t4 : w.drew.cell? ⟨b, o + i * 2, none⟩ = some (.int .i64 (N : Nat)) := p1
    have t5 : w.drew.cell? ⟨b, o + i * 2 + 1, none⟩ = some (.int .i64 (B : Nat)) := p2
    clear h ha hgone hbg hr hc hm e1 e2 hy hN hB
    go_enter Tryz.func67, Tryz.ntmps67
    go_wp2
    go_region_held3 (fun w9 => w9.cell? ⟨q, 0, none⟩ = some (.pointer (some ⟨g, 0, none⟩)) ∧ w9.cell? ⟨q, 3, none⟩ = some (.slice (some ⟨b, o, none⟩) k c) ∧ w9.cell? ⟨b, o + i * 2, none⟩ = some (.int .i64 (N : Nat)) ∧ w9.cell? ⟨b, o + i * 2 + 1, none⟩ = some (.int .i64 (B : Nat))) (exact ⟨by assumption, by assumption, by assumption, by assumption⟩) (first
      | (go_at_call 50; refine (HFI.out _ bd).mono ?_; rintro e w2 ⟨rfl, b2, u0, u1, u2, u3⟩)
      | (go_at_call 69; refine (HRD.out _ b2).mono ?_; rintro e w3 ⟨A', c', rfl, ⟨v0, v1, v2, v3⟩, r1, r2, b3⟩; have HR1 := Lib.hid r1; have HR2 := Lib.hid r2; have HB3 := Lib.hid b3; clear r1 r2 b3)
      | fail)
    go_wp2
    go_ret
    exact ⟨A', c', rfl, HR1.out, HR2.out, HB3.out⟩
theorem get14 (Y : DevOkG D) (h : LgK D w G g q d l Gd Gg sv gv gs) (ha : SgAt d l gs.length) (n : Int) (hn : -9223372036854775808 ≤ n ∧ n < 9223372036854775808) :
    Calls Tryz.prog 31 #[.pointer (some ⟨q, 0, none⟩), .int .i64 n] w fun e w' => ∃ v, e = .returned (.tuple #[v, .int .i64 (getE14 l n)]) ∧ KOwn .u8 5 w' w.heap.size v (getG l n) ∧ Below w.heap.size w w' := by
  have HFS := Lib.hid (first14 h)
  by_cases h1 : n < (l.first : Int)
  · have e1 : getE14 l n = 31 := if_pos h1
    have e2 : getG l n = [] := by unfold getG; rw [if_neg (by rw [e1]; decide)]
    rw [e1, e2]
    clear h ha e1 e2
    go_enter Tryz.func31, Tryz.ntmps31
    go_wp2_with fail
    refine HFS.out.mono ?_
    rintro e w1 ⟨rfl, b1⟩
    have B1 := Lib.hid b1
    clear b1
    go_wp2
    go_ret2
    exact ⟨_, rfl, KOwn.nil _ _ _ _, B1.out⟩
  have HC5 : Hid (∀ W, Below w.heap.size w W → W.cell? ⟨q, 5, none⟩ = some (.int .i64 (nextG l : Nat))) := Lib.hid fun W hW => (h.below Y.dev hW).cell.2.2.2.2.2.1
  by_cases h2 : (nextG l : Int) ≤ n
  · have e1 : getE14 l n = 6 := by unfold getE14; rw [if_neg h1, if_pos h2]
    have e2 : getG l n = [] := by unfold getG; rw [if_neg (by rw [e1]; decide)]
    rw [e1, e2]
    have i2 : n ≥ (nextG l : Int) := h2
    clear h ha e1 e2 h2
    go_enter Tryz.func31, Tryz.ntmps31
    go_wp2_with fail
    refine HFS.out.mono ?_
    rintro e w1 ⟨rfl, b1⟩
    have c5 := HC5.out w1 b1
    have B1 := Lib.hid b1
    clear b1
    go_wp2
    go_ret2
    exact ⟨_, rfl, KOwn.nil _ _ _ _, B1.out⟩
  obtain ⟨n, rfl⟩ : ∃ m : Nat, n = (m : Int) := ⟨n.toNat, by omega⟩
  have e1 : getE14 l (n : Int) = 0 := by unfold getE14; rw [if_neg h1, if_neg h2]
  have e2 : getG l (n : Int) = l.segs.flatten.getD (n - l.first) [] := by
    unfold getG
    rw [if_pos e1]
    congr 1
    omega
  rw [e1, e2]
  have HHO : Hid (∀ W, Below w.heap.size w W → Calls Tryz.prog 65 #[.pointer (some ⟨q, 0, none⟩), .int .i64 (n : Nat)] W fun e w' => ∃ i : Nat, e = .returned (.int .i64 (i : Nat)) ∧ W = w' ∧ i < l.segs.length ∧ l.first + cntS (l.segs.take i) ≤ n ∧ n < l.first + cntS (l.segs.take (i + 1))) := Lib.hid fun W hW => holder14 (h.below Y.dev hW) ha.bd n (by omega) (by omega)
  have HRD : Hid (∀ W i (hi : i < l.segs.length), Below w.heap.size w W → Calls Tryz.prog 67 #[.pointer (some ⟨q, 0, none⟩), .int .i64 (i : Nat)] W fun e w' => ∃ A c, e = .returned (.slice A (ckAll l.segs[i]).length c) ∧ Row .u8 w' w'.heap.size A (ckAll l.segs[i]) ∧ (ckAll l.segs[i]).length ≤ c ∧ Below w.heap.size w w') := Lib.hid fun W i hi hW => by
    refine (read14 Y (h.below Y.dev hW) ha i hi).mono ?_
    rintro e w' ⟨A, c, he, hr, hc, hb⟩
    exact ⟨A, c, he, hr, hc, hW.trans (hb.mono hW.size)⟩
  have HSC : Hid (∀ W A c i (hi : i < l.segs.length), Below w.heap.size w W → Row .u8 W W.heap.size A (ckAll l.segs[i]) → (ckAll l.segs[i]).length ≤ c → Calls Tryz.prog 66 #[.slice A (ckAll l.segs[i]).length c] W fun e w' => ∃ A' c', e = .returned (.tuple #[.slice A' l.segs[i].length c', .int .i64 ((ckAll l.segs[i]).length : Nat)]) ∧ LOwn w' w.heap.size (.slice A' l.segs[i].length c') l.segs[i] ∧ Below w.heap.size w w') := Lib.hid fun W A c i hi hW hr hc => by
    have hb := ha.byt _ (List.getElem_mem hi)
    have hs := ckScan_whole l.segs[i] (fun p hp => (ha.mem _ (List.getElem_mem hi) p hp).1)
    refine (chScan_any A _ c (ckAll l.segs[i]) W hr rfl hc (by omega)).mono ?_
    rintro e w' ⟨v, he, hv, hb'⟩
    rw [hs] at he hv
    obtain ⟨A', c', rfl, _⟩ := hv.len
    exact ⟨A', c', he, hv.mono hW.size, hW.trans (hb'.mono hW.size)⟩
  have HSL : Hid (∀ W i, Below w.heap.size w W → i < l.segs.length → ∃ b o c, W.cell? ⟨q, 3, none⟩ = some (.slice (some ⟨b, o, none⟩) l.segs.length c) ∧ W.cell? ⟨b, o + i * 2 + 1, none⟩ = some (.int .i64 ((l.first + cntS (l.segs.take i) : Nat) : Int))) := Lib.hid fun W i hW hi => by
    have h2 := h.below Y.dev hW
    obtain ⟨A, c, rfl, hr, hc, hm⟩ := h2.slice ha.bd
    obtain ⟨_, _, _, c3, _⟩ := h2.cell
    obtain ⟨b, o, rfl, hb, p1, p2⟩ := hr.pt (k := i) (by rw [segL_len]; omega)
    obtain ⟨_, e2⟩ := segL_at l.n l.first l.segs hi
    rw [e2] at p2
    exact ⟨b, o, c, c3, p2⟩
  have HFL : Hid (∀ i j (hi : i < l.segs.length) (hj : j < l.segs[i].length), n = l.first + cntS (l.segs.take i) + j → l.segs.flatten.getD (n - l.first) [] = nthB l.segs[i] j) := Lib.hid fun i j hi hj e => by
    rw [← flat_at l.segs hi hj]
    congr 1
    omega
  have HCT : Hid (∀ i (hi : i < l.segs.length), cntS (l.segs.take (i + 1)) = cntS (l.segs.take i) + l.segs[i].length) := Lib.hid fun i hi => cntS_take l.segs hi
  have HLN : Hid (∀ i (hi : i < l.segs.length), l.segs[i].length ≤ 16777216) := Lib.hid fun i hi => by
    have h8 := ha.byt _ (List.getElem_mem hi)
    have h9 := ckAll_len_ge l.segs[i]
    omega
  have hfew := ha.few
  have hnx := ha.nxt
  have i2 : ¬ (n : Int) ≥ (nextG l : Int) := by omega
  generalize l.segs.flatten.getD (n - l.first) [] = P at *
  clear h ha e1 e2 h2
  go_enter Tryz.func31, Tryz.ntmps31
  go_wp2_with fail
  refine HFS.out.mono ?_
  rintro e w1 ⟨rfl, b1⟩
  have c5 := HC5.out w1 b1
  go_wp2_with fail
  refine (HHO.out w1 b1).mono ?_
  rintro e w2 ⟨i, rfl, hw, hi, k1, k2⟩
  subst hw
  rw [HCT.out i hi] at k2
  have HR1 := Lib.hid (HRD.out w1 i hi b1)
  obtain ⟨j, hj⟩ : ∃ j, Hid (n = l.first + cntS (l.segs.take i) + j) := ⟨n - (l.first + cntS (l.segs.take i)), Lib.hid (by omega)⟩
  have hjl : j < l.segs[i].length := by have := hj.out; omega
  have HPJ := Lib.hid (HFL.out i j hi hjl hj.out)
  have hjb := HLN.out i hi
  clear k1 k2
  go_wp2_with fail
  refine HR1.out.mono ?_
  rintro e w3 ⟨A3, c3, rfl, r3, lc3, b3⟩
  have HS3 := Lib.hid (HSC.out w3 A3 c3 i hi b3 r3 lc3)
  clear r3 lc3 HR1
  go_wp2_with fail
  refine HS3.out.mono ?_
  rintro e w4 ⟨A4, c4, rfl, o4, b4⟩
  obtain ⟨b, o, cs, x3, x5⟩ := HSL.out w4 i b4 hi
  obtain ⟨gg, u, rfl, hg1, hg2, cu, ku, _⟩ := o4.at_ hjl
  rw [← HPJ.out] at ku
  have KU := Lib.hid ku
  have B4 := Lib.hid b4
  have OKV : ∃ Au cu', u = .slice Au P.length cu' := by
    rcases ku with ⟨rfl, h9⟩ | ⟨g9, n9, cap9, r9, rfl, _, h9, _⟩
    · rw [h9]; exact ⟨_, _, rfl⟩
    · subst h9; exact ⟨_, _, rfl⟩
  clear ku b4 o4 HS3 HPJ HHO HRD HSC HSL HFL HCT HLN HC5 HFS
  generalize hBB : l.first + cntS (l.segs.take i) = BB at *
  generalize l.segs[i].length = L at *
  obtain ⟨k, hk⟩ : ∃ k, Hid (l.segs.length = k) := ⟨_, Lib.hid rfl⟩
  rw [hk.out] at x3
  have i7 : i < k := by rw [← hk.out]; exact hi
  have w1' : IntKind.i64.wrap ((n : Int) - (BB : Int)) = (j : Int) := by have := hj.out; rw [IntKind.wrap_i64]; omega
  have i5 : ¬ (j : Int) ≥ (L : Int) := by omega
  have i6 : (j : Int) < (L : Int) := by omega
  obtain ⟨Au, cu', rfl⟩ := OKV
  clear hBB hj
  go_wp2
  go_ret2
  exact ⟨_, rfl, KU.out, B4.out⟩
end
end Go.Proofs.YtbdhhmhlcdganaaGreatDoor
namespace Go.Proofs.YtbdhhmhlcdganaaGreatDoor
open Go.RowKit
set_option linter.unusedVariables false
structure Parts (w : World) (B gl m : Nat) (A : Nat → Option Addr) (n c : Nat → Nat) (l r : Nat → List Int) : Prop where
  at_ : ∀ k, k < m → w.cell? ⟨gl, k, none⟩ = some (.slice (A k) (n k) (c k))
  size : ∀ k, k < m → n k ≤ c k ∧ c k ≤ 140737488355328 ∧ (l k).length = c k
  wf : ∀ k, k < m → ∀ x ∈ l k, (Lit.int .u8 x).wf = true
  lies : ∀ k, k < m → (A k = none ∧ n k = 0 ∧ c k = 0) ∨ ∃ g, A k = some ⟨g, 0, none⟩ ∧ B ≤ g ∧ g ≠ gl ∧ w.heap[g]? = some (.cells (blk .u8 (l k ++ r k)) 5 (0, 0))
  apart : ∀ i k, i < m → k < m → i ≠ k → ∀ g, A i = some ⟨g, 0, none⟩ → A k ≠ some ⟨g, 0, none⟩
  gl_lt : gl < w.heap.size

theorem Parts.row {w : World} {B gl m : Nat} {A : Nat → Option Addr} {n c : Nat → Nat} {l r : Nat → List Int} (h : Parts w B gl m A n c l r) {k : Nat} (hk : k < m) :
    Row .u8 w w.heap.size (A k) ((l k).take (n k)) ∧ ((l k).take (n k)).length = n k := by
  have hs := h.size k hk
  refine ⟨?_, by simp; omega⟩
  rcases h.lies k hk with ⟨ha, hn, hc⟩ | ⟨g, ha, _, _, hg⟩
  · rw [hn, List.take_zero]; exact Row.nil _ _ _ _
  · rw [ha]
    exact (Row.of_block hg _ (fun x hx => h.wf k hk x (List.mem_of_mem_take hx)) ((List.take_prefix _ _).trans (List.prefix_append _ _))).more (block_lt hg)
theorem Parts.below {w w' : World} {B gl m : Nat} {A : Nat → Option Addr} {n c : Nat → Nat} {l r : Nat → List Int} (h : Parts w B gl m A n c l r) (hb : Below w.heap.size w w') : Parts w' B gl m A n c l r where
  at_ := fun k hk => (hb.cell (p := ⟨gl, k, none⟩) h.gl_lt).trans (h.at_ k hk)
  size := h.size
  wf := h.wf
  lies := fun k hk => by
    rcases h.lies k hk with h0 | ⟨g, ha, hB, hne, hg⟩
    · exact .inl h0
    · exact .inr ⟨g, ha, hB, hne, (hb.block g (block_lt hg)).trans hg⟩
  apart := h.apart
  gl_lt := Nat.lt_of_lt_of_le h.gl_lt hb.size
structure Ent where
  a : Option Nat
  n : Nat
  c : Nat
  l : List Int
  r : List Int
def Ent.none_ : Ent := ⟨none, 0, 0, [], []⟩
def Ent.adr (e : Ent) : Option Addr := e.a.map fun g => ⟨g, 0, none⟩
def Ent.val (e : Ent) : Value := .slice e.adr e.n e.c
structure Ent.Ok (w : World) (B : Nat) (e : Ent) : Prop where
  size : e.n ≤ e.c ∧ e.c ≤ 140737488355328 ∧ e.l.length = e.c
  wf : ∀ x ∈ e.l, (Lit.int .u8 x).wf = true
  lies : (e.a = none ∧ e.n = 0 ∧ e.c = 0) ∨ ∃ g, e.a = some g ∧ B ≤ g ∧ w.heap[g]? = some (.cells (blk .u8 (e.l ++ e.r)) 5 (0, 0))
def Ent.Far (e e' : Ent) : Prop := ∀ g, e.a = some g → e'.a ≠ some g
end Go.Proofs.YtbdhhmhlcdganaaGreatDoor
namespace Go.Proofs.YtbdhhmhlcdganaaGreatDoor
open Go.RowKit
def be : Nat → Nat → List Int
  | 0, _ => []
  | n + 1, v => ((v / 256 ^ n % 256 : Nat) : Int) :: be n v
def bval (xs : List Int) : Nat := xs.foldl (fun v x => v * 256 + x.toNat) 0
theorem bval_snoc (xs : List Int) (x : Int) : bval (xs ++ [x]) = bval xs * 256 + x.toNat := by simp [bval]
theorem bval_lt (xs : List Int) (h : ∀ x ∈ xs, (Lit.int .u8 x).wf = true) : bval xs < 256 ^ xs.length := by
  have H : ∀ (xs : List Int) (a n : Nat), (∀ x ∈ xs, (Lit.int .u8 x).wf = true) → a < 256 ^ n → xs.foldl (fun v x => v * 256 + x.toNat) a < 256 ^ (n + xs.length) := by
    intro xs
    induction xs with
    | nil => intro a n _ ha; simpa using ha
    | cons x xs ih =>
      intro a n hx ha
      have h1 := wf_u8 (hx x (by simp))
      have h2 := ih (a * 256 + x.toNat) (n + 1) (fun y hy => hx y (by simp [hy])) (by rw [Nat.pow_succ]; omega)
      rw [show n + 1 + xs.length = n + (x :: xs).length by simp; omega] at h2
      exact h2
  have := H xs 0 0 h (by simp)
  simpa [bval] using this
theorem bval_pow_le {n : Nat} (h : n ≤ 7) {a : Nat} (ha : a < 256 ^ n) : a * 256 + 255 < 18446744073709551616 := by
  have : (256 : Nat) ^ n ≤ 256 ^ 7 := Nat.pow_le_pow_right (by omega) h
  have e : (256 : Nat) ^ 7 = 72057594037927936 := by decide
  omega
theorem or_low (a b : Nat) (h : b < 256) : a * 256 ||| b = a * 256 + b := by
  have := Nat.shiftLeft_add_eq_or_of_lt (i := 8) h a
  rw [Nat.shiftLeft_eq] at this
  exact this.symm
end Go.Proofs.YtbdhhmhlcdganaaGreatDoor
namespace Go.Proofs.YtbdhhmhlcdganaaGreatDoor
open Go.RowKit
set_option linter.unusedVariables false

theorem isWidth_yes (n : Int) (h1 : 1 ≤ n) (h2 : n ≤ 8) (w : World) : Calls Tryz.prog 106 #[.int .i64 n] w fun e w' => e = .returned (.bool true) ∧ w = w' := by
  go_enter Tryz.func106, Tryz.ntmps106
  go_wp2
  go_ret
  exact ⟨rfl, rfl⟩
theorem isWidth_no (n : Int) (h : ¬ (1 ≤ n ∧ n ≤ 8)) (w : World) : Calls Tryz.prog 106 #[.int .i64 n] w fun e w' => e = .returned (.bool false) ∧ w = w' := by
  by_cases h1 : 1 ≤ n
  · have h2 : ¬ n ≤ 8 := fun h2 => h ⟨h1, h2⟩
    clear h
    go_enter Tryz.func106, Tryz.ntmps106
    go_wp2
    go_ret
    exact ⟨rfl, rfl⟩
  · clear h
    go_enter Tryz.func106, Tryz.ntmps106
    go_wp2
    go_ret
    exact ⟨rfl, rfl⟩
theorem shl_or (a : Nat) (x : Int) (k : Nat) (h : k ≤ 7) (ha : a < 256 ^ k) (hx : 0 ≤ x ∧ x < 256) : bits .or .u64 (IntKind.u64.wrap ((a : Int) * 256)) x = ((a * 256 + x.toNat : Nat) : Int) := by
  have h1 := bval_pow_le h ha
  clear ha h
  obtain ⟨y, rfl⟩ := Int.eq_ofNat_of_zero_le hx.1
  have h3 : a * 256 < 18446744073709551616 := Nat.lt_of_le_of_lt (Nat.le_add_right _ _) h1
  have hy : y < 256 := by omega
  have h4 : y < 18446744073709551616 := Nat.lt_trans hy (by decide)
  have h2 : IntKind.u64.wrap ((a : Int) * 256) = ((a * 256 : Nat) : Int) := by
    have e : ((a : Int) * 256) = ((a * 256 : Nat) : Int) := rfl
    rw [IntKind.wrap_u64, e]
    exact Int.emod_eq_of_lt (Int.natCast_nonneg _) (Int.ofNat_lt.2 h3)
  have h5 := u64_or_nat (a * 256) y h3 h4
  rw [h2, h5, or_low a y hy, Int.toNat_natCast]
theorem number_any (A : Option Addr) (m c n : Nat) (xs : List Int) (w : World) (B : Nat) (hr : Row .u8 w B A xs) (hm : xs.length = m) (hn : n ≤ m) (h8 : n ≤ 8) (hb : m ≤ 140737488355328) :
    Calls Tryz.prog 107 #[.slice A m c, .int .i64 n] w fun e w' => e = .returned (.int .u64 (bval (xs.take n) : Nat)) ∧ w = w' := by
  go_enter Tryz.func107, Tryz.ntmps107
  go_wp2
  go_loop [5, 8] (fun t i => ∃ k : Nat, k ≤ n ∧ i = .int .i64 k ∧ t = .int .u64 (bval (xs.take k) : Nat)) (fun _ i => n - (intOf i).toNat)
  case atStart => exact ⟨0, by omega, rfl, rfl⟩
  case round =>
    obtain ⟨k, hk, rfl, rfl⟩ := hrel
    by_cases hlt : k < n
    · obtain ⟨b, o, rfl, hb1, hc1⟩ := hr.at_ (i := k) (by omega)
      have hwf := wf_u8 (hr.wf_at (i := k) (by omega))
      have hl := bval_lt (xs.take k) (fun x hx => hr.1 x (List.mem_of_mem_take hx))
      rw [show (xs.take k).length = k by simp; omega] at hl
      have HO := Lib.hid (shl_or (bval (xs.take k)) (nth xs k) k (by omega) hl hwf)
      have HT := Lib.hid (take_step xs k (by omega))
      have HS := Lib.hid (bval_snoc (xs.take k) (nth xs k))
      go_wp2
      go_round
      case rel => exact ⟨k + 1, by omega, by go_num, by rw [HO.out, HT.out, HS.out]⟩
      case measure => simp [intOf]; omega
    · obtain rfl : k = n := by omega
      go_wp2
      go_ret
      exact ⟨rfl, rfl⟩

end Go.Proofs.YtbdhhmhlcdganaaGreatDoor
namespace Go.Proofs.YtbdhhmhlcdganaaGreatDoor
open Go.RowKit
set_option linter.unusedVariables false
end Go.Proofs.YtbdhhmhlcdganaaGreatDoor
namespace Go.Proofs.YtbdhhmhlcdganaaGreatDoor
open Go.RowKit
set_option linter.unusedVariables false

def Errs (n : Int) (w : World) (e : Ending) (w' : World) : Prop := e = .returned (.tuple #[.slice none 0 0, .int .i64 n]) ∧ w = w'
def Opens (w : World) (l : List Int) (m : Nat) (e : Ending) (w' : World) : Prop :=
  e = .returned (.tuple #[.slice (some ⟨w.heap.size, 0, none⟩) m m, .int .i64 0]) ∧ w'.heap[w.heap.size]? = some (.cells (blk .u8 l) 5 (0, 0)) ∧ Below w.heap.size w w'
def Makes2 (w : World) (xs : List Int) (e : Ending) (w' : World) : Prop := ∃ v, e = .returned (.tuple #[v, .int .i64 0]) ∧ Own .u8 5 w' w.heap.size v xs ∧ Below w.heap.size w w'

end Go.Proofs.YtbdhhmhlcdganaaGreatDoor
namespace Go.Proofs.YtbdhhmhlcdganaaGreatDoor
open Go.RowKit
set_option linter.unusedVariables false
end Go.Proofs.YtbdhhmhlcdganaaGreatDoor
namespace Go.Proofs.YtbdhhmhlcdganaaGreatDoor
open Go.RowKit
set_option linter.unusedVariables false
def Tells (v e : Int) (w : World) (r : Ending) (w' : World) : Prop := r = .returned (.tuple #[.int .u64 v, .int .i64 e]) ∧ w = w'

theorem Get_width (A : Option Addr) (m c : Nat) (a n : Int) (w : World) (h : ¬ (1 ≤ n ∧ n ≤ 8)) :
    Calls Tryz.prog 71 #[.slice A m c, .int .i64 a, .int .i64 n] w (Tells 0 3 w) := by
  have HW := Lib.hid h
  clear h
  go_enter Tryz.func71, Tryz.ntmps71
  go_wp2_with (go_at_call 106; refine (isWidth_no _ HW.out _).mono ?_; rintro e w' ⟨rfl, rfl⟩)
  go_ret2
  exact ⟨rfl, rfl⟩
theorem Get_short (A : Option Addr) (m c : Nat) (a n : Int) (w : World) (hm : m ≤ 140737488355328) (h1 : 1 ≤ n) (h8 : n ≤ 8) (h : a < 0 ∨ (m : Int) - n < a) :
    Calls Tryz.prog 71 #[.slice A m c, .int .i64 a, .int .i64 n] w (Tells 0 1 w) := by
  by_cases h0 : a < 0
  · clear h
    go_enter Tryz.func71, Tryz.ntmps71
    go_wp2_with (go_at_call 106; refine (isWidth_yes _ (by omega) (by omega) _).mono ?_; rintro e w' ⟨rfl, rfl⟩)
    go_ret2
    exact ⟨rfl, rfl⟩
  · have h2 : (m : Int) - n < a := h.resolve_left h0
    clear h
    go_enter Tryz.func71, Tryz.ntmps71
    go_wp2_with (go_at_call 106; refine (isWidth_yes _ (by omega) (by omega) _).mono ?_; rintro e w' ⟨rfl, rfl⟩)
    go_ret2
    exact ⟨rfl, rfl⟩
theorem Get_ok (A : Option Addr) (m c a n : Nat) (xs : List Int) (w : World) (B : Nat) (hr : Row .u8 w B A xs) (hx : xs.length = m) (hc : m ≤ c) (hm : m ≤ 140737488355328) (h1 : 1 ≤ n) (h8 : n ≤ 8) (h : a + n ≤ m) :
    Calls Tryz.prog 71 #[.slice A m c, .int .i64 a, .int .i64 n] w (Tells (bval ((xs.drop a).take n) : Nat) 0 w) := by
  obtain ⟨b, o, rfl, hb1, _⟩ := hr.at_ (i := a) (by omega)
  have hrd := hr.drop a
  have hl : Hid ((xs.drop a).length = m - a) := Lib.hid (by rw [List.length_drop, hx])
  have h3 : ¬ ((m : Int) - n < a) := by omega
  clear hx hr
  go_enter Tryz.func71, Tryz.ntmps71
  go_wp2_with (first
    | (go_at_call 106; refine (isWidth_yes _ (by omega) (by omega) _).mono ?_; rintro e w' ⟨rfl, rfl⟩)
    | (go_at_call 107; refine (number_any _ _ _ n (xs.drop a) _ B hrd hl.out (by omega) h8 (by omega)).mono ?_; rintro e w' ⟨rfl, rfl⟩))
  go_ret2
  exact ⟨rfl, rfl⟩

end Go.Proofs.YtbdhhmhlcdganaaGreatDoor
namespace Go.Proofs.YtbdhhmhlcdganaaGreatDoor
open Go.RowKit
set_option linter.unusedVariables false
end Go.Proofs.YtbdhhmhlcdganaaGreatDoor
namespace Go.Proofs.YtbdhhmhlcdganaaGreatDoor
open Go.RowKit
set_option linter.unusedVariables false
end Go.Proofs.YtbdhhmhlcdganaaGreatDoor
