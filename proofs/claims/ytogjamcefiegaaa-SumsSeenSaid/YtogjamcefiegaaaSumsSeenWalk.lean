/-
  The walk of SumsSeen.
-/
import Derived.Test.YtogjamcefiegaaaTurn
import Derived.Deep.DeepCutAuto
namespace Go.Proofs.Ytogjamcefiegaaa
open Go.RowKit
set_option linter.unusedVariables false

theorem wf_u32b {n : Int} (h : (Lit.int .u32 n).wf = true) : 0 ≤ n ∧ n < 4294967296 := by
  simp [Lit.wf, IntKind.min, IntKind.max, IntKind.signed, IntKind.bits] at h; omega
theorem dec_pos (n : Nat) (h : n ≠ 0) : decide ((0 : Int) < (n : Int)) = true := by simp; omega
theorem beq_pos (n : Nat) (h : n ≠ 0) : ((n : Int) == 0) = false := by simp; omega
theorem ne_nat {a b : Nat} (h : a ≠ b) : ((a : Int) == (b : Int)) = false := by simp; omega

theorem belN {B : Nat} {a w : World} (h : Below B a w) (n : Nat) : Below B a (w.drewN n) := ⟨h.os, h.tape, h.output, h.size, h.block⟩
def Backs (l0 : Nat) (xs : List Int) (w : World) (e : Ending) (w' : World) : Prop :=
  ∃ g, e = .returned (.tuple #[.slice (some ⟨g, 0, none⟩) l0 l0, .int .i64 0]) ∧ Row .u8 w' w'.heap.size (some ⟨g, 0, none⟩) xs ∧ Below w.heap.size w w'
theorem back_16 (A : Option Addr) (l0 c : Nat) (xs ys : List Int) (w : World) (hr : Row .u8 w w.heap.size A ys) (hl : ys.length = l0 + 2) (hc : l0 + 2 ≤ c) (hm : l0 ≤ 100000) (hy : ys = sealed16 xs) (hx : ∀ x ∈ xs, (Lit.int .u8 x).wf = true) :
    Calls Try.prog 21 #[.slice A (l0 + 2) c] w (Backs l0 xs w) :=
  (Open_right_16 A (l0 + 2) c ys w hr hl hc (by omega) (by omega) (by rw [hy]; exact sealed16_right xs hx)).mono fun e w' ⟨he, hf, hb⟩ =>
    ⟨w.heap.size, by rw [he, Nat.add_sub_cancel], (Row.of_block hf xs hx (by rw [hy]; exact List.prefix_append _ _)).more (by
      rcases Nat.lt_or_ge w.heap.size w'.heap.size with h | h
      · exact h
      · rw [Array.getElem?_eq_none h] at hf; cases hf), hb⟩
theorem back_32 (A : Option Addr) (l0 c : Nat) (xs ys : List Int) (w : World) (hr : Row .u8 w w.heap.size A ys) (hl : ys.length = l0 + 4) (hc : l0 + 4 ≤ c) (hm : l0 ≤ 100000) (hy : ys = sealed32 xs) (hx : ∀ x ∈ xs, (Lit.int .u8 x).wf = true) :
    Calls Try.prog 22 #[.slice A (l0 + 4) c] w (Backs l0 xs w) :=
  (Open_right_32 A (l0 + 4) c ys w hr hl hc (by omega) (by omega) (by rw [hy]; exact sealed32_right xs hx)).mono fun e w' ⟨he, hf, hb⟩ =>
    ⟨w.heap.size, by rw [he, Nat.add_sub_cancel], (Row.of_block hf xs hx (by rw [hy]; exact List.prefix_append _ _)).more (by
      rcases Nat.lt_or_ge w.heap.size w'.heap.size with h | h
      · exact h
      · rw [Array.getElem?_eq_none h] at hf; cases hf), hb⟩

set_option maxRecDepth 100000 in
set_option maxHeartbeats 4000000 in
theorem walk_SumsSeen (a0 : Option Addr) (l0 c0 : Nat) (x0 : List Int) (a1 a2 : Int) (w : World) (w0 : Row .u8 w w.heap.size a0 x0) (n0 : x0.length = l0) (s0 : l0 ≤ c0) (m0 : c0 ≤ 140737488351232)
    (w1 : (Lit.int .i64 a1).wf = true) (w2 : (Lit.int .u32 a2).wf = true) :
    Calls Try.prog 6 #[.slice a0 l0 c0, .int .i64 a1, .int .u32 a2] w fun e w' => e = .returned (.bool true) ∧ Below w.heap.size w w' := by
  have hm := wf_u32b w2
  obtain ⟨mask, rfl⟩ := Int.eq_ofNat_of_zero_le hm.1
  have hmask : mask < 4294967296 := by omega
  clear hm w2
  have hn := Lib.hid n0
  clear n0
  have hwf := w0.1
  by_cases h0 : 65536 < l0
  · have t0 : decide ((65536 : Int) < (l0 : Int)) = true := by simp; omega
    go_enter Try.func6, Try.ntmps6
    go_wp2_with (go_at_call 29; refine (known_yes _).mono ?_; rintro e w' ⟨rfl, hb⟩)
    go_ret
    exact ⟨rfl, hb⟩
  have t0 : decide ((65536 : Int) < (l0 : Int)) = false := by simp; omega
  have hbits := wf_i64 w1
  go_enter Try.func6, Try.ntmps6
  go_wp2_with fail
  rw [show (8 * (l0 : Int) + 48) = ((8 * l0 + 48 : Nat) : Int) by omega]
  refine (pick a1 (8 * l0 + 48) w1 (by omega) (by omega) _).mono ?_
  rintro e w' ⟨at_, hat, rfl, rfl⟩
  clear hbits w1
  -- x
  go_wp2_with fail
  rw [show ((mask : Int) % 65536) = ((mask % 65536 : Nat) : Int) by omega]
  refine (turned_any _ _ _ x0 at_ (mask % 65536) _ w0 hn.out (by omega) (by omega) (by omega)).mono ?_
  rintro e w2 ⟨vx, xx, cx, rfl, ox, tx, hcx, b2⟩
  obtain ⟨Ax, kx, rfl, rx, _, _⟩ := ox.row tx.wf
  have hlx : Hid (xx.length = l0) := by show _ = _; rw [tx.len, hn.out]
  rw [hlx.out]
  have r2 := (w0.below b2).more b2.size
  clear ox
  -- y
  go_wp2_with fail
  refine (turned_any _ _ _ x0 at_ mask _ r2 hn.out (by omega) (by omega) hmask).mono ?_
  rintro e w3 ⟨vy, yy, cy, rfl, oy, ty, hcy, b3⟩
  obtain ⟨Ay, ky, rfl, ry, _, _⟩ := oy.row ty.wf
  have hly : Hid (yy.length = l0) := by show _ = _; rw [ty.len, hn.out]
  rw [hly.out]
  have bel3 := b2.trans (b3.mono b2.size)
  have rx3 := (rx.below b3).more b3.size
  have r3 := (r2.below b3).more b3.size
  clear oy rx r2 b2 b3
  go_upto_region 6 with fail
  go_cut [63] (fun s wx => s = .bool false ∧ wx = w3)
  case first =>
    by_cases hx : cx = 0
    · subst hx
      by_cases hy : cy = 0
      · subst hy
        go_wp2_with fail
        go_meet
        exact ⟨rfl, rfl⟩
      · have g1 := dec_pos cy hy
        have hne := ne_nat (ty.seenMore hwf hy hmask)
        go_wp2_with fail
        refine (crc_32 _ _ _ yy _ _ ry hly.out (by omega)).mono ?_
        rintro e w' ⟨rfl, rfl⟩
        go_wp2_with fail
        refine (crc_32 _ _ _ x0 _ _ r3 hn.out (by omega)).mono ?_
        rintro e w' ⟨rfl, rfl⟩
        go_wp2_with fail
        go_meet
        exact ⟨rfl, rfl⟩
    · have g0 := dec_pos cx hx
      have hne0 := ne_nat (tx.seen16 hwf hx (by omega))
      go_wp2_with fail
      refine (crc_16 _ _ _ xx _ _ rx3 hlx.out (by omega)).mono ?_
      rintro e w' ⟨rfl, rfl⟩
      go_wp2_with fail
      refine (crc_16 _ _ _ x0 _ _ r3 hn.out (by omega)).mono ?_
      rintro e w' ⟨rfl, rfl⟩
      clear g0
      by_cases hy : cy = 0
      · subst hy
        go_wp2_with fail
        go_meet
        exact ⟨rfl, rfl⟩
      · have g1 := dec_pos cy hy
        have hne := ne_nat (ty.seenMore hwf hy hmask)
        go_wp2_with fail
        refine (crc_32 _ _ _ yy _ _ ry hly.out (by omega)).mono ?_
        rintro e w' ⟨rfl, rfl⟩
        go_wp2_with fail
        refine (crc_32 _ _ _ x0 _ _ r3 hn.out (by omega)).mono ?_
        rintro e w' ⟨rfl, rfl⟩
        go_wp2_with fail
        go_meet
        exact ⟨rfl, rfl⟩
  case rest =>
    obtain ⟨rfl, rfl⟩ := hcut
    clear rx3 ry
    -- p
    go_wp2_with fail
    refine (Seal_16 _ _ _ x0 _ r3 hn.out (by omega)).mono ?_
    rintro e w4 ⟨rfl, hp4, b4⟩
    have bel4 := bel3.trans (b4.mono bel3.size)
    have r4 := (r3.below b4).more b4.size
    have rp4 := (Row.of_block hp4 (sealed16 x0) (sealed16_wf hwf) (List.prefix_refl _)).more (by
      rcases Nat.lt_or_ge wc.heap.size w4.heap.size with h | h
      · exact h
      · rw [Array.getElem?_eq_none h] at hp4; cases hp4)
    have hl16 := Lib.hid (sealed16_length x0)
    clear r3 hp4 b4
    go_wp2_with fail
    rw [show ((mask : Int) % 65536) = ((mask % 65536 : Nat) : Int) by omega]
    refine (turned_any _ _ _ (sealed16 x0) at_ (mask % 65536) _ rp4 (by rw [hl16.out, hn.out]) (by omega) (by omega) (by omega)).mono ?_
    rintro e w5 ⟨vp, pp, cp, rfl, op, tp, hcp, b5⟩
    obtain ⟨Ap, kp, rfl, rp5, hkp, _⟩ := op.row tp.wf
    have hlp : Hid (pp.length = l0 + 2) := by show _ = _; rw [tp.len, hl16.out, hn.out]
    rw [hlp.out] at hkp ⊢
    have bel5 := bel4.trans (b5.mono bel4.size)
    have r5 := (r4.below b5).more b5.size
    clear op rp4 r4 b5
    -- q
    go_wp2_with fail
    refine (Seal_32 _ _ _ x0 _ r5 hn.out (by omega)).mono ?_
    rintro e w6 ⟨rfl, hq6, b6⟩
    have bel6 := bel5.trans (b6.mono bel5.size)
    have r6 := (r5.below b6).more b6.size
    have rp6 := (rp5.below b6).more b6.size
    have rq6 := (Row.of_block hq6 (sealed32 x0) (sealed32_wf hwf) (List.prefix_refl _)).more (by
      rcases Nat.lt_or_ge w5.heap.size w6.heap.size with h | h
      · exact h
      · rw [Array.getElem?_eq_none h] at hq6; cases hq6)
    have hl32 := Lib.hid (sealed32_length x0)
    clear r5 rp5 hq6 b6
    go_wp2_with fail
    refine (turned_any _ _ _ (sealed32 x0) at_ mask _ rq6 (by rw [hl32.out, hn.out]) (by omega) (by omega) hmask).mono ?_
    rintro e w7 ⟨vq, qq, cq, rfl, oq, tq, hcq, b7⟩
    obtain ⟨Aq, kq, rfl, rq7, hkq, _⟩ := oq.row tq.wf
    have hlq : Hid (qq.length = l0 + 4) := by show _ = _; rw [tq.len, hl32.out, hn.out]
    rw [hlq.out] at hkq ⊢
    have bel7 := bel6.trans (b7.mono bel6.size)
    have r7 := (r6.below b7).more b7.size
    have rp7 := (rp6.below b7).more b7.size
    clear oq rq6 rp6 r6 b7 bel3 bel4 bel5 bel6
    by_cases hp : cp = 0
    · subst hp
      by_cases hq : cq = 0
      · subst hq
        go_wp2_with fail
        refine (back_16 _ _ _ x0 pp _ rp7 hlp.out hkp (by omega) (tp.same (sealed16_wf hwf) rfl) hwf).mono ?_
        rintro e w8 ⟨gu, rfl, ru8, b8⟩
        have bel8 := bel7.trans (b8.mono bel7.size)
        have r8 := (r7.below b8).more b8.size
        have rq8 := (rq7.below b8).more b8.size
        clear b8 rp7 r7 rq7
        go_wp2_with fail
        refine (back_32 _ _ _ x0 qq _ rq8 hlq.out hkq (by omega) (tq.same (sealed32_wf hwf) rfl) hwf).mono ?_
        rintro e w9 ⟨gv, rfl, rv9, b9⟩
        have bel9 := bel8.trans (b9.mono bel8.size)
        have r9 := (r8.below b9).more b9.size
        have ru9 := (ru8.below b9).more b9.size
        clear b9 rq8 r8
        go_wp2_with fail
        refine (same_yes_u8 _ _ _ _ _ x0 _ _ _ ru9 r9 hn.out (by omega)).mono ?_
        rintro e w10 ⟨rfl, m10, rfl⟩
        go_wp2_with fail
        refine (same_yes_u8 _ _ _ _ _ x0 _ _ _ (rv9.drewN _) (r9.drewN _) hn.out (by omega)).mono ?_
        rintro e w11 ⟨rfl, m11, rfl⟩
        go_wp2_with fail
        refine (known_yes _).mono ?_
        rintro e w12 ⟨rfl, hb⟩
        go_wp2
        go_ret
        exact ⟨rfl, (belN bel9 _).trans (hb.mono bel9.size)⟩
      · have gq := dec_pos cq hq
        have gq2 := beq_pos cq hq
        go_wp2_with fail
        refine (back_16 _ _ _ x0 pp _ rp7 hlp.out hkp (by omega) (tp.same (sealed16_wf hwf) rfl) hwf).mono ?_
        rintro e w8 ⟨gu, rfl, ru8, b8⟩
        have bel8 := bel7.trans (b8.mono bel7.size)
        have r8 := (r7.below b8).more b8.size
        have rq8 := (rq7.below b8).more b8.size
        clear b8 rp7 r7 rq7
        go_wp2_with fail
        refine (Open_wrong_32 _ _ _ qq _ rq8 hlq.out hkq (by omega) (by omega) (tq.refused32 hwf hq hmask)).mono ?_
        rintro e w9 ⟨rfl, b9⟩
        have bel9 := bel8.trans (b9.mono bel8.size)
        have r9 := (r8.below b9).more b9.size
        have ru9 := (ru8.below b9).more b9.size
        clear b9 rq8 r8
        go_wp2_with fail
        refine (same_yes_u8 _ _ _ _ _ x0 _ _ _ ru9 r9 hn.out (by omega)).mono ?_
        rintro e w10 ⟨rfl, m10, rfl⟩
        go_wp2_with fail
        refine (known_yes _).mono ?_
        rintro e w12 ⟨rfl, hb⟩
        go_wp2
        go_ret
        exact ⟨rfl, (belN bel9 _).trans (hb.mono bel9.size)⟩
    · have gp := dec_pos cp hp
      have gp2 := beq_pos cp hp
      by_cases hq : cq = 0
      · subst hq
        go_wp2_with fail
        refine (Open_wrong_16 _ _ _ pp _ rp7 hlp.out hkp (by omega) (by omega) (tp.refused16 hwf hp (by omega))).mono ?_
        rintro e w8 ⟨rfl, b8⟩
        have bel8 := bel7.trans (b8.mono bel7.size)
        have r8 := (r7.below b8).more b8.size
        have rq8 := (rq7.below b8).more b8.size
        clear b8 rp7 r7 rq7
        go_wp2_with fail
        refine (back_32 _ _ _ x0 qq _ rq8 hlq.out hkq (by omega) (tq.same (sealed32_wf hwf) rfl) hwf).mono ?_
        rintro e w9 ⟨gv, rfl, rv9, b9⟩
        have bel9 := bel8.trans (b9.mono bel8.size)
        have r9 := (r8.below b9).more b9.size
        clear b9 rq8 r8
        go_wp2_with fail
        refine (same_yes_u8 _ _ _ _ _ x0 _ _ _ (rv9) (r9) hn.out (by omega)).mono ?_
        rintro e w11 ⟨rfl, m11, rfl⟩
        go_wp2_with fail
        refine (known_yes _).mono ?_
        rintro e w12 ⟨rfl, hb⟩
        go_wp2
        go_ret
        exact ⟨rfl, (belN bel9 _).trans (hb.mono bel9.size)⟩
      · have gq := dec_pos cq hq
        have gq2 := beq_pos cq hq
        go_wp2_with fail
        refine (Open_wrong_16 _ _ _ pp _ rp7 hlp.out hkp (by omega) (by omega) (tp.refused16 hwf hp (by omega))).mono ?_
        rintro e w8 ⟨rfl, b8⟩
        have bel8 := bel7.trans (b8.mono bel7.size)
        have r8 := (r7.below b8).more b8.size
        have rq8 := (rq7.below b8).more b8.size
        clear b8 rp7 r7 rq7
        go_wp2_with fail
        refine (Open_wrong_32 _ _ _ qq _ rq8 hlq.out hkq (by omega) (by omega) (tq.refused32 hwf hq hmask)).mono ?_
        rintro e w9 ⟨rfl, b9⟩
        have bel9 := bel8.trans (b9.mono bel8.size)
        have r9 := (r8.below b9).more b9.size
        clear b9 rq8 r8
        go_wp2_with fail
        refine (known_yes _).mono ?_
        rintro e w12 ⟨rfl, hb⟩
        go_wp2
        go_ret
        exact ⟨rfl, bel9.trans (hb.mono bel9.size)⟩
end Go.Proofs.Ytogjamcefiegaaa
