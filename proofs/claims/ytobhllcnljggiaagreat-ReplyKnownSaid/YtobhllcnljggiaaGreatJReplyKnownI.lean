/-
  Texts of the proof of ReplyKnown, joined.
-/
import Derived.Test.YtobhllcnljggiaaGreatJReplyKnownH
import Derived.Test.YtobhllcnljggiaaGreatJReplyKnownD
import Derived.Test.YtobhllcnljggiaaGreatJReplyKnownF
import Derived.Test.YtobhllcnljggiaaGreatJReplyKnownE
import Derived.Test.YtobhllcnljggiaaGreatProg
import Derived.Test.YtobhllcnljggiaaGreatJReplyKnownA
import Derived.IntWalk
import Derived.Test.YtobhllcnljggiaaGreatJReplyKnownG
namespace Go.Proofs.YtobhllcnljggiaaGreat
open Go.RowKit
set_option linter.unusedVariables false

set_option maxHeartbeats 4000000 in
set_option maxRecDepth 100000 in
theorem refPutR_files (c a n : Int) (on : List Bool) (set fl : List Int) (x : Int) (ron : List Bool) (rset : List Int) (fs : List (List Int)) (Ao As Ap Bo Bs Bf : Option Addr) (lo ls lp co cs cp mo ms mf eo es ef : Nat) (w : World) (h : Asked w w.heap.size (⟨c, a, n, on, set, fl⟩ : Req) Ao As Ap lo ls lp) (hr : Repd w w.heap.size (⟨x, ron, rset, fs⟩ : Rep) Bo Bs Bf mo ms mf) (hb : lp ≤ 100000) (hk : chkR (⟨c, a, n, on, set, fl⟩ : Req) (⟨x, ron, rset, fs⟩ : Rep) = 0) (hx : x = 0) (hc : c = 20) :
    Calls Tryz.prog 20 #[.agg #[.int .i64 c, .int .i64 a, .int .i64 n, .slice Ao lo co, .slice As ls cs, .slice Ap lp cp], .agg #[.int .i64 x, .slice Bo mo eo, .slice Bs ms es, .slice Bf mf ef]] w (GivesOwn w (putR (⟨c, a, n, on, set, fl⟩ : Req) (⟨x, ron, rset, fs⟩ : Rep)) 0) := by
  have t0 := TB.new2 w #[.int .i64 c, .int .i64 a, .int .i64 n, .slice Ao lo co, .slice As ls cs, .slice Ap lp cp] #[.int .i64 x, .slice Bo mo eo, .slice Bs ms es, .slice Bf mf ef] 26 29
  have hsz : w.heap.size ≤ ((w.alloc (.cells #[.int .i64 c, .int .i64 a, .int .i64 n, .slice Ao lo co, .slice As ls cs, .slice Ap lp cp] 26)).alloc (.cells #[.int .i64 x, .slice Bo mo eo, .slice Bs ms es, .slice Bf mf ef] 29)).heap.size := t0.bel.size
  have H := Lib.hid ((h.below t0.bel).more hsz)
  have HR := Lib.hid ((hr.below t0.bel).more hsz)
  have HC := Lib.hid (refRp_any (⟨c, a, n, on, set, fl⟩ : Req) (⟨x, ron, rset, fs⟩ : Rep) Ao As Ap Bo Bs Bf lo ls lp co cs cp mo ms mf eo es ef _ H.out HR.out hb)
  rw [hk] at HC
  obtain ⟨f1, f2, f3⟩ := rep_files hk hx hc
  simp only at f1 f2 f3
  have HN : Hid (fs.length = mf) := Lib.hid hr.mf
  have HFS := Lib.hid hr.fs
  rw [HN.out] at f1 f2 f3
  have HL2 := Lib.hid f2
  have HP : Hid (putR (⟨c, a, n, on, set, fl⟩ : Req) (⟨x, ron, rset, fs⟩ : Rep) = 20 :: ((fbytes fs mf).length : Int) :: fbytes fs mf) := Lib.hid (by
    unfold putR formR
    rw [if_neg (show ¬ chkR (⟨c, a, n, on, set, fl⟩ : Req) (⟨x, ron, rset, fs⟩ : Rep) ≠ 0 by rw [hk]; simp), if_neg (show ¬ x ≠ 0 by rw [hx]; simp), if_neg (show ¬ (c = 1 ∨ c = 2) by omega), if_neg (show ¬ (c = 3 ∨ c = 4) by omega), if_pos hc, HN.out])
  have kB : Hid (clB c = false) := Lib.hid (by unfold clB; simp; omega)
  have kW : Hid (clW c = false) := Lib.hid (by unfold clW; simp; omega)
  have kF : Hid (clF c = true) := Lib.hid (by unfold clF; simp; omega)
  subst hx hc
  clear h hr hk f2
  go_enter Tryz.func20, Tryz.ntmps20
  go_wp2_with fail
  refine HC.out.mono ?_
  rintro e w1 ⟨rfl, b1⟩
  have t1 := t0.below b1
  clear b1 t0 HC hsz
  obtain ⟨d0, d1, d2, d3, _⟩ := t1.c4
  obtain ⟨r0, r1, r2, r3, r4, r5, _⟩ := t1.r6
  go_wp2_with fail
  refine (refKindBits_any 20 a n Ao As Ap lo co ls cs lp cp _).mono ?_
  rintro e w1b ⟨rfl, b1b⟩
  rw [kB.out]
  have t1b := t1.below b1b
  clear d0 d1 d2 d3 r0 r1 r2 r3 r4 r5 t1 b1b
  obtain ⟨d0, d1, d2, d3, _⟩ := t1b.c4
  obtain ⟨r0, r1, r2, r3, r4, r5, _⟩ := t1b.r6
  go_wp2_with fail
  refine (refWords_kind 20 a n Ao As Ap lo co ls cs lp cp _).mono ?_
  rintro e w2 ⟨rfl, b2⟩
  rw [kW.out]
  have t2 := t1b.below b2
  clear d0 d1 d2 d3 r0 r1 r2 r3 r4 r5 t1b b2
  obtain ⟨d0, d1, d2, d3, _⟩ := t2.c4
  obtain ⟨r0, r1, r2, r3, r4, r5, _⟩ := t2.r6
  go_wp2
  go_loopw [7, 8] (fun v i wr => ∃ k : Nat, k ≤ mf ∧ i = .int .i64 k ∧ Own .u8 5 wr (w.heap.size + 2) v (fbytes fs k) ∧ TB w w.heap.size (.cells #[.int .i64 20, .int .i64 a, .int .i64 n, .slice Ao lo co, .slice As ls cs, .slice Ap lp cp] 26 (0, 0)) (.cells #[.int .i64 0, .slice Bo mo eo, .slice Bs ms es, .slice Bf mf ef] 29 (0, 0)) wr) (fun _ i _ => mf - (intOf i).toNat)
  case atStart => exact ⟨0, by omega, rfl, Own.nil _ _ _ _, t2⟩
  case round =>
    clear t2
    obtain ⟨k, hkk, rfl, hown, t5⟩ := hrel
    clear d0 d1 d2 d3 r0 r1 r2 r3 r4 r5
    obtain ⟨d0, d1, d2, d3, _⟩ := t5.c4
    obtain ⟨r0, r1, r2, r3, r4, r5, _⟩ := t5.r6
    by_cases hlt : k < mf
    · obtain ⟨b, o, Ai, ci, rfl, hb1, hc0, rw0, hle⟩ := HFS.out.at_ (i := k) (by rw [HN.out]; exact hlt)
      have hc1 := (t5.bel.cell (p := ⟨b, o + k, none⟩) hb1).trans hc0
      have hlen := HL2.out k hlt
      have HB : Hid (fbytes fs (k + 1) = fbytes fs k ++ [((1 + 2 * (nthF fs k).length : Nat) : Int), 6] ++ wbytes (nthF fs k)) := Lib.hid rfl
      have HF : Hid ((fbytes fs k).length ≤ 25600) := Lib.hid (by have := fbytes_length fs k (fun i hi => HL2.out i (by omega)); omega)
      generalize nthF fs k = xs at *
      obtain ⟨z, hz⟩ : ∃ z, Hid (xs.length = z) := ⟨_, Lib.hid rfl⟩
      rw [hz.out] at hc1 hlen HB hle
      obtain ⟨P, hP⟩ : ∃ P, Hid (fbytes fs k = P) := ⟨_, Lib.hid rfl⟩
      rw [hP.out] at hown HB HF
      have hsz := t5.lt
      obtain ⟨p, hp⟩ : ∃ p, Hid (((1 + 2 * z : Nat) : Int) = p) := ⟨_, Lib.hid rfl⟩
      have hwp : (Lit.int .u8 p).wf = true := by rw [← hp.out]; exact wf_byte _ (by omega)
      have e1 : IntKind.i64.wrap (2 * (z : Int)) = 2 * (z : Int) := IntWalk.i64_in _ (by omega)
      have e2 : IntKind.i64.wrap (1 + 2 * (z : Int)) = p := by rw [← hp.out]; rw [show ((1 + 2 * z : Nat) : Int) = 1 + 2 * (z : Int) by omega]; exact IntWalk.i64_in _ (by omega)
      have e2' : 1 + 2 * (z : Int) = p := by rw [← hp.out]; omega
      have e3 : IntKind.u8.wrap p = p := by rw [← hp.out, IntKind.wrap_u8]; omega
      rw [hp.out] at HB
      have R0 := Lib.hid rw0
      have hklt : (k : Int) < (mf : Int) := by omega
      obtain ⟨Av, nv, cv, hv⟩ := own_form hown
      subst hv
      have HCK := Lib.hid (show w.cell? ⟨b, o + k, none⟩ = some (.slice Ai z ci) by rw [hc0, hz.out])
      clear rw0 hc0
      go_wp2_with (first
        | (at_builtin; refine wpList_append_row _ rfl (.tmp 46) (.tmp 56) 34 rfl (w.heap.size + 2) .u8 5 1 Tryz.underlying34 info_u8 (.slice Av nv cv) P rfl (hown.alloc _) _ _ 1 1 [p] rfl (Row.one .u8 wr 5 p hwp) rfl (by have := HF.out; omega) (by have := HF.out; simp only [maxLen]; omega) (by simp; omega) ?_; intro v1 w1 hown1 hg1; have t6 := (t5.alloc (.cells #[.int .u8 p] 5)).grown hg1 (fun g e => ((hown.alloc (.cells #[.int .u8 p] 5)).block g e).1); have hsz6 := t6.lt)
        | (at_builtin; refine wpList_append_row _ rfl (.tmp 58) (.tmp 59) 34 rfl (w.heap.size + 2) .u8 5 1 Tryz.underlying34 info_u8 v1 (P ++ [p]) rfl (hown1.alloc _) _ _ 1 1 [6] rfl (Row.one .u8 w1 5 6 (by decide)) rfl (by have := HF.out; simp; omega) (by have := HF.out; simp [maxLen]; omega) (by simp; omega) ?_; intro v2 w2 hown2 hg2; have t7 := (t6.alloc (.cells #[.int .u8 6] 5)).grown hg2 (fun g e => ((hown1.alloc (.cells #[.int .u8 6] 5)).block g e).1); have hc2 := (t7.bel.cell (p := ⟨b, o + k, none⟩) hb1).trans HCK.out; have k0 := t7.c4.2.2.2.1; obtain ⟨Ax, nx, cx, hv2⟩ := own_form hown2; subst hv2))
      have hsz7 := t7.bel.size
      have hlt7 := t7.lt
      clear hown1 hg1 hg2 hc1 t5 t6 d0 d1 d2 d3 r0 r1 r2 r3 r4 r5
      refine (refBytes_any Ai z ci xs _ (R0.out.more2 t7) hz.out (by omega)).mono ?_
      rintro e w3 ⟨v3, rfl, own3, b3⟩
      have t8 := t7.below b3
      have hown3 := hown2.below b3 (by omega)
      have hsz8 := t8.lt
      have HWL : Hid ((wbytes xs).length = 2 * z) := Lib.hid (by rw [wbytes_length, hz.out])
      obtain ⟨A3, n3, c3, rfl, r3', l3⟩ := own3.view2 (wbytes_wf xs)
      have e4 : n3 = 2 * z := l3.symm.trans HWL.out
      subst e4
      have R3 := Lib.hid r3'
      clear own3 b3 hown2 t7 l3 r3' hc2 k0
      go_wp2_with (at_builtin; refine wpList_append_row _ rfl (.tmp 61) (.tmp 67) 34 rfl (w.heap.size + 2) .u8 5 1 Tryz.underlying34 info_u8 (.slice Ax nx cx) (P ++ [p] ++ [6]) rfl hown3 _ _ (2 * z) c3 (wbytes xs) rfl R3.out HWL.out (by have := HF.out; simp; omega) (by have := HF.out; simp [maxLen]; omega) (by omega) ?_; intro v4 w4 hown4 hg4)
      have t9 := t8.grown hg4 (fun g e => (hown3.block g e).1)
      rw [List.append_assoc P [p] [6], show [p] ++ [(6 : Int)] = [p, 6] from rfl, ← HB.out] at hown4
      clear hown3 hg4 t8
      (try go_wp2)
      go_roundw
      case rel => exact ⟨k + 1, by omega, by go_num, hown4, t9⟩
      case measure => simp [intOf]; omega
    · obtain rfl : k = mf := by omega
      obtain ⟨L, hL⟩ : ∃ L, Hid (fbytes fs k = L) := ⟨_, Lib.hid rfl⟩
      rw [hL.out] at f3 HP hown
      have HWF : Hid (∀ y ∈ L, (Lit.int .u8 y).wf = true) := Lib.hid (by rw [← hL.out]; exact fbytes_wf fs k (fun i hi => HL2.out i hi))
      have own5 := hown.mono (base' := w.heap.size) (by omega)
      have u1 : IntKind.u8.wrap (20 : Int) = 20 := rfl
      obtain ⟨A4, n4, c4, hv4⟩ := own_form own5
      subst hv4
      clear hown
      go_wp2_with fail
      refine (refKindBits_any 20 a n Ao As Ap lo co ls cs lp cp _).mono ?_
      rintro e w6 ⟨rfl, b6⟩
      rw [kB.out]
      have t6 := t5.below b6
      have own6 := own5.below b6 (Nat.le_refl _)
      clear d0 d1 d2 d3 r0 r1 r2 r3 r4 r5 t5 b6 own5
      obtain ⟨d0, d1, d2, d3, _⟩ := t6.c4
      obtain ⟨r0, r1, r2, r3, r4, r5, _⟩ := t6.r6
      go_wp2_with fail
      refine (refWords_kind 20 a n Ao As Ap lo co ls cs lp cp _).mono ?_
      rintro e w6b ⟨rfl, b6b⟩
      rw [kW.out]
      have t6b := t6.below b6b
      have own6b := own6.below b6b (Nat.le_refl _)
      clear d0 d1 d2 d3 r0 r1 r2 r3 r4 r5 t6 b6b own6
      obtain ⟨d0, d1, d2, d3, _⟩ := t6b.c4
      obtain ⟨r0, r1, r2, r3, r4, r5, _⟩ := t6b.r6
      go_wp2_with fail
      refine (refFiles_kind 20 a n Ao As Ap lo co ls cs lp cp _).mono ?_
      rintro e w7 ⟨rfl, b7⟩
      rw [kF.out]
      have t7 := t6b.below b7
      have own7 := own6b.below b7 (Nat.le_refl _)
      clear d0 d1 d2 d3 r0 r1 r2 r3 r4 r5 t6b b7 own6b
      obtain ⟨d0, d1, d2, d3, _⟩ := t7.c4
      obtain ⟨r0, r1, r2, r3, r4, r5, _⟩ := t7.r6
      have hsz7 := t7.bel.size
      have hlt7 := t7.lt
      obtain ⟨hrow7, hlen7⟩ : Row .u8 w7 w7.heap.size A4 L ∧ L.length = n4 := by
        obtain ⟨A, n, c, e, r, l⟩ := own7.view2 HWF.out
        injection e with e1 e2 e3
        subst e1 e2 e3
        exact ⟨r, l⟩
      have R7 := Lib.hid (hrow7.alloc (Nat.le_refl _) (.cells (blk .u8 [20, (n4 : Int)]) 5))
      have L7 := Lib.hid hlen7
      have hn4 : n4 ≤ 255 := by omega
      have e2 : IntKind.u8.wrap (n4 : Int) = n4 := by rw [IntKind.wrap_u8]; omega
      have hown := Own.laid (k := .u8) (base := w.heap.size) (n := 2) (heap_alloc_new w7 (.cells (blk .u8 [20, (n4 : Int)]) 5)) hsz7 (show [20, (n4 : Int)].length = 2 from rfl) (by simp [maxLen])
      have belA := t7.bel.alloc hsz7 (.cells (blk .u8 [20, (n4 : Int)]) 5)
      have hsA : w.heap.size ≤ (w7.alloc (.cells (blk .u8 [20, (n4 : Int)]) 5)).heap.size := by simp; omega
      obtain ⟨g7, hg7⟩ : ∃ g, w7.heap.size = g := ⟨_, rfl⟩
      rw [hg7] at hown
      clear hrow7 hlen7
      go_wp2_with (at_builtin; refine wpList_append_row _ rfl (.tmp 96) (.tmp 97) 34 rfl w.heap.size .u8 5 1 Tryz.underlying34 info_u8 (.slice (some ⟨g7, 0, none⟩) 2 2) [20, (n4 : Int)] rfl hown _ _ n4 c4 L rfl R7.out L7.out (by simp; omega) (by simp [maxLen]; omega) hsA ?_; intro v1 w8 hown8 hg8)
      go_ret2
      exact ⟨_, rfl, by rw [HP.out, L7.out]; exact hown8, Below.own belA hsA hown hg8⟩
end Go.Proofs.YtobhllcnljggiaaGreat
namespace Go.Proofs.YtobhllcnljggiaaGreat
open Go.RowKit
set_option linter.unusedVariables false

set_option maxHeartbeats 4000000 in
set_option maxRecDepth 100000 in
theorem refPutR_echo (c a n : Int) (on : List Bool) (set fl : List Int) (x : Int) (ron : List Bool) (rset : List Int) (fs : List (List Int)) (Ao As Ap Bo Bs Bf : Option Addr) (lo ls lp co cs cp mo ms mf eo es ef : Nat) (w : World) (h : Asked w w.heap.size (⟨c, a, n, on, set, fl⟩ : Req) Ao As Ap lo ls lp) (hr : Repd w w.heap.size (⟨x, ron, rset, fs⟩ : Rep) Bo Bs Bf mo ms mf) (hb : lp ≤ 100000) (hk : chkR (⟨c, a, n, on, set, fl⟩ : Req) (⟨x, ron, rset, fs⟩ : Rep) = 0) (hx : x = 0) (h1 : ¬ (c = 1 ∨ c = 2)) (h2 : ¬ (c = 3 ∨ c = 4)) (h3 : c ≠ 20) :
    Calls Tryz.prog 20 #[.agg #[.int .i64 c, .int .i64 a, .int .i64 n, .slice Ao lo co, .slice As ls cs, .slice Ap lp cp], .agg #[.int .i64 x, .slice Bo mo eo, .slice Bs ms es, .slice Bf mf ef]] w (GivesOwn w (putR (⟨c, a, n, on, set, fl⟩ : Req) (⟨x, ron, rset, fs⟩ : Rep)) 0) := by
  have t0 := TB.new2 w #[.int .i64 c, .int .i64 a, .int .i64 n, .slice Ao lo co, .slice As ls cs, .slice Ap lp cp] #[.int .i64 x, .slice Bo mo eo, .slice Bs ms es, .slice Bf mf ef] 26 29
  have hsz : w.heap.size ≤ ((w.alloc (.cells #[.int .i64 c, .int .i64 a, .int .i64 n, .slice Ao lo co, .slice As ls cs, .slice Ap lp cp] 26)).alloc (.cells #[.int .i64 x, .slice Bo mo eo, .slice Bs ms es, .slice Bf mf ef] 29)).heap.size := t0.bel.size
  have H := Lib.hid ((h.below t0.bel).more hsz)
  have HR := Lib.hid ((hr.below t0.bel).more hsz)
  have HC := Lib.hid (refRp_any (⟨c, a, n, on, set, fl⟩ : Req) (⟨x, ron, rset, fs⟩ : Rep) Ao As Ap Bo Bs Bf lo ls lp co cs cp mo ms mf eo es ef _ H.out HR.out hb)
  rw [hk] at HC
  obtain ⟨q1, q2, q3⟩ := rep_stray hk hx
  simp only at q1 q2 q3
  have hq := (chkR_zero hk hx).1
  have H5 := Lib.hid (putL_five hq h3)
  have hmf : mf = 0 := by have h1 := hr.mf; have h2 := q3 h3; simp only at h1; omega
  have HP : Hid (putR (⟨c, a, n, on, set, fl⟩ : Req) (⟨x, ron, rset, fs⟩ : Rep) = (putL (⟨c, a, n, on, set, fl⟩ : Req)).take 5) := Lib.hid (by
    unfold putR formR
    rw [if_neg (show ¬ chkR (⟨c, a, n, on, set, fl⟩ : Req) (⟨x, ron, rset, fs⟩ : Rep) ≠ 0 by rw [hk]; simp), if_neg (show ¬ x ≠ 0 by rw [hx]; simp), if_neg h1, if_neg h2, if_neg h3])
  have HQ := Lib.hid hq
  have HA := Lib.hid h
  have kB : Hid (clB c = false) := Lib.hid (decide_eq_false h1)
  have kW : Hid (clW c = false) := Lib.hid (decide_eq_false h2)
  have kF : Hid (clF c = false) := Lib.hid (decide_eq_false h3)
  subst hx hmf
  clear h hr hk q1 q2 q3 h1 h2 h3 hq
  go_enter Tryz.func20, Tryz.ntmps20
  go_wp2_with fail
  refine HC.out.mono ?_
  rintro e w1 ⟨rfl, b1⟩
  have t1 := t0.below b1
  clear b1 t0 HC hsz
  obtain ⟨d0, d1, d2, d3, _⟩ := t1.c4
  obtain ⟨r0, r1, r2, r3, r4, r5, _⟩ := t1.r6
  go_wp2_with fail
  refine (refKindBits_any c a n Ao As Ap lo co ls cs lp cp _).mono ?_
  rintro e w1b ⟨rfl, b1b⟩
  rw [kB.out]
  have t1b := t1.below b1b
  clear d0 d1 d2 d3 r0 r1 r2 r3 r4 r5 t1 b1b
  obtain ⟨d0, d1, d2, d3, _⟩ := t1b.c4
  obtain ⟨r0, r1, r2, r3, r4, r5, _⟩ := t1b.r6
  go_wp2_with fail
  refine (refWords_kind c a n Ao As Ap lo co ls cs lp cp _).mono ?_
  rintro e w2 ⟨rfl, b2⟩
  rw [kW.out]
  have t2 := t1b.below b2
  clear d0 d1 d2 d3 r0 r1 r2 r3 r4 r5 t1b b2
  obtain ⟨d0, d1, d2, d3, _⟩ := t2.c4
  obtain ⟨r0, r1, r2, r3, r4, r5, _⟩ := t2.r6
  go_wp2
  go_loopw [7, 8] (fun v i wr => i = .int .i64 0 ∧ v = .slice none 0 0 ∧ TB w w.heap.size (.cells #[.int .i64 c, .int .i64 a, .int .i64 n, .slice Ao lo co, .slice As ls cs, .slice Ap lp cp] 26 (0, 0)) (.cells #[.int .i64 0, .slice Bo mo eo, .slice Bs ms es, .slice Bf 0 ef] 29 (0, 0)) wr) (fun _ i _ => 0)
  case atStart => exact ⟨rfl, rfl, t2⟩
  case round =>
    clear t2
    obtain ⟨rfl, rfl, t5⟩ := hrel
    clear d0 d1 d2 d3 r0 r1 r2 r3 r4 r5
    obtain ⟨d0, d1, d2, d3, _⟩ := t5.c4
    obtain ⟨r0, r1, r2, r3, r4, r5, _⟩ := t5.r6
    go_wp2_with fail
    refine (refKindBits_any c a n Ao As Ap lo co ls cs lp cp _).mono ?_
    rintro e w6 ⟨rfl, b6⟩
    rw [kB.out]
    have t6 := t5.below b6
    clear d0 d1 d2 d3 r0 r1 r2 r3 r4 r5 t5 b6
    obtain ⟨d0, d1, d2, d3, _⟩ := t6.c4
    obtain ⟨r0, r1, r2, r3, r4, r5, _⟩ := t6.r6
    go_wp2_with fail
    refine (refWords_kind c a n Ao As Ap lo co ls cs lp cp _).mono ?_
    rintro e w7 ⟨rfl, b7⟩
    rw [kW.out]
    have t7 := t6.below b7
    clear d0 d1 d2 d3 r0 r1 r2 r3 r4 r5 t6 b7
    obtain ⟨d0, d1, d2, d3, _⟩ := t7.c4
    obtain ⟨r0, r1, r2, r3, r4, r5, _⟩ := t7.r6
    go_wp2_with fail
    refine (refFiles_kind c a n Ao As Ap lo co ls cs lp cp _).mono ?_
    rintro e w8 ⟨rfl, b8⟩
    rw [kF.out]
    have t8 := t7.below b8
    clear d0 d1 d2 d3 r0 r1 r2 r3 r4 r5 t7 b8
    obtain ⟨d0, d1, d2, d3, _⟩ := t8.c4
    obtain ⟨r0, r1, r2, r3, r4, r5, _⟩ := t8.r6
    go_wp2_with fail
    refine (refPut_any (⟨c, a, n, on, set, fl⟩ : Req) Ao As Ap lo ls lp co cs cp _ ((HA.out.below t8.bel).more t8.bel.size)).mono ?_
    rw [HQ.out]
    rintro e w9 ⟨v9, rfl, own9, b9⟩
    have t9 := t8.below b9
    obtain ⟨A1, c1, rfl, _, hle, _⟩ := own9.row (putL_wf (⟨c, a, n, on, set, fl⟩ : Req))
    have OW := Lib.hid ((own9.front H5.out).mono (base' := w.heap.size) (by have := t8.bel.size; omega))
    have bel := t9.bel
    obtain ⟨n1, hn1⟩ : ∃ y, (putL (⟨c, a, n, on, set, fl⟩ : Req)).length = y := ⟨_, rfl⟩
    rw [hn1] at hle
    rw [hn1]
    have hc5 : (5 : Int) ≤ (c1 : Int) := by have := H5.out; omega
    clear own9 b9 t8 hn1 d0 d1 d2 d3 r0 r1 r2 r3 r4 r5 t9
    go_wp2
    go_ret2
    exact ⟨_, rfl, by rw [HP.out]; exact OW.out, bel⟩

theorem refPutR_any (q : Req) (r : Rep) (Ao As Ap Bo Bs Bf : Option Addr) (lo ls lp co cs cp mo ms mf eo es ef : Nat) (w : World) (h : Asked w w.heap.size q Ao As Ap lo ls lp) (hr : Repd w w.heap.size r Bo Bs Bf mo ms mf) (hb : lp ≤ 100000) :
    Calls Tryz.prog 20 #[.agg #[.int .i64 q.c, .int .i64 q.a, .int .i64 q.n, .slice Ao lo co, .slice As ls cs, .slice Ap lp cp], .agg #[.int .i64 r.x, .slice Bo mo eo, .slice Bs ms es, .slice Bf mf ef]] w (GivesOwn w (putR q r) (chkR q r)) := by
  by_cases hk : chkR q r = 0
  · rw [hk]
    by_cases hx : r.x = 0
    · obtain ⟨c, a, n, on, set, fl⟩ := q
      obtain ⟨x, ron, rset, fs⟩ := r
      by_cases h1 : c = 1 ∨ c = 2
      · exact refPutR_bits c a n on set fl x ron rset fs Ao As Ap Bo Bs Bf lo ls lp co cs cp mo ms mf eo es ef w h hr hb hk hx h1
      · by_cases h2 : c = 3 ∨ c = 4
        · exact refPutR_words c a n on set fl x ron rset fs Ao As Ap Bo Bs Bf lo ls lp co cs cp mo ms mf eo es ef w h hr hb hk hx h2
        · by_cases h3 : c = 20
          · exact refPutR_files c a n on set fl x ron rset fs Ao As Ap Bo Bs Bf lo ls lp co cs cp mo ms mf eo es ef w h hr hb hk hx h3
          · exact refPutR_echo c a n on set fl x ron rset fs Ao As Ap Bo Bs Bf lo ls lp co cs cp mo ms mf eo es ef w h hr hb hk hx h1 h2 h3
    · exact refPutR_exc q r Ao As Ap Bo Bs Bf lo ls lp co cs cp mo ms mf eo es ef w h hr hb hk hx
  · exact refPutR_bad q r Ao As Ap Bo Bs Bf lo ls lp co cs cp mo ms mf eo es ef w h hr hb hk
end Go.Proofs.YtobhllcnljggiaaGreat
namespace Go.Proofs.YtobhllcnljggiaaGreat
open Go.RowKit
set_option linter.unusedVariables false
theorem spoilO_at (p l r : List Int) (k : Nat) (hk : k < l.length) : nth (p ++ spoil8 k l ++ r) (p.length + k) = nth l k := by
  rw [nth_left _ _ _ (by rw [List.length_append, spoil8_length]; omega), nth_right, spoil8_at k l hk]
theorem spoilO_set (p l r : List Int) (k : Nat) (hk : k < l.length) : (p ++ spoil8 k l ++ r).set (p.length + k) (bits .xor .u8 (nth l k) 90) = p ++ spoil8 (k + 1) l ++ r := by
  rw [List.set_append_left _ _ (by rw [List.length_append, spoil8_length]; omega), List.set_append_right _ _ (by omega), Nat.add_sub_cancel_left, spoil8_set k l hk]

set_option maxHeartbeats 400000 in
theorem spoilO_u8 (g o n c : Nat) (p l r : List Int) (w : World) (hg : w.heap[g]? = some (.cells (blk .u8 (p ++ l ++ r)) 5 (0, 0))) (hp : p.length = o) (hl : l.length = c) (hn : n ≤ c) (hc : c ≤ 140737488355328) :
    Calls Tryz.prog 58 #[.slice (some ⟨g, o, none⟩) n c] w fun e w' => e = .returned (.tuple #[]) ∧ w'.heap[g]? = some (.cells (blk .u8 (p ++ spoil8 c l ++ r)) 5 (0, 0)) ∧ w.grownBy w' (some g) ∧ w'.heap.size = w.heap.size := by
  have hl' := Lib.hid hl
  have hp' := Lib.hid hp
  clear hl hp
  go_enter Tryz.func58, Tryz.ntmps58
  go_wp2
  go_loopw [3] (fun i wr => ∃ k : Nat, k ≤ c ∧ i = .int .i64 k ∧ Hid (wr.heap[g]? = some (.cells (blk .u8 (p ++ spoil8 k l ++ r)) 5 (0, 0))) ∧ w.grownBy wr (some g) ∧ Hid (wr.heap.size = w.heap.size)) (fun i _ => c - (intOf i).toNat)
  case atStart => exact ⟨0, by omega, rfl, Lib.hid (by rw [spoil8_zero]; exact hg), World.grownBy.refl _ _, Lib.hid rfl⟩
  case round =>
    obtain ⟨k, hk, rfl, hb, hgr, hsz⟩ := hrel
    by_cases hlt : k < c
    · have hc1 : wr.cell? ⟨g, o + k, none⟩ = some (.int .u8 (nth l k)) := by
        rw [cell_of_row wr g (o + k) _ _ _ hb.out, blk_get _ _ _ (by rw [List.length_append, List.length_append, spoil8_length, hl'.out, hp'.out]; omega), ← hp'.out, spoilO_at p l r k (by have := hl'.out; omega)]
      have hfz := block_frozen wr g (o + k) _ _ hb.out
      have hnew := Lib.hid (block_setCell wr g (o + k) .u8 5 _ (bits .xor .u8 (nth l k) 90) hb.out)
      rw [show (p ++ spoil8 k l ++ r).set (o + k) (bits .xor .u8 (nth l k) 90) = p ++ spoil8 (k + 1) l ++ r by rw [← hp'.out]; exact spoilO_set p l r k (by have := hl'.out; omega)] at hnew
      have hgr2 := grown_setCell hgr (o + k) (.int .u8 (bits .xor .u8 (nth l k) 90))
      have hsz2 : Hid ((wr.setCell ⟨g, o + k, none⟩ (.int .u8 (bits .xor .u8 (nth l k) 90))).heap.size = w.heap.size) := by
        show _ = _
        rw [← hsz.out]; simp [World.setCell]
      go_wp2
      go_roundw
      case rel => exact ⟨k + 1, by omega, by go_num, hnew, hgr2, hsz2⟩
      case measure => simp [intOf]; omega
    · obtain rfl : k = c := by omega
      go_wp2
      go_end0
      exact ⟨rfl, hb.out, hgr, hsz.out⟩
/-- A row inside a block that is known whole. -/
theorem Row.inside {k : IntKind} {w : World} {g : Nat} {t : TypeId} {fr : Nat × Nat} {p l r : List Int} (hg : w.heap[g]? = some (.cells (blk k (p ++ l ++ r)) t fr)) (xs : List Int) (hw : ∀ x ∈ xs, (Lit.int k x).wf = true) (hp : xs <+: l) :
    Row k w (g + 1) (some ⟨g, p.length, none⟩) xs := by
  obtain ⟨ys, rfl⟩ := hp
  refine ⟨hw, fun _ => ⟨_, _, rfl, Nat.lt_succ_self _, fun i hi => ?_⟩⟩
  rw [cell_of_row w g _ _ _ _ hg, blk_get _ _ _ (by simp; omega), nth_left _ _ _ (by simp; omega), nth_right, nth_left _ _ _ hi]
/-- Rows that lie inside blocks of their own, each known whole (or nil), their slices in the array of block gl. -/
structure PartsO (w : World) (B gl m : Nat) (A : Nat → Option Addr) (n c : Nat → Nat) (p l r : Nat → List Int) : Prop where
  at_ : ∀ k, k < m → w.cell? ⟨gl, k, none⟩ = some (.slice (A k) (n k) (c k))
  size : ∀ k, k < m → n k ≤ c k ∧ c k ≤ 140737488355328 ∧ (l k).length = c k
  wf : ∀ k, k < m → ∀ x ∈ l k, (Lit.int .u8 x).wf = true
  lies : ∀ k, k < m → (A k = none ∧ n k = 0 ∧ c k = 0) ∨ ∃ g, A k = some ⟨g, (p k).length, none⟩ ∧ B ≤ g ∧ g ≠ gl ∧ w.heap[g]? = some (.cells (blk .u8 (p k ++ l k ++ r k)) 5 (0, 0))
  apart : ∀ i k, i < m → k < m → i ≠ k → ∀ g o q, A i = some ⟨g, o, none⟩ → A k ≠ some ⟨g, q, none⟩
  gl_lt : gl < w.heap.size

theorem PartsO.row {w : World} {B gl m : Nat} {A : Nat → Option Addr} {n c : Nat → Nat} {p l r : Nat → List Int} (h : PartsO w B gl m A n c p l r) {k : Nat} (hk : k < m) :
    Row .u8 w w.heap.size (A k) ((l k).take (n k)) ∧ ((l k).take (n k)).length = n k := by
  have hs := h.size k hk
  refine ⟨?_, by simp; omega⟩
  rcases h.lies k hk with ⟨ha, hn, hc⟩ | ⟨g, ha, _, _, hg⟩
  · rw [hn, List.take_zero]; exact Row.nil _ _ _ _
  · rw [ha]
    exact (Row.inside hg _ (fun x hx => h.wf k hk x (List.mem_of_mem_take hx)) (List.take_prefix _ _)).more (block_lt hg)
/-- A step that leaves all old blocks leaves the parts. -/
theorem PartsO.below {w w' : World} {B gl m : Nat} {A : Nat → Option Addr} {n c : Nat → Nat} {p l r : Nat → List Int} (h : PartsO w B gl m A n c p l r) (hb : Below w.heap.size w w') : PartsO w' B gl m A n c p l r where
  at_ := fun k hk => (hb.cell (p := ⟨gl, k, none⟩) h.gl_lt).trans (h.at_ k hk)
  size := h.size
  wf := h.wf
  lies := fun k hk => by
    rcases h.lies k hk with h0 | ⟨g, ha, hB, hne, hg⟩
    · exact .inl h0
    · exact .inr ⟨g, ha, hB, hne, (hb.block g (block_lt hg)).trans hg⟩
  apart := h.apart
  gl_lt := Nat.lt_of_lt_of_le h.gl_lt hb.size
/-- One part is written over. -/
theorem PartsO.spoil {w w' : World} {B gl m : Nat} {A : Nat → Option Addr} {n c : Nat → Nat} {p l r : Nat → List Int} (h : PartsO w B gl m A n c p l r) {i g : Nat} (hi : i < m) (ha : A i = some ⟨g, (p i).length, none⟩)
    (hg : w'.heap[g]? = some (.cells (blk .u8 (p i ++ spoil8 (c i) (l i) ++ r i)) 5 (0, 0))) (hgr : w.grownBy w' (some g)) : PartsO w' B gl m A n c p (fun k => if k = i then spoil8 (c i) (l i) else l k) r where
  at_ := fun k hk => by
    rcases h.lies i hi with ⟨h0, _⟩ | ⟨g', ha', _, hne, _⟩
    · rw [ha] at h0; cases h0
    · rw [ha] at ha'
      injection ha' with ha'
      injection ha' with ha'
      subst ha'
      exact (World.cell?_of_block (hgr.block gl h.gl_lt (fun e => hne (by injection e with e; exact e.symm)))).trans (h.at_ k hk)
  size := fun k hk => by
    have := h.size k hk
    refine ⟨this.1, this.2.1, ?_⟩
    split
    · rename_i e; subst e; rw [spoil8_length]; exact this.2.2
    · exact this.2.2
  wf := fun k hk => by
    show ∀ x ∈ (if k = i then spoil8 (c i) (l i) else l k), _
    split
    · exact spoil8_wf _ _ (h.wf i hi)
    · exact h.wf k hk
  lies := fun k hk => by
    by_cases e : k = i
    · subst e
      rcases h.lies k hi with ⟨h0, _⟩ | ⟨g', ha', hB, hne, _⟩
      · rw [ha] at h0; cases h0
      · rw [ha] at ha'
        injection ha' with ha'
        injection ha' with ha'
        subst ha'
        exact .inr ⟨g, ha, hB, hne, by rw [if_pos rfl]; exact hg⟩
    · rcases h.lies k hk with h0 | ⟨g', ha', hB, hne, hg'⟩
      · exact .inl h0
      · refine .inr ⟨g', ha', hB, hne, ?_⟩
        rw [if_neg e, hgr.block g' (block_lt hg') (fun e' => ?_)]
        · exact hg'
        · injection e' with e'
          subst e'
          exact h.apart k i hk hi e _ _ _ ha' ha
  apart := h.apart
  gl_lt := Nat.lt_of_lt_of_le h.gl_lt hgr.size

set_option maxHeartbeats 1000000 in
theorem apartO_u8 (gl m B : Nat) (A : Nat → Option Addr) (n c : Nat → Nat) (p l0 r : Nat → List Int) (w : World) (hP : PartsO w B gl m A n c p l0 r) (hB : B ≤ w.heap.size) (hm : m ≤ 1000) :
    Calls Tryz.prog 24 #[.slice (some ⟨gl, 0, none⟩) m m] w fun e w' => e = .returned (.bool true) ∧ Below B w w' := by
  go_enter Tryz.func24, Tryz.ntmps24
  go_wp2
  go_loopw [3, 4, 5] (fun i _ _ wr => ∃ (j : Nat) (l : Nat → List Int), j ≤ m ∧ i = .int .i64 j ∧ PartsO wr B gl m A n c p l r ∧ Below B w wr) (fun i _ _ _ => m - (intOf i).toNat)
  case atStart => exact ⟨0, l0, by omega, rfl, hP, Below.refl _ _⟩
  case round =>
    obtain ⟨i, l1, hi, rfl, hP1, hb1⟩ := hrel
    by_cases hlt : i < m
    · go_wp2
      obtain ⟨wo, hwo⟩ : ∃ wo : World, wo = wr := ⟨_, rfl⟩
      subst hwo
      go_loopw [4, 5] (fun k _ wr => ∃ (j : Nat) (l : Nat → List Int), j ≤ m ∧ k = .int .i64 j ∧ PartsO wr B gl m A n c p l r ∧ Below B w wr) (fun k _ _ => m - (intOf k).toNat)
      case atStart => exact ⟨0, l1, by omega, rfl, hP1, hb1⟩
      case round =>
        obtain ⟨k, l, hk, rfl, hP2, hb2⟩ := hrel
        by_cases hlk : k < m
        · by_cases hik : i = k
          · subst hik
            go_wp2
            go_roundw
            case rel => exact ⟨i + 1, l, by omega, by go_num, hP2, hb2⟩
            case measure => simp [intOf]; omega
          · have ht : ((i : Int) == (k : Int)) = false := by simp; omega
            have hck := hP2.at_ k hlk
            have hci := hP2.at_ i hlt
            obtain ⟨hrow, hrl⟩ := hP2.row hlk
            have hrl' := Lib.hid hrl
            clear hrl
            have hsk := hP2.size k hlk
            go_wp2_with fail
            refine (copy_u8 _ _ _ _ _ hrow hrl'.out (by omega)).mono ?_
            rintro e w1 ⟨v1, rfl, own1, bel1⟩
            have hP3 := hP2.below bel1
            have hb3 : Below B w w1 := hb2.trans (bel1.mono (Nat.le_trans hB hb2.size))
            have hck1 := hP3.at_ k hlk
            have hci1 := hP3.at_ i hlt
            have hwf := hrow.1
            rcases hP3.lies i hlt with ⟨hA, hN, hC⟩ | ⟨g, hA, hBg, hgl, hg⟩
            · rw [hA, hN, hC] at hci1
              clear hA hN hC hck hci hrow
              obtain ⟨A1, c1, rfl, row1, _, _⟩ := own1.row hwf
              rw [hrl'.out]
              obtain ⟨hrow3, hrl3⟩ := hP3.row hlk
              have hrl3' := Lib.hid hrl3
              clear hrl3
              go_wp2_with fail
              refine (spoil_nil _).mono ?_
              rintro e w' ⟨rfl, rfl⟩
              go_wp2_with fail
              refine (same_yes_u8 _ _ _ _ _ _ _ _ _ row1 hrow3 hrl3'.out (by omega)).mono ?_
              rintro e w' ⟨rfl, mq, rfl⟩
              have hP4 := hP3.below (w' := w1.drewN mq) ⟨rfl, rfl, rfl, Nat.le_refl _, fun _ _ => rfl⟩
              have hb4 : Below B w (w1.drewN mq) := hb3.trans ⟨rfl, rfl, rfl, Nat.le_refl _, fun _ _ => rfl⟩
              go_wp2
              go_roundw
              case rel => exact ⟨k + 1, l, by omega, by go_num, hP4, hb4⟩
              case measure => simp [intOf]; omega
            · have hsi := hP3.size i hlt
              have hglt : g < wr.heap.size := by
                rcases hP2.lies i hlt with ⟨h0, _⟩ | ⟨g', hA', _, _, hg'⟩
                · rw [hA] at h0; cases h0
                · rw [hA] at hA'
                  injection hA' with hA'
                  injection hA' with hA'
                  rw [hA']
                  exact block_lt hg'
              rw [hA] at hci1
              clear hck hci hrow
              have hsi3 := Lib.hid hsi.2.2
              go_wp2_with fail
              refine (spoilO_u8 g _ _ _ (p i) (l i) (r i) _ hg rfl hsi3.out hsi.1 hsi.2.1).mono ?_
              rintro e w2 ⟨rfl, hg2, hgr2, hsz2⟩
              have hP4 := hP3.spoil hlt hA hg2 hgr2
              have hb4 : Below B w w2 := hb3.grown hgr2 (Nat.le_trans hB hb3.size) (fun q e => by injection e; omega)
              have own2 := own1.kept hgr2 (by
                cases hv : v1.ownBlock with
                | none => exact .inl rfl
                | some q =>
                  refine .inr fun e => ?_
                  have h1 := (own1.block q hv).1
                  injection e with e
                  omega)
              have hck2 := hP4.at_ k hlk
              obtain ⟨hrow4, hrl4⟩ := hP4.row hlk
              simp only [if_neg (show ¬ k = i by omega)] at hrow4 hrl4
              have hrl4' := Lib.hid hrl4
              obtain ⟨A1, c1, rfl, row1, _, _⟩ := own2.row hwf
              rw [hrl'.out]
              clear hsz2 hrl4 hck1 hci1 hgr2 hg2 hg hA
              go_wp2_with fail
              refine (same_yes_u8 _ _ _ _ _ _ _ _ _ row1 hrow4 hrl4'.out (by omega)).mono ?_
              rintro e w' ⟨rfl, mq, rfl⟩
              have hP5 := hP4.below (w' := w2.drewN mq) ⟨rfl, rfl, rfl, Nat.le_refl _, fun _ _ => rfl⟩
              have hb5 : Below B w (w2.drewN mq) := hb4.trans ⟨rfl, rfl, rfl, Nat.le_refl _, fun _ _ => rfl⟩
              go_wp2
              go_roundw
              case rel => exact ⟨k + 1, _, by omega, by go_num, hP5, hb5⟩
              case measure => simp [intOf]; omega
        · go_wp2
          go_roundw
          case rel => exact ⟨i + 1, l, by omega, by go_num, hP2, hb2⟩
          case measure => simp [intOf]; omega
    · go_wp2
      go_ret
      exact ⟨rfl, hb1⟩

/-- A slice that is handed to ApartBytes: nil, or the beginning of a block that is known whole. -/
structure EntO where
  a : Option Nat
  p : List Int
  n : Nat
  c : Nat
  l : List Int
  r : List Int
def EntO.none_ : EntO := ⟨none, [], 0, 0, [], []⟩
def EntO.adr (e : EntO) : Option Addr := e.a.map fun g => ⟨g, e.p.length, none⟩
def EntO.val (e : EntO) : Value := .slice e.adr e.n e.c
structure EntO.Ok (w : World) (B : Nat) (e : EntO) : Prop where
  size : e.n ≤ e.c ∧ e.c ≤ 140737488355328 ∧ e.l.length = e.c
  wf : ∀ x ∈ e.l, (Lit.int .u8 x).wf = true
  lies : (e.a = none ∧ e.n = 0 ∧ e.c = 0) ∨ ∃ g, e.a = some g ∧ B ≤ g ∧ w.heap[g]? = some (.cells (blk .u8 (e.p ++ e.l ++ e.r)) 5 (0, 0))
def EntO.Far (e e' : EntO) : Prop := ∀ g, e.a = some g → e'.a ≠ some g
theorem EntO.adr_some {e : EntO} {g o : Nat} (h : e.adr = some ⟨g, o, none⟩) : e.a = some g := by
  unfold EntO.adr at h
  cases ha : e.a with
  | none => rw [ha] at h; cases h
  | some q => rw [ha] at h; simp at h; rw [h.1]

theorem partsO_of_list (w : World) (B : Nat) (L : List EntO) (t : TypeId) (hok : ∀ e ∈ L, e.Ok w B) (hfar : L.Pairwise EntO.Far) :
    PartsO (w.alloc (.cells (L.map EntO.val).toArray t)) B w.heap.size L.length (fun k => (L.getD k EntO.none_).adr) (fun k => (L.getD k EntO.none_).n) (fun k => (L.getD k EntO.none_).c) (fun k => (L.getD k EntO.none_).p) (fun k => (L.getD k EntO.none_).l) (fun k => (L.getD k EntO.none_).r) where
  at_ := fun k hk => by
    rw [World.cell?_alloc_at _ _ _ _ rfl]
    simp [List.getElem?_eq_getElem hk, List.getD_eq_getElem?_getD, EntO.val]
  size := fun k hk => by
    simp only [List.getD_eq_getElem?_getD, List.getElem?_eq_getElem hk, Option.getD_some]
    exact (hok _ (List.getElem_mem hk)).size
  wf := fun k hk => by
    simp only [List.getD_eq_getElem?_getD, List.getElem?_eq_getElem hk, Option.getD_some]
    exact (hok _ (List.getElem_mem hk)).wf
  lies := fun k hk => by
    simp only [List.getD_eq_getElem?_getD, List.getElem?_eq_getElem hk, Option.getD_some]
    rcases (hok _ (List.getElem_mem hk)).lies with ⟨h1, h2⟩ | ⟨g, h1, h2, h3⟩
    · exact .inl ⟨by rw [EntO.adr, h1]; rfl, h2⟩
    · have := block_lt h3
      exact .inr ⟨g, by rw [EntO.adr, h1]; rfl, h2, by omega, (Below.heap_alloc w _ g this).trans h3⟩
  apart := fun i k hi hk hne g o q h1 h2 => by
    simp only [List.getD_eq_getElem?_getD, List.getElem?_eq_getElem hi, List.getElem?_eq_getElem hk, Option.getD_some] at h1 h2
    have h1 := EntO.adr_some h1
    have h2 := EntO.adr_some h2
    rcases Nat.lt_or_gt_of_ne hne with h | h
    · exact List.pairwise_iff_getElem.1 hfar i k hi hk h g h1 h2
    · exact List.pairwise_iff_getElem.1 hfar k i hk hi h g h2 h1
  gl_lt := by simp

theorem apartO_list_u8 (w : World) (B : Nat) (L : List EntO) (t : TypeId) (hok : ∀ e ∈ L, e.Ok w B) (hfar : L.Pairwise EntO.Far) (hB : B ≤ w.heap.size) (hm : L.length ≤ 1000) :
    Calls Tryz.prog 24 #[.slice (some ⟨w.heap.size, 0, none⟩) L.length L.length] (w.alloc (.cells (L.map EntO.val).toArray t)) fun e w' => e = .returned (.bool true) ∧ Below B w w' :=
  (apartO_u8 _ _ B _ _ _ _ _ _ _ (partsO_of_list w B L t hok hfar) (by simp; omega) hm).mono fun _ _ ⟨he, hb⟩ => ⟨he, ((Below.refl B w).alloc hB _).trans hb⟩
end Go.Proofs.YtobhllcnljggiaaGreat
namespace Go.Proofs.YtobhllcnljggiaaGreat
open Go.RowKit
set_option linter.unusedVariables false
set_option maxHeartbeats 400000 in
theorem spoilK_u8 (g o n c : Nat) (p l r : List Int) (w : World) (hg : w.heap[g]? = some (.cells (blk .u8 (p ++ l ++ r)) 5 (0, 0))) (hp : p.length = o) (hl : l.length = c) (hn : n ≤ c) (hc : c ≤ 9223372036854775807) :
    Calls Tryz.prog 58 #[.slice (some ⟨g, o, none⟩) n c] w fun e w' => e = .returned (.tuple #[]) ∧ w'.heap[g]? = some (.cells (blk .u8 (p ++ spoil8 c l ++ r)) 5 (0, 0)) ∧ w.grownBy w' (some g) ∧ w'.heap.size = w.heap.size := by
  have hl' := Lib.hid hl
  have hp' := Lib.hid hp
  clear hl hp
  go_enter Tryz.func58, Tryz.ntmps58
  go_wp2
  go_loopw [3] (fun i wr => ∃ k : Nat, k ≤ c ∧ i = .int .i64 k ∧ Hid (wr.heap[g]? = some (.cells (blk .u8 (p ++ spoil8 k l ++ r)) 5 (0, 0))) ∧ w.grownBy wr (some g) ∧ Hid (wr.heap.size = w.heap.size)) (fun i _ => c - (intOf i).toNat)
  case atStart => exact ⟨0, by omega, rfl, Lib.hid (by rw [spoil8_zero]; exact hg), World.grownBy.refl _ _, Lib.hid rfl⟩
  case round =>
    obtain ⟨k, hk, rfl, hb, hgr, hsz⟩ := hrel
    by_cases hlt : k < c
    · have hc1 : wr.cell? ⟨g, o + k, none⟩ = some (.int .u8 (nth l k)) := by
        rw [cell_of_row wr g (o + k) _ _ _ hb.out, blk_get _ _ _ (by rw [List.length_append, List.length_append, spoil8_length, hl'.out, hp'.out]; omega), ← hp'.out, spoilO_at p l r k (by have := hl'.out; omega)]
      have hfz := block_frozen wr g (o + k) _ _ hb.out
      have hnew := Lib.hid (block_setCell wr g (o + k) .u8 5 _ (bits .xor .u8 (nth l k) 90) hb.out)
      rw [show (p ++ spoil8 k l ++ r).set (o + k) (bits .xor .u8 (nth l k) 90) = p ++ spoil8 (k + 1) l ++ r by rw [← hp'.out]; exact spoilO_set p l r k (by have := hl'.out; omega)] at hnew
      have hgr2 := grown_setCell hgr (o + k) (.int .u8 (bits .xor .u8 (nth l k) 90))
      have hsz2 : Hid ((wr.setCell ⟨g, o + k, none⟩ (.int .u8 (bits .xor .u8 (nth l k) 90))).heap.size = w.heap.size) := by
        show _ = _
        rw [← hsz.out]; simp [World.setCell]
      go_wp2
      go_roundw
      case rel => exact ⟨k + 1, by omega, by go_num, hnew, hgr2, hsz2⟩
      case measure => simp [intOf]; omega
    · obtain rfl : k = c := by omega
      go_wp2
      go_end0
      exact ⟨rfl, hb.out, hgr, hsz.out⟩
/-- Rows that lie inside blocks of their own, each known whole (or nil), their slices in the array of block gl. -/
structure PartsK (w : World) (B gl m : Nat) (A : Nat → Option Addr) (n c : Nat → Nat) (p l r : Nat → List Int) : Prop where
  at_ : ∀ k, k < m → w.cell? ⟨gl, k, none⟩ = some (.slice (A k) (n k) (c k))
  size : ∀ k, k < m → n k ≤ c k ∧ (c k ≤ 9223372036854775807 ∧ n k ≤ 140737488355328) ∧ (l k).length = c k
  wf : ∀ k, k < m → ∀ x ∈ l k, (Lit.int .u8 x).wf = true
  lies : ∀ k, k < m → (A k = none ∧ n k = 0 ∧ c k = 0) ∨ ∃ g, A k = some ⟨g, (p k).length, none⟩ ∧ B ≤ g ∧ g ≠ gl ∧ w.heap[g]? = some (.cells (blk .u8 (p k ++ l k ++ r k)) 5 (0, 0))
  apart : ∀ i k, i < m → k < m → i ≠ k → ∀ g o q, A i = some ⟨g, o, none⟩ → A k ≠ some ⟨g, q, none⟩
  gl_lt : gl < w.heap.size

theorem PartsK.row {w : World} {B gl m : Nat} {A : Nat → Option Addr} {n c : Nat → Nat} {p l r : Nat → List Int} (h : PartsK w B gl m A n c p l r) {k : Nat} (hk : k < m) :
    Row .u8 w w.heap.size (A k) ((l k).take (n k)) ∧ ((l k).take (n k)).length = n k := by
  have hs := h.size k hk
  refine ⟨?_, by simp; omega⟩
  rcases h.lies k hk with ⟨ha, hn, hc⟩ | ⟨g, ha, _, _, hg⟩
  · rw [hn, List.take_zero]; exact Row.nil _ _ _ _
  · rw [ha]
    exact (Row.inside hg _ (fun x hx => h.wf k hk x (List.mem_of_mem_take hx)) (List.take_prefix _ _)).more (block_lt hg)
/-- A step that leaves all old blocks leaves the parts. -/
theorem PartsK.below {w w' : World} {B gl m : Nat} {A : Nat → Option Addr} {n c : Nat → Nat} {p l r : Nat → List Int} (h : PartsK w B gl m A n c p l r) (hb : Below w.heap.size w w') : PartsK w' B gl m A n c p l r where
  at_ := fun k hk => (hb.cell (p := ⟨gl, k, none⟩) h.gl_lt).trans (h.at_ k hk)
  size := h.size
  wf := h.wf
  lies := fun k hk => by
    rcases h.lies k hk with h0 | ⟨g, ha, hB, hne, hg⟩
    · exact .inl h0
    · exact .inr ⟨g, ha, hB, hne, (hb.block g (block_lt hg)).trans hg⟩
  apart := h.apart
  gl_lt := Nat.lt_of_lt_of_le h.gl_lt hb.size
/-- One part is written over. -/
theorem PartsK.spoil {w w' : World} {B gl m : Nat} {A : Nat → Option Addr} {n c : Nat → Nat} {p l r : Nat → List Int} (h : PartsK w B gl m A n c p l r) {i g : Nat} (hi : i < m) (ha : A i = some ⟨g, (p i).length, none⟩)
    (hg : w'.heap[g]? = some (.cells (blk .u8 (p i ++ spoil8 (c i) (l i) ++ r i)) 5 (0, 0))) (hgr : w.grownBy w' (some g)) : PartsK w' B gl m A n c p (fun k => if k = i then spoil8 (c i) (l i) else l k) r where
  at_ := fun k hk => by
    rcases h.lies i hi with ⟨h0, _⟩ | ⟨g', ha', _, hne, _⟩
    · rw [ha] at h0; cases h0
    · rw [ha] at ha'
      injection ha' with ha'
      injection ha' with ha'
      subst ha'
      exact (World.cell?_of_block (hgr.block gl h.gl_lt (fun e => hne (by injection e with e; exact e.symm)))).trans (h.at_ k hk)
  size := fun k hk => by
    have := h.size k hk
    refine ⟨this.1, this.2.1, ?_⟩
    split
    · rename_i e; subst e; rw [spoil8_length]; exact this.2.2
    · exact this.2.2
  wf := fun k hk => by
    show ∀ x ∈ (if k = i then spoil8 (c i) (l i) else l k), _
    split
    · exact spoil8_wf _ _ (h.wf i hi)
    · exact h.wf k hk
  lies := fun k hk => by
    by_cases e : k = i
    · subst e
      rcases h.lies k hi with ⟨h0, _⟩ | ⟨g', ha', hB, hne, _⟩
      · rw [ha] at h0; cases h0
      · rw [ha] at ha'
        injection ha' with ha'
        injection ha' with ha'
        subst ha'
        exact .inr ⟨g, ha, hB, hne, by rw [if_pos rfl]; exact hg⟩
    · rcases h.lies k hk with h0 | ⟨g', ha', hB, hne, hg'⟩
      · exact .inl h0
      · refine .inr ⟨g', ha', hB, hne, ?_⟩
        rw [if_neg e, hgr.block g' (block_lt hg') (fun e' => ?_)]
        · exact hg'
        · injection e' with e'
          subst e'
          exact h.apart k i hk hi e _ _ _ ha' ha
  apart := h.apart
  gl_lt := Nat.lt_of_lt_of_le h.gl_lt hgr.size

set_option maxHeartbeats 1000000 in
theorem apartK_u8 (gl m B : Nat) (A : Nat → Option Addr) (n c : Nat → Nat) (p l0 r : Nat → List Int) (w : World) (hP : PartsK w B gl m A n c p l0 r) (hB : B ≤ w.heap.size) (hm : m ≤ 1000) :
    Calls Tryz.prog 24 #[.slice (some ⟨gl, 0, none⟩) m m] w fun e w' => e = .returned (.bool true) ∧ Below B w w' := by
  go_enter Tryz.func24, Tryz.ntmps24
  go_wp2
  go_loopw [3, 4, 5] (fun i _ _ wr => ∃ (j : Nat) (l : Nat → List Int), j ≤ m ∧ i = .int .i64 j ∧ PartsK wr B gl m A n c p l r ∧ Below B w wr) (fun i _ _ _ => m - (intOf i).toNat)
  case atStart => exact ⟨0, l0, by omega, rfl, hP, Below.refl _ _⟩
  case round =>
    obtain ⟨i, l1, hi, rfl, hP1, hb1⟩ := hrel
    by_cases hlt : i < m
    · go_wp2
      obtain ⟨wo, hwo⟩ : ∃ wo : World, wo = wr := ⟨_, rfl⟩
      subst hwo
      go_loopw [4, 5] (fun k _ wr => ∃ (j : Nat) (l : Nat → List Int), j ≤ m ∧ k = .int .i64 j ∧ PartsK wr B gl m A n c p l r ∧ Below B w wr) (fun k _ _ => m - (intOf k).toNat)
      case atStart => exact ⟨0, l1, by omega, rfl, hP1, hb1⟩
      case round =>
        obtain ⟨k, l, hk, rfl, hP2, hb2⟩ := hrel
        by_cases hlk : k < m
        · by_cases hik : i = k
          · subst hik
            go_wp2
            go_roundw
            case rel => exact ⟨i + 1, l, by omega, by go_num, hP2, hb2⟩
            case measure => simp [intOf]; omega
          · have ht : ((i : Int) == (k : Int)) = false := by simp; omega
            have hck := hP2.at_ k hlk
            have hci := hP2.at_ i hlt
            obtain ⟨hrow, hrl⟩ := hP2.row hlk
            have hrl' := Lib.hid hrl
            clear hrl
            have hsk := hP2.size k hlk
            go_wp2_with fail
            refine (copy_u8 _ _ _ _ _ hrow hrl'.out (by omega)).mono ?_
            rintro e w1 ⟨v1, rfl, own1, bel1⟩
            have hP3 := hP2.below bel1
            have hb3 : Below B w w1 := hb2.trans (bel1.mono (Nat.le_trans hB hb2.size))
            have hck1 := hP3.at_ k hlk
            have hci1 := hP3.at_ i hlt
            have hwf := hrow.1
            rcases hP3.lies i hlt with ⟨hA, hN, hC⟩ | ⟨g, hA, hBg, hgl, hg⟩
            · rw [hA, hN, hC] at hci1
              clear hA hN hC hck hci hrow
              obtain ⟨A1, c1, rfl, row1, _, _⟩ := own1.row hwf
              rw [hrl'.out]
              obtain ⟨hrow3, hrl3⟩ := hP3.row hlk
              have hrl3' := Lib.hid hrl3
              clear hrl3
              go_wp2_with fail
              refine (spoil_nil _).mono ?_
              rintro e w' ⟨rfl, rfl⟩
              go_wp2_with fail
              refine (same_yes_u8 _ _ _ _ _ _ _ _ _ row1 hrow3 hrl3'.out (by omega)).mono ?_
              rintro e w' ⟨rfl, mq, rfl⟩
              have hP4 := hP3.below (w' := w1.drewN mq) ⟨rfl, rfl, rfl, Nat.le_refl _, fun _ _ => rfl⟩
              have hb4 : Below B w (w1.drewN mq) := hb3.trans ⟨rfl, rfl, rfl, Nat.le_refl _, fun _ _ => rfl⟩
              go_wp2
              go_roundw
              case rel => exact ⟨k + 1, l, by omega, by go_num, hP4, hb4⟩
              case measure => simp [intOf]; omega
            · have hsi := hP3.size i hlt
              have hglt : g < wr.heap.size := by
                rcases hP2.lies i hlt with ⟨h0, _⟩ | ⟨g', hA', _, _, hg'⟩
                · rw [hA] at h0; cases h0
                · rw [hA] at hA'
                  injection hA' with hA'
                  injection hA' with hA'
                  rw [hA']
                  exact block_lt hg'
              rw [hA] at hci1
              clear hck hci hrow
              have hsi3 := Lib.hid hsi.2.2
              go_wp2_with fail
              refine (spoilK_u8 g _ _ _ (p i) (l i) (r i) _ hg rfl hsi3.out hsi.1 hsi.2.1.1).mono ?_
              rintro e w2 ⟨rfl, hg2, hgr2, hsz2⟩
              have hP4 := hP3.spoil hlt hA hg2 hgr2
              have hb4 : Below B w w2 := hb3.grown hgr2 (Nat.le_trans hB hb3.size) (fun q e => by injection e; omega)
              have own2 := own1.kept hgr2 (by
                cases hv : v1.ownBlock with
                | none => exact .inl rfl
                | some q =>
                  refine .inr fun e => ?_
                  have h1 := (own1.block q hv).1
                  injection e with e
                  omega)
              have hck2 := hP4.at_ k hlk
              obtain ⟨hrow4, hrl4⟩ := hP4.row hlk
              simp only [if_neg (show ¬ k = i by omega)] at hrow4 hrl4
              have hrl4' := Lib.hid hrl4
              obtain ⟨A1, c1, rfl, row1, _, _⟩ := own2.row hwf
              rw [hrl'.out]
              clear hsz2 hrl4 hck1 hci1 hgr2 hg2 hg hA
              go_wp2_with fail
              refine (same_yes_u8 _ _ _ _ _ _ _ _ _ row1 hrow4 hrl4'.out (by omega)).mono ?_
              rintro e w' ⟨rfl, mq, rfl⟩
              have hP5 := hP4.below (w' := w2.drewN mq) ⟨rfl, rfl, rfl, Nat.le_refl _, fun _ _ => rfl⟩
              have hb5 : Below B w (w2.drewN mq) := hb4.trans ⟨rfl, rfl, rfl, Nat.le_refl _, fun _ _ => rfl⟩
              go_wp2
              go_roundw
              case rel => exact ⟨k + 1, _, by omega, by go_num, hP5, hb5⟩
              case measure => simp [intOf]; omega
        · go_wp2
          go_roundw
          case rel => exact ⟨i + 1, l, by omega, by go_num, hP2, hb2⟩
          case measure => simp [intOf]; omega
    · go_wp2
      go_ret
      exact ⟨rfl, hb1⟩

/-- A slice that is handed to ApartBytes: nil, or the beginning of a block that is known whole. -/
structure EntK where
  a : Option Nat
  p : List Int
  n : Nat
  c : Nat
  l : List Int
  r : List Int
def EntK.none_ : EntK := ⟨none, [], 0, 0, [], []⟩
def EntK.adr (e : EntK) : Option Addr := e.a.map fun g => ⟨g, e.p.length, none⟩
def EntK.val (e : EntK) : Value := .slice e.adr e.n e.c
structure EntK.Ok (w : World) (B : Nat) (e : EntK) : Prop where
  size : e.n ≤ e.c ∧ (e.c ≤ 9223372036854775807 ∧ e.n ≤ 140737488355328) ∧ e.l.length = e.c
  wf : ∀ x ∈ e.l, (Lit.int .u8 x).wf = true
  lies : (e.a = none ∧ e.n = 0 ∧ e.c = 0) ∨ ∃ g, e.a = some g ∧ B ≤ g ∧ w.heap[g]? = some (.cells (blk .u8 (e.p ++ e.l ++ e.r)) 5 (0, 0))
def EntK.Far (e e' : EntK) : Prop := ∀ g, e.a = some g → e'.a ≠ some g
theorem EntK.adr_some {e : EntK} {g o : Nat} (h : e.adr = some ⟨g, o, none⟩) : e.a = some g := by
  unfold EntK.adr at h
  cases ha : e.a with
  | none => rw [ha] at h; cases h
  | some q => rw [ha] at h; simp at h; rw [h.1]

theorem partsK_of_list (w : World) (B : Nat) (L : List EntK) (t : TypeId) (hok : ∀ e ∈ L, e.Ok w B) (hfar : L.Pairwise EntK.Far) :
    PartsK (w.alloc (.cells (L.map EntK.val).toArray t)) B w.heap.size L.length (fun k => (L.getD k EntK.none_).adr) (fun k => (L.getD k EntK.none_).n) (fun k => (L.getD k EntK.none_).c) (fun k => (L.getD k EntK.none_).p) (fun k => (L.getD k EntK.none_).l) (fun k => (L.getD k EntK.none_).r) where
  at_ := fun k hk => by
    rw [World.cell?_alloc_at _ _ _ _ rfl]
    simp [List.getElem?_eq_getElem hk, List.getD_eq_getElem?_getD, EntK.val]
  size := fun k hk => by
    simp only [List.getD_eq_getElem?_getD, List.getElem?_eq_getElem hk, Option.getD_some]
    exact (hok _ (List.getElem_mem hk)).size
  wf := fun k hk => by
    simp only [List.getD_eq_getElem?_getD, List.getElem?_eq_getElem hk, Option.getD_some]
    exact (hok _ (List.getElem_mem hk)).wf
  lies := fun k hk => by
    simp only [List.getD_eq_getElem?_getD, List.getElem?_eq_getElem hk, Option.getD_some]
    rcases (hok _ (List.getElem_mem hk)).lies with ⟨h1, h2⟩ | ⟨g, h1, h2, h3⟩
    · exact .inl ⟨by rw [EntK.adr, h1]; rfl, h2⟩
    · have := block_lt h3
      exact .inr ⟨g, by rw [EntK.adr, h1]; rfl, h2, by omega, (Below.heap_alloc w _ g this).trans h3⟩
  apart := fun i k hi hk hne g o q h1 h2 => by
    simp only [List.getD_eq_getElem?_getD, List.getElem?_eq_getElem hi, List.getElem?_eq_getElem hk, Option.getD_some] at h1 h2
    have h1 := EntK.adr_some h1
    have h2 := EntK.adr_some h2
    rcases Nat.lt_or_gt_of_ne hne with h | h
    · exact List.pairwise_iff_getElem.1 hfar i k hi hk h g h1 h2
    · exact List.pairwise_iff_getElem.1 hfar k i hk hi h g h2 h1
  gl_lt := by simp

theorem apartK_list_u8 (w : World) (B : Nat) (L : List EntK) (t : TypeId) (hok : ∀ e ∈ L, e.Ok w B) (hfar : L.Pairwise EntK.Far) (hB : B ≤ w.heap.size) (hm : L.length ≤ 1000) :
    Calls Tryz.prog 24 #[.slice (some ⟨w.heap.size, 0, none⟩) L.length L.length] (w.alloc (.cells (L.map EntK.val).toArray t)) fun e w' => e = .returned (.bool true) ∧ Below B w w' :=
  (apartK_u8 _ _ B _ _ _ _ _ _ _ (partsK_of_list w B L t hok hfar) (by simp; omega) hm).mono fun _ _ ⟨he, hb⟩ => ⟨he, ((Below.refl B w).alloc hB _).trans hb⟩
end Go.Proofs.YtobhllcnljggiaaGreat
namespace Go.Proofs.YtobhllcnljggiaaGreat
open Go.RowKit
set_option linter.unusedVariables false

/-- The boxes of a request and of an answer that came in; the lent request, the copied answer, and their boxes. -/
structure PutSt (w0 : World) (q : Req) (r : Rep) (Ao As Ap Bo Bs Bf Co Cs Cf : Option Addr) (lo ls lp co cs cp mo ms mf eo es ef ko ks kf go gs gp gx gy : Nat) (w : World) : Prop where
  tb : TB w0 w0.heap.size (.cells #[.int .i64 q.c, .int .i64 q.a, .int .i64 q.n, .slice Ao lo co, .slice As ls cs, .slice Ap lp cp] 26 (0, 0)) (.cells #[.int .i64 r.x, .slice Bo mo eo, .slice Bs ms es, .slice Bf mf ef] 29 (0, 0)) w
  k1 : L.Bk w go (q.on ++ L.marks5)
  k2 : W.Bk w gs (q.set ++ W.marks5)
  k3 : w.heap[gp]? = some (.cells (blk .i64 (q.fl ++ marksP)) 47 (0, 0))
  bx : w.heap[gx]? = some (.cells #[.int .i64 q.c, .int .i64 q.a, .int .i64 q.n, .slice (some ⟨go, 0, none⟩) lo (lo + 5), .slice (some ⟨gs, 0, none⟩) ls (ls + 5), .slice (some ⟨gp, 0, none⟩) lp (lp + 5)] 26 (0, 0))
  bxy : w.heap[gy]? = some (.cells #[.int .i64 r.x, .slice Co mo ko, .slice Cs ms ks, .slice Cf mf kf] 29 (0, 0))
  lent : Asked w w.heap.size q (some ⟨go, 0, none⟩) (some ⟨gs, 0, none⟩) (some ⟨gp, 0, none⟩) lo ls lp
  copy : Repd w w.heap.size r Co Cs Cf mo ms mf
theorem Asked.upB {w w' : World} {q : Req} {Ao As Ap : Option Addr} {lo ls lp : Nat} (h : Asked w w.heap.size q Ao As Ap lo ls lp) (hb : Below w.heap.size w w') : Asked w' w'.heap.size q Ao As Ap lo ls lp := (h.below hb).more hb.size
section
variable {w0 w w' : World} {q : Req} {r : Rep} {Ao As Ap Bo Bs Bf Co Cs Cf : Option Addr} {lo ls lp co cs cp mo ms mf eo es ef ko ks kf go gs gp gx gy : Nat}
theorem PutSt.below (h : PutSt w0 q r Ao As Ap Bo Bs Bf Co Cs Cf lo ls lp co cs cp mo ms mf eo es ef ko ks kf go gs gp gx gy w) (hb : Below w.heap.size w w') : PutSt w0 q r Ao As Ap Bo Bs Bf Co Cs Cf lo ls lp co cs cp mo ms mf eo es ef ko ks kf go gs gp gx gy w' where
  tb := h.tb.below hb
  k1 := h.k1.below hb
  k2 := h.k2.below hb
  k3 := (hb.block gp (block_lt h.k3)).trans h.k3
  bx := (hb.block gx (block_lt h.bx)).trans h.bx
  bxy := (hb.block gy (block_lt h.bxy)).trans h.bxy
  lent := h.lent.upB hb
  copy := h.copy.up hb
theorem PutSt.drewN (h : PutSt w0 q r Ao As Ap Bo Bs Bf Co Cs Cf lo ls lp co cs cp mo ms mf eo es ef ko ks kf go gs gp gx gy w) (n : Nat) : PutSt w0 q r Ao As Ap Bo Bs Bf Co Cs Cf lo ls lp co cs cp mo ms mf eo es ef ko ks kf go gs gp gx gy (w.drewN n) := h.below (bel_drewN w n)
theorem PutSt.cellsX (h : PutSt w0 q r Ao As Ap Bo Bs Bf Co Cs Cf lo ls lp co cs cp mo ms mf eo es ef ko ks kf go gs gp gx gy w) : w.cell? ⟨gx, 0, none⟩ = some (.int .i64 q.c) ∧ w.cell? ⟨gx, 1, none⟩ = some (.int .i64 q.a) ∧ w.cell? ⟨gx, 2, none⟩ = some (.int .i64 q.n) ∧ w.cell? ⟨gx, 3, none⟩ = some (.slice (some ⟨go, 0, none⟩) lo (lo + 5)) ∧ w.cell? ⟨gx, 4, none⟩ = some (.slice (some ⟨gs, 0, none⟩) ls (ls + 5)) ∧ w.cell? ⟨gx, 5, none⟩ = some (.slice (some ⟨gp, 0, none⟩) lp (lp + 5)) :=
  ⟨cell_of_row w gx 0 _ _ _ h.bx, cell_of_row w gx 1 _ _ _ h.bx, cell_of_row w gx 2 _ _ _ h.bx, cell_of_row w gx 3 _ _ _ h.bx, cell_of_row w gx 4 _ _ _ h.bx, cell_of_row w gx 5 _ _ _ h.bx⟩
theorem PutSt.cellsY (h : PutSt w0 q r Ao As Ap Bo Bs Bf Co Cs Cf lo ls lp co cs cp mo ms mf eo es ef ko ks kf go gs gp gx gy w) : w.cell? ⟨gy, 0, none⟩ = some (.int .i64 r.x) ∧ w.cell? ⟨gy, 1, none⟩ = some (.slice Co mo ko) ∧ w.cell? ⟨gy, 2, none⟩ = some (.slice Cs ms ks) ∧ w.cell? ⟨gy, 3, none⟩ = some (.slice Cf mf kf) :=
  ⟨cell_of_row w gy 0 _ _ _ h.bxy, cell_of_row w gy 1 _ _ _ h.bxy, cell_of_row w gy 2 _ _ _ h.bxy, cell_of_row w gy 3 _ _ _ h.bxy⟩
end

/-- A list of the call's own, as an entry. -/
theorem KOwn.entR {w : World} {base B : Nat} {v : Value} {xs : List Int} (h : KOwn .u8 5 w base v xs) (hw : ∀ x ∈ xs, (Lit.int .u8 x).wf = true) (hm : xs.length ≤ 140737488355328) (hB : B ≤ base) :
    ∃ E : EntK, E.val = v ∧ E.Ok w B ∧ ∀ g, E.a = some g → base ≤ g ∧ v.ownBlock = some g := by
  rcases h with ⟨rfl, rfl⟩ | ⟨g, n, cap, r, rfl, h2, h3, h4, h5, h6, h7, h8⟩
  · exact ⟨⟨none, [], 0, 0, [], []⟩, rfl, ⟨⟨Nat.le_refl _, ⟨by show 0 ≤ _; omega, by show 0 ≤ _; omega⟩, rfl⟩, by simp, .inl ⟨rfl, rfl, rfl⟩⟩, fun g h => by cases h⟩
  · simp only [maxLen] at h6
    refine ⟨⟨some g, [], n, cap, xs ++ r, []⟩, rfl, ⟨⟨h5, ⟨h6, by show n ≤ _; omega⟩, by show (xs ++ r).length = cap; rw [List.length_append]; exact h7⟩, wf_append hw h8, .inr ⟨g, rfl, by omega, by rw [List.append_nil, List.nil_append]; exact h4⟩⟩, fun g' e => ?_⟩
    have e : some g = some g' := e
    injection e with e
    subst e
    exact ⟨h2, rfl⟩
/-- Two lists of the call's own share no memory. -/
theorem apart2K (w : World) (B b1 b2 : Nat) (v1 v2 : Value) (l1 l2 : List Int) (t : TypeId) (h1 : KOwn .u8 5 w b1 v1 l1) (h2 : KOwn .u8 5 w b2 v2 l2) (f1 : ∀ x ∈ l1, (Lit.int .u8 x).wf = true) (f2 : ∀ x ∈ l2, (Lit.int .u8 x).wf = true) (q1 : l1.length ≤ 140737488355328) (q2 : l2.length ≤ 140737488355328)
    (hB1 : B ≤ b1) (hB2 : B ≤ b2) (hlt : ∀ g, v1.ownBlock = some g → g < b2) (hB : B ≤ w.heap.size) :
    Calls Tryz.prog 24 #[.slice (some ⟨w.heap.size, 0, none⟩) 2 2] (w.alloc (.cells #[v1, v2] t)) fun e w' => e = .returned (.bool true) ∧ Below B w w' := by
  obtain ⟨E1, e1, o1, a1⟩ := h1.entR (B := B) f1 q1 hB1
  obtain ⟨E2, e2, o2, a2⟩ := h2.entR (B := B) f2 q2 hB2
  have hfar : [E1, E2].Pairwise EntK.Far := by
    refine List.pairwise_cons.2 ⟨fun e he => ?_, List.pairwise_singleton _ _⟩
    simp only [List.mem_singleton] at he
    subst he
    intro g h3 h4
    have := hlt g (a1 g h3).2
    have := (a2 g h4).1
    omega
  have hok : ∀ e ∈ [E1, E2], e.Ok w B := by
    intro e he
    simp only [List.mem_cons, List.not_mem_nil, or_false] at he
    rcases he with rfl | rfl
    · exact o1
    · exact o2
  have h := apartK_list_u8 w B _ t hok hfar hB (by simp)
  simp only [List.map_cons, List.map_nil, e1, e2] at h
  exact h

theorem putR_len (q : Req) (r : Rep) : (putR q r).length ≤ 1000 := by
  unfold putR
  split
  · simp
  · rename_i hk
    have hk : chkR q r = 0 := by simpa using hk
    split
    · simp
    · rename_i hx
      have hx : r.x = 0 := by simpa using hx
      unfold formR
      split
      · rename_i hc
        have := rep_bits hk hx hc
        simp only [List.length_cons, pk_length]
        unfold need
        omega
      · split
        · rename_i hc
          have := rep_words hk hx hc
          simp only [List.length_cons, wbytes_length]
          omega
        · split
          · rename_i hc
            have := (rep_files hk hx hc).2.2
            simp only [List.length_cons]
            omega
          · simp only [List.length_take]
            omega
theorem wf_cons2 {a b : Int} {l : List Int} (ha : 0 ≤ a ∧ a < 256) (hb : 0 ≤ b ∧ b < 256) (hl : ∀ x ∈ l, (Lit.int .u8 x).wf = true) : ∀ x ∈ a :: b :: l, (Lit.int .u8 x).wf = true := by
  intro x hx
  rcases List.mem_cons.1 hx with rfl | hx
  · have := wf_byte x.toNat (by omega); rwa [show ((x.toNat : Nat) : Int) = x by omega] at this
  · rcases List.mem_cons.1 hx with rfl | hx
    · have := wf_byte x.toNat (by omega); rwa [show ((x.toNat : Nat) : Int) = x by omega] at this
    · exact hl x hx
theorem putR_wf (q : Req) (r : Rep) : ∀ x ∈ putR q r, (Lit.int .u8 x).wf = true := by
  unfold putR
  split
  · intro x hx; cases hx
  · rename_i hk
    have hk : chkR q r = 0 := by simpa using hk
    have hq : chkQ q = 0 := by
      have h2 := hk
      unfold chkR at h2
      by_cases h : chkQ q ≠ 0
      · rw [if_pos h] at h2; exact h2
      · simpa using h
    have hcr := mm_le _ (chk_code hq)
    split
    · rename_i hx
      have hxr : 1 ≤ r.x ∧ r.x ≤ 127 := by
        have h2 := hk
        unfold chkR at h2
        rw [if_neg (show ¬ chkQ q ≠ 0 by rw [hq]; simp), if_pos hx] at h2
        split at h2
        · assumption
        · cases h2
      exact wf_cons2 (by omega) (by omega) (by simp)
    · rename_i hx
      have hx : r.x = 0 := by simpa using hx
      unfold formR
      split
      · rename_i hc
        have := rep_bits hk hx hc
        exact wf_cons2 (by omega) (by unfold need; omega) (pk_wf _ _)
      · split
        · rename_i hc
          have := rep_words hk hx hc
          exact wf_cons2 (by omega) (by omega) (wbytes_wf _)
        · split
          · rename_i hc
            have h3 := rep_files hk hx hc
            exact wf_cons2 (by omega) (by omega) (fbytes_wf r.fs _ h3.2.1)
          · intro x hx
            exact putL_wf q x (List.mem_of_mem_take hx)
end Go.Proofs.YtobhllcnljggiaaGreat
namespace Go.Proofs.YtobhllcnljggiaaGreat
open Go.RowKit
set_option linter.unusedVariables false

set_option maxHeartbeats 4000000 in
set_option maxRecDepth 100000 in
theorem walk_ReplyPuts (q : Req) (Ao As Ap : Option Addr) (lo ls lp co cs cp : Nat) (r : Rep) (Bo Bs Bf : Option Addr) (mo ms mf eo es ef : Nat) (w : World) (h : Asked w w.heap.size q Ao As Ap lo ls lp) (hi : (Lit.int .i64 q.c).wf = true ∧ (Lit.int .i64 q.a).wf = true ∧ (Lit.int .i64 q.n).wf = true) (hr : Repd w w.heap.size r Bo Bs Bf mo ms mf) (hx : (Lit.int .i64 r.x).wf = true) (sh : ∀ i, i < mf → (nthF r.fs i).length ≤ 70368744175616) :
    Calls Tryz.prog 7 #[.agg #[.int .i64 q.c, .int .i64 q.a, .int .i64 q.n, .slice Ao lo co, .slice As ls cs, .slice Ap lp cp], .agg #[.int .i64 r.x, .slice Bo mo eo, .slice Bs ms es, .slice Bf mf ef]] w fun e w' => e = .returned (.bool true) ∧ Below w.heap.size w w' := by
  have t0 := TB.new2 w #[.int .i64 q.c, .int .i64 q.a, .int .i64 q.n, .slice Ao lo co, .slice As ls cs, .slice Ap lp cp] #[.int .i64 r.x, .slice Bo mo eo, .slice Bs ms es, .slice Bf mf ef] 26 29
  have H0 := Lib.hid h
  have HR0 := Lib.hid hr
  have SH := Lib.hid sh
  have HL := Lib.hid (long_any q r Ao As Ap Bo Bs Bf lo ls lp co cs cp mo ms mf eo es ef _ ((hr.below t0.bel).more t0.bel.size))
  clear h hi hr hx sh
  obtain ⟨v, hv⟩ : ∃ v, Hid ((longA lo ls lp || longR mo ms mf r.fs) = v) := ⟨_, Lib.hid rfl⟩
  rw [hv.out] at HL
  obtain ⟨d0, d1, d2, d3, _⟩ := t0.c4
  obtain ⟨r0, r1, r2, r3, r4, r5, _⟩ := t0.r6
  cases v with
  | true =>
    go_enter Tryz.func7, Tryz.ntmps7
    go_wp2_with fail
    refine HL.out.mono ?_
    rintro e w1 ⟨rfl, b1⟩
    have bel1 := (t0.below b1).bel
    go_wp2_with fail
    refine (works_yes _).mono ?_
    rintro e w2 ⟨rfl, b2⟩
    go_wp2
    go_ret
    exact ⟨rfl, bel1.trans (b2.mono bel1.size)⟩
  | false =>
    have hv2 := hv.out
    rw [Bool.or_eq_false_iff] at hv2
    have ha := of_decide_eq_false hv2.1
    have hb := of_decide_eq_false hv2.2
    have hlo : lo ≤ 70000 := by omega
    have hls : ls ≤ 70000 := by omega
    have hlp : lp ≤ 70000 := by omega
    have hmo : mo ≤ 70000 := by omega
    have hms : ms ≤ 70000 := by omega
    have hmf : mf ≤ 1000 := by omega
    clear hv2 ha hb hv
    go_enter Tryz.func7, Tryz.ntmps7
    go_wp2_with fail
    refine HL.out.mono ?_
    rintro e w1 ⟨rfl, b1⟩
    have t1 := t0.below b1
    clear t0 b1 HL d0 d1 d2 d3 r0 r1 r2 r3 r4 r5
    obtain ⟨d0, d1, d2, d3, _⟩ := t1.c4
    obtain ⟨r0, r1, r2, r3, r4, r5, _⟩ := t1.r6
    go_wp2_with fail
    clear d0 d1 d2 d3 r0 r1 r2 r3 r4 r5
    refine (LentAsk_any q Ao As Ap lo ls lp co cs cp w1 ((H0.out.below t1.bel).more t1.bel.size) hlo hls hlp).mono ?_
    rintro e w2 ⟨go, gs, gp, rfl, k1, k2, k3, b2⟩
    have t2 := t1.below b2
    have hgp := block_lt k3
    have HA2 : Hid (Asked w2 w2.heap.size q (some ⟨go, 0, none⟩) (some ⟨gs, 0, none⟩) (some ⟨gp, 0, none⟩) lo ls lp) := Lib.hid
      ⟨k1.row q.on (fun _ _ => rfl) (List.prefix_append _ _), k2.row q.set H0.out.set.1 (List.prefix_append _ _), (Row.of_block k3 q.fl H0.out.fl.1 (List.prefix_append _ _)).more hgp, H0.out.lo, H0.out.ls, H0.out.lp⟩
    have bA := bel_alloc w2 (.cells #[.int .i64 q.c, .int .i64 q.a, .int .i64 q.n, .slice (some ⟨go, 0, none⟩) lo (lo + 5), .slice (some ⟨gs, 0, none⟩) ls (ls + 5), .slice (some ⟨gp, 0, none⟩) lp (lp + 5)] 26)
    have t3 := t2.below bA
    have K1 := Lib.hid (k1.below bA)
    have K2 := Lib.hid (k2.below bA)
    have K3 := Lib.hid ((bA.block gp hgp).trans k3)
    have HA3 := Lib.hid (HA2.out.upB bA)
    have gX := heap_alloc_new w2 (.cells #[.int .i64 q.c, .int .i64 q.a, .int .i64 q.n, .slice (some ⟨go, 0, none⟩) lo (lo + 5), .slice (some ⟨gs, 0, none⟩) ls (ls + 5), .slice (some ⟨gp, 0, none⟩) lp (lp + 5)] 26)
    clear t1 b2 k1 k2 k3 hgp HA2 bA t2
    obtain ⟨d0, d1, d2, d3, _⟩ := t3.c4
    obtain ⟨gx, hgx⟩ : ∃ g, w2.heap.size = g := ⟨_, rfl⟩
    rw [hgx] at gX
    obtain ⟨w3, hw3⟩ : ∃ w', w2.alloc (.cells #[.int .i64 q.c, .int .i64 q.a, .int .i64 q.n, .slice (some ⟨go, 0, none⟩) lo (lo + 5), .slice (some ⟨gs, 0, none⟩) ls (ls + 5), .slice (some ⟨gp, 0, none⟩) lp (lp + 5)] 26) = w' := ⟨_, rfl⟩
    rw [hw3] at t3 K1 K2 K3 HA3 gX d0 d1 d2 d3
    have GX := Lib.hid gX
    clear gX
    go_wp2_with fail
    clear d0 d1 d2 d3
    refine (CopyReply_any r Bo Bs Bf mo ms mf eo es ef w3 ((HR0.out.below t3.bel).more t3.bel.size) hmo hms hmf SH.out).mono ?_
    rintro e w4 ⟨Co, Cs, Cf, ko, ks, kf, rfl, hcopy, b4⟩
    have bA := bel_alloc w4 (.cells #[.int .i64 r.x, .slice Co mo ko, .slice Cs ms ks, .slice Cf mf kf] 29)
    have gY := heap_alloc_new w4 (.cells #[.int .i64 r.x, .slice Co mo ko, .slice Cs ms ks, .slice Cf mf kf] 29)
    obtain ⟨gy, hgy⟩ : ∃ g, w4.heap.size = g := ⟨_, rfl⟩
    have st : Hid (PutSt w q r Ao As Ap Bo Bs Bf Co Cs Cf lo ls lp co cs cp mo ms mf eo es ef ko ks kf go gs gp gx w4.heap.size (w4.alloc (.cells #[.int .i64 r.x, .slice Co mo ko, .slice Cs ms ks, .slice Cf mf kf] 29))) := Lib.hid
      ⟨(t3.below b4).below bA, (K1.out.below b4).below bA, (K2.out.below b4).below bA, (bA.block gp (Nat.lt_of_lt_of_le (block_lt K3.out) b4.size)).trans ((b4.block gp (block_lt K3.out)).trans K3.out), (bA.block gx (Nat.lt_of_lt_of_le (block_lt GX.out) b4.size)).trans ((b4.block gx (block_lt GX.out)).trans GX.out), gY, (HA3.out.upB b4).upB bA, hcopy.up bA⟩
    clear t3 K1 K2 K3 HA3 GX hcopy b4 bA gY hw3 hgx
    rw [hgy] at st
    obtain ⟨w5, hw5⟩ : ∃ w', w4.alloc (.cells #[.int .i64 r.x, .slice Co mo ko, .slice Cs ms ks, .slice Cf mf kf] 29) = w' := ⟨_, rfl⟩
    rw [hw5] at st
    have s5 := st.out
    obtain ⟨L, hL⟩ : ∃ L, Hid (putR q r = L) := ⟨_, Lib.hid rfl⟩
    obtain ⟨E, hE⟩ : ∃ E, Hid (chkR q r = E) := ⟨_, Lib.hid rfl⟩
    have HWF : Hid (∀ x ∈ L, (Lit.int .u8 x).wf = true) := Lib.hid (by rw [← hL.out]; exact putR_wf q r)
    have hll : L.length ≤ 1000 := by rw [← hL.out]; exact putR_len q r
    clear st
    obtain ⟨x0, x1, x2, x3, x4, x5⟩ := s5.cellsX
    obtain ⟨y0, y1, y2, y3⟩ := s5.cellsY
    go_wp2_with fail
    clear x0 x1 x2 x3 x4 x5 y0 y1 y2 y3
    refine (rpPutK_any q r (some ⟨go, 0, none⟩) (some ⟨gs, 0, none⟩) (some ⟨gp, 0, none⟩) Co Cs Cf lo ls lp (lo + 5) (ls + 5) (lp + 5) mo ms mf ko ks kf w5 s5.lent s5.copy (by omega)).mono ?_
    rw [hL.out, hE.out]
    rintro e w6 ⟨v6, rfl, k6, b6⟩
    have s6 := s5.below b6
    have lt6 := fun g hg => (k6.block g hg).2
    have z56 := b6.size
    have bb6 := b6
    obtain ⟨x0, x1, x2, x3, x4, x5⟩ := s6.cellsX
    obtain ⟨y0, y1, y2, y3⟩ := s6.cellsY
    clear b6
    go_wp2_with fail
    clear x0 x1 x2 x3 x4 x5 y0 y1 y2 y3
    refine (rpPutK_any q r (some ⟨go, 0, none⟩) (some ⟨gs, 0, none⟩) (some ⟨gp, 0, none⟩) Co Cs Cf lo ls lp (lo + 5) (ls + 5) (lp + 5) mo ms mf ko ks kf w6 s6.lent s6.copy (by omega)).mono ?_
    rw [hL.out, hE.out]
    rintro e w7 ⟨v7, rfl, k7, b7⟩
    have s7 := s6.below b7
    have z67 := b7.size
    have bb7 := bb6.trans (b7.mono z56)
    have k67 := k6.below b7 (Nat.le_refl _)
    obtain ⟨d0, d1, d2, d3, _⟩ := s7.tb.c4
    obtain ⟨r0, r1, r2, r3, r4, r5, _⟩ := s7.tb.r6
    clear b7 k6 s6
    go_wp2_with fail
    clear d0 d1 d2 d3 r0 r1 r2 r3 r4 r5
    refine (refPutR_any q r Ao As Ap Bo Bs Bf lo ls lp co cs cp mo ms mf eo es ef w7 ((H0.out.below s7.tb.bel).more s7.tb.bel.size) ((HR0.out.below s7.tb.bel).more s7.tb.bel.size) (by omega)).mono ?_
    rw [hL.out, hE.out]
    rintro e w8 ⟨v8, rfl, own8, b8⟩
    have s8 := s7.below b8
    have k68 := k67.below b8 (Nat.le_refl _)
    have k78 := k7.below b8 (Nat.le_refl _)
    have bb8 := bb7.trans (b8.mono (by omega))
    clear k7 k67 b8 s7 bb6 bb7
    obtain ⟨A6, n6, c6, rfl, r6', l6⟩ := k68.own.view3 HWF.out
    obtain ⟨A7, n7, c7, rfl, r7', l7⟩ := k78.own.view3 HWF.out
    obtain ⟨A8, n8, c8, rfl, r8', l8⟩ := own8.view3 HWF.out
    obtain rfl : n7 = n6 := l7.symm.trans l6
    obtain rfl : n8 = n7 := l8.symm.trans l6
    have R6 := Lib.hid r6'
    have R7 := Lib.hid r7'
    have R8 := Lib.hid r8'
    have L6 := Lib.hid l6
    clear own8 r6' r7' r8' l6 l7 l8
    go_wp2_with fail
    refine (same_yes_u8 A6 A8 n8 c6 c8 L w8 _ _ R6.out R8.out L6.out (by have := L6.out; omega)).mono ?_
    rintro e w9 ⟨rfl, m9, rfl⟩
    go_wp2_with fail
    refine (same_yes_u8 A7 A8 n8 c7 c8 L (w8.drewN m9) _ _ (R7.out.drewN m9) (R8.out.drewN m9) L6.out (by have := L6.out; omega)).mono ?_
    rintro e w10 ⟨rfl, m10, rfl⟩
    rw [World.drewN_drewN]
    have s10 := s8.drewN (m9 + m10)
    have k6a := k68.drewN (m9 + m10)
    have k7a := k78.drewN (m9 + m10)
    have bb10 := below_drewN bb8 (m9 + m10)
    clear s8 k68 k78 bb8 R6 R7 R8
    generalize w8.drewN (m9 + m10) = w10 at *
    obtain ⟨x0, x1, x2, x3, x4, x5⟩ := s10.cellsX
    obtain ⟨r0, r1, r2, r3, r4, r5, _⟩ := s10.tb.r6
    go_wp2_with fail
    clear x0 x1 x2 x3 x4 x5 r0 r1 r2 r3 r4 r5
    refine (KeptAsk_yes q Ao As Ap lo ls lp co cs cp go gs gp w10 ((H0.out.below s10.tb.bel).more s10.tb.bel.size) s10.k1 s10.k2 s10.k3 hlo hls hlp).mono ?_
    rintro e w11 ⟨rfl, b11⟩
    have s11 := s10.below b11
    have k6b := k6a.below b11 (Nat.le_refl _)
    have k7b := k7a.below b11 (Nat.le_refl _)
    have bb11 := bb10.trans (b11.mono bb10.size)
    clear s10 k6a k7a bb10 b11
    obtain ⟨y0, y1, y2, y3⟩ := s11.cellsY
    obtain ⟨d0, d1, d2, d3, _⟩ := s11.tb.c4
    have hrr := (HR0.out.below s11.tb.bel).more s11.tb.bel.size
    have HRR := Lib.hid hrr
    clear hrr
    go_wp2_with fail
    clear y0 y1 y2 y3 d0 d1 d2 d3
    refine (SameReply_yes r.x r.on r.set r.fs Co Cs Cf Bo Bs Bf mo ms mf ko ks kf eo es ef w11 s11.copy.on s11.copy.set HRR.out.on HRR.out.set s11.copy.fs HRR.out.fs s11.copy.mo s11.copy.ms s11.copy.mf (by omega) (by omega) (by omega) (fun i hi => by have := SH.out i hi; omega)).mono ?_
    rintro e w12 ⟨rfl, b12⟩
    have s12 := s11.below b12
    have k6c := k6b.below b12 (Nat.le_refl _)
    have k7c := k7b.below b12 (Nat.le_refl _)
    have bb12 := bb11.trans (b12.mono bb11.size)
    clear s11 k6b k7b bb11 b12 HRR
    go_wp2_with fail
    refine (apart2K w12 w5.heap.size w5.heap.size w6.heap.size _ _ L L _ k6c k7c HWF.out HWF.out (by omega) (by omega) (Nat.le_refl _) z56 lt6 bb12.size).mono ?_
    rintro e w13 ⟨rfl, b13⟩
    have bb13 := bb12.trans b13
    have s13 := s5.below bb13
    clear s12 k6c k7c bb12 b13
    obtain ⟨x0, x1, x2, x3, x4, x5⟩ := s13.cellsX
    obtain ⟨r0, r1, r2, r3, r4, r5, _⟩ := s13.tb.r6
    go_wp2_with fail
    clear x0 x1 x2 x3 x4 x5 r0 r1 r2 r3 r4 r5
    refine (KeptAsk_yes q Ao As Ap lo ls lp co cs cp go gs gp w13 ((H0.out.below s13.tb.bel).more s13.tb.bel.size) s13.k1 s13.k2 s13.k3 hlo hls hlp).mono ?_
    rintro e w14 ⟨rfl, b14⟩
    have s14 := s13.below b14
    clear s13 b14 bb13
    obtain ⟨y0, y1, y2, y3⟩ := s14.cellsY
    obtain ⟨d0, d1, d2, d3, _⟩ := s14.tb.c4
    have hrr := (HR0.out.below s14.tb.bel).more s14.tb.bel.size
    have HRR := Lib.hid hrr
    clear hrr
    go_wp2_with fail
    clear y0 y1 y2 y3 d0 d1 d2 d3
    refine (SameReply_yes r.x r.on r.set r.fs Co Cs Cf Bo Bs Bf mo ms mf ko ks kf eo es ef w14 s14.copy.on s14.copy.set HRR.out.on HRR.out.set s14.copy.fs HRR.out.fs s14.copy.mo s14.copy.ms s14.copy.mf (by omega) (by omega) (by omega) (fun i hi => by have := SH.out i hi; omega)).mono ?_
    rintro e w15 ⟨rfl, b15⟩
    have bel15 := (s14.below b15).tb.bel
    go_wp2_with fail
    refine (works_yes _).mono ?_
    rintro e w16 ⟨rfl, b16⟩
    go_wp2
    go_ret
    exact ⟨rfl, bel15.trans (b16.mono bel15.size)⟩
end Go.Proofs.YtobhllcnljggiaaGreat
namespace Go.Proofs.YtobhllcnljggiaaGreat
open Go.RowKit
set_option linter.unusedVariables false

theorem getR_wf {q : Req} {ys : List Int} (hw : ∀ x ∈ ys, (Lit.int .u8 x).wf = true) : (∀ x ∈ (getR q ys).set, (Lit.int .u16 x).wf = true) ∧ ∀ xs ∈ (getR q ys).fs, ∀ x ∈ xs, (Lit.int .u16 x).wf = true := by
  unfold getR
  split
  · exact ⟨(fun x hx => by cases hx), (fun xs hx => by cases hx)⟩
  · split
    · exact ⟨(fun x hx => by cases hx), (fun xs hx => by cases hx)⟩
    · exact rdR_wf hw
theorem getR_zero {q : Req} {ys : List Int} (h : getRE q ys ≠ 0) : getR q ys = Rep.zero := by rw [getR, if_pos h]
/-- What a right answer's lists are no longer than. -/
theorem getR_len {q : Req} {ys : List Int} (h : getRE q ys = 0) : ((getR q ys).on.length ≤ 2000 ∧ (getR q ys).set.length ≤ ys.length) ∧ (getR q ys).fs.length ≤ 35 ∧ ∀ i, i < (getR q ys).fs.length → (nthF (getR q ys).fs i).length ≤ ys.length := by
  obtain ⟨hq, h0, hh⟩ := getRE_zero h
  rw [getR, if_neg (by rw [h]; simp)]
  rcases hh with ⟨e1, _⟩ | ⟨e1, e2, e3⟩
  · rw [if_pos e1]
    exact ⟨⟨by simp, by simp⟩, by simp, fun i hi => by simp at hi⟩
  · rw [if_neg (by omega), rdR]
    split
    · rename_i hc
      have := right_bits hq hc
      refine ⟨⟨?_, by simp⟩, by simp, fun i hi => by simp at hi⟩
      show (unpk _ _).length ≤ 2000
      rw [unpk_length]; omega
    · split
      · refine ⟨⟨by simp, ?_⟩, by simp, fun i hi => by simp at hi⟩
        show (wwords _).length ≤ _
        rw [wwords_length, List.length_drop]; omega
      · split
        · rename_i hc
          have := right_files hq hc
          refine ⟨⟨by simp, by simp⟩, ?_, fun i hi => ?_⟩
          · show (filesR _ _ _).length ≤ 35
            rw [filesR_length]; omega
          · change i < (filesR _ _ _).length at hi
            rw [filesR_length] at hi
            show (nthF (filesR _ _ _) i).length ≤ _
            rw [filesR_nth _ _ _ _ hi, fileAt, wwords_length, List.length_take, List.length_drop]; omega
        · exact ⟨⟨by simp [Rep.zero], by simp [Rep.zero]⟩, by simp [Rep.zero], fun i hi => by simp [Rep.zero] at hi⟩

set_option maxHeartbeats 2000000 in
set_option maxRecDepth 100000 in
theorem walk_ReplyForms (q : Req) (Ao As Ap : Option Addr) (lo ls lp co cs cp : Nat) (a1 : Option Addr) (l1 c1 : Nat) (x1 : List Int) (w : World) (h : Asked w w.heap.size q Ao As Ap lo ls lp) (hi : (Lit.int .i64 q.c).wf = true ∧ (Lit.int .i64 q.a).wf = true ∧ (Lit.int .i64 q.n).wf = true)
    (w1 : Row .u8 w w.heap.size a1 x1) (n1 : x1.length = l1) (s1 : l1 ≤ c1) (m1 : c1 ≤ 140737488351232) :
    Calls Tryz.prog 10 #[.agg #[.int .i64 q.c, .int .i64 q.a, .int .i64 q.n, .slice Ao lo co, .slice As ls cs, .slice Ap lp cp], .slice a1 l1 c1] w fun e w' => e = .returned (.bool true) ∧ Below w.heap.size w w' := by
  have bx := Bx.new w (.cells #[.int .i64 q.c, .int .i64 q.a, .int .i64 q.n, .slice Ao lo co, .slice As ls cs, .slice Ap lp cp] 26)
  have H := Lib.hid (h.upAlloc (.cells #[.int .i64 q.c, .int .i64 q.a, .int .i64 q.n, .slice Ao lo co, .slice As ls cs, .slice Ap lp cp] 26))
  have HW := Lib.hid w1
  have HN := Lib.hid n1
  have h3 : q.fl.length % 3 = 0 := by have := h.lp; omega
  have hwf := w1.1
  clear h hi w1 n1
  by_cases hlong : 70000 < lo ∨ 70000 < ls ∨ 70000 < lp
  · have hlong' := Lib.hid hlong
    clear hlong
    go_enter Tryz.func10, Tryz.ntmps10
    go_wp2_with fail
    refine (LongAsk_yes q.c q.a q.n Ao As Ap lo co ls cs lp cp _ hlong'.out).mono ?_
    rintro e w1 ⟨rfl, b1⟩
    have bel1 := (bx.below b1).2
    go_wp2_with fail
    refine (works_yes _).mono ?_
    rintro e w2 ⟨rfl, b2⟩
    go_wp2
    go_ret
    exact ⟨rfl, bel1.trans (b2.mono bel1.size)⟩
  have hlo : lo ≤ 70000 := by omega
  have hls : ls ≤ 70000 := by omega
  have hlp : lp ≤ 70000 := by omega
  clear hlong
  by_cases hmore : 70000 < l1
  · have hm2 : (70000 : Int) < (l1 : Int) := by omega
    go_enter Tryz.func10, Tryz.ntmps10
    go_wp2_with fail
    refine (LongAsk_no q.c q.a q.n Ao As Ap lo co ls cs lp cp _ hlo hls hlp).mono ?_
    rintro e w1 ⟨rfl, b1⟩
    have bel1 := (bx.below b1).2
    go_wp2_with fail
    refine (works_yes _).mono ?_
    rintro e w2 ⟨rfl, b2⟩
    go_wp2
    go_ret
    exact ⟨rfl, bel1.trans (b2.mono bel1.size)⟩
  have hm2 : ¬ (70000 : Int) < (l1 : Int) := by omega
  have hRW := getR_wf (q := q) hwf
  have hRZ := getR_zero (q := q) (ys := x1)
  have hRB := putR_getR (q := q) hwf h3
  have hRL := getR_len (q := q) (ys := x1)
  go_enter Tryz.func10, Tryz.ntmps10
  go_wp2_with fail
  refine (LongAsk_no q.c q.a q.n Ao As Ap lo co ls cs lp cp _ hlo hls hlp).mono ?_
  rintro e w1 ⟨rfl, b1⟩
  have bx1 := bx.below b1
  have H1 := Lib.hid (H.out.up b1)
  clear bx b1 H
  obtain ⟨d0, d1, d2, d3, d4, d5⟩ := bx1.six
  have HG := Lib.hid (rpGet_any q Ao As Ap lo ls lp co cs cp a1 l1 c1 x1 w1 H1.out ((HW.out.below bx1.2).more (Nat.le_of_lt bx1.lt)) HN.out s1 (by omega))
  obtain ⟨R, hR⟩ : ∃ R, Hid (getR q x1 = R) := ⟨_, Lib.hid rfl⟩
  obtain ⟨E, hE⟩ : ∃ E, Hid (getRE q x1 = E) := ⟨_, Lib.hid rfl⟩
  rw [hR.out, hE.out] at HG
  rw [hR.out] at hRW
  rw [hR.out, hE.out] at hRZ hRB hRL
  have HRW := Lib.hid hRW
  clear hRW
  go_wp2_with fail
  clear d0 d1 d2 d3 d4 d5
  refine HG.out.mono ?_
  rintro e w2 ⟨Bo, Bs, Bf, mo, ms, mf, eo, es, ef, rfl, rk, b2⟩
  have bx2 := bx1.below b2
  have bA := bel_alloc w2 (.cells #[.int .i64 R.x, .slice Bo mo eo, .slice Bs ms es, .slice Bf mf ef] 29)
  have bx3 := bx2.below bA
  have H3 := Lib.hid ((H1.out.up b2).up bA)
  have RD := Lib.hid ((rk.repd HRW.out.1 HRW.out.2).up bA)
  have hbox := Lib.hid (heap_alloc_new w2 (.cells #[.int .i64 R.x, .slice Bo mo eo, .slice Bs ms es, .slice Bf mf ef] 29))
  clear HG rk b2 bA H1 bx1 bx2
  by_cases hE0 : E = 0
  · subst hE0
    obtain ⟨hk0, hput⟩ := hRB rfl
    have HK0 := Lib.hid hk0
    have HPUT := Lib.hid hput
    have HRL := Lib.hid (hRL rfl)
    clear hRZ hRB hRL hk0 hput
    obtain ⟨w3, hw3⟩ : ∃ w3, w2.alloc (.cells #[.int .i64 R.x, .slice Bo mo eo, .slice Bs ms es, .slice Bf mf ef] 29) = w3 := ⟨_, rfl⟩
    obtain ⟨g3, hg3⟩ : ∃ g, w2.heap.size = g := ⟨_, rfl⟩
    rw [hw3] at bx3 H3 RD hbox
    rw [hg3] at hbox
    obtain ⟨d0, d1, d2, d3, d4, d5⟩ := bx3.six
    obtain ⟨y0, y1, y2, y3⟩ := cells4 hbox.out
    have HP := Lib.hid (rpPutK_any q R Ao As Ap Bo Bs Bf lo ls lp co cs cp mo ms mf eo es ef w3 H3.out RD.out (by omega))
    rw [HK0.out, HPUT.out] at HP
    go_wp2_with fail
    clear d0 d1 d2 d3 d4 d5 y0 y1 y2 y3
    refine HP.out.mono ?_
    rintro e w4 ⟨v4, rfl, own4, b4⟩
    obtain ⟨A4, n4, c4, rfl, row4, l4⟩ := own4.own.view3 hwf
    have bx4 := bx3.below b4
    have H4 := Lib.hid (H3.out.up b4)
    have RD4 := Lib.hid (RD.out.up b4)
    have R4 := Lib.hid row4
    have HL4 := Lib.hid l4
    have hbox4 := Lib.hid ((b4.block g3 (block_lt hbox.out)).trans hbox.out)
    obtain ⟨d0, d1, d2, d3, d4, d5⟩ := bx4.six
    obtain ⟨y0, y1, y2, y3⟩ := cells4 hbox4.out
    have HC := Lib.hid (rpCheck_any q R Ao As Ap Bo Bs Bf lo ls lp co cs cp mo ms mf eo es ef w4 H4.out RD4.out (by omega))
    rw [HK0.out] at HC
    clear bx3 b4 H3 RD own4 row4 l4 hbox HP hw3 hg3
    go_wp2_with fail
    clear d0 d1 d2 d3 d4 d5 y0 y1 y2 y3
    refine HC.out.mono ?_
    rintro e w5 ⟨rfl, b5⟩
    have bx5 := bx4.below b5
    have R5 := Lib.hid ((R4.out.below b5).more b5.size)
    have RX := Lib.hid ((HW.out.below bx5.2).more (Nat.le_of_lt bx5.lt))
    have hn : n4 = l1 := HL4.out.symm.trans HN.out
    subst hn
    clear bx4 b5 R4 RD4 HC H4
    go_wp2_with fail
    refine (same_yes_u8 A4 a1 n4 c4 c1 x1 w5 _ _ R5.out RX.out HL4.out (by omega)).mono ?_
    rintro e w6 ⟨rfl, m6, rfl⟩
    have bel6 := below_drewN bx5.2 m6
    go_wp2_with fail
    refine (works_yes _).mono ?_
    rintro e w7 ⟨rfl, b7⟩
    go_wp2
    go_ret
    exact ⟨rfl, Below.trans (bel6.mono (Nat.le_of_eq rfl)) (b7.mono (by have := bx5.lt; show w.heap.size ≤ w5.heap.size; omega))⟩
  · have hz : R = Rep.zero := hRZ hE0
    subst hz
    obtain rfl : mo = 0 := RD.out.mo.symm
    obtain rfl : ms = 0 := RD.out.ms.symm
    obtain rfl : mf = 0 := RD.out.mf.symm
    have u1 : (E != 0) = true := by simpa using hE0
    have u2 : (E == 0) = false := beq_false_of_ne hE0
    clear hRZ hRB hRL hE0
    go_wp2_with fail
    refine (SameReply_yes 0 [] [] [] Bo Bs Bf none none none 0 0 0 eo es ef 0 0 0 _ (L.Row.nil _ _ _ _) (Row.nil _ _ _ _) (L.Row.nil _ _ _ _) (Row.nil _ _ _ _) (FRow.nil _ _ _) (FRow.nil _ _ _) rfl rfl rfl (by omega) (by omega) (by omega) (fun i hi => by omega)).mono ?_
    rintro e w4 ⟨rfl, b4⟩
    have bel4 := (bx3.below b4).2
    have hz4 := (bx3.below b4).lt
    go_wp2_with fail
    refine (works_yes _).mono ?_
    rintro e w5 ⟨rfl, b5⟩
    go_wp2
    go_ret
    exact ⟨rfl, (bel4.mono (Nat.le_refl _)).trans (b5.mono (by omega))⟩
end Go.Proofs.YtobhllcnljggiaaGreat
namespace Go.Proofs.YtobhllcnljggiaaGreat
open Go.RowKit
set_option linter.unusedVariables false

def pick (k : Int) (n : Nat) : Nat := (if k.tmod n < 0 then k.tmod n + n else k.tmod n).toNat
theorem pick_lt (k : Int) (n : Nat) (h : 1 ≤ n) : pick k n < n := by
  have h1 := Int.tmod_lt_of_pos k (show (0 : Int) < n by omega)
  have h2 : -(n : Int) < k.tmod n := by
    have := Int.lt_tmod_of_pos k (show (0 : Int) < n by omega)
    omega
  unfold pick
  split <;> omega
theorem pick_eq (k : Int) (n : Nat) (h : 1 ≤ n) : ((pick k n : Nat) : Int) = if k.tmod n < 0 then k.tmod n + n else k.tmod n := by
  have h2 : -(n : Int) < k.tmod n := by
    have := Int.lt_tmod_of_pos k (show (0 : Int) < n by omega)
    omega
  unfold pick
  split <;> omega
theorem Pick_any (k : Int) (n : Nat) (w : World) (h1 : 1 ≤ n) (hn : n ≤ 140737488355328) :
    Calls Tryz.prog 25 #[.int .i64 k, .int .i64 n] w fun e w' => e = .returned (.int .i64 (pick k n : Nat)) ∧ w = w' := by
  have hp := pick_eq k n h1
  have hlt := Int.tmod_lt_of_pos k (show (0 : Int) < n by omega)
  have hgt : -(n : Int) < k.tmod n := by
    have := Int.lt_tmod_of_pos k (show (0 : Int) < n by omega)
    omega
  obtain ⟨p, hpp⟩ : ∃ p : Int, Hid (((pick k n : Nat) : Int) = p) := ⟨_, Lib.hid rfl⟩
  rw [hpp.out] at hp ⊢
  have HP := Lib.hid hp
  have t1 : ¬ ((n : Int) < 1) := by omega
  clear hp hpp
  by_cases hneg : k.tmod n < 0
  · have hq : Hid (p = k.tmod n + n) := Lib.hid (by rw [HP.out, if_pos hneg])
    go_enter Tryz.func25, Tryz.ntmps25
    go_wp2
    go_ret
    exact ⟨by rw [hq.out]; rfl, rfl⟩
  · have hq : Hid (p = k.tmod n) := Lib.hid (by rw [HP.out, if_neg hneg])
    go_enter Tryz.func25, Tryz.ntmps25
    go_wp2
    go_ret
    exact ⟨by rw [hq.out]; rfl, rfl⟩
end Go.Proofs.YtobhllcnljggiaaGreat
namespace Go.Proofs.YtobhllcnljggiaaGreat
open Go.RowKit
set_option linter.unusedVariables false

set_option maxHeartbeats 4000000 in
set_option maxRecDepth 100000 in
theorem walk_ReplyBack (q : Req) (Ao As Ap : Option Addr) (lo ls lp co cs cp : Nat) (r : Rep) (Bo Bs Bf : Option Addr) (mo ms mf eo es ef : Nat) (k y : Int) (w : World) (h : Asked w w.heap.size q Ao As Ap lo ls lp) (hi : (Lit.int .i64 q.c).wf = true ∧ (Lit.int .i64 q.a).wf = true ∧ (Lit.int .i64 q.n).wf = true) (hr : Repd w w.heap.size r Bo Bs Bf mo ms mf) (hx : (Lit.int .i64 r.x).wf = true) (sh : ∀ i, i < mf → (nthF r.fs i).length ≤ 70368744175616)
    (wk : (Lit.int .i64 k).wf = true) (wy : (Lit.int .u8 y).wf = true) :
    Calls Tryz.prog 8 #[.agg #[.int .i64 q.c, .int .i64 q.a, .int .i64 q.n, .slice Ao lo co, .slice As ls cs, .slice Ap lp cp], .agg #[.int .i64 r.x, .slice Bo mo eo, .slice Bs ms es, .slice Bf mf ef], .int .i64 k, .int .u8 y] w fun e w' => e = .returned (.bool true) ∧ Below w.heap.size w w' := by
  have t0 := TB.new2 w #[.int .i64 q.c, .int .i64 q.a, .int .i64 q.n, .slice Ao lo co, .slice As ls cs, .slice Ap lp cp] #[.int .i64 r.x, .slice Bo mo eo, .slice Bs ms es, .slice Bf mf ef] 26 29
  have H0 := Lib.hid h
  have HR0 := Lib.hid hr
  have SH := Lib.hid sh
  have WY := Lib.hid wy
  have HL := Lib.hid (long_any q r Ao As Ap Bo Bs Bf lo ls lp co cs cp mo ms mf eo es ef _ ((hr.below t0.bel).more t0.bel.size))
  clear h hi hr hx sh wk wy
  obtain ⟨v, hv⟩ : ∃ v, Hid ((longA lo ls lp || longR mo ms mf r.fs) = v) := ⟨_, Lib.hid rfl⟩
  rw [hv.out] at HL
  obtain ⟨d0, d1, d2, d3, _⟩ := t0.c4
  obtain ⟨r0, r1, r2, r3, r4, r5, _⟩ := t0.r6
  cases v with
  | true =>
    go_enter Tryz.func8, Tryz.ntmps8
    go_wp2_with fail
    refine HL.out.mono ?_
    rintro e w1 ⟨rfl, b1⟩
    have bel1 := (t0.below b1).bel
    go_wp2_with fail
    refine (works_yes _).mono ?_
    rintro e w2 ⟨rfl, b2⟩
    go_wp2
    go_ret
    exact ⟨rfl, bel1.trans (b2.mono bel1.size)⟩
  | false =>
    have hv2 := hv.out
    rw [Bool.or_eq_false_iff] at hv2
    have ha := of_decide_eq_false hv2.1
    have hb := of_decide_eq_false hv2.2
    have hlo : lo ≤ 70000 := by omega
    have hls : ls ≤ 70000 := by omega
    have hlp : lp ≤ 70000 := by omega
    have hmo : mo ≤ 70000 := by omega
    have hms : ms ≤ 70000 := by omega
    have hmf : mf ≤ 1000 := by omega
    clear hv2 ha hb hv
    go_enter Tryz.func8, Tryz.ntmps8
    go_wp2_with fail
    refine HL.out.mono ?_
    rintro e w1 ⟨rfl, b1⟩
    have t1 := t0.below b1
    have hz1 := t1.lt
    clear t0 b1 HL d0 d1 d2 d3 r0 r1 r2 r3 r4 r5
    obtain ⟨d0, d1, d2, d3, _⟩ := t1.c4
    obtain ⟨r0, r1, r2, r3, r4, r5, _⟩ := t1.r6
    have HP := Lib.hid (rpPutK_any q r Ao As Ap Bo Bs Bf lo ls lp co cs cp mo ms mf eo es ef w1 ((H0.out.below t1.bel).more t1.bel.size) ((HR0.out.below t1.bel).more t1.bel.size) (by omega))
    obtain ⟨E, hE⟩ : ∃ E, Hid (chkR q r = E) := ⟨_, Lib.hid rfl⟩
    rw [hE.out] at HP
    go_wp2_with fail
    clear d0 d1 d2 d3 r0 r1 r2 r3 r4 r5
    refine HP.out.mono ?_
    rintro e w2 ⟨v2, rfl, k2, b2⟩
    have t2 := t1.below b2
    have hs2 := b2.size
    clear t1 b2 HP
    by_cases hE0 : E = 0
    rotate_left
    · have hz : putR q r = [] := by unfold putR; rw [if_pos (by rw [hE.out]; exact hE0)]
      rw [hz] at k2
      obtain ⟨A2, n2, c2, rfl, _, l2⟩ := k2.own.view3 (fun x hx => by cases hx)
      obtain rfl : n2 = 0 := l2.symm
      have u1 : (E != 0) = true := by simpa using hE0
      have u2 : (E == 0) = false := beq_false_of_ne hE0
      have u3 : (E == E) = true := by simp
      obtain ⟨d0, d1, d2, d3, _⟩ := t2.c4
      obtain ⟨r0, r1, r2, r3, r4, r5, _⟩ := t2.r6
      have HC := Lib.hid (rpCheck_any q r Ao As Ap Bo Bs Bf lo ls lp co cs cp mo ms mf eo es ef w2 ((H0.out.below t2.bel).more t2.bel.size) ((HR0.out.below t2.bel).more t2.bel.size) (by omega))
      rw [hE.out] at HC
      clear hE0 hz k2
      go_wp2_with fail
      clear d0 d1 d2 d3 r0 r1 r2 r3 r4 r5
      refine HC.out.mono ?_
      rintro e w3 ⟨rfl, b3⟩
      have bel3 := (t2.below b3).bel
      go_wp2_with fail
      refine (works_yes _).mono ?_
      rintro e w4 ⟨rfl, b4⟩
      go_wp2
      go_ret
      exact ⟨rfl, bel3.trans (b4.mono bel3.size)⟩
    subst hE0
    have hback := getR_putR hE.out HR0.out.set.1 HR0.out.fs.wf
    have HT := Lib.hid (fun k hk => getRE_take hE.out k hk)
    have HMO := Lib.hid (fun x => getRE_more hE.out hback.2.2.1 x)
    have HGE := Lib.hid hback.1
    have HGR := Lib.hid hback.2.1
    have hl2 := hback.2.2.1
    have hl253 := hback.2.2.2
    have HWF := Lib.hid (putR_wf q r)
    clear hback
    obtain ⟨L, hL⟩ : ∃ L, Hid (putR q r = L) := ⟨_, Lib.hid rfl⟩
    rw [hL.out] at k2 HT HMO HGE HGR hl2 hl253 HWF
    obtain ⟨A2, m, c2, rfl, row2, lm⟩ := k2.own.view3 HWF.out
    have hcc : m ≤ c2 ∧ c2 ≤ 9223372036854775807 := by
      obtain ⟨A9, c9, e9, _, h1, h2⟩ := k2.row HWF.out
      injection e9 with e1 e2 e3
      simp only [maxLen] at h2
      omega
    have R2 := Lib.hid row2
    have LM := Lib.hid lm
    have K2 := Lib.hid k2
    rw [lm] at hl2 hl253
    clear row2 lm k2
    obtain ⟨d0, d1, d2, d3, _⟩ := t2.c4
    obtain ⟨r0, r1, r2, r3, r4, r5, _⟩ := t2.r6
    have HG := Lib.hid (rpGet_any q Ao As Ap lo ls lp co cs cp A2 m c2 L w2 ((H0.out.below t2.bel).more t2.bel.size) R2.out LM.out hcc.1 hcc.2)
    rw [HGE.out, HGR.out] at HG
    go_wp2_with fail
    clear d0 d1 d2 d3 r0 r1 r2 r3 r4 r5
    refine HG.out.mono ?_
    rintro e w3 ⟨Co, Cs, Cf, no, ns, nf, ko, ks, kf, rfl, rk, b3⟩
    have bA := bel_alloc w3 (.cells #[.int .i64 r.x, .slice Co no ko, .slice Cs ns ks, .slice Cf nf kf] 29)
    have t3 := (t2.below b3).below bA
    have hs3 := Nat.le_trans b3.size bA.size
    have RD := Lib.hid ((rk.repd HR0.out.set.1 HR0.out.fs.wf).up bA)
    have K3 := Lib.hid ((K2.out.below b3 (Nat.le_refl _)).below bA (Nat.le_refl _))
    have hbox := Lib.hid (heap_alloc_new w3 (.cells #[.int .i64 r.x, .slice Co no ko, .slice Cs ns ks, .slice Cf nf kf] 29))
    obtain rfl : mo = no := HR0.out.mo.symm.trans RD.out.mo
    obtain rfl : ms = ns := HR0.out.ms.symm.trans RD.out.ms
    obtain rfl : mf = nf := HR0.out.mf.symm.trans RD.out.mf
    clear HG rk b3 bA K2 t2 R2
    obtain ⟨w4, hw4⟩ : ∃ w4, w3.alloc (.cells #[.int .i64 r.x, .slice Co mo ko, .slice Cs ms ks, .slice Cf mf kf] 29) = w4 := ⟨_, rfl⟩
    obtain ⟨g3, hg3⟩ : ∃ g, w3.heap.size = g := ⟨_, rfl⟩
    rw [hw4] at t3 RD hbox K3 hs3
    rw [hg3] at hbox
    obtain ⟨y0, y1, y2, y3⟩ := cells4 hbox.out
    obtain ⟨d0, d1, d2, d3, _⟩ := t3.c4
    have hrr := Lib.hid ((HR0.out.below t3.bel).more t3.bel.size)
    have i2 : ¬ ((m : Int) < 2) := by omega
    have i3 : ¬ (253 < (m : Int)) := by omega
    go_wp2_with fail
    clear d0 d1 d2 d3 y0 y1 y2 y3
    refine (SameReply_yes r.x r.on r.set r.fs Co Cs Cf Bo Bs Bf mo ms mf ko ks kf eo es ef w4 RD.out.on RD.out.set hrr.out.on hrr.out.set RD.out.fs hrr.out.fs RD.out.mo RD.out.ms RD.out.mf (by omega) (by omega) (by omega) (fun i hi => by have := SH.out i hi; omega)).mono ?_
    rintro e w5 ⟨rfl, b5⟩
    have t5 := t3.below b5
    have hs5 := b5.size
    have K5 := Lib.hid (K3.out.below b5 (Nat.le_refl _))
    clear t3 RD K3 hbox b5 hrr hw4 hg3
    obtain ⟨A9, n9, c9, e9, row5, _⟩ := K5.out.own.view3 HWF.out
    injection e9 with e1 e2 e3
    subst e1 e2 e3
    have R5 := Lib.hid row5
    clear row5
    have hpk := pick_lt k m (by omega)
    have HPC := Lib.hid (fun W => Pick_any k m W (by omega) (by omega))
    obtain ⟨j, hj⟩ : ∃ j, Hid (pick k m = j) := ⟨_, Lib.hid rfl⟩
    rw [hj.out] at hpk HPC
    have hjm : j ≤ m := by omega
    have hjc : (j : Int) ≤ (c2 : Int) := by omega
    have hj0 : (0 : Int) ≤ (j : Int) := by omega
    have HTJ : Hid (getRE q (L.take j) = 1) := Lib.hid (HT.out j (by rw [LM.out]; exact hpk))
    have HTR : Hid (getR q (L.take j) = Rep.zero) := Lib.hid (getR_zero (by rw [HTJ.out]; simp))
    have HTL : Hid ((L.take j).length = j) := Lib.hid (by rw [List.length_take, LM.out]; omega)
    obtain ⟨x5, x6, x7, x8, x9, x10, _⟩ := t5.r6
    go_wp2_with fail
    clear x5 x6 x7 x8 x9 x10
    go_region_held3 (fun w' => TB w w.heap.size (.cells #[.int .i64 q.c, .int .i64 q.a, .int .i64 q.n, .slice Ao lo co, .slice As ls cs, .slice Ap lp cp] 26 (0, 0)) (.cells #[.int .i64 r.x, .slice Bo mo eo, .slice Bs ms es, .slice Bf mf ef] 29 (0, 0)) w' ∧ w'.cell? ⟨w.heap.size, 0, none⟩ = some (.int .i64 q.c) ∧ w'.cell? ⟨w.heap.size, 1, none⟩ = some (.int .i64 q.a) ∧ w'.cell? ⟨w.heap.size, 2, none⟩ = some (.int .i64 q.n) ∧ w'.cell? ⟨w.heap.size, 3, none⟩ = some (.slice Ao lo co) ∧ w'.cell? ⟨w.heap.size, 4, none⟩ = some (.slice As ls cs) ∧ w'.cell? ⟨w.heap.size, 5, none⟩ = some (.slice Ap lp cp))
      ((first
        | exact ⟨t5.drew, t5.drew.r6.1, t5.drew.r6.2.1, t5.drew.r6.2.2.1, t5.drew.r6.2.2.2.1, t5.drew.r6.2.2.2.2.1, t5.drew.r6.2.2.2.2.2.1⟩
        | exact ⟨t6, t6.r6.1, t6.r6.2.1, t6.r6.2.2.1, t6.r6.2.2.2.1, t6.r6.2.2.2.2.1, t6.r6.2.2.2.2.2.1⟩))
      (first
        | (go_at_call 25; refine (HPC.out _).mono ?_; rintro e w' ⟨rfl, rfl⟩)
        | (go_at_call 12; refine (rpGet_any q Ao As Ap lo ls lp co cs cp A2 j c2 (L.take j) w5.drew ((H0.out.below t5.drew.bel).more t5.drew.bel.size) ((R5.out.front j).below (below_drew (Below.refl _ _))) HTL.out (by omega) hcc.2).mono ?_; rw [HTJ.out, HTR.out]; rintro e w6 ⟨Do, Ds, Df, po, ps, pf, ho, hs, hf, rfl, rk, b6⟩; have hs6 : w5.heap.size ≤ w6.heap.size := b6.size; have t6 := t5.drew.below b6; have K6 := Lib.hid ((K5.out.drewN 1).below b6 (Nat.le_refl _)); clear rk b6))
    have zz := t6.lt
    go_wp2_with fail
    have HMY : Hid (getRE q (L ++ [y]) = 2) := Lib.hid (HMO.out y)
    have HMZ : Hid (getR q (L ++ [y]) = Rep.zero) := Lib.hid (getR_zero (by rw [HMY.out]; simp))
    have HLEN : Hid ((L ++ [y]).length = m + 1) := Lib.hid (by rw [List.length_append, LM.out]; rfl)
    have HW7 : Hid (∀ x ∈ L ++ [y], (Lit.int .u8 x).wf = true) := Lib.hid (wf_append HWF.out (by simpa using WY.out))
    have hLm : L.length = m := LM.out
    have HLm := Lib.hid hLm
    clear hLm
    go_region_held3 (fun w' => TB w w.heap.size (.cells #[.int .i64 q.c, .int .i64 q.a, .int .i64 q.n, .slice Ao lo co, .slice As ls cs, .slice Ap lp cp] 26 (0, 0)) (.cells #[.int .i64 r.x, .slice Bo mo eo, .slice Bs ms es, .slice Bf mf ef] 29 (0, 0)) w' ∧ w'.cell? ⟨w.heap.size, 0, none⟩ = some (.int .i64 q.c) ∧ w'.cell? ⟨w.heap.size, 1, none⟩ = some (.int .i64 q.a) ∧ w'.cell? ⟨w.heap.size, 2, none⟩ = some (.int .i64 q.n) ∧ w'.cell? ⟨w.heap.size, 3, none⟩ = some (.slice Ao lo co) ∧ w'.cell? ⟨w.heap.size, 4, none⟩ = some (.slice As ls cs) ∧ w'.cell? ⟨w.heap.size, 5, none⟩ = some (.slice Ap lp cp))
      ((first
        | exact ⟨t6.drew, t6.drew.r6.1, t6.drew.r6.2.1, t6.drew.r6.2.2.1, t6.drew.r6.2.2.2.1, t6.drew.r6.2.2.2.2.1, t6.drew.r6.2.2.2.2.2.1⟩
        | exact ⟨(t6.alloc (.cells #[.int .u8 y] 5)).drew, (t6.alloc (.cells #[.int .u8 y] 5)).drew.r6.1, (t6.alloc (.cells #[.int .u8 y] 5)).drew.r6.2.1, (t6.alloc (.cells #[.int .u8 y] 5)).drew.r6.2.2.1, (t6.alloc (.cells #[.int .u8 y] 5)).drew.r6.2.2.2.1, (t6.alloc (.cells #[.int .u8 y] 5)).drew.r6.2.2.2.2.1, (t6.alloc (.cells #[.int .u8 y] 5)).drew.r6.2.2.2.2.2.1⟩
        | exact ⟨t7, t7.r6.1, t7.r6.2.1, t7.r6.2.2.1, t7.r6.2.2.2.1, t7.r6.2.2.2.2.1, t7.r6.2.2.2.2.2.1⟩
        | exact ⟨t8, t8.r6.1, t8.r6.2.1, t8.r6.2.2.1, t8.r6.2.2.2.1, t8.r6.2.2.2.2.1, t8.r6.2.2.2.2.2.1⟩))
      (first
        | (refine step_append_row ((w6.alloc (.cells #[.int .u8 y] 5)).drew) rfl _ _ 34 rfl w1.heap.size .u8 5 1 Tryz.underlying34 info_u8 (.slice A2 m c2) L rfl (K6.out.own.alloc _) (w6.heap.size + 1) (some ⟨w6.heap.size, 0, none⟩) 1 1 [y] rfl (Row.one .u8 w6 5 y WY.out) rfl (by rw [HLm.out]; omega) (by rw [HLm.out]; simp only [maxLen]; omega) (by simp; omega) ?_
           intro v7 w7 own7 g7
           have t7 := (t6.alloc (.cells #[.int .u8 y] 5)).drew.grown g7 (fun g hg => by have := (K6.out.own.block g hg).1; omega))
        | (go_at_call 12; obtain ⟨A7, c7, rfl, row7, hle7, hmx7⟩ := own7.row HW7.out; rw [HLEN.out] at hle7 ⊢; have hmx8 : c7 ≤ 9223372036854775807 := (by simp only [maxLen] at hmx7; omega); refine (rpGet_any q Ao As Ap lo ls lp co cs cp A7 (m + 1) c7 (L ++ [y]) w7 ((H0.out.below t7.bel).more t7.bel.size) row7 HLEN.out hle7 hmx8).mono ?_; rw [HMY.out, HMZ.out]; rintro e w8 ⟨Eo, Es, Ef, uo, us, uf, zo, zs, zf, rfl, rk8, b8⟩; have t8 := t7.below b8; clear rk8 b8))
    go_wp2_with fail
    refine (works_yes _).mono ?_
    rintro e w9 ⟨rfl, b9⟩
    go_wp2
    go_ret
    exact ⟨rfl, t8.bel.trans (b9.mono t8.bel.size)⟩
end Go.Proofs.YtobhllcnljggiaaGreat
namespace Go.Proofs.YtobhllcnljggiaaGreat
open Go.RowKit
set_option linter.unusedVariables false

/-- What lies below B, and what lies from z on, is as it was. -/
def Inn (B z : Nat) (w w' : World) : Prop := Below B w w' ∧ w'.heap.size = w.heap.size ∧ ∀ j, z ≤ j → w'.heap[j]? = w.heap[j]?
theorem Inn.refl (B z : Nat) (w : World) : Inn B z w w := ⟨Below.refl _ _, rfl, fun _ _ => rfl⟩
theorem Inn.trans {B z : Nat} {a b c : World} (h : Inn B z a b) (k : Inn B z b c) : Inn B z a c := ⟨h.1.trans k.1, k.2.1.trans h.2.1, fun j hj => (k.2.2 j hj).trans (h.2.2 j hj)⟩
theorem Inn.block {B z : Nat} {w w' : World} {row : Option Nat} (hg : w.grownBy w' row) (hs : w'.heap.size = w.heap.size) (hr : ∀ k, row = some k → B ≤ k ∧ k < z) (hB : B ≤ w.heap.size) : Inn B z w w' := by
  refine ⟨(Below.refl B w).grown hg hB (fun k e => (hr k e).1), hs, fun j hj => ?_⟩
  by_cases h : j < w.heap.size
  · exact hg.block j h (fun e => by have := (hr j e.symm).2; omega)
  · rw [Array.getElem?_eq_none (by omega), Array.getElem?_eq_none (by omega)]
/-- Lists of bits, of words, of lists of words, in blocks between B and z. -/
def BitS (w : World) (B z : Nat) (A : Option Addr) (n c : Nat) : Prop := (A = none ∧ n = 0 ∧ c = 0) ∨ ∃ g l, A = some ⟨g, 0, none⟩ ∧ c = n ∧ (B ≤ g ∧ g < z) ∧ l.length = n ∧ n ≤ 70368744177664 ∧ L.Bk w g l
def WordS (w : World) (B z : Nat) (A : Option Addr) (n c : Nat) : Prop := (A = none ∧ n = 0 ∧ c = 0) ∨ ∃ g l, A = some ⟨g, 0, none⟩ ∧ c = n ∧ (B ≤ g ∧ g < z) ∧ l.length = n ∧ n ≤ 70368744177664 ∧ W.Bk w g l
def FileS (w : World) (B z : Nat) (A : Option Addr) (n c : Nat) : Prop := (A = none ∧ n = 0 ∧ c = 0) ∨
  ∃ (g : Nat) (L : List Value), A = some ⟨g, 0, none⟩ ∧ c = n ∧ (B ≤ g ∧ g < z) ∧ L.length = n ∧ w.heap[g]? = some (.cells L.toArray 23 (0, 0)) ∧ ∀ i, i < n → ∃ gi l, L[i]? = some (.slice (some ⟨gi, 0, none⟩) l.length l.length) ∧ (B ≤ gi ∧ gi < z) ∧ l.length ≤ 70368744177664 ∧ W.Bk w gi l
section
variable {w w' : World} {B z n c : Nat} {A : Option Addr}
theorem BitS.keep (h : BitS w B z A n c) (hk : ∀ j, B ≤ j → j < z → w'.heap[j]? = w.heap[j]?) : BitS w' B z A n c := by
  rcases h with h | ⟨g, l, h1, h2, h3, h4, h5, h6⟩
  · exact .inl h
  · exact .inr ⟨g, l, h1, h2, h3, h4, h5, (hk g h3.1 h3.2).trans h6⟩
theorem WordS.keep (h : WordS w B z A n c) (hk : ∀ j, B ≤ j → j < z → w'.heap[j]? = w.heap[j]?) : WordS w' B z A n c := by
  rcases h with h | ⟨g, l, h1, h2, h3, h4, h5, h6⟩
  · exact .inl h
  · exact .inr ⟨g, l, h1, h2, h3, h4, h5, (hk g h3.1 h3.2).trans h6⟩
theorem FileS.keep (h : FileS w B z A n c) (hk : ∀ j, B ≤ j → j < z → w'.heap[j]? = w.heap[j]?) : FileS w' B z A n c := by
  rcases h with h | ⟨g, L, h1, h2, h3, h4, h5, h6⟩
  · exact .inl h
  · refine .inr ⟨g, L, h1, h2, h3, h4, (hk g h3.1 h3.2).trans h5, fun i hi => ?_⟩
    obtain ⟨gi, l, g1, g2, g3, g4⟩ := h6 i hi
    exact ⟨gi, l, g1, g2, g3, (hk gi g2.1 g2.2).trans g4⟩
theorem other_type {w w' : World} {g gi : Nat} {cs cs' : Array Value} {t t' : TypeId} {f f' : Nat × Nat} (h : w.heap[gi]? = some (.cells cs t f)) (h' : w.heap[g]? = some (.cells cs' t' f')) (hne : t ≠ t') (hg : w.grownBy w' (some g)) : w'.heap[gi]? = w.heap[gi]? :=
  hg.block gi (block_lt h) (by have := blocks_ne h h' hne; simpa using this)
/-- A block of bits is written over. -/
theorem WordS.spoilB (h : WordS w B z A n c) {g : Nat} {cs : Array Value} (h1 : w.heap[g]? = some (.cells cs 4 (0, 0))) (hg : w.grownBy w' (some g)) : WordS w' B z A n c := by
  rcases h with h | ⟨g', l, a1, a2, a3, a4, a5, a6⟩
  · exact .inl h
  · exact .inr ⟨g', l, a1, a2, a3, a4, a5, (other_type a6 h1 (by decide) hg).trans a6⟩
theorem FileS.spoilB (h : FileS w B z A n c) {g : Nat} {cs : Array Value} (h1 : w.heap[g]? = some (.cells cs 4 (0, 0))) (hg : w.grownBy w' (some g)) : FileS w' B z A n c := by
  rcases h with h | ⟨g', L, a1, a2, a3, a4, a5, a6⟩
  · exact .inl h
  · refine .inr ⟨g', L, a1, a2, a3, a4, (other_type a5 h1 (by decide) hg).trans a5, fun i hi => ?_⟩
    obtain ⟨gi, l, g1, g2, g3, g4⟩ := a6 i hi
    exact ⟨gi, l, g1, g2, g3, (other_type g4 h1 (by decide) hg).trans g4⟩
/-- A block of words is written over. -/
theorem FileS.spoilW (h : FileS w B z A n c) {g : Nat} {l0 l1 : List Int} (h1 : W.Bk w g l0) (h2 : W.Bk w' g l1) (hl : l1.length = l0.length) (hg : w.grownBy w' (some g)) : FileS w' B z A n c := by
  rcases h with h | ⟨g', L, a1, a2, a3, a4, a5, a6⟩
  · exact .inl h
  · refine .inr ⟨g', L, a1, a2, a3, a4, (other_type a5 h1 (by decide) hg).trans a5, fun i hi => ?_⟩
    obtain ⟨gi, l, g1, g2, g3, g4⟩ := a6 i hi
    by_cases e : gi = g
    · subst e
      have g4' : w.heap[gi]? = some (.cells (blk .u16 l) 32 (0, 0)) := g4
      have h1' : w.heap[gi]? = some (.cells (blk .u16 l0) 32 (0, 0)) := h1
      rw [h1'] at g4'
      injection g4' with g4'
      injection g4' with e1 e2
      have e3 : l.length = l1.length := by
        have := congrArg Array.size e1
        rw [blk_size, blk_size] at this
        omega
      exact ⟨gi, l1, by rw [← e3]; exact g1, g2, by omega, h2⟩
    · exact ⟨gi, l, g1, g2, g3, (hg.block gi (block_lt g4) (by simpa using e)).trans g4⟩
theorem spoil_bits (h : BitS w B z A n c) (hB : B ≤ w.heap.size) :
    Calls Tryz.prog 61 #[.slice A n c] w fun e w' => e = .returned (.tuple #[]) ∧ Inn B z w w' ∧ ((w' = w) ∨ ∃ g cs, w.heap[g]? = some (.cells cs 4 (0, 0)) ∧ w.grownBy w' (some g)) := by
  rcases h with ⟨rfl, rfl, rfl⟩ | ⟨g, l, rfl, rfl, h3, h4, h5, h6⟩
  · refine (L.spoil_nil w).mono ?_
    rintro e w' ⟨rfl, rfl⟩
    exact ⟨rfl, Inn.refl _ _ _, .inl rfl⟩
  · refine (L.spoil_bool g c c l [] w (by rw [List.append_nil]; exact h6) h4 (Nat.le_refl _) (by omega)).mono ?_
    rintro e w' ⟨rfl, _, h1, h2⟩
    exact ⟨rfl, Inn.block h1 h2 (fun k e => by injection e with e; omega) hB, .inr ⟨g, _, h6, h1⟩⟩
theorem spoil_words (h : WordS w B z A n c) (hB : B ≤ w.heap.size) :
    Calls Tryz.prog 62 #[.slice A n c] w fun e w' => e = .returned (.tuple #[]) ∧ Inn B z w w' ∧ ((w' = w) ∨ ∃ g l0 l1, W.Bk w g l0 ∧ W.Bk w' g l1 ∧ l1.length = l0.length ∧ w.grownBy w' (some g)) := by
  rcases h with ⟨rfl, rfl, rfl⟩ | ⟨g, l, rfl, rfl, h3, h4, h5, h6⟩
  · refine (W.spoil_nil w).mono ?_
    rintro e w' ⟨rfl, rfl⟩
    exact ⟨rfl, Inn.refl _ _ _, .inl rfl⟩
  · refine (W.spoil_u16 g c c l [] w (by rw [List.append_nil]; exact h6) h4 (Nat.le_refl _) (by omega)).mono ?_
    rintro e w' ⟨rfl, h0, h1, h2⟩
    rw [List.append_nil] at h0
    exact ⟨rfl, Inn.block h1 h2 (fun k e => by injection e with e; omega) hB, .inr ⟨g, l, _, h6, h0, W.spoil16_length _ _, h1⟩⟩
end
/-- The lists of an answer that a call has made. -/
structure SpK (w : World) (B z : Nat) (Bo Bs Bf : Option Addr) (mo ms mf eo es ef : Nat) : Prop where
  on : BitS w B z Bo mo eo
  set : WordS w B z Bs ms es
  fs : FileS w B z Bf mf ef
theorem SpK.keep {w w' : World} {B z : Nat} {Bo Bs Bf : Option Addr} {mo ms mf eo es ef : Nat} (h : SpK w B z Bo Bs Bf mo ms mf eo es ef) (hk : ∀ j, B ≤ j → j < z → w'.heap[j]? = w.heap[j]?) : SpK w' B z Bo Bs Bf mo ms mf eo es ef :=
  ⟨h.on.keep hk, h.set.keep hk, h.fs.keep hk⟩
theorem RepK.spk {w : World} {base : Nat} {r : Rep} {Bo Bs Bf : Option Addr} {mo ms mf eo es ef : Nat} (h : RepK w base r Bo Bs Bf mo ms mf eo es ef) (l1 : r.on.length ≤ 100000) (l2 : r.set.length ≤ 100000) (l3 : ∀ i, i < r.fs.length → (nthF r.fs i).length ≤ 100000) : SpK w base w.heap.size Bo Bs Bf mo ms mf eo es ef := by
  refine ⟨?_, ?_, ?_⟩
  · rcases h.on with ⟨a, b, c, _⟩ | ⟨g, a, b, c, d, e⟩
    · exact .inl ⟨a, b, c⟩
    · exact .inr ⟨g, _, a, b, ⟨c, block_lt e⟩, d, by omega, e⟩
  · rcases h.set with ⟨a, b, c, _⟩ | ⟨g, a, b, c, d, e⟩
    · exact .inl ⟨a, b, c⟩
    · exact .inr ⟨g, _, a, b, ⟨c, block_lt e⟩, d, by omega, e⟩
  · rcases h.fs with ⟨a, b, c, _⟩ | ⟨g, L, a, b, c, d, e, f, k⟩
    · exact .inl ⟨a, b, c⟩
    · refine .inr ⟨g, L, a, b, ⟨c, block_lt f⟩, e, f, fun i hi => ?_⟩
      obtain ⟨gi, g1, g2, g3⟩ := k i hi
      exact ⟨gi, _, g1, ⟨g2, block_lt g3⟩, by have := l3 i (by omega); omega, g3⟩

set_option maxHeartbeats 2000000 in
set_option maxRecDepth 100000 in
theorem SpoilReply_any (x : Int) (B z : Nat) (Bo Bs Bf : Option Addr) (mo ms mf eo es ef : Nat) (w : World) (h : SpK w B z Bo Bs Bf mo ms mf eo es ef) (hB : B ≤ z) (hz : z ≤ w.heap.size) (hmf : mf ≤ 1000000) :
    Calls Tryz.prog 30 #[.agg #[.int .i64 x, .slice Bo mo eo, .slice Bs ms es, .slice Bf mf ef]] w fun e w' => e = .returned (.tuple #[]) ∧ Below B w w' ∧ ∀ j, z ≤ j → j < w.heap.size → w'.heap[j]? = w.heap[j]? := by
  have bA := bel_alloc w (.cells #[.int .i64 x, .slice Bo mo eo, .slice Bs ms es, .slice Bf mf ef] 29)
  have SK := Lib.hid (h.keep (w' := w.alloc (.cells #[.int .i64 x, .slice Bo mo eo, .slice Bs ms es, .slice Bf mf ef] 29)) (fun j _ hj => bA.block j (by omega)))
  have hbox := heap_alloc_new w (.cells #[.int .i64 x, .slice Bo mo eo, .slice Bs ms es, .slice Bf mf ef] 29)
  have hsz : (w.alloc (.cells #[.int .i64 x, .slice Bo mo eo, .slice Bs ms es, .slice Bf mf ef] 29)).heap.size = w.heap.size + 1 := by simp
  have B0 := Lib.hid bA
  clear h bA
  obtain ⟨y0, y1, y2, y3⟩ := cells4 hbox
  have HBX := Lib.hid hbox
  clear hbox
  go_enter Tryz.func30, Tryz.ntmps30
  go_wp2_with fail
  clear y0 y1 y2 y3
  generalize w.alloc (.cells #[.int .i64 x, .slice Bo mo eo, .slice Bs ms es, .slice Bf mf ef] 29) = w1 at *
  refine (spoil_bits SK.out.on (by omega)).mono ?_
  rintro e w2 ⟨rfl, inn2, hc2⟩
  have hs2 := inn2.2.1
  have HBX2 := Lib.hid ((inn2.2.2 w.heap.size hz).trans HBX.out)
  have S2 : Hid (WordS w2 B z Bs ms es ∧ FileS w2 B z Bf mf ef) := Lib.hid (by
    rcases hc2 with h | ⟨g, cs, g1, g2⟩
    · rw [h]; exact ⟨SK.out.set, SK.out.fs⟩
    · exact ⟨SK.out.set.spoilB g1 g2, SK.out.fs.spoilB g1 g2⟩)
  have I2 := Lib.hid inn2
  clear inn2 hc2 SK HBX
  obtain ⟨y0, y1, y2, y3⟩ := cells4 HBX2.out
  go_wp2_with fail
  clear y0 y1 y2 y3
  refine (spoil_words S2.out.1 (by omega)).mono ?_
  rintro e w3 ⟨rfl, inn3, hc3⟩
  have hs3 := inn3.2.1
  have HBX3 := Lib.hid ((inn3.2.2 w.heap.size hz).trans HBX2.out)
  have S3 : Hid (FileS w3 B z Bf mf ef) := Lib.hid (by
    rcases hc3 with h | ⟨g, l0, l1, g1, g2, g3, g4⟩
    · rw [h]; exact S2.out.2
    · exact S2.out.2.spoilW g1 g2 g3 g4)
  have I3 := Lib.hid (I2.out.trans inn3)
  clear inn3 hc3 S2 HBX2 I2
  obtain ⟨y0, y1, y2, y3⟩ := cells4 HBX3.out
  go_wp2
  clear y0 y1 y2 y3
  go_loopw [2] (fun i wr => ∃ k : Nat, k ≤ mf ∧ i = .int .i64 k ∧ Hid (FileS wr B z Bf mf ef) ∧ Hid (Inn B z w1 wr) ∧ Hid (wr.heap[w.heap.size]? = some (.cells #[.int .i64 x, .slice Bo mo eo, .slice Bs ms es, .slice Bf mf ef] 29 (0, 0)))) (fun i _ => mf - (intOf i).toNat)
  case atStart => exact ⟨0, by omega, rfl, S3, I3, HBX3⟩
  case round =>
    clear S3 I3 HBX3
    obtain ⟨k, hk, rfl, S, I, hb⟩ := hrel
    obtain ⟨y0, y1, y2, y3⟩ := cells4 hb.out
    by_cases hlt : k < mf
    · have hkl : (k : Int) < (mf : Int) := by omega
      rcases S.out with ⟨_, h0, _⟩ | ⟨g, L, a1, a2, a3, a4, a5, a6⟩
      · omega
      · obtain ⟨gi, l, g1, g2, g3, g4⟩ := a6 k hlt
        have hc1 : wr.cell? ⟨g, k, none⟩ = some (.slice (some ⟨gi, 0, none⟩) l.length l.length) := by
          rw [cell_of_row wr g k _ _ _ a5]; simpa using g1
        have hsw := I.out.2.1
        have HWS := Lib.hid (spoil_words (w := wr) (B := B) (z := z) (A := some ⟨gi, 0, none⟩) (n := l.length) (c := l.length) (.inr ⟨gi, l, rfl, rfl, g2, rfl, g3, g4⟩) (by omega))
        subst a1
        obtain rfl : mf = ef := a2.symm
        generalize l.length = q at *
        clear a3 a4 a5 a6 g1 g2 g3 g4
        go_wp2_with fail
        clear y0 y1 y2 y3 hc1
        refine HWS.out.mono ?_
        rintro e w8 ⟨rfl, inn8, hc8⟩
        have S8 : Hid (FileS w8 B z (some ⟨g, 0, none⟩) mf mf) := Lib.hid (by
          rcases hc8 with h | ⟨g, l0, l1, g1, g2, g3, g4⟩
          · rw [h]; exact S.out
          · exact S.out.spoilW g1 g2 g3 g4)
        have I8 := Lib.hid (I.out.trans inn8)
        have hb8 := Lib.hid ((inn8.2.2 w.heap.size hz).trans hb.out)
        go_wp2
        go_roundw
        case rel => exact ⟨k + 1, by omega, by go_num, S8, I8, hb8⟩
        case measure => simp [intOf]; omega
    · obtain rfl : k = mf := by omega
      go_wp2
      go_end0
      exact ⟨rfl, (B0.out.mono (by omega)).trans I.out.1, fun j h1 h2 => (I.out.2.2 j h1).trans (B0.out.block j h2)⟩
end Go.Proofs.YtobhllcnljggiaaGreat
namespace Go.Proofs.YtobhllcnljggiaaGreat
open Go.RowKit
set_option linter.unusedVariables false

set_option maxHeartbeats 1000000 in
theorem refLen_bits (c a : Int) (n : Nat) (Ao As Ap : Option Addr) (lo co ls cs lp cp : Nat) (w : World) (hc : c = 1 ∨ c = 2) (hn : n ≤ 10000) :
    Calls Tryz.prog 59 #[.agg #[.int .i64 c, .int .i64 a, .int .i64 n, .slice Ao lo co, .slice As ls cs, .slice Ap lp cp]] w fun e w' => e = .returned (.int .i64 ((2 + need n : Nat) : Int)) ∧ Below w.heap.size w w' := by
  have bx := Bx.new w (.cells #[.int .i64 c, .int .i64 a, .int .i64 n, .slice Ao lo co, .slice As ls cs, .slice Ap lp cp] 26)
  have kB : Hid (clB c = true) := Lib.hid (decide_eq_true hc)
  have e6 : IntKind.i64.wrap (2 + ((need n : Nat) : Int)) = 2 + ((need n : Nat) : Int) := IntWalk.i64_in _ (by unfold need; omega)
  rw [show ((2 + need n : Nat) : Int) = 2 + ((need n : Nat) : Int) by omega]
  obtain ⟨d0, d1, d2, d3, d4, d5⟩ := bx.six
  go_enter Tryz.func59, Tryz.ntmps59
  go_wp2_with fail
  refine (refKindBits_any c a n Ao As Ap lo co ls cs lp cp _).mono ?_
  rintro e w1 ⟨rfl, b⟩
  rw [kB.out]
  have bx := bx.below b
  clear b d0 d1 d2 d3 d4 d5
  obtain ⟨d0, d1, d2, d3, d4, d5⟩ := bx.six
  go_wp2_with fail
  refine (refNeed_any n _ (by omega)).mono ?_
  rintro e w9 ⟨rfl, rfl⟩
  go_wp2
  go_ret
  exact ⟨rfl, bx.2⟩
set_option maxHeartbeats 1000000 in
theorem refLen_words (c a : Int) (n : Nat) (Ao As Ap : Option Addr) (lo co ls cs lp cp : Nat) (w : World) (hc : c = 3 ∨ c = 4) (hn : n ≤ 10000) :
    Calls Tryz.prog 59 #[.agg #[.int .i64 c, .int .i64 a, .int .i64 n, .slice Ao lo co, .slice As ls cs, .slice Ap lp cp]] w fun e w' => e = .returned (.int .i64 ((2 + 2 * n : Nat) : Int)) ∧ Below w.heap.size w w' := by
  have bx := Bx.new w (.cells #[.int .i64 c, .int .i64 a, .int .i64 n, .slice Ao lo co, .slice As ls cs, .slice Ap lp cp] 26)
  have kB : Hid (clB c = false) := Lib.hid (decide_eq_false (by omega))
  have kW : Hid (clW c = true) := Lib.hid (decide_eq_true hc)
  have e1 : IntKind.i64.wrap (2 * (n : Int)) = 2 * (n : Int) := IntWalk.i64_in _ (by omega)
  have e2 : IntKind.i64.wrap (2 + 2 * (n : Int)) = 2 + 2 * (n : Int) := IntWalk.i64_in _ (by omega)
  rw [show ((2 + 2 * n : Nat) : Int) = 2 + 2 * (n : Int) by omega]
  obtain ⟨d0, d1, d2, d3, d4, d5⟩ := bx.six
  go_enter Tryz.func59, Tryz.ntmps59
  go_wp2_with fail
  refine (refKindBits_any c a n Ao As Ap lo co ls cs lp cp _).mono ?_
  rintro e w1 ⟨rfl, b⟩
  rw [kB.out]
  have bx := bx.below b
  clear b d0 d1 d2 d3 d4 d5
  obtain ⟨d0, d1, d2, d3, d4, d5⟩ := bx.six
  go_wp2_with fail
  refine (refWords_kind c a n Ao As Ap lo co ls cs lp cp _).mono ?_
  rintro e w2 ⟨rfl, b⟩
  rw [kW.out]
  have bx := bx.below b
  clear b d0 d1 d2 d3 d4 d5
  obtain ⟨d0, d1, d2, d3, d4, d5⟩ := bx.six
  go_wp2
  go_ret
  exact ⟨rfl, bx.2⟩
set_option maxHeartbeats 1000000 in
theorem refLen_else (c a n : Int) (Ao As Ap : Option Addr) (lo co ls cs lp cp : Nat) (w : World) (h1 : ¬ (c = 1 ∨ c = 2)) (h2 : ¬ (c = 3 ∨ c = 4)) (h3 : c ≠ 20) :
    Calls Tryz.prog 59 #[.agg #[.int .i64 c, .int .i64 a, .int .i64 n, .slice Ao lo co, .slice As ls cs, .slice Ap lp cp]] w fun e w' => e = .returned (.int .i64 5) ∧ Below w.heap.size w w' := by
  have bx := Bx.new w (.cells #[.int .i64 c, .int .i64 a, .int .i64 n, .slice Ao lo co, .slice As ls cs, .slice Ap lp cp] 26)
  have kB : Hid (clB c = false) := Lib.hid (decide_eq_false h1)
  have kW : Hid (clW c = false) := Lib.hid (decide_eq_false h2)
  have kF : Hid (clF c = false) := Lib.hid (decide_eq_false h3)
  obtain ⟨d0, d1, d2, d3, d4, d5⟩ := bx.six
  go_enter Tryz.func59, Tryz.ntmps59
  go_wp2_with fail
  refine (refKindBits_any c a n Ao As Ap lo co ls cs lp cp _).mono ?_
  rintro e w1 ⟨rfl, b⟩
  rw [kB.out]
  have bx := bx.below b
  clear b d0 d1 d2 d3 d4 d5
  obtain ⟨d0, d1, d2, d3, d4, d5⟩ := bx.six
  go_wp2_with fail
  refine (refWords_kind c a n Ao As Ap lo co ls cs lp cp _).mono ?_
  rintro e w2 ⟨rfl, b⟩
  rw [kW.out]
  have bx := bx.below b
  clear b d0 d1 d2 d3 d4 d5
  obtain ⟨d0, d1, d2, d3, d4, d5⟩ := bx.six
  go_wp2_with fail
  refine (refFiles_kind c a n Ao As Ap lo co ls cs lp cp _).mono ?_
  rintro e w3 ⟨rfl, b⟩
  rw [kF.out]
  have bx := bx.below b
  clear b d0 d1 d2 d3 d4 d5
  obtain ⟨d0, d1, d2, d3, d4, d5⟩ := bx.six
  go_wp2
  go_ret
  exact ⟨rfl, bx.2⟩
set_option maxHeartbeats 1000000 in
theorem refLen_file (a n : Int) (fl : List Int) (Ao As Ap : Option Addr) (lo co ls cs lp cp : Nat) (w : World) (hp : Row .i64 w w.heap.size Ap fl) (hl : fl.length = 3 * lp) (h1 : ∀ i, i < lp → 1 ≤ nth fl (3 * i + 2)) (hb : posF fl lp ≤ 247) (hlp : lp ≤ 100) :
    Calls Tryz.prog 59 #[.agg #[.int .i64 20, .int .i64 a, .int .i64 n, .slice Ao lo co, .slice As ls cs, .slice Ap lp cp]] w fun e w' => e = .returned (.int .i64 ((posF fl lp : Nat) : Int)) ∧ Below w.heap.size w w' := by
  have bx := Bx.new w (.cells #[.int .i64 20, .int .i64 a, .int .i64 n, .slice Ao lo co, .slice As ls cs, .slice Ap lp cp] 26)
  have kB : Hid (clB 20 = false) := Lib.hid (by decide)
  have kW : Hid (clW 20 = false) := Lib.hid (by decide)
  have kF : Hid (clF 20 = true) := Lib.hid (by decide)
  have HL := Lib.hid hl
  have HP := Lib.hid hp
  have H1 := Lib.hid h1
  have HB := Lib.hid hb
  clear hl hp h1 hb
  obtain ⟨d0, d1, d2, d3, d4, d5⟩ := bx.six
  go_enter Tryz.func59, Tryz.ntmps59
  go_wp2_with fail
  refine (refKindBits_any 20 a n Ao As Ap lo co ls cs lp cp _).mono ?_
  rintro e w1 ⟨rfl, b⟩
  rw [kB.out]
  have bx := bx.below b
  clear b d0 d1 d2 d3 d4 d5
  obtain ⟨d0, d1, d2, d3, d4, d5⟩ := bx.six
  go_wp2_with fail
  refine (refWords_kind 20 a n Ao As Ap lo co ls cs lp cp _).mono ?_
  rintro e w2 ⟨rfl, b⟩
  rw [kW.out]
  have bx := bx.below b
  clear b d0 d1 d2 d3 d4 d5
  obtain ⟨d0, d1, d2, d3, d4, d5⟩ := bx.six
  go_wp2_with fail
  refine (refFiles_kind 20 a n Ao As Ap lo co ls cs lp cp _).mono ?_
  rintro e w3 ⟨rfl, b⟩
  rw [kF.out]
  have bx := bx.below b
  clear b d0 d1 d2 d3 d4 d5
  obtain ⟨d0, d1, d2, d3, d4, d5⟩ := bx.six
  go_wp2
  go_loopw [3, 4] (fun v i wr => ∃ k : Nat, k ≤ lp ∧ i = .int .i64 k ∧ v = .int .i64 ((posF fl k : Nat) : Int) ∧ wr = w3) (fun _ i _ => lp - (intOf i).toNat)
  case atStart => exact ⟨0, by omega, rfl, rfl, rfl⟩
  case round =>
    obtain ⟨k, hk, rfl, rfl, rfl⟩ := hrel
    by_cases hlt : k < lp
    · obtain ⟨b, o, rfl, hb1, hc1, hc2, hc3⟩ := (HP.out.below bx.2).three (k := k) (by have := HL.out; omega)
      have hpl := posF_lt fl hlt
      have hbb := HB.out
      have hnn := H1.out k hlt
      have HS : Hid (posF fl (k + 1) = posF fl k + (2 + 2 * lenF fl k)) := Lib.hid rfl
      have e0 : nth fl (3 * k + 2) = ((lenF fl k : Nat) : Int) := by rw [lenF]; omega
      rw [e0] at hc3
      clear e0 hnn hc1 hc2
      generalize lenF fl k = p at *
      generalize posF fl k = s at *
      have hs : s + (2 + 2 * p) ≤ 247 := by omega
      have e1 : IntKind.i64.wrap (2 * (p : Int)) = 2 * (p : Int) := IntWalk.i64_in _ (by omega)
      have e2 : IntKind.i64.wrap ((s : Int) + 2) = (s : Int) + 2 := IntWalk.i64_in _ (by omega)
      have e3 : IntKind.i64.wrap ((s : Int) + 2 + 2 * (p : Int)) = (s : Int) + 2 + 2 * (p : Int) := IntWalk.i64_in _ (by omega)
      have e4 : (s : Int) + 2 + 2 * (p : Int) = ((s + (2 + 2 * p) : Nat) : Int) := by omega
      have HE4 := Lib.hid e4
      have hkl : (k : Int) < (lp : Int) := by omega
      clear hpl hbb e4
      go_wp2
      go_roundw
      case rel => exact ⟨k + 1, by omega, by go_num, by rw [HS.out, ← HE4.out], by trivial⟩
      case measure => simp [intOf]; omega
    · obtain rfl : k = lp := by omega
      go_wp2
      go_ret
      exact ⟨rfl, bx.2⟩
/-- The document's Length, of a right request. -/
theorem refLen_any (q : Req) (Ao As Ap : Option Addr) (lo ls lp co cs cp : Nat) (w : World) (h : Asked w w.heap.size q Ao As Ap lo ls lp) (hk : chkQ q = 0) :
    Calls Tryz.prog 59 #[.agg #[.int .i64 q.c, .int .i64 q.a, .int .i64 q.n, .slice Ao lo co, .slice As ls cs, .slice Ap lp cp]] w fun e w' => e = .returned (.int .i64 ((sizeR q : Nat) : Int)) ∧ Below w.heap.size w w' := by
  unfold sizeR
  by_cases h1 : q.c = 1 ∨ q.c = 2
  · have := right_bits hk h1
    rw [if_pos h1]
    have e : q.n = ((q.n.toNat : Nat) : Int) := by omega
    have hc := refLen_bits q.c q.a q.n.toNat Ao As Ap lo co ls cs lp cp w h1 (by omega)
    rw [← e] at hc
    exact hc
  · rw [if_neg h1]
    by_cases h2 : q.c = 3 ∨ q.c = 4
    · have := right_words hk h2
      rw [if_pos h2]
      have e : q.n = ((q.n.toNat : Nat) : Int) := by omega
      have hc := refLen_words q.c q.a q.n.toNat Ao As Ap lo co ls cs lp cp w h2 (by omega)
      rw [← e] at hc
      exact hc
    · rw [if_neg h2]
      by_cases h3 : q.c = 20
      · obtain ⟨f1, f2, f3⟩ := right_files hk h3
        have e : q.fl.length / 3 = lp := by have := h.lp; omega
        rw [if_pos h3, e]
        rw [e] at f1 f2 f3
        have hc := refLen_file q.a q.n q.fl Ao As Ap lo co ls cs lp cp w h.fl h.lp f2 f3 (by omega)
        rw [← h3] at hc
        exact hc
      · rw [if_neg h3]
        exact refLen_else q.c q.a q.n Ao As Ap lo co ls cs lp cp w h1 h2 h3
end Go.Proofs.YtobhllcnljggiaaGreat
