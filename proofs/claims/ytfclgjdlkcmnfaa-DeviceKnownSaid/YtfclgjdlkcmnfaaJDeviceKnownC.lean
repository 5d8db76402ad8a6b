/-
  Texts of the proof of DeviceKnown, joined.
-/
import Derived.Test.YtfclgjdlkcmnfaaJDeviceKnownB
import Derived.Test.YtfclgjdlkcmnfaaProg
import Derived.Test.YtfclgjdlkcmnfaaJDeviceKnownA
import Derived.Laws.AppendOwn
import Derived.Laws.Cover1
import Derived.Deep.CutRange
import Derived.Deep.RegionHeld3
namespace Go.Proofs.Ytfclgjdlkcmnfaa
open Go.RowKit
set_option linter.unusedVariables false
set_option maxRecDepth 100000

/-- The device with its first files woken. -/
def midD (d : Dv) (keep : Int) (j : Nat) : Dv := { d with fs := (d.fs.take j).map (wakeF keep) ++ d.fs.drop j }
theorem midD_zero (d : Dv) (keep : Int) : midD d keep 0 = d := by unfold midD; simp
theorem midD_all (d : Dv) (keep : Int) : midD d keep d.fs.length = { d with fs := d.fs.map (wakeF keep) } := by unfold midD; simp
theorem midD_len (d : Dv) (keep : Int) (j : Nat) (hj : j ≤ d.fs.length) : (midD d keep j).fs.length = d.fs.length := by unfold midD; simp; omega
theorem midD_get (d : Dv) (keep : Int) (j : Nat) (hj : j < d.fs.length) (h2 : j < (midD d keep j).fs.length) : (midD d keep j).fs[j] = d.fs[j] := by
  have hl : ((d.fs.take j).map (wakeF keep)).length = j := by simp; omega
  have e : (midD d keep j).fs = (d.fs.take j).map (wakeF keep) ++ d.fs.drop j := rfl
  simp only [e]
  rw [List.getElem_append_right (by omega)]
  simp only [hl, Nat.sub_self, List.getElem_drop, Nat.add_zero]
theorem midD_succ (d : Dv) (keep : Int) (j : Nat) (hj : j < d.fs.length) : midD d keep (j + 1) = { midD d keep j with fs := (midD d keep j).fs.set j (wakeF keep d.fs[j]) } := by
  have hl : ((d.fs.take j).map (wakeF keep)).length = j := by simp; omega
  unfold midD
  simp only
  rw [List.set_append_right _ _ (by omega), hl, Nat.sub_self, List.drop_eq_getElem_cons hj, List.set_cons_zero, List.take_succ_eq_append_getElem hj, List.map_append, List.append_assoc]
  rfl
/-- What Wake keeps of a file. -/
theorem wakeF_eq (keep : Int) (f : Fl) (q k : Nat) (hq : q = f.sy + k) (hk : (k : Int) ≤ max keep 0) (hn : q ≤ f.bs.length) (he : ¬ (k : Int) < keep ∨ ¬ q < f.bs.length) : wakeF keep f = { f with bs := f.bs.take q, sy := q } := by
  have : f.sy + min keep.toNat (f.bs.length - f.sy) = q := by omega
  unfold wakeF
  rw [this]

set_option maxHeartbeats 4000000 in
theorem refWake_dv (g : Nat) (fv : Value) (ms : List Fm) (d : Dv) (keep : Int) (w : World) (h : RDx w g fv ms d) (ok : Dv.Ok d) :
    Calls Try.prog 47 #[.pointer (some ⟨g, 0, none⟩), .int .i64 keep] w (RStep g fv ms (wakeD d keep) (.tuple #[]) w) := by
  obtain ⟨A0, cap, rfl, hle, hcm⟩ := h.slice
  obtain ⟨N, hN⟩ : ∃ n, d.fs.length = n := ⟨_, rfl⟩
  have HNN := Lib.hid hN
  have hln : N ≤ 64 := by have := ok.ln; omega
  have HUS : Hid (∀ f ∈ d.fs, f.bs.length ≤ 16777216) := Lib.hid (fun f hf => by have := used_mem hf; have := ok.us; have := ok.rm; omega)
  have HSY : Hid (∀ f ∈ d.fs, f.sy ≤ f.bs.length) := Lib.hid (fun f hf => (ok.fl f hf).sy)
  have hgw := block_lt h.box
  have c3 := h.c4.2.2.2.1
  have H := Lib.hid h
  rw [hN] at c3 hle
  clear h ok hN
  go_enter Try.func47, Try.ntmps47
  go_wp2_with fail
  go_loopw [4] (fun i wr => ∃ j : Nat, j ≤ N ∧ i = .int .i64 j ∧ Hid (∃ ms', RDx wr g (.slice A0 d.fs.length cap) ms' (midD d keep j) ∧ Frm (fun b => b = g ∨ (Value.slice A0 d.fs.length cap).ownBlock = some b) w wr ∧ ∀ b, RG g (.slice A0 d.fs.length cap) ms' b → RG g (.slice A0 d.fs.length cap) ms b ∨ w.heap.size ≤ b)) (fun i _ => N - (intOf i).toNat)
  case atStart => exact ⟨0, by omega, rfl, Lib.hid ⟨ms, by rw [midD_zero]; exact H.out, Frm.refl _ _, fun b hb => .inl hb⟩⟩
  case round =>
    obtain ⟨j, hj, rfl, hrel⟩ := hrel
    obtain ⟨ms', hx, hf, hrg⟩ := hrel.out
    have HF := Lib.hid hf
    have HRG := Lib.hid hrg
    have HX := Lib.hid hx
    have d3 := hx.c4.2.2.2.1
    rw [HNN.out] at d3
    have hgr := block_lt hx.box
    clear hf hrg hrel
    by_cases hlt : j < N
    · have hjd : j < d.fs.length := by rw [HNN.out]; exact hlt
      have hk2 : j < (midD d keep j).fs.length := by rw [midD_len d keep j (by omega)]; exact hjd
      have hkm : j < ms'.length := by rw [hx.len]; exact hk2
      have hIs := hx.is j hkm hk2
      rw [midD_get d keep j hjd hk2] at hIs
      obtain ⟨b, cap', e, _, hbW, _, _, g0, g1, g2, gf⟩ := hx.own.elem hkm
      injection e with eA en ec
      subst eA ec
      clear en g0
      have hbg : b ≠ g := fun e => HX.out.sepF (by rw [e]; rfl)
      have hus := HUS.out _ (List.getElem_mem hjd)
      have hsy := HSY.out _ (List.getElem_mem hjd)
      have HSU := Lib.hid (midD_succ d keep j hjd)
      obtain ⟨f, hfj⟩ : ∃ f, d.fs[j] = f := ⟨_, rfl⟩
      rw [hfj] at hIs hus hsy HSU
      obtain ⟨mk, hmk⟩ : ∃ m, ms'[j] = m := ⟨_, rfl⟩
      have HMK := Lib.hid hmk
      rw [hmk] at g1 g2 hIs
      obtain ⟨mnm, mA, mn, mc, msy⟩ := mk
      have e1 := hIs.sy
      have e2 := hIs.n
      have e3 := hIs.le
      simp only at g1 g2 e1 e2 e3
      subst e1
      rw [e2] at hus hsy
      have HIs := Lib.hid hIs
      have HMN := Lib.hid e2
      obtain ⟨S, hS⟩ : ∃ S, f.sy = S := ⟨_, rfl⟩
      have HS := Lib.hid hS
      rw [hS] at g2 hsy
      clear hmk hfj hIs e2 hS hx H c3
      go_wp2_with fail
      go_loop [5, 6] (fun u i => ∃ q k : Nat, u = .int .i64 q ∧ i = .int .i64 k ∧ q ≤ mn ∧ Hid (q = S + k ∧ (k : Int) ≤ max keep 0)) (fun _ i => mn - (intOf i).toNat)
      case atStart => exact ⟨S, 0, rfl, rfl, hsy, Lib.hid ⟨rfl, by omega⟩⟩
      case round =>
        obtain ⟨q, k, rfl, rfl, hqn, hq⟩ := hrel
        have hkn : k ≤ mn := by have := hq.out.1; omega
        by_cases hc : (k : Int) < keep ∧ q < mn
        · obtain ⟨hc1, hc2⟩ := hc
          go_wp2
          go_round
          case rel => exact ⟨q + 1, k + 1, by go_num, by go_num, by omega, Lib.hid ⟨by have := hq.out.1; omega, by omega⟩⟩
          case measure => simp [intOf]; have := hq.out.1; omega
        · have HW : Hid (wakeF keep f = { f with bs := f.bs.take q, sy := q }) := Lib.hid (wakeF_eq keep f q k (by rw [HS.out]; exact hq.out.1) hq.out.2 (by rw [HMN.out]; exact hqn) (by rw [HMN.out]; omega))
          have i1 : (0 : Int) ≤ (q : Int) := by omega
          have i2 : (q : Int) ≤ (mc : Int) := by omega
          have i3 : (0 : Int) ≤ (j : Int) := by omega
          have HROW : Hid (Row .u8 wr.drew wr.drew.heap.size mA (f.bs.take q)) := Lib.hid (HIs.out.row.front q)
          have HLQ : Hid ((f.bs.take q).length = q) := Lib.hid (by rw [List.length_take, HMN.out]; omega)
          have HWF : Hid (∀ x ∈ f.bs.take q, (Lit.int .u8 x).wf = true) := Lib.hid (fun x hx => HIs.out.row.1 x (List.mem_of_mem_take hx))
          generalize hB : f.bs.take q = bq at *
          have HBQ := Lib.hid hB
          clear hB
          have hcc : ¬ (k : Int) < keep ∨ ((k : Int) < keep ∧ ¬ q < mn) := by omega
          clear hc
          rcases hcc with hc1 | ⟨hc1, hc2⟩
          · go_wp2_with fail
            go_region_with (go_at_call 54; refine (copy_u8 mA q mc bq _ HROW.out HLQ.out (by omega)).mono ?_; rintro e w5 ⟨v5, rfl, own5, b5d⟩; have b5 : Below wr.heap.size wr w5 := ⟨b5d.os, b5d.tape, b5d.output, b5d.size, b5d.block⟩; obtain ⟨A5, q5, rfl, row5, hq51, hq52⟩ := own5.row HWF.out; rw [HLQ.out] at hq51 ⊢; have d35 := (b5.cell (p := ⟨g, 3, none⟩) hgr).trans d3; have g15 := (b5.cell (p := ⟨b, j * 3 + 1, none⟩) hbW).trans g1; have gf5 := fun j => (b5.frozen (p := ⟨b, j, none⟩) hbW).trans (gf j))
            all_goals
              have H5 := HX.out.below b5
              have hb5 : ∀ a, A5 = some a → 0 < q → wr.heap.size ≤ a.block := fun a ha hq => (own5.lt_block ha (by rw [HLQ.out]; exact hq))
              have HI5 : FmIs w5 ⟨mnm, A5, q, q5, (f.sy : Int)⟩ { f with bs := bq } := ⟨HIs.out.nm, HIs.out.sy, HLQ.out, hq51, hq52, row5⟩
              have HS5 := H5.setFile j hkm hk2 ⟨mnm, A5, q, q5, (f.sy : Int)⟩ 1 (.slice A5 q q5) (by omega) (by rw [HMK.out]; rfl) { f with bs := bq } HI5 (fun a ha hq => by have := hb5 a ha hq; exact ⟨by omega, by omega⟩)
              have f5 := (Frm.of_below (F := fun i => i = b) b5).trans (Frm.set (F := fun i => i = b) w5 b (j * 3 + 1) (.slice A5 q q5) rfl) (fun i hi => .inl hi)
              have hz6 := f5.size
              clear H5 HI5 b5 b5d own5 row5 d35 g15 gf5
              generalize w5.setCell ⟨b, j * 3 + 1, none⟩ (.slice A5 q q5) = w6 at *
              obtain ⟨d6, hd6⟩ : ∃ x : Dv, x = { midD d keep j with fs := (midD d keep j).fs.set j { f with bs := bq } } := ⟨_, rfl⟩
              rw [← hd6] at HS5
              have hk6 : j < d6.fs.length := by rw [hd6]; simp only [List.length_set]; exact hk2
              have hkm6 : j < (ms'.set j ⟨mnm, A5, q, q5, (f.sy : Int)⟩).length := by rw [List.length_set]; exact hkm
              have j3 := HS5.c4.2.2.2.1
              obtain ⟨b', cap', e, _, _, _, _, j0, j1, j2, jf⟩ := HS5.own.elem hkm6
              injection e with eA en ec
              injection eA with eA
              injection eA with eA
              subst eA ec
              simp only [List.getElem_set_self] at j0 j1 j2
              rw [HNN.out] at j3
              have HD6 := Lib.hid hd6
              clear hd6 en
              have HF6 := Lib.hid (HS5.setFile j hkm6 hk6 ⟨mnm, A5, q, q5, (q : Int)⟩ 2 (.int .i64 (q : Int)) (by omega) (by simp only [List.getElem_set_self]; rfl) { f with bs := bq, sy := q } (by
                have := HS5.is j hkm6 hk6
                have e6 : d6.fs[j] = { f with bs := bq } := by simp only [HD6.out, List.getElem_set_self]
                rw [e6] at this
                simp only [List.getElem_set_self] at this
                exact ⟨this.nm, rfl, this.n, this.le, this.cap, this.row⟩) (fun a ha hq => by have := hb5 a ha hq; exact ⟨by omega, by omega⟩))
              clear HS5
              go_wp2
              go_roundw
              case rel =>
                have e7 : ({ d6 with fs := d6.fs.set j { f with bs := bq, sy := q } } : Dv) = midD d keep (j + 1) := by
                  rw [HSU.out, HW.out, HD6.out]; simp only [List.set_set]
                have HF7 := HF6.out
                rw [e7, List.set_set] at HF7
                exact ⟨j + 1, by omega, by go_num, Lib.hid ⟨_, HF7, HF.out.trans (f5.trans (Frm.set (F := fun i => i = b) w6 b (j * 3 + 2) (.int .i64 (q : Int)) rfl) (fun i hi => .inl hi)) (fun i hi => .inl (.inr (by rw [hi]; rfl))), fun i hi => (RG_set (m' := ⟨mnm, A5, q, q5, (q : Int)⟩) (W := w.heap.size) hi (fun a ha hq => .inr (by have := hb5 a ha hq; have := HF.out.size; omega))).elim (fun e => HRG.out i e) .inr⟩⟩
              case measure => simp [intOf]; omega
          · go_wp2_with fail
            go_region_with (go_at_call 54; refine (copy_u8 mA q mc bq _ HROW.out HLQ.out (by omega)).mono ?_; rintro e w5 ⟨v5, rfl, own5, b5d⟩; have b5 : Below wr.heap.size wr w5 := ⟨b5d.os, b5d.tape, b5d.output, b5d.size, b5d.block⟩; obtain ⟨A5, q5, rfl, row5, hq51, hq52⟩ := own5.row HWF.out; rw [HLQ.out] at hq51 ⊢; have d35 := (b5.cell (p := ⟨g, 3, none⟩) hgr).trans d3; have g15 := (b5.cell (p := ⟨b, j * 3 + 1, none⟩) hbW).trans g1; have gf5 := fun j => (b5.frozen (p := ⟨b, j, none⟩) hbW).trans (gf j))
            all_goals
              have H5 := HX.out.below b5
              have hb5 : ∀ a, A5 = some a → 0 < q → wr.heap.size ≤ a.block := fun a ha hq => (own5.lt_block ha (by rw [HLQ.out]; exact hq))
              have HI5 : FmIs w5 ⟨mnm, A5, q, q5, (f.sy : Int)⟩ { f with bs := bq } := ⟨HIs.out.nm, HIs.out.sy, HLQ.out, hq51, hq52, row5⟩
              have HS5 := H5.setFile j hkm hk2 ⟨mnm, A5, q, q5, (f.sy : Int)⟩ 1 (.slice A5 q q5) (by omega) (by rw [HMK.out]; rfl) { f with bs := bq } HI5 (fun a ha hq => by have := hb5 a ha hq; exact ⟨by omega, by omega⟩)
              have f5 := (Frm.of_below (F := fun i => i = b) b5).trans (Frm.set (F := fun i => i = b) w5 b (j * 3 + 1) (.slice A5 q q5) rfl) (fun i hi => .inl hi)
              have hz6 := f5.size
              clear H5 HI5 b5 b5d own5 row5 d35 g15 gf5
              generalize w5.setCell ⟨b, j * 3 + 1, none⟩ (.slice A5 q q5) = w6 at *
              obtain ⟨d6, hd6⟩ : ∃ x : Dv, x = { midD d keep j with fs := (midD d keep j).fs.set j { f with bs := bq } } := ⟨_, rfl⟩
              rw [← hd6] at HS5
              have hk6 : j < d6.fs.length := by rw [hd6]; simp only [List.length_set]; exact hk2
              have hkm6 : j < (ms'.set j ⟨mnm, A5, q, q5, (f.sy : Int)⟩).length := by rw [List.length_set]; exact hkm
              have j3 := HS5.c4.2.2.2.1
              obtain ⟨b', cap', e, _, _, _, _, j0, j1, j2, jf⟩ := HS5.own.elem hkm6
              injection e with eA en ec
              injection eA with eA
              injection eA with eA
              subst eA ec
              simp only [List.getElem_set_self] at j0 j1 j2
              rw [HNN.out] at j3
              have HD6 := Lib.hid hd6
              clear hd6 en
              have HF6 := Lib.hid (HS5.setFile j hkm6 hk6 ⟨mnm, A5, q, q5, (q : Int)⟩ 2 (.int .i64 (q : Int)) (by omega) (by simp only [List.getElem_set_self]; rfl) { f with bs := bq, sy := q } (by
                have := HS5.is j hkm6 hk6
                have e6 : d6.fs[j] = { f with bs := bq } := by simp only [HD6.out, List.getElem_set_self]
                rw [e6] at this
                simp only [List.getElem_set_self] at this
                exact ⟨this.nm, rfl, this.n, this.le, this.cap, this.row⟩) (fun a ha hq => by have := hb5 a ha hq; exact ⟨by omega, by omega⟩))
              clear HS5
              go_wp2
              go_roundw
              case rel =>
                have e7 : ({ d6 with fs := d6.fs.set j { f with bs := bq, sy := q } } : Dv) = midD d keep (j + 1) := by
                  rw [HSU.out, HW.out, HD6.out]; simp only [List.set_set]
                have HF7 := HF6.out
                rw [e7, List.set_set] at HF7
                exact ⟨j + 1, by omega, by go_num, Lib.hid ⟨_, HF7, HF.out.trans (f5.trans (Frm.set (F := fun i => i = b) w6 b (j * 3 + 2) (.int .i64 (q : Int)) rfl) (fun i hi => .inl hi)) (fun i hi => .inl (.inr (by rw [hi]; rfl))), fun i hi => (RG_set (m' := ⟨mnm, A5, q, q5, (q : Int)⟩) (W := w.heap.size) hi (fun a ha hq => .inr (by have := hb5 a ha hq; have := HF.out.size; omega))).elim (fun e => HRG.out i e) .inr⟩⟩
              case measure => simp [intOf]; omega
    · obtain rfl : j = N := by omega
      have cf := hx.c4.2.2.2.2
      have f1 := Frm.set (F := fun b => b = g) wr g 1 (.int .i64 (-1)) rfl
      have H1 := hx.field (d' := { midD d keep j with left := -1 }) f1 (dv_box_set hx.box 1 _) rfl
      have f2 := Frm.set (F := fun b => b = g) (wr.setCell ⟨g, 1, none⟩ (.int .i64 (-1))) g 2 (.bool false) rfl
      have H2 := Lib.hid (H1.field (d' := { midD d keep j with left := -1, off := false }) f2 (dv_box_set H1.box 2 _) rfl)
      have F2 := Lib.hid ((HF.out.trans (f1.trans f2 (fun i hi => .inl hi)) (fun i hi => .inl (.inl hi))))
      obtain ⟨k0, k1, k2, k3, cf2⟩ := H1.c4
      obtain ⟨l0, l1, l2, l3, _⟩ := hx.c4
      clear l3 k3
      have HE : Hid (({ midD d keep j with left := -1, off := false } : Dv) = wakeD d keep) := Lib.hid (by rw [← HNN.out, midD_all]; rfl)
      rw [HE.out] at H2
      clear hx H1 f1 f2 H c3
      go_wp2
      go_end0
      exact ⟨rfl, _, _, H2.out, F2.out, HRG.out⟩
end Go.Proofs.Ytfclgjdlkcmnfaa
namespace Go.Proofs.Ytfclgjdlkcmnfaa
open Go.RowKit
set_option linter.unusedVariables false
/-- A list with each byte written over, up to a place. -/
def spoil8 (k : Nat) (l : List Int) : List Int := (l.take k).map (bits .xor .u8 · 90) ++ l.drop k
theorem spoil8_length (k : Nat) (l : List Int) : (spoil8 k l).length = l.length := by simp [spoil8]; omega
theorem xor90_wf (x : Int) (h : (Lit.int .u8 x).wf = true) : (Lit.int .u8 (bits .xor .u8 x 90)).wf = true := by
  have hx := wf_u8 h
  obtain ⟨n, rfl⟩ := Int.eq_ofNat_of_zero_le hx.1
  have hn : n < 256 := by omega
  have := u8_xor_nat n 90 hn (by omega)
  show (Lit.int .u8 (bits .xor .u8 (n : Int) ((90 : Nat) : Int))).wf = true
  rw [this]
  have hlt : n ^^^ 90 < 256 := Nat.xor_lt_two_pow (n := 8) hn (by omega)
  simp [Lit.wf, IntKind.min, IntKind.max, IntKind.signed, IntKind.bits]; omega
theorem spoil8_wf (k : Nat) (l : List Int) (h : ∀ x ∈ l, (Lit.int .u8 x).wf = true) : ∀ x ∈ spoil8 k l, (Lit.int .u8 x).wf = true := by
  intro x hx
  rcases List.mem_append.1 hx with hx | hx
  · obtain ⟨y, hy, rfl⟩ := List.mem_map.1 hx
    exact xor90_wf y (h y (List.mem_of_mem_take hy))
  · exact h x (List.mem_of_mem_drop hx)
theorem spoil8_at (k : Nat) (l : List Int) (hk : k < l.length) : nth (spoil8 k l) k = nth l k := by
  have hl : ((l.take k).map (bits .xor .u8 · 90)).length = k := by simp; omega
  have := nth_right ((l.take k).map (bits .xor .u8 · 90)) (l.drop k) 0
  rw [hl, Nat.add_zero] at this
  rw [spoil8, this, nth, nth, List.getD_eq_getElem?_getD, List.getD_eq_getElem?_getD, List.getElem?_drop, Nat.add_zero]
theorem spoil8_set (k : Nat) (l : List Int) (hk : k < l.length) : (spoil8 k l).set k (bits .xor .u8 (nth l k) 90) = spoil8 (k + 1) l := by
  have hl : ((l.take k).map (bits .xor .u8 · 90)).length = k := by simp; omega
  have hd := List.drop_eq_getElem_cons hk
  rw [spoil8, List.set_append_right _ _ (by omega), hl, Nat.sub_self, spoil8, take_step l k hk]
  simp
  rw [hd]
  rfl
theorem spoil8_zero (l : List Int) : spoil8 0 l = l := by simp [spoil8]

set_option maxHeartbeats 400000 in
theorem spoil_u8 (g n c : Nat) (l r : List Int) (w : World) (hg : w.heap[g]? = some (.cells (blk .u8 (l ++ r)) 5 (0, 0))) (hl : l.length = c) (hn : n ≤ c) (hc : c ≤ 140737488355328) :
    Calls Try.prog 39 #[.slice (some ⟨g, 0, none⟩) n c] w fun e w' => e = .returned (.tuple #[]) ∧ w'.heap[g]? = some (.cells (blk .u8 (spoil8 c l ++ r)) 5 (0, 0)) ∧ w.grownBy w' (some g) ∧ w'.heap.size = w.heap.size := by
  have hl' := Lib.hid hl
  clear hl
  go_enter Try.func39, Try.ntmps39
  go_wp2
  go_loopw [3] (fun i wr => ∃ k : Nat, k ≤ c ∧ i = .int .i64 k ∧ Hid (wr.heap[g]? = some (.cells (blk .u8 (spoil8 k l ++ r)) 5 (0, 0))) ∧ w.grownBy wr (some g) ∧ Hid (wr.heap.size = w.heap.size)) (fun i _ => c - (intOf i).toNat)
  case atStart => exact ⟨0, by omega, rfl, Lib.hid (by rw [spoil8_zero]; exact hg), World.grownBy.refl _ _, Lib.hid rfl⟩
  case round =>
    obtain ⟨k, hk, rfl, hb, hgr, hsz⟩ := hrel
    by_cases hlt : k < c
    · have hc1 : wr.cell? ⟨g, k, none⟩ = some (.int .u8 (nth l k)) := by
        rw [cell_of_row wr g k _ _ _ hb.out, blk_get _ _ _ (by rw [List.length_append, spoil8_length, hl'.out]; omega), nth_left _ _ _ (by rw [spoil8_length, hl'.out]; exact hlt), spoil8_at k l (by have := hl'.out; omega)]
      have hfz := block_frozen wr g k _ _ hb.out
      have hnew := Lib.hid (block_setCell wr g k .u8 5 _ (bits .xor .u8 (nth l k) 90) hb.out)
      rw [List.set_append_left _ _ (by rw [spoil8_length, hl'.out]; exact hlt), spoil8_set k l (by have := hl'.out; omega)] at hnew
      have hgr2 := grown_setCell hgr k (.int .u8 (bits .xor .u8 (nth l k) 90))
      have hsz2 : Hid ((wr.setCell ⟨g, k, none⟩ (.int .u8 (bits .xor .u8 (nth l k) 90))).heap.size = w.heap.size) := by
        show _ = _
        rw [← hsz.out]; simp [World.setCell]
      go_wp2
      go_roundw
      case rel => exact ⟨k + 1, by omega, by go_num, hnew, hgr2, hsz2⟩
      case measure => simp [intOf]; omega
    · obtain rfl : k = c := by omega
      go_wp2
      go_end0
      exact ⟨rfl, hb.out, hgr, hsz.out⟩
theorem spoil_nil (w : World) :
    Calls Try.prog 39 #[.slice none 0 0] w fun e w' => e = .returned (.tuple #[]) ∧ w = w' := by
  go_enter Try.func39, Try.ntmps39
  go_wp2
  go_loop [3] (fun i => i = .int .i64 0) (fun _ => 0)
  case atStart => rfl
  case round =>
    subst hrel
    go_wp2
    go_end0
    exact ⟨rfl, rfl⟩

end Go.Proofs.Ytfclgjdlkcmnfaa
namespace Go.Proofs.Ytfclgjdlkcmnfaa
open Go.RowKit
set_option linter.unusedVariables false

/-- The slice v is nil and xs empty, or v begins a block of the call's own, whose cells are the integers xs, and others behind them. -/
def KOwn (k : IntKind) (e : TypeId) (w : World) (base : Nat) (v : Value) (xs : List Int) : Prop :=
  (v = .slice none 0 0 ∧ xs = []) ∨
  ∃ (g n cap : Nat) (r : List Int), v = .slice (some ⟨g, 0, none⟩) n cap ∧ base ≤ g ∧ xs.length = n ∧ w.heap[g]? = some (.cells (blk k (xs ++ r)) e (0, 0)) ∧ n ≤ cap ∧ cap ≤ maxLen ∧ xs.length + r.length = cap ∧ (∀ x ∈ r, (Lit.int k x).wf = true)
theorem KOwn.nil (k : IntKind) (e : TypeId) (w : World) (base : Nat) : KOwn k e w base (.slice none 0 0) [] := .inl ⟨rfl, rfl⟩
theorem KOwn.below {k : IntKind} {e : TypeId} {w w' : World} {base B : Nat} {v : Value} {xs : List Int} (h : KOwn k e w base v xs) (hb : Below B w w') (hB : w.heap.size ≤ B) : KOwn k e w' base v xs := by
  rcases h with h | ⟨g, n, cap, r, h1, h2, h3, h4, h5⟩
  · exact .inl h
  · exact .inr ⟨g, n, cap, r, h1, h2, h3, (hb.block g (by have := block_lt h4; omega)).trans h4, h5⟩
theorem KOwn.drewN {k : IntKind} {e : TypeId} {w : World} {base : Nat} {v : Value} {xs : List Int} (h : KOwn k e w base v xs) (n : Nat) : KOwn k e (w.drewN n) base v xs := h
theorem KOwn.mono {k : IntKind} {e : TypeId} {w : World} {base base' : Nat} {v : Value} {xs : List Int} (h : KOwn k e w base v xs) (hb : base' ≤ base) : KOwn k e w base' v xs := by
  rcases h with h | ⟨g, n, cap, r, h1, h2, h3⟩
  · exact .inl h
  · exact .inr ⟨g, n, cap, r, h1, by omega, h3⟩
theorem KOwn.block {k : IntKind} {e : TypeId} {w : World} {base : Nat} {v : Value} {xs : List Int} (h : KOwn k e w base v xs) : ∀ g, v.ownBlock = some g → base ≤ g ∧ g < w.heap.size := by
  intro g hg
  rcases h with ⟨rfl, _⟩ | ⟨g', n, cap, r, rfl, h2, h3, h4, h5⟩
  · cases hg
  · injection hg with hg
    subst hg
    exact ⟨h2, block_lt h4⟩
theorem KOwn.own {k : IntKind} {e : TypeId} {w : World} {base : Nat} {v : Value} {xs : List Int} (h : KOwn k e w base v xs) : Own k e w base v xs := by
  rcases h with ⟨rfl, rfl⟩ | ⟨g, n, cap, r, rfl, h2, h3, h4, h5, h6, h7, _⟩
  · exact Own.nil _ _ _ _
  · subst h3
    refine ⟨by simp, .inr ⟨g, cap, _, rfl, h2, h4, h5, h6, by rw [blk_size, List.length_append]; omega, ?_⟩⟩
    rw [Nat.mul_one]
    simp only [blk, List.map_append]
    rw [List.take_left' (by simp)]
theorem KOwn.row {k : IntKind} {e : TypeId} {w : World} {base : Nat} {v : Value} {xs : List Int} (h : KOwn k e w base v xs) (hw : ∀ x ∈ xs, (Lit.int k x).wf = true) :
    ∃ A c, v = .slice A xs.length c ∧ Row k w w.heap.size A xs ∧ xs.length ≤ c ∧ c ≤ maxLen := h.own.row hw
theorem KOwn.kept {k : IntKind} {e : TypeId} {w w' : World} {base : Nat} {v : Value} {xs : List Int} {row : Option Nat} (h : KOwn k e w base v xs) (hg : w.grownBy w' row) (hne : v.ownBlock = none ∨ v.ownBlock ≠ row) : KOwn k e w' base v xs := by
  rcases h with h | ⟨g, n, cap, r, rfl, h2, h3, h4, h5⟩
  · exact .inl h
  · refine .inr ⟨g, n, cap, r, rfl, h2, h3, (hg.block g (block_lt h4) ?_).trans h4, h5⟩
    rcases hne with h | h
    · cases h
    · exact h

section
variable {P : Program}
theorem zero_one (k : IntKind) (m : Nat) : Builtin.zeroCells (Value.int k 0).cells m = blk k (List.replicate m 0) := by
  have h := toList_madeCells_one (Value.int k 0) m
  apply Array.toList_inj.1
  show (madeCells (Value.int k 0).cells (m * 1)).toList = _
  rw [Nat.mul_one, show (Value.int k 0).cells = #[Value.int k 0] from rfl, h]
  simp [blk]
theorem run_append_full (w : World) (t : TypeId) (k : IntKind) (e : TypeId) (bytes : Nat) (ht : P.underlying t = some (.slice e)) (hi : (P.info? e).map (fun i => (i.zero, i.size, i.bytes)) = some (some (.int k 0), 1, bytes))
    (g n : Nat) (xs : List Int) (hg : w.heap[g]? = some (.cells (blk k xs) e (0, 0))) (hn : xs.length = n) (B : Nat) (A : Option Addr) (m c : Nat) (ys : List Int) (hr : Row k w B A ys) (hm : ys.length = m) (h1 : 1 ≤ m)
    (hb : (n + m) * bytes ≤ 140737488355328) (h63 : n + m ≤ maxLen) :
    ∃ cap, (∀ ty, (Builtin.append_ #[t, t] ty #[.slice (some ⟨g, 0, none⟩) n n, .slice A m c]).run P w = .ok (.slice (some ⟨w.heap.size, 0, none⟩) (n + m) cap) (w.drew.alloc (.cells (blk k (xs ++ ys ++ List.replicate (cap - (n + m)) 0)) e))) ∧ n + m ≤ cap ∧ cap ≤ maxLen := by
  obtain ⟨i, hi1, hz, hsz, hby⟩ := info_parts hi
  have h64 := h63
  simp only [maxLen] at h64
  obtain ⟨b, o, rfl, _, hc⟩ := hr.2 (by omega)
  have holds : ∀ j u, (xs.map (Value.int k))[j]? = some u → w.cell? ((⟨g, 0, none⟩ : Addr).add j) = some u := by
    intro j u hu
    rw [Go.WideShapes.add_plain, Nat.zero_add, cell_of_row w g j _ _ _ hg]
    simpa [blk] using hu
  have hnews : ∀ j u, (ys.map (Value.int k))[j]? = some u → w.cell? ((⟨b, o, none⟩ : Addr).add j) = some u := by
    intro j u hu
    rw [List.getElem?_map] at hu
    by_cases hj : j < ys.length
    · rw [List.getElem?_eq_getElem hj] at hu
      rw [Go.WideShapes.add_plain, hc j hj, nth_eq ys j hj]
      exact hu
    · rw [List.getElem?_eq_none (by omega)] at hu
      cases hu
  have hr := fun ty => run_append_grow (P := P) w t ty e i _ ht hi1 hz ⟨g, 0, none⟩ n n (xs.map (Value.int k)) (by rw [hsz]; simp; omega) holds ⟨b, o, none⟩ m c (ys.map (Value.int k)) (by rw [hsz]; simp; omega) hnews (by omega) (by omega) (growslice_fits (by omega) (by rw [hby]; omega))
  have hge := grownCap_ge w (n + m) n e
  refine ⟨grownCap w (n + m) n e, fun ty => ?_, hge, grownCap_le_maxLen w (n + m) n e h63⟩
  rw [hr ty, zero_one]
  congr 3
  apply Array.toList_inj.1
  simp [blk]
/-- An append whose outcome is known. -/
theorem wpList_append_run {ops : Array Oper} {rest : List Oper} {o : Oper} {a : Act} {Q : Exit → Act → World → Prop} (w : World) (hgd : o.guard = none) (s x : Operand) (t : TypeId)
    (ho : o.op = .call { callee := .builtin .append, args := #[s, x], argTypes := #[t, t] }) (v u v' : Value) (w' : World) (hs : a.eval s = v) (hx : a.eval x = u)
    (hrun : ∀ ty, (Builtin.append_ #[t, t] ty #[v, u]).run P w = .ok v' w') (h : wpList P ops Q rest (a.put o.dst v') w') : wpList P ops Q (o :: rest) a w := by
  refine wpList_plain hgd fun K hK => ?_
  unfold Oper.wp
  simp [execOp, ho, resolve, invoke, builtin, hs, hx, hrun, Result.andThen]
  exact hK _ _ h
theorem step_append_run {ops : Array Oper} {o : Oper} {a : Act} {K : Act → World → Prop} {Q : Exit → Act → World → Prop} {E : Prop} (w : World) (hgd : o.guard = none) (s x : Operand) (t : TypeId)
    (ho : o.op = .call { callee := .builtin .append, args := #[s, x], argTypes := #[t, t] }) (v u v' : Value) (w' : World) (hs : a.eval s = v) (hx : a.eval x = u)
    (hrun : ∀ ty, (Builtin.append_ #[t, t] ty #[v, u]).run P w = .ok v' w') (h : K (a.put o.dst v') w') :
    if Region.wanted o (yielded ops a.tmps) = true then Oper.wp P o a w K Q else E := by
  have hw : Region.wanted o (yielded ops a.tmps) = true := by simp [Region.wanted, hgd]
  rw [if_pos hw]
  unfold Oper.wp execOp
  simp only [ho, resolve, invoke, builtin, Sem.run_bind, Sem.run_pure, Result.andThen_ok, List.map_toArray, List.map_cons, List.map_nil, hs, hx, hrun]
  exact h
end
end Go.Proofs.Ytfclgjdlkcmnfaa
namespace Go.Proofs.Ytfclgjdlkcmnfaa
open Go.RowKit
set_option linter.unusedVariables false
set_option maxRecDepth 100000

/-- The cells of texts. -/
def tblk (l : List ByteArray) : Array Value := (l.map Value.string).toArray
theorem tblk_size (l : List ByteArray) : (tblk l).size = l.length := by simp [tblk]
theorem tblk_get (l : List ByteArray) (i : Nat) (hi : i < l.length) : (tblk l)[i]? = some (.string l[i]) := by simp [tblk, hi]
theorem tblk_setCell (w : World) (g i : Nat) (t : TypeId) (l : List ByteArray) (s : ByteArray) (h : w.heap[g]? = some (.cells (tblk l) t (0, 0))) :
    (w.setCell ⟨g, i, none⟩ (.string s)).heap[g]? = some (.cells (tblk (l.set i s)) t (0, 0)) := by
  have e : (tblk l).setIfInBounds i (.string s) = tblk (l.set i s) := by simp [tblk, List.map_set]
  simp [World.setCell, Array.getElem?_modify, h, e]
/-- The slice v is nil and l empty, or v begins a block of the call's own, whose cells are the texts of l, and others behind them. -/
def TkOwn (w : World) (base : Nat) (v : Value) (l : List ByteArray) : Prop :=
  (v = .slice none 0 0 ∧ l = []) ∨
  ∃ (g n cap : Nat) (r : List ByteArray), v = .slice (some ⟨g, 0, none⟩) n cap ∧ base ≤ g ∧ l.length = n ∧ w.heap[g]? = some (.cells (tblk (l ++ r)) 9 (0, 0)) ∧ n ≤ cap ∧ cap ≤ maxLen ∧ l.length + r.length = cap ∧ ∀ s ∈ r, s.size ≤ 1000
theorem TkOwn.nil (w : World) (base : Nat) : TkOwn w base (.slice none 0 0) [] := .inl ⟨rfl, rfl⟩
theorem TkOwn.below {w w' : World} {base B : Nat} {v : Value} {l : List ByteArray} (h : TkOwn w base v l) (hb : Below B w w') (hB : w.heap.size ≤ B) : TkOwn w' base v l := by
  rcases h with h | ⟨g, n, cap, r, h1, h2, h3, h4, h5⟩
  · exact .inl h
  · exact .inr ⟨g, n, cap, r, h1, h2, h3, (hb.block g (by have := block_lt h4; omega)).trans h4, h5⟩
theorem TkOwn.frm {F : Nat → Prop} {w w' : World} {base : Nat} {v : Value} {l : List ByteArray} (h : TkOwn w base v l) (hf : Frm F w w') (hn : ∀ b, v.ownBlock = some b → ¬ F b) : TkOwn w' base v l := by
  rcases h with h | ⟨g, n, cap, r, rfl, h2, h3, h4, h5⟩
  · exact .inl h
  · exact .inr ⟨g, n, cap, r, rfl, h2, h3, (hf.block g (block_lt h4) (hn g rfl)).trans h4, h5⟩
theorem TkOwn.own {w : World} {base : Nat} {v : Value} {l : List ByteArray} (h : TkOwn w base v l) : TxOwn w base v l := by
  rcases h with ⟨rfl, rfl⟩ | ⟨g, n, cap, r, rfl, h2, h3, h4, h5, h6, h7, _⟩
  · exact TxOwn.nil _ _
  · subst h3
    have ef : ∀ l : List ByteArray, flatV txC l = l.map Value.string := fun l => by
      induction l with
      | nil => rfl
      | cons a l ih => rw [flatV_cons, ih]; rfl
    refine ⟨by rw [ef]; simp, .inr ⟨g, cap, _, rfl, h2, h4, h5, h6, by rw [tblk_size, List.length_append]; omega, ?_⟩⟩
    rw [ef, Nat.mul_one]
    simp only [tblk, List.map_append]
    rw [List.take_left' (by simp)]

theorem same_yes_tx (A A' : Option Addr) (n c c' : Nat) (l : List ByteArray) (w : World) (B B' : Nat) (hr : VRow w B A (flatV txC l)) (hr' : VRow w B' A' (flatV txC l)) (hn : l.length = n) (hb : n ≤ 4611686018427387904) :
    Calls Try.prog 30 #[.slice A n c, .slice A' n c'] w fun e w' => e = .returned (.bool true) ∧ ∃ m, w' = w.drewN m := by
  have hn' := Lib.hid hn
  clear hn
  go_enter Try.func30, Try.ntmps30
  go_wp2
  go_loopw [5] (fun i wr => ∃ k : Nat, k ≤ n ∧ i = .int .i64 k ∧ Hid (∃ m, wr = w.drewN m)) (fun i _ => n - (intOf i).toNat)
  case atStart => exact ⟨0, by omega, rfl, Lib.hid ⟨0, rfl⟩⟩
  case round =>
    obtain ⟨k, hk, rfl, hdr⟩ := hrel
    have hrw : VRow wr B A (flatV txC l) := by obtain ⟨m, e⟩ := hdr.out; rw [e]; exact hr.drewN m
    have hrw' : VRow wr B' A' (flatV txC l) := by obtain ⟨m, e⟩ := hdr.out; rw [e]; exact hr'.drewN m
    by_cases hlt : k < n
    · have hkl : k < l.length := by have := hn'.out; omega
      obtain ⟨b, o, rfl, hb1, hc0⟩ := hrw.elem txC_len (by omega) hkl
      obtain ⟨b', o', rfl, hb1', hc0'⟩ := hrw'.elem txC_len (by omega) hkl
      have hc1 : wr.cell? ⟨b, o + k, none⟩ = some (.string l[k]) := by have := hc0 0 _ rfl; simpa using this
      have hc1' : wr.cell? ⟨b', o' + k, none⟩ = some (.string l[k]) := by have := hc0' 0 _ rfl; simpa using this
      clear hrw hrw' hc0 hc0'
      generalize l[k] = t at *
      have hlt' : (k : Int) < (n : Int) := by omega
      go_wp2
      go_quiet (fail)
      go_wp2
      go_roundw
      case rel => exact ⟨k + 1, by omega, by go_num, Lib.hid (by obtain ⟨m, e⟩ := hdr.out; rw [e]; exact ⟨m + nq, by rw [World.drewN_drewN]⟩)⟩
      case measure => simp [intOf]; omega
    · clear hrw hrw'
      go_wp2
      go_ret
      exact ⟨rfl, hdr.out⟩

set_option maxHeartbeats 400000 in
theorem spoil_tx (g n c : Nat) (l : List ByteArray) (w : World) (hg : w.heap[g]? = some (.cells (tblk l) 9 (0, 0))) (hl : l.length = c) (hn : n ≤ c) (hc : c ≤ 9223372036854775807) (hs : ∀ s ∈ l, s.size ≤ 1000) :
    Calls Try.prog 52 #[.slice (some ⟨g, 0, none⟩) n c] w fun e w' => e = .returned (.tuple #[]) ∧ w.grownBy w' (some g) ∧ w'.heap.size = w.heap.size := by
  have hl' := Lib.hid hl
  have HS := Lib.hid hs
  clear hl hs
  go_enter Try.func52, Try.ntmps52
  go_wp2
  go_loopw [3] (fun i wr => ∃ k : Nat, k ≤ c ∧ i = .int .i64 k ∧ Hid (∃ us : List ByteArray, wr.heap[g]? = some (.cells (tblk us) 9 (0, 0)) ∧ us.length = c ∧ ∀ j (hj : j < us.length), k ≤ j → us[j].size ≤ 1000) ∧ w.grownBy wr (some g) ∧ Hid (wr.heap.size = w.heap.size)) (fun i _ => c - (intOf i).toNat)
  case atStart => exact ⟨0, by omega, rfl, Lib.hid ⟨l, hg, hl'.out, fun j hj _ => HS.out _ (List.getElem_mem hj)⟩, World.grownBy.refl _ _, Lib.hid rfl⟩
  case round =>
    obtain ⟨k, hk, rfl, hb, hgr, hsz⟩ := hrel
    by_cases hlt : k < c
    · obtain ⟨us, hus, hul, hu⟩ := hb.out
      have hku : k < us.length := by omega
      have hc1 : wr.cell? ⟨g, k, none⟩ = some (.string us[k]) := by
        rw [cell_of_row wr g k _ _ _ hus, tblk_get us k hku]
      have hfz := block_frozen wr g k _ _ hus
      have hsi := hu k hku (Nat.le_refl _)
      have HU := Lib.hid hu
      have HUL := Lib.hid hul
      have HUS := Lib.hid hus
      obtain ⟨t, ht⟩ : ∃ t, us[k] = t := ⟨_, rfl⟩
      rw [ht] at hc1 hsi
      clear hus hul hu ht hku hb
      go_wp2
      go_roundw
      case rel =>
        have hnew := tblk_setCell wr g k 9 us (t ++ ⟨#[126]⟩) HUS.out
        refine ⟨k + 1, by omega, by go_num, Lib.hid ⟨_, hnew, by rw [List.length_set]; exact HUL.out, fun j hj h1 => ?_⟩, grown_setCell hgr k _, Lib.hid (by rw [← hsz.out]; simp [World.setCell])⟩
        rw [List.getElem_set_ne (by omega)]
        exact HU.out j (by rw [List.length_set] at hj; exact hj) (by omega)
      case measure => simp [intOf]; omega
    · obtain rfl : k = c := by omega
      go_wp2
      go_end0
      exact ⟨rfl, hgr, hsz.out⟩
theorem spoil_tx_nil (w : World) :
    Calls Try.prog 52 #[.slice none 0 0] w fun e w' => e = .returned (.tuple #[]) ∧ w = w' := by
  go_enter Try.func52, Try.ntmps52
  go_wp2
  go_loop [3] (fun i => i = .int .i64 0) (fun _ => 0)
  case atStart => rfl
  case round =>
    subst hrel
    go_wp2
    go_end0
    exact ⟨rfl, rfl⟩
set_option maxHeartbeats 400000 in
theorem spoilM_u8 (g n c : Nat) (l r : List Int) (w : World) (hg : w.heap[g]? = some (.cells (blk .u8 (l ++ r)) 5 (0, 0))) (hl : l.length = c) (hn : n ≤ c) (hc : c ≤ 9223372036854775807) :
    Calls Try.prog 39 #[.slice (some ⟨g, 0, none⟩) n c] w fun e w' => e = .returned (.tuple #[]) ∧ w'.heap[g]? = some (.cells (blk .u8 (spoil8 c l ++ r)) 5 (0, 0)) ∧ w.grownBy w' (some g) ∧ w'.heap.size = w.heap.size := by
  have hl' := Lib.hid hl
  clear hl
  go_enter Try.func39, Try.ntmps39
  go_wp2
  go_loopw [3] (fun i wr => ∃ k : Nat, k ≤ c ∧ i = .int .i64 k ∧ Hid (wr.heap[g]? = some (.cells (blk .u8 (spoil8 k l ++ r)) 5 (0, 0))) ∧ w.grownBy wr (some g) ∧ Hid (wr.heap.size = w.heap.size)) (fun i _ => c - (intOf i).toNat)
  case atStart => exact ⟨0, by omega, rfl, Lib.hid (by rw [spoil8_zero]; exact hg), World.grownBy.refl _ _, Lib.hid rfl⟩
  case round =>
    obtain ⟨k, hk, rfl, hb, hgr, hsz⟩ := hrel
    by_cases hlt : k < c
    · have hc1 : wr.cell? ⟨g, k, none⟩ = some (.int .u8 (nth l k)) := by
        rw [cell_of_row wr g k _ _ _ hb.out, blk_get _ _ _ (by rw [List.length_append, spoil8_length, hl'.out]; omega), nth_left _ _ _ (by rw [spoil8_length, hl'.out]; exact hlt), spoil8_at k l (by have := hl'.out; omega)]
      have hfz := block_frozen wr g k _ _ hb.out
      have hnew := Lib.hid (block_setCell wr g k .u8 5 _ (bits .xor .u8 (nth l k) 90) hb.out)
      rw [List.set_append_left _ _ (by rw [spoil8_length, hl'.out]; exact hlt), spoil8_set k l (by have := hl'.out; omega)] at hnew
      have hgr2 := grown_setCell hgr k (.int .u8 (bits .xor .u8 (nth l k) 90))
      have hsz2 : Hid ((wr.setCell ⟨g, k, none⟩ (.int .u8 (bits .xor .u8 (nth l k) 90))).heap.size = w.heap.size) := by
        show _ = _
        rw [← hsz.out]; simp [World.setCell]
      go_wp2
      go_roundw
      case rel => exact ⟨k + 1, by omega, by go_num, hnew, hgr2, hsz2⟩
      case measure => simp [intOf]; omega
    · obtain rfl : k = c := by omega
      go_wp2
      go_end0
      exact ⟨rfl, hb.out, hgr, hsz.out⟩
theorem spoil_tk (v : Value) (base : Nat) (l : List ByteArray) (w : World) (h : TkOwn w base v l) (hl : ∀ s ∈ l, s.size ≤ 1000) :
    Calls Try.prog 52 #[v] w fun e w' => e = .returned (.tuple #[]) ∧ w.grownBy w' v.ownBlock ∧ w'.heap.size = w.heap.size := by
  rcases h with ⟨rfl, rfl⟩ | ⟨g, n, cap, r, rfl, h2, h3, h4, h5, h6, h7, h8⟩
  · exact (spoil_tx_nil w).mono fun e w' ⟨he, hw⟩ => by subst hw; exact ⟨he, World.grownBy.refl _ _, rfl⟩
  · simp only [maxLen] at h6
    exact (spoil_tx g n cap (l ++ r) w h4 (by rw [List.length_append]; exact h7) h5 h6 (fun s hs => (List.mem_append.1 hs).elim (hl s) (h8 s))).mono fun e w' ⟨he, hg, hz⟩ => ⟨he, hg, hz⟩
theorem spoil_kown8 (v : Value) (base : Nat) (xs : List Int) (w : World) (h : KOwn .u8 5 w base v xs) :
    Calls Try.prog 39 #[v] w fun e w' => e = .returned (.tuple #[]) ∧ w.grownBy w' v.ownBlock ∧ w'.heap.size = w.heap.size := by
  rcases h with ⟨rfl, rfl⟩ | ⟨g, n, cap, r, rfl, h2, h3, h4, h5, h6, h7, h8⟩
  · exact (spoil_nil w).mono fun e w' ⟨he, hw⟩ => by subst hw; exact ⟨he, World.grownBy.refl _ _, rfl⟩
  · simp only [maxLen] at h6
    exact (spoilM_u8 g n cap (xs ++ r) [] w (by rw [List.append_nil]; exact h4) (by rw [List.length_append]; exact h7) h5 h6).mono fun e w' ⟨he, _, hg, hz⟩ => ⟨he, hg, hz⟩
end Go.Proofs.Ytfclgjdlkcmnfaa
namespace Go.Proofs.Ytfclgjdlkcmnfaa
open Go.RowKit
set_option linter.unusedVariables false
set_option maxRecDepth 100000

/-- A device in memory: its blocks, its place, what it is. -/
abbrev DevP := World → (Nat → Prop) → Nat → Dv → Prop
/-- It stays where nothing of it is written, and its blocks are there. -/
structure Dev (D : DevP) : Prop where
  frm : ∀ {F G : Nat → Prop} {w w' : World} {g : Nat} {d : Dv}, D w G g d → Frm F w w' → (∀ b, G b → ¬ F b) → D w' G g d
  lt : ∀ {G : Nat → Prop} {w : World} {g : Nat} {d : Dv}, D w G g d → ∀ b, G b → b < w.heap.size
/-- What a call makes of a device. -/
def Did (D : DevP) (G : Nat → Prop) (g : Nat) (d : Dv) (w w' : World) (G' : Nat → Prop) : Prop := D w' G' g d ∧ Frm G w w' ∧ ∀ b, G' b → G b ∨ w.heap.size ≤ b
/-- A call with a device: what it answers, what it makes of it. -/
def Stp (D : DevP) (G : Nat → Prop) (g : Nat) (d : Dv) (v : Value) (w : World) (e : Ending) (w' : World) : Prop := e = .returned v ∧ ∃ G', Did D G g d w w' G'
/-- The document's device, its blocks just G. -/
def RDe : DevP := fun w G g d => ∃ fv ms, RDx w g fv ms d ∧ ∀ b, RG g fv ms b ↔ G b
theorem rde_dev : Dev RDe :=
  ⟨fun h hf hn => by obtain ⟨fv, ms, hx, hg⟩ := h; exact ⟨fv, ms, hx.frm hf (fun b hb => hn b ((hg b).1 hb)), hg⟩, fun h b hb => by
    obtain ⟨fv, ms, hx, hg⟩ := h
    exact hx.lt b ((hg b).2 hb)⟩
theorem RStep.stp {G : Nat → Prop} {g : Nat} {fv : Value} {ms : List Fm} {d : Dv} {v : Value} {w w' : World} {e : Ending} (h : RStep g fv ms d v w e w') (hg : ∀ b, RG g fv ms b ↔ G b) : Stp RDe G g d v w e w' := by
  obtain ⟨he, fv', ms', hx, hf, hr⟩ := h
  exact ⟨he, RG g fv' ms', ⟨fv', ms', hx, fun b => Iff.rfl⟩, hf.mono (fun b hb => (hg b).1 (hb.elim .inl (fun h => .inr (.inl h)))), fun b hb => (hr b hb).elim (fun h => .inl ((hg b).1 h)) .inr⟩
theorem Stp.mono {D : DevP} {G : Nat → Prop} {g : Nat} {d : Dv} {v : Value} {w0 w : World} {e : Ending} {w' : World} (h : Stp D G g d v w e w') : Stp D G g d v w e w' := h

section
variable {G : Nat → Prop} {g : Nat} {d : Dv} {w : World}
theorem refSync_s (s : ByteArray) (h : RDe w G g d) (ok : Dv.Ok d) : Calls Try.prog 40 #[.pointer (some ⟨g, 0, none⟩), .string s] w (Stp RDe G g (syncD d s).1 (.int .i64 (syncD d s).2) w) := by
  obtain ⟨fv, ms, hx, hg⟩ := h
  exact (refSync_dv g fv ms d s w hx ok).mono fun e w' h => h.stp hg
theorem refTruncate_s (s : ByteArray) (n : Int) (h : RDe w G g d) (ok : Dv.Ok d) : Calls Try.prog 42 #[.pointer (some ⟨g, 0, none⟩), .string s, .int .i64 n] w (Stp RDe G g (truncD d s n).1 (.int .i64 (truncD d s n).2) w) := by
  obtain ⟨fv, ms, hx, hg⟩ := h
  exact (refTruncate_dv g fv ms d s n w hx ok).mono fun e w' h => h.stp hg
theorem refRename_s (s u : ByteArray) (h : RDe w G g d) (ok : Dv.Ok d) : Calls Try.prog 43 #[.pointer (some ⟨g, 0, none⟩), .string s, .string u] w (Stp RDe G g (renD d s u).1 (.int .i64 (renD d s u).2) w) := by
  obtain ⟨fv, ms, hx, hg⟩ := h
  exact (refRename_dv g fv ms d s u w hx ok).mono fun e w' h => h.stp hg
theorem refRemove_s (s : ByteArray) (h : RDe w G g d) (ok : Dv.Ok d) : Calls Try.prog 45 #[.pointer (some ⟨g, 0, none⟩), .string s] w (Stp RDe G g (remD d s).1 (.int .i64 (remD d s).2) w) := by
  obtain ⟨fv, ms, hx, hg⟩ := h
  exact (refRemove_dv g fv ms d s w hx ok).mono fun e w' h => h.stp hg
theorem refWake_s (keep : Int) (h : RDe w G g d) (ok : Dv.Ok d) : Calls Try.prog 47 #[.pointer (some ⟨g, 0, none⟩), .int .i64 keep] w (Stp RDe G g (wakeD d keep) (.tuple #[]) w) := by
  obtain ⟨fv, ms, hx, hg⟩ := h
  exact (refWake_dv g fv ms d keep w hx ok).mono fun e w' h => h.stp hg
theorem refArm_s (n : Int) (h : RDe w G g d) : Calls Try.prog 46 #[.pointer (some ⟨g, 0, none⟩), .int .i64 n] w (Stp RDe G g (armD d n) (.tuple #[]) w) := by
  obtain ⟨fv, ms, hx, hg⟩ := h
  exact (refArm_dv g fv ms d n w hx).mono fun e w' h => RStep.stp (RStep.in h.1 h.2.1 h.2.2) hg
theorem refAppend_s (s : ByteArray) (A : Option Addr) (n c : Nat) (bs : List Int) (h : RDe w G g d) (ok : Dv.Ok d) (hr : Row .u8 w w.heap.size A bs) (hbn : bs.length = n) (hb : n ≤ 100000000) (hA : ∀ a, A = some a → 0 < n → ¬ G a.block) :
    Calls Try.prog 37 #[.pointer (some ⟨g, 0, none⟩), .string s, .slice A n c] w (Stp RDe G g (appD d s bs).1 (.int .i64 (appD d s bs).2) w) := by
  obtain ⟨fv, ms, hx, hg⟩ := h
  exact (refAppend_dv g fv ms d s A n c bs w hx ok hr hbn hb (fun a ha hp e => hA a ha hp ((hg _).1 e))).mono fun e w' h => h.stp hg
end

/-- Two devices, apart, both the same. -/
structure Twin (D1 D2 : DevP) (w : World) (G1 G2 : Nat → Prop) (g1 g2 : Nat) (d : Dv) : Prop where
  one : D1 w G1 g1 d
  two : D2 w G2 g2 d
  off : ∀ b, G1 b → ¬ G2 b
/-- What a call with both makes of them. -/
def Twins (D1 D2 : DevP) (G1 G2 : Nat → Prop) (g1 g2 : Nat) (d : Dv) (w w' : World) : Prop :=
  ∃ G1' G2', Twin D1 D2 w' G1' G2' g1 g2 d ∧ Frm (fun b => G1 b ∨ G2 b) w w' ∧ ∀ b, G1' b ∨ G2' b → (G1 b ∨ G2 b) ∨ w.heap.size ≤ b
theorem Twin.frm {D1 D2 : DevP} (X1 : Dev D1) (X2 : Dev D2) {w w' : World} {G1 G2 F : Nat → Prop} {g1 g2 : Nat} {d : Dv} (h : Twin D1 D2 w G1 G2 g1 g2 d) (hf : Frm F w w') (hn : ∀ b, G1 b ∨ G2 b → ¬ F b) : Twin D1 D2 w' G1 G2 g1 g2 d :=
  ⟨X1.frm h.one hf (fun b hb => hn b (.inl hb)), X2.frm h.two hf (fun b hb => hn b (.inr hb)), h.off⟩
theorem Twin.swap {D1 D2 : DevP} {w : World} {G1 G2 : Nat → Prop} {g1 g2 : Nat} {d : Dv} (h : Twin D1 D2 w G1 G2 g1 g2 d) : Twin D2 D1 w G2 G1 g2 g1 d := ⟨h.two, h.one, fun b h1 h2 => h.off b h2 h1⟩
theorem Twins.swap {D1 D2 : DevP} {w w' : World} {G1 G2 : Nat → Prop} {g1 g2 : Nat} {d : Dv} (h : Twins D1 D2 G1 G2 g1 g2 d w w') : Twins D2 D1 G2 G1 g2 g1 d w w' := by
  obtain ⟨G1', G2', h1, h2, h3⟩ := h
  exact ⟨G2', G1', h1.swap, h2.mono (fun b hb => hb.symm), fun b hb => (h3 b hb.symm).imp .symm id⟩
/-- One step with each, the one behind the other. -/
theorem Twin.steps {D1 D2 : DevP} (X1 : Dev D1) (X2 : Dev D2) {w W1 W2 W3 W4 W5 : World} {G1 G2 G1' G2' : Nat → Prop} {g1 g2 : Nat} {d d' : Dv} (h : Twin D1 D2 w G1 G2 g1 g2 d)
    (f0 : Frm (fun _ => False) w W1) (s1 : Did D1 G1 g1 d' W1 W2 G1') (f1 : Frm (fun _ => False) W2 W3) (s2 : Did D2 G2 g2 d' W3 W4 G2') (f2 : Frm (fun _ => False) W4 W5) : Twins D1 D2 G1 G2 g1 g2 d' w W5 := by
  have l1 := X1.lt h.one
  have l2 := X2.lt h.two
  obtain ⟨a1, a2, a3⟩ := s1
  obtain ⟨b1, b2, b3⟩ := s2
  have m1 := X1.lt a1
  have z0 := f0.size
  have z1 := f1.size
  have z2 := a2.size
  have off2 : ∀ b, G1' b → ¬ G2 b := fun b hb h2 => (a3 b hb).elim (fun e => h.off b e h2) (fun e => by have := l2 b h2; omega)
  refine ⟨G1', G2', ⟨?_, ?_, fun b hb h2 => ?_⟩, ?_, fun b hb => ?_⟩
  · exact X1.frm (X1.frm (X1.frm a1 f1 (fun _ _ e => e)) b2 (fun b hb => off2 b hb)) f2 (fun _ _ e => e)
  · exact X2.frm b1 f2 (fun _ _ e => e)
  · exact (b3 b h2).elim (fun e => off2 b hb e) (fun e => by have := m1 b hb; omega)
  · refine Frm.trans (F := fun b => G1 b ∨ G2 b) ((f0.mono (fun b hb => hb.elim)).trans a2 (fun i hi => .inl (.inl hi))) (((f1.mono (F := fun _ => False) (G := G2) (fun b hb => hb.elim)).trans b2 (fun i hi => .inl hi)).trans f2 (fun i hi => hi.elim)) (fun i hi => .inl (.inr hi))
  · rcases hb with hb | hb
    · exact (a3 b hb).imp .inl (fun e => by omega)
    · exact (b3 b hb).imp .inr (fun e => by omega)
end Go.Proofs.Ytfclgjdlkcmnfaa
namespace Go.Proofs.Ytfclgjdlkcmnfaa
open Go.RowKit
set_option linter.unusedVariables false
set_option maxRecDepth 100000

/-- What long tells. -/
def LongTo (n : Nat) (l : List Opm) (w : World) (e : Ending) (w' : World) : Prop := ∃ b : Bool, e = .returned (.bool b) ∧ w = w' ∧ (b = false → n ≤ 200 ∧ ∀ j (hj : j < l.length), l[j].n ≤ 4096 ∧ l[j].nm.size ≤ 4096 ∧ l[j].tn.size ≤ 4096)
theorem long_any (A : Option Addr) (n c : Nat) (l : List Opm) (w : World) (hr : VRow w w.heap.size A (flatV opC l)) (hn : l.length = n) (hb : n ≤ 4611686018427387904) :
    Calls Try.prog 18 #[.slice A n c] w (LongTo n l w) := by
  by_cases hbig : (n : Int) > 200
  · clear hr
    go_enter Try.func18, Try.ntmps18
    go_wp2
    go_ret
    exact ⟨true, rfl, rfl, fun h => nomatch h⟩
  have HN := Lib.hid hn
  have HR := Lib.hid hr
  have hn2 : n ≤ 200 := by omega
  clear hn hr hb
  go_enter Try.func18, Try.ntmps18
  go_wp2
  go_loop [3] (fun i => ∃ k : Nat, k ≤ n ∧ i = .int .i64 k ∧ Hid (∀ j (hj : j < l.length), j < k → l[j].n ≤ 4096 ∧ l[j].nm.size ≤ 4096 ∧ l[j].tn.size ≤ 4096)) (fun i => n - (intOf i).toNat)
  case atStart => exact ⟨0, by omega, rfl, Lib.hid (fun j _ hj => absurd hj (by omega))⟩
  case round =>
    obtain ⟨k, hk, rfl, hall⟩ := hrel
    by_cases hlt : k < n
    · have hkl : k < l.length := by have := HN.out; omega
      obtain ⟨b, o, rfl, hb1, hc⟩ := HR.out.elem opC_len (by omega) hkl
      have c1 := hc 1 _ rfl
      have c2 := hc 2 _ rfl
      have c3 := hc 3 _ rfl
      have HNX : Hid (l[k].n ≤ 4096 ∧ l[k].nm.size ≤ 4096 ∧ l[k].tn.size ≤ 4096 → ∀ j (hj : j < l.length), j < k + 1 → l[j].n ≤ 4096 ∧ l[j].nm.size ≤ 4096 ∧ l[j].tn.size ≤ 4096) := Lib.hid (fun h j hj hj2 => by
        by_cases e : j = k
        · subst e; exact h
        · exact hall.out j hj (by omega))
      clear hc hb1
      generalize l[k] = t at *
      obtain ⟨ki, nm, tn, A', n', c', N', bs'⟩ := t
      simp only at c1 c2 c3
      by_cases g1 : (n' : Int) > 4096
      · go_wp2
        go_ret
        exact ⟨true, rfl, rfl, fun h => nomatch h⟩
      by_cases g2 : (nm.size : Int) > 4096
      · go_wp2
        go_ret
        exact ⟨true, rfl, rfl, fun h => nomatch h⟩
      by_cases g3 : (tn.size : Int) > 4096
      · go_wp2
        go_ret
        exact ⟨true, rfl, rfl, fun h => nomatch h⟩
      go_wp2
      go_round
      case rel => exact ⟨k + 1, by omega, by go_num, Lib.hid (HNX.out ⟨by show n' ≤ _; omega, by show nm.size ≤ _; omega, by show tn.size ≤ _; omega⟩)⟩
      case measure => simp [intOf]; omega
    · obtain rfl : k = n := by omega
      go_wp2
      go_ret
      exact ⟨false, rfl, rfl, fun _ => ⟨hn2, fun j hj => hall.out j hj (by have := HN.out; omega)⟩⟩
end Go.Proofs.Ytfclgjdlkcmnfaa
namespace Go.Proofs.Ytfclgjdlkcmnfaa
open Go.RowKit
set_option linter.unusedVariables false
set_option maxRecDepth 100000

/-- What is known of the program's device. -/
structure DevOk (D : DevP) : Prop where
  dev : Dev D
  sync : ∀ {w : World} {G : Nat → Prop} {g : Nat} {d : Dv} (s : ByteArray), D w G g d → Dv.Ok d → Calls Try.prog 26 #[.pointer (some ⟨g, 0, none⟩), .string s] w (Stp D G g (syncD d s).1 (.int .i64 (syncD d s).2) w)
  truncate : ∀ {w : World} {G : Nat → Prop} {g : Nat} {d : Dv} (s : ByteArray) (n : Int), D w G g d → Dv.Ok d → -9223372036854775808 ≤ n ∧ n < 9223372036854775808 → Calls Try.prog 41 #[.pointer (some ⟨g, 0, none⟩), .string s, .int .i64 n] w (Stp D G g (truncD d s n).1 (.int .i64 (truncD d s n).2) w)
  rename : ∀ {w : World} {G : Nat → Prop} {g : Nat} {d : Dv} (s u : ByteArray), D w G g d → Dv.Ok d → Calls Try.prog 31 #[.pointer (some ⟨g, 0, none⟩), .string s, .string u] w (Stp D G g (renD d s u).1 (.int .i64 (renD d s u).2) w)
  remove : ∀ {w : World} {G : Nat → Prop} {g : Nat} {d : Dv} (s : ByteArray), D w G g d → Dv.Ok d → Calls Try.prog 44 #[.pointer (some ⟨g, 0, none⟩), .string s] w (Stp D G g (remD d s).1 (.int .i64 (remD d s).2) w)
  append : ∀ {w : World} {G : Nat → Prop} {g : Nat} {d : Dv} (s : ByteArray) (A : Option Addr) (n c : Nat) (bs : List Int), D w G g d → Dv.Ok d → Row .u8 w w.heap.size A bs → bs.length = n → n ≤ c → c ≤ 140737488355328 → n ≤ 100000000 → (∀ a, A = some a → 0 < n → ¬ G a.block) → Calls Try.prog 25 #[.pointer (some ⟨g, 0, none⟩), .string s, .slice A n c] w (Stp D G g (appD d s bs).1 (.int .i64 (appD d s bs).2) w)
  wake : ∀ {w : World} {G : Nat → Prop} {g : Nat} {d : Dv} (keep : Int), D w G g d → Dv.Ok d → -9223372036854775808 ≤ keep ∧ keep < 9223372036854775808 → Calls Try.prog 27 #[.pointer (some ⟨g, 0, none⟩), .int .i64 keep] w (Stp D G g (wakeD d keep) (.tuple #[]) w)
  arm : ∀ {w : World} {G : Nat → Prop} {g : Nat} {d : Dv} (n : Int), D w G g d → Dv.Ok d → -9223372036854775808 ≤ n ∧ n < 9223372036854775808 → Calls Try.prog 23 #[.pointer (some ⟨g, 0, none⟩), .int .i64 n] w (Stp D G g (armD d n) (.tuple #[]) w)
  names : ∀ {w : World} {G : Nat → Prop} {g : Nat} {d : Dv}, D w G g d → Dv.Ok d → Calls Try.prog 16 #[.pointer (some ⟨g, 0, none⟩)] w fun e w' => ∃ v, e = .returned v ∧ TkOwn w' w.heap.size v (namesD d) ∧ Below w.heap.size w w'
  read : ∀ {w : World} {G : Nat → Prop} {g : Nat} {d : Dv} (s : ByteArray), D w G g d → Dv.Ok d → Calls Try.prog 13 #[.pointer (some ⟨g, 0, none⟩), .string s] w fun e w' => ∃ v, e = .returned (.tuple #[v, .int .i64 (readE d s)]) ∧ KOwn .u8 5 w' w.heap.size v (readL d s) ∧ Below w.heap.size w w'
  used : ∀ {w : World} {G : Nat → Prop} {g : Nat} {d : Dv}, D w G g d → Dv.Ok d → Calls Try.prog 15 #[.pointer (some ⟨g, 0, none⟩)] w fun e w' => e = .returned (.int .i64 (usedD d.fs : Nat)) ∧ Below w.heap.size w w'
  free : ∀ {w : World} {G : Nat → Prop} {g : Nat} {d : Dv}, D w G g d → Dv.Ok d → Calls Try.prog 14 #[.pointer (some ⟨g, 0, none⟩)] w fun e w' => e = .returned (.int .i64 ((d.room : Int) - usedD d.fs)) ∧ Below w.heap.size w w'
  down : ∀ {w : World} {G : Nat → Prop} {g : Nat} {d : Dv}, D w G g d → Dv.Ok d → Calls Try.prog 17 #[.pointer (some ⟨g, 0, none⟩)] w fun e w' => e = .returned (.bool d.off) ∧ Below w.heap.size w w'
  newNo : ∀ (r : Int) (w : World), r < 0 ∨ 16777216 < r → Calls Try.prog 10 #[.int .i64 r] w fun e w' => e = .returned (.tuple #[.pointer none, .int .i64 3]) ∧ Below w.heap.size w w'
  newYes : ∀ (r : Nat) (w : World), r ≤ 16777216 → Calls Try.prog 10 #[.int .i64 r] w fun e w' => ∃ g G, e = .returned (.tuple #[.pointer (some ⟨g, 0, none⟩), .int .i64 0]) ∧ D w' G g (newD r) ∧ Below w.heap.size w w' ∧ ∀ b, G b → w.heap.size ≤ b
theorem Frm.cell {F : Nat → Prop} {w w' : World} (h : Frm F w w') {b o : Nat} (hb : b < w.heap.size) (hn : ¬ F b) : w'.cell? ⟨b, o, none⟩ = w.cell? ⟨b, o, none⟩ := World.cell?_of_block (h.block b hb hn)

/-- What both makes. -/
def BothTo (D : DevP) (G1 G2 : Nat → Prop) (g1 g2 : Nat) (d : Dv) (w : World) (e : Ending) (w' : World) : Prop := e = .returned (.bool true) ∧ Twins D RDe G1 G2 g1 g2 d w w'

set_option maxHeartbeats 1000000 in
theorem both_sync {D : DevP} (X : DevOk D) (nm tn : ByteArray) (A : Option Addr) (n c : Nat) (N : Int) {w : World} {G1 G2 : Nat → Prop} {g1 g2 : Nat} {d : Dv} (h : Twin D RDe w G1 G2 g1 g2 d) (ok : Dv.Ok d) :
    Calls Try.prog 19 #[.pointer (some ⟨g1, 0, none⟩), .pointer (some ⟨g2, 0, none⟩), .agg #[.int .i64 1, .string nm, .string tn, .slice A n c, .int .i64 N]] w (BothTo D G1 G2 g1 g2 (syncD d nm).1 w) := by
  have hx := heap_alloc_new w (.cells #[.int .i64 1, .string nm, .string tn, .slice A n c, .int .i64 N] 46)
  have FB : Frm (fun _ => False) w (w.alloc (.cells #[.int .i64 1, .string nm, .string tn, .slice A n c, .int .i64 N] 46)) := Frm.of_below (bel_alloc w _)
  have hsz : w.heap.size < (w.alloc (.cells #[.int .i64 1, .string nm, .string tn, .slice A n c, .int .i64 N] 46)).heap.size := by simp
  have c0 := cell_of_row _ w.heap.size 0 _ _ _ hx
  have c1 := cell_of_row _ w.heap.size 1 _ _ _ hx
  have n1 : ¬ G1 w.heap.size := fun e => Nat.lt_irrefl _ (X.dev.lt h.one _ e)
  have n2 : ¬ G2 w.heap.size := fun e => Nat.lt_irrefl _ (rde_dev.lt h.two _ e)
  have l1 := X.dev.lt h.one
  have l2 := rde_dev.lt h.two
  obtain ⟨d', hd'⟩ : ∃ d', (syncD d nm).1 = d' := ⟨_, rfl⟩
  obtain ⟨E, hE⟩ : ∃ E, (syncD d nm).2 = E := ⟨_, rfl⟩
  have HP : Hid (∀ W, Frm G2 w W → Calls Try.prog 26 #[.pointer (some ⟨g1, 0, none⟩), .string nm] W (Stp D G1 g1 d' (.int .i64 E) W)) := Lib.hid (fun W hW => by
    rw [← hd', ← hE]; exact X.sync nm (X.dev.frm h.one hW (fun b hb => h.off b hb)) ok)
  have HR : Hid (∀ W, Frm G1 w W → Calls Try.prog 40 #[.pointer (some ⟨g2, 0, none⟩), .string nm] W (Stp RDe G2 g2 d' (.int .i64 E) W)) := Lib.hid (fun W hW => by
    rw [← hd', ← hE]; exact refSync_s nm (rde_dev.frm h.two hW (fun b hb h1 => h.off b h1 hb)) ok)
  rw [hd']
  have H := Lib.hid h
  have XD := Lib.hid X.dev
  clear hd' hE h ok X hx
  generalize hwb : w.alloc (.cells #[.int .i64 1, .string nm, .string tn, .slice A n c, .int .i64 N] 46) = wb at *
  go_enter Try.func19, Try.ntmps19
  have FBd : Frm (fun _ => False) w wb.drew := FB.drew
  have FB1 : Frm G1 w wb.drew := FBd.mono (fun b hb => hb.elim)
  have FB2 : Frm G2 w wb.drew := FBd.mono (fun b hb => hb.elim)
  go_wp2_with fail
  go_region_with (first
    | (go_at_call 26; refine (HP.out _ FB2).mono ?_; rintro e wp ⟨rfl, GP, SP⟩; have cP : wp.cell? ⟨w.heap.size, 1, none⟩ = some (.string nm) := (SP.2.1.cell hsz n1).trans c1; have FR : Frm G1 w wp := FB1.trans SP.2.1 (fun i hi => .inl hi))
    | (go_at_call 40; refine (HR.out _ FR).mono ?_; rintro e wr ⟨rfl, GR, SR⟩))
  all_goals
    (try go_wp2)
    go_ret
    exact ⟨rfl, H.out.steps XD.out rde_dev FBd SP (Frm.refl _ _) SR (Frm.refl _ _)⟩
set_option maxHeartbeats 1000000 in
theorem both_truncate {D : DevP} (X : DevOk D) (nm tn : ByteArray) (A : Option Addr) (n c : Nat) (N : Int) {w : World} {G1 G2 : Nat → Prop} {g1 g2 : Nat} {d : Dv} (h : Twin D RDe w G1 G2 g1 g2 d) (ok : Dv.Ok d) (hN : -9223372036854775808 ≤ N ∧ N < 9223372036854775808) :
    Calls Try.prog 19 #[.pointer (some ⟨g1, 0, none⟩), .pointer (some ⟨g2, 0, none⟩), .agg #[.int .i64 2, .string nm, .string tn, .slice A n c, .int .i64 N]] w (BothTo D G1 G2 g1 g2 (truncD d nm N).1 w) := by
  have hx := heap_alloc_new w (.cells #[.int .i64 2, .string nm, .string tn, .slice A n c, .int .i64 N] 46)
  have FB : Frm (fun _ => False) w (w.alloc (.cells #[.int .i64 2, .string nm, .string tn, .slice A n c, .int .i64 N] 46)) := Frm.of_below (bel_alloc w _)
  have hsz : w.heap.size < (w.alloc (.cells #[.int .i64 2, .string nm, .string tn, .slice A n c, .int .i64 N] 46)).heap.size := by simp
  have c0 := cell_of_row _ w.heap.size 0 _ _ _ hx
  have c1 := cell_of_row _ w.heap.size 1 _ _ _ hx
  have c4 := cell_of_row _ w.heap.size 4 _ _ _ hx
  have n1 : ¬ G1 w.heap.size := fun e => Nat.lt_irrefl _ (X.dev.lt h.one _ e)
  have n2 : ¬ G2 w.heap.size := fun e => Nat.lt_irrefl _ (rde_dev.lt h.two _ e)
  have l1 := X.dev.lt h.one
  have l2 := rde_dev.lt h.two
  obtain ⟨d', hd'⟩ : ∃ d', (truncD d nm N).1 = d' := ⟨_, rfl⟩
  obtain ⟨E, hE⟩ : ∃ E, (truncD d nm N).2 = E := ⟨_, rfl⟩
  have HP : Hid (∀ W, Frm G2 w W → Calls Try.prog 41 #[.pointer (some ⟨g1, 0, none⟩), .string nm, .int .i64 N] W (Stp D G1 g1 d' (.int .i64 E) W)) := Lib.hid (fun W hW => by
    rw [← hd', ← hE]; exact X.truncate nm N (X.dev.frm h.one hW (fun b hb => h.off b hb)) ok hN)
  have HR : Hid (∀ W, Frm G1 w W → Calls Try.prog 42 #[.pointer (some ⟨g2, 0, none⟩), .string nm, .int .i64 N] W (Stp RDe G2 g2 d' (.int .i64 E) W)) := Lib.hid (fun W hW => by
    rw [← hd', ← hE]; exact refTruncate_s nm N (rde_dev.frm h.two hW (fun b hb h1 => h.off b h1 hb)) ok)
  rw [hd']
  have H := Lib.hid h
  have XD := Lib.hid X.dev
  clear hd' hE h ok X hx hN
  generalize hwb : w.alloc (.cells #[.int .i64 2, .string nm, .string tn, .slice A n c, .int .i64 N] 46) = wb at *
  go_enter Try.func19, Try.ntmps19
  have FBd : Frm (fun _ => False) w wb.drew := FB.drew
  have FB1 : Frm G1 w wb.drew := FBd.mono (fun b hb => hb.elim)
  have FB2 : Frm G2 w wb.drew := FBd.mono (fun b hb => hb.elim)
  go_wp2_with fail
  refine wp_region_held_drew (S := (fun W => W.cell? ⟨w.heap.size, 1, none⟩ = some (.string nm) ∧ W.cell? ⟨w.heap.size, 4, none⟩ = some (.int .i64 N))) (by kernel_rfl) (⟨c1, c4⟩) (fun hHeld => ?_)
  refine wpAnyH_take (i := 0) (oi := { dst := some 51, op := Op.move (Operand.tmp 0), type := 22, pos := "law.go:56", after := #[], guard := none }) (v := ?v1) rfl (by kernel_rfl) (by kernel_rfl) (by kernel_rfl) (fun _ _ _ h => h) (Or.inl ⟨by rfl, ?hy1⟩) (by assumption) ?rest1
  case hy1 => (intro w' hSw; (try dsimp only at hSw); go_simp; try with_reducible rfl)
  simp only [Act.put, List.setIfInBounds_toArray, List.set_cons_zero, List.set_cons_succ]
  refine wpAnyH_take (i := 1) (oi := { dst := some 52, op := Op.fieldAddr 46 (Operand.tmp 5) 1, type := 0, pos := "law.go:56", after := #[], guard := none }) (v := ?v2) rfl (by kernel_rfl) (by kernel_rfl) (by kernel_rfl) (fun _ _ _ h => h) (Or.inl ⟨by rfl, ?hy2⟩) (by assumption) ?rest2
  case hy2 => (intro w' hSw; (try dsimp only at hSw); go_simp; try with_reducible rfl)
  simp only [Act.put, List.setIfInBounds_toArray, List.set_cons_zero, List.set_cons_succ]
  refine wpAnyH_take (i := 2) (oi := { dst := some 53, op := Op.load 9 (Operand.tmp 52), type := 9, pos := "law.go:56", after := #[{ on := 1, ground := Ground.data }], guard := none }) (v := ?v3) rfl (by kernel_rfl) (by kernel_rfl) (by kernel_rfl) (fun _ _ _ h => h) (Or.inl ⟨by rfl, ?hy3⟩) (by assumption) ?rest3
  case hy3 => (intro w' hSw; (try dsimp only at hSw); go_simp; try with_reducible rfl)
  simp only [Act.put, List.setIfInBounds_toArray, List.set_cons_zero, List.set_cons_succ]
  refine wpAnyH_take (i := 3) (oi := { dst := some 54, op := Op.fieldAddr 46 (Operand.tmp 5) 4, type := 0, pos := "law.go:56", after := #[], guard := none }) (v := ?v4) rfl (by kernel_rfl) (by kernel_rfl) (by kernel_rfl) (fun _ _ _ h => h) (Or.inl ⟨by rfl, ?hy4⟩) (by assumption) ?rest4
  case hy4 => (intro w' hSw; (try dsimp only at hSw); go_simp; try with_reducible rfl)
  simp only [Act.put, List.setIfInBounds_toArray, List.set_cons_zero, List.set_cons_succ]
  refine wpAnyH_take (i := 4) (oi := { dst := some 55, op := Op.load 3 (Operand.tmp 54), type := 3, pos := "law.go:56", after := #[{ on := 3, ground := Ground.data }], guard := none }) (v := ?v5) rfl (by kernel_rfl) (by kernel_rfl) (by kernel_rfl) (fun _ _ _ h => h) (Or.inl ⟨by rfl, ?hy5⟩) (by assumption) ?rest5
  case hy5 => (intro w' hSw; (try dsimp only at hSw); go_simp; try with_reducible rfl)
  simp only [Act.put, List.setIfInBounds_toArray, List.set_cons_zero, List.set_cons_succ]
  refine wpAnyH_take (i := 6) (oi := { dst := some 57, op := Op.move (Operand.tmp 1), type := 26, pos := "law.go:56", after := #[], guard := none }) (v := ?v6) rfl (by kernel_rfl) (by kernel_rfl) (by kernel_rfl) (fun _ _ _ h => h) (Or.inl ⟨by rfl, ?hy6⟩) (by assumption) ?rest6
  case hy6 => (intro w' hSw; (try dsimp only at hSw); go_simp; try with_reducible rfl)
  simp only [Act.put, List.setIfInBounds_toArray, List.set_cons_zero, List.set_cons_succ]
  refine wpAnyH_take (i := 7) (oi := { dst := some 58, op := Op.fieldAddr 46 (Operand.tmp 5) 1, type := 0, pos := "law.go:56", after := #[], guard := none }) (v := ?v7) rfl (by kernel_rfl) (by kernel_rfl) (by kernel_rfl) (fun _ _ _ h => h) (Or.inl ⟨by rfl, ?hy7⟩) (by assumption) ?rest7
  case hy7 => (intro w' hSw; (try dsimp only at hSw); go_simp; try with_reducible rfl)
  simp only [Act.put, List.setIfInBounds_toArray, List.set_cons_zero, List.set_cons_succ]
  refine wpAnyH_take (i := 8) (oi := { dst := some 59, op := Op.load 9 (Operand.tmp 58), type := 9, pos := "law.go:56", after := #[{ on := 7, ground := Ground.data }], guard := none }) (v := ?v8) rfl (by kernel_rfl) (by kernel_rfl) (by kernel_rfl) (fun _ _ _ h => h) (Or.inl ⟨by rfl, ?hy8⟩) (by assumption) ?rest8
  case hy8 => (intro w' hSw; (try dsimp only at hSw); go_simp; try with_reducible rfl)
  simp only [Act.put, List.setIfInBounds_toArray, List.set_cons_zero, List.set_cons_succ]
  refine wpAnyH_take (i := 9) (oi := { dst := some 60, op := Op.fieldAddr 46 (Operand.tmp 5) 4, type := 0, pos := "law.go:56", after := #[], guard := none }) (v := ?v9) rfl (by kernel_rfl) (by kernel_rfl) (by kernel_rfl) (fun _ _ _ h => h) (Or.inl ⟨by rfl, ?hy9⟩) (by assumption) ?rest9
  case hy9 => (intro w' hSw; (try dsimp only at hSw); go_simp; try with_reducible rfl)
  simp only [Act.put, List.setIfInBounds_toArray, List.set_cons_zero, List.set_cons_succ]
  refine wpAnyH_take (i := 10) (oi := { dst := some 61, op := Op.load 3 (Operand.tmp 60), type := 3, pos := "law.go:56", after := #[{ on := 9, ground := Ground.data }], guard := none }) (v := ?v10) rfl (by kernel_rfl) (by kernel_rfl) (by kernel_rfl) (fun _ _ _ h => h) (Or.inl ⟨by rfl, ?hy10⟩) (by assumption) ?rest10
  case hy10 => (intro w' hSw; (try dsimp only at hSw); go_simp; try with_reducible rfl)
  simp only [Act.put, List.setIfInBounds_toArray, List.set_cons_zero, List.set_cons_succ]
  refine wpAnyH_ready (rs := [5]) (by kernel_rfl) (by simp) ?_
  refine AllReadyH.cons (o := { dst := some 56, op := Op.call { callee := Callee.value (Operand.func 41), args := #[Operand.tmp 51, Operand.tmp 53, Operand.tmp 55], argTypes := #[22, 9, 3] }, type := 23, pos := "law.go:56", after := #[{ on := 0, ground := Ground.data }, { on := 2, ground := Ground.data }, { on := 4, ground := Ground.data }], guard := none }) rfl (fun K hK => ?_) AllReadyH.nil
  go_simp
  go_at_call 41
  refine (HP.out _ FB2).mono ?_
  rintro e wp ⟨rfl, GP, SP⟩
  have FR : Frm G1 w wp := FB1.trans SP.2.1 (fun i hi => .inl hi)
  refine hK.out _ _ (⟨(SP.2.1.cell hsz n1).trans c1, (SP.2.1.cell hsz n1).trans c4⟩) (fun hHeld => ?_)
  clear hK K
  (try simp only [Act.put, List.setIfInBounds_toArray, List.set_cons_zero, List.set_cons_succ])
  refine wpAnyH_ready (rs := [11]) (by kernel_rfl) (by simp) ?_
  refine AllReadyH.cons (o := { dst := some 62, op := Op.call { callee := Callee.value (Operand.func 42), args := #[Operand.tmp 57, Operand.tmp 59, Operand.tmp 61], argTypes := #[26, 9, 3] }, type := 23, pos := "law.go:56", after := #[{ on := 6, ground := Ground.data }, { on := 8, ground := Ground.data }, { on := 10, ground := Ground.data }, { on := 5, ground := Ground.chain }], guard := none }) rfl (fun K hK => ?_) AllReadyH.nil
  go_simp
  go_at_call 42
  refine (HR.out _ FR).mono ?_
  rintro e wr ⟨rfl, GR, SR⟩
  refine hK.out _ _ (⟨(SR.2.1.cell (Nat.lt_of_lt_of_le hsz SP.2.1.size) n2).trans ((SP.2.1.cell hsz n1).trans c1), (SR.2.1.cell (Nat.lt_of_lt_of_le hsz SP.2.1.size) n2).trans ((SP.2.1.cell hsz n1).trans c4)⟩) (fun hHeld => ?_)
  clear hK K
  (try simp only [Act.put, List.setIfInBounds_toArray, List.set_cons_zero, List.set_cons_succ])
  refine wpAnyH_take (i := 12) (oi := { dst := some 63, op := Op.binOp BinOp.eql 23 (Operand.tmp 56) (Operand.tmp 62) 23, type := 4, pos := "law.go:56", after := #[{ on := 5, ground := Ground.data }, { on := 11, ground := Ground.data }], guard := none }) (v := ?v11) rfl (by kernel_rfl) (by kernel_rfl) (by kernel_rfl) (fun _ _ _ h => h) (Or.inl ⟨by rfl, ?hy11⟩) (by assumption) ?rest11
  case hy11 => (intro w' hSw; (try dsimp only at hSw); go_simp; try with_reducible rfl)
  simp only [Act.put, List.setIfInBounds_toArray, List.set_cons_zero, List.set_cons_succ]
  refine wpAnyH_take (i := 13) (oi := { dst := some 6, op := Op.assign (Operand.tmp 63), type := 4, pos := "law.go:56", after := #[{ on := 12, ground := Ground.data }, { on := 11, ground := Ground.chain }, { on := 0, ground := Ground.phase }, { on := 1, ground := Ground.phase }, { on := 2, ground := Ground.phase }, { on := 3, ground := Ground.phase }, { on := 4, ground := Ground.phase }, { on := 5, ground := Ground.phase }, { on := 6, ground := Ground.phase }, { on := 7, ground := Ground.phase }, { on := 8, ground := Ground.phase }, { on := 9, ground := Ground.phase }, { on := 10, ground := Ground.phase }, { on := 11, ground := Ground.phase }, { on := 12, ground := Ground.phase }], guard := none }) (v := ?v12) rfl (by kernel_rfl) (by kernel_rfl) (by kernel_rfl) (fun _ _ _ h => h) (Or.inl ⟨by rfl, ?hy12⟩) (by assumption) ?rest12
  case hy12 => (intro w' hSw; (try dsimp only at hSw); go_simp; try with_reducible rfl)
  simp only [Act.put, List.setIfInBounds_toArray, List.set_cons_zero, List.set_cons_succ]
  refine wpAnyH_done (by kernel_rfl) ?_ _
  (try go_wp2)
  go_ret
  exact ⟨rfl, H.out.steps XD.out rde_dev FBd SP (Frm.refl _ _) SR (Frm.refl _ _)⟩
set_option maxHeartbeats 1000000 in
theorem both_rename {D : DevP} (X : DevOk D) (nm tn : ByteArray) (A : Option Addr) (n c : Nat) (N : Int) {w : World} {G1 G2 : Nat → Prop} {g1 g2 : Nat} {d : Dv} (h : Twin D RDe w G1 G2 g1 g2 d) (ok : Dv.Ok d) :
    Calls Try.prog 19 #[.pointer (some ⟨g1, 0, none⟩), .pointer (some ⟨g2, 0, none⟩), .agg #[.int .i64 3, .string nm, .string tn, .slice A n c, .int .i64 N]] w (BothTo D G1 G2 g1 g2 (renD d nm tn).1 w) := by
  have hx := heap_alloc_new w (.cells #[.int .i64 3, .string nm, .string tn, .slice A n c, .int .i64 N] 46)
  have FB : Frm (fun _ => False) w (w.alloc (.cells #[.int .i64 3, .string nm, .string tn, .slice A n c, .int .i64 N] 46)) := Frm.of_below (bel_alloc w _)
  have hsz : w.heap.size < (w.alloc (.cells #[.int .i64 3, .string nm, .string tn, .slice A n c, .int .i64 N] 46)).heap.size := by simp
  have c0 := cell_of_row _ w.heap.size 0 _ _ _ hx
  have c1 := cell_of_row _ w.heap.size 1 _ _ _ hx
  have c2 := cell_of_row _ w.heap.size 2 _ _ _ hx
  have n1 : ¬ G1 w.heap.size := fun e => Nat.lt_irrefl _ (X.dev.lt h.one _ e)
  have n2 : ¬ G2 w.heap.size := fun e => Nat.lt_irrefl _ (rde_dev.lt h.two _ e)
  have l1 := X.dev.lt h.one
  have l2 := rde_dev.lt h.two
  obtain ⟨d', hd'⟩ : ∃ d', (renD d nm tn).1 = d' := ⟨_, rfl⟩
  obtain ⟨E, hE⟩ : ∃ E, (renD d nm tn).2 = E := ⟨_, rfl⟩
  have HP : Hid (∀ W, Frm G2 w W → Calls Try.prog 31 #[.pointer (some ⟨g1, 0, none⟩), .string nm, .string tn] W (Stp D G1 g1 d' (.int .i64 E) W)) := Lib.hid (fun W hW => by
    rw [← hd', ← hE]; exact X.rename nm tn (X.dev.frm h.one hW (fun b hb => h.off b hb)) ok)
  have HR : Hid (∀ W, Frm G1 w W → Calls Try.prog 43 #[.pointer (some ⟨g2, 0, none⟩), .string nm, .string tn] W (Stp RDe G2 g2 d' (.int .i64 E) W)) := Lib.hid (fun W hW => by
    rw [← hd', ← hE]; exact refRename_s nm tn (rde_dev.frm h.two hW (fun b hb h1 => h.off b h1 hb)) ok)
  rw [hd']
  have H := Lib.hid h
  have XD := Lib.hid X.dev
  clear hd' hE h ok X hx
  generalize hwb : w.alloc (.cells #[.int .i64 3, .string nm, .string tn, .slice A n c, .int .i64 N] 46) = wb at *
  go_enter Try.func19, Try.ntmps19
  have FBd : Frm (fun _ => False) w wb.drew := FB.drew
  have FB1 : Frm G1 w wb.drew := FBd.mono (fun b hb => hb.elim)
  have FB2 : Frm G2 w wb.drew := FBd.mono (fun b hb => hb.elim)
  go_wp2_with fail
  refine wp_region_held_drew (S := (fun W => W.cell? ⟨w.heap.size, 1, none⟩ = some (.string nm) ∧ W.cell? ⟨w.heap.size, 2, none⟩ = some (.string tn))) (by kernel_rfl) (⟨c1, c2⟩) (fun hHeld => ?_)
  refine wpAnyH_take (i := 0) (oi := { dst := some 66, op := Op.move (Operand.tmp 0), type := 22, pos := "law.go:58", after := #[], guard := none }) (v := ?v13) rfl (by kernel_rfl) (by kernel_rfl) (by kernel_rfl) (fun _ _ _ h => h) (Or.inl ⟨by rfl, ?hy13⟩) (by assumption) ?rest13
  case hy13 => (intro w' hSw; (try dsimp only at hSw); go_simp; try with_reducible rfl)
  simp only [Act.put, List.setIfInBounds_toArray, List.set_cons_zero, List.set_cons_succ]
  refine wpAnyH_take (i := 1) (oi := { dst := some 67, op := Op.fieldAddr 46 (Operand.tmp 5) 1, type := 0, pos := "law.go:58", after := #[], guard := none }) (v := ?v14) rfl (by kernel_rfl) (by kernel_rfl) (by kernel_rfl) (fun _ _ _ h => h) (Or.inl ⟨by rfl, ?hy14⟩) (by assumption) ?rest14
  case hy14 => (intro w' hSw; (try dsimp only at hSw); go_simp; try with_reducible rfl)
  simp only [Act.put, List.setIfInBounds_toArray, List.set_cons_zero, List.set_cons_succ]
  refine wpAnyH_take (i := 2) (oi := { dst := some 68, op := Op.load 9 (Operand.tmp 67), type := 9, pos := "law.go:58", after := #[{ on := 1, ground := Ground.data }], guard := none }) (v := ?v15) rfl (by kernel_rfl) (by kernel_rfl) (by kernel_rfl) (fun _ _ _ h => h) (Or.inl ⟨by rfl, ?hy15⟩) (by assumption) ?rest15
  case hy15 => (intro w' hSw; (try dsimp only at hSw); go_simp; try with_reducible rfl)
  simp only [Act.put, List.setIfInBounds_toArray, List.set_cons_zero, List.set_cons_succ]
  refine wpAnyH_take (i := 3) (oi := { dst := some 69, op := Op.fieldAddr 46 (Operand.tmp 5) 2, type := 0, pos := "law.go:58", after := #[], guard := none }) (v := ?v16) rfl (by kernel_rfl) (by kernel_rfl) (by kernel_rfl) (fun _ _ _ h => h) (Or.inl ⟨by rfl, ?hy16⟩) (by assumption) ?rest16
  case hy16 => (intro w' hSw; (try dsimp only at hSw); go_simp; try with_reducible rfl)
  simp only [Act.put, List.setIfInBounds_toArray, List.set_cons_zero, List.set_cons_succ]
  refine wpAnyH_take (i := 4) (oi := { dst := some 70, op := Op.load 9 (Operand.tmp 69), type := 9, pos := "law.go:58", after := #[{ on := 3, ground := Ground.data }], guard := none }) (v := ?v17) rfl (by kernel_rfl) (by kernel_rfl) (by kernel_rfl) (fun _ _ _ h => h) (Or.inl ⟨by rfl, ?hy17⟩) (by assumption) ?rest17
  case hy17 => (intro w' hSw; (try dsimp only at hSw); go_simp; try with_reducible rfl)
  simp only [Act.put, List.setIfInBounds_toArray, List.set_cons_zero, List.set_cons_succ]
  refine wpAnyH_take (i := 6) (oi := { dst := some 72, op := Op.move (Operand.tmp 1), type := 26, pos := "law.go:58", after := #[], guard := none }) (v := ?v18) rfl (by kernel_rfl) (by kernel_rfl) (by kernel_rfl) (fun _ _ _ h => h) (Or.inl ⟨by rfl, ?hy18⟩) (by assumption) ?rest18
  case hy18 => (intro w' hSw; (try dsimp only at hSw); go_simp; try with_reducible rfl)
  simp only [Act.put, List.setIfInBounds_toArray, List.set_cons_zero, List.set_cons_succ]
  refine wpAnyH_take (i := 7) (oi := { dst := some 73, op := Op.fieldAddr 46 (Operand.tmp 5) 1, type := 0, pos := "law.go:58", after := #[], guard := none }) (v := ?v19) rfl (by kernel_rfl) (by kernel_rfl) (by kernel_rfl) (fun _ _ _ h => h) (Or.inl ⟨by rfl, ?hy19⟩) (by assumption) ?rest19
  case hy19 => (intro w' hSw; (try dsimp only at hSw); go_simp; try with_reducible rfl)
  simp only [Act.put, List.setIfInBounds_toArray, List.set_cons_zero, List.set_cons_succ]
  refine wpAnyH_take (i := 8) (oi := { dst := some 74, op := Op.load 9 (Operand.tmp 73), type := 9, pos := "law.go:58", after := #[{ on := 7, ground := Ground.data }], guard := none }) (v := ?v20) rfl (by kernel_rfl) (by kernel_rfl) (by kernel_rfl) (fun _ _ _ h => h) (Or.inl ⟨by rfl, ?hy20⟩) (by assumption) ?rest20
  case hy20 => (intro w' hSw; (try dsimp only at hSw); go_simp; try with_reducible rfl)
  simp only [Act.put, List.setIfInBounds_toArray, List.set_cons_zero, List.set_cons_succ]
  refine wpAnyH_take (i := 9) (oi := { dst := some 75, op := Op.fieldAddr 46 (Operand.tmp 5) 2, type := 0, pos := "law.go:58", after := #[], guard := none }) (v := ?v21) rfl (by kernel_rfl) (by kernel_rfl) (by kernel_rfl) (fun _ _ _ h => h) (Or.inl ⟨by rfl, ?hy21⟩) (by assumption) ?rest21
  case hy21 => (intro w' hSw; (try dsimp only at hSw); go_simp; try with_reducible rfl)
  simp only [Act.put, List.setIfInBounds_toArray, List.set_cons_zero, List.set_cons_succ]
  refine wpAnyH_take (i := 10) (oi := { dst := some 76, op := Op.load 9 (Operand.tmp 75), type := 9, pos := "law.go:58", after := #[{ on := 9, ground := Ground.data }], guard := none }) (v := ?v22) rfl (by kernel_rfl) (by kernel_rfl) (by kernel_rfl) (fun _ _ _ h => h) (Or.inl ⟨by rfl, ?hy22⟩) (by assumption) ?rest22
  case hy22 => (intro w' hSw; (try dsimp only at hSw); go_simp; try with_reducible rfl)
  simp only [Act.put, List.setIfInBounds_toArray, List.set_cons_zero, List.set_cons_succ]
  refine wpAnyH_ready (rs := [5]) (by kernel_rfl) (by simp) ?_
  refine AllReadyH.cons (o := { dst := some 71, op := Op.call { callee := Callee.value (Operand.func 31), args := #[Operand.tmp 66, Operand.tmp 68, Operand.tmp 70], argTypes := #[22, 9, 9] }, type := 23, pos := "law.go:58", after := #[{ on := 0, ground := Ground.data }, { on := 2, ground := Ground.data }, { on := 4, ground := Ground.data }], guard := none }) rfl (fun K hK => ?_) AllReadyH.nil
  go_simp
  go_at_call 31
  refine (HP.out _ FB2).mono ?_
  rintro e wp ⟨rfl, GP, SP⟩
  have FR : Frm G1 w wp := FB1.trans SP.2.1 (fun i hi => .inl hi)
  refine hK.out _ _ (⟨(SP.2.1.cell hsz n1).trans c1, (SP.2.1.cell hsz n1).trans c2⟩) (fun hHeld => ?_)
  clear hK K
  (try simp only [Act.put, List.setIfInBounds_toArray, List.set_cons_zero, List.set_cons_succ])
  refine wpAnyH_ready (rs := [11]) (by kernel_rfl) (by simp) ?_
  refine AllReadyH.cons (o := { dst := some 77, op := Op.call { callee := Callee.value (Operand.func 43), args := #[Operand.tmp 72, Operand.tmp 74, Operand.tmp 76], argTypes := #[26, 9, 9] }, type := 23, pos := "law.go:58", after := #[{ on := 6, ground := Ground.data }, { on := 8, ground := Ground.data }, { on := 10, ground := Ground.data }, { on := 5, ground := Ground.chain }], guard := none }) rfl (fun K hK => ?_) AllReadyH.nil
  go_simp
  go_at_call 43
  refine (HR.out _ FR).mono ?_
  rintro e wr ⟨rfl, GR, SR⟩
  refine hK.out _ _ (⟨(SR.2.1.cell (Nat.lt_of_lt_of_le hsz SP.2.1.size) n2).trans ((SP.2.1.cell hsz n1).trans c1), (SR.2.1.cell (Nat.lt_of_lt_of_le hsz SP.2.1.size) n2).trans ((SP.2.1.cell hsz n1).trans c2)⟩) (fun hHeld => ?_)
  clear hK K
  (try simp only [Act.put, List.setIfInBounds_toArray, List.set_cons_zero, List.set_cons_succ])
  refine wpAnyH_take (i := 12) (oi := { dst := some 78, op := Op.binOp BinOp.eql 23 (Operand.tmp 71) (Operand.tmp 77) 23, type := 4, pos := "law.go:58", after := #[{ on := 5, ground := Ground.data }, { on := 11, ground := Ground.data }], guard := none }) (v := ?v23) rfl (by kernel_rfl) (by kernel_rfl) (by kernel_rfl) (fun _ _ _ h => h) (Or.inl ⟨by rfl, ?hy23⟩) (by assumption) ?rest23
  case hy23 => (intro w' hSw; (try dsimp only at hSw); go_simp; try with_reducible rfl)
  simp only [Act.put, List.setIfInBounds_toArray, List.set_cons_zero, List.set_cons_succ]
  refine wpAnyH_take (i := 13) (oi := { dst := some 6, op := Op.assign (Operand.tmp 78), type := 4, pos := "law.go:58", after := #[{ on := 12, ground := Ground.data }, { on := 11, ground := Ground.chain }, { on := 0, ground := Ground.phase }, { on := 1, ground := Ground.phase }, { on := 2, ground := Ground.phase }, { on := 3, ground := Ground.phase }, { on := 4, ground := Ground.phase }, { on := 5, ground := Ground.phase }, { on := 6, ground := Ground.phase }, { on := 7, ground := Ground.phase }, { on := 8, ground := Ground.phase }, { on := 9, ground := Ground.phase }, { on := 10, ground := Ground.phase }, { on := 11, ground := Ground.phase }, { on := 12, ground := Ground.phase }], guard := none }) (v := ?v24) rfl (by kernel_rfl) (by kernel_rfl) (by kernel_rfl) (fun _ _ _ h => h) (Or.inl ⟨by rfl, ?hy24⟩) (by assumption) ?rest24
  case hy24 => (intro w' hSw; (try dsimp only at hSw); go_simp; try with_reducible rfl)
  simp only [Act.put, List.setIfInBounds_toArray, List.set_cons_zero, List.set_cons_succ]
  refine wpAnyH_done (by kernel_rfl) ?_ _
  (try go_wp2)
  go_ret
  exact ⟨rfl, H.out.steps XD.out rde_dev FBd SP (Frm.refl _ _) SR (Frm.refl _ _)⟩
set_option maxHeartbeats 1000000 in
theorem both_remove {D : DevP} (X : DevOk D) (nm tn : ByteArray) (A : Option Addr) (n c : Nat) (N : Int) {w : World} {G1 G2 : Nat → Prop} {g1 g2 : Nat} {d : Dv} (h : Twin D RDe w G1 G2 g1 g2 d) (ok : Dv.Ok d) :
    Calls Try.prog 19 #[.pointer (some ⟨g1, 0, none⟩), .pointer (some ⟨g2, 0, none⟩), .agg #[.int .i64 4, .string nm, .string tn, .slice A n c, .int .i64 N]] w (BothTo D G1 G2 g1 g2 (remD d nm).1 w) := by
  have hx := heap_alloc_new w (.cells #[.int .i64 4, .string nm, .string tn, .slice A n c, .int .i64 N] 46)
  have FB : Frm (fun _ => False) w (w.alloc (.cells #[.int .i64 4, .string nm, .string tn, .slice A n c, .int .i64 N] 46)) := Frm.of_below (bel_alloc w _)
  have hsz : w.heap.size < (w.alloc (.cells #[.int .i64 4, .string nm, .string tn, .slice A n c, .int .i64 N] 46)).heap.size := by simp
  have c0 := cell_of_row _ w.heap.size 0 _ _ _ hx
  have c1 := cell_of_row _ w.heap.size 1 _ _ _ hx
  have n1 : ¬ G1 w.heap.size := fun e => Nat.lt_irrefl _ (X.dev.lt h.one _ e)
  have n2 : ¬ G2 w.heap.size := fun e => Nat.lt_irrefl _ (rde_dev.lt h.two _ e)
  have l1 := X.dev.lt h.one
  have l2 := rde_dev.lt h.two
  obtain ⟨d', hd'⟩ : ∃ d', (remD d nm).1 = d' := ⟨_, rfl⟩
  obtain ⟨E, hE⟩ : ∃ E, (remD d nm).2 = E := ⟨_, rfl⟩
  have HP : Hid (∀ W, Frm G2 w W → Calls Try.prog 44 #[.pointer (some ⟨g1, 0, none⟩), .string nm] W (Stp D G1 g1 d' (.int .i64 E) W)) := Lib.hid (fun W hW => by
    rw [← hd', ← hE]; exact X.remove nm (X.dev.frm h.one hW (fun b hb => h.off b hb)) ok)
  have HR : Hid (∀ W, Frm G1 w W → Calls Try.prog 45 #[.pointer (some ⟨g2, 0, none⟩), .string nm] W (Stp RDe G2 g2 d' (.int .i64 E) W)) := Lib.hid (fun W hW => by
    rw [← hd', ← hE]; exact refRemove_s nm (rde_dev.frm h.two hW (fun b hb h1 => h.off b h1 hb)) ok)
  rw [hd']
  have H := Lib.hid h
  have XD := Lib.hid X.dev
  clear hd' hE h ok X hx
  generalize hwb : w.alloc (.cells #[.int .i64 4, .string nm, .string tn, .slice A n c, .int .i64 N] 46) = wb at *
  go_enter Try.func19, Try.ntmps19
  have FBd : Frm (fun _ => False) w wb.drew := FB.drew
  have FB1 : Frm G1 w wb.drew := FBd.mono (fun b hb => hb.elim)
  have FB2 : Frm G2 w wb.drew := FBd.mono (fun b hb => hb.elim)
  go_wp2_with fail
  go_region_with (first
    | (go_at_call 44; refine (HP.out _ FB2).mono ?_; rintro e wp ⟨rfl, GP, SP⟩; have cP : wp.cell? ⟨w.heap.size, 1, none⟩ = some (.string nm) := (SP.2.1.cell hsz n1).trans c1; have FR : Frm G1 w wp := FB1.trans SP.2.1 (fun i hi => .inl hi))
    | (go_at_call 45; refine (HR.out _ FR).mono ?_; rintro e wr ⟨rfl, GR, SR⟩))
  all_goals
    (try go_wp2)
    go_ret
    exact ⟨rfl, H.out.steps XD.out rde_dev FBd SP (Frm.refl _ _) SR (Frm.refl _ _)⟩
end Go.Proofs.Ytfclgjdlkcmnfaa
namespace Go.Proofs.Ytfclgjdlkcmnfaa
open Go.RowKit
set_option linter.unusedVariables false
set_option maxRecDepth 100000

/-- One step with each, the one behind the other; then something new is written that is of neither. -/
theorem Twin.stepsF {D1 D2 : DevP} (X1 : Dev D1) (X2 : Dev D2) {w W1 W2 W3 W4 W5 : World} {G1 G2 G1' G2' F : Nat → Prop} {g1 g2 : Nat} {d d' : Dv} (h : Twin D1 D2 w G1 G2 g1 g2 d)
    (f0 : Frm (fun _ => False) w W1) (s1 : Did D1 G1 g1 d' W1 W2 G1') (f1 : Frm (fun _ => False) W2 W3) (s2 : Did D2 G2 g2 d' W3 W4 G2') (f2 : Frm F W4 W5) (hF : ∀ b, F b → w.heap.size ≤ b ∧ b < W1.heap.size) : Twins D1 D2 G1 G2 g1 g2 d' w W5 := by
  have l1 := X1.lt h.one
  have l2 := X2.lt h.two
  have t := h.steps X1 X2 f0 s1 f1 s2 (Frm.refl (fun _ => False) W4)
  obtain ⟨a1, a2, a3⟩ := s1
  obtain ⟨b1, b2, b3⟩ := s2
  have z0 := f0.size
  have z1 := f1.size
  have z2 := a2.size
  have hF1 : ∀ b, F b → ¬ G1' b := fun b hb h1 => (a3 b h1).elim (fun e => by have := l1 b e; have := (hF b hb).1; omega) (fun e => by have := (hF b hb).2; omega)
  have hF2 : ∀ b, F b → ¬ G2' b := fun b hb h1 => (b3 b h1).elim (fun e => by have := l2 b e; have := (hF b hb).1; omega) (fun e => by have := (hF b hb).2; omega)
  have m1 := X1.lt a1
  have off2 : ∀ b, G1' b → ¬ G2 b := fun b hb h2 => (a3 b hb).elim (fun e => h.off b e h2) (fun e => by have := l2 b h2; omega)
  refine ⟨G1', G2', ⟨?_, ?_, fun b hb h2 => ?_⟩, ?_, fun b hb => ?_⟩
  · exact X1.frm (X1.frm (X1.frm a1 f1 (fun _ _ e => e)) b2 (fun b hb => off2 b hb)) f2 (fun b hb e => hF1 b e hb)
  · exact X2.frm b1 f2 (fun b hb e => hF2 b e hb)
  · exact (b3 b h2).elim (fun e => off2 b hb e) (fun e => by have := m1 b hb; omega)
  · obtain ⟨_, _, _, t2, _⟩ := t
    exact t2.trans f2 (fun i hi => .inr (hF i hi).1)
  · rcases hb with hb | hb
    · exact (a3 b hb).imp .inl (fun e => by omega)
    · exact (b3 b hb).imp .inr (fun e => by omega)

theorem Frm.of_grownB {w w' : World} {g : Nat} (h : w.grownBy w' (some g)) : Frm (fun b => b = g) w w' := ⟨h.os, h.tape, h.output, h.size, fun k hk hn => h.block k hk (fun e => hn (by injection e with e))⟩

set_option maxHeartbeats 2000000 in
theorem both_append {D : DevP} (X : DevOk D) (nm tn : ByteArray) (A : Option Addr) (n c : Nat) (N : Int) (bs : List Int) {w : World} {G1 G2 : Nat → Prop} {g1 g2 : Nat} {d : Dv} (h : Twin D RDe w G1 G2 g1 g2 d) (ok : Dv.Ok d)
    (hr : Row .u8 w w.heap.size A bs) (hbn : bs.length = n) (hnc : n ≤ c) (hc : c ≤ 140737488355328) (hb : n ≤ 4096) (hA : ∀ a, A = some a → 0 < n → ¬ (G1 a.block ∨ G2 a.block)) :
    Calls Try.prog 19 #[.pointer (some ⟨g1, 0, none⟩), .pointer (some ⟨g2, 0, none⟩), .agg #[.int .i64 0, .string nm, .string tn, .slice A n c, .int .i64 N]] w (BothTo D G1 G2 g1 g2 (appD d nm bs).1 w) := by
  have hx := heap_alloc_new w (.cells #[.int .i64 0, .string nm, .string tn, .slice A n c, .int .i64 N] 46)
  have FB : Frm (fun _ => False) w (w.alloc (.cells #[.int .i64 0, .string nm, .string tn, .slice A n c, .int .i64 N] 46)) := Frm.of_below (bel_alloc w _)
  have hsz : w.heap.size < (w.alloc (.cells #[.int .i64 0, .string nm, .string tn, .slice A n c, .int .i64 N] 46)).heap.size := by simp
  have c0 := cell_of_row _ w.heap.size 0 _ _ _ hx
  have c1 := cell_of_row _ w.heap.size 1 _ _ _ hx
  have c3 := cell_of_row _ w.heap.size 3 _ _ _ hx
  have l1 := X.dev.lt h.one
  have l2 := rde_dev.lt h.two
  have n1 : ∀ b, w.heap.size ≤ b → ¬ G1 b := fun b hb e => by have := l1 b e; omega
  have n2 : ∀ b, w.heap.size ≤ b → ¬ G2 b := fun b hb e => by have := l2 b e; omega
  obtain ⟨d', hd'⟩ : ∃ d', (appD d nm bs).1 = d' := ⟨_, rfl⟩
  obtain ⟨E, hE⟩ : ∃ E, (appD d nm bs).2 = E := ⟨_, rfl⟩
  have tE : (E == E) = true := by simp
  have HP : Hid (∀ W A' c', Frm (fun _ => False) w W → Row .u8 W W.heap.size A' bs → n ≤ c' → c' ≤ 140737488355328 → (∀ a, A' = some a → 0 < n → w.heap.size ≤ a.block) → Calls Try.prog 25 #[.pointer (some ⟨g1, 0, none⟩), .string nm, .slice A' n c'] W (Stp D G1 g1 d' (.int .i64 E) W)) := Lib.hid (fun W A' c' hW hR hc1 hc2 hA' => by
    rw [← hd', ← hE]; exact X.append nm A' n c' bs (X.dev.frm h.one hW (fun b hb e => e)) ok hR hbn hc1 hc2 (by omega) (fun a ha hp => n1 _ (hA' a ha hp)))
  have HR : Hid (∀ W, Frm G1 w W → Row .u8 W W.heap.size A bs → Calls Try.prog 37 #[.pointer (some ⟨g2, 0, none⟩), .string nm, .slice A n c] W (Stp RDe G2 g2 d' (.int .i64 E) W)) := Lib.hid (fun W hW hR => by
    rw [← hd', ← hE]; exact refAppend_s nm A n c bs (rde_dev.frm h.two hW (fun b hb h1 => h.off b h1 hb)) ok hR hbn (by omega) (fun a ha hp e => hA a ha hp (.inr e)))
  rw [hd']
  have H := Lib.hid h
  have XD := Lib.hid X.dev
  have HRW := Lib.hid hr
  have HBN := Lib.hid hbn
  have rb := FB.row hr (fun a ha hp e => e)
  clear hd' hE h ok X hx hr hbn
  generalize hwb : w.alloc (.cells #[.int .i64 0, .string nm, .string tn, .slice A n c, .int .i64 N] 46) = wb at *
  go_enter Try.func19, Try.ntmps19
  go_wp2_with fail
  refine (lent_u8 A n c bs wb rb HBN.out (by omega)).mono ?_
  rintro e w1 ⟨rfl, hw1⟩
  have b01 : Below wb.heap.size wb w1 := by rw [hw1]; exact bel_alloc _ _
  have f01 : Frm (fun _ => False) w w1 := FB.trans (Frm.of_below (F := fun _ => False) b01) (fun i hi => hi.elim)
  have hb1 : w1.heap[wb.heap.size]? = some (.cells (blk .u8 (bs ++ marks5)) 5 (0, 0)) := by rw [hw1]; exact heap_alloc_new _ _
  have hlt1 := block_lt hb1
  have d1 := (b01.cell (p := ⟨w.heap.size, 1, none⟩) hsz).trans c1
  have d3 := (b01.cell (p := ⟨w.heap.size, 3, none⟩) hsz).trans c3
  have hsz1 : w.heap.size < w1.heap.size := Nat.lt_of_lt_of_le hsz b01.size
  clear hw1 c0 c1 c3
  go_wp2_with fail
  refine (HP.out w1 _ _ f01 ((Row.of_block hb1 bs HRW.out.1 (List.prefix_append _ _)).more hlt1) (by omega) (by omega) (fun a ha _ => by injection ha with ha; rw [← ha]; show w.heap.size ≤ wb.heap.size; omega)).mono ?_
  rintro e wp ⟨rfl, GP, SP⟩
  have fP : Frm G1 w wp := (f01.mono (fun b hb => hb.elim)).trans SP.2.1 (fun i hi => .inl hi)
  have e1 := (SP.2.1.cell (o := 1) hsz1 (n1 _ (Nat.le_refl _))).trans d1
  have e3 := (SP.2.1.cell (o := 3) hsz1 (n1 _ (Nat.le_refl _))).trans d3
  have hb2 := (SP.2.1.block _ hlt1 (n1 _ (by omega))).trans hb1
  have rp := fP.row HRW.out (fun a ha hp e => hA a ha (by rw [← HBN.out]; exact hp) (.inl e))
  have hsz2 : w.heap.size < wp.heap.size := Nat.lt_of_lt_of_le hsz1 SP.2.1.size
  clear d1 d3 rb
  go_wp2_with fail
  refine (HR.out wp fP rp).mono ?_
  rintro e wr ⟨rfl, GR, SR⟩
  have fR : Frm (fun b => G1 b ∨ G2 b) w wr := (fP.mono (fun b hb => .inl hb)).trans SR.2.1 (fun i hi => .inl (.inr hi))
  have k3 := (SR.2.1.cell (o := 3) hsz2 (n2 _ (Nat.le_refl _))).trans e3
  have hb3 := (SR.2.1.block _ (block_lt hb2) (n2 _ (by omega))).trans hb2
  have rr := fR.row HRW.out (fun a ha hp e => hA a ha (by rw [← HBN.out]; exact hp) e)
  clear e1 e3 rp
  go_wp2_with fail
  refine (kept_u8 A n c wb.heap.size bs wr _ rr HBN.out (by omega) hb3).mono ?_
  rintro e w6 ⟨rfl, m6, rfl⟩
  go_wp2_with fail
  refine (spoil_u8 wb.heap.size n (n + 5) (bs ++ marks5) [] (wr.drewN m6) (by rw [List.append_nil]; exact hb3) (by rw [List.length_append, HBN.out]; rfl) (by omega) (by omega)).mono ?_
  rintro e w7 ⟨rfl, _, g7, _⟩
  have f7 : Frm (fun b => b = wb.heap.size) wr w7 := (Frm.of_below (F := fun b => b = wb.heap.size) (bel_drewN wr m6)).trans (Frm.of_grownB g7) (fun i hi => .inl hi)
  go_wp2
  go_ret
  exact ⟨rfl, H.out.stepsF XD.out rde_dev f01 SP (Frm.refl _ _) SR f7 (fun b hb => by rw [hb]; exact ⟨by omega, hlt1⟩)⟩

set_option maxHeartbeats 1000000 in
theorem both_wake {D : DevP} (X : DevOk D) (nm tn : ByteArray) (A : Option Addr) (n c : Nat) (N : Int) {w : World} {G1 G2 : Nat → Prop} {g1 g2 : Nat} {d : Dv} (h : Twin D RDe w G1 G2 g1 g2 d) (ok : Dv.Ok d) (hN : -9223372036854775808 ≤ N ∧ N < 9223372036854775808) :
    Calls Try.prog 19 #[.pointer (some ⟨g1, 0, none⟩), .pointer (some ⟨g2, 0, none⟩), .agg #[.int .i64 6, .string nm, .string tn, .slice A n c, .int .i64 N]] w (BothTo D G1 G2 g1 g2 (wakeD d N) w) := by
  have hx := heap_alloc_new w (.cells #[.int .i64 6, .string nm, .string tn, .slice A n c, .int .i64 N] 46)
  have FB : Frm (fun _ => False) w (w.alloc (.cells #[.int .i64 6, .string nm, .string tn, .slice A n c, .int .i64 N] 46)) := Frm.of_below (bel_alloc w _)
  have hsz : w.heap.size < (w.alloc (.cells #[.int .i64 6, .string nm, .string tn, .slice A n c, .int .i64 N] 46)).heap.size := by simp
  have c0 := cell_of_row _ w.heap.size 0 _ _ _ hx
  have c4 := cell_of_row _ w.heap.size 4 _ _ _ hx
  have n1 : ¬ G1 w.heap.size := fun e => Nat.lt_irrefl _ (X.dev.lt h.one _ e)
  have HP : Hid (∀ W, Frm G2 w W → Calls Try.prog 27 #[.pointer (some ⟨g1, 0, none⟩), .int .i64 N] W (Stp D G1 g1 (wakeD d N) (.tuple #[]) W)) := Lib.hid (fun W hW => X.wake N (X.dev.frm h.one hW (fun b hb => h.off b hb)) ok hN)
  have HR : Hid (∀ W, Frm G1 w W → Calls Try.prog 47 #[.pointer (some ⟨g2, 0, none⟩), .int .i64 N] W (Stp RDe G2 g2 (wakeD d N) (.tuple #[]) W)) := Lib.hid (fun W hW => refWake_s N (rde_dev.frm h.two hW (fun b hb h1 => h.off b h1 hb)) ok)
  have H := Lib.hid h
  have XD := Lib.hid X.dev
  clear h ok X hx hN
  generalize hwb : w.alloc (.cells #[.int .i64 6, .string nm, .string tn, .slice A n c, .int .i64 N] 46) = wb at *
  have FB1 : Frm G1 w wb := FB.mono (fun b hb => hb.elim)
  have FB2 : Frm G2 w wb := FB.mono (fun b hb => hb.elim)
  go_enter Try.func19, Try.ntmps19
  go_wp2_with fail
  refine (HP.out _ FB2).mono ?_
  rintro e wp ⟨rfl, GP, SP⟩
  have cP : wp.cell? ⟨w.heap.size, 4, none⟩ = some (.int .i64 N) := (SP.2.1.cell hsz n1).trans c4
  have FR : Frm G1 w wp := FB1.trans SP.2.1 (fun i hi => .inl hi)
  go_wp2_with fail
  refine (HR.out _ FR).mono ?_
  rintro e wr ⟨rfl, GR, SR⟩
  go_wp2
  go_ret
  exact ⟨rfl, H.out.steps XD.out rde_dev FB SP (Frm.refl _ _) SR (Frm.refl _ _)⟩

set_option maxHeartbeats 1000000 in
theorem both_arm {D : DevP} (X : DevOk D) (nm tn : ByteArray) (A : Option Addr) (n c : Nat) (N : Int) {w : World} {G1 G2 : Nat → Prop} {g1 g2 : Nat} {d : Dv} (h : Twin D RDe w G1 G2 g1 g2 d) (ok : Dv.Ok d) (hN : -9223372036854775808 ≤ N ∧ N < 9223372036854775808) :
    Calls Try.prog 19 #[.pointer (some ⟨g1, 0, none⟩), .pointer (some ⟨g2, 0, none⟩), .agg #[.int .i64 5, .string nm, .string tn, .slice A n c, .int .i64 N]] w (BothTo D G1 G2 g1 g2 (armD d N) w) := by
  have hx := heap_alloc_new w (.cells #[.int .i64 5, .string nm, .string tn, .slice A n c, .int .i64 N] 46)
  have FB : Frm (fun _ => False) w (w.alloc (.cells #[.int .i64 5, .string nm, .string tn, .slice A n c, .int .i64 N] 46)) := Frm.of_below (bel_alloc w _)
  have hsz : w.heap.size < (w.alloc (.cells #[.int .i64 5, .string nm, .string tn, .slice A n c, .int .i64 N] 46)).heap.size := by simp
  have c0 := cell_of_row _ w.heap.size 0 _ _ _ hx
  have c4 := cell_of_row _ w.heap.size 4 _ _ _ hx
  have n1 : ¬ G1 w.heap.size := fun e => Nat.lt_irrefl _ (X.dev.lt h.one _ e)
  have HP : Hid (∀ W, Frm G2 w W → Calls Try.prog 23 #[.pointer (some ⟨g1, 0, none⟩), .int .i64 N] W (Stp D G1 g1 (armD d N) (.tuple #[]) W)) := Lib.hid (fun W hW => X.arm N (X.dev.frm h.one hW (fun b hb => h.off b hb)) ok hN)
  have HR : Hid (∀ W, Frm G1 w W → Calls Try.prog 46 #[.pointer (some ⟨g2, 0, none⟩), .int .i64 N] W (Stp RDe G2 g2 (armD d N) (.tuple #[]) W)) := Lib.hid (fun W hW => refArm_s N (rde_dev.frm h.two hW (fun b hb h1 => h.off b h1 hb)))
  have H := Lib.hid h
  have XD := Lib.hid X.dev
  clear h ok X hx hN
  generalize hwb : w.alloc (.cells #[.int .i64 5, .string nm, .string tn, .slice A n c, .int .i64 N] 46) = wb at *
  have FBd : Frm (fun _ => False) w wb.drew := FB.drew
  have FB1 : Frm G1 w wb.drew := FBd.mono (fun b hb => hb.elim)
  have FB2 : Frm G2 w wb.drew := FBd.mono (fun b hb => hb.elim)
  go_enter Try.func19, Try.ntmps19
  go_wp2_with fail
  go_region_with (go_at_call 23; refine (HP.out _ FB2).mono ?_; rintro e wp ⟨rfl, GP, SP⟩; have cP : wp.cell? ⟨w.heap.size, 4, none⟩ = some (.int .i64 N) := (SP.2.1.cell hsz n1).trans c4; have FR : Frm G1 w wp := FB1.trans SP.2.1 (fun i hi => .inl hi))
  all_goals
    go_wp2_with fail
    refine (HR.out _ FR).mono ?_
    rintro e wr ⟨rfl, GR, SR⟩
    go_wp2
    go_ret
    exact ⟨rfl, H.out.steps XD.out rde_dev FBd SP (Frm.refl _ _) SR (Frm.refl _ _)⟩

theorem both_none {D : DevP} (X : DevOk D) (ki : Int) (nm tn : ByteArray) (A : Option Addr) (n c : Nat) (N : Int) {w : World} {G1 G2 : Nat → Prop} {g1 g2 : Nat} {d : Dv} (h : Twin D RDe w G1 G2 g1 g2 d) (hk : ki < 0 ∨ 6 < ki) :
    Calls Try.prog 19 #[.pointer (some ⟨g1, 0, none⟩), .pointer (some ⟨g2, 0, none⟩), .agg #[.int .i64 ki, .string nm, .string tn, .slice A n c, .int .i64 N]] w (BothTo D G1 G2 g1 g2 d w) := by
  have hx := heap_alloc_new w (.cells #[.int .i64 ki, .string nm, .string tn, .slice A n c, .int .i64 N] 46)
  have FB : Frm (fun _ => False) w (w.alloc (.cells #[.int .i64 ki, .string nm, .string tn, .slice A n c, .int .i64 N] 46)) := Frm.of_below (bel_alloc w _)
  have c0 := cell_of_row _ w.heap.size 0 _ _ _ hx
  have k0 : (ki == 0) = false := beq_false_of_ne (by omega)
  have k1 : (ki == 1) = false := beq_false_of_ne (by omega)
  have k2 : (ki == 2) = false := beq_false_of_ne (by omega)
  have k3 : (ki == 3) = false := beq_false_of_ne (by omega)
  have k4 : (ki == 4) = false := beq_false_of_ne (by omega)
  have k5 : (ki == 5) = false := beq_false_of_ne (by omega)
  have k6 : (ki == 6) = false := beq_false_of_ne (by omega)
  have H := Lib.hid (h.frm X.dev rde_dev FB (fun _ _ e => e))
  clear hk h X hx
  generalize hwb : w.alloc (.cells #[.int .i64 ki, .string nm, .string tn, .slice A n c, .int .i64 N] 46) = wb at *
  go_enter Try.func19, Try.ntmps19
  go_wp2
  go_ret
  exact ⟨rfl, G1, G2, H.out, FB.mono (fun b hb => hb.elim), fun b hb => .inl hb⟩
end Go.Proofs.Ytfclgjdlkcmnfaa
namespace Go.Proofs.Ytfclgjdlkcmnfaa
open Go.RowKit
set_option linter.unusedVariables false
set_option maxRecDepth 100000

/-- What a call makes of a device, and what it answers. -/
def callD (d : Dv) (ki : Int) (nm tn : ByteArray) (bs : List Int) (N : Int) : Dv × Int :=
  if ki = 0 then appD d nm bs else if ki = 1 then syncD d nm else if ki = 2 then truncD d nm N else if ki = 3 then renD d nm tn else if ki = 4 then remD d nm else if ki = 5 then (armD d N, 0) else if ki = 6 then (wakeD d N, 0) else (d, 0)
theorem call_ok {d : Dv} (h : Dv.Ok d) (ki : Int) (nm tn : ByteArray) {bs : List Int} {N : Int} (hb : ∀ x ∈ bs, (Lit.int .u8 x).wf = true) (hN : N < 9223372036854775808) : Dv.Ok (callD d ki nm tn bs N).1 := by
  unfold callD
  split
  · exact app_ok h nm bs hb
  split
  · exact sync_ok h nm
  split
  · exact trunc_ok h nm N
  split
  · exact ren_ok h nm tn
  split
  · exact rem_ok h nm
  split
  · exact arm_ok h N hN
  split
  · exact wake_ok h N
  · exact h
theorem both_any {D : DevP} (X : DevOk D) (ki : Int) (nm tn : ByteArray) (A : Option Addr) (n c : Nat) (N : Int) (bs : List Int) {w : World} {G1 G2 : Nat → Prop} {g1 g2 : Nat} {d : Dv} (h : Twin D RDe w G1 G2 g1 g2 d) (ok : Dv.Ok d)
    (hr : Row .u8 w w.heap.size A bs) (hbn : bs.length = n) (hnc : n ≤ c) (hc : c ≤ 140737488355328) (hb : n ≤ 4096) (hA : ∀ a, A = some a → 0 < n → ¬ (G1 a.block ∨ G2 a.block)) (hN : -9223372036854775808 ≤ N ∧ N < 9223372036854775808) :
    Calls Try.prog 19 #[.pointer (some ⟨g1, 0, none⟩), .pointer (some ⟨g2, 0, none⟩), .agg #[.int .i64 ki, .string nm, .string tn, .slice A n c, .int .i64 N]] w (BothTo D G1 G2 g1 g2 (callD d ki nm tn bs N).1 w) := by
  unfold callD
  split
  · rename_i e; subst e; exact both_append X nm tn A n c N bs h ok hr hbn hnc hc hb hA
  split
  · rename_i e; subst e; exact both_sync X nm tn A n c N h ok
  split
  · rename_i e; subst e; exact both_truncate X nm tn A n c N h ok hN
  split
  · rename_i e; subst e; exact both_rename X nm tn A n c N h ok
  split
  · rename_i e; subst e; exact both_remove X nm tn A n c N h ok
  split
  · rename_i e; subst e; exact both_arm X nm tn A n c N h ok hN
  split
  · rename_i e; subst e; exact both_wake X nm tn A n c N h ok hN
  · exact both_none X ki nm tn A n c N h (by omega)
end Go.Proofs.Ytfclgjdlkcmnfaa
namespace Go.Proofs.Ytfclgjdlkcmnfaa
open Go.RowKit
set_option linter.unusedVariables false
set_option maxRecDepth 100000

section
variable {G : Nat → Prop} {g : Nat} {d : Dv} {w : World}
theorem refNames_s (h : RDe w G g d) (ok : Dv.Ok d) : Calls Try.prog 48 #[.pointer (some ⟨g, 0, none⟩)] w fun e w' => ∃ v, e = .returned v ∧ TxOwn w' w.heap.size v (namesD d) ∧ Below w.heap.size w w' := by
  obtain ⟨fv, ms, hx, hg⟩ := h
  exact refNames_dv g fv ms d w hx (by have := ok.ln; omega)
theorem refRead_s (s : ByteArray) (h : RDe w G g d) (ok : Dv.Ok d) : Calls Try.prog 21 #[.pointer (some ⟨g, 0, none⟩), .string s] w fun e w' => ∃ v, e = .returned (.tuple #[v, .int .i64 (readE d s)]) ∧ Own .u8 5 w' w.heap.size v (readL d s) ∧ Below w.heap.size w w' := by
  obtain ⟨fv, ms, hx, hg⟩ := h
  exact refRead_dv g fv ms d s w hx ok
theorem refUsed_s (h : RDe w G g d) (ok : Dv.Ok d) : Calls Try.prog 49 #[.pointer (some ⟨g, 0, none⟩)] w fun e w' => e = .returned (.int .i64 (usedD d.fs : Nat)) ∧ Below w.heap.size w w' := by
  obtain ⟨fv, ms, hx, hg⟩ := h
  exact (refUsed_dv g fv ms d w hx (by have := ok.ln; omega) (by have := ok.us; have := ok.rm; omega)).mono fun e w' ⟨h1, h2⟩ => ⟨h1, by rw [← h2]; exact Below.refl _ _⟩
theorem refFree_s (h : RDe w G g d) (ok : Dv.Ok d) : Calls Try.prog 50 #[.pointer (some ⟨g, 0, none⟩)] w fun e w' => e = .returned (.int .i64 ((d.room : Int) - usedD d.fs)) ∧ Below w.heap.size w w' := by
  obtain ⟨fv, ms, hx, hg⟩ := h
  exact (refFree_dv g fv ms d w hx ok).mono fun e w' ⟨h1, m, h2⟩ => ⟨h1, by rw [h2]; exact bel_drewN w m⟩
theorem refDown_s (h : RDe w G g d) : Calls Try.prog 51 #[.pointer (some ⟨g, 0, none⟩)] w fun e w' => e = .returned (.bool d.off) ∧ Below w.heap.size w w' := by
  obtain ⟨fv, ms, hx, hg⟩ := h
  exact (refDown_dv g fv ms d w hx).mono fun e w' ⟨h1, h2⟩ => ⟨h1, by rw [← h2]; exact Below.refl _ _⟩
end
theorem Own.frm8 {F : Nat → Prop} {w w' : World} {base : Nat} {v : Value} {l : List Int} (h : Own .u8 5 w base v l) (hf : Frm F w w') (hn : ∀ b, v.ownBlock = some b → ¬ F b) : Own .u8 5 w' base v l := by
  refine ⟨h.1, ?_⟩
  rcases h.2 with h0 | ⟨g, cap, cur, hv, h1, h2, h3⟩
  · exact .inl h0
  · exact .inr ⟨g, cap, cur, hv, h1, (hf.block g (block_lt h2) (hn g (by rw [hv]; rfl))).trans h2, h3⟩
theorem read_there {d : Dv} {k : Nat} (hk : k < d.fs.length) : readE d d.fs[k].nm = 0 := by
  unfold readE
  cases hf : findD d.fs d.fs[k].nm with
  | none => exact absurd (sameN_refl _) (by rw [findD_none.1 hf _ (List.getElem_mem hk)]; decide)
  | some j => rfl
theorem readL_wf {d : Dv} (ok : Dv.Ok d) (s : ByteArray) : (∀ x ∈ readL d s, (Lit.int .u8 x).wf = true) ∧ (readL d s).length ≤ 16777216 := by
  unfold readL
  cases hf : findD d.fs s with
  | none => exact ⟨fun x hx => absurd hx (by simp), by simp⟩
  | some j =>
    obtain ⟨hj, _, _⟩ := findD_some hf
    simp only [List.getElem?_eq_getElem hj, Option.map_some, Option.getD_some]
    exact ⟨(ok.fl _ (List.getElem_mem hj)).wf, by have := used_mem (List.getElem_mem hj); have := ok.us; have := ok.rm; omega⟩
theorem names_size {d : Dv} (ok : Dv.Ok d) : ∀ s ∈ namesD d, s.size ≤ 1000 := by
  intro s hs
  obtain ⟨f, hf, rfl⟩ := List.mem_map.1 hs
  have := (ok.fl f hf).nm
  unfold okN at this
  simp at this
  omega

set_option maxHeartbeats 4000000 in
theorem looks_any {D : DevP} (X : DevOk D) {w : World} {G1 G2 : Nat → Prop} {g1 g2 : Nat} {d : Dv} (h : Twin D RDe w G1 G2 g1 g2 d) (ok : Dv.Ok d) :
    Calls Try.prog 20 #[.pointer (some ⟨g1, 0, none⟩), .pointer (some ⟨g2, 0, none⟩)] w fun e w' => e = .returned (.bool true) ∧ Below w.heap.size w w' := by
  have HT : Hid (∀ W, Below w.heap.size w W → Twin D RDe W G1 G2 g1 g2 d) := Lib.hid (fun W hW => h.frm X.dev rde_dev (Frm.of_below (F := fun _ => False) hW) (fun _ _ e => e))
  have HX := Lib.hid X
  have OK := Lib.hid ok
  obtain ⟨NL, hNL⟩ : ∃ l, namesD d = l := ⟨_, rfl⟩
  have HNL := Lib.hid hNL
  obtain ⟨n, hn⟩ : ∃ n, NL.length = n := ⟨_, rfl⟩
  have HN := Lib.hid hn
  have hn64 : n ≤ 64 := by rw [← hn, ← hNL]; unfold namesD; rw [List.length_map]; exact ok.ln
  have HSZ : Hid (∀ s ∈ NL, s.size ≤ 1000) := Lib.hid (by rw [← hNL]; exact names_size ok)
  have HRD : Hid (∀ k (hk : k < NL.length), readE d NL[k] = 0) := Lib.hid (fun k hk => by
    subst hNL
    have h2 : k < d.fs.length := by simpa [namesD] using hk
    have := read_there h2
    simpa [namesD] using this)
  obtain ⟨U, hU⟩ : ∃ U : Nat, usedD d.fs = U := ⟨_, rfl⟩
  have HU := Lib.hid hU
  obtain ⟨FR, hFR⟩ : ∃ F : Int, (d.room : Int) - usedD d.fs = F := ⟨_, rfl⟩
  have HFR := Lib.hid hFR
  obtain ⟨OF, hOF⟩ : ∃ o, d.off = o := ⟨_, rfl⟩
  have HOF := Lib.hid hOF
  clear hNL hn hU hFR hOF X h ok
  go_enter Try.func20, Try.ntmps20
  go_wp2_with fail
  refine (HX.out.names (HT.out _ (Below.refl _ _)).one OK.out).mono ?_
  rintro e w1 ⟨v1, rfl, own1, bel1⟩
  rw [HNL.out] at own1
  obtain ⟨A1, c1, rfl, row1, _, _⟩ := own1.own.row
  rw [HN.out] at own1 ⊢
  go_wp2_with fail
  refine (refNames_s (HT.out _ bel1).two OK.out).mono ?_
  rintro e w2 ⟨v2, rfl, own2, b2⟩
  rw [HNL.out] at own2
  have bel2 := bel1.trans (b2.mono bel1.size)
  obtain ⟨A2, c2, rfl, row2, hc2, hm2⟩ := own2.row
  rw [HN.out] at own2 hc2 ⊢
  go_wp2_with fail
  refine (same_yes_tx A1 A2 n c1 c2 NL w2 _ _ (row1.below b2) row2 HN.out (by omega)).mono ?_
  rintro e w3 ⟨rfl, m3, rfl⟩
  have bel3 := below_drewN bel2 m3
  go_wp2_with fail
  refine (HX.out.used (HT.out _ bel3).one OK.out).mono ?_
  rintro e w4 ⟨rfl, b4⟩
  rw [HU.out]
  have bel4 := bel3.trans (b4.mono bel3.size)
  go_wp2_with fail
  refine (refUsed_s (HT.out _ bel4).two OK.out).mono ?_
  rintro e w5 ⟨rfl, b5⟩
  rw [HU.out]
  have bel5 := bel4.trans (b5.mono bel4.size)
  go_wp2_with fail
  refine (HX.out.free (HT.out _ bel5).one OK.out).mono ?_
  rintro e w6 ⟨rfl, b6⟩
  rw [HFR.out]
  have bel6 := bel5.trans (b6.mono bel5.size)
  go_wp2_with fail
  refine (refFree_s (HT.out _ bel6).two OK.out).mono ?_
  rintro e w7 ⟨rfl, b7⟩
  rw [HFR.out]
  have bel7 := bel6.trans (b7.mono bel6.size)
  go_wp2_with fail
  refine (HX.out.down (HT.out _ bel7).one OK.out).mono ?_
  rintro e w8 ⟨rfl, b8⟩
  rw [HOF.out]
  have bel8 := bel7.trans (b8.mono bel7.size)
  go_wp2_with fail
  refine (refDown_s (HT.out _ bel8).two).mono ?_
  rintro e w9 ⟨rfl, b9⟩
  rw [HOF.out]
  have bel9 := bel8.trans (b9.mono bel8.size)
  have b29 : Below w2.heap.size w2 w9 := ((((((bel_drewN w2 m3).trans (b4.mono (Nat.le_refl _))).trans (b5.mono b4.size)).trans (b6.mono (Nat.le_trans b4.size b5.size))).trans (b7.mono (Nat.le_trans (Nat.le_trans b4.size b5.size) b6.size))).trans (b8.mono (Nat.le_trans (Nat.le_trans (Nat.le_trans b4.size b5.size) b6.size) b7.size))).trans (b9.mono (Nat.le_trans (Nat.le_trans (Nat.le_trans (Nat.le_trans b4.size b5.size) b6.size) b7.size) b8.size))
  have own19 : TkOwn w9 w.heap.size (.slice A1 n c1) NL := (own1.below b2 (Nat.le_refl _)).below b29 (Nat.le_refl _)
  have hv1 : ∀ b, (Value.slice A1 n c1).ownBlock = some b → w.heap.size ≤ b ∧ b < w1.heap.size := fun b hb => own1.own.lt b hb
  have own29 : TxOwn w9 w1.heap.size (.slice A2 n c2) NL := own2.below b29
  clear b4 b5 b6 b7 b8 b9 bel3 bel4 bel5 bel6 bel7 bel8
  go_wp2_with fail
  refine (spoil_tk _ _ NL w9 own19 HSZ.out).mono ?_
  rintro e wa ⟨rfl, ga, _⟩
  have bela : Below w.heap.size w wa := bel9.grown ga bel9.size (fun q e => (hv1 q e).1)
  have own2a : TxOwn wa w1.heap.size (.slice A2 n c2) NL := own29.frm (F := fun b => (Value.slice A1 n c1).ownBlock = some b) ⟨ga.os, ga.tape, ga.output, ga.size, fun k hk hn => ga.block k hk (fun e => hn e.symm)⟩ (fun b hb e => by have := (hv1 b e).2; have := (own29.lt b hb).1; omega)
  clear own19 own29 own1 own2 row1 row2 ga b29 bel9 bel2 b2
  have HO2 : Hid (Below w.heap.size w wa ∧ TxOwn wa w1.heap.size (.slice A2 n c2) NL) := Lib.hid ⟨bela, own2a⟩
  clear bela own2a
  go_wp2_with fail
  go_loopw [7] (fun i wr => ∃ k : Nat, k ≤ n ∧ i = .int .i64 k ∧ Hid (Below w.heap.size w wr ∧ TxOwn wr w1.heap.size (.slice A2 n c2) NL)) (fun i _ => n - (intOf i).toNat)
  case atStart => exact ⟨0, by omega, rfl, HO2⟩
  case round =>
    obtain ⟨k, hk, rfl, hrel⟩ := hrel
    by_cases hlt : k < n
    · have hkN : k < NL.length := by rw [HN.out]; exact hlt
      obtain ⟨b, cap', e, hb1, hbW, _, _, e0, _⟩ := hrel.out.2.elem hkN
      injection e with eA en ec
      subst eA ec
      clear en HO2
      obtain ⟨bel, own⟩ := hrel.out
      have HOW := Lib.hid own
      have hrd := HRD.out k hkN
      obtain ⟨s, hs⟩ : ∃ s, NL[k] = s := ⟨_, rfl⟩
      rw [hs] at e0 hrd
      have hwl := readL_wf OK.out s
      obtain ⟨L, hL⟩ : ∃ L, readL d s = L := ⟨_, rfl⟩
      rw [hL] at hwl
      obtain ⟨M, hM⟩ : ∃ M, L.length = M := ⟨_, rfl⟩
      have hM2 : M ≤ 16777216 := by rw [← hM]; exact hwl.2
      have HWL := Lib.hid hwl.1
      have HM := Lib.hid hM
      have HLL := Lib.hid hL
      have HRK := Lib.hid hrd
      clear hrd hwl hL hM hs own hrel
      go_wp2_with fail
      refine (HX.out.read s (HT.out _ bel).one OK.out).mono ?_
      rintro e wb ⟨v3, rfl, own3, p1⟩
      rw [HRK.out]
      rw [HLL.out] at own3
      obtain ⟨A3, c3, rfl, row3, _, _⟩ := own3.own.row HWL.out
      rw [HM.out] at own3 ⊢
      have q1 := bel.trans (p1.mono bel.size)
      have e01 := (p1.cell (p := ⟨b, k, none⟩) hbW).trans e0
      have hbW1 : b < wb.heap.size := Nat.lt_of_lt_of_le hbW p1.size
      clear e0
      go_wp2_with fail
      refine (HX.out.read s (HT.out _ q1).one OK.out).mono ?_
      rintro e wc ⟨v4, rfl, own4, p2⟩
      rw [HRK.out]
      rw [HLL.out] at own4
      obtain ⟨A4, c4, rfl, row4, _, _⟩ := own4.own.row HWL.out
      rw [HM.out] at own4 ⊢
      have q2 := q1.trans (p2.mono q1.size)
      have e02 := (p2.cell (p := ⟨b, k, none⟩) hbW1).trans e01
      have row3c := row3.below p2
      have hlt3 := own3.block
      have own3c := own3.below p2 (Nat.le_refl _)
      clear e01 own3 row3
      go_wp2_with fail
      refine (refRead_s s (HT.out _ q2).two OK.out).mono ?_
      rintro e wd ⟨v5, rfl, own5, p3⟩
      rw [HRK.out]
      rw [HLL.out] at own5
      obtain ⟨A5, c5, rfl, row5, _, _⟩ := own5.row HWL.out
      rw [HM.out] at own5 ⊢
      have q3 := q2.trans (p3.mono q2.size)
      have row3d := row3c.below (p3.mono p2.size)
      have row4d := row4.below p3
      have hlt4 := own4.block
      have own3d := own3c.below p3 (Nat.le_refl _)
      have own4d := own4.below p3 (Nat.le_refl _)
      have hlt5 := own5.lt
      clear e02 row3c row4 own3c own4
      go_wp2_with fail
      refine (same_yes_u8 A3 A5 M c3 c5 L wd _ _ row3d row5 HM.out (by omega)).mono ?_
      rintro e we ⟨rfl, m1, rfl⟩
      go_wp2_with fail
      refine (same_yes_u8 A4 A5 M c4 c5 L (wd.drewN m1) _ _ (row4d.drewN m1) (row5.drewN m1) HM.out (by omega)).mono ?_
      rintro e we ⟨rfl, m2, rfl⟩
      go_wp2_with fail
      refine (spoil_kown8 _ _ L (wd.drewN (m1 + m2)) (own3d.drewN (m1 + m2))).mono ?_
      rintro e wf ⟨rfl, gf, _⟩
      have q4 : Below w.heap.size w wf := (below_drewN q3 (m1 + m2)).grown gf q3.size (fun q e => Nat.le_trans bel.size (hlt3 q e).1)
      have fF : Frm (fun i => (Value.slice A3 M c3).ownBlock = some i) wd wf := ⟨gf.os, gf.tape, gf.output, gf.size, fun k hk hn => gf.block k hk (fun e => hn e.symm)⟩
      have row4f := ((own4d.own.frm8 fF (fun i hi e => by have := (hlt3 i e).2; have := (hlt4 i hi).1; omega)).row HWL.out)
      have row5f := ((own5.frm8 fF (fun i hi e => by have := (hlt3 i e).2; have := (hlt5 i hi).1; have := p2.size; omega)).row HWL.out)
      have HNX : Hid (Below w.heap.size w wf ∧ TxOwn wf w1.heap.size (.slice (some ⟨b, 0, none⟩) n c2) NL) := Lib.hid ⟨q4, ((HOW.out.below p1).below p2 |>.below p3).frm fF (fun i hi e => by have := (hlt3 i e).1; have := (HOW.out.lt i hi).2; omega)⟩
      obtain ⟨A4', c4', e4, row4g, _, _⟩ := row4f
      obtain ⟨A5', c5', e5, row5g, _, _⟩ := row5f
      injection e4 with e4A _ _
      injection e5 with e5A _ _
      subst e4A e5A
      clear gf q4 fF own3d own4d own5 row3d row4d row5 hlt3 hlt4 hlt5 p1 p2 p3 q1 q2 q3
      go_wp2_with fail
      refine (same_yes_u8 _ _ _ _ _ L wf _ _ row4g row5g rfl (by omega)).mono ?_
      rintro e we ⟨rfl, m3', rfl⟩
      go_wp2
      go_roundw
      case rel => exact ⟨k + 1, by omega, by go_num, Lib.hid ⟨below_drewN HNX.out.1 m3', HNX.out.2.below (bel_drewN wf m3')⟩⟩
      case measure => simp [intOf]; omega
    · obtain rfl : k = n := by omega
      go_wp2
      go_ret
      exact ⟨rfl, hrel.out.1⟩
end Go.Proofs.Ytfclgjdlkcmnfaa
namespace Go.Proofs.Ytfclgjdlkcmnfaa
open Go.RowKit
set_option linter.unusedVariables false
set_option maxRecDepth 100000

theorem findD_one (s : ByteArray) (b : List Int) (y : Nat) : findD [⟨s, b, y⟩] s = some 0 := findD_at 0 (by simp) (sameN_refl s) (fun j hj => absurd hj (by omega))
theorem wk_facts : ∃ d1 d2 d3, appD (newD 10) ⟨#[97]⟩ [1, 2] = (d1, 0) ∧ syncD d1 ⟨#[97]⟩ = (d2, 0) ∧ appD d2 ⟨#[97]⟩ [3, 4] = (d3, 0) ∧ readE (wakeD d3 1) ⟨#[97]⟩ = 0 ∧ readL (wakeD d3 1) ⟨#[97]⟩ = [1, 2, 3] ∧ ((wakeD d3 1).room : Int) - usedD (wakeD d3 1).fs = 7 := by
  obtain ⟨s, hs⟩ : ∃ s : ByteArray, s = ⟨#[97]⟩ := ⟨_, rfl⟩
  rw [← hs]
  have ho : okN s = true := by rw [hs]; decide
  have h1 : appD (newD 10) s [1, 2] = (⟨10, -1, false, [⟨s, [1, 2], 0⟩]⟩, 0) := by
    unfold appD newD addF
    simp [ho, findD, opD, spentD, insD, usedD]
  have h2 : syncD ⟨10, -1, false, [⟨s, [1, 2], 0⟩]⟩ s = (⟨10, -1, false, [⟨s, [1, 2], 2⟩]⟩, 0) := by
    unfold syncD
    simp [findD_one, opD, spentD]
  have h3 : appD ⟨10, -1, false, [⟨s, [1, 2], 2⟩]⟩ s [3, 4] = (⟨10, -1, false, [⟨s, [1, 2, 3, 4], 2⟩]⟩, 0) := by
    unfold appD addF
    simp [ho, findD_one, opD, spentD, usedD]
  have h4 : wakeD ⟨10, -1, false, [⟨s, [1, 2, 3, 4], 2⟩]⟩ 1 = ⟨10, -1, false, [⟨s, [1, 2, 3], 3⟩]⟩ := by
    simp [wakeD, wakeF]
  refine ⟨_, _, _, h1, h2, h3, ?_⟩
  rw [h4]
  simp [readE, readL, findD_one, usedD]

/-- What a step makes of a device that is new. -/
theorem Did.new {D : DevP} {G G' : Nat → Prop} {g : Nat} {d' : Dv} {w W W' : World} (s : Did D G g d' W W' G') (hG : ∀ b, G b → w.heap.size ≤ b) (hb : Below w.heap.size w W) : (∀ b, G' b → w.heap.size ≤ b) ∧ Below w.heap.size w W' :=
  ⟨fun b hb' => (s.2.2 b hb').elim (hG b) (fun e => Nat.le_trans hb.size e), s.2.1.below hb hb.size hG⟩
theorem row_two (w : World) (a b : Int) (h : ∀ x ∈ [a, b], (Lit.int .u8 x).wf = true) : Row .u8 (w.alloc (.cells #[.int .u8 a, .int .u8 b] 5)) (w.alloc (.cells #[.int .u8 a, .int .u8 b] 5)).heap.size (some ⟨w.heap.size, 0, none⟩) [a, b] := by
  have hx : (w.alloc (.cells #[.int .u8 a, .int .u8 b] 5)).heap[w.heap.size]? = some (.cells (blk .u8 [a, b]) 5 (0, 0)) := heap_alloc_new w _
  exact (Row.of_block hx [a, b] h (List.prefix_refl _)).more (block_lt hx)
theorem row_three (w : World) (a b c : Int) (h : ∀ x ∈ [a, b, c], (Lit.int .u8 x).wf = true) : Row .u8 (w.alloc (.cells #[.int .u8 a, .int .u8 b, .int .u8 c] 5)) (w.alloc (.cells #[.int .u8 a, .int .u8 b, .int .u8 c] 5)).heap.size (some ⟨w.heap.size, 0, none⟩) [a, b, c] := by
  have hx : (w.alloc (.cells #[.int .u8 a, .int .u8 b, .int .u8 c] 5)).heap[w.heap.size]? = some (.cells (blk .u8 [a, b, c]) 5 (0, 0)) := heap_alloc_new w _
  exact (Row.of_block hx [a, b, c] h (List.prefix_refl _)).more (block_lt hx)

set_option maxHeartbeats 2000000 in
theorem works12 {D : DevP} (X : DevOk D) (w : World) : Calls Try.prog 12 #[] w fun e w' => e = .returned (.bool true) ∧ Below w.heap.size w w' := by
  obtain ⟨d1, d2, d3, f1, f2, f3, f4, f5, f6⟩ := wk_facts
  have ok0 := new_ok 10 (by omega)
  have wf12 : ∀ x ∈ [(1 : Int), 2], (Lit.int .u8 x).wf = true := by decide
  have wf34 : ∀ x ∈ [(3 : Int), 4], (Lit.int .u8 x).wf = true := by decide
  have wf123 : ∀ x ∈ [(1 : Int), 2, 3], (Lit.int .u8 x).wf = true := by decide
  have ok1 : Dv.Ok d1 := by have := app_ok ok0 ⟨#[97]⟩ [1, 2] wf12; rw [f1] at this; exact this
  have ok2 : Dv.Ok d2 := by have := sync_ok ok1 ⟨#[97]⟩; rw [f2] at this; exact this
  have ok3 : Dv.Ok d3 := by have := app_ok ok2 ⟨#[97]⟩ [3, 4] wf34; rw [f3] at this; exact this
  have ok4 := wake_ok ok3 1
  have H0 : Hid (Calls Try.prog 10 #[.int .i64 10] w fun e w' => ∃ g G, e = .returned (.tuple #[.pointer (some ⟨g, 0, none⟩), .int .i64 0]) ∧ D w' G g (newD 10) ∧ Below w.heap.size w w' ∧ ∀ b, G b → w.heap.size ≤ b) := Lib.hid (X.newYes 10 w (by omega))
  have HA : Hid (∀ (W : World) (G : Nat → Prop) (g : Nat), D W G g (newD 10) → Calls Try.prog 25 #[.pointer (some ⟨g, 0, none⟩), .string ⟨#[97]⟩, .slice (some ⟨W.heap.size, 0, none⟩) 2 2] (W.alloc (.cells #[.int .u8 1, .int .u8 2] 5)) (Stp D G g d1 (.int .i64 0) (W.alloc (.cells #[.int .u8 1, .int .u8 2] 5)))) := Lib.hid (fun W G g h => by
    have := X.append ⟨#[97]⟩ (some ⟨W.heap.size, 0, none⟩) 2 2 [1, 2] (X.dev.frm h (Frm.of_below (F := fun _ => False) (bel_alloc W (.cells #[.int .u8 1, .int .u8 2] 5))) (fun _ _ e => e)) ok0 (row_two W 1 2 wf12) rfl (by omega) (by omega) (by omega) (fun a ha _ e => by injection ha with ha; subst ha; exact Nat.lt_irrefl _ (X.dev.lt h _ e))
    rw [f1] at this
    exact this)
  have HS : Hid (∀ (W : World) (G : Nat → Prop) (g : Nat), D W G g d1 → Calls Try.prog 26 #[.pointer (some ⟨g, 0, none⟩), .string ⟨#[97]⟩] W (Stp D G g d2 (.int .i64 0) W)) := Lib.hid (fun W G g h => by
    have := X.sync ⟨#[97]⟩ h ok1
    rw [f2] at this
    exact this)
  have HB : Hid (∀ (W : World) (G : Nat → Prop) (g : Nat), D W G g d2 → Calls Try.prog 25 #[.pointer (some ⟨g, 0, none⟩), .string ⟨#[97]⟩, .slice (some ⟨W.heap.size, 0, none⟩) 2 2] (W.alloc (.cells #[.int .u8 3, .int .u8 4] 5)) (Stp D G g d3 (.int .i64 0) (W.alloc (.cells #[.int .u8 3, .int .u8 4] 5)))) := Lib.hid (fun W G g h => by
    have := X.append ⟨#[97]⟩ (some ⟨W.heap.size, 0, none⟩) 2 2 [3, 4] (X.dev.frm h (Frm.of_below (F := fun _ => False) (bel_alloc W (.cells #[.int .u8 3, .int .u8 4] 5))) (fun _ _ e => e)) ok2 (row_two W 3 4 wf34) rfl (by omega) (by omega) (by omega) (fun a ha _ e => by injection ha with ha; subst ha; exact Nat.lt_irrefl _ (X.dev.lt h _ e))
    rw [f3] at this
    exact this)
  have HW : Hid (∀ (W : World) (G : Nat → Prop) (g : Nat), D W G g d3 → Calls Try.prog 27 #[.pointer (some ⟨g, 0, none⟩), .int .i64 1] W (Stp D G g (wakeD d3 1) (.tuple #[]) W)) := Lib.hid (fun W G g h => X.wake 1 h ok3 (by omega))
  have HD : Hid (∀ (W : World) (G : Nat → Prop) (g : Nat), D W G g (wakeD d3 1) → Calls Try.prog 13 #[.pointer (some ⟨g, 0, none⟩), .string ⟨#[97]⟩] W fun e w' => ∃ v, e = .returned (.tuple #[v, .int .i64 0]) ∧ KOwn .u8 5 w' W.heap.size v [1, 2, 3] ∧ Below W.heap.size W w') := Lib.hid (fun W G g h => by
    have := X.read ⟨#[97]⟩ h ok4
    rw [f4, f5] at this
    exact this)
  have HF : Hid (∀ (W : World) (G : Nat → Prop) (g : Nat), D W G g (wakeD d3 1) → Calls Try.prog 14 #[.pointer (some ⟨g, 0, none⟩)] W fun e w' => e = .returned (.int .i64 7) ∧ Below W.heap.size W w') := Lib.hid (fun W G g h => by
    have := X.free h ok4
    rw [f6] at this
    exact this)
  have XD := Lib.hid X.dev
  have W3 := Lib.hid wf123
  generalize hd4 : wakeD d3 1 = d4 at *
  clear f1 f2 f3 f4 f5 f6 ok0 ok1 ok2 ok3 ok4 wf12 wf34 wf123 X hd4
  go_enter Try.func12, Try.ntmps12
  go_wp2_with fail
  refine H0.out.mono ?_
  rintro e w1 ⟨g, G, rfl, h1, b1, n1⟩
  go_wp2_with fail
  refine (HA.out w1 G g h1).mono ?_
  rintro e w2 ⟨rfl, G2, s2⟩
  have k2 := s2.new n1 (b1.alloc b1.size _)
  have h2 := s2.1
  clear s2 n1 b1 h1
  go_wp2_with fail
  refine (HS.out w2 G2 g h2).mono ?_
  rintro e w3 ⟨rfl, G3, s3⟩
  have k3 := s3.new k2.1 k2.2
  have h3 := s3.1
  clear s3 k2 h2
  go_wp2_with fail
  refine (HB.out w3 G3 g h3).mono ?_
  rintro e w4 ⟨rfl, G4, s4⟩
  have k4 := s4.new k3.1 (k3.2.alloc k3.2.size _)
  have h4 := s4.1
  clear s4 k3 h3
  go_wp2_with fail
  refine (HW.out w4 G4 g h4).mono ?_
  rintro e w5 ⟨rfl, G5, s5⟩
  have k5 := s5.new k4.1 k4.2
  have h5 := s5.1
  clear s5 k4 h4
  go_wp2_with fail
  refine (HD.out w5 G5 g h5).mono ?_
  rintro e w6 ⟨v, rfl, own6, b6⟩
  have bel6 := k5.2.trans (b6.mono k5.2.size)
  have h6 := XD.out.frm h5 (Frm.of_below (F := fun _ => False) b6) (fun _ _ e => e)
  obtain ⟨A6, c6, rfl, row6, _, _⟩ := own6.own.row W3.out
  have bel7 := bel6.alloc bel6.size (.cells #[.int .u8 1, .int .u8 2, .int .u8 3] 5)
  have h7 := XD.out.frm h6 (Frm.of_below (F := fun _ => False) (bel_alloc w6 (.cells #[.int .u8 1, .int .u8 2, .int .u8 3] 5))) (fun _ _ e => e)
  have row7 := row6.below (bel_alloc w6 (.cells #[.int .u8 1, .int .u8 2, .int .u8 3] 5))
  clear h5 h6 b6 own6 row6 k5 bel6
  go_wp2_with fail
  refine (same_yes_u8 A6 _ _ c6 _ [1, 2, 3] _ _ _ row7 (row_three w6 1 2 3 W3.out) rfl (by decide)).mono ?_
  rintro e w8 ⟨rfl, m8, rfl⟩
  go_wp2_with fail
  refine (HF.out _ G5 g (XD.out.frm h7 (Frm.of_below (F := fun _ => False) (bel_drewN _ m8)) (fun _ _ e => e))).mono ?_
  rintro e w9 ⟨rfl, b9⟩
  go_wp2
  go_ret
  exact ⟨rfl, (below_drewN bel7 m8).trans (b9.mono bel7.size)⟩
end Go.Proofs.Ytfclgjdlkcmnfaa
