/-
  Texts of the proof of SegsLasts, joined.
-/
import Derived.Test.YtbdhhmhlcdganaaGreatDoorJSegsLastsH
import Derived.BigQuiet
import Derived.Test.YtbdhhmhlcdganaaGreatDoorJSegsLastsG
import Derived.Shelf.Sort.Plain
import Derived.Shelf.Strconv.Clone
import Derived.Ground.NamesProg
import Derived.Test.YtbdhhmhlcdganaaGreatDoorProg
import Derived.Test.YtbdhhmhlcdganaaGreatDoorJSegsLastsE
import Derived.Maps.OwnSet
import Derived.Test.YtbdhhmhlcdganaaGreatDoorJSegsLastsB
import Derived.Deep.RegionHeld3
import Derived.Laws.EntriesVeiled
namespace Go.Proofs.YtbdhhmhlcdganaaGreatDoor
open Go.RowKit
set_option linter.unusedVariables false
set_option maxRecDepth 100000

def farC (w : World) (z N : Nat) : Nat := N - (match w.cell? ⟨z, 0, none⟩ with | some (.int _ v) => v.toNat | _ => 0)
theorem farC_eq {w : World} {z N k : Nat} (h : w.cell? ⟨z, 0, none⟩ = some (.int .i64 (k : Int))) : farC w z N = N - k := by unfold farC; rw [h]; simp
set_option maxHeartbeats 4000000 in
theorem reads14 {D : DevP} (Y : DevOkG D) {w : World} {G : Nat → Prop} {g q : Nat} {d : Dv} {n first : Nat} {Gd Gg : Nat → Prop} {gv : Value} (h : LgK D w G g q d (rsL n first []) Gd Gg (.slice none 0 0) gv []) (ok : Dv.Ok d) (hn1 : 1 ≤ n) (hn : n ≤ 999999999999) (hf : first ≤ 1099511627776) :
    Calls Tryz.prog 36 #[.pointer (some ⟨q, 0, none⟩)] w (RsEnd D d n first g q G Gg gv w) := by
  have HGL := Lib.hid (Y.dev.gl h.dev)
  have hq := h.lt q h.gq.1
  obtain ⟨_, c1, c2, _⟩ := h.cell
  obtain ⟨w0, hw0⟩ : ∃ w0, w.alloc (.cells #[.int .i64 (n : Nat), .int .i64 (first : Nat)] 67) = w0 := ⟨_, rfl⟩
  have HST : Hid (∃ dk Gk Gdk svk, RsTo D d n first g q G Gg gv w w0 [] dk Gk Gdk svk) := Lib.hid (by
    have hb : Below w.heap.size w w0 := by rw [← hw0]; exact bel_alloc _ _
    exact ⟨d, G, Gd, _, h.below Y.dev hb, rfl, ok, fun i hi => absurd hi (by simp), fun s hs => (by cases hs), by rw [← hw0]; exact heap_alloc_new w _, fun e => by have := h.lt _ e; omega, Frm.of_below hb, fun b hb => .inl hb⟩)
  clear h ok
  go_enter Tryz.func36, Tryz.ntmps36
  go_wp2
  go_step3
  go_wp2
  go_step3
  go_wp2
  go_loopw [4, 5, 6, 7, 8] (fun _ _ _ _ _ wr => Hid (∃ acc dk Gk Gdk svk, RsTo D d n first g q G Gg gv w wr acc dk Gk Gdk svk)) (fun _ _ _ _ _ wr => farC wr w.heap.size (n + 66))
  case atStart => exact Lib.hid (by obtain ⟨dk, Gk, Gdk, svk, hh⟩ := HST.out; exact ⟨[], dk, Gk, Gdk, svk, hh⟩)
  case round =>
    obtain ⟨acc, dk, Gk, Gdk, svk, rs⟩ := hrel.out
    have h64 := rs.few
    have hcl := cnt_few acc rs.byt h64
    have RS := Lib.hid rs
    have hzx := rs.box
    have z0 : wr.cell? ⟨w.heap.size, 0, none⟩ = some (.int .i64 ((n + acc.length : Nat) : Int)) := by rw [cell_of_row wr _ 0 _ _ _ hzx]; rfl
    have hfar : Hid (farC wr w.heap.size (n + 66) = 66 - acc.length) := Lib.hid (by rw [farC_eq z0]; omega)
    have HCE : Hid (∀ W, Below wr.heap.size wr W → W.cell? ⟨q, 0, none⟩ = some (.pointer (some ⟨g, 0, none⟩)) ∧ W.cell? ⟨w.heap.size, 0, none⟩ = some (.int .i64 ((n + acc.length : Nat) : Int)) ∧ W.cell? ⟨w.heap.size, 1, none⟩ = some (.int .i64 ((first + cntS acc : Nat) : Int))) := Lib.hid fun W hW => by
      have r2 := RS.out.below Y.dev hW
      have hb := r2.box
      exact ⟨r2.lg.cell.1, by rw [cell_of_row W _ 0 _ _ _ hb]; rfl, by rw [cell_of_row W _ 1 _ _ _ hb]; rfl⟩
    have HFI : Hid (∀ W, Below wr.heap.size wr W → Calls Tryz.prog 50 #[.agg #[.int .i64 ((n + acc.length : Nat) : Int), .int .i64 ((first + cntS acc : Nat) : Int)]] W fun e w' => e = .returned (.string (segN (n + acc.length))) ∧ Below wr.heap.size wr w' ∧ w'.cell? ⟨q, 0, none⟩ = some (.pointer (some ⟨g, 0, none⟩)) ∧ w'.cell? ⟨w.heap.size, 0, none⟩ = some (.int .i64 ((n + acc.length : Nat) : Int)) ∧ w'.cell? ⟨w.heap.size, 1, none⟩ = some (.int .i64 ((first + cntS acc : Nat) : Int))) := Lib.hid fun W hW => by
      refine (file_any (n + acc.length) _ (by omega) (by omega) W ((Y.dev.gl RS.out.lg.dev).below hW)).mono ?_
      rintro e w' ⟨he, hb⟩
      have hb2 := hW.trans (hb.mono hW.size)
      exact ⟨he, hb2, HCE.out w' hb2⟩
    have HRD : Hid (∀ W, Below wr.heap.size wr W → Calls Tryz.prog 69 #[.pointer (some ⟨g, 0, none⟩), .string (segN (n + acc.length))] W fun e w' => ∃ A c, e = .returned (.tuple #[.slice A (readL dk (segN (n + acc.length))).length c, .int .i64 (readE dk (segN (n + acc.length)))]) ∧ (w'.cell? ⟨q, 0, none⟩ = some (.pointer (some ⟨g, 0, none⟩)) ∧ w'.cell? ⟨w.heap.size, 0, none⟩ = some (.int .i64 ((n + acc.length : Nat) : Int)) ∧ w'.cell? ⟨w.heap.size, 1, none⟩ = some (.int .i64 ((first + cntS acc : Nat) : Int))) ∧ Row .u8 w' w'.heap.size A (readL dk (segN (n + acc.length))) ∧ (readL dk (segN (n + acc.length))).length ≤ c ∧ Below wr.heap.size wr w') := Lib.hid fun W hW => by
      refine (Y.read (segN (n + acc.length)) (Y.dev.below RS.out.lg.dev hW) RS.out.ok).mono ?_
      rintro e w' ⟨v, he, hv, hb⟩
      have hb2 := hW.trans (hb.mono hW.size)
      obtain ⟨A, c, rfl, r1, r2, r3⟩ := hv.own.row (fun x hx => by
        rw [readL_lk] at hx
        cases hl : lkF dk (segN (n + acc.length)) with
        | none => rw [hl] at hx; cases hx
        | some y => rw [hl] at hx; exact lk_wf RS.out.ok (show lkF dk _ = some (y.1, y.2) from hl) x hx)
      exact ⟨A, c, he, HCE.out w' hb2, r1, r2, hb2⟩
    have bd := below_drew (Below.refl wr.heap.size wr)
    obtain ⟨t0, t1, t2⟩ := HCE.out _ bd
    cases hl : lkF dk (segN (n + acc.length)) with
    | none =>
      have HEND : Hid (∀ W, Below wr.heap.size wr W → RsEnd D d n first g q G Gg gv w (.returned (.int .i64 0)) W) := Lib.hid fun W hW => (RS.out.below Y.dev hW).stop hn hf hl
      rw [readE_lk, readL_lk, hl] at HRD
      simp only [if_true, Option.map_none, Option.getD_none, List.length_nil] at HRD
      generalize n + acc.length = N at *
      generalize first + cntS acc = B at *
      clear rs hl hrel hzx z0 RS
      go_wp2
      go_region_held3 (fun w9 => w9.cell? ⟨q, 0, none⟩ = some (.pointer (some ⟨g, 0, none⟩)) ∧ w9.cell? ⟨w.heap.size, 0, none⟩ = some (.int .i64 (N : Nat)) ∧ w9.cell? ⟨w.heap.size, 1, none⟩ = some (.int .i64 (B : Nat))) (exact ⟨by assumption, by assumption, by assumption⟩) (first
        | (go_at_call 50; refine (HFI.out _ bd).mono ?_; rintro e w2 ⟨rfl, b2, u0, u1, u2⟩)
        | (go_at_call 69; refine (HRD.out _ b2).mono ?_; rintro e w3 ⟨A3, c3, rfl, ⟨v0, v1, v2⟩, r3, l3, b3⟩; have HB3 := Lib.hid b3; clear b3 r3 l3)
        | fail)
      go_wp2
      (try rw [Exit.noGoto_ret])
      go_ret
      exact HEND.out _ HB3.out
    | some x =>
      obtain ⟨b, y⟩ := x
      have hwf := lk_wf rs.ok hl
      have hlen := lk_len rs.ok hl
      have hle := ckScan_le b
      have hfe := ckScan_few b
      obtain ⟨ds, es, hs⟩ : ∃ ds es, setG dk (segN (n + acc.length)) (ckScan b).2 b.length = (ds, es) := ⟨_, _, rfl⟩
      have hbd := rs_bd (acc := acc) hn hf rs.byt h64
      obtain ⟨As, cs, hsv, _⟩ := rs.lg.slice hbd
      subst hsv
      have e1 : readE dk (segN (n + acc.length)) = 0 := by rw [readE_lk, hl]; rfl
      have e2 : readL dk (segN (n + acc.length)) = b := by rw [readL_lk, hl]; rfl
      rw [e1, e2] at HRD
      have HSC : Hid (∀ W A c, Row .u8 W W.heap.size A b → b.length ≤ c → Calls Tryz.prog 66 #[.slice A b.length c] W fun e w' => ∃ A' c', e = .returned (.tuple #[.slice A' (ckScan b).1.length c', .int .i64 ((ckScan b).2 : Nat)]) ∧ Below W.heap.size W w') := Lib.hid fun W A c hr hc => by
        refine (chScan_any A _ c b W hr rfl hc (by omega)).mono ?_
        rintro e w' ⟨v, he, hv, hb⟩
        obtain ⟨A', c', rfl, _⟩ := hv.len
        exact ⟨A', c', he, hb⟩
      have HSE : Hid (∀ W, Below wr.heap.size wr W → Calls Tryz.prog 72 #[.pointer (some ⟨g, 0, none⟩), .string (segN (n + acc.length)), .int .i64 ((ckScan b).2 : Nat), .int .i64 (b.length : Nat)] W fun e w' => e = .returned (.int .i64 es) ∧ (w'.cell? ⟨q, 0, none⟩ = some (.pointer (some ⟨g, 0, none⟩)) ∧ w'.cell? ⟨w.heap.size, 0, none⟩ = some (.int .i64 ((n + acc.length : Nat) : Int)) ∧ w'.cell? ⟨w.heap.size, 1, none⟩ = some (.int .i64 ((first + cntS acc : Nat) : Int))) ∧ Hid (∃ G1 Gd1, LgK D w' G1 g q ds (rsL n first acc) Gd1 Gg (.slice As acc.length cs) gv [] ∧ Frm G w w' ∧ (∀ b, G1 b → G b ∨ w.heap.size ≤ b) ∧ ¬ G1 w.heap.size ∧ w'.heap[w.heap.size]? = some (.cells #[.int .i64 ((n + acc.length : Nat) : Int), .int .i64 ((first + cntS acc : Nat) : Int)] 67 (0, 0))) ∧ (es ≠ 0 → RsEnd D d n first g q G Gg gv w (.returned (.int .i64 es)) w')) := Lib.hid fun W hW => by
        refine (settle14 Y (Y.dev.below RS.out.lg.dev hW) RS.out.ok (segN (n + acc.length)) (ckScan b).2 b.length (by omega) hlen).mono ?_
        rintro e w' ⟨he, Gd', hd⟩
        rw [hs] at he hd
        obtain ⟨k1, k2, k3, k4, k5, k6⟩ := RS.out.settled Y.dev hn hf hl hs hW hd
        exact ⟨he, ⟨k1.cell.1, by rw [cell_of_row w' _ 0 _ _ _ k5]; rfl, by rw [cell_of_row w' _ 1 _ _ _ k5]; rfl⟩, Lib.hid ⟨_, _, k1, k2, k3, k4, k5⟩, k6⟩
      by_cases hes : es = 0
      case neg =>
        have i2 : (es == 0) = false := by simpa using hes
        have i3 : (es != 0) = true := by simpa using hes
        have HEE : Hid (∀ w', (es ≠ 0 → RsEnd D d n first g q G Gg gv w (.returned (.int .i64 es)) w') → RsEnd D d n first g q G Gg gv w (.returned (.int .i64 es)) w') := Lib.hid fun w' hh => hh hes
        generalize (ckScan b).1.length = L at *
        generalize (ckScan b).2 = M at *
        generalize b.length = K at *
        generalize n + acc.length = N at *
        generalize first + cntS acc = B at *
        clear rs hl hrel hzx z0 RS hwf hs hbd e1 e2 hes
        go_wp2
        go_region_held3 (fun w9 => w9.cell? ⟨q, 0, none⟩ = some (.pointer (some ⟨g, 0, none⟩)) ∧ w9.cell? ⟨w.heap.size, 0, none⟩ = some (.int .i64 (N : Nat)) ∧ w9.cell? ⟨w.heap.size, 1, none⟩ = some (.int .i64 (B : Nat))) (exact ⟨by assumption, by assumption, by assumption⟩) (first
          | (go_at_call 50; refine (HFI.out _ bd).mono ?_; rintro e w2 ⟨rfl, b2, u0, u1, u2⟩)
          | (go_at_call 69; refine (HRD.out _ b2).mono ?_; rintro e w3 ⟨A3, c3, rfl, ⟨v0, v1, v2⟩, r3, l3, b3⟩; have HS3 := Lib.hid (HSC.out w3 A3 c3 r3 l3); have HB3 := Lib.hid b3; clear b3 r3 l3)
          | fail)
        clear t0 t1 t2 u0 u1 u2 v0 v1 v2
        go_wp2_with fail
        refine HS3.out.mono ?_
        rintro e w4 ⟨A4, c4, rfl, b34⟩
        have b4 := HB3.out.trans (b34.mono HB3.out.size)
        have bd4 := below_drew b4
        obtain ⟨t0, t1, t2⟩ := HCE.out _ bd4
        clear b34 HS3
        go_wp2
        go_region_held3 (fun w9 => w9.cell? ⟨q, 0, none⟩ = some (.pointer (some ⟨g, 0, none⟩)) ∧ w9.cell? ⟨w.heap.size, 0, none⟩ = some (.int .i64 (N : Nat)) ∧ w9.cell? ⟨w.heap.size, 1, none⟩ = some (.int .i64 (B : Nat))) (exact ⟨by assumption, by assumption, by assumption⟩) (first
          | (go_at_call 50; refine (HFI.out _ bd4).mono ?_; rintro e w7 ⟨rfl, b7, u0, u1, u2⟩)
          | (go_at_call 72; refine (HSE.out _ b7).mono ?_; rintro e w8 ⟨rfl, ⟨v0, v1, v2⟩, hk5, kend⟩)
          | fail)
        have HQ := Lib.hid (HEE.out _ kend)
        clear kend hk5
        go_wp2
        (try rw [Exit.noGoto_ret])
        go_ret
        exact HQ.out
      subst hes
      have hlast : (ckAll (lastS (rsL n first (acc ++ [(ckScan b).1])))).length = (ckScan b).2 := by
        have : lastS (rsL n first (acc ++ [(ckScan b).1])) = (ckScan b).1 := by unfold lastS rsL; simp
        rw [this, ckScan_all hwf, List.length_take]
        omega
      have hcn : cntS (acc ++ [(ckScan b).1]) = cntS acc + (ckScan b).1.length := by rw [cntS_append]; simp [cntS]
      have hln : (acc ++ [(ckScan b).1]).length = acc.length + 1 := by simp
      have HAP : Hid (∀ W1 W, Hid (∃ G1 Gd1, LgK D W1 G1 g q ds (rsL n first acc) Gd1 Gg (.slice As acc.length cs) gv [] ∧ Frm G w W1 ∧ (∀ b, G1 b → G b ∨ w.heap.size ≤ b) ∧ ¬ G1 w.heap.size ∧ W1.heap[w.heap.size]? = some (.cells #[.int .i64 ((n + acc.length : Nat) : Int), .int .i64 ((first + cntS acc : Nat) : Int)] 67 (0, 0))) → Below W1.heap.size W1 W → ∃ A' n' c' w5 w6, (Builtin.append_ #[70, 70] 70 #[.slice As acc.length cs, .slice (some ⟨W.heap.size, 0, none⟩) 1 1]).run Tryz.prog (W.alloc (.cells #[.int .i64 ((n + acc.length : Nat) : Int), .int .i64 ((first + cntS acc : Nat) : Int)] 67)) = .ok (.slice A' n' c') w5 ∧
          w5.cell? ⟨q, 3, none⟩ = some (.slice As acc.length cs) ∧ w5.cell? ⟨q, 4, none⟩ = some (.int .i64 ((ckAll (lastS (rsL n first acc))).length : Nat)) ∧ w5.cell? ⟨q, 5, none⟩ = some (.int .i64 ((first + cntS acc : Nat) : Int)) ∧ w5.frozen? ⟨q, 3, none⟩ = false ∧ w5.frozen? ⟨q, 4, none⟩ = false ∧ w5.frozen? ⟨q, 5, none⟩ = false ∧
          (((w5.setCell ⟨q, 3, none⟩ (.slice A' n' c')).setCell ⟨q, 4, none⟩ (.int .i64 ((ckScan b).2 : Nat))).setCell ⟨q, 5, none⟩ (.int .i64 ((first + cntS (acc ++ [(ckScan b).1]) : Nat) : Int))) = w6 ∧
          w6.cell? ⟨q, 5, none⟩ = some (.int .i64 ((first + cntS (acc ++ [(ckScan b).1]) : Nat) : Int)) ∧ w6.cell? ⟨w.heap.size, 0, none⟩ = some (.int .i64 ((n + acc.length : Nat) : Int)) ∧ w6.cell? ⟨w.heap.size, 1, none⟩ = some (.int .i64 ((first + cntS acc : Nat) : Int)) ∧ w6.frozen? ⟨w.heap.size, 0, none⟩ = false ∧ w6.frozen? ⟨w.heap.size, 1, none⟩ = false ∧
          Hid ((ckScan b).2 < b.length → RsEnd D d n first g q G Gg gv w (.returned (.int .i64 0)) w6) ∧
          Hid (¬ (ckScan b).2 < b.length → ∀ W', Below ((w6.setCell ⟨w.heap.size, 0, none⟩ (.int .i64 ((n + (acc ++ [(ckScan b).1]).length : Nat) : Int))).setCell ⟨w.heap.size, 1, none⟩ (.int .i64 ((first + cntS (acc ++ [(ckScan b).1]) : Nat) : Int))).heap.size ((w6.setCell ⟨w.heap.size, 0, none⟩ (.int .i64 ((n + (acc ++ [(ckScan b).1]).length : Nat) : Int))).setCell ⟨w.heap.size, 1, none⟩ (.int .i64 ((first + cntS (acc ++ [(ckScan b).1]) : Nat) : Int))) W' → ∃ Gk' Gdk' sv', RsTo D d n first g q G Gg gv w W' (acc ++ [(ckScan b).1]) ds Gk' Gdk' sv')) := Lib.hid fun W1 W hk hW => by
        obtain ⟨G1, Gd1, k1, f1, n1, z1, b1⟩ := hk.out
        have hW2 := hW.alloc hW.size (.cells #[.int .i64 ((n + acc.length : Nat) : Int), .int .i64 ((first + cntS acc : Nat) : Int)] 67)
        have h2 := k1.below Y.dev hW2
        have hbox := box_two W 67 ((n + acc.length : Nat) : Int) ((first + cntS acc : Nat) : Int)
        have hlen2 : ((segL n first acc).length + 1) * 16 ≤ 140737488355328 := by rw [segL_len]; omega
        obtain ⟨v', w5, hrun, ho, hg⟩ := run_append_pt (P := Tryz.prog) (W.alloc (.cells #[.int .i64 ((n + acc.length : Nat) : Int), .int .i64 ((first + cntS acc : Nat) : Int)] 67)) 0 70 70 67 Tryz.underlying70 info_seg (.slice As acc.length cs) (segL n first acc) h2.own ⟨W.heap.size, 0, none⟩ 1 ((n + acc.length : Nat) : Int) ((first + cntS acc : Nat) : Int) hbox hlen2 (Nat.zero_le _)
        have hv := pt_app_block (P := Tryz.prog) (W.alloc (.cells #[.int .i64 ((n + acc.length : Nat) : Int), .int .i64 ((first + cntS acc : Nat) : Int)] 67)) 0 70 70 67 Tryz.underlying70 info_seg (.slice As acc.length cs) (segL n first acc) h2.own ⟨W.heap.size, 0, none⟩ 1 ((n + acc.length : Nat) : Int) ((first + cntS acc : Nat) : Int) hbox hlen2 hrun
        obtain ⟨A', n', c', rfl⟩ : ∃ A' n' c', v' = .slice A' n' c' := by
          rcases ho with ⟨rfl, _⟩ | ⟨g', cap, r, rfl, _⟩
          · exact ⟨_, _, _, rfl⟩
          · exact ⟨_, _, _, rfl⟩
        have b0 : w5.heap[q]? = _ := (hg.block q (h2.lt q h2.gq.1) (fun e => (h2.sblk q e.symm).2.2 rfl)).trans h2.box
        have hst := h2.grown1 Y.dev (l' := rsL n first (acc ++ [(ckScan b).1])) rfl rfl rfl (segL_app n first acc (ckScan b).1) hlast (show nextG (rsL n first (acc ++ [(ckScan b).1])) = first + cntS (acc ++ [(ckScan b).1]) from rfl) rfl ho hg hv
        have hgo := RS.out.go Y.dev HGL.out hn hf hl hs (W := W.alloc (.cells #[.int .i64 ((n + acc.length : Nat) : Int), .int .i64 ((first + cntS acc : Nat) : Int)] 67)) (f1.trans (Frm.of_below (F := fun _ => False) hW2) (fun _ e => e.elim)) n1 z1 ((hW2.block _ (block_lt b1)).trans b1) hst
        obtain ⟨g1, g2, g3, g4, g5, g6, g7⟩ := hgo
        refine ⟨A', n', c', w5, _, hrun, ?_, ?_, ?_, Joins.unfrozen_of_block b0 3, Joins.unfrozen_of_block b0 4, Joins.unfrozen_of_block b0 5, rfl, g1, g2, g3, g4, g5, Lib.hid g6, Lib.hid g7⟩
        · rw [cell_of_row w5 q 3 _ _ _ b0]; rfl
        · rw [cell_of_row w5 q 4 _ _ _ b0]; rfl
        · rw [cell_of_row w5 q 5 _ _ _ b0]; rfl
      have HKC : Hid (∀ W1 W, Hid (∃ G1 Gd1, LgK D W1 G1 g q ds (rsL n first acc) Gd1 Gg (.slice As acc.length cs) gv [] ∧ Frm G w W1 ∧ (∀ b, G1 b → G b ∨ w.heap.size ≤ b) ∧ ¬ G1 w.heap.size ∧ W1.heap[w.heap.size]? = some (.cells #[.int .i64 ((n + acc.length : Nat) : Int), .int .i64 ((first + cntS acc : Nat) : Int)] 67 (0, 0))) → Below W1.heap.size W1 W → W.cell? ⟨q, 3, none⟩ = some (.slice As acc.length cs) ∧ W.cell? ⟨w.heap.size, 0, none⟩ = some (.int .i64 ((n + acc.length : Nat) : Int)) ∧ W.cell? ⟨w.heap.size, 1, none⟩ = some (.int .i64 ((first + cntS acc : Nat) : Int)) ∧ q < W.heap.size) := Lib.hid fun W1 W hk hW => by
        obtain ⟨G1, Gd1, k1, f1, n1, z1, b1⟩ := hk.out
        have k2 := k1.below Y.dev hW
        have b2 := (hW.block _ (block_lt b1)).trans b1
        exact ⟨k2.cell.2.2.2.1, by rw [cell_of_row W _ 0 _ _ _ b2]; rfl, by rw [cell_of_row W _ 1 _ _ _ b2]; rfl, k2.lt q k2.gq.1⟩
      have w1' : IntKind.i64.wrap (((first + cntS acc : Nat) : Int) + ((ckScan b).1.length : Int)) = ((first + cntS (acc ++ [(ckScan b).1]) : Nat) : Int) := by rw [IntKind.wrap_i64, hcn]; omega
      have w2' : IntKind.i64.wrap (((n + acc.length : Nat) : Int) + 1) = ((n + (acc ++ [(ckScan b).1]).length : Nat) : Int) := by rw [IntKind.wrap_i64, hln]; omega
      have HFA : Hid (∀ W', (∃ Gk' Gdk' sv', RsTo D d n first g q G Gg gv w W' (acc ++ [(ckScan b).1]) ds Gk' Gdk' sv') → Hid (∃ acc dk Gk Gdk svk, RsTo D d n first g q G Gg gv w W' acc dk Gk Gdk svk) ∧ farC W' w.heap.size (n + 66) < farC wr w.heap.size (n + 66)) := Lib.hid fun W' ⟨Gk', Gdk', sv', r⟩ => by
        have h65 := r.few
        have hb := r.box
        have z9 : W'.cell? ⟨w.heap.size, 0, none⟩ = some (.int .i64 ((n + (acc ++ [(ckScan b).1]).length : Nat) : Int)) := by rw [cell_of_row W' _ 0 _ _ _ hb]; rfl
        refine ⟨Lib.hid ⟨_, _, _, _, _, r⟩, ?_⟩
        rw [hfar.out, farC_eq z9, hln]
        rw [hln] at h65
        omega
      by_cases hlt : (ckScan b).2 < b.length
      · have i7 : (((ckScan b).2 : Nat) : Int) < (b.length : Int) := by omega
        have HSTOP : Hid (∀ w6, Hid ((ckScan b).2 < b.length → RsEnd D d n first g q G Gg gv w (.returned (.int .i64 0)) w6) → RsEnd D d n first g q G Gg gv w (.returned (.int .i64 0)) w6) := Lib.hid fun w6 hh => hh.out hlt
        clear hs hlast hcn hln hlt HFA hfar
        generalize first + cntS (acc ++ [(ckScan b).1]) = B2 at *
        generalize n + (acc ++ [(ckScan b).1]).length = N2 at *
        clear rs hl hrel hzx z0 RS hwf hbd e1 e2
        generalize (ckScan b).1.length = L at *
        generalize (ckScan b).2 = M at *
        generalize b.length = K at *
        generalize n + acc.length = N at *
        generalize first + cntS acc = B at *
        go_wp2
        go_region_held3 (fun w9 => w9.cell? ⟨q, 0, none⟩ = some (.pointer (some ⟨g, 0, none⟩)) ∧ w9.cell? ⟨w.heap.size, 0, none⟩ = some (.int .i64 (N : Nat)) ∧ w9.cell? ⟨w.heap.size, 1, none⟩ = some (.int .i64 (B : Nat))) (exact ⟨by assumption, by assumption, by assumption⟩) (first
          | (go_at_call 50; refine (HFI.out _ bd).mono ?_; rintro e w2 ⟨rfl, b2, u0, u1, u2⟩)
          | (go_at_call 69; refine (HRD.out _ b2).mono ?_; rintro e w3 ⟨A3, c3, rfl, ⟨v0, v1, v2⟩, r3, l3, b3⟩; have HS3 := Lib.hid (HSC.out w3 A3 c3 r3 l3); have HB3 := Lib.hid b3; clear b3 r3 l3)
          | fail)
        clear t0 t1 t2 u0 u1 u2 v0 v1 v2
        go_wp2_with fail
        refine HS3.out.mono ?_
        rintro e w4 ⟨A4, c4, rfl, b34⟩
        have b4 := HB3.out.trans (b34.mono HB3.out.size)
        have bd4 := below_drew b4
        obtain ⟨t0, t1, t2⟩ := HCE.out _ bd4
        clear b34 HS3
        go_wp2
        go_region_held3 (fun w9 => w9.cell? ⟨q, 0, none⟩ = some (.pointer (some ⟨g, 0, none⟩)) ∧ w9.cell? ⟨w.heap.size, 0, none⟩ = some (.int .i64 (N : Nat)) ∧ w9.cell? ⟨w.heap.size, 1, none⟩ = some (.int .i64 (B : Nat))) (exact ⟨by assumption, by assumption, by assumption⟩) (first
          | (go_at_call 50; refine (HFI.out _ bd4).mono ?_; rintro e w7 ⟨rfl, b7, u0, u1, u2⟩)
          | (go_at_call 72; refine (HSE.out _ b7).mono ?_; rintro e w8 ⟨rfl, ⟨v0, v1, v2⟩, hk5, kend⟩)
          | fail)
        clear kend
        obtain ⟨y3, y0, y1, yq⟩ := HKC.out w8 w8 hk5 (Below.refl _ _)
        have xa3 : (w8.alloc (.cells #[.int .i64 (N : Nat), .int .i64 (B : Nat)] 67)).cell? ⟨q, 3, none⟩ = some (.slice As acc.length cs) := (World.cell?_alloc_lt _ _ _ yq).trans y3
        clear v0 v1 v2 u0 u1 u2 t0 t1 t2
        go_wp2_with fail
        go_region_law (first
          | (obtain ⟨A', n', c', w5, w6, hrun, k3, k4, k5, z3, z4, z5, hw6, s5, s6, s7, s8, s9, fin1, fin2⟩ := HAP.out w8 (w8) hk5 (Below.refl _ _); refine step_append_ty ((w8).alloc (.cells #[.int .i64 (N : Nat), .int .i64 (B : Nat)] 67)) rfl (.tmp 47) (.tmp 49) 70 rfl (.slice As acc.length cs) (.slice (some ⟨w8.heap.size, 0, none⟩) 1 1) (.slice A' n' c') w5 rfl rfl hrun ?_; clear hrun)
          | (obtain ⟨A', n', c', w5, w6, hrun, k3, k4, k5, z3, z4, z5, hw6, s5, s6, s7, s8, s9, fin1, fin2⟩ := HAP.out w8 (w8.drew) hk5 (below_drew (Below.refl _ _)); refine step_append_ty ((w8.drew).alloc (.cells #[.int .i64 (N : Nat), .int .i64 (B : Nat)] 67)) rfl (.tmp 47) (.tmp 49) 70 rfl (.slice As acc.length cs) (.slice (some ⟨w8.heap.size, 0, none⟩) 1 1) (.slice A' n' c') w5 rfl rfl hrun ?_; clear hrun)
          | (obtain ⟨A', n', c', w5, w6, hrun, k3, k4, k5, z3, z4, z5, hw6, s5, s6, s7, s8, s9, fin1, fin2⟩ := HAP.out w8 (w8.drew.drew) hk5 (below_drew (below_drew (Below.refl _ _))); refine step_append_ty ((w8.drew.drew).alloc (.cells #[.int .i64 (N : Nat), .int .i64 (B : Nat)] 67)) rfl (.tmp 47) (.tmp 49) 70 rfl (.slice As acc.length cs) (.slice (some ⟨w8.heap.size, 0, none⟩) 1 1) (.slice A' n' c') w5 rfl rfl hrun ?_; clear hrun)
          | fail)
        all_goals
          have HQ := Lib.hid (HSTOP.out _ fin1)
          clear fin1 fin2
          go_wp2
          (try rw [Exit.noGoto_ret])
          go_ret
          exact HQ.out
      · have i7 : ¬ (((ckScan b).2 : Nat) : Int) < (b.length : Int) := by omega
        have HON : Hid (∀ w6 : World, Hid (¬ (ckScan b).2 < b.length → ∀ W', Below ((w6.setCell ⟨w.heap.size, 0, none⟩ (.int .i64 ((n + (acc ++ [(ckScan b).1]).length : Nat) : Int))).setCell ⟨w.heap.size, 1, none⟩ (.int .i64 ((first + cntS (acc ++ [(ckScan b).1]) : Nat) : Int))).heap.size ((w6.setCell ⟨w.heap.size, 0, none⟩ (.int .i64 ((n + (acc ++ [(ckScan b).1]).length : Nat) : Int))).setCell ⟨w.heap.size, 1, none⟩ (.int .i64 ((first + cntS (acc ++ [(ckScan b).1]) : Nat) : Int))) W' → ∃ Gk' Gdk' sv', RsTo D d n first g q G Gg gv w W' (acc ++ [(ckScan b).1]) ds Gk' Gdk' sv') →
            Hid (∃ ac2 dk Gk Gdk svk, RsTo D d n first g q G Gg gv w ((w6.setCell ⟨w.heap.size, 0, none⟩ (.int .i64 ((n + (acc ++ [(ckScan b).1]).length : Nat) : Int))).setCell ⟨w.heap.size, 1, none⟩ (.int .i64 ((first + cntS (acc ++ [(ckScan b).1]) : Nat) : Int))).drew ac2 dk Gk Gdk svk) ∧ Hid (farC ((w6.setCell ⟨w.heap.size, 0, none⟩ (.int .i64 ((n + (acc ++ [(ckScan b).1]).length : Nat) : Int))).setCell ⟨w.heap.size, 1, none⟩ (.int .i64 ((first + cntS (acc ++ [(ckScan b).1]) : Nat) : Int))).drew w.heap.size (n + 66) < farC wr w.heap.size (n + 66))) := Lib.hid fun w6 hh => by
          obtain ⟨h1, h2⟩ := HFA.out _ (hh.out hlt _ (below_drew (Below.refl _ _)))
          exact ⟨h1, Lib.hid h2⟩
        clear hs hlast hcn hln hlt HFA hfar
        generalize first + cntS (acc ++ [(ckScan b).1]) = B2 at *
        generalize n + (acc ++ [(ckScan b).1]).length = N2 at *
        clear rs hl hrel hzx z0 RS hwf hbd e1 e2
        generalize (ckScan b).1.length = L at *
        generalize (ckScan b).2 = M at *
        generalize b.length = K at *
        generalize n + acc.length = N at *
        generalize first + cntS acc = B at *
        go_wp2
        go_region_held3 (fun w9 => w9.cell? ⟨q, 0, none⟩ = some (.pointer (some ⟨g, 0, none⟩)) ∧ w9.cell? ⟨w.heap.size, 0, none⟩ = some (.int .i64 (N : Nat)) ∧ w9.cell? ⟨w.heap.size, 1, none⟩ = some (.int .i64 (B : Nat))) (exact ⟨by assumption, by assumption, by assumption⟩) (first
          | (go_at_call 50; refine (HFI.out _ bd).mono ?_; rintro e w2 ⟨rfl, b2, u0, u1, u2⟩)
          | (go_at_call 69; refine (HRD.out _ b2).mono ?_; rintro e w3 ⟨A3, c3, rfl, ⟨v0, v1, v2⟩, r3, l3, b3⟩; have HS3 := Lib.hid (HSC.out w3 A3 c3 r3 l3); have HB3 := Lib.hid b3; clear b3 r3 l3)
          | fail)
        clear t0 t1 t2 u0 u1 u2 v0 v1 v2
        go_wp2_with fail
        refine HS3.out.mono ?_
        rintro e w4 ⟨A4, c4, rfl, b34⟩
        have b4 := HB3.out.trans (b34.mono HB3.out.size)
        have bd4 := below_drew b4
        obtain ⟨t0, t1, t2⟩ := HCE.out _ bd4
        clear b34 HS3
        go_wp2
        go_region_held3 (fun w9 => w9.cell? ⟨q, 0, none⟩ = some (.pointer (some ⟨g, 0, none⟩)) ∧ w9.cell? ⟨w.heap.size, 0, none⟩ = some (.int .i64 (N : Nat)) ∧ w9.cell? ⟨w.heap.size, 1, none⟩ = some (.int .i64 (B : Nat))) (exact ⟨by assumption, by assumption, by assumption⟩) (first
          | (go_at_call 50; refine (HFI.out _ bd4).mono ?_; rintro e w7 ⟨rfl, b7, u0, u1, u2⟩)
          | (go_at_call 72; refine (HSE.out _ b7).mono ?_; rintro e w8 ⟨rfl, ⟨v0, v1, v2⟩, hk5, kend⟩)
          | fail)
        clear kend
        obtain ⟨y3, y0, y1, yq⟩ := HKC.out w8 w8 hk5 (Below.refl _ _)
        have xa3 : (w8.alloc (.cells #[.int .i64 (N : Nat), .int .i64 (B : Nat)] 67)).cell? ⟨q, 3, none⟩ = some (.slice As acc.length cs) := (World.cell?_alloc_lt _ _ _ yq).trans y3
        clear v0 v1 v2 u0 u1 u2 t0 t1 t2
        go_wp2_with fail
        go_region_law (first
          | (obtain ⟨A', n', c', w5, w6, hrun, k3, k4, k5, z3, z4, z5, hw6, s5, s6, s7, s8, s9, fin1, fin2⟩ := HAP.out w8 (w8) hk5 (Below.refl _ _); refine step_append_ty ((w8).alloc (.cells #[.int .i64 (N : Nat), .int .i64 (B : Nat)] 67)) rfl (.tmp 47) (.tmp 49) 70 rfl (.slice As acc.length cs) (.slice (some ⟨w8.heap.size, 0, none⟩) 1 1) (.slice A' n' c') w5 rfl rfl hrun ?_; clear hrun)
          | (obtain ⟨A', n', c', w5, w6, hrun, k3, k4, k5, z3, z4, z5, hw6, s5, s6, s7, s8, s9, fin1, fin2⟩ := HAP.out w8 (w8.drew) hk5 (below_drew (Below.refl _ _)); refine step_append_ty ((w8.drew).alloc (.cells #[.int .i64 (N : Nat), .int .i64 (B : Nat)] 67)) rfl (.tmp 47) (.tmp 49) 70 rfl (.slice As acc.length cs) (.slice (some ⟨w8.heap.size, 0, none⟩) 1 1) (.slice A' n' c') w5 rfl rfl hrun ?_; clear hrun)
          | (obtain ⟨A', n', c', w5, w6, hrun, k3, k4, k5, z3, z4, z5, hw6, s5, s6, s7, s8, s9, fin1, fin2⟩ := HAP.out w8 (w8.drew.drew) hk5 (below_drew (below_drew (Below.refl _ _))); refine step_append_ty ((w8.drew.drew).alloc (.cells #[.int .i64 (N : Nat), .int .i64 (B : Nat)] 67)) rfl (.tmp 47) (.tmp 49) 70 rfl (.slice As acc.length cs) (.slice (some ⟨w8.heap.size, 0, none⟩) 1 1) (.slice A' n' c') w5 rfl rfl hrun ?_; clear hrun)
          | fail)
        all_goals
          obtain ⟨hr1, hr2⟩ := HON.out _ fin2
          have HR2 := Lib.hid hr2
          clear fin1 fin2 hr2
          go_wp2
          go_region
          go_wp2
          go_roundw
          case rel => exact hr1
          case measure => exact HR2.out.out
end Go.Proofs.YtbdhhmhlcdganaaGreatDoor
namespace Go.Proofs.YtbdhhmhlcdganaaGreatDoor
open Go.RowKit
set_option linter.unusedVariables false
set_option maxRecDepth 100000

def OtEnd (D : DevP) (d : Dv) (n first g q : Nat) (acc : List (List (List Int))) (G Gg : Nat → Prop) (sv gv : Value) (w : World) (e : Ending) (w' : World) : Prop := ∃ d' E G' Gd', dropG n acc.length d (namesD d) = (d', E) ∧ e = .returned (.int .i64 E) ∧ LgK D w' G' g q d' (rsL n first acc) Gd' Gg sv gv [] ∧ Frm G w w' ∧ (∀ b, G' b → G b ∨ w.heap.size ≤ b) ∧ Dv.Ok d'
structure OtTo (D : DevP) (d : Dv) (n first g q : Nat) (acc : List (List (List Int))) (G Gg : Nat → Prop) (sv gv nv : Value) (w wr : World) (k : Nat) (dk : Dv) (Gk Gdk : Nat → Prop) : Prop where
  lg : LgK D wr Gk g q dk (rsL n first acc) Gdk Gg sv gv []
  eq : dropG n acc.length d (namesD d) = dropG n acc.length dk ((namesD d).drop k)
  ok : Dv.Ok dk
  at_ : ∀ s ∈ (namesD d).drop k, lkF dk s ≠ none
  own : TkOwn wr w.heap.size nv (namesD d)
  off : ∀ b, nv.ownBlock = some b → ¬ Gk b
  frm : Frm G w wr
  new : ∀ b, Gk b → G b ∨ w.heap.size ≤ b
section
variable {D : DevP} {d : Dv} {n first g q : Nat} {acc : List (List (List Int))} {G Gg : Nat → Prop} {sv gv nv : Value} {w wr : World} {k : Nat} {dk : Dv} {Gk Gdk : Nat → Prop}
theorem OtTo.below (Y : DevGl D) (h : OtTo D d n first g q acc G Gg sv gv nv w wr k dk Gk Gdk) {W : World} (hb : Below wr.heap.size wr W) : OtTo D d n first g q acc G Gg sv gv nv w W k dk Gk Gdk :=
  ⟨h.lg.below Y hb, h.eq, h.ok, h.at_, h.own.below hb (Nat.le_refl _), h.off, h.frm.trans (Frm.of_below (F := fun _ => False) hb) (fun _ e => e.elim), h.new⟩
theorem OtTo.skip (h : OtTo D d n first g q acc G Gg sv gv nv w wr k dk Gk Gdk) (hk : k < (namesD d).length) (hm : mineS n acc.length (namesD d)[k] = true) : OtTo D d n first g q acc G Gg sv gv nv w wr (k + 1) dk Gk Gdk :=
  ⟨h.lg, by rw [h.eq, List.drop_eq_getElem_cons hk]; unfold dropG; rw [if_pos hm]; cases (namesD d).drop (k + 1) <;> rfl, h.ok, fun s hs => h.at_ s (by rw [List.drop_eq_getElem_cons hk]; exact List.mem_cons_of_mem _ hs), h.own, h.off, h.frm, h.new⟩
theorem OtTo.done (h : OtTo D d n first g q acc G Gg sv gv nv w wr k dk Gk Gdk) (hk : (namesD d).length ≤ k) : OtEnd D d n first g q acc G Gg sv gv w (.returned (.int .i64 0)) wr := by
  have he := h.eq
  rw [List.drop_eq_nil_of_le hk] at he
  exact ⟨dk, 0, Gk, Gdk, he, rfl, h.lg, h.frm, h.new, h.ok⟩
theorem dropG_cons {d : Dv} {n k : Nat} {s : ByteArray} {t : List ByteArray} (hm : mineS n k s = false) : dropG n k d (s :: t) = if (remD d s).2 = 0 then dropG n k (remD d s).1 t else ((remD d s).1, 10) := by
  conv => lhs; unfold dropG
  rw [if_neg (by rw [hm]; decide)]
theorem OtTo.gone (Y : DevGl D) (h : OtTo D d n first g q acc G Gg sv gv nv w wr k dk Gk Gdk) (hok : Dv.Ok d) (hk : k < (namesD d).length) (hm : mineS n acc.length (namesD d)[k] = false) {d1 : Dv} {e1 : Int} (hr : remD dk (namesD d)[k] = (d1, e1)) {W w' : World} (hW : Below wr.heap.size wr W) {Gd' : Nat → Prop} (hd : Did D Gdk g d1 W w' Gd') :
    (e1 ≠ 0 → OtEnd D d n first g q acc G Gg sv gv w (.returned (.int .i64 e1)) w') ∧ (e1 = 0 → OtTo D d n first g q acc G Gg sv gv nv w w' (k + 1) d1 (fun b => Gk b ∨ Gd' b) Gd') := by
  have h2 := h.below Y hW
  have k1 := h2.lg.did Y hd
  have f1 : Frm G w w' := h2.frm.trans hd.2.1 (fun i hi => h.new i (h.lg.sub i hi))
  have n1 : ∀ b, Gk b ∨ Gd' b → G b ∨ w.heap.size ≤ b := fun b hb => hb.elim (h.new b) (fun e => (hd.2.2 b e).elim (fun e => h.new b (h.lg.sub b e)) (fun e => .inr (by have := h2.frm.size; omega)))
  have heq := h.eq
  rw [List.drop_eq_getElem_cons hk, dropG_cons hm, hr] at heq
  have hpr : lkF dk (namesD d)[k] ≠ none := h.at_ _ (by rw [List.drop_eq_getElem_cons hk]; exact List.mem_cons_self)
  obtain ⟨d2, e2, q2, ok2, h3⟩ := rem_step h.ok (namesD d)[k]
  rw [hr] at q2
  injection q2 with x1 x2
  subst x1 x2
  have hob : ∀ b, nv.ownBlock = some b → b < W.heap.size := fun b hb => by
    rcases h2.own with ⟨rfl, _⟩ | ⟨g9, n9, cap, r, rfl, _, _, h9, _⟩
    · cases hb
    · injection hb with hb
      subst hb
      exact block_lt h9
  refine ⟨fun he => ?_, fun he => ?_⟩
  · have h10 := rem_err h.ok hpr (by rw [hr]; exact he)
    rw [hr] at h10
    simp only [if_neg he] at heq
    exact ⟨d1, 10, _, _, heq, by rw [show e1 = 10 from h10], k1, f1, n1, ok2⟩
  · subst he
    simp only [if_true] at heq
    refine ⟨k1, heq, ok2, fun s hs hs2 => ?_, h2.own.frm hd.2.1 (fun b hb e => h.off b hb (h.lg.sub b e)), fun b hb e => e.elim (h.off b hb) (fun e => (hd.2.2 b e).elim (fun e => h.off b hb (h.lg.sub b e)) (fun e => by have := hob b hb; omega)), f1, n1⟩
    have hnd := nodup_names hok
    have hne : s ≠ (namesD d)[k] := fun e => by
      rw [e] at hs
      have h5 := (List.drop_sublist k (namesD d)).nodup hnd
      rw [List.drop_eq_getElem_cons hk] at h5
      exact (List.nodup_cons.1 h5).1 hs
    rcases h3 with ⟨hn, _⟩ | ⟨_, _, _, _, hkk⟩
    · exact absurd rfl hn.1
    · rw [hkk, if_neg hne] at hs2
      exact h.at_ s (by rw [List.drop_eq_getElem_cons hk]; exact List.mem_cons_of_mem _ hs) hs2
end
set_option maxHeartbeats 4000000 in
theorem others14 {D : DevP} (Y : DevOkG D) {w : World} {G : Nat → Prop} {g q : Nat} {d : Dv} {n first : Nat} {acc : List (List (List Int))} {Gd Gg : Nat → Prop} {sv gv : Value} (h : LgK D w G g q d (rsL n first acc) Gd Gg sv gv []) (ok : Dv.Ok d) (hbd : SgBd (rsL n first acc)) :
    Calls Tryz.prog 37 #[.pointer (some ⟨q, 0, none⟩)] w (OtEnd D d n first g q acc G Gg sv gv w) := by
  obtain ⟨As, cs, rfl, _, _, hcm⟩ := h.slice hbd
  have hfew : acc.length ≤ 64 := hbd.few
  have hn2 : n ≤ 999999999999 := hbd.n2
  have c0 := h.cell.1
  have hnl : (namesD d).length ≤ 64 := by unfold namesD; rw [List.length_map]; exact ok.ln
  have hsz : Hid (∀ k (hk : k < (namesD d).length), ((namesD d)[k]).size ≤ 16) := Lib.hid fun k hk => by
    have := names_mem.1 (List.getElem_mem hk)
    cases hl : lkF d (namesD d)[k] with
    | none => exact absurd hl this
    | some x => exact lk_name ok hl
  have HNM : Hid (Calls Tryz.prog 23 #[.pointer (some ⟨g, 0, none⟩)] w fun e w' => ∃ A c, e = .returned (.slice A (namesD d).length c) ∧ OtTo D d n first g q acc G Gg (.slice As acc.length cs) gv (.slice A (namesD d).length c) w w' 0 d G Gd) := Lib.hid (by
    refine (Y.names h.dev ok).mono ?_
    rintro e w' ⟨v, he, hv, hb⟩
    obtain ⟨A, c, rfl⟩ := hv.letters
    refine ⟨A, c, he, h.below Y.dev hb, rfl, ok, fun s hs => names_mem.1 hs, hv, fun b hb2 e => ?_, Frm.of_below hb, fun b hb => .inl hb⟩
    have := (hv.own.lt b hb2).1
    have := h.lt b e
    omega)
  have OK := Lib.hid ok
  clear h ok hbd hcm
  go_enter Tryz.func37, Tryz.ntmps37
  go_wp2_with fail
  refine HNM.out.mono ?_
  rintro e w1 ⟨An, cn, rfl, ot1⟩
  have HST := Lib.hid ot1
  clear ot1 HNM
  obtain ⟨L, hL⟩ : ∃ L, Hid ((namesD d).length = L) := ⟨_, Lib.hid rfl⟩
  rw [hL.out] at hnl HST ⊢
  go_wp2
  go_loopw [4, 5, 6, 13] (fun _ _ _ i wr => ∃ k : Nat, k ≤ L ∧ i = .int .i64 (k : Int) ∧ Hid (∃ dk Gk Gdk, OtTo D d n first g q acc G Gg (.slice As acc.length cs) gv (.slice An L cn) w wr k dk Gk Gdk)) (fun _ _ _ i _ => L - (intOf i).toNat)
  case atStart => exact ⟨0, Nat.zero_le _, rfl, Lib.hid ⟨_, _, _, HST.out⟩⟩
  case round =>
    obtain ⟨k, hk, rfl, hot⟩ := hrel
    obtain ⟨dk, Gk, Gdk, ot⟩ := hot.out
    have OT := Lib.hid ot
    clear ot hot
    by_cases hlt : k < L
    · have hkl : Hid (k < (namesD d).length) := Lib.hid (by rw [hL.out]; exact hlt)
      obtain ⟨bn, cap, hv, hbn1, hbn2, hc1, hc2, cx, _⟩ := OT.out.own.own.elem hkl.out
      injection hv with hv1 hv2 hv3
      subst hv1 hv3
      have HSG : Hid (∀ W, Below wr.heap.size wr W → Calls Tryz.prog 73 #[.string ((namesD d)[k]'hkl.out)] W fun e w' => e = .returned (.int .i64 (numS ((namesD d)[k]'hkl.out) : Nat)) ∧ Below wr.heap.size wr w' ∧ w'.cell? ⟨q, 0, none⟩ = some (.pointer (some ⟨g, 0, none⟩)) ∧ w'.cell? ⟨q, 1, none⟩ = some (.int .i64 (n : Nat)) ∧ w'.cell? ⟨q, 3, none⟩ = some (.slice As acc.length cs)) := Lib.hid fun W hW => by
        refine (segOf_any _ (hsz.out k hkl.out) W ((Y.dev.gl OT.out.lg.dev).below hW)).mono ?_
        rintro e w' ⟨he, hb⟩
        have hb2 := hW.trans (hb.mono hW.size)
        obtain ⟨x0, x1, _, x3, _⟩ := (OT.out.lg.below Y.dev hb2).cell
        exact ⟨he, hb2, x0, x1, x3⟩
      have HMI : Hid (mineS n acc.length ((namesD d)[k]'hkl.out) = decide (numS ((namesD d)[k]'hkl.out) = 0 ∨ (n ≤ numS ((namesD d)[k]'hkl.out) ∧ numS ((namesD d)[k]'hkl.out) < n + acc.length))) := Lib.hid (mineS_num _ _ _)
      have HSK : Hid (mineS n acc.length ((namesD d)[k]'hkl.out) = true → ∀ W, Below wr.heap.size wr W → Hid (∃ dk Gk Gdk, OtTo D d n first g q acc G Gg (.slice As acc.length cs) gv (.slice (some ⟨bn, 0, none⟩) L cn) w W (k + 1) dk Gk Gdk)) := Lib.hid fun hm W hW => Lib.hid ⟨_, _, _, (OT.out.below Y.dev hW).skip hkl.out hm⟩
      obtain ⟨d1, e1, q1, ok1, hst1⟩ := rem_step OT.out.ok ((namesD d)[k]'hkl.out)
      have HRM : Hid (mineS n acc.length ((namesD d)[k]'hkl.out) = false → ∀ W, Below wr.heap.size wr W → Calls Tryz.prog 68 #[.pointer (some ⟨g, 0, none⟩), .string ((namesD d)[k]'hkl.out)] W fun e w' => e = .returned (.int .i64 e1) ∧ Hid (e1 ≠ 0 → OtEnd D d n first g q acc G Gg (.slice As acc.length cs) gv w (.returned (.int .i64 e1)) w') ∧ Hid (e1 = 0 → ∃ dk Gk Gdk, OtTo D d n first g q acc G Gg (.slice As acc.length cs) gv (.slice (some ⟨bn, 0, none⟩) L cn) w w' (k + 1) dk Gk Gdk)) := Lib.hid fun hm W hW => by
        refine (Y.remove _ (Y.dev.below OT.out.lg.dev hW) OT.out.ok).mono ?_
        rintro e w' ⟨he, Gd', hd⟩
        rw [q1] at he hd
        obtain ⟨r1, r2⟩ := OT.out.gone Y.dev OK.out hkl.out hm q1 hW hd
        exact ⟨he, Lib.hid r1, Lib.hid fun h0 => ⟨_, _, _, r2 h0⟩⟩
      have i1 : (k : Int) < (L : Int) := by omega
      have cx2 : wr.cell? ⟨bn, 0 + k, none⟩ = some (.string ((namesD d)[k]'hkl.out)) := by rw [Nat.zero_add]; exact cx
      generalize (namesD d)[k]'hkl.out = nm at *
      generalize acc.length = K at *
      have hnb : Hid (numS nm ≤ 1000000000000) := Lib.hid (by
        cases hs : isSeg nm with
        | false => rw [numS_zero hs]; omega
        | true => have := (seg_is hs).2.1; omega)
      obtain ⟨MI, hMI⟩ : ∃ MI : Int, Hid (MI = (numS nm : Int)) := ⟨_, Lib.hid rfl⟩
      have HSG2 : Hid (∀ W, Below wr.heap.size wr W → Calls Tryz.prog 73 #[.string nm] W fun e w' => e = .returned (.int .i64 MI) ∧ Below wr.heap.size wr w' ∧ w'.cell? ⟨q, 0, none⟩ = some (.pointer (some ⟨g, 0, none⟩)) ∧ w'.cell? ⟨q, 1, none⟩ = some (.int .i64 (n : Nat)) ∧ w'.cell? ⟨q, 3, none⟩ = some (.slice As K cs)) := Lib.hid (by rw [hMI.out]; exact HSG.out)
      clear hL hsz HST OT hkl HSG q1 ok1 hst1 OK hv2
      have w3' : IntKind.i64.wrap ((n : Int) + (K : Int)) = (n : Int) + (K : Int) := by rw [IntKind.wrap_i64]; omega
      by_cases h0 : numS nm = 0
      · have HS1 := Lib.hid (HSK.out (by rw [HMI.out]; exact decide_eq_true (.inl h0)))
        have a0 : (MI == 0) = true := by rw [hMI.out, h0]; rfl
        clear h0 hnb HMI hMI
        go_wp2_with fail
        refine (HSG2.out wr (Below.refl _ _)).mono ?_
        rintro e w2 ⟨rfl, b2, x0, x1, x3⟩
        have HS2 := Lib.hid (fun m : Nat => HS1.out _ (below_drewN b2 m))
        clear b2
        go_wp2
        go_quiet (fail)
        go_wp2
        go_roundw
        case rel => exact ⟨k + 1, by omega, by go_num, HS2.out _⟩
        case measure => simp [intOf]; omega
      have a0 : (MI == 0) = false := by rw [hMI.out]; simpa using h0
      by_cases h1 : n ≤ numS nm
      case neg =>
        have hmf : mineS n K nm = false := by rw [HMI.out]; exact decide_eq_false (by omega)
        have HR1 := Lib.hid (HRM.out hmf)
        have a1 : decide ((n : Int) ≤ MI) = false := by rw [decide_eq_false_iff_not, hMI.out]; omega
        clear h0 hnb HMI hMI hmf h1
        by_cases he : e1 = 0
        · subst he
          go_wp2_with fail
          refine (HSG2.out wr (Below.refl _ _)).mono ?_
          rintro e w2 ⟨rfl, b2, x0, x1, x3⟩
          have HRW := Lib.hid (fun m : Nat => HR1.out _ (below_drewN b2 m))
          clear b2
          go_wp2
          go_quiet (fail)
          go_wp2_with fail
          refine (HRW.out _).mono ?_
          rintro e w3 ⟨rfl, r1, r2⟩
          have HO := Lib.hid (r2.out (by first | trivial | rfl))
          clear r1 r2
          go_wp2
          go_roundw
          case rel => exact ⟨k + 1, by omega, by go_num, HO⟩
          case measure => simp [intOf]; omega
        · have i2 : (e1 == 0) = false := by simpa using he
          have i3 : (e1 != 0) = true := by simpa using he
          have HE0 := Lib.hid he
          clear he
          go_wp2_with fail
          refine (HSG2.out wr (Below.refl _ _)).mono ?_
          rintro e w2 ⟨rfl, b2, x0, x1, x3⟩
          have HRW := Lib.hid (fun m : Nat => HR1.out _ (below_drewN b2 m))
          clear b2
          go_wp2
          go_quiet (fail)
          go_wp2_with fail
          refine (HRW.out _).mono ?_
          rintro e w3 ⟨rfl, r1, r2⟩
          have HO := Lib.hid (r1.out HE0.out)
          clear r1 r2
          go_wp2
          go_ret
          exact HO.out
      have a1 : decide ((n : Int) ≤ MI) = true := by rw [decide_eq_true_iff, hMI.out]; omega
      by_cases h2 : numS nm < n + K
      · have HS1 := Lib.hid (HSK.out (by rw [HMI.out]; exact decide_eq_true (.inr ⟨h1, h2⟩)))
        have a2 : decide (MI < (n : Int) + (K : Int)) = true := by rw [decide_eq_true_iff, hMI.out]; omega
        clear h0 hnb HMI hMI h1 h2
        go_wp2_with fail
        refine (HSG2.out wr (Below.refl _ _)).mono ?_
        rintro e w2 ⟨rfl, b2, x0, x1, x3⟩
        have HS2 := Lib.hid (fun m : Nat => HS1.out _ (below_drewN b2 m))
        clear b2
        go_wp2
        go_quiet (fail)
        go_wp2
        go_roundw
        case rel => exact ⟨k + 1, by omega, by go_num, HS2.out _⟩
        case measure => simp [intOf]; omega
      · have hmf : mineS n K nm = false := by rw [HMI.out]; exact decide_eq_false (by omega)
        have HR1 := Lib.hid (HRM.out hmf)
        have a2 : decide (MI < (n : Int) + (K : Int)) = false := by rw [decide_eq_false_iff_not, hMI.out]; omega
        clear h0 hnb HMI hMI hmf h1 h2
        by_cases he : e1 = 0
        · subst he
          go_wp2_with fail
          refine (HSG2.out wr (Below.refl _ _)).mono ?_
          rintro e w2 ⟨rfl, b2, x0, x1, x3⟩
          have HRW := Lib.hid (fun m : Nat => HR1.out _ (below_drewN b2 m))
          clear b2
          go_wp2
          go_quiet (fail)
          go_wp2_with fail
          refine (HRW.out _).mono ?_
          rintro e w3 ⟨rfl, r1, r2⟩
          have HO := Lib.hid (r2.out (by first | trivial | rfl))
          clear r1 r2
          go_wp2
          go_roundw
          case rel => exact ⟨k + 1, by omega, by go_num, HO⟩
          case measure => simp [intOf]; omega
        · have i2 : (e1 == 0) = false := by simpa using he
          have i3 : (e1 != 0) = true := by simpa using he
          have HE0 := Lib.hid he
          clear he
          go_wp2_with fail
          refine (HSG2.out wr (Below.refl _ _)).mono ?_
          rintro e w2 ⟨rfl, b2, x0, x1, x3⟩
          have HRW := Lib.hid (fun m : Nat => HR1.out _ (below_drewN b2 m))
          clear b2
          go_wp2
          go_quiet (fail)
          go_wp2_with fail
          refine (HRW.out _).mono ?_
          rintro e w3 ⟨rfl, r1, r2⟩
          have HO := Lib.hid (r1.out HE0.out)
          clear r1 r2
          go_wp2
          go_ret
          exact HO.out
    · obtain rfl : k = L := by omega
      have HE := Lib.hid (OT.out.done (by rw [hL.out]; exact Nat.le_refl _))
      clear OT
      go_wp2
      go_ret
      exact HE.out
end Go.Proofs.YtbdhhmhlcdganaaGreatDoor
namespace Go.Proofs.YtbdhhmhlcdganaaGreatDoor
open Go.RowKit
set_option linter.unusedVariables false
set_option maxRecDepth 100000

def OpTo (D : DevP) (G : Nat → Prop) (g : Nat) (d : Dv) (w : World) (e : Ending) (w' : World) : Prop := ∃ d' o E, openG d = (d', o, E) ∧ ((o = none ∧ Stp D G g d' (.tuple #[.pointer none, .int .i64 E]) w e w') ∨ (∃ l q, o = some l ∧ LStp (KLg D) G g q d' l (.tuple #[.pointer (some ⟨q, 0, none⟩), .int .i64 E]) w e w'))
theorem openG_off {d : Dv} (h : d.off = true) : openG d = (d, none, 10) := by unfold openG; rw [if_pos h]
theorem openG_wipe {d d1 : Dv} {e1 : Int} (h : d.off = false) (q : wipeG d hnewN = (d1, e1)) (he : e1 ≠ 0) : openG d = (d1, none, 10) := by unfold openG; rw [if_neg (by rw [h]; simp), q, if_pos he]
theorem openG_head {d d1 : Dv} (h : d.off = false) (q : wipeG d hnewN = (d1, 0)) (hh : headG d1 = none) : openG d = (d1, none, 30) := by unfold openG; rw [if_neg (by rw [h]; simp), q, if_neg (by simp), hh]
theorem openG_read {d d1 d2 : Dv} {n f : Nat} {acc : List (List (List Int))} {E : Int} (h : d.off = false) (q : wipeG d hnewN = (d1, 0)) (hh : headG d1 = some (n, f)) (hr : readG 66 d1 n [] = (d2, acc, E)) (he : E ≠ 0) : openG d = (d2, none, E) := by unfold openG; rw [if_neg (by rw [h]; simp), q, if_neg (by simp), hh]; simp only; rw [hr, if_pos he]
theorem openG_drop {d d1 d2 d3 : Dv} {n f : Nat} {acc : List (List (List Int))} {E : Int} (h : d.off = false) (q : wipeG d hnewN = (d1, 0)) (hh : headG d1 = some (n, f)) (hr : readG 66 d1 n [] = (d2, acc, 0)) (hd : dropG n acc.length d2 (namesD d2) = (d3, E)) (he : E ≠ 0) : openG d = (d3, none, 10) := by unfold openG; rw [if_neg (by rw [h]; simp), q, if_neg (by simp), hh]; simp only; rw [hr, if_neg (by simp)]; simp only; rw [hd, if_pos he]
theorem openG_all {d d1 d2 d3 : Dv} {n f : Nat} {acc : List (List (List Int))} (h : d.off = false) (q : wipeG d hnewN = (d1, 0)) (hh : headG d1 = some (n, f)) (hr : readG 66 d1 n [] = (d2, acc, 0)) (hd : dropG n acc.length d2 (namesD d2) = (d3, 0)) : openG d = (d3, some ⟨n, f, acc, f + cntS acc⟩, 0) := by unfold openG; rw [if_neg (by rw [h]; simp), q, if_neg (by simp), hh]; simp only; rw [hr, if_neg (by simp)]; simp only; rw [hd, if_neg (by simp)]
theorem dropG_ten {n k : Nat} : ∀ (L : List ByteArray) (d : Dv) (d' : Dv) (E : Int), dropG n k d L = (d', E) → E ≠ 0 → E = 10
  | [], d, d', E, h, he => by unfold dropG at h; injection h with _ h; exact absurd h.symm he
  | s :: t, d, d', E, h, he => by
    unfold dropG at h
    split at h
    · exact dropG_ten t d d' E h he
    · split at h
      · exact dropG_ten t _ d' E h he
      · injection h with _ h; exact h.symm
theorem wipeG_ten {d : Dv} {s : ByteArray} (h : (wipeG d s).2 ≠ 0) : (wipeG d s).2 = 10 := by
  unfold wipeG at h ⊢
  split
  · rename_i h0; rw [if_pos h0] at h; exact absurd rfl h
  · split
    · rename_i h0 h1; rw [if_neg h0, if_pos h1] at h; exact absurd rfl h
    · rfl
theorem lgk_new {D : DevP} (Y : DevGl D) {W : World} {G : Nat → Prop} {g : Nat} {d : Dv} {n f : Nat} (h : D W G g d) : LgK D (W.alloc (.cells #[.pointer (some ⟨g, 0, none⟩), .int .i64 (n : Nat), .int .i64 (f : Nat), .slice none 0 0, .int .i64 0, .int .i64 (f : Nat), .int .i64 0, .slice none 0 0] 72)) (fun b => G b ∨ b = W.heap.size) g W.heap.size d (rsL n f []) G (fun _ => False) (.slice none 0 0) (.slice none 0 0) [] := by
  have hb := bel_alloc W (.cells #[.pointer (some ⟨g, 0, none⟩), .int .i64 (n : Nat), .int .i64 (f : Nat), .slice none 0 0, .int .i64 0, .int .i64 (f : Nat), .int .i64 0, .slice none 0 0] 72)
  refine ⟨Y.below h hb, fun b hb => .inl hb, fun b hb => hb.elim, ⟨.inr rfl, fun e => by have := Y.lt h _ e; omega⟩, heap_alloc_new W _, PtOwn.nil _ _ _, (fun b hb => by cases hb), Gone.nil _, rfl, fun b hb => ?_, fun b hb => ?_⟩
  · rcases hb with hb | rfl
    · have := Y.lt h b hb; simp; omega
    · simp
  · rcases hb with hb | rfl
    · exact Y.ng h b hb
    · intro e; have := (Y.gl h).lt e; omega
theorem stp_of_lgk {D : DevP} {w0 w W w' : World} {G G5 G' : Nat → Prop} {g q : Nat} {d : Dv} {l : Lg} {Gd Gg : Nat → Prop} {sv gv : Value} {gs : List (List Int)} (v : Value) (hf : Frm G w W) (hn : ∀ b, G5 b → G b ∨ w.heap.size ≤ b) (k : LgK D w' G' g q d l Gd Gg sv gv gs) (f : Frm G5 W w') (n : ∀ b, G' b → G5 b ∨ W.heap.size ≤ b) : Stp D G g d v w (.returned v) w' :=
  ⟨rfl, Gd, k.dev, hf.trans f hn, fun b hb => (n b (k.sub b hb)).elim (hn b) (fun e => .inr (Nat.le_trans hf.size e))⟩
set_option maxHeartbeats 2000000 in
theorem open14 {D : DevP} (Y : DevOkG D) {w : World} {G : Nat → Prop} {g : Nat} {d : Dv} (h : D w G g d) (ok : Dv.Ok d) : Calls Tryz.prog 10 #[.pointer (some ⟨g, 0, none⟩)] w (OpTo D G g d w) := by
  have HDN := Lib.hid (Y.down h ok)
  by_cases hoff : d.off = true
  · have HEND : Hid (∀ W, Below w.heap.size w W → OpTo D G g d w (.returned (.tuple #[.pointer none, .int .i64 10])) W) := Lib.hid fun W hW => ⟨d, none, 10, openG_off hoff, .inl ⟨rfl, Stp.same Y.dev h hW⟩⟩
    rw [hoff] at HDN
    clear h ok hoff
    go_enter Tryz.func10, Tryz.ntmps10
    go_wp2_with fail
    refine HDN.out.mono ?_
    rintro e w1 ⟨rfl, b1⟩
    have HE := Lib.hid (HEND.out w1 b1)
    clear b1
    go_wp2
    go_ret2
    exact HE.out
  have hoff' : d.off = false := by simpa using hoff
  rw [hoff'] at HDN
  obtain ⟨d1, e1, q1⟩ : ∃ d1 e1, wipeG d hnewN = (d1, e1) := ⟨_, _, rfl⟩
  have ok1 : Dv.Ok d1 := by
    have h9 : (wipeG d hnewN).1 = d1 := by rw [q1]
    rw [← h9]
    unfold wipeG
    split
    · exact ok
    · split <;> exact rem_ok ok hnewN
  have HWI : Hid (∀ W, Below w.heap.size w W → Calls Tryz.prog 34 #[.pointer (some ⟨g, 0, none⟩)] W fun e w' => e = .returned (.int .i64 e1) ∧ ∃ G2, Did D G g d1 W w' G2) := Lib.hid fun W hW => by
    refine (wipe14 Y (Y.dev.below h hW) ok hoff').mono ?_
    rintro e w' ⟨he, hd⟩
    rw [q1] at he hd
    exact ⟨he, hd⟩
  have HDD : Hid (∀ W w' G2, Below w.heap.size w W → Did D G g d1 W w' G2 → Frm G w w' ∧ ∀ b, G2 b → G b ∨ w.heap.size ≤ b) := Lib.hid fun W w' G2 hW hd => ⟨(Frm.of_below hW).trans hd.2.1 (fun i hi => .inl hi), fun b hb => (hd.2.2 b hb).imp id (fun e => Nat.le_trans hW.size e)⟩
  by_cases he1 : e1 = 0
  case neg =>
    have i2 : (e1 == 0) = false := by simpa using he1
    have i3 : (e1 != 0) = true := by simpa using he1
    have h10 : e1 = 10 := by
      have := wipeG_ten (d := d) (s := hnewN) (by rw [q1]; exact he1)
      rw [q1] at this
      exact this
    have HEND : Hid (∀ W w' G2, Below w.heap.size w W → Did D G g d1 W w' G2 → OpTo D G g d w (.returned (.tuple #[.pointer none, .int .i64 e1])) w') := Lib.hid fun W w' G2 hW hd => by
      obtain ⟨f1, n1⟩ := HDD.out W w' G2 hW hd
      refine ⟨d1, none, 10, openG_wipe hoff' q1 he1, .inl ⟨rfl, by rw [h10], G2, hd.1, f1, n1⟩⟩
    clear h ok hoff hoff' q1 ok1 he1 h10 HDD
    go_enter Tryz.func10, Tryz.ntmps10
    go_wp2_with fail
    refine HDN.out.mono ?_
    rintro e w1 ⟨rfl, b1⟩
    go_wp2_with fail
    refine (HWI.out w1 b1).mono ?_
    rintro e w2 ⟨rfl, G2, hd⟩
    have HE := Lib.hid (HEND.out w1 w2 G2 b1 hd)
    clear b1 hd
    go_wp2
    go_ret2
    exact HE.out
  subst he1
  have HHD : Hid (∀ W G2, D W G2 g d1 → Calls Tryz.prog 35 #[.pointer (some ⟨g, 0, none⟩)] W (HdTo d1 W)) := Lib.hid fun W G2 h2 => head14 Y h2 ok1
  cases hh : headG d1 with
  | none =>
    have HEND : Hid (∀ W w' G2 w3, Below w.heap.size w W → Did D G g d1 W w' G2 → Below w'.heap.size w' w3 → OpTo D G g d w (.returned (.tuple #[.pointer none, .int .i64 30])) w3) := Lib.hid fun W w' G2 w3 hW hd h3 => by
      obtain ⟨f1, n1⟩ := HDD.out W w' G2 hW hd
      exact ⟨d1, none, 30, openG_head hoff' q1 hh, .inl ⟨rfl, rfl, G2, Y.dev.below hd.1 h3, f1.trans (Frm.of_below (F := fun _ => False) h3) (fun _ e => e.elim), n1⟩⟩
    have HHD2 : Hid (∀ W G2, D W G2 g d1 → Calls Tryz.prog 35 #[.pointer (some ⟨g, 0, none⟩)] W fun e w' => e = .returned (.tuple #[.agg #[.int .i64 0, .int .i64 0], .int .i64 30]) ∧ Below W.heap.size W w') := Lib.hid fun W G2 h2 => by
      refine (HHD.out W G2 h2).mono ?_
      rintro e w' ⟨⟨n, f, E, he, hor⟩, hb⟩
      rcases hor with ⟨n', f', h9, _⟩ | ⟨_, rfl, rfl, rfl⟩
      · rw [hh] at h9; cases h9
      · exact ⟨he, hb⟩
    clear h ok hoff hoff' q1 ok1 HDD HHD hh
    go_enter Tryz.func10, Tryz.ntmps10
    go_wp2_with fail
    refine HDN.out.mono ?_
    rintro e w1 ⟨rfl, b1⟩
    go_wp2_with fail
    refine (HWI.out w1 b1).mono ?_
    rintro e w2 ⟨rfl, G2, hd⟩
    have HH2 := Lib.hid (HHD2.out w2 G2 hd.1)
    have HE := Lib.hid (fun w3 => HEND.out w1 w2 G2 w3 b1 hd)
    clear b1 hd
    go_wp2_with fail
    refine HH2.out.mono ?_
    rintro e w3 ⟨rfl, b3⟩
    have HE3 := Lib.hid (HE.out _ (b3.alloc b3.size (.cells #[.int .i64 0, .int .i64 0] 67)))
    clear b3
    go_wp2
    go_ret2
    exact HE3.out
  | some x =>
    obtain ⟨n, f⟩ := x
    obtain ⟨hn1, hn2, hf⟩ := headG_le hh
    have HHD2 : Hid (∀ W G2, D W G2 g d1 → Calls Tryz.prog 35 #[.pointer (some ⟨g, 0, none⟩)] W fun e w' => e = .returned (.tuple #[.agg #[.int .i64 (n : Nat), .int .i64 (f : Nat)], .int .i64 0]) ∧ Below W.heap.size W w') := Lib.hid fun W G2 h2 => by
      refine (HHD.out W G2 h2).mono ?_
      rintro e w' ⟨⟨n', f', E, he, hor⟩, hb⟩
      rcases hor with ⟨n2, f2, h9, rfl, rfl, rfl⟩ | ⟨h9, _⟩
      · rw [hh] at h9
        injection h9 with h9
        injection h9 with h8 h9
        subst h8 h9
        exact ⟨he, hb⟩
      · rw [hh] at h9; cases h9
    have HOK := Lib.hid ok
    have HOK1 := Lib.hid ok1
    have HOFF := Lib.hid hoff'
    have HQ1 := Lib.hid q1
    have HHH := Lib.hid hh
    clear h ok hoff hoff' q1 ok1 HHD hh
    go_enter Tryz.func10, Tryz.ntmps10
    go_wp2_with fail
    refine HDN.out.mono ?_
    rintro e w1 ⟨rfl, b1⟩
    go_wp2_with fail
    refine (HWI.out w1 b1).mono ?_
    rintro e w2 ⟨rfl, G2, hd⟩
    have HH2 := Lib.hid (HHD2.out w2 G2 hd.1)
    obtain ⟨f2, n2⟩ := HDD.out w1 w2 G2 b1 hd
    have HD2 := Lib.hid hd.1
    clear b1 hd HDD
    go_wp2_with fail
    refine HH2.out.mono ?_
    rintro e w3 ⟨rfl, b3⟩
    obtain ⟨w4, hw4⟩ : ∃ w4, w3.alloc (.cells #[.int .i64 (n : Nat), .int .i64 (f : Nat)] 67) = w4 := ⟨_, rfl⟩
    have b34 : Below w3.heap.size w3 w4 := by rw [← hw4]; exact bel_alloc _ _
    have z4 : w4.heap.size = w3.heap.size + 1 := by rw [← hw4]; simp
    have b4 := b3.trans (b34.mono b3.size)
    have d4 := Y.dev.below HD2.out b4
    obtain ⟨w5, hw5⟩ : ∃ w5, w4.alloc (.cells #[.pointer (some ⟨g, 0, none⟩), .int .i64 (n : Nat), .int .i64 (f : Nat), .slice none 0 0, .int .i64 0, .int .i64 (f : Nat), .int .i64 0, .slice none 0 0] 72) = w5 := ⟨_, rfl⟩
    have k5 := lgk_new (n := n) (f := f) Y.dev d4
    rw [hw5, z4] at k5
    have b45 : Below w4.heap.size w4 w5 := by rw [← hw5]; exact bel_alloc _ _
    have f5 : Frm G w w5 := (f2.trans (Frm.of_below (F := fun _ => False) b4) (fun _ e => e.elim)).trans (Frm.of_below (F := fun _ => False) b45) (fun _ e => e.elim)
    have n5 : ∀ b, G2 b ∨ b = w3.heap.size + 1 → G b ∨ w.heap.size ≤ b := fun b hb => hb.elim (n2 b) (fun e => .inr (by have := f2.size; have := b4.size; omega))
    have HR := Lib.hid (reads14 Y k5 HOK1.out hn1 hn2 hf)
    have HF5 := Lib.hid f5
    have HN5 := Lib.hid n5
    have x40 : w4.cell? ⟨w3.heap.size, 0, none⟩ = some (.int .i64 (n : Nat)) := by rw [← hw4, World.cell?_alloc_at _ _ _ _ rfl]; rfl
    have x41 : w4.cell? ⟨w3.heap.size, 1, none⟩ = some (.int .i64 (f : Nat)) := by rw [← hw4, World.cell?_alloc_at _ _ _ _ rfl]; rfl
    clear k5 f5 n5 d4 b34 b45 f2 n2 b3 HH2
    go_wp2_with fail
    refine HR.out.mono ?_
    rintro e w6 ⟨acc, d2, E, G6, Gd6, sv6, hr6, rfl, k6, f6, n6, ok6, bd6⟩
    by_cases hE : E = 0
    case neg =>
      have i2 : (E == 0) = false := by simpa using hE
      have i3 : (E != 0) = true := by simpa using hE
      have HE := Lib.hid (show OpTo D G g d w (.returned (.tuple #[.pointer none, .int .i64 E])) w6 from ⟨d2, none, E, openG_read HOFF.out HQ1.out HHH.out hr6 hE, .inl ⟨rfl, stp_of_lgk (w0 := w) _ HF5.out HN5.out k6 f6 n6⟩⟩)
      clear hr6 k6 f6 n6 ok6 bd6 hE
      go_wp2
      go_ret2
      exact HE.out
    subst hE
    have f6w : Frm G w w6 := HF5.out.trans f6 HN5.out
    have n6w : ∀ b, G6 b → G b ∨ w.heap.size ≤ b := fun b hb => (n6 b hb).elim (HN5.out b) (fun e => .inr (Nat.le_trans HF5.out.size e))
    have HOT := Lib.hid (others14 Y k6 ok6 bd6)
    have HF6 := Lib.hid f6w
    have HN6 := Lib.hid n6w
    have HR6 := Lib.hid hr6
    clear k6 f6 n6 ok6 bd6 hr6 f6w n6w
    go_wp2_with fail
    refine HOT.out.mono ?_
    rintro e w7 ⟨d3, E, G7, Gd7, hd7, rfl, k7, f7, n7, ok7⟩
    by_cases hE : E = 0
    case neg =>
      have i2 : (E == 0) = false := by simpa using hE
      have i3 : (E != 0) = true := by simpa using hE
      have h10 := dropG_ten _ _ _ _ hd7 hE
      have HE := Lib.hid (show OpTo D G g d w (.returned (.tuple #[.pointer none, .int .i64 E])) w7 from ⟨d3, none, 10, openG_drop HOFF.out HQ1.out HHH.out HR6.out hd7 hE, .inl ⟨rfl, by rw [h10]; exact stp_of_lgk (w0 := w) _ HF6.out HN6.out k7 f7 n7⟩⟩)
      clear hd7 k7 f7 n7 ok7 hE h10
      go_wp2
      go_ret2
      exact HE.out
    subst hE
    have hop := openG_all HOFF.out HQ1.out HHH.out HR6.out hd7
    have at7 := (open_is HOK.out hop).2.2.1
    have k8 := k7.safe Y.dev (f + cntS acc)
    have f7w : Frm G w w7 := HF6.out.trans f7 HN6.out
    have n7w : ∀ b, G7 b → G b ∨ w.heap.size ≤ b := fun b hb => (n7 b hb).elim (HN6.out b) (fun e => .inr (Nat.le_trans HF6.out.size e))
    have HE := Lib.hid (show OpTo D G g d w (.returned (.tuple #[.pointer (some ⟨w3.heap.size + 1, 0, none⟩), .int .i64 0])) (w7.setCell ⟨w3.heap.size + 1, 6, none⟩ (.int .i64 ((f + cntS acc : Nat) : Int))) from ⟨d3, some ⟨n, f, acc, f + cntS acc⟩, 0, hop, .inr ⟨_, w3.heap.size + 1, rfl, rfl, _, ⟨_, _, _, _, _, k8, at7⟩, f7w.trans (Frm.set w7 (w3.heap.size + 1) 6 _ k7.gq.1) n7w, fun b hb => hb.elim (n7w b) (fun e => n7w b (k7.sblk b e).1)⟩⟩)
    have x5 := k7.cell.2.2.2.2.2.1
    have x6 := k7.cell.2.2.2.2.2.2.1
    have x5' : w7.cell? ⟨w3.heap.size + 1, 5, none⟩ = some (.int .i64 ((f + cntS acc : Nat) : Int)) := x5
    have x6' : w7.cell? ⟨w3.heap.size + 1, 6, none⟩ = some (.int .i64 0) := x6
    have xf := Joins.unfrozen_of_block k7.box 6
    clear hd7 k7 f7 n7 ok7 hop at7 k8 f7w n7w x5 x6 hw4 hw5 z4 x40 x41 b4
    generalize f + cntS acc = N at *
    generalize w3.heap.size + 1 = qq at *
    clear HF5 HN5 HF6 HN6 HR6 HOT HQ1 HHH HOFF HOK HOK1 HR HD2 HHD2 HWI HDN hn1 hn2 hf
    go_wp2
    go_ret2
    exact HE.out
end Go.Proofs.YtbdhhmhlcdganaaGreatDoor
namespace Go.Proofs.YtbdhhmhlcdganaaGreatDoor
open Go.RowKit
set_option linter.unusedVariables false
set_option maxRecDepth 100000

theorem SgAt.arm {d : Dv} {l : Lg} {k : Nat} (h : SgAt d l k) (n : Int) (hn : n < 9223372036854775808) : SgAt (armD d n) l k := by
  have e : lkF (armD d n) = lkF d := by unfold armD; split <;> rfl
  have eo : (armD d n).off = d.off := by unfold armD; split <;> rfl
  refine ⟨arm_ok h.ok n hn, by rw [e]; exact h.rd, h.mem, fun ho => ?_, h.n1, h.n2, h.few, h.fst, h.nxt, h.saf, h.emp, h.byt⟩
  obtain ⟨h1, h2⟩ := h.live (eo ▸ ho)
  exact ⟨h1, h2.of_lk (arm_ok h.ok n hn) (by rw [e])⟩
theorem logOk14 {D : DevP} (Y : DevOkG D) : LogOk D (KLg D) where
  frm := fun ⟨Gd, Gg, sv, gv, gs, h, ha⟩ hf hn gl => ⟨Gd, Gg, sv, gv, gs, h.frm Y.dev hf hn gl, ha⟩
  gl := fun ⟨_, _, _, _, _, h, _⟩ => Y.dev.gl h.dev
  lt := fun ⟨_, _, _, _, _, h, _⟩ => h.lt
  dev := fun ⟨Gd, _, _, _, _, h, ha⟩ => ⟨ha.ok, Gd, h.dev, h.sub⟩
  openNo := fun h ok he => (open14 Y h ok).mono fun e w' ⟨d2, o, E2, h1, h2⟩ => by
    rw [he] at h1
    injection h1 with h1 h3
    injection h3 with h3 h4
    subst h1 h3 h4
    rcases h2 with ⟨_, h2⟩ | ⟨l, q, h2, _⟩
    · exact h2
    · cases h2
  openYes := fun h ok he => (open14 Y h ok).mono fun e w' ⟨d2, o, E2, h1, h2⟩ => by
    rw [he] at h1
    injection h1 with h1 h3
    injection h3 with h3 h4
    subst h1 h3 h4
    rcases h2 with ⟨h2, _⟩ | ⟨l, q, h2, h5⟩
    · cases h2
    · injection h2 with h2
      subst h2
      have h0 := (open_is ok he).1
      exact ⟨q, h0 ▸ h5⟩
  append := fun A n c p hk hr hn _ _ hn4 _ he => append14 Y hk A n c p hr hn hn4 he
  sync := fun hk he => sync14 Y hk he
  arm := fun n ⟨Gd, Gg, sv, gv, gs, h, ha⟩ hn => (Y.arm n h.dev ha.ok hn).mono fun e w' ⟨he, Gd', h1, h2, h3⟩ => ⟨he, _, ⟨Gd', Gg, sv, gv, gs, h.did Y.dev ⟨h1, h2, h3⟩, ha.arm n hn.2⟩, h2.mono h.sub, fun b hb => hb.elim .inl fun hb => (h3 b hb).imp (h.sub b) id⟩
  first := fun ⟨_, _, _, _, _, h, _⟩ => first14 h
  next := fun ⟨_, _, _, _, _, h, _⟩ => next14 h
  safe := fun ⟨_, _, _, _, _, h, _⟩ => safe14 h
  segments := fun ⟨_, _, _, _, _, h, ha⟩ => segments14 h ha.bd
  get := fun n ⟨_, _, _, _, _, h, ha⟩ hn => get14 Y h ha n hn
end Go.Proofs.YtbdhhmhlcdganaaGreatDoor
namespace Go.Proofs.YtbdhhmhlcdganaaGreatDoor
open Go.Shelf Go.Proofs
def Tryz.sortStr_ren : Go.Shelf.Ren := ⟨fun | 190 => 53 | 125 => 79 | 258 => 78 | 128 => 123 | 129 => 124 | 302 => 114 | 303 => 115 | 304 => 116 | 305 => 117 | 306 => 118 | 307 => 119 | 308 => 120 | 309 => 121 | 310 => 122 | 333 => 151 | 329 => 152 | 330 => 153 | 334 => 154 | 335 => 155 | 336 => 156 | 344 => 178 | n => n, fun | 31 => 51 | 9 => 9 | 3 => 3 | 46 => 114 | 0 => 0 | 51 => 138 | 53 => 105 | 4 => 4 | 183 => 144 | 182 => 143 | 131 => 149 | 5 => 5 | 218 => 169 | 222 => 173 | 228 => 188 | 229 => 189 | n => n, fun | n => n⟩
theorem Tryz.sortStr : Go.Proofs.Lays.n190 Tryz.prog Tryz.sortStr_ren := {
  mixed := by kernel_rfl
  f125 := Tryz.func79.trans (congrArg some (by kernel_rfl))
  f128 := Tryz.func123.trans (congrArg some (by kernel_rfl))
  f129 := Tryz.func124.trans (congrArg some (by kernel_rfl))
  f190 := Tryz.func53.trans (congrArg some (by kernel_rfl))
  f258 := Tryz.func78.trans (congrArg some (by kernel_rfl))
  f302 := Tryz.func114.trans (congrArg some (by kernel_rfl))
  f303 := Tryz.func115.trans (congrArg some (by kernel_rfl))
  f304 := Tryz.func116.trans (congrArg some (by kernel_rfl))
  f305 := Tryz.func117.trans (congrArg some (by kernel_rfl))
  f306 := Tryz.func118.trans (congrArg some (by kernel_rfl))
  f307 := Tryz.func119.trans (congrArg some (by kernel_rfl))
  f308 := Tryz.func120.trans (congrArg some (by kernel_rfl))
  f309 := Tryz.func121.trans (congrArg some (by kernel_rfl))
  f310 := Tryz.func122.trans (congrArg some (by kernel_rfl))
  f329 := Tryz.func152.trans (congrArg some (by kernel_rfl))
  f330 := Tryz.func153.trans (congrArg some (by kernel_rfl))
  f333 := Tryz.func151.trans (congrArg some (by kernel_rfl))
  f334 := Tryz.func154.trans (congrArg some (by kernel_rfl))
  f335 := Tryz.func155.trans (congrArg some (by kernel_rfl))
  f336 := Tryz.func156.trans (congrArg some (by kernel_rfl))
  f344 := Tryz.func178.trans (congrArg some (by kernel_rfl))
  t0 := Tryz.underlying0
  a0 := Tryz.isAgg0
  z0 := Tryz.sizeOf0
  v0 := Tryz.zeroValue0
  t3 := Tryz.underlying3
  a3 := Tryz.isAgg3
  z3 := Tryz.sizeOf3
  v3 := Tryz.zeroValue3
  t4 := Tryz.underlying4
  a4 := Tryz.isAgg4
  z4 := Tryz.sizeOf4
  v4 := Tryz.zeroValue4
  t5 := Tryz.underlying5
  a5 := Tryz.isAgg5
  z5 := Tryz.sizeOf5
  v5 := Tryz.zeroValue5
  t9 := Tryz.underlying9
  a9 := Tryz.isAgg9
  z9 := Tryz.sizeOf9
  v9 := Tryz.zeroValue9
  t31 := Tryz.underlying51
  a31 := Tryz.isAgg51
  z31 := Tryz.sizeOf51
  v31 := Tryz.zeroValue51
  t46 := Tryz.underlying114
  a46 := Tryz.isAgg114
  z46 := Tryz.sizeOf114
  v46 := Tryz.zeroValue114
  t51 := Tryz.underlying138
  a51 := Tryz.isAgg138
  z51 := Tryz.sizeOf138
  v51 := Tryz.zeroValue138
  t53 := Tryz.underlying105
  a53 := Tryz.isAgg105
  z53 := Tryz.sizeOf105
  v53 := Tryz.zeroValue105
  t131 := Tryz.underlying149
  a131 := Tryz.isAgg149
  z131 := Tryz.sizeOf149
  v131 := Tryz.zeroValue149
  t182 := Tryz.underlying143
  a182 := Tryz.isAgg143
  z182 := Tryz.sizeOf143
  v182 := Tryz.zeroValue143
  t183 := Tryz.underlying144
  a183 := Tryz.isAgg144
  z183 := Tryz.sizeOf144
  v183 := Tryz.zeroValue144
  t218 := Tryz.underlying169
  a218 := Tryz.isAgg169
  z218 := Tryz.sizeOf169
  v218 := Tryz.zeroValue169
  t222 := Tryz.underlying173
  a222 := Tryz.isAgg173
  z222 := Tryz.sizeOf173
  v222 := Tryz.zeroValue173
  t228 := Tryz.underlying188
  a228 := Tryz.isAgg188
  z228 := Tryz.sizeOf188
  v228 := Tryz.zeroValue188
  t229 := Tryz.underlying189
  a229 := Tryz.isAgg189
  z229 := Tryz.sizeOf189
  v229 := Tryz.zeroValue189 }
def Tryz.cloneStr_ren : Go.Shelf.Ren := ⟨fun | 316 => 77 | n => n, fun | 9 => 9 | 3 => 3 | 4 => 4 | 37 => 47 | 0 => 0 | 127 => 141 | 5 => 5 | n => n, fun | n => n⟩
theorem Tryz.cloneStr : Go.Proofs.LaysM.n316 Tryz.prog Tryz.cloneStr_ren := {
  mixed := by kernel_rfl
  f316 := Tryz.func77.trans (congrArg some (by kernel_rfl))
  t0 := Tryz.underlying0
  a0 := Tryz.isAgg0
  z0 := Tryz.sizeOf0
  v0 := Tryz.zeroValue0
  t3 := Tryz.underlying3
  a3 := Tryz.isAgg3
  z3 := Tryz.sizeOf3
  v3 := Tryz.zeroValue3
  t4 := Tryz.underlying4
  a4 := Tryz.isAgg4
  z4 := Tryz.sizeOf4
  v4 := Tryz.zeroValue4
  t9 := Tryz.underlying9
  a9 := Tryz.isAgg9
  z9 := Tryz.sizeOf9
  v9 := Tryz.zeroValue9
  t37 := Tryz.underlying47
  a37 := Tryz.isAgg47
  z37 := Tryz.sizeOf47
  v37 := Tryz.zeroValue47
  t127 := Tryz.underlying141
  a127 := Tryz.isAgg141
  z127 := Tryz.sizeOf141
  v127 := Tryz.zeroValue141
  t5 := Tryz.underlying5
  a5 := Tryz.isAgg5
  z5 := Tryz.sizeOf5
  v5 := Tryz.zeroValue5
  i0 := by kernel_rfl
  i3 := by kernel_rfl
  i4 := by kernel_rfl
  i5 := by kernel_rfl
  i9 := by kernel_rfl
  i37 := by kernel_rfl
  i127 := by kernel_rfl }
end Go.Proofs.YtbdhhmhlcdganaaGreatDoor
namespace Go.Proofs.YtbdhhmhlcdganaaGreatDoor
open Go.RowKit Go.Maps
set_option linter.unusedVariables false
set_option maxRecDepth 100000

theorem isName_any (s : ByteArray) (w : World) : Calls Tryz.prog 39 #[.string s] w fun e w' => e = .returned (.bool (okN s)) ∧ w' = w := by
  by_cases h1 : 0 < s.size
  · have HO : Hid (okN s = decide ((s.size : Int) ≤ 16)) := Lib.hid (by unfold okN; rw [decide_eq_true h1, Bool.true_and]; exact decide_eq_decide.2 (by omega))
    rw [HO.out]
    have h2 : (s.size : Int) ≥ 1 := by omega
    go_enter Tryz.func39, Tryz.ntmps39
    go_wp2
    go_ret
    exact ⟨rfl, rfl⟩
  · have HO : Hid (okN s = false) := Lib.hid (by unfold okN; rw [decide_eq_false h1]; rfl)
    rw [HO.out]
    have h2 : ¬ (s.size : Int) ≥ 1 := by omega
    go_enter Tryz.func39, Tryz.ntmps39
    go_wp2
    go_ret
    exact ⟨rfl, rfl⟩
theorem ok_size {s : ByteArray} (h : okN s = true) : s.size ≤ 16 := by
  unfold okN at h
  simp at h
  omega
theorem sclone_any (s : ByteArray) (w : World) (h : s.size ≤ 1000000) : Calls Tryz.prog 52 #[.string s] w fun e w' => e = .returned (.string s) ∧ Below w.heap.size w w' := by
  have hc : Hid (Calls Tryz.prog 77 #[.string s] w fun e w' => e = .returned (.string s) ∧ Below w.heap.size w w') := Lib.hid (Any.stringslite_Clone Tryz.cloneStr s w (by omega))
  go_enter Tryz.func52, Tryz.ntmps52
  go_wp2_with (go_at_call 77; refine hc.out.mono ?_; rintro e w' ⟨rfl, hb⟩)
  go_ret
  exact ⟨rfl, hb⟩

section
variable {w : World} {g bm : Nat} {ms : List Pf} {d : Dv}
theorem down_pd (h : PDx w g bm ms d) : Calls Tryz.prog 33 #[.pointer (some ⟨g, 0, none⟩)] w fun e w' => e = .returned (.bool d.off) ∧ w' = w := by
  obtain ⟨L, c0, c1, c2, c3, c4, cf, _⟩ := h.cells
  clear h
  go_enter Tryz.func33, Tryz.ntmps33
  go_wp2
  go_ret
  exact ⟨rfl, rfl⟩
def FindTo (ms : List Pf) (d : Dv) (s : ByteArray) (w : World) (e : Ending) (w' : World) : Prop := w' = w ∧
  ((d.off = true ∧ e = .returned (.tuple #[.pointer none, .int .i64 10])) ∨ (d.off = false ∧ findD d.fs s = none ∧ e = .returned (.tuple #[.pointer none, .int .i64 6]))
    ∨ (d.off = false ∧ ∃ k, ∃ (h : k < ms.length), findD d.fs s = some k ∧ e = .returned (.tuple #[.pointer (some ⟨ms[k].g, 0, none⟩), .int .i64 0])))
theorem find_pd (s : ByteArray) (h : PDx w g bm ms d) : Calls Tryz.prog 103 #[.pointer (some ⟨g, 0, none⟩), .string s] w (FindTo ms d s w) := by
  obtain ⟨L, c0, c1, c2, c3, c4, cf, _⟩ := h.cells
  have hD : Hid (Calls Tryz.prog 33 #[.pointer (some ⟨g, 0, none⟩)] w fun e w' => e = .returned (.bool d.off) ∧ w' = w) := Lib.hid (down_pd h)
  have hl := h.map.lookup s
  cases ho : d.off with
  | true =>
    rw [ho] at hD c0
    have HO := Lib.hid ho
    clear h hl ho
    go_enter Tryz.func103, Tryz.ntmps103
    go_wp2_with (go_at_call 33; refine hD.out.mono ?_; rintro e w' ⟨rfl, rfl⟩)
    go_ret2
    exact ⟨rfl, .inl ⟨HO.out, rfl⟩⟩
  | false =>
    rw [ho] at hD c0
    cases hf : findD d.fs s with
    | none =>
      rw [h.look_no hf] at hl
      have HF := Lib.hid hf
      have HO := Lib.hid ho
      clear h hf ho
      go_enter Tryz.func103, Tryz.ntmps103
      go_wp2_with (go_at_call 33; refine hD.out.mono ?_; rintro e w' ⟨rfl, rfl⟩)
      go_ret2
      exact ⟨rfl, .inr (.inl ⟨HO.out, HF.out, rfl⟩)⟩
    | some k =>
      obtain ⟨hk, _, hlk, _, _⟩ := h.look_yes hf
      rw [hlk] at hl
      have HF := Lib.hid hf
      have HO := Lib.hid ho
      have HE : Hid (∃ q, ms[k].g = q) := Lib.hid ⟨_, rfl⟩
      obtain ⟨q, hq⟩ := HE.out
      have HQ := Lib.hid hq
      rw [hq] at hl
      clear h hf ho hlk hq
      go_enter Tryz.func103, Tryz.ntmps103
      go_wp2_with (go_at_call 33; refine hD.out.mono ?_; rintro e w' ⟨rfl, rfl⟩)
      go_ret2
      exact ⟨rfl, .inr (.inr ⟨HO.out, k, hk, HF.out, by rw [HQ.out]; rfl⟩)⟩
theorem hasPlace_pd (s : ByteArray) (h : PDx w g bm ms d) : Calls Tryz.prog 40 #[.pointer (some ⟨g, 0, none⟩), .string s] w fun e w' => e = .returned (.bool (!decide (findD d.fs s = none ∧ ¬ d.fs.length < 64))) ∧ w' = w := by
  obtain ⟨L, c0, c1, c2, c3, c4, cf, _⟩ := h.cells
  have hl := h.map.lookup s
  have hn := h.map.len
  have hlen : (ms.map pfN).length = d.fs.length := by rw [List.length_map, ← h.fs, List.length_map]
  rw [hlen] at hn
  obtain ⟨B, hB⟩ : ∃ B, (!decide (findD d.fs s = none ∧ ¬ d.fs.length < 64)) = B := ⟨_, rfl⟩
  rw [hB]
  cases hf : findD d.fs s with
  | none =>
    rw [h.look_no hf] at hl
    have HB : Hid (decide ((d.fs.length : Int) < 64) = B) := Lib.hid (by rw [← hB]; by_cases hx : d.fs.length < 64 <;> simp [hf, hx] <;> omega)
    clear h hf hB
    generalize d.fs.length = n at *
    go_enter Tryz.func40, Tryz.ntmps40
    go_wp2
    go_ret
    exact ⟨by rw [← HB.out]; rfl, rfl⟩
  | some k =>
    obtain ⟨hk, _, hlk, _, _⟩ := h.look_yes hf
    rw [hlk] at hl
    have HB : Hid (B = true) := Lib.hid (by rw [← hB]; simp [hf])
    rw [HB.out]
    generalize ms[k].g = q at *
    clear h hf hlk hB
    go_enter Tryz.func40, Tryz.ntmps40
    go_wp2
    go_ret
    exact ⟨rfl, rfl⟩
end
end Go.Proofs.YtbdhhmhlcdganaaGreatDoor
namespace Go.Proofs.YtbdhhmhlcdganaaGreatDoor
open Go.RowKit Go.Maps
set_option linter.unusedVariables false
set_option maxRecDepth 100000

theorem MapIs.member {D : DataW Unit} {ps : List (ByteArray × Nat)} (hi : MapIs D ps) {key v : Value} {kl : Lit} {y : DataW Unit × List MemPlace} (hk : keyOf Tryz.prog 9 key = some kl) (hv : ptrR v = some y) (hat : ∀ z, D.atKey kl z = y.1) :
    ∃ p ∈ ps, key = .string p.1 ∧ v = .pointer (some ⟨p.2, 0, none⟩) ∧ kl = kS p.1 := by
  obtain ⟨x, rfl, rfl, _⟩ := Maps.keyOf_str Tryz.underlying9 hk
  have hh := has_true_of_atKey hat
  rw [← kS_of x, hi.has] at hh
  obtain ⟨p, hp, hs⟩ := List.any_eq_true.1 hh
  have e := sameN_iff.1 hs
  obtain ⟨q, rfl, rfl⟩ := ptrR_inv hv
  refine ⟨p, hp, by rw [e, encStr], ?_, by rw [e, kS_of]⟩
  have h2 := hi.at_ p hp .nil
  rw [e, kS_of, hat] at h2
  rw [← ptrD_inj h2]
  rfl
theorem wpList_next_pm (w : World) {ops : Array Oper} {rest : List Oper} {o : Oper} {a : Act} {Q : Exit → Act → World → Prop} (hg : o.guard = none) (it : Operand) (hop : o.op = Op.next it false) (b r n : Nat) (D : DataW Unit) (ps : List (ByteArray × Nat)) (hi : MapIs D ps) (left : Lit → Bool) (cnt : Nat)
    (hit : a.eval it = .pointer (some ⟨r, 0, none⟩)) (h : w.ranges Tryz.prog 9 ptrR b r n D left cnt)
    (hDone : (∀ kl, left kl = false) → wpList Tryz.prog ops Q rest (a.put o.dst (.tuple #[.bool false])) w)
    (hMore : ∀ p ∈ ps, left (kS p.1) = true → ∀ (w' : World) (cnt' : Nat), w'.ranges Tryz.prog 9 ptrR b r n D (fun z => left z && !z.sameKey (kS p.1)) cnt' → cnt' < cnt → Frm (fun x => x = r) w w' → w'.heap.size = w.heap.size →
      (Instr.entry (.pointer (some ⟨r, 0, none⟩))).run Tryz.prog w' = .ok (.tuple #[.string p.1, .pointer (some ⟨p.2, 0, none⟩)]) w' → wpList Tryz.prog ops Q rest (a.put o.dst (.tuple #[.bool true, .string p.1, .pointer (some ⟨p.2, 0, none⟩)])) w') :
    wpList Tryz.prog ops Q (o :: rest) a w := by
  refine wpList_plain hg fun K' hK' => ?_
  unfold Oper.wp
  rcases h.next lawS o.type with ⟨h0, hl, hrun⟩ | ⟨key, v, kl, y, w', cnt', hkey, hlk, hv, hat, hrun, hrg, hlt, hgr, hsz, hen⟩
  · simp [execOp, hop, hit, hrun, Result.andThen]
    exact hK' _ _ (hDone hl)
  · obtain ⟨p, hp, rfl, rfl, rfl⟩ := hi.member hkey hv hat
    simp [execOp, hop, hit, hrun, Result.andThen]
    exact hK' _ _ (hMore p hp hlk w' cnt' hrg hlt (Frm.of_grown hgr) hsz hen)

def usedM (l : List Pf) : Nat := (l.map fun m => m.f.bs.length).sum
theorem usedM_eq (l : List Pf) : usedM l = usedD (l.map (·.f)) := by unfold usedM usedD; rw [List.map_map]; rfl
def gone (left : Lit → Bool) (l : List Pf) : List Pf := l.filter fun m => !left (kS m.f.nm)
theorem gone_le (left : Lit → Bool) (l : List Pf) : usedM (gone left l) ≤ usedM l := by
  induction l with
  | nil => exact Nat.le_refl _
  | cons a l ih =>
    unfold gone at ih ⊢
    rw [List.filter_cons]
    split
    · simp only [usedM, List.map_cons, List.sum_cons] at ih ⊢; omega
    · simp only [usedM, List.map_cons, List.sum_cons] at ih ⊢; omega
theorem gone_step {l : List Pf} (nd : l.Pairwise (fun a b => sameN a.f.nm b.f.nm = false)) (left : Lit → Bool) {m : Pf} (hm : m ∈ l) (hl : left (kS m.f.nm) = true) :
    usedM (gone (fun z => left z && !z.sameKey (kS m.f.nm)) l) = usedM (gone left l) + m.f.bs.length := by
  have other : ∀ k : Pf, sameN k.f.nm m.f.nm = false → (left (kS k.f.nm) && !(kS k.f.nm).sameKey (kS m.f.nm)) = left (kS k.f.nm) := fun k hk => by
    rw [sameKey_ne (kS_ne hk)]; simp
  induction l with
  | nil => cases hm
  | cons a l ih =>
    obtain ⟨h1, h2⟩ := List.pairwise_cons.1 nd
    unfold gone at ih ⊢
    rcases List.mem_cons.1 hm with rfl | hm
    · have e : l.filter (fun k => !(left (kS k.f.nm) && !(kS k.f.nm).sameKey (kS m.f.nm))) = l.filter (fun k => !left (kS k.f.nm)) :=
        List.filter_congr (fun k hk => by rw [other k (by rw [sameN_comm]; exact h1 k hk)])
      rw [List.filter_cons, List.filter_cons, e]
      simp only [hl, WideAt.sameKey_self (kS_key _)]
      simp only [Bool.not_true, Bool.and_false, Bool.not_false, if_true, Bool.false_eq_true, if_false, usedM, List.map_cons, List.sum_cons]
      omega
    · have ih := ih h2 hm
      have ho := other a (h1 m hm)
      simp only at ih ho
      rw [List.filter_cons, List.filter_cons]
      simp only [ho]
      split
      · simp only [usedM, List.map_cons, List.sum_cons] at ih ⊢; omega
      · exact ih
theorem gone_none {left : Lit → Bool} {l : List Pf} (h : ∀ m ∈ l, left (kS m.f.nm) = true) : gone left l = [] := by
  unfold gone
  rw [List.filter_eq_nil_iff]
  intro m hm
  rw [h m hm]; simp
theorem gone_all {left : Lit → Bool} {l : List Pf} (h : ∀ kl, left kl = false) : gone left l = l := by
  unfold gone
  rw [List.filter_eq_self]
  intro m hm
  rw [h]; rfl

section
variable {w : World} {g bm : Nat} {ms : List Pf} {d : Dv}
theorem PDx.nds (h : PDx w g bm ms d) : ms.Pairwise (fun a b => sameN a.f.nm b.f.nm = false) := by
  have := h.map.nd
  rw [List.pairwise_map] at this
  exact this
theorem KOwn.val {k : IntKind} {e : TypeId} {w : World} {base : Nat} {v : Value} {xs : List Int} (h : KOwn k e w base v xs) : ∃ A c, v = .slice A xs.length c ∧ xs.length ≤ c ∧ c ≤ maxLen := by
  rcases h with ⟨rfl, rfl⟩ | ⟨g, n, cap, r, rfl, _, h3, _, h4, h5, _⟩
  · exact ⟨none, 0, rfl, Nat.le_refl _, Nat.zero_le _⟩
  · subst h3
    exact ⟨_, _, rfl, h4, h5⟩
set_option maxHeartbeats 1000000 in
theorem used_pd (h : PDx w g bm ms d) (hu : usedD d.fs ≤ 1000000000) : Calls Tryz.prog 20 #[.pointer (some ⟨g, 0, none⟩)] w fun e w' => e = .returned (.int .i64 (usedD d.fs : Nat)) ∧ Below w.heap.size w w' := by
  obtain ⟨L, c0, c1, c2, c3, c4, cf, _⟩ := h.cells
  have hbl := h.map.lt
  obtain ⟨D, hown, hi⟩ := h.map
  generalize (ms.map pfN).length = n at hown
  have HI := Lib.hid hi
  have HUS : Hid (usedM ms = usedD d.fs) := Lib.hid (by rw [usedM_eq, h.fs])
  have HH := Lib.hid h
  have HUL : Hid (∀ left, usedM (gone left ms) ≤ 1000000000) := Lib.hid (fun left => by have := gone_le left ms; rw [HUS.out] at this; omega)
  clear h hi hu
  go_enter Tryz.func20, Tryz.ntmps20
  go_wp2_with (first
    | (at_range; refine wpList_range_own _ rfl _ 36 rfl 9 76 lawS Tryz.underlying36 _ bm _ _ rfl hown ?_; intro w0 hrg0 hg0 hs0)
    | go_in)
  go_frame
  have F0 : Hid (Frm (fun _ => False) w w0) := Lib.hid ⟨hg0.os, hg0.tape, hg0.output, hg0.size, fun k hk _ => hg0.block k hk (by simp)⟩
  clear hg0
  go_loopw [3, 5] (fun u _ wr => ∃ (left : Lit → Bool) (cnt : Nat), wr.ranges Tryz.prog 9 ptrR bm w.heap.size n D left cnt ∧ u = .int .i64 (usedM (gone left ms) : Nat) ∧ Hid (Frm (fun _ => False) w wr))
    (fun _ _ wr => wr.rangeLeft bm w.heap.size)
  case atStart => 
    refine ⟨_, _, hrg0, ?_, F0⟩
    rw [gone_none (fun m hm => by rw [HI.out.has]; exact List.any_eq_true.2 ⟨pfN m, List.mem_map.2 ⟨m, hm, rfl⟩, sameN_refl _⟩)]
    rfl
  case round =>
    obtain ⟨left, cnt, hrg, rfl, hF⟩ := hrel
    go_wp2_with (first
      | (at_next; refine wpList_next_pm _ rfl _ rfl bm w.heap.size _ _ _ HI.out _ _ rfl hrg ?_ ?_)
      | go_in)
    · intro hl
      rw [gone_all hl, HUS.out]
      go_wp2
      go_ret
      exact ⟨rfl, hF.out.below (Below.refl _ _) (Nat.le_refl _) (fun i hi => hi.elim)⟩
    · intro m hm hl w1 cnt1 hrg1 hlt hF1 hs1 hen
      have hF2 : Hid (Frm (fun _ => False) w w1) := Lib.hid (hF.out.trans hF1 (fun i hi => .inr (by rw [hi]; exact Nat.le_refl _)))
      have hx := HH.out.frm hF2.out (fun _ _ e => e)
      obtain ⟨m0, m1, mf⟩ := (hx.is m hm).cells
      obtain ⟨A, c, hv, _, _⟩ := (hx.is m hm).own.val
      have hst := gone_step HH.out.nds left hm hl
      have hb1 := HUL.out (fun z => left z && !z.sameKey (kS m.f.nm))
      have HS := Lib.hid hst
      rw [hst] at hb1
      rw [hv] at m0
      simp only [pfN] at hen
      obtain ⟨q, hq⟩ : ∃ q, m.f.bs.length = q := ⟨_, rfl⟩
      have HQ := Lib.hid hq
      rw [hq] at hb1 m0
      obtain ⟨u, hu⟩ : ∃ u, usedM (gone left ms) = u := ⟨_, rfl⟩
      have HU := Lib.hid hu
      rw [hu] at hb1
      rw [hu]
      have HW : Hid (w1.ranges Tryz.prog 9 ptrR bm w.heap.size n D (fun z => left z && !z.sameKey (kS m.f.nm)) cnt1) := Lib.hid hrg1
      clear hs1 hx hst hv hq hu hF1 hrg1
      generalize m.g = mg at *
      go_wp2_with fail
      go_roundw
      case rel => exact ⟨_, cnt1, HW.out, by rw [HS.out, HU.out, HQ.out]; go_num, hF2⟩
      case measure => rw [HW.out.left_eq, hrg.left_eq]; exact hlt
end
end Go.Proofs.YtbdhhmhlcdganaaGreatDoor
namespace Go.Proofs.YtbdhhmhlcdganaaGreatDoor
open Go.RowKit Go.Maps
set_option linter.unusedVariables false
set_option maxRecDepth 100000

section
variable {w : World} {g bm : Nat} {ms : List Pf} {d : Dv}
theorem PDx.below {w' : World} (h : PDx w g bm ms d) (hb : Below w.heap.size w w') : PDx w' g bm ms d := h.frm (F := fun _ => False) (Frm.of_below hb) (fun _ _ e => e)
theorem free_pd (h : PDx w g bm ms d) (ok : Dv.Ok d) : Calls Tryz.prog 22 #[.pointer (some ⟨g, 0, none⟩)] w fun e w' => e = .returned (.int .i64 ((d.room : Int) - usedD d.fs)) ∧ Below w.heap.size w w' := by
  obtain ⟨L, c0, c1, c2, c3, c4, cf, _⟩ := h.cells
  have hu := ok.us
  have hr := ok.rm
  have hgl : g < w.heap.size := h.lt g (.inl rfl)
  have HU : Hid (∀ W, Below w.heap.size w W → Calls Tryz.prog 20 #[.pointer (some ⟨g, 0, none⟩)] W fun e w' => e = .returned (.int .i64 (usedD d.fs : Nat)) ∧ Below w.heap.size w w' ∧ w'.cell? ⟨g, 3, none⟩ = some (.int .i64 (d.room : Int))) := Lib.hid (fun W hW => (used_pd (h.below hW) (by omega)).mono fun e w' ⟨h1, h2⟩ => by
    have hb := hW.trans (h2.mono hW.size)
    exact ⟨h1, hb, (hb.cell hgl).trans c3⟩)
  clear h ok c0 c1 c2 c4 cf
  generalize usedD d.fs = u at *
  generalize d.room = r at *
  have f1 : IntKind.i64.wrap ((r : Int) - (u : Int)) = (r : Int) - (u : Int) := by rw [IntKind.wrap_i64]; omega
  go_enter Tryz.func22, Tryz.ntmps22
  go_wp2_with fail
  go_region_with (first
    | (go_at_call 20; refine (HU.out _ (below_drew (Below.refl _ _))).mono ?_; rintro e wp ⟨rfl, hb, c3'⟩))
  all_goals
    (try go_wp2)
    go_ret
    exact ⟨rfl, hb⟩
theorem read_pd (s : ByteArray) (h : PDx w g bm ms d) (ok : Dv.Ok d) : Calls Tryz.prog 69 #[.pointer (some ⟨g, 0, none⟩), .string s] w fun e w' => ∃ v, e = .returned (.tuple #[v, .int .i64 (readE d s)]) ∧ KOwn .u8 5 w' w.heap.size v (readL d s) ∧ Below w.heap.size w w' := by
  obtain ⟨L, c0, c1, c2, c3, c4, cf, _⟩ := h.cells
  have hl := h.map.lookup s
  cases hf : findD d.fs s with
  | none =>
    rw [h.look_no hf] at hl
    have HE : Hid (readE d s = 6) := Lib.hid (by unfold readE; rw [hf])
    have HL : Hid (readL d s = []) := Lib.hid (by unfold readL; rw [hf])
    rw [HE.out, HL.out]
    clear h hf ok
    go_enter Tryz.func69, Tryz.ntmps69
    go_wp2
    go_ret2
    exact ⟨_, rfl, KOwn.nil _ _ _ _, Below.refl _ _⟩
  | some k =>
    obtain ⟨hk, hk', hlk, he, _⟩ := h.look_yes hf
    rw [hlk] at hl
    have HE : Hid (readE d s = 0) := Lib.hid (by unfold readE; rw [hf])
    have HL : Hid (readL d s = ms[k].f.bs) := Lib.hid (by unfold readL; rw [hf]; simp [List.getElem?_eq_getElem hk', he])
    rw [HE.out, HL.out]
    have hfl := ok.fl _ (List.getElem_mem hk')
    have hus := used_mem (List.getElem_mem hk')
    have hu := ok.us
    have hr := ok.rm
    rw [he] at hfl hus
    have hm := h.is _ (List.getElem_mem hk)
    have hwf := hfl.wf
    generalize ms[k] = m at *
    obtain ⟨m0, m1, mf⟩ := hm.cells
    obtain ⟨A, c, hv, hrow, _, _⟩ := hm.own.row hwf
    rw [hv] at m0
    have HC : Hid (Calls Tryz.prog 74 #[.slice A m.f.bs.length c] w (MakesCl w m.f.bs)) := Lib.hid (clone_any A _ c _ w hrow rfl (by omega))
    generalize m.f.bs = bs at *
    generalize bs.length = n at *
    generalize m.g = q at *
    clear h hf ok he hlk hfl hus hu hr hm hrow hv hwf hk hk'
    go_enter Tryz.func69, Tryz.ntmps69
    go_wp2_with (go_at_call 74; refine HC.out.mono ?_; rintro e w' ⟨v, rfl, hk, hb⟩)
    go_ret2
    exact ⟨v, rfl, hk, hb⟩
end

def PfTo (m : Pf) (f' : Fl) (w : World) (e : Ending) (w' : World) : Prop := e = .returned (.tuple #[]) ∧ ∃ v', PfIs w' ⟨m.g, v', f'⟩ ∧ Frm (fun b => b = m.g) w w' ∧ (v' = m.v ∨ ∀ b, v'.ownBlock = some b → w.heap.size ≤ b)
theorem PfIs.sets {w : World} {m : Pf} (h : PfIs w m) (y : Nat) : PfIs (w.setCell ⟨m.g, 1, none⟩ (.int .i64 (y : Int))) ⟨m.g, m.v, { m.f with sy := y }⟩ := by
  have hf := Frm.set (F := fun b => b = m.g) w m.g 1 (.int .i64 (y : Int)) rfl
  refine ⟨dv_box_set h.box 1 _, h.own.frm hf (fun b hb e => ?_)⟩
  obtain ⟨c, hc⟩ := h.own.at_block hb
  exact cells_ne hc h.box (by decide) e
theorem PfIs.setd {w w1 : World} {m : Pf} (h : PfIs w m) {v' : Value} {xs : List Int} (hb : Below w.heap.size w w1) (hv : KOwn .u8 5 w1 w.heap.size v' xs) : PfIs (w1.setCell ⟨m.g, 0, none⟩ v') ⟨m.g, v', { m.f with bs := xs }⟩ := by
  have hf := Frm.set (F := fun b => b = m.g) w1 m.g 0 v' rfl
  have h1 : w1.heap[m.g]? = _ := (hb.block m.g (block_lt h.box)).trans h.box
  refine ⟨dv_box_set h1 0 _, (hv.mono (Nat.zero_le _)).frm hf (fun b hb e => ?_)⟩
  have := (hv.block b hb).1
  have := block_lt h.box
  omega
theorem sync_pf (m : Pf) (w : World) (h : PfIs w m) : Calls Tryz.prog 45 #[.pointer (some ⟨m.g, 0, none⟩)] w (PfTo m { m.f with sy := m.f.bs.length } w) := by
  obtain ⟨m0, m1, mf⟩ := h.cells
  obtain ⟨A, c, hv, _, _⟩ := h.own.val
  have H := Lib.hid (h.sets m.f.bs.length)
  rw [hv] at m0
  have HG : Hid (∃ q, m.g = q) := Lib.hid ⟨_, rfl⟩
  have hfr : Frm (fun b => b = m.g) w _ := Frm.set (F := fun b => b = m.g) w m.g 1 (.int .i64 (m.f.bs.length : Int)) rfl
  have HF := Lib.hid hfr
  clear h hv hfr
  obtain ⟨n, hn⟩ : ∃ n, m.f.bs.length = n := ⟨_, rfl⟩
  rw [hn] at H m0 HF ⊢
  clear hn
  go_enter Tryz.func45, Tryz.ntmps45
  go_wp2
  go_end0
  exact ⟨rfl, m.v, H.out, HF.out, .inl rfl⟩
theorem KOwn.letters {k : IntKind} {e : TypeId} {w : World} {base : Nat} {v : Value} {xs : List Int} (h : KOwn k e w base v xs) : ∃ A n c, v = .slice A n c := by
  obtain ⟨A, c, rfl, _⟩ := h.val
  exact ⟨_, _, _, rfl⟩
theorem min_lit (y n : Nat) : ∃ q : Nat, (∀ (ts : Array TypeId) (t : TypeId) (W : World), (Builtin.min_ ts t #[.int .i64 (y : Int), .int .i64 (n : Int)]).run Tryz.prog W = .ok (.int .i64 (q : Int)) W) ∧ q = min y n := by
  refine ⟨min y n, fun ts t W => ?_, rfl⟩
  rw [run_min_int2]
  congr 2
  split <;> omega
theorem cut_pf (m : Pf) (n : Nat) (w : World) (h : PfIs w m) (hwf : ∀ x ∈ m.f.bs, (Lit.int .u8 x).wf = true) (hb : m.f.bs.length ≤ 1000000000) : Calls Tryz.prog 44 #[.pointer (some ⟨m.g, 0, none⟩), .int .i64 (n : Int)] w (PfTo m { m.f with bs := m.f.bs.take n, sy := min m.f.sy n } w) := by
  obtain ⟨m0, m1, mf⟩ := h.cells
  obtain ⟨A, c, hv, hrow, hle, hcm⟩ := h.own.row hwf
  by_cases hn : n < m.f.bs.length
  · obtain ⟨b, o, rfl, _⟩ := hrow.2 (by omega)
    have hlt : m.g < w.heap.size := block_lt h.box
    have hrow' : Row .u8 w w.heap.size (some ⟨b, o, none⟩) (m.f.bs.take n) := hrow.front n
    have HC : Hid (Calls Tryz.prog 74 #[.slice (some ⟨b, o, none⟩) n c] w (MakesCl w (m.f.bs.take n))) := Lib.hid (clone_any _ _ c _ w hrow' (by rw [List.length_take]; omega) (by omega))
    have H := Lib.hid h
    rw [hv] at m0
    have HM : Hid (∀ (w1 : World) (v' : Value), Below w.heap.size w w1 → KOwn .u8 5 w1 w.heap.size v' (m.f.bs.take n) → PfTo m { m.f with bs := m.f.bs.take n, sy := min m.f.sy n } w (.returned (.tuple #[])) ((w1.setCell ⟨m.g, 0, none⟩ v').setCell ⟨m.g, 1, none⟩ (.int .i64 ((min m.f.sy n : Nat) : Int)))) := Lib.hid (fun w1 v' hb1 hk1 => by
      refine ⟨rfl, v', (H.out.setd hb1 hk1).sets (min m.f.sy n), ?_, .inr (fun b hb => (hk1.block b hb).1)⟩
      exact ((Frm.of_below (F := fun b => b = m.g) hb1).trans (Frm.set (F := fun b => b = m.g) w1 m.g 0 v' rfl) (fun i hi => .inl hi)).trans (Frm.set (F := fun b => b = m.g) _ m.g 1 _ rfl) (fun i hi => .inl hi))
    have i1 : (n : Int) < (m.f.bs.length : Int) := by omega
    have i2 : (n : Int) ≤ (c : Int) := by omega
    have i3 : n ≤ c := by omega
    obtain ⟨q, hmin, hq⟩ := min_lit m.f.sy n
    rw [← hq] at HM
    obtain ⟨y, hy⟩ : ∃ y, m.f.sy = y := ⟨_, rfl⟩
    rw [hy] at hmin m1
    obtain ⟨N, hN⟩ : ∃ N, m.f.bs.length = N := ⟨_, rfl⟩
    rw [hN] at m0 i1
    rw [← hq]
    obtain ⟨gm, hg⟩ : ∃ gm, m.g = gm := ⟨_, rfl⟩
    have HG := Lib.hid hg
    rw [hg] at m0 m1 hlt ⊢
    rw [hg] at mf HM
    generalize (PfTo m _ w) = R at HM ⊢
    clear h hv hrow hrow' hb hwf hn hq hy hN hg hle hcm H
    generalize m.f.bs.take n = L at *
    go_enter Tryz.func44, Tryz.ntmps44
    go_wp2_with (go_at_call 74; refine HC.out.mono ?_; rintro e w1 ⟨v', rfl, hk1, hb1⟩; obtain ⟨A', n', c', rfl⟩ := hk1.letters; have HK1 := Lib.hid hk1; clear hk1; have m0' := (hb1.cell (p := ⟨gm, 0, none⟩) hlt).trans m0; have m1' := (hb1.cell (p := ⟨gm, 1, none⟩) hlt).trans m1; have mf' : ∀ j, w1.frozen? ⟨gm, j, none⟩ = false := fun j => (World.frozen?_of_block (hb1.block gm hlt)).trans (mf j))
    go_end0
    exact HM.out w1 _ hb1 HK1.out
  · have H := Lib.hid h
    rw [hv] at m0
    have e2 : m.f.bs.take n = m.f.bs := List.take_of_length_le (by omega)
    have hfr : Frm (fun b => b = m.g) w (w.setCell ⟨m.g, 1, none⟩ (.int .i64 ((min m.f.sy n : Nat) : Int))) := Frm.set (F := fun b => b = m.g) w m.g 1 _ rfl
    have HM : Hid (PfTo m { m.f with bs := m.f.bs.take n, sy := min m.f.sy n } w (.returned (.tuple #[])) (w.setCell ⟨m.g, 1, none⟩ (.int .i64 ((min m.f.sy n : Nat) : Int)))) := Lib.hid (by
      rw [e2]
      exact ⟨rfl, m.v, h.sets (min m.f.sy n), hfr, .inl rfl⟩)
    have i1 : ¬ (n : Int) < (m.f.bs.length : Int) := by omega
    obtain ⟨q, hmin, hq⟩ := min_lit m.f.sy n
    rw [← hq] at HM ⊢
    generalize (PfTo m _ w) = R at HM ⊢
    generalize m.f.sy = y at *
    generalize m.f.bs.length = N at *
    generalize m.g = gm at *
    clear h hv hrow hb hwf hn hq hle hcm H e2 hfr
    go_enter Tryz.func44, Tryz.ntmps44
    go_wp2
    go_end0
    exact HM.out
end Go.Proofs.YtbdhhmhlcdganaaGreatDoor
namespace Go.Proofs.YtbdhhmhlcdganaaGreatDoor
open Go.RowKit Go.Maps
set_option linter.unusedVariables false
set_option maxRecDepth 100000

section
variable {w : World} {g bm : Nat} {ms : List Pf} {d : Dv}
theorem PDx.power {w' : World} {d' : Dv} {L : Int} (h : PDx w g bm ms d) (hf : Frm (fun b => b = g) w w') (hb : w'.heap[g]? = some (.cells (dvC d' L bm) 38 (0, 0))) (hL : 0 ≤ d'.left → L = d'.left) (h1 : -9223372036854775808 ≤ L) (h2 : L < 9223372036854775808) (he : d'.fs = d.fs) : PDx w' g bm ms d' := by
  obtain ⟨h3, h4⟩ := h.g_ne
  exact ⟨⟨L, hb, hL, h1, h2⟩, h.map.same (hf.block bm h.map.lt (fun e => h3 e.symm)), fun m hm => (h.is m hm).frm hf (h4 m hm).1 (fun b hb => ((h4 m hm).2.2 b hb).1), h.fs.trans he.symm, h.apart⟩
theorem restore_pd (h : PDx w g bm ms d) : Calls Tryz.prog 46 #[.pointer (some ⟨g, 0, none⟩)] w fun e w' => e = .returned (.tuple #[]) ∧ PDx w' g bm ms { d with left := -1, off := false } ∧ Frm (fun b => b = g) w w' := by
  obtain ⟨L, c0, c1, c2, c3, c4, cf, _⟩ := h.cells
  have f1 := Frm.set (F := fun b => b = g) w g 0 (.bool false) rfl
  have f2 := Frm.set (F := fun b => b = g) (w.setCell ⟨g, 0, none⟩ (.bool false)) g 1 (.bool false) rfl
  have f3 := Frm.set (F := fun b => b = g) ((w.setCell ⟨g, 0, none⟩ (.bool false)).setCell ⟨g, 1, none⟩ (.bool false)) g 2 (.int .i64 0) rfl
  have F := Lib.hid ((f1.trans f2 (fun i hi => .inl hi)).trans f3 (fun i hi => .inl hi))
  have H : Hid (PDx (((w.setCell ⟨g, 0, none⟩ (.bool false)).setCell ⟨g, 1, none⟩ (.bool false)).setCell ⟨g, 2, none⟩ (.int .i64 0)) g bm ms { d with left := -1, off := false }) := Lib.hid (by
    obtain ⟨L', hb, _⟩ := h.box
    exact h.power (L := 0) F.out (dv_box_set (dv_box_set (dv_box_set hb 0 _) 1 _) 2 _) (fun e => absurd (show (0 : Int) ≤ -1 from e) (by decide)) (by omega) (by omega) rfl)
  clear h f1 f2 f3
  go_enter Tryz.func46, Tryz.ntmps46
  go_wp2
  go_end0
  exact ⟨rfl, H.out, F.out⟩
theorem arm_pd (n : Int) (h : PDx w g bm ms d) (hn : -9223372036854775808 ≤ n ∧ n < 9223372036854775808) : Calls Tryz.prog 11 #[.pointer (some ⟨g, 0, none⟩), .int .i64 n] w fun e w' => e = .returned (.tuple #[]) ∧ PDx w' g bm ms (armD d n) ∧ Frm (fun b => b = g) w w' := by
  obtain ⟨L, c0, c1, c2, c3, c4, cf, _⟩ := h.cells
  have f1 := Frm.set (F := fun b => b = g) w g 1 (.bool (decide (n ≥ 0))) rfl
  have f2 := Frm.set (F := fun b => b = g) (w.setCell ⟨g, 1, none⟩ (.bool (decide (n ≥ 0)))) g 2 (.int .i64 n) rfl
  have F := Lib.hid (f1.trans f2 (fun i hi => .inl hi))
  have H : Hid (PDx ((w.setCell ⟨g, 1, none⟩ (.bool (decide (n ≥ 0)))).setCell ⟨g, 2, none⟩ (.int .i64 n)) g bm ms (armD d n)) := Lib.hid (by
    obtain ⟨L', hb, _⟩ := h.box
    have hl : decide (0 ≤ (armD d n).left) = decide (n ≥ 0) := by
      show decide (0 ≤ if n < 0 then (-1 : Int) else n) = _
      split <;> simp <;> omega
    refine h.power (L := n) F.out ?_ (fun e => ?_) hn.1 hn.2 rfl
    · have := dv_box_set (dv_box_set hb 1 (.bool (decide (n ≥ 0)))) 2 (.int .i64 n)
      rw [this]
      unfold dvC
      rw [hl]
      rfl
    · have e2 : 0 ≤ if n < 0 then (-1 : Int) else n := e
      show n = if n < 0 then (-1 : Int) else n
      split at e2 <;> rename_i hh
      · omega
      · rw [if_neg hh])
  clear h f1 f2
  go_enter Tryz.func11, Tryz.ntmps11
  go_wp2
  go_end0
  exact ⟨rfl, H.out, F.out⟩
def OperTo (g bm : Nat) (ms : List Pf) (d : Dv) (w : World) (R : World → Prop) (e : Ending) (w' : World) : Prop :=
  (d.left = 0 ∧ e = .returned (.int .i64 10) ∧ PDx w' g bm ms { d with off := true } ∧ Frm (fun b => b = g) w w') ∨ (d.left ≠ 0 ∧ e = .returned (.int .i64 0) ∧ R w')
theorem operate_sync (k0 : Nat) (R : World → Prop) (h : PDx w g bm ms d) (ok : Dv.Ok d)
    (HC : d.left ≠ 0 → ∀ W, PDx W g bm ms (spentD d) → Frm (fun b => b = g) w W → Calls Tryz.prog 45 #[.pointer (some ⟨k0, 0, none⟩)] W (fun e w' => e = .returned (.tuple #[]) ∧ R w')) :
    Calls Tryz.prog 41 #[.pointer (some ⟨g, 0, none⟩), .func (.func 45) #[.pointer (some ⟨k0, 0, none⟩)] #[]] w (OperTo g bm ms d w R) := by
  obtain ⟨L, hb, hL, hL1, hL2⟩ := h.box
  have c0 : w.cell? ⟨g, 0, none⟩ = some (.bool d.off) := cell_of_row w g 0 _ _ _ hb
  have c1 : w.cell? ⟨g, 1, none⟩ = some (.bool (decide (0 ≤ d.left))) := cell_of_row w g 1 _ _ _ hb
  have c2 : w.cell? ⟨g, 2, none⟩ = some (.int .i64 L) := cell_of_row w g 2 _ _ _ hb
  have cf : ∀ j, w.frozen? ⟨g, j, none⟩ = false := fun j => block_frozen w g j _ _ hb
  by_cases h0 : d.left = 0
  · have F := Lib.hid (Frm.set (F := fun b => b = g) w g 0 (.bool true) rfl)
    have H : Hid (PDx (w.setCell ⟨g, 0, none⟩ (.bool true)) g bm ms { d with off := true }) := Lib.hid (h.power (L := L) F.out (dv_box_set hb 0 _) hL hL1 hL2 rfl)
    have hz : L = 0 := by rw [hL (by omega)]; exact h0
    rw [hz] at c2
    rw [h0] at c1
    have HZ := Lib.hid h0
    clear h HC ok hb hL hL1 hL2 h0 hz
    go_enter Tryz.func41, Tryz.ntmps41
    go_wp2
    go_ret
    exact .inl ⟨HZ.out, rfl, H.out, F.out⟩
  by_cases h1 : 0 < d.left
  · have hz : L = d.left := hL (by omega)
    have F := Lib.hid (Frm.set (F := fun b => b = g) w g 2 (.int .i64 (L - 1)) rfl)
    have lo := ok.li
    have H : Hid (PDx (w.setCell ⟨g, 2, none⟩ (.int .i64 (L - 1))) g bm ms (spentD d)) := Lib.hid (by
      have e1 : spentD d = { d with left := d.left - 1 } := if_pos h1
      rw [e1]
      refine h.power (L := L - 1) F.out ?_ (fun _ => by show L - 1 = d.left - 1; omega) (by omega) (by omega) rfl
      have := dv_box_set hb 2 (.int .i64 (L - 1))
      rw [this]
      have e3 : decide (0 ≤ ({ d with left := d.left - 1 } : Dv).left) = decide (0 ≤ d.left) := decide_eq_decide.2 (by show 0 ≤ d.left - 1 ↔ _; omega)
      unfold dvC
      rw [e3]
      rfl)
    have HCC := Lib.hid (HC h0 _ H.out F.out)
    have e2 : (L == 0) = false := beq_false_of_ne (by omega)
    have e3 : IntKind.i64.wrap (L - 1) = L - 1 := by rw [IntKind.wrap_i64]; omega
    rw [decide_eq_true (show 0 ≤ d.left by omega)] at c1
    have HZ := Lib.hid h0
    clear h HC ok hb hL hL1 hL2 h0 hz h1 lo H F
    go_enter Tryz.func41, Tryz.ntmps41
    go_wp2_with (go_at_call 45; refine HCC.out.mono ?_; rintro e w' ⟨rfl, hR⟩)
    go_ret
    exact .inr ⟨HZ.out, rfl, hR⟩
  · have H : Hid (PDx w g bm ms (spentD d)) := Lib.hid (by
      have e1 : spentD d = d := if_neg h1
      rw [e1]; exact h)
    have HCC := Lib.hid (HC h0 _ H.out (Frm.refl _ _))
    have hn : ¬ 0 ≤ d.left := by omega
    rw [decide_eq_false hn] at c1
    have HZ := Lib.hid h0
    clear h HC ok hb hL hL1 hL2 h0 hn h1 H
    go_enter Tryz.func41, Tryz.ntmps41
    go_wp2_with (go_at_call 45; refine HCC.out.mono ?_; rintro e w' ⟨rfl, hR⟩)
    go_ret
    exact .inr ⟨HZ.out, rfl, hR⟩
theorem operate_append (k0 k1 k2 : Nat) (R : World → Prop) (h : PDx w g bm ms d) (ok : Dv.Ok d)
    (HC : d.left ≠ 0 → ∀ W, PDx W g bm ms (spentD d) → Frm (fun b => b = g) w W → Calls Tryz.prog 42 #[.pointer (some ⟨k0, 0, none⟩), .pointer (some ⟨k1, 0, none⟩), .pointer (some ⟨k2, 0, none⟩)] W (fun e w' => e = .returned (.tuple #[]) ∧ R w')) :
    Calls Tryz.prog 41 #[.pointer (some ⟨g, 0, none⟩), .func (.func 42) #[] #[.pointer (some ⟨k0, 0, none⟩), .pointer (some ⟨k1, 0, none⟩), .pointer (some ⟨k2, 0, none⟩)]] w (OperTo g bm ms d w R) := by
  obtain ⟨L, hb, hL, hL1, hL2⟩ := h.box
  have c0 : w.cell? ⟨g, 0, none⟩ = some (.bool d.off) := cell_of_row w g 0 _ _ _ hb
  have c1 : w.cell? ⟨g, 1, none⟩ = some (.bool (decide (0 ≤ d.left))) := cell_of_row w g 1 _ _ _ hb
  have c2 : w.cell? ⟨g, 2, none⟩ = some (.int .i64 L) := cell_of_row w g 2 _ _ _ hb
  have cf : ∀ j, w.frozen? ⟨g, j, none⟩ = false := fun j => block_frozen w g j _ _ hb
  by_cases h0 : d.left = 0
  · have F := Lib.hid (Frm.set (F := fun b => b = g) w g 0 (.bool true) rfl)
    have H : Hid (PDx (w.setCell ⟨g, 0, none⟩ (.bool true)) g bm ms { d with off := true }) := Lib.hid (h.power (L := L) F.out (dv_box_set hb 0 _) hL hL1 hL2 rfl)
    have hz : L = 0 := by rw [hL (by omega)]; exact h0
    rw [hz] at c2
    rw [h0] at c1
    have HZ := Lib.hid h0
    clear h HC ok hb hL hL1 hL2 h0 hz
    go_enter Tryz.func41, Tryz.ntmps41
    go_wp2
    go_ret
    exact .inl ⟨HZ.out, rfl, H.out, F.out⟩
  by_cases h1 : 0 < d.left
  · have hz : L = d.left := hL (by omega)
    have F := Lib.hid (Frm.set (F := fun b => b = g) w g 2 (.int .i64 (L - 1)) rfl)
    have lo := ok.li
    have H : Hid (PDx (w.setCell ⟨g, 2, none⟩ (.int .i64 (L - 1))) g bm ms (spentD d)) := Lib.hid (by
      have e1 : spentD d = { d with left := d.left - 1 } := if_pos h1
      rw [e1]
      refine h.power (L := L - 1) F.out ?_ (fun _ => by show L - 1 = d.left - 1; omega) (by omega) (by omega) rfl
      have := dv_box_set hb 2 (.int .i64 (L - 1))
      rw [this]
      have e3 : decide (0 ≤ ({ d with left := d.left - 1 } : Dv).left) = decide (0 ≤ d.left) := decide_eq_decide.2 (by show 0 ≤ d.left - 1 ↔ _; omega)
      unfold dvC
      rw [e3]
      rfl)
    have HCC := Lib.hid (HC h0 _ H.out F.out)
    have e2 : (L == 0) = false := beq_false_of_ne (by omega)
    have e3 : IntKind.i64.wrap (L - 1) = L - 1 := by rw [IntKind.wrap_i64]; omega
    rw [decide_eq_true (show 0 ≤ d.left by omega)] at c1
    have HZ := Lib.hid h0
    clear h HC ok hb hL hL1 hL2 h0 hz h1 lo H F
    go_enter Tryz.func41, Tryz.ntmps41
    go_wp2_with (go_at_call 42; refine HCC.out.mono ?_; rintro e w' ⟨rfl, hR⟩)
    go_ret
    exact .inr ⟨HZ.out, rfl, hR⟩
  · have H : Hid (PDx w g bm ms (spentD d)) := Lib.hid (by
      have e1 : spentD d = d := if_neg h1
      rw [e1]; exact h)
    have HCC := Lib.hid (HC h0 _ H.out (Frm.refl _ _))
    have hn : ¬ 0 ≤ d.left := by omega
    rw [decide_eq_false hn] at c1
    have HZ := Lib.hid h0
    clear h HC ok hb hL hL1 hL2 h0 hn h1 H
    go_enter Tryz.func41, Tryz.ntmps41
    go_wp2_with (go_at_call 42; refine HCC.out.mono ?_; rintro e w' ⟨rfl, hR⟩)
    go_ret
    exact .inr ⟨HZ.out, rfl, hR⟩
theorem operate_truncate (k0 k1 : Nat) (R : World → Prop) (h : PDx w g bm ms d) (ok : Dv.Ok d)
    (HC : d.left ≠ 0 → ∀ W, PDx W g bm ms (spentD d) → Frm (fun b => b = g) w W → Calls Tryz.prog 136 #[.pointer (some ⟨k0, 0, none⟩), .pointer (some ⟨k1, 0, none⟩)] W (fun e w' => e = .returned (.tuple #[]) ∧ R w')) :
    Calls Tryz.prog 41 #[.pointer (some ⟨g, 0, none⟩), .func (.func 136) #[] #[.pointer (some ⟨k0, 0, none⟩), .pointer (some ⟨k1, 0, none⟩)]] w (OperTo g bm ms d w R) := by
  obtain ⟨L, hb, hL, hL1, hL2⟩ := h.box
  have c0 : w.cell? ⟨g, 0, none⟩ = some (.bool d.off) := cell_of_row w g 0 _ _ _ hb
  have c1 : w.cell? ⟨g, 1, none⟩ = some (.bool (decide (0 ≤ d.left))) := cell_of_row w g 1 _ _ _ hb
  have c2 : w.cell? ⟨g, 2, none⟩ = some (.int .i64 L) := cell_of_row w g 2 _ _ _ hb
  have cf : ∀ j, w.frozen? ⟨g, j, none⟩ = false := fun j => block_frozen w g j _ _ hb
  by_cases h0 : d.left = 0
  · have F := Lib.hid (Frm.set (F := fun b => b = g) w g 0 (.bool true) rfl)
    have H : Hid (PDx (w.setCell ⟨g, 0, none⟩ (.bool true)) g bm ms { d with off := true }) := Lib.hid (h.power (L := L) F.out (dv_box_set hb 0 _) hL hL1 hL2 rfl)
    have hz : L = 0 := by rw [hL (by omega)]; exact h0
    rw [hz] at c2
    rw [h0] at c1
    have HZ := Lib.hid h0
    clear h HC ok hb hL hL1 hL2 h0 hz
    go_enter Tryz.func41, Tryz.ntmps41
    go_wp2
    go_ret
    exact .inl ⟨HZ.out, rfl, H.out, F.out⟩
  by_cases h1 : 0 < d.left
  · have hz : L = d.left := hL (by omega)
    have F := Lib.hid (Frm.set (F := fun b => b = g) w g 2 (.int .i64 (L - 1)) rfl)
    have lo := ok.li
    have H : Hid (PDx (w.setCell ⟨g, 2, none⟩ (.int .i64 (L - 1))) g bm ms (spentD d)) := Lib.hid (by
      have e1 : spentD d = { d with left := d.left - 1 } := if_pos h1
      rw [e1]
      refine h.power (L := L - 1) F.out ?_ (fun _ => by show L - 1 = d.left - 1; omega) (by omega) (by omega) rfl
      have := dv_box_set hb 2 (.int .i64 (L - 1))
      rw [this]
      have e3 : decide (0 ≤ ({ d with left := d.left - 1 } : Dv).left) = decide (0 ≤ d.left) := decide_eq_decide.2 (by show 0 ≤ d.left - 1 ↔ _; omega)
      unfold dvC
      rw [e3]
      rfl)
    have HCC := Lib.hid (HC h0 _ H.out F.out)
    have e2 : (L == 0) = false := beq_false_of_ne (by omega)
    have e3 : IntKind.i64.wrap (L - 1) = L - 1 := by rw [IntKind.wrap_i64]; omega
    rw [decide_eq_true (show 0 ≤ d.left by omega)] at c1
    have HZ := Lib.hid h0
    clear h HC ok hb hL hL1 hL2 h0 hz h1 lo H F
    go_enter Tryz.func41, Tryz.ntmps41
    go_wp2_with (go_at_call 136; refine HCC.out.mono ?_; rintro e w' ⟨rfl, hR⟩)
    go_ret
    exact .inr ⟨HZ.out, rfl, hR⟩
  · have H : Hid (PDx w g bm ms (spentD d)) := Lib.hid (by
      have e1 : spentD d = d := if_neg h1
      rw [e1]; exact h)
    have HCC := Lib.hid (HC h0 _ H.out (Frm.refl _ _))
    have hn : ¬ 0 ≤ d.left := by omega
    rw [decide_eq_false hn] at c1
    have HZ := Lib.hid h0
    clear h HC ok hb hL hL1 hL2 h0 hn h1 H
    go_enter Tryz.func41, Tryz.ntmps41
    go_wp2_with (go_at_call 136; refine HCC.out.mono ?_; rintro e w' ⟨rfl, hR⟩)
    go_ret
    exact .inr ⟨HZ.out, rfl, hR⟩
theorem operate_remove (k0 k1 : Nat) (R : World → Prop) (h : PDx w g bm ms d) (ok : Dv.Ok d)
    (HC : d.left ≠ 0 → ∀ W, PDx W g bm ms (spentD d) → Frm (fun b => b = g) w W → Calls Tryz.prog 104 #[.pointer (some ⟨k0, 0, none⟩), .pointer (some ⟨k1, 0, none⟩)] W (fun e w' => e = .returned (.tuple #[]) ∧ R w')) :
    Calls Tryz.prog 41 #[.pointer (some ⟨g, 0, none⟩), .func (.func 104) #[] #[.pointer (some ⟨k0, 0, none⟩), .pointer (some ⟨k1, 0, none⟩)]] w (OperTo g bm ms d w R) := by
  obtain ⟨L, hb, hL, hL1, hL2⟩ := h.box
  have c0 : w.cell? ⟨g, 0, none⟩ = some (.bool d.off) := cell_of_row w g 0 _ _ _ hb
  have c1 : w.cell? ⟨g, 1, none⟩ = some (.bool (decide (0 ≤ d.left))) := cell_of_row w g 1 _ _ _ hb
  have c2 : w.cell? ⟨g, 2, none⟩ = some (.int .i64 L) := cell_of_row w g 2 _ _ _ hb
  have cf : ∀ j, w.frozen? ⟨g, j, none⟩ = false := fun j => block_frozen w g j _ _ hb
  by_cases h0 : d.left = 0
  · have F := Lib.hid (Frm.set (F := fun b => b = g) w g 0 (.bool true) rfl)
    have H : Hid (PDx (w.setCell ⟨g, 0, none⟩ (.bool true)) g bm ms { d with off := true }) := Lib.hid (h.power (L := L) F.out (dv_box_set hb 0 _) hL hL1 hL2 rfl)
    have hz : L = 0 := by rw [hL (by omega)]; exact h0
    rw [hz] at c2
    rw [h0] at c1
    have HZ := Lib.hid h0
    clear h HC ok hb hL hL1 hL2 h0 hz
    go_enter Tryz.func41, Tryz.ntmps41
    go_wp2
    go_ret
    exact .inl ⟨HZ.out, rfl, H.out, F.out⟩
  by_cases h1 : 0 < d.left
  · have hz : L = d.left := hL (by omega)
    have F := Lib.hid (Frm.set (F := fun b => b = g) w g 2 (.int .i64 (L - 1)) rfl)
    have lo := ok.li
    have H : Hid (PDx (w.setCell ⟨g, 2, none⟩ (.int .i64 (L - 1))) g bm ms (spentD d)) := Lib.hid (by
      have e1 : spentD d = { d with left := d.left - 1 } := if_pos h1
      rw [e1]
      refine h.power (L := L - 1) F.out ?_ (fun _ => by show L - 1 = d.left - 1; omega) (by omega) (by omega) rfl
      have := dv_box_set hb 2 (.int .i64 (L - 1))
      rw [this]
      have e3 : decide (0 ≤ ({ d with left := d.left - 1 } : Dv).left) = decide (0 ≤ d.left) := decide_eq_decide.2 (by show 0 ≤ d.left - 1 ↔ _; omega)
      unfold dvC
      rw [e3]
      rfl)
    have HCC := Lib.hid (HC h0 _ H.out F.out)
    have e2 : (L == 0) = false := beq_false_of_ne (by omega)
    have e3 : IntKind.i64.wrap (L - 1) = L - 1 := by rw [IntKind.wrap_i64]; omega
    rw [decide_eq_true (show 0 ≤ d.left by omega)] at c1
    have HZ := Lib.hid h0
    clear h HC ok hb hL hL1 hL2 h0 hz h1 lo H F
    go_enter Tryz.func41, Tryz.ntmps41
    go_wp2_with (go_at_call 104; refine HCC.out.mono ?_; rintro e w' ⟨rfl, hR⟩)
    go_ret
    exact .inr ⟨HZ.out, rfl, hR⟩
  · have H : Hid (PDx w g bm ms (spentD d)) := Lib.hid (by
      have e1 : spentD d = d := if_neg h1
      rw [e1]; exact h)
    have HCC := Lib.hid (HC h0 _ H.out (Frm.refl _ _))
    have hn : ¬ 0 ≤ d.left := by omega
    rw [decide_eq_false hn] at c1
    have HZ := Lib.hid h0
    clear h HC ok hb hL hL1 hL2 h0 hn h1 H
    go_enter Tryz.func41, Tryz.ntmps41
    go_wp2_with (go_at_call 104; refine HCC.out.mono ?_; rintro e w' ⟨rfl, hR⟩)
    go_ret
    exact .inr ⟨HZ.out, rfl, hR⟩
end
end Go.Proofs.YtbdhhmhlcdganaaGreatDoor
