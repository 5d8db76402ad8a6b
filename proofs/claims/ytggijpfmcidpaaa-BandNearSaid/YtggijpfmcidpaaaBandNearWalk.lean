/-
  The walk of BandNear.
-/
import Derived.Test.YtggijpfmcidpaaaBdKnown
import Derived.Test.YtggijpfmcidpaaaBdNearMath
import Derived.BigQuiet
import Derived.Deep.RegionHeld3
import Derived.Deep.CutRange
namespace Go.Proofs.Ytggijpfmcidpaaa
open Go.RowKit
set_option linter.unusedVariables false

theorem runP_okN {d q : Int} {h : Hd} {l : List Pt} (hl : ∀ p ∈ l, Pt.Ok p) : ∀ p ∈ runP d q h l, Pt.Ok p := fun p hp => hl p ((runP_sub d q h l).subset hp)
theorem Row.frontP {w : World} {B : Nat} {A : Option Addr} {l : List Pt} (h : Row .i64 w B A (flP l)) (k : Nat) : Row .i64 w B A (flP (l.take k)) := by
  rw [← flP_take]; exact h.front _
theorem balN {a w : World} (h : Below a.heap.size a w) (o : Obj) : Below a.heap.size a (w.alloc o) := h.alloc h.size o
theorem near_split (told k : Nat) (h : told = k ∨ told = k + 1) (h1 : 1 ≤ told) : ∃ t, told = t + 1 ∧ (k = t + 1 ∨ k = t) := ⟨told - 1, by omega, by omega⟩

set_option maxHeartbeats 2000000 in
set_option maxRecDepth 100000 in
theorem walk_BandNear (d q : Int) (A : Option Addr) (n c : Nat) (l : List Pt) (w : World) (wb : Pt.Ok (d, q)) (hr : Row .i64 w w.heap.size A (flP l)) (hn : l.length = n) (hc : n ≤ c) (hb : c * 16 ≤ 140737488351232) :
    Calls Try.prog 5 #[.agg #[.int .i64 d, .int .i64 q], .slice A n c] w fun e w' => e = .returned (.bool true) ∧ Below w.heap.size w w' := by
  obtain ⟨hd, hq⟩ := wb
  simp only at hd hq
  have bx0 := Bx.new w (.cells #[.int .i64 d, .int .i64 q] 23)
  by_cases hbig : (2000 : Int) < n
  · go_enter Try.func5, Try.ntmps5
    go_wp2_with fail
    refine (known_yes _).mono ?_
    rintro e w1 ⟨rfl, b1⟩
    go_wp2
    go_ret
    exact ⟨rfl, (bx0.below b1).2⟩
  have hn' := Lib.hid hn
  have hok := Lib.hid (flP_ok hr.1)
  have hlen := runP_len d q Hd.zero l
  rw [hn] at hlen
  have HNR := Lib.hid (fun i => near_round d q l hok.out i)
  have hoo := Lib.hid (runP_okN (d := d) (q := q) (h := Hd.zero) hok.out)
  have hend : Hid ((runP d q Hd.zero (l.take n)).length = (runP d q Hd.zero l).length) := Lib.hid (by rw [List.take_of_length_le (by omega)])
  obtain ⟨out, hout⟩ : ∃ out, Hid (runP d q Hd.zero l = out) := ⟨_, Lib.hid rfl⟩
  rw [hout.out] at hlen hoo HNR hend
  clear hn hb
  go_enter Try.func5, Try.ntmps5
  go_wp2_with fail
  refine (Run_any d q A n c l hd hq _ ((hr.below bx0.2).more bx0.2.size) hn'.out (by omega)).mono ?_
  rw [hout.out]
  rintro e w1 ⟨v1, rfl, own1, b1⟩
  have bx1 := bx0.below b1
  have hr1 := (hr.below bx1.2).more bx1.2.size
  clear b1 bx0
  obtain ⟨A1, c1, rfl, row1, _, _⟩ := own1.row hoo.out
  obtain ⟨m, hm⟩ : ∃ m, out.length = m := ⟨_, rfl⟩
  have HM := Lib.hid hm
  rw [hm] at hlen hend HNR
  rw [hm]
  clear hm own1
  go_wp2
  go_loopw [6, 7, 8] (fun r kk i wr => ∃ (j k : Nat) (rr : Bool), j ≤ n ∧ k ≤ j ∧ i = .int .i64 j ∧ kk = .int .i64 k ∧ r = .bool rr ∧ Hid (riseK l j = rr) ∧ Hid ((runP d q Hd.zero (l.take j)).length = k) ∧ Hid (Below w1.heap.size w1 wr)) (fun _ _ i _ => n - (intOf i).toNat)
  case atStart => exact ⟨0, 0, true, by omega, by omega, rfl, rfl, rfl, Lib.hid rfl, Lib.hid rfl, Lib.hid (Below.refl _ _)⟩
  case round =>
    obtain ⟨j, k, rr, hj, hkj, rfl, rfl, rfl, hrr, hk, hbel⟩ := hrel
    by_cases hlt : j < n
    · obtain ⟨told, lx, ly, hT, hT2, ht1, htm, hnew, hlx, hly, hf1, hf2, hlok⟩ := HNR.out j (by have := hn'.out; omega)
      rw [hk.out] at hT2 hnew
      have hl1 := hn'.out
      have rowj := hr1.below hbel.out
      obtain ⟨b, o, rfl, hb1, hc1, hc2⟩ := rowj.pt (k := j) (by omega)
      have okj := Lib.hid (pt_ok hok.out (k := j) (by omega))
      obtain ⟨r', hr'⟩ : ∃ r', Hid (riseK l (j + 1) = r') := ⟨_, Lib.hid rfl⟩
      have hsz1 := hbel.out.size
      have hj2 : (j : Int) < (n : Int) := by omega
      have hj3 : (0 : Int) ≤ (j : Int) := by omega
      clear hl1
      go_upto_region 9 with fail
      go_cut [6] from 18 to 120 (fun s wx => s = .bool r' ∧ Hid (∃ m, wx = wr.drewN m))
      case first =>
        cases rr with
        | false =>
          have e1 : Hid (r' = false) := Lib.hid (by rw [← hr'.out]; exact riseK_f hrr.out)
          go_wp2
          go_quiet (fail)
          go_wp2
          go_meet
          exact ⟨by rw [e1.out], Lib.hid ⟨_, rfl⟩⟩
        | true =>
          by_cases h0 : j = 0
          · subst h0
            have e1 : Hid (r' = true) := Lib.hid (by rw [← hr'.out]; rfl)
            go_wp2
            go_quiet (fail)
            go_wp2
            go_meet
            exact ⟨by rw [e1.out], Lib.hid ⟨_, rfl⟩⟩
          · have e1 : Hid (r' = decide (ptY l (j - 1) ≤ ptY l j)) := Lib.hid (by rw [← hr'.out]; exact riseK_t hrr.out h0)
            obtain ⟨i, rfl⟩ : ∃ i, j = i + 1 := ⟨j - 1, by omega⟩
            obtain ⟨b', o', e2, _, _, hp2⟩ := rowj.pt (k := i) (by have := hn'.out; omega)
            injection e2 with e2
            injection e2 with e2 e3
            subst e2 e3
            have n1 : (i : Int) + 1 < (n : Int) := by omega
            have n2 : (0 : Int) ≤ (i : Int) + 1 := by omega
            have n3 : (i : Int) < (n : Int) := by omega
            have n4 : ((i : Int) + 1).toNat = i + 1 := by omega
            have n5 : IntKind.i64.wrap (i : Int) = i := by rw [IntKind.wrap_i64]; omega
            have n6 : ((i : Int) + 1 == 0) = false := beq_false_of_ne (by omega)
            rw [show i + 1 - 1 = i by omega] at e1
            go_wp2
            go_quiet (fail)
            go_wp2
            go_meet
            exact ⟨by rw [e1.out], Lib.hid ⟨_, rfl⟩⟩
      case rest =>
        obtain ⟨rfl, hwc⟩ := hcut
        have belc : Hid (Below w1.heap.size w1 wc) := Lib.hid (by obtain ⟨mm, e⟩ := hwc.out; rw [e]; exact below_drewN hbel.out mm)
        clear hwc hbel rowj hc1 hc2 hsz1
        obtain ⟨t, rfl, hkt⟩ := near_split told k hT2 ht1
        have hszc := belc.out.size
        have rowc := hr1.below belc.out
        have HROW : Hid (∀ W : World, Below wc.heap.size wc W → Row .i64 W W.heap.size (some ⟨b, o, none⟩) (flP (l.take (j + 1)))) := Lib.hid fun W hW => ((rowc.frontP (j + 1)).below (hW.mono hszc)).more (Nat.le_trans hszc hW.size)
        have bxc := bx1.below belc.out
        have hszw : w.heap.size < wc.heap.size := bxc.lt
        have HK : Hid (∀ w' : World, Below wc.heap.size wc w' → (Below wc.heap.size wc w' ∧ w'.cell? ⟨w.heap.size, 0, none⟩ = some (.int .i64 d) ∧ w'.cell? ⟨w.heap.size, 1, none⟩ = some (.int .i64 q))) := Lib.hid fun w' hw => ⟨hw, cells2 ((hw.block _ (by omega)).trans bxc.1)⟩
        have belh : ∀ w' : World, (Below wc.heap.size wc w' ∧ w'.cell? ⟨w.heap.size, 0, none⟩ = some (.int .i64 d) ∧ w'.cell? ⟨w.heap.size, 1, none⟩ = some (.int .i64 q)) → Below wc.heap.size wc w' := fun w' h => h.1
        have HT := Lib.hid hT
        have HLT : Hid ((l.take (j + 1)).length = j + 1) := Lib.hid (by have := hn'.out; rw [List.length_take]; omega)
        have HOK : Hid (∀ p ∈ runP d q Hd.zero (l.take (j + 1)), Pt.Ok p) := Lib.hid (runP_okN (fun p hp => hok.out p (List.mem_of_mem_take hp)))
        have n1 : (j : Int) + 1 ≤ (c : Int) := by omega
        have n2 : (0 : Int) ≤ (j : Int) + 1 := by omega
        have n4 : ((j : Int) + 1).toNat = j + 1 := by omega
        have n5 : IntKind.i64.wrap ((j : Int) + 1) = (j : Int) + 1 := by rw [IntKind.wrap_i64]; omega
        have n6 : ¬ (j : Int) + 1 < 0 := by omega
        have n7 : (c : Int).toNat = c := by omega
        clear hT hT2 ht1 hrr hk
        go_wp2
        go_region_held3 (fun w' => Below wc.heap.size wc w' ∧ w'.cell? ⟨w.heap.size, 0, none⟩ = some (.int .i64 d) ∧ w'.cell? ⟨w.heap.size, 1, none⟩ = some (.int .i64 q))
          ((refine HK.out _ ?_
            repeat' (first
              | with_reducible exact Below.refl _ _
              | with_reducible exact bel5
              | with_reducible exact belh _ (by assumption)
              | with_reducible apply below_drew
              | with_reducible apply below_drewN
              | fail)))
          (first
            | (go_at_call 14; refine (Run_any d q _ (j + 1) c (l.take (j + 1)) hd hq _ (HROW.out _ (by first | exact belh _ (by assumption))) HLT.out (by omega)).mono ?_; rintro e w2 ⟨v2, rfl, own2, b2⟩; obtain ⟨A2, c2, rfl, _, _, _⟩ := own2.row HOK.out; rw [HT.out]; have bel5 : Below wc.heap.size wc w2 := Below.trans (belh _ (by assumption)) (b2.mono (Below.size (belh _ (by assumption)))))
            | fail)
        have bel2 : Hid (Below w1.heap.size w1 w2) := Lib.hid (belc.out.trans (bel5.mono hszc))
        clear belh HK bel5 HROW rowc bxc belc hszc hszw own2 n1 n2 n4 n5 n6 n7
        have rown := hr1.below bel2.out
        obtain ⟨b', o', e2, _, hc1, hc2⟩ := rown.pt (k := j) (by have := hn'.out; omega)
        injection e2 with e2
        injection e2 with e2 e3
        subst e2 e3
        have rowm := row1.below bel2.out
        obtain ⟨b', o', rfl, hb2, hp1, hp2⟩ := rowm.pt (k := t) (by have := HM.out; omega)
        have bx2 := bx1.below bel2.out
        rw [show t + 1 - 1 = t by omega] at hlx hly
        rw [hlx] at hp1
        rw [hly] at hp2
        have HLX := Lib.hid hlx
        have HLY := Lib.hid hly
        obtain ⟨x, hx⟩ : ∃ x, ptX l j = x := ⟨_, rfl⟩
        obtain ⟨y, hy⟩ : ∃ y, ptY l j = y := ⟨_, rfl⟩
        rw [hx] at hc1 hnew hf1 okj
        rw [hy] at hc2 hnew hf2 okj
        have f1 : ((t : Int) + 1 == (t : Int)) = false := beq_false_of_ne (by omega)
        have f2 : ¬ (m : Int) < (t : Int) + 1 := by omega
        have f3 : ((t : Int) + 1 == 0) = false := beq_false_of_ne (by omega)
        have f4 : IntKind.i64.wrap ((t : Int) + 1) = (t : Int) + 1 := by rw [IntKind.wrap_i64]; omega
        have f5 : IntKind.i64.wrap ((t : Int) + 1 + 1) = (t : Int) + 1 + 1 := by rw [IntKind.wrap_i64]; omega
        have f6 : ((t : Int) + 1 == (t : Int) + 1 + 1) = false := beq_false_of_ne (by omega)
        have f7 : IntKind.i64.wrap (t : Int) = (t : Int) := by rw [IntKind.wrap_i64]; omega
        have f8 : (t : Int) < (m : Int) := by omega
        have f9 : (0 : Int) ≤ (t : Int) := by omega
        clear rown rowm hlx hly
        have hbw : b < w2.heap.size := by have := bel2.out.size; have := bx1.lt; have := bx2.lt; omega
        rcases hkt with hkt | hkt
        · clear hnew
          have hkt := hkt.symm
          subst hkt
          go_upto_region 13 with fail
          go_quiet (fail)
          have bel2d := Lib.hid (below_drewN bel2.out nq)
          have bx2d := bx2.drewN nq
          have hc1d : (w2.drewN nq).cell? ⟨b, o + j * 2, none⟩ = _ := hc1
          have hc2d : (w2.drewN nq).cell? ⟨b, o + j * 2 + 1, none⟩ = _ := hc2
          have hp1d : (w2.drewN nq).cell? ⟨b', o' + t * 2, none⟩ = _ := hp1
          have hp2d : (w2.drewN nq).cell? ⟨b', o' + t * 2 + 1, none⟩ = _ := hp2
          have hbwd : b < (w2.drewN nq).heap.size := hbw
          clear bel2 bx2 hc1 hc2 hp1 hp2 hbw
          generalize w2.drewN nq = wd at *
          have HF1 := Lib.hid (fun W => far_any x lx d okj.out.1 hlok.1 hd W)
          rw [hf1] at HF1
          have bel3 := Lib.hid (bel2d.out.alloc bel2d.out.size (.cells #[.int .i64 lx, .int .i64 ly] 27))
          have bx3 := bx2d.alloc (.cells #[.int .i64 lx, .int .i64 ly] 27)
          have h31 := ((bel_alloc wd (.cells #[.int .i64 lx, .int .i64 ly] 27)).cell (p := ⟨b, o + j * 2, none⟩) hbwd).trans hc1d
          have h32 := ((bel_alloc wd (.cells #[.int .i64 lx, .int .i64 ly] 27)).cell (p := ⟨b, o + j * 2 + 1, none⟩) hbwd).trans hc2d
          obtain ⟨h33, h34⟩ := cells2 bx3.1
          obtain ⟨h35, h36⟩ := cells2 (heap_alloc_new wd (.cells #[.int .i64 lx, .int .i64 ly] 27))
          go_upto_region 17 with fail
          cases r' with
          | false =>
            go_quiet ((go_at_call 20; refine Calls.quiet_of_same (HF1.out _)))
            go_wp2
            go_roundw
            case rel => exact ⟨j + 1, t + 1, _, by omega, by omega, by go_num, by go_num, rfl, hr', HT, Lib.hid (below_drewN bel3.out _)⟩
            case measure => simp [intOf]; omega
          | true =>
            by_cases hq0 : 0 < q
            · have HF2 := Lib.hid (fun W => far_any y ly (q - 1) okj.out.2 hlok.2 (by omega) W)
              rw [hf2 hr'.out hq0] at HF2
              have f10 : IntKind.i64.wrap (q - 1) = q - 1 := by rw [IntKind.wrap_i64]; omega
              go_quiet ((go_at_call 20; first | with_reducible refine Calls.quiet_of_same (HF1.out _) | with_reducible refine Calls.quiet_of_same (HF2.out _) | fail))
              go_wp2
              go_roundw
              case rel => exact ⟨j + 1, t + 1, _, by omega, by omega, by go_num, by go_num, rfl, hr', HT, Lib.hid (below_drewN bel3.out _)⟩
              case measure => simp [intOf]; omega
            · have f10 : decide (0 < q) = false := decide_eq_false hq0
              clear hq0
              go_quiet ((go_at_call 20; refine Calls.quiet_of_same (HF1.out _)))
              go_wp2
              go_roundw
              case rel => exact ⟨j + 1, t + 1, _, by omega, by omega, by go_num, by go_num, rfl, hr', HT, Lib.hid (below_drewN bel3.out _)⟩
              case measure => simp [intOf]; omega
        · have hkt := hkt.symm
          subst hkt
          obtain ⟨g1, g2⟩ := hnew rfl
          rw [HLX.out] at g1
          rw [HLY.out] at g2
          subst g1 g2
          go_upto_region 13 with fail
          go_quiet (fail)
          have bel2d := Lib.hid (below_drewN bel2.out nq)
          have bx2d := bx2.drewN nq
          have hc1d : (w2.drewN nq).cell? ⟨b, o + j * 2, none⟩ = _ := hc1
          have hc2d : (w2.drewN nq).cell? ⟨b, o + j * 2 + 1, none⟩ = _ := hc2
          have hp1d : (w2.drewN nq).cell? ⟨b', o' + t * 2, none⟩ = _ := hp1
          have hp2d : (w2.drewN nq).cell? ⟨b', o' + t * 2 + 1, none⟩ = _ := hp2
          have hbwd : b < (w2.drewN nq).heap.size := hbw
          clear bel2 bx2 hc1 hc2 hp1 hp2 hbw
          generalize w2.drewN nq = wd at *
          have HF1 := Lib.hid (fun W => far_any lx lx d okj.out.1 hlok.1 hd W)
          rw [hf1] at HF1
          have bel3 := Lib.hid (bel2d.out.alloc bel2d.out.size (.cells #[.int .i64 lx, .int .i64 ly] 27))
          have bx3 := bx2d.alloc (.cells #[.int .i64 lx, .int .i64 ly] 27)
          have h31 := ((bel_alloc wd (.cells #[.int .i64 lx, .int .i64 ly] 27)).cell (p := ⟨b, o + j * 2, none⟩) hbwd).trans hc1d
          have h32 := ((bel_alloc wd (.cells #[.int .i64 lx, .int .i64 ly] 27)).cell (p := ⟨b, o + j * 2 + 1, none⟩) hbwd).trans hc2d
          obtain ⟨h33, h34⟩ := cells2 bx3.1
          obtain ⟨h35, h36⟩ := cells2 (heap_alloc_new wd (.cells #[.int .i64 lx, .int .i64 ly] 27))
          go_upto_region 17 with fail
          cases r' with
          | false =>
            go_quiet ((go_at_call 20; refine Calls.quiet_of_same (HF1.out _)))
            go_wp2
            go_roundw
            case rel => exact ⟨j + 1, t + 1, _, by omega, by omega, by go_num, by go_num, rfl, hr', HT, Lib.hid (below_drewN bel3.out _)⟩
            case measure => simp [intOf]; omega
          | true =>
            by_cases hq0 : 0 < q
            · have HF2 := Lib.hid (fun W => far_any ly ly (q - 1) okj.out.2 hlok.2 (by omega) W)
              rw [hf2 hr'.out hq0] at HF2
              have f10 : IntKind.i64.wrap (q - 1) = q - 1 := by rw [IntKind.wrap_i64]; omega
              go_quiet ((go_at_call 20; first | with_reducible refine Calls.quiet_of_same (HF1.out _) | with_reducible refine Calls.quiet_of_same (HF2.out _) | fail))
              go_wp2
              go_roundw
              case rel => exact ⟨j + 1, t + 1, _, by omega, by omega, by go_num, by go_num, rfl, hr', HT, Lib.hid (below_drewN bel3.out _)⟩
              case measure => simp [intOf]; omega
            · have f10 : decide (0 < q) = false := decide_eq_false hq0
              clear hq0
              go_quiet ((go_at_call 20; refine Calls.quiet_of_same (HF1.out _)))
              go_wp2
              go_roundw
              case rel => exact ⟨j + 1, t + 1, _, by omega, by omega, by go_num, by go_num, rfl, hr', HT, Lib.hid (below_drewN bel3.out _)⟩
              case measure => simp [intOf]; omega
    · have hjn : j = n := by omega
      have hkm : k = m := by rw [← hk.out, ← hend.out, hjn]
      subst hjn hkm
      have bx2 := bx1.below hbel.out
      clear hk hrr hkj
      go_wp2_with fail
      refine (known_yes _).mono ?_
      rintro e w6 ⟨rfl, b6⟩
      have bel6 := (bx2.below b6).2
      go_wp2
      go_ret
      exact ⟨rfl, bel6⟩
end Go.Proofs.Ytggijpfmcidpaaa
