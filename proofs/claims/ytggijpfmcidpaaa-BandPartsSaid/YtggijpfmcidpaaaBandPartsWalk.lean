/-
  The walk of BandParts.
-/
import Derived.Test.YtggijpfmcidpaaaBdKnown
import Derived.Test.YtggijpfmcidpaaaBdNearMath
import Derived.Test.YtggijpfmcidpaaaPick
import Derived.BigQuiet
import Derived.Deep.RegionHeld3
namespace Go.Proofs.Ytggijpfmcidpaaa
open Go.RowKit
set_option linter.unusedVariables false

theorem runP_okP {d q : Int} {h : Hd} {l : List Pt} (hl : ∀ p ∈ l, Pt.Ok p) : ∀ p ∈ runP d q h l, Pt.Ok p := fun p hp => hl p ((runP_sub d q h l).subset hp)
theorem Row.frontQ {w : World} {B : Nat} {A : Option Addr} {l : List Pt} (h : Row .i64 w B A (flP l)) (k : Nat) : Row .i64 w B A (flP (l.take k)) := by
  rw [← flP_take]; exact h.front _
/-- A list of points lies in no block of another kind. -/
theorem PtOwn.ne {e t : TypeId} {w : World} {base G : Nat} {v : Value} {l : List Pt} {cs : Array Value} (h : PtOwn e w base v l) (hG : w.heap[G]? = some (.cells cs t (0, 0))) (ht : t ≠ e) : v.ownBlock ≠ some G := by
  rcases h with ⟨rfl, _⟩ | ⟨g, cap, r, rfl, h2, h3, h4⟩
  · intro e; cases e
  · intro e
    injection e with e
    have e : g = G := e
    subst e
    rw [h3] at hG
    injection hG with hG
    injection hG with _ h5 _
    exact ht h5.symm
theorem PtOwn.setNe {e : TypeId} {w : World} {base g : Nat} {v : Value} {l : List Pt} (h : PtOwn e w base v l) (hg : v.ownBlock ≠ some g) (i : Nat) (u : Value) : PtOwn e (w.setCell ⟨g, i, none⟩ u) base v l := by
  rcases h with h | ⟨q, cap, r, rfl, h2, h3, h4⟩
  · exact .inl h
  · exact .inr ⟨q, cap, r, rfl, h2, (Below.heap_setCell w ⟨g, i, none⟩ u q (fun e => hg (by show some q = some g; rw [e]))).trans h3, h4⟩
theorem PtOwn.putNe {e : TypeId} {w : World} {base g : Nat} {v : Value} {l : List Pt} (h : PtOwn e w base v l) (hg : v.ownBlock ≠ some g) (x y z : Value) : PtOwn e (Go.Proofs.Ytggijpfmcidpaaa.putH w g x y z) base v l := ((h.setNe hg 0 x).setNe hg 1 y).setNe hg 2 z
/-- The band's box and that of what is held. -/
def BH (w0 : World) (a : Obj) (G : Nat) (h : Hd) (w : World) : Prop := w.heap[w0.heap.size]? = some a ∧ w.heap[G]? = some (heldB h) ∧ w0.heap.size < G ∧ Below w0.heap.size w0 w
theorem BH.lt {w0 w : World} {a : Obj} {G : Nat} {h : Hd} (b : BH w0 a G h w) : G < w.heap.size := block_lt b.2.1
theorem BH.below {w0 w w' : World} {a : Obj} {G : Nat} {h : Hd} (b : BH w0 a G h w) (hb : Below w.heap.size w w') : BH w0 a G h w' := by
  have := b.lt
  obtain ⟨h1, h2, h3, h4⟩ := b
  exact ⟨(hb.block _ (by omega)).trans h1, (hb.block _ (by omega)).trans h2, h3, h4.trans (hb.mono (by omega))⟩
theorem BH.grown {w0 w w' : World} {a : Obj} {G : Nat} {h : Hd} {row : Option Nat} (b : BH w0 a G h w) (hg : w.grownBy w' row) (h1 : row ≠ some w0.heap.size) (h2 : row ≠ some G) (hr : ∀ g, row = some g → w0.heap.size ≤ g) : BH w0 a G h w' := by
  have := b.lt
  obtain ⟨c1, c2, c3, c4⟩ := b
  exact ⟨(hg.block _ (by omega) (fun e => h1 e.symm)).trans c1, (hg.block _ (by omega) (fun e => h2 e.symm)).trans c2, c3, c4.grown hg (by omega) hr⟩
theorem BH.put {w0 w : World} {a : Obj} {G : Nat} {h : Hd} (b : BH w0 a G h w) (h' : Hd) : BH w0 a G h' (putH w G (.bool h'.has) (.int .i64 h'.v) (.int .i64 h'.t)) := by
  obtain ⟨c1, c2, c3, c4⟩ := b
  refine ⟨?_, box_set (box_set (box_set c2 0 _) 1 _) 2 _, c3, below_setCell (below_setCell (below_setCell c4 (by omega) 0 _) (by omega) 1 _) (by omega) 2 _⟩
  have hne : (⟨G, 0, none⟩ : Addr).block ≠ w0.heap.size := by show G ≠ _; omega
  exact (Below.heap_setCell _ ⟨G, 2, none⟩ _ _ (by show _ ≠ G; omega)).trans ((Below.heap_setCell _ ⟨G, 1, none⟩ _ _ (by show _ ≠ G; omega)).trans ((Below.heap_setCell _ ⟨G, 0, none⟩ _ _ (by show _ ≠ G; omega)).trans c1))
theorem balP {a w : World} (h : Below a.heap.size a w) (o : Obj) : Below a.heap.size a (w.alloc o) := h.alloc h.size o
theorem bsetP {a w : World} {g : Nat} (i : Nat) (v : Value) (h : Below a.heap.size a w) (hg : a.heap.size ≤ g) : Below a.heap.size a (w.setCell ⟨g, i, none⟩ v) := below_setCell h hg i v

set_option maxHeartbeats 2000000 in
set_option maxRecDepth 100000 in
theorem walk_BandParts (d q : Int) (A : Option Addr) (n c : Nat) (l : List Pt) (cut : Int) (w : World) (wb : Pt.Ok (d, q)) (hr : Row .i64 w w.heap.size A (flP l)) (hn : l.length = n) (hc : n ≤ c) (hb : c * 16 ≤ 140737488351232) (wc : (Lit.int .i64 cut).wf = true) :
    Calls Try.prog 7 #[.agg #[.int .i64 d, .int .i64 q], .slice A n c, .int .i64 cut] w fun e w' => e = .returned (.bool true) ∧ Below w.heap.size w w' := by
  obtain ⟨hd, hq⟩ := wb
  simp only at hd hq
  have bx0 := Bx.new w (.cells #[.int .i64 d, .int .i64 q] 23)
  by_cases hbig : (16384 : Int) < n
  · go_enter Try.func7, Try.ntmps7
    go_wp2_with fail
    refine (known_yes _).mono ?_
    rintro e w1 ⟨rfl, b1⟩
    go_wp2
    go_ret
    exact ⟨rfl, (bx0.below b1).2⟩
  have hn' := Lib.hid hn
  have hok := Lib.hid (flP_ok hr.1)
  have hlen := runP_len d q Hd.zero l
  rw [hn] at hlen
  have hpk := pick_lt cut (n + 1) (by omega)
  have HP := Lib.hid (fun W => Pick_any cut (n + 1) W (by omega) (by omega))
  rw [show ((n + 1 : Nat) : Int) = (n : Int) + 1 by omega] at HP
  obtain ⟨k, hk⟩ : ∃ k, pick cut (n + 1) = k := ⟨_, rfl⟩
  rw [hk] at hpk HP
  clear hk hb
  have hr0 := (hr.below bx0.2).more bx0.2.size
  go_enter Try.func7, Try.ntmps7
  go_wp2_with fail
  refine (HP.out _).mono ?_
  rintro e w' ⟨rfl, rfl⟩
  have hzw : w.heap.size < (w.alloc (.cells #[.int .i64 d, .int .i64 q] 23)).heap.size := bx0.lt
  generalize w.alloc (.cells #[.int .i64 d, .int .i64 q] 23) = wk at *
  have n1 : (k : Int) ≤ (c : Int) := by omega
  have n2 : (0 : Int) ≤ (k : Int) := by omega
  have n4 : (k : Int).toNat = k := by omega
  have n6 : ¬ (k : Int) < 0 := by omega
  have HROW : Hid (∀ W : World, Below wk.heap.size wk W → Row .i64 W W.heap.size A (flP (l.take k))) := Lib.hid fun W hW => ((hr0.frontQ k).below hW).more hW.size
  have HLT : Hid ((l.take k).length = k) := Lib.hid (by have := hn'.out; rw [List.length_take]; omega)
  have HOK : Hid (∀ p ∈ runP d q Hd.zero (l.take k), Pt.Ok p) := Lib.hid (runP_okP (fun p hp => hok.out p (List.mem_of_mem_take hp)))
  have hml := runP_len d q Hd.zero (l.take k)
  rw [HLT.out] at hml
  obtain ⟨m, hm⟩ : ∃ m, Hid ((runP d q Hd.zero (l.take k)).length = m) := ⟨_, Lib.hid rfl⟩
  rw [hm.out] at hml
  have HK : Hid (∀ w' : World, Below wk.heap.size wk w' → (Below wk.heap.size wk w' ∧ w'.cell? ⟨w.heap.size, 0, none⟩ = some (.int .i64 d) ∧ w'.cell? ⟨w.heap.size, 1, none⟩ = some (.int .i64 q))) := Lib.hid fun w' hw => ⟨hw, cells2 ((hw.block _ (by omega)).trans bx0.1)⟩
  have belh : ∀ w' : World, (Below wk.heap.size wk w' ∧ w'.cell? ⟨w.heap.size, 0, none⟩ = some (.int .i64 d) ∧ w'.cell? ⟨w.heap.size, 1, none⟩ = some (.int .i64 q)) → Below wk.heap.size wk w' := fun w' h => h.1
  go_wp2
  go_region_held3 (fun w' => Below wk.heap.size wk w' ∧ w'.cell? ⟨w.heap.size, 0, none⟩ = some (.int .i64 d) ∧ w'.cell? ⟨w.heap.size, 1, none⟩ = some (.int .i64 q))
    ((refine HK.out _ ?_
      repeat' (first
        | with_reducible exact Below.refl _ _
        | with_reducible exact bel6
        | with_reducible exact bel5
        | with_reducible exact belh _ (by assumption)
        | with_reducible apply below_drew
        | with_reducible apply below_drewN
        | fail)))
    (first
      | (go_at_call 14; refine (Run_any d q _ k c (l.take k) hd hq _ (HROW.out _ (by first | exact belh _ (by assumption))) HLT.out (by omega)).mono ?_; rintro e w2 ⟨v2, rfl, own2, b2⟩; obtain ⟨A2, c2, rfl, row2, _, _⟩ := own2.row HOK.out; rw [hm.out]; have bel5 : Below wk.heap.size wk w2 := Below.trans (belh _ (by assumption)) (b2.mono (Below.size (belh _ (by assumption)))))
      | (go_at_call 22; refine (copy_pt A2 m c2 _ _ (by first | exact row2 | exact row2.drewN _) hm.out (by omega)).mono ?_; rintro e w3 ⟨v3, rfl, own3, b3⟩; have bel6 : Below wk.heap.size wk w3 := Below.trans (belh _ (by assumption)) (b3.mono (Below.size (belh _ (by assumption)))))
      | fail)
  have own3b : PtOwn 27 w3 wk.heap.size v3 (runP d q Hd.zero (l.take k)) := own3.mono (by first | exact bel5.size | exact Below.size bel5)
  have bh3 := Lib.hid (show BH w (.cells #[.int .i64 d, .int .i64 q] 23) w3.heap.size Hd.zero (w3.alloc (.cells #[.bool false, .int .i64 0, .int .i64 0] 25)) from ⟨(heap_alloc_old _ _ (by have := bel6.size; omega)).trans ((bel6.block _ (by omega)).trans bx0.1), heap_alloc_new _ _, by have := bel6.size; omega, (bx0.2.trans (bel6.mono (by omega))).alloc (by have := bel6.size; omega) _⟩)
  have bhG : Hid (∀ h : Hd, BH w (.cells #[.int .i64 d, .int .i64 q] 23) w3.heap.size h (w3.alloc (heldB h))) := Lib.hid fun h => ⟨(heap_alloc_old _ _ (by have := bel6.size; omega)).trans ((bel6.block _ (by omega)).trans bx0.1), heap_alloc_new _ _, by have := bel6.size; omega, (bx0.2.trans (bel6.mono (by omega))).alloc (by have := bel6.size; omega) _⟩
  have own3c := own3b.alloc (.cells #[.bool false, .int .i64 0, .int .i64 0] 25)
  have hwkG : wk.heap.size ≤ w3.heap.size := bel6.size
  obtain ⟨A3, c3, rfl, row3, hmc, _⟩ := own3b.row HOK.out
  rw [hm.out] at hmc
  rw [hm.out] at own3c ⊢
  have own3d := own3b
  rw [hm.out] at own3d
  clear own3 own3b bel5 belh HK HROW n1 n2 n4 n6 b3
  rcases Nat.eq_zero_or_pos m with hm0 | hm0
  · subst hm0
    have bhl : Hid (BH w (.cells #[.int .i64 d, .int .i64 q] 23) w3.heap.size (endH d q Hd.zero (l.take k)) (w3.alloc (.cells #[.bool false, .int .i64 0, .int .i64 0] 25))) := Lib.hid (by rw [endH_last, List.eq_nil_of_length_eq_zero hm.out]; exact bh3.out)
    have ownl := own3c
    clear own3c bh3 row3
    go_wp2
    generalize w3.alloc (.cells #[.bool false, .int .i64 0, .int .i64 0] 25) = wl at *
    generalize w3.heap.size = G at *
    go_loopw [8, 11] (fun v i wr => ∃ j : Nat, k ≤ j ∧ j ≤ n ∧ i = .int .i64 j ∧ PtOwn 27 wr wk.heap.size v (runP d q Hd.zero (l.take j)) ∧ Hid (BH w (.cells #[.int .i64 d, .int .i64 q] 23) G (endH d q Hd.zero (l.take j)) wr)) (fun _ i _ => n - (intOf i).toNat)
    case atStart => exact ⟨k, by omega, by omega, rfl, ownl, bhl⟩
    case round =>
      obtain ⟨j, hkj, hjn, rfl, hown, hbh⟩ := hrel
      by_cases hlt : j < n
      · have hkl : j < l.length := by have := hn'.out; omega
        have hslt := hbh.out.lt
        have hwG := hbh.out.2.2.1
        obtain ⟨b, o, rfl, hb1, hc1, hc2⟩ := (hr.below hbh.out.2.2.2).pt hkl
        have HX := Lib.hid (pt_ok hok.out hkl)
        have HE := Lib.hid (endH_ok (d := d) (q := q) (l.take j) Hd.zero_ok (fun p hp => hok.out p (List.mem_of_mem_take hp)))
        have HT := Lib.hid (takeP_step l j hkl)
        have HL := Lib.hid (Nat.le_trans (runP_len d q Hd.zero (l.take j)) (by rw [List.length_take]; omega : (l.take j).length ≤ j))
        have HR := Lib.hid (runP_step d q Hd.zero (l.take j) (ptX l j, ptY l j))
        have HS := Lib.hid (endH_step d q Hd.zero (l.take j) (ptX l j, ptY l j))
        rw [← HT.out] at HR HS
        obtain ⟨x, hx⟩ : ∃ x, ptX l j = x := ⟨_, rfl⟩
        obtain ⟨y, hy⟩ : ∃ y, ptY l j = y := ⟨_, rfl⟩
        obtain ⟨hl, hhl⟩ : ∃ hl, endH d q Hd.zero (l.take j) = hl := ⟨_, rfl⟩
        obtain ⟨out, hout⟩ : ∃ out, runP d q Hd.zero (l.take j) = out := ⟨_, rfl⟩
        rw [hhl] at HE HR HS hbh
        rw [hx] at HX HR HS hc1
        rw [hy] at HX HR HS hc2
        rw [hout] at HL HR hown
        obtain ⟨hs, hv, ht⟩ := hl
        clear hx hy hhl hout HT
        have hlt' : (j : Int) < (n : Int) := by omega
        have hj0 : (0 : Int) ≤ (j : Int) := by omega
        have hwk : wk.heap.size ≤ wr.heap.size := by omega
        cases ht2 : toldB d q ⟨hs, hv, ht⟩ (x, y) with
        | true =>
          have HV : Hid (stepV d q ⟨hs, hv, ht⟩ (x, y) = .tuple #[.agg #[.bool true, .int .i64 x, .int .i64 y], .bool true]) := Lib.hid (by unfold stepV; rw [ht2, stepH_t ht2]; rfl)
          rw [ht2] at HR
          rw [stepH_t ht2] at HS
          have HLb : Hid ((out.length + 1) * 16 ≤ 140737488355328) := Lib.hid (by have := HL.out; omega)
          clear ht2
          have HK2 : Hid (∀ w' : World, Below wr.heap.size wr w' → (Below wr.heap.size wr w' ∧ w'.cell? ⟨w.heap.size, 0, none⟩ = some (.int .i64 d) ∧ w'.cell? ⟨w.heap.size, 1, none⟩ = some (.int .i64 q) ∧ w'.cell? ⟨G, 0, none⟩ = some (.bool hs) ∧ w'.cell? ⟨G, 1, none⟩ = some (.int .i64 hv) ∧ w'.cell? ⟨G, 2, none⟩ = some (.int .i64 ht) ∧ w'.cell? ⟨b, o + j * 2, none⟩ = some (.int .i64 x) ∧ w'.cell? ⟨b, o + j * 2 + 1, none⟩ = some (.int .i64 y))) := Lib.hid fun w' hw => ⟨hw, (cells2 ((hw.block _ (by omega)).trans hbh.out.1)).1, (cells2 ((hw.block _ (by omega)).trans hbh.out.1)).2, (cells3 ((hw.block _ (by omega)).trans hbh.out.2.1)).1, (cells3 ((hw.block _ (by omega)).trans hbh.out.2.1)).2.1, (cells3 ((hw.block _ (by omega)).trans hbh.out.2.1)).2.2, (hw.cell (p := ⟨b, o + j * 2, none⟩) (by show b < _; omega)).trans hc1, (hw.cell (p := ⟨b, o + j * 2 + 1, none⟩) (by show b < _; omega)).trans hc2⟩
          have belh2 : ∀ w' : World, (Below wr.heap.size wr w' ∧ w'.cell? ⟨w.heap.size, 0, none⟩ = some (.int .i64 d) ∧ w'.cell? ⟨w.heap.size, 1, none⟩ = some (.int .i64 q) ∧ w'.cell? ⟨G, 0, none⟩ = some (.bool hs) ∧ w'.cell? ⟨G, 1, none⟩ = some (.int .i64 hv) ∧ w'.cell? ⟨G, 2, none⟩ = some (.int .i64 ht) ∧ w'.cell? ⟨b, o + j * 2, none⟩ = some (.int .i64 x) ∧ w'.cell? ⟨b, o + j * 2 + 1, none⟩ = some (.int .i64 y)) → Below wr.heap.size wr w' := fun w' h => h.1
          go_wp2
          go_region_held3 (fun w' => Below wr.heap.size wr w' ∧ w'.cell? ⟨w.heap.size, 0, none⟩ = some (.int .i64 d) ∧ w'.cell? ⟨w.heap.size, 1, none⟩ = some (.int .i64 q) ∧ w'.cell? ⟨G, 0, none⟩ = some (.bool hs) ∧ w'.cell? ⟨G, 1, none⟩ = some (.int .i64 hv) ∧ w'.cell? ⟨G, 2, none⟩ = some (.int .i64 ht) ∧ w'.cell? ⟨b, o + j * 2, none⟩ = some (.int .i64 x) ∧ w'.cell? ⟨b, o + j * 2 + 1, none⟩ = some (.int .i64 y))
            ((refine HK2.out _ ?_
              repeat' (first
                | with_reducible exact Below.refl _ _
                | with_reducible exact bel5
                | with_reducible exact belh2 _ (by assumption)
                | with_reducible apply below_drew
                | with_reducible apply below_drewN
                | with_reducible apply balP
                | with_reducible refine bsetP _ _ ?_ (Nat.le_refl _)
                | with_reducible refine bsetP _ _ ?_ (Below.size (by first | exact bel5 | exact belh2 _ (by assumption)))
                | fail)))
            (first
              | (go_at_call 9; refine (Step_any d q hv ht x y hs hd hq HE.out.1 HE.out.2 HX.out.1 HX.out.2 _).mono ?_; rintro e w1 ⟨rfl, b1⟩; rw [HV.out]; have bel5 : Below wr.heap.size wr w1 := Below.trans (belh2 _ (by assumption)) (b1.mono (Below.size (belh2 _ (by assumption)))); (try (have hb7 := (b1.block wr.heap.size (by simp)).trans (by first | exact heap_alloc_new wr (.cells #[.bool false, .int .i64 0, .int .i64 0] 25) | exact heap_alloc_new wr.drew (.cells #[.bool false, .int .i64 0, .int .i64 0] 25) | exact heap_alloc_new (wr.drewN _) (.cells #[.bool false, .int .i64 0, .int .i64 0] 25)); obtain ⟨p0, p1, p2⟩ := cells3 hb7; obtain ⟨f0, f1, f2⟩ := froz3 hb7)))
              | fail)
          · have bx8 := heap_alloc_new w1 (.cells #[.bool true, .int .i64 x, .int .i64 y] 25)
            have bel6 := balP bel5 (.cells #[.bool true, .int .i64 x, .int .i64 y] 25)
            generalize w1.alloc (.cells #[.bool true, .int .i64 x, .int .i64 y] 25) = w2 at *
            generalize w1.heap.size = G12 at *
            (try simp only [Exit.then])
            have bh2 := Lib.hid (hbh.out.below bel6)
            have own2 := hown.below bel6 (Nat.le_refl _)
            have hg1 := (bel6.cell (p := ⟨b, o + j * 2, none⟩) (by show b < _; omega)).trans hc1
            have hg2 := (bel6.cell (p := ⟨b, o + j * 2 + 1, none⟩) (by show b < _; omega)).trans hc2
            have hs3 : wk.heap.size ≤ w2.heap.size := by have := bel6.size; omega
            have hbox := box_two w2 27 x y
            have ne1 := own2.ne bx8 (by decide)
            have ne2 := own2.ne bh2.out.1 (by decide)
            have ne3 := own2.ne bh2.out.2.1 (by decide)
            clear belh2 HK2 hbh hown
            go_wp2_with (at_builtin; refine wpList_append_pt _ rfl _ _ 33 rfl wk.heap.size 27 Try.underlying33 info_pt _ out rfl (own2.alloc _) _ 1 _ _ rfl hbox HLb.out (by simp; omega) ?_; intro v1 w3 hown1 hgr1; have bh3 := Lib.hid ((bh2.out.below (bel_alloc w2 (.cells #[.int .i64 x, .int .i64 y] 27))).grown hgr1 ne2 ne3 (fun g e => by have := (own2.block g e).1; omega)); have bx83 := (hgr1.block G12 (by have := block_lt bx8; simp; omega) (fun e => ne1 e.symm)).trans ((heap_alloc_old _ _ (block_lt bx8)).trans bx8); obtain ⟨z1, z2, z3⟩ := cells3 bh3.out.2.1; obtain ⟨f1, f2, f3⟩ := froz3 bh3.out.2.1; obtain ⟨e1, e2, e3⟩ := cells3 bx83)
            have own4 := hown1.putNe (hown1.ne bh3.out.2.1 (by decide)) (.bool true) (.int .i64 x) (.int .i64 y)
            have bh4 := Lib.hid (bh3.out.put ⟨true, x, y⟩)
            clear hbox own2 hgr1 bh2 bh3 bx8 bx83 ne1 ne2 ne3 hown1
            go_wp2
            go_roundw
            case rel => exact ⟨j + 1, by omega, by omega, by go_num, by rw [HR.out]; exact own4, by rw [HS.out]; exact bh4⟩
            case measure => simp [intOf]; omega
          · have bx8 : (putH w1 wr.heap.size (.bool true) (.int .i64 x) (.int .i64 y)).heap[wr.heap.size]? = some (.cells #[.bool true, .int .i64 x, .int .i64 y] 25) := box_set (box_set (box_set hb7 0 (.bool true)) 1 (.int .i64 x)) 2 (.int .i64 y)
            have bel6 : Below wr.heap.size wr (putH w1 wr.heap.size (.bool true) (.int .i64 x) (.int .i64 y)) := bsetP _ _ (bsetP _ _ (bsetP _ _ bel5 (Nat.le_refl _)) (Nat.le_refl _)) (Nat.le_refl _)
            show Exit.then _ _ _ _ (putH w1 wr.heap.size (.bool true) (.int .i64 x) (.int .i64 y))
            generalize putH w1 wr.heap.size (.bool true) (.int .i64 x) (.int .i64 y) = w2 at *
            (try simp only [Exit.then])
            have bh2 := Lib.hid (hbh.out.below bel6)
            have own2 := hown.below bel6 (Nat.le_refl _)
            have hg1 := (bel6.cell (p := ⟨b, o + j * 2, none⟩) (by show b < _; omega)).trans hc1
            have hg2 := (bel6.cell (p := ⟨b, o + j * 2 + 1, none⟩) (by show b < _; omega)).trans hc2
            have hs3 : wk.heap.size ≤ w2.heap.size := by have := bel6.size; omega
            have hbox := box_two w2 27 x y
            have ne1 := own2.ne bx8 (by decide)
            have ne2 := own2.ne bh2.out.1 (by decide)
            have ne3 := own2.ne bh2.out.2.1 (by decide)
            clear belh2 HK2 hbh hown
            go_wp2_with (at_builtin; refine wpList_append_pt _ rfl _ _ 33 rfl wk.heap.size 27 Try.underlying33 info_pt _ out rfl (own2.alloc _) _ 1 _ _ rfl hbox HLb.out (by simp; omega) ?_; intro v1 w3 hown1 hgr1; have bh3 := Lib.hid ((bh2.out.below (bel_alloc w2 (.cells #[.int .i64 x, .int .i64 y] 27))).grown hgr1 ne2 ne3 (fun g e => by have := (own2.block g e).1; omega)); have bx83 := (hgr1.block wr.heap.size (by have := block_lt bx8; simp; omega) (fun e => ne1 e.symm)).trans ((heap_alloc_old _ _ (block_lt bx8)).trans bx8); obtain ⟨z1, z2, z3⟩ := cells3 bh3.out.2.1; obtain ⟨f1, f2, f3⟩ := froz3 bh3.out.2.1; obtain ⟨e1, e2, e3⟩ := cells3 bx83)
            have own4 := hown1.putNe (hown1.ne bh3.out.2.1 (by decide)) (.bool true) (.int .i64 x) (.int .i64 y)
            have bh4 := Lib.hid (bh3.out.put ⟨true, x, y⟩)
            clear hbox own2 hgr1 bh2 bh3 bx8 bx83 ne1 ne2 ne3 hown1
            go_wp2
            go_roundw
            case rel => exact ⟨j + 1, by omega, by omega, by go_num, by rw [HR.out]; exact own4, by rw [HS.out]; exact bh4⟩
            case measure => simp [intOf]; omega
        | false =>
          have hst := told_false ht2
          subst hst
          have HV : Hid (stepV d q ⟨true, hv, ht⟩ (x, y) = .tuple #[.agg #[.bool true, .int .i64 hv, .int .i64 ht], .bool false]) := Lib.hid (by unfold stepV; rw [ht2, stepH_f ht2]; rfl)
          rw [ht2] at HR
          rw [stepH_f ht2] at HS
          clear ht2
          have HK2 : Hid (∀ w' : World, Below wr.heap.size wr w' → (Below wr.heap.size wr w' ∧ w'.cell? ⟨w.heap.size, 0, none⟩ = some (.int .i64 d) ∧ w'.cell? ⟨w.heap.size, 1, none⟩ = some (.int .i64 q) ∧ w'.cell? ⟨G, 0, none⟩ = some (.bool true) ∧ w'.cell? ⟨G, 1, none⟩ = some (.int .i64 hv) ∧ w'.cell? ⟨G, 2, none⟩ = some (.int .i64 ht) ∧ w'.cell? ⟨b, o + j * 2, none⟩ = some (.int .i64 x) ∧ w'.cell? ⟨b, o + j * 2 + 1, none⟩ = some (.int .i64 y))) := Lib.hid fun w' hw => ⟨hw, (cells2 ((hw.block _ (by omega)).trans hbh.out.1)).1, (cells2 ((hw.block _ (by omega)).trans hbh.out.1)).2, (cells3 ((hw.block _ (by omega)).trans hbh.out.2.1)).1, (cells3 ((hw.block _ (by omega)).trans hbh.out.2.1)).2.1, (cells3 ((hw.block _ (by omega)).trans hbh.out.2.1)).2.2, (hw.cell (p := ⟨b, o + j * 2, none⟩) (by show b < _; omega)).trans hc1, (hw.cell (p := ⟨b, o + j * 2 + 1, none⟩) (by show b < _; omega)).trans hc2⟩
          have belh2 : ∀ w' : World, (Below wr.heap.size wr w' ∧ w'.cell? ⟨w.heap.size, 0, none⟩ = some (.int .i64 d) ∧ w'.cell? ⟨w.heap.size, 1, none⟩ = some (.int .i64 q) ∧ w'.cell? ⟨G, 0, none⟩ = some (.bool true) ∧ w'.cell? ⟨G, 1, none⟩ = some (.int .i64 hv) ∧ w'.cell? ⟨G, 2, none⟩ = some (.int .i64 ht) ∧ w'.cell? ⟨b, o + j * 2, none⟩ = some (.int .i64 x) ∧ w'.cell? ⟨b, o + j * 2 + 1, none⟩ = some (.int .i64 y)) → Below wr.heap.size wr w' := fun w' h => h.1
          go_wp2
          go_region_held3 (fun w' => Below wr.heap.size wr w' ∧ w'.cell? ⟨w.heap.size, 0, none⟩ = some (.int .i64 d) ∧ w'.cell? ⟨w.heap.size, 1, none⟩ = some (.int .i64 q) ∧ w'.cell? ⟨G, 0, none⟩ = some (.bool true) ∧ w'.cell? ⟨G, 1, none⟩ = some (.int .i64 hv) ∧ w'.cell? ⟨G, 2, none⟩ = some (.int .i64 ht) ∧ w'.cell? ⟨b, o + j * 2, none⟩ = some (.int .i64 x) ∧ w'.cell? ⟨b, o + j * 2 + 1, none⟩ = some (.int .i64 y))
            ((refine HK2.out _ ?_
              repeat' (first
                | with_reducible exact Below.refl _ _
                | with_reducible exact bel5
                | with_reducible exact belh2 _ (by assumption)
                | with_reducible apply below_drew
                | with_reducible apply below_drewN
                | with_reducible apply balP
                | with_reducible refine bsetP _ _ ?_ (Nat.le_refl _)
                | with_reducible refine bsetP _ _ ?_ (Below.size (by first | exact bel5 | exact belh2 _ (by assumption)))
                | fail)))
            (first
              | (go_at_call 9; refine (Step_any d q hv ht x y true hd hq HE.out.1 HE.out.2 HX.out.1 HX.out.2 _).mono ?_; rintro e w1 ⟨rfl, b1⟩; rw [HV.out]; have bel5 : Below wr.heap.size wr w1 := Below.trans (belh2 _ (by assumption)) (b1.mono (Below.size (belh2 _ (by assumption)))); (try (have hb7 := (b1.block wr.heap.size (by simp)).trans (by first | exact heap_alloc_new wr (.cells #[.bool false, .int .i64 0, .int .i64 0] 25) | exact heap_alloc_new wr.drew (.cells #[.bool false, .int .i64 0, .int .i64 0] 25) | exact heap_alloc_new (wr.drewN _) (.cells #[.bool false, .int .i64 0, .int .i64 0] 25)); obtain ⟨p0, p1, p2⟩ := cells3 hb7; obtain ⟨f0, f1, f2⟩ := froz3 hb7)))
              | fail)
          · have bx8 := heap_alloc_new w1 (.cells #[.bool true, .int .i64 hv, .int .i64 ht] 25)
            have bel6 := balP bel5 (.cells #[.bool true, .int .i64 hv, .int .i64 ht] 25)
            generalize w1.alloc (.cells #[.bool true, .int .i64 hv, .int .i64 ht] 25) = w2 at *
            generalize w1.heap.size = G12 at *
            (try simp only [Exit.then])
            have bh2 := Lib.hid (hbh.out.below bel6)
            have own2 := hown.below bel6 (Nat.le_refl _)
            have own4 := own2.putNe (own2.ne bh2.out.2.1 (by decide)) (.bool true) (.int .i64 hv) (.int .i64 ht)
            have bh4 := Lib.hid (bh2.out.put ⟨true, hv, ht⟩)
            obtain ⟨z1, z2, z3⟩ := cells3 bh2.out.2.1
            obtain ⟨f1, f2, f3⟩ := froz3 bh2.out.2.1
            obtain ⟨e1, e2, e3⟩ := cells3 bx8
            clear belh2 HK2 hbh hown own2 bh2
            go_wp2
            go_roundw
            case rel => exact ⟨j + 1, by omega, by omega, by go_num, by rw [HR.out, cond_false, List.append_nil]; exact own4, by rw [HS.out]; exact bh4⟩
            case measure => simp [intOf]; omega
          · have bx8 : (putH w1 wr.heap.size (.bool true) (.int .i64 hv) (.int .i64 ht)).heap[wr.heap.size]? = some (.cells #[.bool true, .int .i64 hv, .int .i64 ht] 25) := box_set (box_set (box_set hb7 0 (.bool true)) 1 (.int .i64 hv)) 2 (.int .i64 ht)
            have bel6 : Below wr.heap.size wr (putH w1 wr.heap.size (.bool true) (.int .i64 hv) (.int .i64 ht)) := bsetP _ _ (bsetP _ _ (bsetP _ _ bel5 (Nat.le_refl _)) (Nat.le_refl _)) (Nat.le_refl _)
            show Exit.then _ _ _ _ (putH w1 wr.heap.size (.bool true) (.int .i64 hv) (.int .i64 ht))
            generalize putH w1 wr.heap.size (.bool true) (.int .i64 hv) (.int .i64 ht) = w2 at *
            (try simp only [Exit.then])
            have bh2 := Lib.hid (hbh.out.below bel6)
            have own2 := hown.below bel6 (Nat.le_refl _)
            have own4 := own2.putNe (own2.ne bh2.out.2.1 (by decide)) (.bool true) (.int .i64 hv) (.int .i64 ht)
            have bh4 := Lib.hid (bh2.out.put ⟨true, hv, ht⟩)
            obtain ⟨z1, z2, z3⟩ := cells3 bh2.out.2.1
            obtain ⟨f1, f2, f3⟩ := froz3 bh2.out.2.1
            obtain ⟨e1, e2, e3⟩ := cells3 bx8
            clear belh2 HK2 hbh hown own2 bh2
            go_wp2
            go_roundw
            case rel => exact ⟨j + 1, by omega, by omega, by go_num, by rw [HR.out, cond_false, List.append_nil]; exact own4, by rw [HS.out]; exact bh4⟩
            case measure => simp [intOf]; omega
      · obtain rfl : j = n := by omega
        have hx : l.take j = l := List.take_of_length_le (by have := hn'.out; omega)
        rw [hx] at hown hbh
        have hlo := runP_okP (d := d) (q := q) (h := Hd.zero) hok.out
        obtain ⟨A5, c5, rfl, row5, _, _⟩ := hown.row hlo
        obtain ⟨out, hout⟩ : ∃ out, Hid (runP d q Hd.zero l = out) := ⟨_, Lib.hid rfl⟩
        rw [hout.out] at hlo row5 hlen
        rw [hout.out]
        have bel5 := hbh.out.2.2.2
        obtain ⟨a1, a2⟩ := cells2 hbh.out.1
        have hlt2 : ¬ ((j : Int) < (j : Int)) := by omega
        clear hown hbh hx
        go_wp2_with fail
        refine (Run_any d q A j c l hd hq wr ((hr.below bel5).more bel5.size) hn'.out (by omega)).mono ?_
        rw [hout.out]
        rintro e w6 ⟨v6, rfl, own6, b6⟩
        obtain ⟨A6, c6, rfl, row6, _, _⟩ := own6.row hlo
        have row56 := row5.below b6
        have bel6 := bel5.trans (b6.mono bel5.size)
        clear a1 a2 own6 b6 row5 bel5
        go_wp2_with fail
        refine (same_yes_pt A5 A6 out.length c5 c6 out w6 _ _ row56 row6 rfl (by omega)).mono ?_
        rintro e w7 ⟨rfl, m7, rfl⟩
        have bel7 := below_drewN bel6 m7
        clear row56 row6 bel6
        go_wp2_with fail
        refine (known_yes _).mono ?_
        rintro e w8 ⟨rfl, b8⟩
        go_wp2
        go_ret
        exact ⟨rfl, bel7.trans (b8.mono bel7.size)⟩
  · have hlast := (endH_last d q Hd.zero (l.take k)).trans (lastH_eq _ _ (by rw [hm.out]; exact hm0))
    rw [hm.out] at hlast
    obtain ⟨t, rfl⟩ : ∃ t, m = t + 1 := ⟨m - 1, by omega⟩
    rw [show t + 1 - 1 = t by omega] at hlast
    obtain ⟨b, o, rfl, hb3, hp1, hp2⟩ := (row3.below (bel_alloc w3 (.cells #[.bool false, .int .i64 0, .int .i64 0] 25))).pt (k := t) (by have := hm.out; omega)
    obtain ⟨lx, hlx⟩ : ∃ lx, ptX (runP d q Hd.zero (l.take k)) t = lx := ⟨_, rfl⟩
    obtain ⟨ly, hly⟩ : ∃ ly, ptY (runP d q Hd.zero (l.take k)) t = ly := ⟨_, rfl⟩
    rw [hlx, hly] at hlast
    rw [hlx] at hp1
    rw [hly] at hp2
    have f1 : IntKind.i64.wrap (t : Int) = (t : Int) := by rw [IntKind.wrap_i64]; omega
    have f3 : (0 : Int) < (t : Int) + 1 := by omega
    have f4 : (t : Int) < (t : Int) + 1 := by omega
    have f5 : (0 : Int) ≤ (t : Int) := by omega
    have bh4 := Lib.hid (bh3.out.below (bel_alloc _ (.cells #[.int .i64 lx, .int .i64 ly] 27)))
    obtain ⟨z1, z2, z3⟩ := cells3 bh4.out.2.1
    obtain ⟨f6, f7, f8⟩ := froz3 bh4.out.2.1
    obtain ⟨e1, e2⟩ := cells2 (heap_alloc_new (w3.alloc (.cells #[.bool false, .int .i64 0, .int .i64 0] 25)) (.cells #[.int .i64 lx, .int .i64 ly] 27))
    have bhl : Hid (BH w (.cells #[.int .i64 d, .int .i64 q] 23) w3.heap.size (endH d q Hd.zero (l.take k)) ((w3.alloc (.cells #[.bool true, .int .i64 lx, .int .i64 ly] 25)).alloc (.cells #[.int .i64 lx, .int .i64 ly] 27))) := Lib.hid (by rw [hlast]; exact (bhG.out ⟨true, lx, ly⟩).below (bel_alloc _ _))
    have ownl := (own3d.alloc (.cells #[.bool true, .int .i64 lx, .int .i64 ly] 25)).alloc (.cells #[.int .i64 lx, .int .i64 ly] 27)
    clear own3c bh3 bh4 row3 hlast hlx hly own3d bhG
    go_wp2
    generalize (w3.alloc (.cells #[.bool true, .int .i64 lx, .int .i64 ly] 25)).alloc (.cells #[.int .i64 lx, .int .i64 ly] 27) = wl at *
    generalize w3.heap.size = G at *
    clear z1 z2 z3 f6 f7 f8 e1 e2 hp1 hp2 hb3 f1 f3 f4 f5
    go_loopw [8, 11] (fun v i wr => ∃ j : Nat, k ≤ j ∧ j ≤ n ∧ i = .int .i64 j ∧ PtOwn 27 wr wk.heap.size v (runP d q Hd.zero (l.take j)) ∧ Hid (BH w (.cells #[.int .i64 d, .int .i64 q] 23) G (endH d q Hd.zero (l.take j)) wr)) (fun _ i _ => n - (intOf i).toNat)
    case atStart => exact ⟨k, by omega, by omega, rfl, ownl, bhl⟩
    case round =>
      obtain ⟨j, hkj, hjn, rfl, hown, hbh⟩ := hrel
      by_cases hlt : j < n
      · have hkl : j < l.length := by have := hn'.out; omega
        have hslt := hbh.out.lt
        have hwG := hbh.out.2.2.1
        obtain ⟨b, o, rfl, hb1, hc1, hc2⟩ := (hr.below hbh.out.2.2.2).pt hkl
        have HX := Lib.hid (pt_ok hok.out hkl)
        have HE := Lib.hid (endH_ok (d := d) (q := q) (l.take j) Hd.zero_ok (fun p hp => hok.out p (List.mem_of_mem_take hp)))
        have HT := Lib.hid (takeP_step l j hkl)
        have HL := Lib.hid (Nat.le_trans (runP_len d q Hd.zero (l.take j)) (by rw [List.length_take]; omega : (l.take j).length ≤ j))
        have HR := Lib.hid (runP_step d q Hd.zero (l.take j) (ptX l j, ptY l j))
        have HS := Lib.hid (endH_step d q Hd.zero (l.take j) (ptX l j, ptY l j))
        rw [← HT.out] at HR HS
        obtain ⟨x, hx⟩ : ∃ x, ptX l j = x := ⟨_, rfl⟩
        obtain ⟨y, hy⟩ : ∃ y, ptY l j = y := ⟨_, rfl⟩
        obtain ⟨hl, hhl⟩ : ∃ hl, endH d q Hd.zero (l.take j) = hl := ⟨_, rfl⟩
        obtain ⟨out, hout⟩ : ∃ out, runP d q Hd.zero (l.take j) = out := ⟨_, rfl⟩
        rw [hhl] at HE HR HS hbh
        rw [hx] at HX HR HS hc1
        rw [hy] at HX HR HS hc2
        rw [hout] at HL HR hown
        obtain ⟨hs, hv, ht⟩ := hl
        clear hx hy hhl hout HT
        have hlt' : (j : Int) < (n : Int) := by omega
        have hj0 : (0 : Int) ≤ (j : Int) := by omega
        have hwk : wk.heap.size ≤ wr.heap.size := by omega
        cases ht2 : toldB d q ⟨hs, hv, ht⟩ (x, y) with
        | true =>
          have HV : Hid (stepV d q ⟨hs, hv, ht⟩ (x, y) = .tuple #[.agg #[.bool true, .int .i64 x, .int .i64 y], .bool true]) := Lib.hid (by unfold stepV; rw [ht2, stepH_t ht2]; rfl)
          rw [ht2] at HR
          rw [stepH_t ht2] at HS
          have HLb : Hid ((out.length + 1) * 16 ≤ 140737488355328) := Lib.hid (by have := HL.out; omega)
          clear ht2
          have HK2 : Hid (∀ w' : World, Below wr.heap.size wr w' → (Below wr.heap.size wr w' ∧ w'.cell? ⟨w.heap.size, 0, none⟩ = some (.int .i64 d) ∧ w'.cell? ⟨w.heap.size, 1, none⟩ = some (.int .i64 q) ∧ w'.cell? ⟨G, 0, none⟩ = some (.bool hs) ∧ w'.cell? ⟨G, 1, none⟩ = some (.int .i64 hv) ∧ w'.cell? ⟨G, 2, none⟩ = some (.int .i64 ht) ∧ w'.cell? ⟨b, o + j * 2, none⟩ = some (.int .i64 x) ∧ w'.cell? ⟨b, o + j * 2 + 1, none⟩ = some (.int .i64 y))) := Lib.hid fun w' hw => ⟨hw, (cells2 ((hw.block _ (by omega)).trans hbh.out.1)).1, (cells2 ((hw.block _ (by omega)).trans hbh.out.1)).2, (cells3 ((hw.block _ (by omega)).trans hbh.out.2.1)).1, (cells3 ((hw.block _ (by omega)).trans hbh.out.2.1)).2.1, (cells3 ((hw.block _ (by omega)).trans hbh.out.2.1)).2.2, (hw.cell (p := ⟨b, o + j * 2, none⟩) (by show b < _; omega)).trans hc1, (hw.cell (p := ⟨b, o + j * 2 + 1, none⟩) (by show b < _; omega)).trans hc2⟩
          have belh2 : ∀ w' : World, (Below wr.heap.size wr w' ∧ w'.cell? ⟨w.heap.size, 0, none⟩ = some (.int .i64 d) ∧ w'.cell? ⟨w.heap.size, 1, none⟩ = some (.int .i64 q) ∧ w'.cell? ⟨G, 0, none⟩ = some (.bool hs) ∧ w'.cell? ⟨G, 1, none⟩ = some (.int .i64 hv) ∧ w'.cell? ⟨G, 2, none⟩ = some (.int .i64 ht) ∧ w'.cell? ⟨b, o + j * 2, none⟩ = some (.int .i64 x) ∧ w'.cell? ⟨b, o + j * 2 + 1, none⟩ = some (.int .i64 y)) → Below wr.heap.size wr w' := fun w' h => h.1
          go_wp2
          go_region_held3 (fun w' => Below wr.heap.size wr w' ∧ w'.cell? ⟨w.heap.size, 0, none⟩ = some (.int .i64 d) ∧ w'.cell? ⟨w.heap.size, 1, none⟩ = some (.int .i64 q) ∧ w'.cell? ⟨G, 0, none⟩ = some (.bool hs) ∧ w'.cell? ⟨G, 1, none⟩ = some (.int .i64 hv) ∧ w'.cell? ⟨G, 2, none⟩ = some (.int .i64 ht) ∧ w'.cell? ⟨b, o + j * 2, none⟩ = some (.int .i64 x) ∧ w'.cell? ⟨b, o + j * 2 + 1, none⟩ = some (.int .i64 y))
            ((refine HK2.out _ ?_
              repeat' (first
                | with_reducible exact Below.refl _ _
                | with_reducible exact bel5
                | with_reducible exact belh2 _ (by assumption)
                | with_reducible apply below_drew
                | with_reducible apply below_drewN
                | with_reducible apply balP
                | with_reducible refine bsetP _ _ ?_ (Nat.le_refl _)
                | with_reducible refine bsetP _ _ ?_ (Below.size (by first | exact bel5 | exact belh2 _ (by assumption)))
                | fail)))
            (first
              | (go_at_call 9; refine (Step_any d q hv ht x y hs hd hq HE.out.1 HE.out.2 HX.out.1 HX.out.2 _).mono ?_; rintro e w1 ⟨rfl, b1⟩; rw [HV.out]; have bel5 : Below wr.heap.size wr w1 := Below.trans (belh2 _ (by assumption)) (b1.mono (Below.size (belh2 _ (by assumption)))); (try (have hb7 := (b1.block wr.heap.size (by simp)).trans (by first | exact heap_alloc_new wr (.cells #[.bool false, .int .i64 0, .int .i64 0] 25) | exact heap_alloc_new wr.drew (.cells #[.bool false, .int .i64 0, .int .i64 0] 25) | exact heap_alloc_new (wr.drewN _) (.cells #[.bool false, .int .i64 0, .int .i64 0] 25)); obtain ⟨p0, p1, p2⟩ := cells3 hb7; obtain ⟨f0, f1, f2⟩ := froz3 hb7)))
              | fail)
          · have bx8 := heap_alloc_new w1 (.cells #[.bool true, .int .i64 x, .int .i64 y] 25)
            have bel6 := balP bel5 (.cells #[.bool true, .int .i64 x, .int .i64 y] 25)
            generalize w1.alloc (.cells #[.bool true, .int .i64 x, .int .i64 y] 25) = w2 at *
            generalize w1.heap.size = G12 at *
            (try simp only [Exit.then])
            have bh2 := Lib.hid (hbh.out.below bel6)
            have own2 := hown.below bel6 (Nat.le_refl _)
            have hg1 := (bel6.cell (p := ⟨b, o + j * 2, none⟩) (by show b < _; omega)).trans hc1
            have hg2 := (bel6.cell (p := ⟨b, o + j * 2 + 1, none⟩) (by show b < _; omega)).trans hc2
            have hs3 : wk.heap.size ≤ w2.heap.size := by have := bel6.size; omega
            have hbox := box_two w2 27 x y
            have ne1 := own2.ne bx8 (by decide)
            have ne2 := own2.ne bh2.out.1 (by decide)
            have ne3 := own2.ne bh2.out.2.1 (by decide)
            clear belh2 HK2 hbh hown
            go_wp2_with (at_builtin; refine wpList_append_pt _ rfl _ _ 33 rfl wk.heap.size 27 Try.underlying33 info_pt _ out rfl (own2.alloc _) _ 1 _ _ rfl hbox HLb.out (by simp; omega) ?_; intro v1 w3 hown1 hgr1; have bh3 := Lib.hid ((bh2.out.below (bel_alloc w2 (.cells #[.int .i64 x, .int .i64 y] 27))).grown hgr1 ne2 ne3 (fun g e => by have := (own2.block g e).1; omega)); have bx83 := (hgr1.block G12 (by have := block_lt bx8; simp; omega) (fun e => ne1 e.symm)).trans ((heap_alloc_old _ _ (block_lt bx8)).trans bx8); obtain ⟨z1, z2, z3⟩ := cells3 bh3.out.2.1; obtain ⟨f1, f2, f3⟩ := froz3 bh3.out.2.1; obtain ⟨e1, e2, e3⟩ := cells3 bx83)
            have own4 := hown1.putNe (hown1.ne bh3.out.2.1 (by decide)) (.bool true) (.int .i64 x) (.int .i64 y)
            have bh4 := Lib.hid (bh3.out.put ⟨true, x, y⟩)
            clear hbox own2 hgr1 bh2 bh3 bx8 bx83 ne1 ne2 ne3 hown1
            go_wp2
            go_roundw
            case rel => exact ⟨j + 1, by omega, by omega, by go_num, by rw [HR.out]; exact own4, by rw [HS.out]; exact bh4⟩
            case measure => simp [intOf]; omega
          · have bx8 : (putH w1 wr.heap.size (.bool true) (.int .i64 x) (.int .i64 y)).heap[wr.heap.size]? = some (.cells #[.bool true, .int .i64 x, .int .i64 y] 25) := box_set (box_set (box_set hb7 0 (.bool true)) 1 (.int .i64 x)) 2 (.int .i64 y)
            have bel6 : Below wr.heap.size wr (putH w1 wr.heap.size (.bool true) (.int .i64 x) (.int .i64 y)) := bsetP _ _ (bsetP _ _ (bsetP _ _ bel5 (Nat.le_refl _)) (Nat.le_refl _)) (Nat.le_refl _)
            show Exit.then _ _ _ _ (putH w1 wr.heap.size (.bool true) (.int .i64 x) (.int .i64 y))
            generalize putH w1 wr.heap.size (.bool true) (.int .i64 x) (.int .i64 y) = w2 at *
            (try simp only [Exit.then])
            have bh2 := Lib.hid (hbh.out.below bel6)
            have own2 := hown.below bel6 (Nat.le_refl _)
            have hg1 := (bel6.cell (p := ⟨b, o + j * 2, none⟩) (by show b < _; omega)).trans hc1
            have hg2 := (bel6.cell (p := ⟨b, o + j * 2 + 1, none⟩) (by show b < _; omega)).trans hc2
            have hs3 : wk.heap.size ≤ w2.heap.size := by have := bel6.size; omega
            have hbox := box_two w2 27 x y
            have ne1 := own2.ne bx8 (by decide)
            have ne2 := own2.ne bh2.out.1 (by decide)
            have ne3 := own2.ne bh2.out.2.1 (by decide)
            clear belh2 HK2 hbh hown
            go_wp2_with (at_builtin; refine wpList_append_pt _ rfl _ _ 33 rfl wk.heap.size 27 Try.underlying33 info_pt _ out rfl (own2.alloc _) _ 1 _ _ rfl hbox HLb.out (by simp; omega) ?_; intro v1 w3 hown1 hgr1; have bh3 := Lib.hid ((bh2.out.below (bel_alloc w2 (.cells #[.int .i64 x, .int .i64 y] 27))).grown hgr1 ne2 ne3 (fun g e => by have := (own2.block g e).1; omega)); have bx83 := (hgr1.block wr.heap.size (by have := block_lt bx8; simp; omega) (fun e => ne1 e.symm)).trans ((heap_alloc_old _ _ (block_lt bx8)).trans bx8); obtain ⟨z1, z2, z3⟩ := cells3 bh3.out.2.1; obtain ⟨f1, f2, f3⟩ := froz3 bh3.out.2.1; obtain ⟨e1, e2, e3⟩ := cells3 bx83)
            have own4 := hown1.putNe (hown1.ne bh3.out.2.1 (by decide)) (.bool true) (.int .i64 x) (.int .i64 y)
            have bh4 := Lib.hid (bh3.out.put ⟨true, x, y⟩)
            clear hbox own2 hgr1 bh2 bh3 bx8 bx83 ne1 ne2 ne3 hown1
            go_wp2
            go_roundw
            case rel => exact ⟨j + 1, by omega, by omega, by go_num, by rw [HR.out]; exact own4, by rw [HS.out]; exact bh4⟩
            case measure => simp [intOf]; omega
        | false =>
          have hst := told_false ht2
          subst hst
          have HV : Hid (stepV d q ⟨true, hv, ht⟩ (x, y) = .tuple #[.agg #[.bool true, .int .i64 hv, .int .i64 ht], .bool false]) := Lib.hid (by unfold stepV; rw [ht2, stepH_f ht2]; rfl)
          rw [ht2] at HR
          rw [stepH_f ht2] at HS
          clear ht2
          have HK2 : Hid (∀ w' : World, Below wr.heap.size wr w' → (Below wr.heap.size wr w' ∧ w'.cell? ⟨w.heap.size, 0, none⟩ = some (.int .i64 d) ∧ w'.cell? ⟨w.heap.size, 1, none⟩ = some (.int .i64 q) ∧ w'.cell? ⟨G, 0, none⟩ = some (.bool true) ∧ w'.cell? ⟨G, 1, none⟩ = some (.int .i64 hv) ∧ w'.cell? ⟨G, 2, none⟩ = some (.int .i64 ht) ∧ w'.cell? ⟨b, o + j * 2, none⟩ = some (.int .i64 x) ∧ w'.cell? ⟨b, o + j * 2 + 1, none⟩ = some (.int .i64 y))) := Lib.hid fun w' hw => ⟨hw, (cells2 ((hw.block _ (by omega)).trans hbh.out.1)).1, (cells2 ((hw.block _ (by omega)).trans hbh.out.1)).2, (cells3 ((hw.block _ (by omega)).trans hbh.out.2.1)).1, (cells3 ((hw.block _ (by omega)).trans hbh.out.2.1)).2.1, (cells3 ((hw.block _ (by omega)).trans hbh.out.2.1)).2.2, (hw.cell (p := ⟨b, o + j * 2, none⟩) (by show b < _; omega)).trans hc1, (hw.cell (p := ⟨b, o + j * 2 + 1, none⟩) (by show b < _; omega)).trans hc2⟩
          have belh2 : ∀ w' : World, (Below wr.heap.size wr w' ∧ w'.cell? ⟨w.heap.size, 0, none⟩ = some (.int .i64 d) ∧ w'.cell? ⟨w.heap.size, 1, none⟩ = some (.int .i64 q) ∧ w'.cell? ⟨G, 0, none⟩ = some (.bool true) ∧ w'.cell? ⟨G, 1, none⟩ = some (.int .i64 hv) ∧ w'.cell? ⟨G, 2, none⟩ = some (.int .i64 ht) ∧ w'.cell? ⟨b, o + j * 2, none⟩ = some (.int .i64 x) ∧ w'.cell? ⟨b, o + j * 2 + 1, none⟩ = some (.int .i64 y)) → Below wr.heap.size wr w' := fun w' h => h.1
          go_wp2
          go_region_held3 (fun w' => Below wr.heap.size wr w' ∧ w'.cell? ⟨w.heap.size, 0, none⟩ = some (.int .i64 d) ∧ w'.cell? ⟨w.heap.size, 1, none⟩ = some (.int .i64 q) ∧ w'.cell? ⟨G, 0, none⟩ = some (.bool true) ∧ w'.cell? ⟨G, 1, none⟩ = some (.int .i64 hv) ∧ w'.cell? ⟨G, 2, none⟩ = some (.int .i64 ht) ∧ w'.cell? ⟨b, o + j * 2, none⟩ = some (.int .i64 x) ∧ w'.cell? ⟨b, o + j * 2 + 1, none⟩ = some (.int .i64 y))
            ((refine HK2.out _ ?_
              repeat' (first
                | with_reducible exact Below.refl _ _
                | with_reducible exact bel5
                | with_reducible exact belh2 _ (by assumption)
                | with_reducible apply below_drew
                | with_reducible apply below_drewN
                | with_reducible apply balP
                | with_reducible refine bsetP _ _ ?_ (Nat.le_refl _)
                | with_reducible refine bsetP _ _ ?_ (Below.size (by first | exact bel5 | exact belh2 _ (by assumption)))
                | fail)))
            (first
              | (go_at_call 9; refine (Step_any d q hv ht x y true hd hq HE.out.1 HE.out.2 HX.out.1 HX.out.2 _).mono ?_; rintro e w1 ⟨rfl, b1⟩; rw [HV.out]; have bel5 : Below wr.heap.size wr w1 := Below.trans (belh2 _ (by assumption)) (b1.mono (Below.size (belh2 _ (by assumption)))); (try (have hb7 := (b1.block wr.heap.size (by simp)).trans (by first | exact heap_alloc_new wr (.cells #[.bool false, .int .i64 0, .int .i64 0] 25) | exact heap_alloc_new wr.drew (.cells #[.bool false, .int .i64 0, .int .i64 0] 25) | exact heap_alloc_new (wr.drewN _) (.cells #[.bool false, .int .i64 0, .int .i64 0] 25)); obtain ⟨p0, p1, p2⟩ := cells3 hb7; obtain ⟨f0, f1, f2⟩ := froz3 hb7)))
              | fail)
          · have bx8 := heap_alloc_new w1 (.cells #[.bool true, .int .i64 hv, .int .i64 ht] 25)
            have bel6 := balP bel5 (.cells #[.bool true, .int .i64 hv, .int .i64 ht] 25)
            generalize w1.alloc (.cells #[.bool true, .int .i64 hv, .int .i64 ht] 25) = w2 at *
            generalize w1.heap.size = G12 at *
            (try simp only [Exit.then])
            have bh2 := Lib.hid (hbh.out.below bel6)
            have own2 := hown.below bel6 (Nat.le_refl _)
            have own4 := own2.putNe (own2.ne bh2.out.2.1 (by decide)) (.bool true) (.int .i64 hv) (.int .i64 ht)
            have bh4 := Lib.hid (bh2.out.put ⟨true, hv, ht⟩)
            obtain ⟨z1, z2, z3⟩ := cells3 bh2.out.2.1
            obtain ⟨f1, f2, f3⟩ := froz3 bh2.out.2.1
            obtain ⟨e1, e2, e3⟩ := cells3 bx8
            clear belh2 HK2 hbh hown own2 bh2
            go_wp2
            go_roundw
            case rel => exact ⟨j + 1, by omega, by omega, by go_num, by rw [HR.out, cond_false, List.append_nil]; exact own4, by rw [HS.out]; exact bh4⟩
            case measure => simp [intOf]; omega
          · have bx8 : (putH w1 wr.heap.size (.bool true) (.int .i64 hv) (.int .i64 ht)).heap[wr.heap.size]? = some (.cells #[.bool true, .int .i64 hv, .int .i64 ht] 25) := box_set (box_set (box_set hb7 0 (.bool true)) 1 (.int .i64 hv)) 2 (.int .i64 ht)
            have bel6 : Below wr.heap.size wr (putH w1 wr.heap.size (.bool true) (.int .i64 hv) (.int .i64 ht)) := bsetP _ _ (bsetP _ _ (bsetP _ _ bel5 (Nat.le_refl _)) (Nat.le_refl _)) (Nat.le_refl _)
            show Exit.then _ _ _ _ (putH w1 wr.heap.size (.bool true) (.int .i64 hv) (.int .i64 ht))
            generalize putH w1 wr.heap.size (.bool true) (.int .i64 hv) (.int .i64 ht) = w2 at *
            (try simp only [Exit.then])
            have bh2 := Lib.hid (hbh.out.below bel6)
            have own2 := hown.below bel6 (Nat.le_refl _)
            have own4 := own2.putNe (own2.ne bh2.out.2.1 (by decide)) (.bool true) (.int .i64 hv) (.int .i64 ht)
            have bh4 := Lib.hid (bh2.out.put ⟨true, hv, ht⟩)
            obtain ⟨z1, z2, z3⟩ := cells3 bh2.out.2.1
            obtain ⟨f1, f2, f3⟩ := froz3 bh2.out.2.1
            obtain ⟨e1, e2, e3⟩ := cells3 bx8
            clear belh2 HK2 hbh hown own2 bh2
            go_wp2
            go_roundw
            case rel => exact ⟨j + 1, by omega, by omega, by go_num, by rw [HR.out, cond_false, List.append_nil]; exact own4, by rw [HS.out]; exact bh4⟩
            case measure => simp [intOf]; omega
      · obtain rfl : j = n := by omega
        have hx : l.take j = l := List.take_of_length_le (by have := hn'.out; omega)
        rw [hx] at hown hbh
        have hlo := runP_okP (d := d) (q := q) (h := Hd.zero) hok.out
        obtain ⟨A5, c5, rfl, row5, _, _⟩ := hown.row hlo
        obtain ⟨out, hout⟩ : ∃ out, Hid (runP d q Hd.zero l = out) := ⟨_, Lib.hid rfl⟩
        rw [hout.out] at hlo row5 hlen
        rw [hout.out]
        have bel5 := hbh.out.2.2.2
        obtain ⟨a1, a2⟩ := cells2 hbh.out.1
        have hlt2 : ¬ ((j : Int) < (j : Int)) := by omega
        clear hown hbh hx
        go_wp2_with fail
        refine (Run_any d q A j c l hd hq wr ((hr.below bel5).more bel5.size) hn'.out (by omega)).mono ?_
        rw [hout.out]
        rintro e w6 ⟨v6, rfl, own6, b6⟩
        obtain ⟨A6, c6, rfl, row6, _, _⟩ := own6.row hlo
        have row56 := row5.below b6
        have bel6 := bel5.trans (b6.mono bel5.size)
        clear a1 a2 own6 b6 row5 bel5
        go_wp2_with fail
        refine (same_yes_pt A5 A6 out.length c5 c6 out w6 _ _ row56 row6 rfl (by omega)).mono ?_
        rintro e w7 ⟨rfl, m7, rfl⟩
        have bel7 := below_drewN bel6 m7
        clear row56 row6 bel6
        go_wp2_with fail
        refine (known_yes _).mono ?_
        rintro e w8 ⟨rfl, b8⟩
        go_wp2
        go_ret
        exact ⟨rfl, bel7.trans (b8.mono bel7.size)⟩
end Go.Proofs.Ytggijpfmcidpaaa
