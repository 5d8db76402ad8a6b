/-
  Contract of the document's Run.
-/
import Derived.Test.YtggijpfmcidpaaaBdRun
import Derived.Deep.RegionHeld3
namespace Go.Proofs.Ytggijpfmcidpaaa
open Go.RowKit
set_option linter.unusedVariables false

theorem putH_size (w : World) (g : Nat) (a b c : Value) : (putH w g a b c).heap.size = w.heap.size := by simp [putH, World.setCell]
theorem size_alloc_ (w : World) (o : Obj) : (w.alloc o).heap.size = w.heap.size + 1 := by simp
theorem bal {a w : World} (h : Below a.heap.size a w) (o : Obj) : Below a.heap.size a (w.alloc o) := h.alloc h.size o
theorem bset {a w : World} {g : Nat} (i : Nat) (v : Value) (h : Below a.heap.size a w) (hg : a.heap.size ≤ g) : Below a.heap.size a (w.setCell ⟨g, i, none⟩ v) := below_setCell h hg i v
set_option maxHeartbeats 1000000 in
theorem refRun_any (d q : Int) (A : Option Addr) (n c : Nat) (l : List Pt) (hd : (-9223372036854775808 ≤ d ∧ d < 9223372036854775808)) (hq : (-9223372036854775808 ≤ q ∧ q < 9223372036854775808)) (w : World) (hr : Row .i64 w w.heap.size A (flP l)) (hn : l.length = n) (hb : n * 16 ≤ 140737488355328) :
    Calls Try.prog 16 #[.agg #[.int .i64 d, .int .i64 q], .slice A n c] w (MakesT w (runP d q Hd.zero l)) := by
  have hn' := Lib.hid hn
  have duo := Lib.hid (Duo.new w (.cells #[.int .i64 d, .int .i64 q] 23) (.cells #[.bool false, .int .i64 0, .int .i64 0] 25))
  have hok := Lib.hid (flP_ok hr.1)
  clear hn
  go_enter Try.func16, Try.ntmps16
  go_wp2
  go_loopw [5, 7] (fun v i wr => ∃ k : Nat, k ≤ n ∧ i = .int .i64 k ∧ PtOwn 27 wr (w.heap.size + 2) v (runP d q Hd.zero (l.take k)) ∧ Hid (Duo w (.cells #[.int .i64 d, .int .i64 q] 23) (heldB (endH d q Hd.zero (l.take k))) wr)) (fun _ i _ => n - (intOf i).toNat)
  case atStart => exact ⟨0, by omega, rfl, PtOwn.nil _ _ _, duo⟩
  case round =>
    obtain ⟨k, hk, rfl, hown, hduo⟩ := hrel
    by_cases hlt : k < n
    · have hkl : k < l.length := by have := hn'.out; omega
      obtain ⟨b, o, rfl, hb1, hc1, hc2⟩ := (hr.below hduo.out.2.2.2).pt hkl
      have HX := Lib.hid (pt_ok hok.out hkl)
      have HE := Lib.hid (endH_ok (d := d) (q := q) (l.take k) Hd.zero_ok (fun p hp => hok.out p (List.mem_of_mem_take hp)))
      have HT := Lib.hid (takeP_step l k hkl)
      have HL := Lib.hid (Nat.le_trans (runP_len d q Hd.zero (l.take k)) (by rw [List.length_take]; omega : (l.take k).length ≤ k))
      have HR := Lib.hid (runP_step d q Hd.zero (l.take k) (ptX l k, ptY l k))
      have HS := Lib.hid (endH_step d q Hd.zero (l.take k) (ptX l k, ptY l k))
      rw [← HT.out] at HR HS
      obtain ⟨x, hx⟩ : ∃ x, ptX l k = x := ⟨_, rfl⟩
      obtain ⟨y, hy⟩ : ∃ y, ptY l k = y := ⟨_, rfl⟩
      obtain ⟨hl, hhl⟩ : ∃ hl, endH d q Hd.zero (l.take k) = hl := ⟨_, rfl⟩
      obtain ⟨out, hout⟩ : ∃ out, runP d q Hd.zero (l.take k) = out := ⟨_, rfl⟩
      rw [hhl] at HE HR HS hduo
      rw [hx] at HX HR HS hc1
      rw [hy] at HX HR HS hc2
      rw [hout] at HL HR hown
      obtain ⟨hs, hv, ht⟩ := hl
      clear hx hy hhl hout HT
      have hsz := hduo.out.2.2.1
      have hlt' : (k : Int) < (n : Int) := by omega
      have HK : Hid (∀ w' : World, Below wr.heap.size wr w' → Below wr.heap.size wr w' ∧ w'.cell? ⟨w.heap.size, 0, none⟩ = some (.int .i64 d) ∧ w'.cell? ⟨w.heap.size, 1, none⟩ = some (.int .i64 q) ∧ w'.cell? ⟨w.heap.size + 1, 0, none⟩ = some (.bool hs) ∧ w'.cell? ⟨w.heap.size + 1, 1, none⟩ = some (.int .i64 hv) ∧ w'.cell? ⟨w.heap.size + 1, 2, none⟩ = some (.int .i64 ht) ∧ w'.cell? ⟨b, o + k * 2, none⟩ = some (.int .i64 x) ∧ w'.cell? ⟨b, o + k * 2 + 1, none⟩ = some (.int .i64 y)) := Lib.hid fun w' hw => ⟨hw, (cells2 ((hw.block _ (by omega)).trans hduo.out.1)).1, (cells2 ((hw.block _ (by omega)).trans hduo.out.1)).2, (cells3 ((hw.block _ (by omega)).trans hduo.out.2.1)).1, (cells3 ((hw.block _ (by omega)).trans hduo.out.2.1)).2.1, (cells3 ((hw.block _ (by omega)).trans hduo.out.2.1)).2.2, (hw.cell (p := ⟨b, o + k * 2, none⟩) (by show b < _; omega)).trans hc1, (hw.cell (p := ⟨b, o + k * 2 + 1, none⟩) (by show b < _; omega)).trans hc2⟩
      have belh : ∀ w' : World, (Below wr.heap.size wr w' ∧ w'.cell? ⟨w.heap.size, 0, none⟩ = some (.int .i64 d) ∧ w'.cell? ⟨w.heap.size, 1, none⟩ = some (.int .i64 q) ∧ w'.cell? ⟨w.heap.size + 1, 0, none⟩ = some (.bool hs) ∧ w'.cell? ⟨w.heap.size + 1, 1, none⟩ = some (.int .i64 hv) ∧ w'.cell? ⟨w.heap.size + 1, 2, none⟩ = some (.int .i64 ht) ∧ w'.cell? ⟨b, o + k * 2, none⟩ = some (.int .i64 x) ∧ w'.cell? ⟨b, o + k * 2 + 1, none⟩ = some (.int .i64 y)) → Below wr.heap.size wr w' := fun w' h => h.1
      cases ht2 : toldB d q ⟨hs, hv, ht⟩ (x, y) with
      | true =>
        have HV : Hid (stepV d q ⟨hs, hv, ht⟩ (x, y) = .tuple #[.agg #[.bool true, .int .i64 x, .int .i64 y], .bool true]) := Lib.hid (by unfold stepV; rw [ht2, stepH_t ht2]; rfl)
        rw [ht2] at HR
        rw [stepH_t ht2] at HS
        have HLb : Hid ((out.length + 1) * 16 ≤ 140737488355328) := Lib.hid (by have := HL.out; omega)
        clear ht2
        go_wp2
        go_region_held3 (fun w' => Below wr.heap.size wr w' ∧ w'.cell? ⟨w.heap.size, 0, none⟩ = some (.int .i64 d) ∧ w'.cell? ⟨w.heap.size, 1, none⟩ = some (.int .i64 q) ∧ w'.cell? ⟨w.heap.size + 1, 0, none⟩ = some (.bool hs) ∧ w'.cell? ⟨w.heap.size + 1, 1, none⟩ = some (.int .i64 hv) ∧ w'.cell? ⟨w.heap.size + 1, 2, none⟩ = some (.int .i64 ht) ∧ w'.cell? ⟨b, o + k * 2, none⟩ = some (.int .i64 x) ∧ w'.cell? ⟨b, o + k * 2 + 1, none⟩ = some (.int .i64 y))
          ((refine HK.out _ ?_
            repeat' (first
              | with_reducible exact Below.refl _ _
              | with_reducible exact bel5
              | with_reducible exact belh _ (by assumption)
              | with_reducible apply below_drew
              | with_reducible apply below_drewN
              | with_reducible apply bal
              | with_reducible refine bset _ _ ?_ (Nat.le_refl _)
              | with_reducible refine bset _ _ ?_ (Below.size (by first | exact bel5 | exact belh _ (by assumption)))
              | fail)))
          (first
            | (go_at_call 10; refine (refStep_any d q hv ht x y hs hd hq HE.out.1 HE.out.2 HX.out.1 HX.out.2 _).mono ?_; rintro e w1 ⟨rfl, b1⟩; rw [HV.out]; have bel5 : Below wr.heap.size wr w1 := Below.trans (belh _ (by assumption)) (b1.mono (Below.size (belh _ (by assumption)))); (try (have hb7 := (b1.block wr.heap.size (by simp)).trans (by first | exact heap_alloc_new wr (.cells #[.bool false, .int .i64 0, .int .i64 0] 25) | exact heap_alloc_new wr.drew (.cells #[.bool false, .int .i64 0, .int .i64 0] 25) | exact heap_alloc_new (wr.drewN _) (.cells #[.bool false, .int .i64 0, .int .i64 0] 25)); obtain ⟨p0, p1, p2⟩ := cells3 hb7; obtain ⟨f0, f1, f2⟩ := froz3 hb7)))
            | fail)
        · have bx8 := heap_alloc_new w1 (.cells #[.bool true, .int .i64 x, .int .i64 y] 25)
          have bel6 := bal bel5 (.cells #[.bool true, .int .i64 x, .int .i64 y] 25)
          generalize w1.alloc (.cells #[.bool true, .int .i64 x, .int .i64 y] 25) = w2 at *
          generalize w1.heap.size = G at *
          (try simp only [Exit.then])
          have duo2 := Lib.hid (hduo.out.below bel6)
          have own2 := hown.below bel6 (Nat.le_refl _)
          have duo3 := Lib.hid (duo2.out.put (.bool true) (.int .i64 x) (.int .i64 y))
          have own3 := own2.putH (g := w.heap.size + 1) (by omega) (.bool true) (.int .i64 x) (.int .i64 y)
          obtain ⟨z1, z2, z3⟩ := cells3 duo2.out.2.1
          obtain ⟨f1, f2, f3⟩ := froz3 duo2.out.2.1
          obtain ⟨e1, e2, e3⟩ := cells3 bx8
          have hg1 := (bel6.cell (p := ⟨b, o + k * 2, none⟩) (by show b < _; omega)).trans hc1
          have hg2 := (bel6.cell (p := ⟨b, o + k * 2 + 1, none⟩) (by show b < _; omega)).trans hc2
          have hs3 := duo3.out.2.2.1
          have hbox := box_two (putH w2 (w.heap.size + 1) (.bool true) (.int .i64 x) (.int .i64 y)) 27 x y
          rw [putH_size] at hbox hs3
          have hs4 : w.heap.size + 2 ≤ ((putH w2 (w.heap.size + 1) (.bool true) (.int .i64 x) (.int .i64 y)).alloc (.cells #[.int .i64 x, .int .i64 y] 27)).heap.size := by rw [size_alloc_, putH_size]; omega
          clear belh HK hduo hown
          go_wp2_with (at_builtin; refine wpList_append_pt _ rfl _ _ 33 rfl (w.heap.size + 2) 27 Try.underlying33 info_pt _ out rfl (own3.alloc _) _ 1 _ _ rfl hbox HLb.out hs4 ?_; intro v1 w3 hown1 hgr1)
          have duo4 := Lib.hid ((duo3.out.alloc _).grown hgr1 (fun g e => ((own3.alloc (.cells #[.int .i64 x, .int .i64 y] 27)).block g e).1))
          clear hbox own2 own3 hgr1 duo2 duo3 bx8 z1 z2 z3 f1 f2 f3 e1 e2 e3
          go_wp2
          go_roundw
          case rel => exact ⟨k + 1, by omega, by go_num, by rw [HR.out]; exact hown1, by rw [HS.out]; exact duo4⟩
          case measure => simp [intOf]; omega
        · have bx8 : (putH w1 wr.heap.size (.bool true) (.int .i64 x) (.int .i64 y)).heap[wr.heap.size]? = some (.cells #[.bool true, .int .i64 x, .int .i64 y] 25) := box_set (box_set (box_set hb7 0 (.bool true)) 1 (.int .i64 x)) 2 (.int .i64 y)
          have bel6 : Below wr.heap.size wr (putH w1 wr.heap.size (.bool true) (.int .i64 x) (.int .i64 y)) := bset _ _ (bset _ _ (bset _ _ bel5 (Nat.le_refl _)) (Nat.le_refl _)) (Nat.le_refl _)
          show Exit.then _ _ _ _ (putH w1 wr.heap.size (.bool true) (.int .i64 x) (.int .i64 y))
          generalize putH w1 wr.heap.size (.bool true) (.int .i64 x) (.int .i64 y) = w2 at *
          (try simp only [Exit.then])
          have duo2 := Lib.hid (hduo.out.below bel6)
          have own2 := hown.below bel6 (Nat.le_refl _)
          have duo3 := Lib.hid (duo2.out.put (.bool true) (.int .i64 x) (.int .i64 y))
          have own3 := own2.putH (g := w.heap.size + 1) (by omega) (.bool true) (.int .i64 x) (.int .i64 y)
          obtain ⟨z1, z2, z3⟩ := cells3 duo2.out.2.1
          obtain ⟨f1, f2, f3⟩ := froz3 duo2.out.2.1
          obtain ⟨e1, e2, e3⟩ := cells3 bx8
          have hg1 := (bel6.cell (p := ⟨b, o + k * 2, none⟩) (by show b < _; omega)).trans hc1
          have hg2 := (bel6.cell (p := ⟨b, o + k * 2 + 1, none⟩) (by show b < _; omega)).trans hc2
          have hs3 := duo3.out.2.2.1
          have hbox := box_two (putH w2 (w.heap.size + 1) (.bool true) (.int .i64 x) (.int .i64 y)) 27 x y
          rw [putH_size] at hbox hs3
          have hs4 : w.heap.size + 2 ≤ ((putH w2 (w.heap.size + 1) (.bool true) (.int .i64 x) (.int .i64 y)).alloc (.cells #[.int .i64 x, .int .i64 y] 27)).heap.size := by rw [size_alloc_, putH_size]; omega
          clear belh HK hduo hown
          go_wp2_with (at_builtin; refine wpList_append_pt _ rfl _ _ 33 rfl (w.heap.size + 2) 27 Try.underlying33 info_pt _ out rfl (own3.alloc _) _ 1 _ _ rfl hbox HLb.out hs4 ?_; intro v1 w3 hown1 hgr1)
          have duo4 := Lib.hid ((duo3.out.alloc _).grown hgr1 (fun g e => ((own3.alloc (.cells #[.int .i64 x, .int .i64 y] 27)).block g e).1))
          clear hbox own2 own3 hgr1 duo2 duo3 bx8 z1 z2 z3 f1 f2 f3 e1 e2 e3
          go_wp2
          go_roundw
          case rel => exact ⟨k + 1, by omega, by go_num, by rw [HR.out]; exact hown1, by rw [HS.out]; exact duo4⟩
          case measure => simp [intOf]; omega
      | false =>
        have HV : Hid (stepV d q ⟨hs, hv, ht⟩ (x, y) = .tuple #[.agg #[.bool hs, .int .i64 hv, .int .i64 ht], .bool false]) := Lib.hid (by unfold stepV; rw [ht2, stepH_f ht2]; rfl)
        rw [ht2] at HR
        rw [stepH_f ht2] at HS
        clear ht2
        go_wp2
        go_region_held3 (fun w' => Below wr.heap.size wr w' ∧ w'.cell? ⟨w.heap.size, 0, none⟩ = some (.int .i64 d) ∧ w'.cell? ⟨w.heap.size, 1, none⟩ = some (.int .i64 q) ∧ w'.cell? ⟨w.heap.size + 1, 0, none⟩ = some (.bool hs) ∧ w'.cell? ⟨w.heap.size + 1, 1, none⟩ = some (.int .i64 hv) ∧ w'.cell? ⟨w.heap.size + 1, 2, none⟩ = some (.int .i64 ht) ∧ w'.cell? ⟨b, o + k * 2, none⟩ = some (.int .i64 x) ∧ w'.cell? ⟨b, o + k * 2 + 1, none⟩ = some (.int .i64 y))
          ((refine HK.out _ ?_
            repeat' (first
              | with_reducible exact Below.refl _ _
              | with_reducible exact bel5
              | with_reducible exact belh _ (by assumption)
              | with_reducible apply below_drew
              | with_reducible apply below_drewN
              | with_reducible apply bal
              | with_reducible refine bset _ _ ?_ (Nat.le_refl _)
              | with_reducible refine bset _ _ ?_ (Below.size (by first | exact bel5 | exact belh _ (by assumption)))
              | fail)))
          (first
            | (go_at_call 10; refine (refStep_any d q hv ht x y hs hd hq HE.out.1 HE.out.2 HX.out.1 HX.out.2 _).mono ?_; rintro e w1 ⟨rfl, b1⟩; rw [HV.out]; have bel5 : Below wr.heap.size wr w1 := Below.trans (belh _ (by assumption)) (b1.mono (Below.size (belh _ (by assumption)))); (try (have hb7 := (b1.block wr.heap.size (by simp)).trans (by first | exact heap_alloc_new wr (.cells #[.bool false, .int .i64 0, .int .i64 0] 25) | exact heap_alloc_new wr.drew (.cells #[.bool false, .int .i64 0, .int .i64 0] 25) | exact heap_alloc_new (wr.drewN _) (.cells #[.bool false, .int .i64 0, .int .i64 0] 25)); obtain ⟨p0, p1, p2⟩ := cells3 hb7; obtain ⟨f0, f1, f2⟩ := froz3 hb7)))
            | fail)
        · have bx8 := heap_alloc_new w1 (.cells #[.bool hs, .int .i64 hv, .int .i64 ht] 25)
          have bel6 := bal bel5 (.cells #[.bool hs, .int .i64 hv, .int .i64 ht] 25)
          generalize w1.alloc (.cells #[.bool hs, .int .i64 hv, .int .i64 ht] 25) = w2 at *
          generalize w1.heap.size = G at *
          (try simp only [Exit.then])
          have duo2 := Lib.hid (hduo.out.below bel6)
          have own2 := hown.below bel6 (Nat.le_refl _)
          have duo3 := Lib.hid (duo2.out.put (.bool hs) (.int .i64 hv) (.int .i64 ht))
          have own3 := own2.putH (g := w.heap.size + 1) (by omega) (.bool hs) (.int .i64 hv) (.int .i64 ht)
          obtain ⟨z1, z2, z3⟩ := cells3 duo2.out.2.1
          obtain ⟨f1, f2, f3⟩ := froz3 duo2.out.2.1
          obtain ⟨e1, e2, e3⟩ := cells3 bx8
          clear belh HK hduo hown
          go_wp2
          go_roundw
          case rel => exact ⟨k + 1, by omega, by go_num, by rw [HR.out, cond_false, List.append_nil]; exact own3, by rw [HS.out]; exact duo3⟩
          case measure => simp [intOf]; omega
        · have bx8 : (putH w1 wr.heap.size (.bool hs) (.int .i64 hv) (.int .i64 ht)).heap[wr.heap.size]? = some (.cells #[.bool hs, .int .i64 hv, .int .i64 ht] 25) := box_set (box_set (box_set hb7 0 (.bool hs)) 1 (.int .i64 hv)) 2 (.int .i64 ht)
          have bel6 : Below wr.heap.size wr (putH w1 wr.heap.size (.bool hs) (.int .i64 hv) (.int .i64 ht)) := bset _ _ (bset _ _ (bset _ _ bel5 (Nat.le_refl _)) (Nat.le_refl _)) (Nat.le_refl _)
          show Exit.then _ _ _ _ (putH w1 wr.heap.size (.bool hs) (.int .i64 hv) (.int .i64 ht))
          generalize putH w1 wr.heap.size (.bool hs) (.int .i64 hv) (.int .i64 ht) = w2 at *
          (try simp only [Exit.then])
          have duo2 := Lib.hid (hduo.out.below bel6)
          have own2 := hown.below bel6 (Nat.le_refl _)
          have duo3 := Lib.hid (duo2.out.put (.bool hs) (.int .i64 hv) (.int .i64 ht))
          have own3 := own2.putH (g := w.heap.size + 1) (by omega) (.bool hs) (.int .i64 hv) (.int .i64 ht)
          obtain ⟨z1, z2, z3⟩ := cells3 duo2.out.2.1
          obtain ⟨f1, f2, f3⟩ := froz3 duo2.out.2.1
          obtain ⟨e1, e2, e3⟩ := cells3 bx8
          clear belh HK hduo hown
          go_wp2
          go_roundw
          case rel => exact ⟨k + 1, by omega, by go_num, by rw [HR.out, cond_false, List.append_nil]; exact own3, by rw [HS.out]; exact duo3⟩
          case measure => simp [intOf]; omega
    · have hx : l.take k = l := List.take_of_length_le (by have := hn'.out; omega)
      rw [hx] at hown
      have bel := hduo.out.2.2.2
      clear hx hduo
      go_wp2
      go_ret
      exact ⟨_, rfl, hown.mono (by omega), bel⟩
end Go.Proofs.Ytggijpfmcidpaaa
