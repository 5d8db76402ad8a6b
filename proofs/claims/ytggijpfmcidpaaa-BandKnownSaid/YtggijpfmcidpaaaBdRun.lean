/-
  Contracts of Run of package band, and of the document's Step and Run.
-/
import Derived.Test.YtggijpfmcidpaaaBdRef
import Derived.Test.YtggijpfmcidpaaaBdOwn
namespace Go.Proofs.Ytggijpfmcidpaaa
open Go.RowKit
set_option linter.unusedVariables false

set_option maxHeartbeats 1000000 in
theorem refStep_any (d q hv ht x y : Int) (hs : Bool) (hd : (-9223372036854775808 ≤ d ∧ d < 9223372036854775808)) (hq : (-9223372036854775808 ≤ q ∧ q < 9223372036854775808)) (hhv : (-9223372036854775808 ≤ hv ∧ hv < 9223372036854775808)) (hht : (-9223372036854775808 ≤ ht ∧ ht < 9223372036854775808)) (hx : (-9223372036854775808 ≤ x ∧ x < 9223372036854775808)) (hy : (-9223372036854775808 ≤ y ∧ y < 9223372036854775808)) (w : World) : Calls Try.prog 10 #[.agg #[.int .i64 d, .int .i64 q], .agg #[.bool hs, .int .i64 hv, .int .i64 ht], .agg #[.int .i64 x, .int .i64 y]] w fun e w' => e = .returned (stepV d q ⟨hs, hv, ht⟩ (x, y)) ∧ Below w.heap.size w w' := by
  have fr := Four.new w (.cells #[.int .i64 d, .int .i64 q] 23) (.cells #[.bool hs, .int .i64 hv, .int .i64 ht] 25) (.cells #[.int .i64 x, .int .i64 y] 27) (.cells #[.bool false, .int .i64 0, .int .i64 0] 25)
  cases hm : toldB d q ⟨hs, hv, ht⟩ (x, y) with
  | false =>
    have HS : Hid (stepV d q ⟨hs, hv, ht⟩ (x, y) = .tuple #[.agg #[.bool hs, .int .i64 hv, .int .i64 ht], .bool false]) := Lib.hid (by unfold stepV; rw [hm, stepH_f hm]; rfl)
    go_enter Try.func10, Try.ntmps10
    go_wp2_with fail
    refine (Told_any d q hv ht x y hs hd hq hhv hht hx hy _).mono ?_
    rintro e w1 ⟨rfl, b1⟩
    rw [hm]
    have fr1 := fr.below b1
    have fr2 := fr1.put (.bool hs) (.int .i64 hv) (.int .i64 ht)
    clear b1 fr hm
    obtain ⟨c1, c2, c3⟩ := cells3 fr1.2.1
    obtain ⟨z1, z2, z3⟩ := cells3 fr1.2.2.2.1
    obtain ⟨f1, f2, f3⟩ := froz3 fr1.2.2.2.1
    go_wp2
    (try simp only [Exit.inBlock, Exit.then])
    show bodyPost _ _ _ _ _ (putH w1 (w.heap.size + 1 + 1 + 1) (.bool hs) (.int .i64 hv) (.int .i64 ht))
    generalize putH w1 (w.heap.size + 1 + 1 + 1) (.bool hs) (.int .i64 hv) (.int .i64 ht) = w2 at *
    clear c1 c2 c3 z1 z2 z3 f1 f2 f3 fr1
    obtain ⟨z1, z2, z3⟩ := cells3 fr2.2.2.2.1
    refine bodyPost_ret (v := .tuple #[.agg #[.bool hs, .int .i64 hv, .int .i64 ht], .bool false]) (by simp [results, Try.results10, go_sem, z1, z2, z3]) rfl ?_
    exact ⟨by rw [HS.out], fr2.bel⟩
  | true =>
    have HS : Hid (stepV d q ⟨hs, hv, ht⟩ (x, y) = .tuple #[.agg #[.bool true, .int .i64 x, .int .i64 y], .bool true]) := Lib.hid (by unfold stepV; rw [hm, stepH_t hm]; rfl)
    go_enter Try.func10, Try.ntmps10
    go_wp2_with fail
    refine (Told_any d q hv ht x y hs hd hq hhv hht hx hy _).mono ?_
    rintro e w1 ⟨rfl, b1⟩
    rw [hm]
    have fr1 := fr.below b1
    have fr2 := fr1.put (.bool true) (.int .i64 x) (.int .i64 y)
    clear b1 fr hm
    obtain ⟨c1, c2⟩ := cells2 fr1.2.2.1
    obtain ⟨z1, z2, z3⟩ := cells3 fr1.2.2.2.1
    obtain ⟨f1, f2, f3⟩ := froz3 fr1.2.2.2.1
    go_wp2
    (try simp only [Exit.inBlock, Exit.then])
    show bodyPost _ _ _ _ _ (putH w1 (w.heap.size + 1 + 1 + 1) (.bool true) (.int .i64 x) (.int .i64 y))
    generalize putH w1 (w.heap.size + 1 + 1 + 1) (.bool true) (.int .i64 x) (.int .i64 y) = w2 at *
    clear c1 c2 z1 z2 z3 f1 f2 f3 fr1
    obtain ⟨z1, z2, z3⟩ := cells3 fr2.2.2.2.1
    refine bodyPost_ret (v := .tuple #[.agg #[.bool true, .int .i64 x, .int .i64 y], .bool true]) (by simp [results, Try.results10, go_sem, z1, z2, z3]) rfl ?_
    exact ⟨by rw [HS.out], fr2.bel⟩

/-- Two boxes that a call has made, one behind the other, known whole, and what was there as it was. -/
def Duo (w0 : World) (a b : Obj) (w : World) : Prop := w.heap[w0.heap.size]? = some a ∧ w.heap[w0.heap.size + 1]? = some b ∧ w0.heap.size + 2 ≤ w.heap.size ∧ Below w0.heap.size w0 w
theorem Duo.new (w : World) (a b : Obj) : Duo w a b ((w.alloc a).alloc b) := by
  have s1 : (w.alloc a).heap.size = w.heap.size + 1 := by simp
  refine ⟨?_, ?_, by simp, (bel_alloc w a).alloc (by simp) b⟩
  · exact (heap_alloc_old _ _ (by omega)).trans (heap_alloc_new _ _)
  · rw [← s1]; exact heap_alloc_new _ _
theorem Duo.below {w0 w w' : World} {a b : Obj} (h : Duo w0 a b w) (hb : Below w.heap.size w w') : Duo w0 a b w' := by
  obtain ⟨h1, h2, h3, h4⟩ := h
  exact ⟨(hb.block _ (by omega)).trans h1, (hb.block _ (by omega)).trans h2, by have := hb.size; omega, h4.trans (hb.mono (by omega))⟩
theorem Duo.alloc {w0 w : World} {a b : Obj} (h : Duo w0 a b w) (o : Obj) : Duo w0 a b (w.alloc o) := h.below (bel_alloc w o)
theorem Duo.grown {w0 w w' : World} {a b : Obj} {row : Option Nat} (h : Duo w0 a b w) (hg : w.grownBy w' row) (hr : ∀ g, row = some g → w0.heap.size + 2 ≤ g) : Duo w0 a b w' := by
  obtain ⟨h1, h2, h3, h4⟩ := h
  refine ⟨(hg.block _ (by omega) fun e => ?_).trans h1, (hg.block _ (by omega) fun e => ?_).trans h2, by have := hg.size; omega, h4.grown hg (by omega) fun g e => by have := hr g e; omega⟩
  · have := hr _ e.symm; omega
  · have := hr _ e.symm; omega
theorem Duo.set {w0 w : World} {a : Obj} {cs : Array Value} {t : TypeId} (h : Duo w0 a (.cells cs t (0, 0)) w) (i : Nat) (v : Value) : Duo w0 a (.cells (cs.setIfInBounds i v) t (0, 0)) (w.setCell ⟨w0.heap.size + 1, i, none⟩ v) := by
  obtain ⟨h1, h2, h3, h4⟩ := h
  exact ⟨(Below.heap_setCell w _ v _ (by simp only [ne_eq]; omega)).trans h1, box_set h2 i v, by simpa [World.setCell] using h3, below_setCell h4 (by omega) i v⟩
theorem Duo.put {w0 w : World} {a : Obj} {v0 v1 v2 : Value} {t : TypeId} (h : Duo w0 a (.cells #[v0, v1, v2] t (0, 0)) w) (x y z : Value) : Duo w0 a (.cells #[x, y, z] t (0, 0)) (putH w (w0.heap.size + 1) x y z) := ((h.set 0 x).set 1 y).set 2 z
theorem PtOwn.putH {e : TypeId} {w : World} {base g : Nat} {v : Value} {l : List Pt} (h : PtOwn e w base v l) (hg : g < base) (x y z : Value) : PtOwn e (putH w g x y z) base v l := ((h.set hg 0 x).set hg 1 y).set hg 2 z
def heldB (h : Hd) : Obj := .cells #[.bool h.has, .int .i64 h.v, .int .i64 h.t] 25 (0, 0)

/-- Behind an append: the boxes are as they were. -/
theorem Duo.behind {e : TypeId} {w0 w1 w2 : World} {a b o o' o9 : Obj} {v u : Value} {l : List Pt} (hd : Duo w0 a b w1) (own : PtOwn e w1 (w0.heap.size + 2) v l) (hu : u = v) (h9 : (w1.alloc o').heap[w1.heap.size]? = some o9) (hg : ((w1.alloc o').alloc o).grownBy w2 u.ownBlock) :
    Duo w0 a b w2 ∧ w2.heap[w1.heap.size]? = some o9 := by
  subst hu
  refine ⟨((hd.alloc o').alloc o).grown hg fun g e => (own.block g e).1, ?_⟩
  refine (hg.block w1.heap.size (by simp; omega) fun e => ?_).trans ((heap_alloc_old _ _ (by simp)).trans h9)
  have := (own.block _ e.symm).2; omega

set_option maxHeartbeats 1000000 in
theorem Run_any (d q : Int) (A : Option Addr) (n c : Nat) (l : List Pt) (hd : (-9223372036854775808 ≤ d ∧ d < 9223372036854775808)) (hq : (-9223372036854775808 ≤ q ∧ q < 9223372036854775808)) (w : World) (hr : Row .i64 w w.heap.size A (flP l)) (hn : l.length = n) (hb : n * 16 ≤ 140737488355328) :
    Calls Try.prog 14 #[.agg #[.int .i64 d, .int .i64 q], .slice A n c] w (MakesT w (runP d q Hd.zero l)) := by
  have hn' := Lib.hid hn
  have duo := Lib.hid (Duo.new w (.cells #[.int .i64 d, .int .i64 q] 23) (.cells #[.bool false, .int .i64 0, .int .i64 0] 25))
  have hok := Lib.hid (flP_ok hr.1)
  clear hn
  go_enter Try.func14, Try.ntmps14
  go_wp2
  go_loopw [5, 13] (fun v i wr => ∃ k : Nat, k ≤ n ∧ i = .int .i64 k ∧ PtOwn 27 wr (w.heap.size + 2) v (runP d q Hd.zero (l.take k)) ∧ Hid (Duo w (.cells #[.int .i64 d, .int .i64 q] 23) (heldB (endH d q Hd.zero (l.take k))) wr)) (fun _ i _ => n - (intOf i).toNat)
  case atStart => exact ⟨0, by omega, rfl, PtOwn.nil _ _ _, duo⟩
  case round =>
    obtain ⟨k, hk, rfl, hown, hduo⟩ := hrel
    by_cases hlt : k < n
    · have hkl : k < l.length := by have := hn'.out; omega
      obtain ⟨b, o, rfl, hb1, hc1, hc2⟩ := (hr.below hduo.out.2.2.2).pt hkl
      have HX := Lib.hid (pt_ok hok.out hkl)
      have HE := Lib.hid (endH_ok (d := d) (q := q) (l.take k) Hd.zero_ok (fun p hp => hok.out p (List.mem_of_mem_take hp)))
      have HT := Lib.hid (takeP_step l k hkl)
      have HL := Lib.hid (Nat.le_trans (runP_len d q Hd.zero (l.take k)) (by rw [List.length_take]; omega : (l.take k).length ≤ k))
      have HR := Lib.hid (runP_step d q Hd.zero (l.take k) (ptX l k, ptY l k))
      have HS := Lib.hid (endH_step d q Hd.zero (l.take k) (ptX l k, ptY l k))
      rw [← HT.out] at HR HS
      obtain ⟨x, hx⟩ : ∃ x, ptX l k = x := ⟨_, rfl⟩
      obtain ⟨y, hy⟩ : ∃ y, ptY l k = y := ⟨_, rfl⟩
      obtain ⟨hl, hhl⟩ : ∃ hl, endH d q Hd.zero (l.take k) = hl := ⟨_, rfl⟩
      obtain ⟨out, hout⟩ : ∃ out, runP d q Hd.zero (l.take k) = out := ⟨_, rfl⟩
      rw [hhl] at HE HR HS hduo
      rw [hx] at HX HR HS hc1
      rw [hy] at HX HR HS hc2
      rw [hout] at HL HR hown
      obtain ⟨hs, hv, ht⟩ := hl
      clear hx hy hhl hout HT
      have hduo1 := Lib.hid (hduo.out.alloc (.cells #[.int .i64 x, .int .i64 y] 27))
      obtain ⟨b1, b2⟩ := cells2 hduo1.out.1
      obtain ⟨z1, z2, z3⟩ := cells3 hduo1.out.2.1
      have hsz := hduo.out.2.2.1
      have hlt' : (k : Int) < (n : Int) := by omega
      go_wp2_with fail
      refine (Step_any d q hv ht x y hs hd hq HE.out.1 HE.out.2 HX.out.1 HX.out.2 _).mono ?_
      rintro e w1 ⟨rfl, bel1⟩
      have bp2 := (Bx.new wr (.cells #[.int .i64 x, .int .i64 y] 27)).below bel1
      have duo2 := Lib.hid (hduo1.out.below bel1)
      have own2 := (hown.alloc (.cells #[.int .i64 x, .int .i64 y] 27)).below bel1 (Nat.le_refl _)
      have hsz2 := duo2.out.2.2.1
      clear b1 b2 z1 z2 z3 hc1 hc2 hduo hduo1 hown bel1
      cases ht2 : toldB d q ⟨hs, hv, ht⟩ (x, y) with
      | true =>
        have HV : Hid (stepV d q ⟨hs, hv, ht⟩ (x, y) = .tuple #[.agg #[.bool true, .int .i64 x, .int .i64 y], .bool true]) := Lib.hid (by unfold stepV; rw [ht2, stepH_t ht2]; rfl)
        rw [ht2] at HR
        rw [stepH_t ht2] at HS
        rw [HV.out]
        clear ht2 HV
        have bp3 := bp2.alloc (.cells #[.bool true, .int .i64 x, .int .i64 y] 25)
        have own3 := own2.alloc (.cells #[.bool true, .int .i64 x, .int .i64 y] 25)
        have bx9 := Lib.hid (heap_alloc_new w1 (.cells #[.bool true, .int .i64 x, .int .i64 y] 25))
        obtain ⟨c1, c2⟩ := cells2 bp3.1
        have hbox := box_two (w1.alloc (.cells #[.bool true, .int .i64 x, .int .i64 y] 25)) 27 x y
        rw [show (w1.alloc (.cells #[.bool true, .int .i64 x, .int .i64 y] 25)).heap.size = w1.heap.size + 1 by simp] at hbox
        have HLb : Hid ((out.length + 1) * 16 ≤ 140737488355328) := Lib.hid (by have := HL.out; omega)
        go_wp2_with (at_builtin; refine wpList_append_pt _ rfl _ _ 33 rfl (w.heap.size + 2) 27 Try.underlying33 info_pt _ out rfl (own3.alloc _) _ 1 _ _ rfl hbox HLb.out (by simp; omega) ?_; intro v1 w2 hown1 hg1; have hbe := Lib.hid (duo2.out.behind own2 rfl bx9.out hg1); obtain ⟨z1, z2, z3⟩ := cells3 hbe.out.1.2.1; obtain ⟨f1, f2, f3⟩ := froz3 hbe.out.1.2.1; obtain ⟨e1, e2, e3⟩ := cells3 hbe.out.2)
        have duo5 := Lib.hid (hbe.out.1.put (.bool true) (.int .i64 x) (.int .i64 y))
        have own5 := hown1.putH (g := w.heap.size + 1) (by omega) (.bool true) (.int .i64 x) (.int .i64 y)
        clear hbox c1 c2 bp2 bp3 own2 own3 hg1 duo2 bx9
        go_wp2
        go_roundw
        case rel => exact ⟨k + 1, by omega, by go_num, by rw [HR.out]; exact own5, by rw [HS.out]; exact duo5⟩
        case measure => simp [intOf]; omega
      | false =>
        have HV : Hid (stepV d q ⟨hs, hv, ht⟩ (x, y) = .tuple #[.agg #[.bool hs, .int .i64 hv, .int .i64 ht], .bool false]) := Lib.hid (by unfold stepV; rw [ht2, stepH_f ht2]; rfl)
        rw [ht2] at HR
        rw [stepH_f ht2] at HS
        rw [HV.out]
        clear ht2 HV bp2
        have own3 := own2.alloc (.cells #[.bool hs, .int .i64 hv, .int .i64 ht] 25)
        have duo3 := Lib.hid (duo2.out.alloc (.cells #[.bool hs, .int .i64 hv, .int .i64 ht] 25))
        have bx9 := Lib.hid (heap_alloc_new w1 (.cells #[.bool hs, .int .i64 hv, .int .i64 ht] 25))
        obtain ⟨z1, z2, z3⟩ := cells3 duo3.out.2.1
        obtain ⟨f1, f2, f3⟩ := froz3 duo3.out.2.1
        obtain ⟨e1, e2, e3⟩ := cells3 bx9.out
        have duo5 := Lib.hid (duo3.out.put (.bool hs) (.int .i64 hv) (.int .i64 ht))
        have own5 := own3.putH (g := w.heap.size + 1) (by omega) (.bool hs) (.int .i64 hv) (.int .i64 ht)
        clear own2 own3 duo2 duo3 bx9
        go_wp2
        go_roundw
        case rel => exact ⟨k + 1, by omega, by go_num, by rw [HR.out, cond_false, List.append_nil]; exact own5, by rw [HS.out]; exact duo5⟩
        case measure => simp [intOf]; omega
    · have hx : l.take k = l := List.take_of_length_le (by have := hn'.out; omega)
      rw [hx] at hown
      have bel := hduo.out.2.2.2
      clear hx hduo
      go_wp2
      go_ret
      exact ⟨_, rfl, hown.mono (by omega), bel⟩
end Go.Proofs.Ytggijpfmcidpaaa
