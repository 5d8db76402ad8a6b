/-
  Texts of the proof of ReplyKnown, joined.
-/
import Derived.Test.YtobhllcnljggiaaGreatJReplyKnownI
import Derived.Test.YtobhllcnljggiaaGreatJReplyKnownF
import Derived.Test.YtobhllcnljggiaaGreatJReplyKnownH
import Derived.Test.YtobhllcnljggiaaGreatJReplyKnownA
import Derived.Test.YtobhllcnljggiaaGreatJReplyKnownD
import Derived.Test.YtobhllcnljggiaaGreatJReplyKnownE
namespace Go.Proofs.YtobhllcnljggiaaGreat
open Go.RowKit
set_option linter.unusedVariables false

def TB3 (w0 : World) (B : Nat) (o1 o2 o3 : Obj) (w : World) : Prop := TB w0 B o1 o2 w ∧ w.heap[B + 2]? = some o3
section
variable {w0 w w' : World} {B : Nat} {o1 o2 o3 : Obj}
theorem TB3.new (w : World) (c1 c2 c3 : Array Value) (t u v : TypeId) : TB3 w w.heap.size (.cells c1 t (0, 0)) (.cells c2 u (0, 0)) (.cells c3 v (0, 0)) (((w.alloc (.cells c1 t)).alloc (.cells c2 u)).alloc (.cells c3 v)) :=
  ⟨(TB.new2 w c1 c2 t u).alloc _, heap_new_at _ _ (by simp)⟩
theorem TB3.bel (h : TB3 w0 B o1 o2 o3 w) : Below B w0 w := h.1.bel
theorem TB3.lt (h : TB3 w0 B o1 o2 o3 w) : B + 2 < w.heap.size := block_lt h.2
theorem TB3.below (h : TB3 w0 B o1 o2 o3 w) (hb : Below w.heap.size w w') : TB3 w0 B o1 o2 o3 w' := ⟨h.1.below hb, (hb.block _ (block_lt h.2)).trans h.2⟩
theorem TB3.alloc (h : TB3 w0 B o1 o2 o3 w) (o : Obj) : TB3 w0 B o1 o2 o3 (w.alloc o) := h.below (bel_alloc w o)
theorem TB3.grown {row : Option Nat} (h : TB3 w0 B o1 o2 o3 w) (hg : w.grownBy w' row) (hr : ∀ g, row = some g → B + 3 ≤ g) : TB3 w0 B o1 o2 o3 w' :=
  ⟨h.1.grown hg (fun g e => by have := hr g e; omega), (hg.block (B + 2) h.lt (fun e => by have := hr _ e.symm; omega)).trans h.2⟩
theorem TB3.set {cs : Array Value} {t : TypeId} (h : TB3 w0 B o1 o2 (.cells cs t (0, 0)) w) (i : Nat) (v : Value) : TB3 w0 B o1 o2 (.cells (cs.setIfInBounds i v) t (0, 0)) (w.setCell ⟨B + 2, i, none⟩ v) :=
  ⟨h.1.far (by omega) i v, box_set h.2 i v⟩
theorem TB3.c4 {t : TypeId} {v0 v1 v2 v3 : Value} (h : TB3 w0 B o1 o2 (.cells #[v0, v1, v2, v3] t (0, 0)) w) :
    w.cell? ⟨B + 2, 0, none⟩ = some v0 ∧ w.cell? ⟨B + 2, 1, none⟩ = some v1 ∧ w.cell? ⟨B + 2, 2, none⟩ = some v2 ∧ w.cell? ⟨B + 2, 3, none⟩ = some v3 ∧ ∀ i, w.frozen? ⟨B + 2, i, none⟩ = false :=
  ⟨cell_of_row w _ 0 _ _ _ h.2, cell_of_row w _ 1 _ _ _ h.2, cell_of_row w _ 2 _ _ _ h.2, cell_of_row w _ 3 _ _ _ h.2, fun i => block_frozen w _ i _ _ h.2⟩
end
theorem ownsRow_stays {w w' : World} {base n size : Nat} {t : TypeId} {v : Value} {xs : List Value} (h : w.ownsRow base t size v n xs) (hk : ∀ j, base ≤ j → j < w.heap.size → w'.heap[j]? = w.heap[j]?) : w'.ownsRow base t size v n xs := by
  rcases h with ⟨h0, h1 | ⟨g, cap, cur, hv, hb, hg, h2⟩⟩
  · exact ⟨h0, .inl h1⟩
  · exact ⟨h0, .inr ⟨g, cap, cur, hv, hb, (hk g hb (block_lt hg)).trans hg, h2⟩⟩
theorem Own.stays {k : IntKind} {e : TypeId} {w w' : World} {base : Nat} {v : Value} {xs : List Int} (h : Own k e w base v xs) (hk : ∀ j, base ≤ j → j < w.heap.size → w'.heap[j]? = w.heap[j]?) : Own k e w' base v xs := ownsRow_stays h hk
theorem L.Own.stays {k : Unit} {e : TypeId} {w w' : World} {base : Nat} {v : Value} {xs : List Bool} (h : L.Own k e w base v xs) (hk : ∀ j, base ≤ j → j < w.heap.size → w'.heap[j]? = w.heap[j]?) : L.Own k e w' base v xs := ownsRow_stays h hk
theorem WOwn.stays {w w' : World} {base : Nat} {v : Value} {fs : List (List Int)} (h : WOwn w base v fs) (hk : ∀ j, base ≤ j → j < w.heap.size → w'.heap[j]? = w.heap[j]?) : WOwn w' base v fs := by
  obtain ⟨L, h1, h2, h3⟩ := h
  exact ⟨L, h1, ownsRow_stays h2 hk, fun p hp => (h3 p hp).stays hk⟩
/-- A call returns an answer, whose lists are the call's own: they stay where the call's own blocks stay. -/
def OneR (w : World) (r : Rep) (e : Ending) (w' : World) : Prop :=
  ∃ (Bo Bs Bf : Option Addr) (mo ms mf eo es ef : Nat), e = .returned (.agg #[.int .i64 r.x, .slice Bo mo eo, .slice Bs ms es, .slice Bf mf ef]) ∧ (∀ w2 : World, (∀ j, w.heap.size ≤ j → j < w'.heap.size → w2.heap[j]? = w'.heap[j]?) → Repd w2 w2.heap.size r Bo Bs Bf mo ms mf) ∧ Below w.heap.size w w'
theorem wpk_files_wf {fl ys : List Int} (hw : ∀ x ∈ ys, (Lit.int .u8 x).wf = true) (k : Nat) : ∀ xs ∈ filesR fl ys k, ∀ x ∈ xs, (Lit.int .u16 x).wf = true := by
  intro xs hxs
  simp only [filesR, List.mem_map] at hxs
  obtain ⟨i, _, rfl⟩ := hxs
  exact wwords_wf _ (fun y hy => hw y (List.mem_of_mem_drop (List.mem_of_mem_take hy)))
theorem filesR_step (fl ys : List Int) (k : Nat) : filesR fl ys (k + 1) = filesR fl ys k ++ [fileAt fl ys k] := by simp [filesR, List.range_succ]
end Go.Proofs.YtobhllcnljggiaaGreat
namespace Go.Proofs.YtobhllcnljggiaaGreat
open Go.RowKit
set_option linter.unusedVariables false

set_option maxHeartbeats 4000000 in
set_option maxRecDepth 100000 in
theorem refShape_words (c a : Int) (n : Nat) (Ao As Ap : Option Addr) (lo co ls cs lp cp : Nat) (b o m cap : Nat) (ys : List Int) (w : World) (hr : Row .u8 w w.heap.size (some ⟨b, o, none⟩) ys) (hy : ys.length = m) (hcap : m ≤ cap) (hcb : cap ≤ 9223372036854775807) (hc : c = 3 ∨ c = 4) (hm : m = 2 + 2 * n) (hn : 1 ≤ n ∧ n ≤ 125) :
    Calls Tryz.prog 60 #[.agg #[.int .i64 c, .int .i64 a, .int .i64 n, .slice Ao lo co, .slice As ls cs, .slice Ap lp cp], .slice (some ⟨b, o, none⟩) m cap] w (OneR w ⟨0, [], wwords (ys.drop 2), []⟩) := by
  have t := TB3.new w #[.int .i64 c, .int .i64 a, .int .i64 n, .slice Ao lo co, .slice As ls cs, .slice Ap lp cp] #[.int .i64 0, .slice none 0 0, .slice none 0 0, .slice none 0 0] #[.int .i64 0, .slice none 0 0, .slice none 0 0, .slice none 0 0] 26 29 29
  have kB : Hid (clB c = false) := Lib.hid (decide_eq_false (by omega))
  have kW : Hid (clW c = true) := Lib.hid (decide_eq_true hc)
  have kF : Hid (clF c = false) := Lib.hid (decide_eq_false (by omega))
  have HR := Lib.hid hr
  have HY := Lib.hid hy
  have HM := Lib.hid hm
  have HWF : Hid (∀ x ∈ wwords (ys.drop 2), (Lit.int .u16 x).wf = true) := Lib.hid (wwords_wf _ (fun x hx => hr.1 x (List.mem_of_mem_drop hx)))
  have i1 : (2 : Int) ≤ (m : Int) := by omega
  have i2 : (2 : Int) ≤ (cap : Int) := by omega
  have i3 : ¬ cap = 2 := by omega
  have i4 : (m : Int) ≤ (cap : Int) := by omega
  clear hr hy hm hc
  obtain ⟨r0, r1, r2, r3, r4, r5, _⟩ := t.1.r6
  obtain ⟨d0, d1, d2, d3, d4⟩ := t.c4
  go_enter Tryz.func60, Tryz.ntmps60
  go_wp2_with fail
  refine (refKindBits_any c a n Ao As Ap lo co ls cs lp cp _).mono ?_
  rintro e w1 ⟨rfl, b⟩
  rw [kB.out]
  have t := t.below b
  clear b r0 r1 r2 r3 r4 r5 d0 d1 d2 d3 d4
  obtain ⟨r0, r1, r2, r3, r4, r5, _⟩ := t.1.r6
  obtain ⟨d0, d1, d2, d3, d4⟩ := t.c4
  go_wp2_with fail
  refine (refWords_kind c a n Ao As Ap lo co ls cs lp cp _).mono ?_
  rintro e w2 ⟨rfl, b⟩
  rw [kW.out]
  have t := t.below b
  clear b r0 r1 r2 r3 r4 r5 d0 d1 d2 d3 d4
  obtain ⟨r0, r1, r2, r3, r4, r5, _⟩ := t.1.r6
  obtain ⟨d0, d1, d2, d3, d4⟩ := t.c4
  go_wp2_with fail
  clear r0 r1 r2 r3 r4 r5 d0 d1 d2 d3 d4
  refine (refWords_ok _ (m - 2) (cap - 2) n (ys.drop 2) _ (((HR.out.drop 2).below t.bel).more (by have := t.lt; omega)) (by rw [List.length_drop, HY.out]) (by have := HM.out; omega) (by have := HM.out; omega)).mono ?_
  rintro e w3 ⟨v3, rfl, own3, b⟩
  have own4 := own3.mono (base' := w.heap.size + 3) (by have := t.lt; omega)
  have t := t.below b
  obtain ⟨A3, n3, c3, rfl, _, l3⟩ := own4.view3 HWF.out
  have own := Lib.hid (own4.set (g := w.heap.size + 2) (by omega) 2 (.slice A3 n3 c3))
  clear b own3 own4
  obtain ⟨r0, r1, r2, r3, r4, r5, _⟩ := t.1.r6
  obtain ⟨d0, d1, d2, d3, d4⟩ := t.c4
  have t := t.set 2 (.slice A3 n3 c3)
  go_wp2
  go_loopw [9, 10] (fun at_ i wr => at_ = .int .i64 2 ∧ i = .int .i64 0 ∧ Hid (Own .u16 32 wr (w.heap.size + 3) (.slice A3 n3 c3) (wwords (ys.drop 2))) ∧ TB3 w w.heap.size (.cells #[.int .i64 c, .int .i64 a, .int .i64 n, .slice Ao lo co, .slice As ls cs, .slice Ap lp cp] 26 (0, 0)) (.cells #[.int .i64 0, .slice none 0 0, .slice none 0 0, .slice none 0 0] 29 (0, 0)) (.cells #[.int .i64 0, .slice none 0 0, .slice A3 n3 c3, .slice none 0 0] 29 (0, 0)) wr) (fun _ _ _ => 0)
  case atStart => exact ⟨rfl, rfl, own, t⟩
  case round =>
    clear own t r0 r1 r2 r3 r4 r5 d0 d1 d2 d3 d4
    obtain ⟨rfl, rfl, own, t⟩ := hrel
    obtain ⟨r0, r1, r2, r3, r4, r5, _⟩ := t.1.r6
    obtain ⟨d0, d1, d2, d3, d4⟩ := t.c4
    go_wp2_with fail
    refine (refFiles_kind c a n Ao As Ap lo co ls cs lp cp _).mono ?_
    rintro e w8 ⟨rfl, b⟩
    rw [kF.out]
    have own := own.out.below b (Nat.le_refl _)
    have t := t.below b
    clear b r0 r1 r2 r3 r4 r5 d0 d1 d2 d3 d4
    obtain ⟨r0, r1, r2, r3, r4, r5, _⟩ := t.1.r6
    obtain ⟨d0, d1, d2, d3, d4⟩ := t.c4
    have P5 := Lib.hid (t.1.put4 (.int .i64 0) (.slice none 0 0) (.slice A3 n3 c3) (.slice none 0 0))
    have O5 := Lib.hid (own.put4 (g := w.heap.size + 1) (by omega) (.int .i64 0) (.slice none 0 0) (.slice A3 n3 c3) (.slice none 0 0))
    obtain ⟨f0, f1, f2, f3, f4⟩ := t.1.c4
    go_wp2
    (try simp only [Exit.inBlock, Exit.then])
    show bodyPost _ _ _ _ _ (put4 (_) (w.heap.size + 1) (.int .i64 0) (.slice none 0 0) (.slice A3 n3 c3) (.slice none 0 0))
    generalize put4 (_) (w.heap.size + 1) (.int .i64 0) (.slice none 0 0) (.slice A3 n3 c3) (.slice none 0 0) = w6 at *
    obtain ⟨x0, x1, x2, x3⟩ := cells4 P5.out.1
    refine bodyPost_ret (v := .agg #[.int .i64 0, .slice none 0 0, .slice A3 n3 c3, .slice none 0 0]) (by simp [results, Tryz.results60, go_sem, x0, x1, x2, x3]) rfl ?_
    refine ⟨_, _, _, _, _, _, _, _, _, rfl, fun w9 hk9 => ?_, P5.out.2⟩
    obtain ⟨A9, n9, c9, e9, row9, l9⟩ := (O5.out.stays (fun j hj => hk9 j (by omega))).view3 HWF.out
    injection e9 with e1 e2 e3
    subst e1 e2 e3
    exact ⟨L.Row.nil _ _ _ _, row9, FRow.nil _ _ _, rfl, l9, rfl⟩

set_option maxHeartbeats 4000000 in
set_option maxRecDepth 100000 in
theorem refShape_else (c a n : Int) (A : Option Addr) (Ao As Ap : Option Addr) (lo co ls cs lp cp m cap : Nat) (w : World) (h1 : ¬ (c = 1 ∨ c = 2)) (h2 : ¬ (c = 3 ∨ c = 4)) (h3 : c ≠ 20) :
    Calls Tryz.prog 60 #[.agg #[.int .i64 c, .int .i64 a, .int .i64 n, .slice Ao lo co, .slice As ls cs, .slice Ap lp cp], .slice A m cap] w (OneR w Rep.zero) := by
  have t := TB3.new w #[.int .i64 c, .int .i64 a, .int .i64 n, .slice Ao lo co, .slice As ls cs, .slice Ap lp cp] #[.int .i64 0, .slice none 0 0, .slice none 0 0, .slice none 0 0] #[.int .i64 0, .slice none 0 0, .slice none 0 0, .slice none 0 0] 26 29 29
  have kB : Hid (clB c = false) := Lib.hid (decide_eq_false h1)
  have kW : Hid (clW c = false) := Lib.hid (decide_eq_false h2)
  have kF : Hid (clF c = false) := Lib.hid (decide_eq_false h3)
  have own : Hid True := Lib.hid trivial
  clear h1 h2 h3
  obtain ⟨r0, r1, r2, r3, r4, r5, _⟩ := t.1.r6
  obtain ⟨d0, d1, d2, d3, d4⟩ := t.c4
  go_enter Tryz.func60, Tryz.ntmps60
  go_wp2_with fail
  refine (refKindBits_any c a n Ao As Ap lo co ls cs lp cp _).mono ?_
  rintro e w1 ⟨rfl, b⟩
  rw [kB.out]
  have t := t.below b
  clear b r0 r1 r2 r3 r4 r5 d0 d1 d2 d3 d4
  obtain ⟨r0, r1, r2, r3, r4, r5, _⟩ := t.1.r6
  obtain ⟨d0, d1, d2, d3, d4⟩ := t.c4
  go_wp2_with fail
  refine (refWords_kind c a n Ao As Ap lo co ls cs lp cp _).mono ?_
  rintro e w2 ⟨rfl, b⟩
  rw [kW.out]
  have t := t.below b
  clear b r0 r1 r2 r3 r4 r5 d0 d1 d2 d3 d4
  obtain ⟨r0, r1, r2, r3, r4, r5, _⟩ := t.1.r6
  obtain ⟨d0, d1, d2, d3, d4⟩ := t.c4
  go_wp2
  go_loopw [9, 10] (fun at_ i wr => at_ = .int .i64 2 ∧ i = .int .i64 0 ∧ Hid (True) ∧ TB3 w w.heap.size (.cells #[.int .i64 c, .int .i64 a, .int .i64 n, .slice Ao lo co, .slice As ls cs, .slice Ap lp cp] 26 (0, 0)) (.cells #[.int .i64 0, .slice none 0 0, .slice none 0 0, .slice none 0 0] 29 (0, 0)) (.cells #[.int .i64 0, .slice none 0 0, .slice none 0 0, .slice none 0 0] 29 (0, 0)) wr) (fun _ _ _ => 0)
  case atStart => exact ⟨rfl, rfl, own, t⟩
  case round =>
    clear own t r0 r1 r2 r3 r4 r5 d0 d1 d2 d3 d4
    obtain ⟨rfl, rfl, own, t⟩ := hrel
    obtain ⟨r0, r1, r2, r3, r4, r5, _⟩ := t.1.r6
    obtain ⟨d0, d1, d2, d3, d4⟩ := t.c4
    go_wp2_with fail
    refine (refFiles_kind c a n Ao As Ap lo co ls cs lp cp _).mono ?_
    rintro e w8 ⟨rfl, b⟩
    rw [kF.out]
    have own := own
    have t := t.below b
    clear b r0 r1 r2 r3 r4 r5 d0 d1 d2 d3 d4
    obtain ⟨r0, r1, r2, r3, r4, r5, _⟩ := t.1.r6
    obtain ⟨d0, d1, d2, d3, d4⟩ := t.c4
    have P5 := Lib.hid (t.1.put4 (.int .i64 0) (.slice none 0 0) (.slice none 0 0) (.slice none 0 0))
    obtain ⟨f0, f1, f2, f3, f4⟩ := t.1.c4
    go_wp2
    (try simp only [Exit.inBlock, Exit.then])
    show bodyPost _ _ _ _ _ (put4 (_) (w.heap.size + 1) (.int .i64 0) (.slice none 0 0) (.slice none 0 0) (.slice none 0 0))
    generalize put4 (_) (w.heap.size + 1) (.int .i64 0) (.slice none 0 0) (.slice none 0 0) (.slice none 0 0) = w6 at *
    obtain ⟨x0, x1, x2, x3⟩ := cells4 P5.out.1
    refine bodyPost_ret (v := .agg #[.int .i64 0, .slice none 0 0, .slice none 0 0, .slice none 0 0]) (by simp [results, Tryz.results60, go_sem, x0, x1, x2, x3]) rfl ?_
    exact ⟨_, _, _, _, _, _, _, _, _, rfl, fun w9 _ => Repd.zero _ _ 0, P5.out.2⟩

theorem half_pow (y j : Nat) : y / 2 ^ j / 2 = y / 2 ^ (j + 1) := by rw [Nat.div_div_eq_div_mul, Nat.pow_succ]
set_option maxHeartbeats 8000000 in
set_option maxRecDepth 100000 in
theorem refShape_bits (c a : Int) (n : Nat) (Ao As Ap : Option Addr) (lo co ls cs lp cp : Nat) (b o m cap : Nat) (ys : List Int) (w : World) (hr : Row .u8 w w.heap.size (some ⟨b, o, none⟩) ys) (hy : ys.length = m) (hcap : m ≤ cap) (hcb : cap ≤ 9223372036854775807) (hc : c = 1 ∨ c = 2) (hm : m = 2 + need n) (hn : 1 ≤ n ∧ n ≤ 2000) :
    Calls Tryz.prog 60 #[.agg #[.int .i64 c, .int .i64 a, .int .i64 n, .slice Ao lo co, .slice As ls cs, .slice Ap lp cp], .slice (some ⟨b, o, none⟩) m cap] w (OneR w ⟨0, unpk (ys.drop 2) n, [], []⟩) := by
  have t := TB3.new w #[.int .i64 c, .int .i64 a, .int .i64 n, .slice Ao lo co, .slice As ls cs, .slice Ap lp cp] #[.int .i64 0, .slice none 0 0, .slice none 0 0, .slice none 0 0] #[.int .i64 0, .slice none 0 0, .slice none 0 0, .slice none 0 0] 26 29 29
  have kB : Hid (clB c = true) := Lib.hid (decide_eq_true hc)
  have kW : Hid (clW c = false) := Lib.hid (decide_eq_false (by omega))
  have kF : Hid (clF c = false) := Lib.hid (decide_eq_false (by omega))
  have HR := Lib.hid hr
  have HY := Lib.hid hy
  have HM := Lib.hid hm
  clear hr hy hm hc
  obtain ⟨r0, r1, r2, r3, r4, r5, _⟩ := t.1.r6
  obtain ⟨d0, d1, d2, d3, d4⟩ := t.c4
  go_enter Tryz.func60, Tryz.ntmps60
  go_wp2_with fail
  refine (refKindBits_any c a n Ao As Ap lo co ls cs lp cp _).mono ?_
  rintro e w1 ⟨rfl, b⟩
  rw [kB.out]
  have t := t.below b
  clear b r0 r1 r2 r3 r4 r5 d0 d1 d2 d3 d4
  obtain ⟨r0, r1, r2, r3, r4, r5, _⟩ := t.1.r6
  obtain ⟨d0, d1, d2, d3, d4⟩ := t.c4
  go_wp2
  go_loopw [6] (fun i wr => ∃ (k : Nat) (A : Option Addr) (nb cb : Nat), k ≤ n ∧ i = .int .i64 k ∧ Hid (L.Own () 4 wr (w.heap.size + 3) (.slice A nb cb) (unpk (ys.drop 2) k)) ∧ TB3 w w.heap.size (.cells #[.int .i64 c, .int .i64 a, .int .i64 n, .slice Ao lo co, .slice As ls cs, .slice Ap lp cp] 26 (0, 0)) (.cells #[.int .i64 0, .slice none 0 0, .slice none 0 0, .slice none 0 0] 29 (0, 0)) (.cells #[.int .i64 0, .slice A nb cb, .slice none 0 0, .slice none 0 0] 29 (0, 0)) wr) (fun i _ => n - (intOf i).toNat)
  case atStart => exact ⟨0, none, 0, 0, by omega, rfl, Lib.hid (L.Own.nil _ _ _ _), t⟩
  case round =>
    clear t r0 r1 r2 r3 r4 r5 d0 d1 d2 d3 d4
    obtain ⟨k, A, nb, cb, hk, rfl, own, t⟩ := hrel
    obtain ⟨r0, r1, r2, r3, r4, r5, _⟩ := t.1.r6
    obtain ⟨d0, d1, d2, d3, d4⟩ := t.c4
    by_cases hlt : k < n
    · have hnd : k / 8 < need n := by unfold need; omega
      obtain ⟨b', o', hA, hbB, hc0⟩ := HR.out.at_ (i := 2 + k / 8) (by have := HY.out; have := HM.out; omega)
      injection hA with hA
      injection hA with hA1 hA2
      subst hA1 hA2
      have hwf := wf_u8 (HR.out.wf_at (i := 2 + k / 8) (by have := HY.out; have := HM.out; omega))
      have HB : Hid (bitAt (ys.drop 2) k = decide ((nth ys (2 + k / 8)).toNat / 2 ^ (k % 8) % 2 = 1)) := Lib.hid (by unfold bitAt; rw [nth_drop])
      obtain ⟨x, hx⟩ := Int.eq_ofNat_of_zero_le hwf.1
      rw [hx, Int.toNat_natCast] at HB
      rw [hx] at hc0 hwf
      have hc1 := (t.bel.cell (p := ⟨b, o + (2 + k / 8), none⟩) hbB).trans hc0
      obtain ⟨r, hr8⟩ : ∃ r, k % 8 = r := ⟨_, rfl⟩
      obtain ⟨j, hj⟩ : ∃ j, k / 8 = j := ⟨_, rfl⟩
      obtain ⟨p, hp⟩ : ∃ p, 2 + j = p := ⟨_, rfl⟩
      have e6 : (k : Int) % 8 = ((r : Nat) : Int) := by omega
      have e7 : (k : Int).tmod 8 = ((r : Nat) : Int) := by rw [Int.tmod_eq_emod_of_nonneg (by omega)]; omega
      have e1 : (k : Int) / 8 = (j : Int) := by omega
      have e3 : (k : Int).tdiv 8 = (j : Int) := by rw [Int.tdiv_eq_ediv_of_nonneg (by omega)]; omega
      have e9 : IntKind.i64.wrap (j : Int) = (j : Int) := IntWalk.i64_in _ (by omega)
      have e10 : IntKind.i64.wrap (r : Int) = (r : Int) := IntWalk.i64_in _ (by omega)
      have e11 : IntKind.i64.wrap (2 + (j : Int)) = (p : Int) := by rw [IntWalk.i64_in _ (by omega)]; omega
      have e12 : (2 : Int) + (j : Int) = (p : Int) := by omega
      have e2 : (p : Int) < (m : Int) := by have := HM.out; omega
      have e4 : (0 : Int) ≤ (p : Int) := by omega
      have f1 : IntKind.i64.wrap (x : Int) = (x : Int) := IntWalk.i64_in _ (by omega)
      have hkn : (k : Int) < (n : Int) := by omega
      rw [hr8] at HB
      rw [hj, hp] at hc1
      have hr9 : r < 8 := by omega
      clear hc0 hnd hr8 hj hp hx
      go_wp2
      go_loopw [7, 8] (fun xv jv wr2 => ∃ jj : Nat, jj ≤ r ∧ jv = .int .i64 jj ∧ xv = .int .i64 ((x / 2 ^ jj : Nat) : Int) ∧ wr2 = wr) (fun _ jv _ => r - (intOf jv).toNat)
      case atStart => exact ⟨0, by omega, rfl, by simp, rfl⟩
      case round =>
        obtain ⟨jj, hjj, rfl, rfl, rfl⟩ := hrel
        obtain ⟨z, hz⟩ : ∃ z : Nat, x / 2 ^ jj = z := ⟨_, rfl⟩
        have hzx : z ≤ x := by rw [← hz]; exact Nat.div_le_self _ _
        by_cases hjr : jj < r
        · have HH := Lib.hid (half_pow x jj)
          rw [hz] at HH ⊢
          obtain ⟨z2, hz2⟩ : ∃ z2 : Nat, z / 2 = z2 := ⟨_, rfl⟩
          have g1 : (z : Int) / 2 = (z2 : Int) := by omega
          have g2 : (z : Int).tdiv 2 = (z2 : Int) := by rw [Int.tdiv_eq_ediv_of_nonneg (by omega)]; exact g1
          have g3 : IntKind.i64.wrap (z2 : Int) = (z2 : Int) := IntWalk.i64_in _ (by omega)
          have hjr2 : (jj : Int) < (r : Int) := by omega
          rw [hz2] at HH
          clear hz hz2
          go_wp2
          go_roundw
          case rel => exact ⟨jj + 1, by omega, by go_num, by rw [← HH.out], by trivial⟩
          case measure => simp [intOf]; omega
        · obtain rfl : jj = r := by omega
          rw [hz] at HB ⊢
          obtain ⟨v, hv⟩ : ∃ v, Hid (bitAt (ys.drop 2) k = v) := ⟨_, Lib.hid rfl⟩
          have hv2 := HB.out.symm.trans hv.out
          have f7 : ((z : Int) % 2 == 1) = v := by
            rw [← hv2]
            by_cases h : z % 2 = 1
            · have : (z : Int) % 2 = 1 := by omega
              rw [this, decide_eq_true h]; rfl
            · rw [decide_eq_false h]; exact beq_false_of_ne (by omega)
          have f8 : (z : Int).tmod 2 = (z : Int) % 2 := Int.tmod_eq_emod_of_nonneg (by omega)
          have f9 : IntKind.i64.wrap ((z : Int) % 2) = (z : Int) % 2 := IntWalk.i64_in _ (by omega)
          have HT := Lib.hid (unpk_step (ys.drop 2) k)
          rw [hv.out] at HT
          have hnl : Hid ((unpk (ys.drop 2) k).length ≤ 2000) := Lib.hid (by rw [unpk_length]; omega)
          have hz3 := t.lt
          clear hv2 HB hz hc1
          go_wp2_with (at_builtin; refine L.wpList_append_row _ rfl (.tmp 38) (.tmp 42) 22 rfl (w.heap.size + 3) () 4 1 Tryz.underlying22 L.info_bool (.slice A nb cb) (unpk (ys.drop 2) k) rfl (own.out.alloc _) _ _ 1 1 [v] rfl (L.Row.one () wr 4 v rfl) rfl (by have := hnl.out; omega) (by have := hnl.out; simp only [maxLen]; omega) (by simp; omega) ?_; intro v1 w1 own1 g1; have t6 := (t.alloc (.cells #[.bool v] 4)).grown g1 (fun g e => ((own.out.alloc (.cells #[.bool v] 4)).block g e).1); obtain ⟨A1, n1, c1, rfl, _, _⟩ := own1.view3; rw [← HT.out] at own1; obtain ⟨y0, y1, y2, y3, y4⟩ := t6.c4)
          have t7 := t6.set 1 (.slice A1 n1 c1)
          have own7 := Lib.hid (own1.set (g := w.heap.size + 2) (by omega) 1 (.slice A1 n1 c1))
          go_roundw
          case rel => exact ⟨k + 1, A1, n1, c1, by omega, by go_num, own7, t7⟩
          case measure => simp [intOf]; omega
    · obtain rfl : k = n := by omega
      go_wp2_with fail
      refine (refWords_kind c a k Ao As Ap lo co ls cs lp cp _).mono ?_
      rintro e w2 ⟨rfl, b⟩
      rw [kW.out]
      have own := Lib.hid (own.out.below b (Nat.le_refl _))
      have t := t.below b
      clear b r0 r1 r2 r3 r4 r5 d0 d1 d2 d3 d4
      obtain ⟨r0, r1, r2, r3, r4, r5, _⟩ := t.1.r6
      obtain ⟨d0, d1, d2, d3, d4⟩ := t.c4
      go_wp2
      go_loopw [9, 10] (fun at_ i wr => at_ = .int .i64 2 ∧ i = .int .i64 0 ∧ Hid (L.Own () 4 wr (w.heap.size + 3) (.slice A nb cb) (unpk (ys.drop 2) k)) ∧ TB3 w w.heap.size (.cells #[.int .i64 c, .int .i64 a, .int .i64 k, .slice Ao lo co, .slice As ls cs, .slice Ap lp cp] 26 (0, 0)) (.cells #[.int .i64 0, .slice none 0 0, .slice none 0 0, .slice none 0 0] 29 (0, 0)) (.cells #[.int .i64 0, .slice A nb cb, .slice none 0 0, .slice none 0 0] 29 (0, 0)) wr) (fun _ _ _ => 0)
      case atStart => exact ⟨rfl, rfl, own, t⟩
      case round =>
        clear own t r0 r1 r2 r3 r4 r5 d0 d1 d2 d3 d4
        obtain ⟨rfl, rfl, own, t⟩ := hrel
        obtain ⟨r0, r1, r2, r3, r4, r5, _⟩ := t.1.r6
        obtain ⟨d0, d1, d2, d3, d4⟩ := t.c4
        go_wp2_with fail
        refine (refFiles_kind c a k Ao As Ap lo co ls cs lp cp _).mono ?_
        rintro e w8 ⟨rfl, b⟩
        rw [kF.out]
        have own := own.out.below b (Nat.le_refl _)
        have t := t.below b
        clear b r0 r1 r2 r3 r4 r5 d0 d1 d2 d3 d4
        obtain ⟨r0, r1, r2, r3, r4, r5, _⟩ := t.1.r6
        obtain ⟨d0, d1, d2, d3, d4⟩ := t.c4
        have P5 := Lib.hid (t.1.put4 (.int .i64 0) (.slice A nb cb) (.slice none 0 0) (.slice none 0 0))
        have O5 := Lib.hid (own.put4 (g := w.heap.size + 1) (by omega) (.int .i64 0) (.slice A nb cb) (.slice none 0 0) (.slice none 0 0))
        obtain ⟨f0, f1, f2, f3, f4⟩ := t.1.c4
        go_wp2
        (try simp only [Exit.inBlock, Exit.then])
        show bodyPost _ _ _ _ _ (put4 (_) (w.heap.size + 1) (.int .i64 0) (.slice A nb cb) (.slice none 0 0) (.slice none 0 0))
        generalize put4 (_) (w.heap.size + 1) (.int .i64 0) (.slice A nb cb) (.slice none 0 0) (.slice none 0 0) = w6 at *
        obtain ⟨x0, x1, x2, x3⟩ := cells4 P5.out.1
        refine bodyPost_ret (v := .agg #[.int .i64 0, .slice A nb cb, .slice none 0 0, .slice none 0 0]) (by simp [results, Tryz.results60, go_sem, x0, x1, x2, x3]) rfl ?_
        refine ⟨_, _, _, _, _, _, _, _, _, rfl, fun w9 hk9 => ?_, P5.out.2⟩
        obtain ⟨A9, n9, c9, e9, row9, l9⟩ := (O5.out.stays (fun j hj => hk9 j (by omega))).view3
        injection e9 with e1 e2 e3
        subst e1 e2 e3
        exact ⟨row9, Row.nil _ _ _ _, FRow.nil _ _ _, l9, rfl, rfl⟩
end Go.Proofs.YtobhllcnljggiaaGreat
namespace Go.Proofs.YtobhllcnljggiaaGreat
open Go.RowKit
set_option linter.unusedVariables false

set_option maxHeartbeats 8000000 in
set_option maxRecDepth 100000 in
theorem refShape_file (a n : Int) (fl : List Int) (Ao As Ap : Option Addr) (lo co ls cs lp cp : Nat) (b o m cap : Nat) (ys : List Int) (w : World) (hr : Row .u8 w w.heap.size (some ⟨b, o, none⟩) ys) (hy : ys.length = m) (hcap : m ≤ cap) (hcb : cap ≤ 9223372036854775807) (hp : Row .i64 w w.heap.size Ap fl) (hl : fl.length = 3 * lp) (h2 : ∀ i, i < lp → 1 ≤ nth fl (3 * i + 2)) (hm : posF fl lp = m) (hm2 : m ≤ 247) (hlp : lp ≤ 35) :
    Calls Tryz.prog 60 #[.agg #[.int .i64 20, .int .i64 a, .int .i64 n, .slice Ao lo co, .slice As ls cs, .slice Ap lp cp], .slice (some ⟨b, o, none⟩) m cap] w (OneR w ⟨0, [], [], filesR fl ys lp⟩) := by
  have t := TB3.new w #[.int .i64 20, .int .i64 a, .int .i64 n, .slice Ao lo co, .slice As ls cs, .slice Ap lp cp] #[.int .i64 0, .slice none 0 0, .slice none 0 0, .slice none 0 0] #[.int .i64 0, .slice none 0 0, .slice none 0 0, .slice none 0 0] 26 29 29
  have kB : Hid (clB 20 = false) := Lib.hid (by decide)
  have kW : Hid (clW 20 = false) := Lib.hid (by decide)
  have kF : Hid (clF 20 = true) := Lib.hid (by decide)
  have HR := Lib.hid hr
  have HY := Lib.hid hy
  have HM := Lib.hid hm
  have HP := Lib.hid hp
  have HL := Lib.hid hl
  have H2 := Lib.hid h2
  have HWF := Lib.hid hr.1
  clear hr hy hm hp hl h2
  obtain ⟨r0, r1, r2, r3, r4, r5, _⟩ := t.1.r6
  obtain ⟨d0, d1, d2, d3, d4⟩ := t.c4
  go_enter Tryz.func60, Tryz.ntmps60
  go_wp2_with fail
  refine (refKindBits_any 20 a n Ao As Ap lo co ls cs lp cp _).mono ?_
  rintro e w1 ⟨rfl, b⟩
  rw [kB.out]
  have t := t.below b
  clear b r0 r1 r2 r3 r4 r5 d0 d1 d2 d3 d4
  obtain ⟨r0, r1, r2, r3, r4, r5, _⟩ := t.1.r6
  obtain ⟨d0, d1, d2, d3, d4⟩ := t.c4
  go_wp2_with fail
  refine (refWords_kind 20 a n Ao As Ap lo co ls cs lp cp _).mono ?_
  rintro e w2 ⟨rfl, b⟩
  rw [kW.out]
  have t := t.below b
  clear b r0 r1 r2 r3 r4 r5 d0 d1 d2 d3 d4
  obtain ⟨r0, r1, r2, r3, r4, r5, _⟩ := t.1.r6
  obtain ⟨d0, d1, d2, d3, d4⟩ := t.c4
  go_wp2
  go_loopw [9, 10] (fun at_ i wr => ∃ (k : Nat) (A : Option Addr) (nf cf : Nat), k ≤ lp ∧ i = .int .i64 k ∧ at_ = .int .i64 ((posF fl k : Nat) : Int) ∧ Hid (WOwn wr (w.heap.size + 3) (.slice A nf cf) (filesR fl ys k)) ∧ TB3 w w.heap.size (.cells #[.int .i64 20, .int .i64 a, .int .i64 n, .slice Ao lo co, .slice As ls cs, .slice Ap lp cp] 26 (0, 0)) (.cells #[.int .i64 0, .slice none 0 0, .slice none 0 0, .slice none 0 0] 29 (0, 0)) (.cells #[.int .i64 0, .slice none 0 0, .slice none 0 0, .slice A nf cf] 29 (0, 0)) wr) (fun _ i _ => lp - (intOf i).toNat)
  case atStart => exact ⟨0, none, 0, 0, by omega, rfl, rfl, Lib.hid (WOwn.nil _ _), t⟩
  case round =>
    clear t r0 r1 r2 r3 r4 r5 d0 d1 d2 d3 d4
    obtain ⟨k, A, nf, cf, hk, rfl, rfl, own, t⟩ := hrel
    obtain ⟨r0, r1, r2, r3, r4, r5, _⟩ := t.1.r6
    obtain ⟨d0, d1, d2, d3, d4⟩ := t.c4
    go_wp2_with fail
    refine (refFiles_kind 20 a n Ao As Ap lo co ls cs lp cp _).mono ?_
    rintro e w8 ⟨rfl, b8⟩
    rw [kF.out]
    have own := Lib.hid (own.out.below b8 (Nat.le_refl _))
    have t := t.below b8
    clear b8 r0 r1 r2 r3 r4 r5 d0 d1 d2 d3 d4
    obtain ⟨r0, r1, r2, r3, r4, r5, _⟩ := t.1.r6
    obtain ⟨d0, d1, d2, d3, d4⟩ := t.c4
    by_cases hlt : k < lp
    · have hpl := posF_lt fl hlt
      have hmm := HM.out
      have hnn := H2.out k hlt
      have e0 : nth fl (3 * k + 2) = ((lenF fl k : Nat) : Int) := by rw [lenF]; omega
      have hl1 : 1 ≤ lenF fl k := by rw [lenF]; omega
      have HFA : Hid (fileAt fl ys k = wwords ((ys.drop (posF fl k + 2)).take (2 * lenF fl k))) := Lib.hid rfl
      have HPS : Hid (posF fl (k + 1) = posF fl k + (2 + 2 * lenF fl k)) := Lib.hid rfl
      have HST := Lib.hid (filesR_step fl ys k)
      have HFW : Hid (∀ x ∈ fileAt fl ys k, (Lit.int .u16 x).wf = true) := Lib.hid (wwords_wf _ (fun x hx => HWF.out x (List.mem_of_mem_drop (List.mem_of_mem_take hx))))
      obtain ⟨b3, o3, hAp, hb3, hc1, hc2, hc3⟩ := (HP.out.below t.bel).three (k := k) (by have := HL.out; omega)
      subst hAp
      rw [e0] at hc3
      clear e0 hnn hc1 hc2
      generalize lenF fl k = l at *
      generalize posF fl k = p at *
      have hpm : p + (2 + 2 * l) ≤ m := by omega
      obtain ⟨s, hs⟩ : ∃ s, p + 2 = s := ⟨_, rfl⟩
      obtain ⟨l2, hl2⟩ : ∃ l2, 2 * l = l2 := ⟨_, rfl⟩
      obtain ⟨z, hz⟩ : ∃ z, s + l2 = z := ⟨_, rfl⟩
      have e1 : IntKind.i64.wrap (2 * (l : Int)) = (l2 : Int) := by rw [IntWalk.i64_in _ (by omega)]; omega
      have e1' : 2 * (l : Int) = (l2 : Int) := by omega
      have e2 : IntKind.i64.wrap ((p : Int) + 2) = (s : Int) := by rw [IntWalk.i64_in _ (by omega)]; omega
      have e2' : (p : Int) + 2 = (s : Int) := by omega
      have e3 : IntKind.i64.wrap ((s : Int) + (l2 : Int)) = (z : Int) := by rw [IntWalk.i64_in _ (by omega)]; omega
      have e3' : (s : Int) + (l2 : Int) = (z : Int) := by omega
      have e5 : IntKind.i64.wrap (l2 : Int) = (l2 : Int) := IntWalk.i64_in _ (by omega)
      have e6 : IntKind.i64.wrap (s : Int) = (s : Int) := IntWalk.i64_in _ (by omega)
      have e7 : IntKind.i64.wrap (z : Int) = (z : Int) := IntWalk.i64_in _ (by omega)
      have i1 : (s : Int) ≤ (z : Int) := by omega
      have i2 : (z : Int) ≤ (cap : Int) := by omega
      have i3 : (0 : Int) ≤ (s : Int) := by omega
      have i4 : ¬ s = cap := by omega
      have i5 : ¬ cap = s := by omega
      have i6 : (s : Int) ≤ (cap : Int) := by omega
      have hkl : (k : Int) < (lp : Int) := by omega
      have hlt3 := t.lt
      clear hpl hmm
      go_wp2_with fail
      clear r0 r1 r2 r3 r4 r5 d0 d1 d2 d3 d4
      refine (refWords_ok _ (z - s) (cap - s) l ((ys.drop s).take (2 * l)) _ ((((HR.out.below t.bel).drop s).front (2 * l)).more (by omega)) (by rw [List.length_take, List.length_drop, HY.out]; omega) (by omega) (by omega)).mono ?_
      rintro e w3 ⟨v3, rfl, own3, b⟩
      have own3 := own3.mono (base' := w.heap.size + 3) (by omega)
      have own4 := own.out.below b (Nat.le_refl _)
      have t := t.below b
      rw [← hs, ← HFA.out] at own3
      obtain ⟨A3, n3, c3, rfl, _, l3⟩ := own3.view3 HFW.out
      clear b hc3
      have bA := bel_alloc w3 (.cells #[.slice A3 n3 c3] 23)
      have t7 := t.below bA
      have own3' := own3.below bA (Nat.le_refl _)
      have own4' := own4.below bA (Nat.le_refl _)
      have HNEWS := Lib.hid (box_words w3 23 (.slice A3 n3 c3))
      have HFL : Hid ((filesR fl ys k).length = k) := Lib.hid (filesR_length _ _ _)
      have hlt7 := t.lt
      clear own own3 own4 bA
      obtain ⟨r0, r1, r2, r3, r4, r5, _⟩ := t.1.r6
      obtain ⟨d0, d1, d2, d3, d4⟩ := t.c4
      go_wp2_with (at_builtin; refine wpList_append_words _ rfl (.tmp 85) (.tmp 87) 27 rfl (w.heap.size + 3) Tryz.underlying27 info_words (.slice A nf cf) (filesR fl ys k) rfl own4' ⟨w3.heap.size, 0, none⟩ 1 (fileAt fl ys k) A3 n3 c3 rfl own3' HNEWS.out (by rw [HFL.out]; omega) (by simp; omega) ?_; intro v8 w8 own8 g8; have t8 := t7.grown g8 (fun g e => (own4'.block g e).1); rw [← HST.out] at own8; obtain ⟨A8, c8, hv8, _⟩ := own8.len; rw [filesR_length] at hv8; subst hv8; obtain ⟨y0, y1, y2, y3, y4⟩ := t8.c4)
      have t9 := t8.set 3 (.slice A8 (k + 1) c8)
      have own9 := Lib.hid (own8.set (g := w.heap.size + 2) (by omega) 3 (.slice A8 (k + 1) c8))
      have hpz : posF fl (k + 1) = z := by rw [HPS.out]; omega
      have HPZ := Lib.hid hpz
      clear hpz
      go_roundw
      case rel => exact ⟨k + 1, A8, k + 1, c8, by omega, by go_num, by rw [HPZ.out], own9, t9⟩
      case measure => simp [intOf]; omega
    · obtain rfl : k = lp := by omega
      have P5 := Lib.hid (t.1.put4 (.int .i64 0) (.slice none 0 0) (.slice none 0 0) (.slice A nf cf))
      have O5 := Lib.hid (own.out.put4 (g := w.heap.size + 1) (by omega) (.int .i64 0) (.slice none 0 0) (.slice none 0 0) (.slice A nf cf))
      obtain ⟨f0, f1, f2, f3, f4⟩ := t.1.c4
      go_wp2
      (try simp only [Exit.inBlock, Exit.then])
      show bodyPost _ _ _ _ _ (put4 (_) (w.heap.size + 1) (.int .i64 0) (.slice none 0 0) (.slice none 0 0) (.slice A nf cf))
      generalize put4 (_) (w.heap.size + 1) (.int .i64 0) (.slice none 0 0) (.slice none 0 0) (.slice A nf cf) = w6 at *
      obtain ⟨x0, x1, x2, x3⟩ := cells4 P5.out.1
      refine bodyPost_ret (v := .agg #[.int .i64 0, .slice none 0 0, .slice none 0 0, .slice A nf cf]) (by simp [results, Tryz.results60, go_sem, x0, x1, x2, x3]) rfl ?_
      obtain ⟨A9, c9, hv9, _⟩ := O5.out.len
      rw [filesR_length] at hv9
      injection hv9 with e1 e2 e3
      subst e1 e2 e3
      exact ⟨_, _, _, _, _, _, _, _, _, rfl, (fun w9 hk9 => ⟨L.Row.nil _ _ _ _, Row.nil _ _ _ _, (O5.out.stays (fun j hj => hk9 j (by omega))).frow (wpk_files_wf HWF.out _), rfl, rfl, filesR_length _ _ _⟩), P5.out.2⟩

/-- shape, of bytes of the right size. -/
theorem refShape_any (q : Req) (Ao As Ap : Option Addr) (lo ls lp co cs cp : Nat) (A : Option Addr) (m cap : Nat) (ys : List Int) (w : World) (h : Asked w w.heap.size q Ao As Ap lo ls lp) (hk : chkQ q = 0) (hr : Row .u8 w w.heap.size A ys) (hy : ys.length = m) (hm : m = sizeR q) (hcap : m ≤ cap) (hcb : cap ≤ 9223372036854775807) :
    Calls Tryz.prog 60 #[.agg #[.int .i64 q.c, .int .i64 q.a, .int .i64 q.n, .slice Ao lo co, .slice As ls cs, .slice Ap lp cp], .slice A m cap] w (OneR w (rdR q ys)) := by
  have hcs := mm_pos (chk_code hk)
  have h3 : q.fl.length / 3 = lp := by have := h.lp; omega
  by_cases h1 : q.c = 1 ∨ q.c = 2
  · have hn := right_bits hk h1
    have hm2 : m = 2 + need q.n.toNat := by rw [hm, sizeR, if_pos h1]
    have eR : rdR q ys = ⟨0, unpk (ys.drop 2) q.n.toNat, [], []⟩ := by rw [rdR, if_pos h1]
    have e : q.n = ((q.n.toNat : Nat) : Int) := by omega
    obtain ⟨b, o, rfl, _, _⟩ := hr.at_ (i := 0) (by omega)
    rw [eR]
    have hh := refShape_bits q.c q.a q.n.toNat Ao As Ap lo co ls cs lp cp b o m cap ys w hr hy hcap hcb h1 hm2 (by omega)
    rw [← e] at hh
    exact hh
  · by_cases h2 : q.c = 3 ∨ q.c = 4
    · have hn := right_words hk h2
      have hm2 : m = 2 + 2 * q.n.toNat := by rw [hm, sizeR, if_neg h1, if_pos h2]
      have eR : rdR q ys = ⟨0, [], wwords (ys.drop 2), []⟩ := by rw [rdR, if_neg h1, if_pos h2]
      have e : q.n = ((q.n.toNat : Nat) : Int) := by omega
      obtain ⟨b, o, rfl, _, _⟩ := hr.at_ (i := 0) (by omega)
      rw [eR]
      have hh := refShape_words q.c q.a q.n.toNat Ao As Ap lo co ls cs lp cp b o m cap ys w hr hy hcap hcb h2 hm2 (by omega)
      rw [← e] at hh
      exact hh
    · by_cases h20 : q.c = 20
      · obtain ⟨f1, f2, f3⟩ := right_files hk h20
        rw [h3] at f1 f2 f3
        have hm2 : posF q.fl lp = m := by rw [hm, sizeR, if_neg h1, if_neg h2, if_pos h20, h3]
        have h02 := posF_two q.fl lp
        have eR : rdR q ys = ⟨0, [], [], filesR q.fl ys lp⟩ := by rw [rdR, if_neg h1, if_neg h2, if_pos h20, h3]
        obtain ⟨b, o, rfl, _, _⟩ := hr.at_ (i := 0) (by omega)
        have hh := refShape_file q.a q.n q.fl Ao As Ap lo co ls cs lp cp b o m cap ys w hr hy hcap hcb h.fl h.lp f2 hm2 (by omega) (by omega)
        rw [← h20] at hh
        rw [eR]
        exact hh
      · have eR : rdR q ys = Rep.zero := by rw [rdR, if_neg h1, if_neg h2, if_neg h20]
        rw [eR]
        exact refShape_else q.c q.a q.n A Ao As Ap lo co ls cs lp cp m cap w h1 h2 h20
end Go.Proofs.YtobhllcnljggiaaGreat
namespace Go.Proofs.YtobhllcnljggiaaGreat
open Go.RowKit
set_option linter.unusedVariables false

theorem same_any_u8 (A A' : Option Addr) (n n' c c' : Nat) (xs ys : List Int) (w : World) (B B' : Nat) (hr : Row .u8 w B A xs) (hr' : Row .u8 w B' A' ys) (hn : xs.length = n) (hn' : ys.length = n') (hb : n ≤ 140737488355328) :
    Calls Tryz.prog 21 #[.slice A n c, .slice A' n' c'] w fun e w' => e = .returned (.bool (decide (xs = ys))) ∧ ∃ m, w' = w.drewN m := by
  obtain ⟨u, hu⟩ : ∃ u, Hid (decide (xs = ys) = u) := ⟨_, Lib.hid rfl⟩
  rw [hu.out]
  have HR := Lib.hid hr
  have HR' := Lib.hid hr'
  have HN := Lib.hid hn
  have HN' := Lib.hid hn'
  clear hr hr' hn hn'
  by_cases he : n = n'
  · subst he
    have t0 : ((n : Int) != (n : Int)) = false := by simp
    go_enter Tryz.func21, Tryz.ntmps21
    go_wp2
    go_loopw [5] (fun i wr => ∃ k nq : Nat, k ≤ n ∧ i = .int .i64 k ∧ Hid (∀ j, j < k → nth xs j = nth ys j) ∧ wr = w.drewN nq) (fun i _ => n - (intOf i).toNat)
    case atStart => exact ⟨0, 0, by omega, rfl, Lib.hid (fun j hj => by omega), rfl⟩
    case round =>
      obtain ⟨k, nq, hk, rfl, hs, rfl⟩ := hrel
      by_cases hlt : k < n
      · obtain ⟨b, o, rfl, hb1, hc1⟩ := HR.out.at_ (i := k) (by have := HN.out; omega)
        obtain ⟨b', o', rfl, hb1', hc1'⟩ := HR'.out.at_ (i := k) (by have := HN'.out; omega)
        have hlt' : (k : Int) < (n : Int) := by omega
        obtain ⟨x, hx⟩ : ∃ x, Hid (nth xs k = x) := ⟨_, Lib.hid rfl⟩
        obtain ⟨y, hy⟩ : ∃ y, Hid (nth ys k = y) := ⟨_, Lib.hid rfl⟩
        rw [hx.out] at hc1
        rw [hy.out] at hc1'
        by_cases hxy : x = y
        · have u1 : (x != y) = false := by simp [hxy]
          have u2 : (x == y) = true := by simp [hxy]
          have HXY := Lib.hid hxy
          clear hxy
          go_wp2
          go_quiet (fail)
          go_wp2
          go_roundw
          case rel => exact ⟨k + 1, _, by omega, by go_num, Lib.hid (fun j hj => by
            rcases Nat.lt_succ_iff_lt_or_eq.1 hj with h | h
            · exact hs.out j h
            · subst h; rw [hx.out, hy.out]; exact HXY.out), rfl⟩
          case measure => simp [intOf]; omega
        · have u1 : (x != y) = true := by simpa using hxy
          have u2 : (x == y) = false := beq_false_of_ne hxy
          have HU : Hid (u = false) := Lib.hid (by
            rw [← hu.out]
            refine decide_eq_false fun e => hxy ?_
            rw [← hx.out, ← hy.out, e])
          clear hxy
          go_wp2
          go_quiet (fail)
          go_wp2
          go_ret
          exact ⟨by rw [HU.out]; rfl, _, World.drewN_drewN _ _ _⟩
      · obtain rfl : k = n := by omega
        have HU : Hid (u = true) := Lib.hid (by
          rw [← hu.out]
          exact decide_eq_true (ext_nth _ _ (by rw [HN.out, HN'.out]) (fun i hi => hs.out i (by rw [← HN.out]; exact hi))))
        go_wp2
        go_ret
        exact ⟨by rw [HU.out]; rfl, nq, rfl⟩
  · have HU : Hid (u = false) := Lib.hid (by
      rw [← hu.out]
      exact decide_eq_false fun e => he (by rw [← HN.out, ← HN'.out, e]))
    have t0 : ((n : Int) != (n' : Int)) = true := by simp; omega
    have t1 : ((n : Int) == (n' : Int)) = false := beq_false_of_ne (by omega)
    clear he
    go_enter Tryz.func21, Tryz.ntmps21
    go_wp2
    go_ret
    exact ⟨by rw [HU.out]; rfl, 0, by trivial⟩
end Go.Proofs.YtobhllcnljggiaaGreat
namespace Go.Proofs.YtobhllcnljggiaaGreat
open Go.RowKit
set_option linter.unusedVariables false

/-- A call returns an answer and a number; the answer's lists are the call's own: they stay where the call's own blocks stay. -/
def RpGotS (w : World) (r : Rep) (E : Int) (e : Ending) (w' : World) : Prop :=
  ∃ (Bo Bs Bf : Option Addr) (mo ms mf eo es ef : Nat), e = .returned (.tuple #[.agg #[.int .i64 r.x, .slice Bo mo eo, .slice Bs ms es, .slice Bf mf ef], .int .i64 E]) ∧ (∀ w2 : World, (∀ j, w.heap.size ≤ j → j < w'.heap.size → w2.heap[j]? = w'.heap[j]?) → Repd w2 w2.heap.size r Bo Bs Bf mo ms mf) ∧ Below w.heap.size w w'
theorem RpGotS.exc {w w' : World} {x err : Int} {e : Ending} (h : e = .returned (.tuple #[.agg #[.int .i64 x, .slice none 0 0, .slice none 0 0, .slice none 0 0], .int .i64 err])) (hb : Below w.heap.size w w') : RpGotS w ⟨x, [], [], []⟩ err e w' :=
  ⟨none, none, none, 0, 0, 0, 0, 0, 0, h, fun _ _ => Repd.zero _ _ x, hb⟩
set_option maxHeartbeats 4000000 in
set_option maxRecDepth 100000 in
theorem refGetR_any (q : Req) (Ao As Ap : Option Addr) (lo ls lp co cs cp : Nat) (A : Option Addr) (m cap : Nat) (ys : List Int) (w : World) (h : Asked w w.heap.size q Ao As Ap lo ls lp) (hr : Row .u8 w w.heap.size A ys) (hy : ys.length = m) (hcap : m ≤ cap) (hcb : cap ≤ 9223372036854775807) (hb1 : m ≤ 1000000) (hlp : lp ≤ 100000) :
    Calls Tryz.prog 28 #[.agg #[.int .i64 q.c, .int .i64 q.a, .int .i64 q.n, .slice Ao lo co, .slice As ls cs, .slice Ap lp cp], .slice A m cap] w (RpGotS w (getR q ys) (getRE q ys)) := by
  have t0 := TB.new2 w #[.int .i64 q.c, .int .i64 q.a, .int .i64 q.n, .slice Ao lo co, .slice As ls cs, .slice Ap lp cp] #[.int .i64 0, .slice none 0 0, .slice none 0 0, .slice none 0 0] 26 29
  have HC := Lib.hid (refCheck_any q Ao As Ap lo ls lp co cs cp _ ((h.below t0.bel).more t0.bel.size))
  rw [chkQ_of h] at HC
  by_cases hk : chkQ q = 0
  · rw [hk] at HC
    by_cases hm0 : m = 0
    · subst hm0
      have e : getRE q ys = 1 := by rw [getRE, if_neg (by rw [hk]; simp), if_pos hy]
      rw [e, getR, if_pos (by rw [e]; simp)]
      clear h hr hk
      go_enter Tryz.func28, Tryz.ntmps28
      go_wp2_with fail
      refine HC.out.mono ?_
      rintro e w1 ⟨rfl, b1⟩
      have t1 := t0.below b1
      clear b1 t0 HC
      obtain ⟨d0, d1, d2, d3, d4⟩ := t1.c4
      obtain ⟨r0, r1, r2, r3, r4, r5, r6⟩ := t1.r6
      have P5 := Lib.hid (t1.put4 (.int .i64 0) (.slice none 0 0) (.slice none 0 0) (.slice none 0 0))
      obtain ⟨f0, f1, f2, f3, f4⟩ := t1.c4
      go_wp2
      (try simp only [Exit.inBlock, Exit.then])
      show bodyPost _ _ _ _ _ (put4 (w1) (w.heap.size + 1) (.int .i64 0) (.slice none 0 0) (.slice none 0 0) (.slice none 0 0))
      generalize put4 (w1) (w.heap.size + 1) (.int .i64 0) (.slice none 0 0) (.slice none 0 0) (.slice none 0 0) = w6 at *
      obtain ⟨x0, x1, x2, x3⟩ := cells4 P5.out.1
      refine bodyPost_ret (v := .tuple #[.agg #[.int .i64 0, .slice none 0 0, .slice none 0 0, .slice none 0 0], .int .i64 1]) (by simp [results, Tryz.results28, go_sem, x0, x1, x2, x3]) rfl ?_
      exact RpGotS.exc rfl P5.out.2
    · have hcr := mm_le _ (chk_code hk)
      have H := Lib.hid h
      have HK := Lib.hid hk
      have HR := Lib.hid hr
      have HY := Lib.hid hy
      have HWF := Lib.hid hr.1
      have h3 : q.fl.length % 3 = 0 := by have := h.lp; omega
      have H3 := Lib.hid h3
      have hmp : 0 < m := by omega
      have hmi : ((m : Int) == 0) = false := beq_false_of_ne (by omega)
      obtain ⟨b, o, rfl, hb, hc⟩ := hr.at_ (i := 0) (by omega)
      have hwf := wf_u8 (hr.wf_at (i := 0) (by omega))
      have hA1 := getRE_exc (ys := ys) hk (by omega)
      have hA2 := getRE_ans (ys := ys) hk (by omega)
      have hA3 : nth ys 0 ≠ q.c + 128 → nth ys 0 ≠ q.c → getRE q ys = 20 ∧ getR q ys = ⟨0, [], [], []⟩ := by
        intro g1 g2
        have e : getRE q ys = 20 := by rw [getRE, if_neg (by rw [hk]; simp), if_neg (by omega), if_neg g1, if_neg g2]
        exact ⟨e, by rw [getR, if_pos (by rw [e]; simp)]; rfl⟩
      obtain ⟨y, hy0⟩ : ∃ y, Hid (nth ys 0 = y) := ⟨_, Lib.hid rfl⟩
      rw [hy0.out] at hc hwf hA1 hA2 hA3
      rw [Nat.add_zero] at hc
      have e0 : IntKind.i64.wrap y = y := IntWalk.i64_in _ (by omega)
      have e1 : IntKind.i64.wrap (q.c + 128) = q.c + 128 := IntWalk.i64_in _ (by omega)
      clear h hk hr hy hm0 h3
      by_cases f1 : y = q.c + 128
      · obtain ⟨g1, g2⟩ := hA1 f1
        rw [g1, g2]
        have e2 : (y == q.c + 128) = true := by simp [f1]
        clear f1 hA1 hA2 hA3 g1 g2
        by_cases m1 : m = 1
        · have hE : excE ys = 1 := by have := HY.out; rw [excE, if_pos (by omega)]
          have hR2 : excR ys = ⟨0, [], [], []⟩ := by rw [excR, if_neg (by rw [hE]; simp)]; rfl
          rw [hE, hR2]
          have u1 : ((m : Int) == 1) = true := by simp [m1]
          clear m1 hE hR2
          go_enter Tryz.func28, Tryz.ntmps28
          go_wp2_with fail
          refine HC.out.mono ?_
          rintro e w1 ⟨rfl, b1⟩
          have t1 := t0.below b1
          clear b1 t0 HC
          obtain ⟨d0, d1, d2, d3, d4⟩ := t1.c4
          obtain ⟨r0, r1, r2, r3, r4, r5, r6⟩ := t1.r6
          have hc1 : w1.cell? ⟨b, o, none⟩ = some (.int .u8 y) := (t1.bel.cell (p := ⟨b, o, none⟩) hb).trans hc
          go_wp2_with fail
          go_quiet (fail)
          have t2 := t1.below (bel_drewN w1 nq)
          clear d0 d1 d2 d3 d4 r0 r1 r2 r3 r4 r5 r6 hc1 t1
          generalize w1.drewN nq = w2 at *
          have P5 := Lib.hid (t2.put4 (.int .i64 0) (.slice none 0 0) (.slice none 0 0) (.slice none 0 0))
          obtain ⟨f0, f1, f2, f3, f4⟩ := t2.c4
          go_wp2
          (try simp only [Exit.inBlock, Exit.then])
          show bodyPost _ _ _ _ _ (put4 (w2) (w.heap.size + 1) (.int .i64 0) (.slice none 0 0) (.slice none 0 0) (.slice none 0 0))
          generalize put4 (w2) (w.heap.size + 1) (.int .i64 0) (.slice none 0 0) (.slice none 0 0) (.slice none 0 0) = w6 at *
          obtain ⟨x0, x1, x2, x3⟩ := cells4 P5.out.1
          refine bodyPost_ret (v := .tuple #[.agg #[.int .i64 0, .slice none 0 0, .slice none 0 0, .slice none 0 0], .int .i64 1]) (by simp [results, Tryz.results28, go_sem, x0, x1, x2, x3]) rfl ?_
          exact RpGotS.exc rfl P5.out.2
        · have u1 : ((m : Int) == 1) = false := beq_false_of_ne (by omega)
          by_cases m2 : 2 < m
          · have hE : excE ys = 2 := by have := HY.out; rw [excE, if_neg (by omega), if_pos (by omega)]
            have hR2 : excR ys = ⟨0, [], [], []⟩ := by rw [excR, if_neg (by rw [hE]; simp)]; rfl
            rw [hE, hR2]
            have u2 : (2 : Int) < (m : Int) := by omega
            clear m1 m2 hE hR2
            go_enter Tryz.func28, Tryz.ntmps28
            go_wp2_with fail
            refine HC.out.mono ?_
            rintro e w1 ⟨rfl, b1⟩
            have t1 := t0.below b1
            clear b1 t0 HC
            obtain ⟨d0, d1, d2, d3, d4⟩ := t1.c4
            obtain ⟨r0, r1, r2, r3, r4, r5, r6⟩ := t1.r6
            have hc1 : w1.cell? ⟨b, o, none⟩ = some (.int .u8 y) := (t1.bel.cell (p := ⟨b, o, none⟩) hb).trans hc
            go_wp2_with fail
            go_quiet (fail)
            have t2 := t1.below (bel_drewN w1 nq)
            clear d0 d1 d2 d3 d4 r0 r1 r2 r3 r4 r5 r6 hc1 t1
            generalize w1.drewN nq = w2 at *
            have P5 := Lib.hid (t2.put4 (.int .i64 0) (.slice none 0 0) (.slice none 0 0) (.slice none 0 0))
            obtain ⟨f0, f1, f2, f3, f4⟩ := t2.c4
            go_wp2
            (try simp only [Exit.inBlock, Exit.then])
            show bodyPost _ _ _ _ _ (put4 (w2) (w.heap.size + 1) (.int .i64 0) (.slice none 0 0) (.slice none 0 0) (.slice none 0 0))
            generalize put4 (w2) (w.heap.size + 1) (.int .i64 0) (.slice none 0 0) (.slice none 0 0) (.slice none 0 0) = w6 at *
            obtain ⟨x0, x1, x2, x3⟩ := cells4 P5.out.1
            refine bodyPost_ret (v := .tuple #[.agg #[.int .i64 0, .slice none 0 0, .slice none 0 0, .slice none 0 0], .int .i64 2]) (by simp [results, Tryz.results28, go_sem, x0, x1, x2, x3]) rfl ?_
            exact RpGotS.exc rfl P5.out.2
          · have u2 : ¬ (2 : Int) < (m : Int) := by omega
            have hm2 : m = 2 := by omega
            obtain ⟨b', o', hA, hbx, hcx⟩ := HR.out.at_ (i := 1) (by have := HY.out; omega)
            injection hA with hA
            injection hA with hA1 hA2
            subst hA1 hA2
            have hwx := wf_u8 (HR.out.wf_at (i := 1) (by have := HY.out; omega))
            have hEE : excE ys = if 1 ≤ nth ys 1 ∧ nth ys 1 ≤ 127 then 0 else 3 := by have := HY.out; rw [excE, if_neg (by omega), if_neg (by omega)]
            obtain ⟨x, hx⟩ : ∃ x, Hid (nth ys 1 = x) := ⟨_, Lib.hid rfl⟩
            rw [hx.out] at hcx hwx hEE
            have e4 : IntKind.i64.wrap x = x := IntWalk.i64_in _ (by omega)
            have hmm1 : 1 < m := by omega
            clear m1 m2
            by_cases fx : 1 ≤ x ∧ x ≤ 127
            · have hE : excE ys = 0 := by rw [hEE, if_pos fx]
              have hR2 : excR ys = ⟨x, [], [], []⟩ := by rw [excR, if_pos hE, hx.out]
              rw [hE, hR2]
              have v1 : (x == 0) = false := beq_false_of_ne (by omega)
              have v2 : ¬ (127 < x) := by omega
              clear hE hR2 hEE fx
              go_enter Tryz.func28, Tryz.ntmps28
              go_wp2_with fail
              refine HC.out.mono ?_
              rintro e w1 ⟨rfl, b1⟩
              have t1 := t0.below b1
              clear b1 t0 HC
              obtain ⟨d0, d1, d2, d3, d4⟩ := t1.c4
              obtain ⟨r0, r1, r2, r3, r4, r5, r6⟩ := t1.r6
              have hc1 : w1.cell? ⟨b, o, none⟩ = some (.int .u8 y) := (t1.bel.cell (p := ⟨b, o, none⟩) hb).trans hc
              go_wp2_with fail
              go_quiet (fail)
              have t2 := t1.below (bel_drewN w1 nq)
              clear d0 d1 d2 d3 d4 r0 r1 r2 r3 r4 r5 r6 hc1 t1
              generalize w1.drewN nq = w2 at *
              have hcx1 : w2.cell? ⟨b, o + 1, none⟩ = some (.int .u8 x) := (t2.bel.cell (p := ⟨b, o + 1, none⟩) hbx).trans hcx
              have P5 := Lib.hid (t2.put4 (.int .i64 x) (.slice none 0 0) (.slice none 0 0) (.slice none 0 0))
              obtain ⟨f0, f1, f2, f3, f4⟩ := t2.c4
              go_wp2
              (try simp only [Exit.inBlock, Exit.then])
              show bodyPost _ _ _ _ _ (put4 (w2) (w.heap.size + 1) (.int .i64 x) (.slice none 0 0) (.slice none 0 0) (.slice none 0 0))
              generalize put4 (w2) (w.heap.size + 1) (.int .i64 x) (.slice none 0 0) (.slice none 0 0) (.slice none 0 0) = w6 at *
              obtain ⟨x0, x1, x2, x3⟩ := cells4 P5.out.1
              refine bodyPost_ret (v := .tuple #[.agg #[.int .i64 x, .slice none 0 0, .slice none 0 0, .slice none 0 0], .int .i64 0]) (by simp [results, Tryz.results28, go_sem, x0, x1, x2, x3]) rfl ?_
              exact RpGotS.exc rfl P5.out.2
            · have hE : excE ys = 3 := by rw [hEE, if_neg fx]
              have hR2 : excR ys = ⟨0, [], [], []⟩ := by rw [excR, if_neg (by rw [hE]; simp)]; rfl
              rw [hE, hR2]
              clear hE hR2 hEE
              by_cases x0 : x = 0
              · have v1 : (x == 0) = true := by simp [x0]
                clear fx x0
                go_enter Tryz.func28, Tryz.ntmps28
                go_wp2_with fail
                refine HC.out.mono ?_
                rintro e w1 ⟨rfl, b1⟩
                have t1 := t0.below b1
                clear b1 t0 HC
                obtain ⟨d0, d1, d2, d3, d4⟩ := t1.c4
                obtain ⟨r0, r1, r2, r3, r4, r5, r6⟩ := t1.r6
                have hc1 : w1.cell? ⟨b, o, none⟩ = some (.int .u8 y) := (t1.bel.cell (p := ⟨b, o, none⟩) hb).trans hc
                go_wp2_with fail
                go_quiet (fail)
                have t2 := t1.below (bel_drewN w1 nq)
                clear d0 d1 d2 d3 d4 r0 r1 r2 r3 r4 r5 r6 hc1 t1
                generalize w1.drewN nq = w2 at *
                have hcx1 : w2.cell? ⟨b, o + 1, none⟩ = some (.int .u8 x) := (t2.bel.cell (p := ⟨b, o + 1, none⟩) hbx).trans hcx
                have P5 := Lib.hid (t2.put4 (.int .i64 0) (.slice none 0 0) (.slice none 0 0) (.slice none 0 0))
                obtain ⟨f0, f1, f2, f3, f4⟩ := t2.c4
                go_wp2
                (try simp only [Exit.inBlock, Exit.then])
                show bodyPost _ _ _ _ _ (put4 (w2) (w.heap.size + 1) (.int .i64 0) (.slice none 0 0) (.slice none 0 0) (.slice none 0 0))
                generalize put4 (w2) (w.heap.size + 1) (.int .i64 0) (.slice none 0 0) (.slice none 0 0) (.slice none 0 0) = w6 at *
                obtain ⟨x0, x1, x2, x3⟩ := cells4 P5.out.1
                refine bodyPost_ret (v := .tuple #[.agg #[.int .i64 0, .slice none 0 0, .slice none 0 0, .slice none 0 0], .int .i64 3]) (by simp [results, Tryz.results28, go_sem, x0, x1, x2, x3]) rfl ?_
                exact RpGotS.exc rfl P5.out.2
              · have v1 : (x == 0) = false := beq_false_of_ne x0
                have v2 : 127 < x := by omega
                clear fx x0
                go_enter Tryz.func28, Tryz.ntmps28
                go_wp2_with fail
                refine HC.out.mono ?_
                rintro e w1 ⟨rfl, b1⟩
                have t1 := t0.below b1
                clear b1 t0 HC
                obtain ⟨d0, d1, d2, d3, d4⟩ := t1.c4
                obtain ⟨r0, r1, r2, r3, r4, r5, r6⟩ := t1.r6
                have hc1 : w1.cell? ⟨b, o, none⟩ = some (.int .u8 y) := (t1.bel.cell (p := ⟨b, o, none⟩) hb).trans hc
                go_wp2_with fail
                go_quiet (fail)
                have t2 := t1.below (bel_drewN w1 nq)
                clear d0 d1 d2 d3 d4 r0 r1 r2 r3 r4 r5 r6 hc1 t1
                generalize w1.drewN nq = w2 at *
                have hcx1 : w2.cell? ⟨b, o + 1, none⟩ = some (.int .u8 x) := (t2.bel.cell (p := ⟨b, o + 1, none⟩) hbx).trans hcx
                have P5 := Lib.hid (t2.put4 (.int .i64 0) (.slice none 0 0) (.slice none 0 0) (.slice none 0 0))
                obtain ⟨f0, f1, f2, f3, f4⟩ := t2.c4
                go_wp2
                (try simp only [Exit.inBlock, Exit.then])
                show bodyPost _ _ _ _ _ (put4 (w2) (w.heap.size + 1) (.int .i64 0) (.slice none 0 0) (.slice none 0 0) (.slice none 0 0))
                generalize put4 (w2) (w.heap.size + 1) (.int .i64 0) (.slice none 0 0) (.slice none 0 0) (.slice none 0 0) = w6 at *
                obtain ⟨x0, x1, x2, x3⟩ := cells4 P5.out.1
                refine bodyPost_ret (v := .tuple #[.agg #[.int .i64 0, .slice none 0 0, .slice none 0 0, .slice none 0 0], .int .i64 3]) (by simp [results, Tryz.results28, go_sem, x0, x1, x2, x3]) rfl ?_
                exact RpGotS.exc rfl P5.out.2
      · have e2 : (y == q.c + 128) = false := beq_false_of_ne f1
        by_cases f2 : y = q.c
        · obtain ⟨g1, g2⟩ := hA2 f2
          rw [g1, g2]
          have e3 : (y == q.c) = true := by simp [f2]
          have e3' : (y != q.c) = false := by simp [f2]
          have HF2 := Lib.hid f2
          obtain ⟨S, hS⟩ : ∃ S, Hid (sizeR q = S) := ⟨_, Lib.hid rfl⟩
          have HLEN : Hid (∀ W, Asked W W.heap.size q Ao As Ap lo ls lp → Calls Tryz.prog 59 #[.agg #[.int .i64 q.c, .int .i64 q.a, .int .i64 q.n, .slice Ao lo co, .slice As ls cs, .slice Ap lp cp]] W fun e w' => e = .returned (.int .i64 ((S : Nat) : Int)) ∧ Below W.heap.size W w') := Lib.hid (fun W hW => by rw [← hS.out]; exact refLen_any q Ao As Ap lo ls lp co cs cp W hW HK.out)
          clear f1 f2 hA1 hA2 hA3 g1 g2
          by_cases ms1 : m < S
          · have hE : ansE q ys = 1 := by have := HY.out; have := hS.out; rw [ansE, if_pos (by omega)]
            have hR2 : ansR q ys = ⟨0, [], [], []⟩ := by rw [ansR, if_neg (by rw [hE]; simp)]; rfl
            rw [hE, hR2]
            have u1 : (m : Int) < (S : Int) := by omega
            clear ms1 hE hR2
            go_enter Tryz.func28, Tryz.ntmps28
            go_wp2_with fail
            refine HC.out.mono ?_
            rintro e w1 ⟨rfl, b1⟩
            have t1 := t0.below b1
            clear b1 t0 HC
            obtain ⟨d0, d1, d2, d3, d4⟩ := t1.c4
            obtain ⟨r0, r1, r2, r3, r4, r5, r6⟩ := t1.r6
            have hc1 : w1.cell? ⟨b, o, none⟩ = some (.int .u8 y) := (t1.bel.cell (p := ⟨b, o, none⟩) hb).trans hc
            go_wp2_with fail
            go_quiet (fail)
            have t2 := t1.below (bel_drewN w1 nq)
            clear d0 d1 d2 d3 d4 r0 r1 r2 r3 r4 r5 r6 hc1 t1
            generalize w1.drewN nq = w2 at *
            have hc2 : w2.cell? ⟨b, o, none⟩ = some (.int .u8 y) := (t2.bel.cell (p := ⟨b, o, none⟩) hb).trans hc
            obtain ⟨r0, r1, r2, r3, r4, r5, r6⟩ := t2.r6
            go_wp2_with fail
            go_quiet (fail)
            have t3 := t2.below (bel_drewN w2 nq)
            clear r0 r1 r2 r3 r4 r5 r6 hc2 t2
            generalize w2.drewN nq = w3 at *
            obtain ⟨r0, r1, r2, r3, r4, r5, r6⟩ := t3.r6
            go_wp2_with fail
            refine (HLEN.out _ ((H.out.below t3.bel).more t3.bel.size)).mono ?_
            rintro e w4 ⟨rfl, b4⟩
            have t4 := t3.below b4
            clear b4 t3 r0 r1 r2 r3 r4 r5 r6
            have P5 := Lib.hid (t4.put4 (.int .i64 0) (.slice none 0 0) (.slice none 0 0) (.slice none 0 0))
            obtain ⟨f0, f1, f2, f3, f4⟩ := t4.c4
            go_wp2
            (try simp only [Exit.inBlock, Exit.then])
            show bodyPost _ _ _ _ _ (put4 (w4) (w.heap.size + 1) (.int .i64 0) (.slice none 0 0) (.slice none 0 0) (.slice none 0 0))
            generalize put4 (w4) (w.heap.size + 1) (.int .i64 0) (.slice none 0 0) (.slice none 0 0) (.slice none 0 0) = w6 at *
            obtain ⟨x0, x1, x2, x3⟩ := cells4 P5.out.1
            refine bodyPost_ret (v := .tuple #[.agg #[.int .i64 0, .slice none 0 0, .slice none 0 0, .slice none 0 0], .int .i64 1]) (by simp [results, Tryz.results28, go_sem, x0, x1, x2, x3]) rfl ?_
            exact RpGotS.exc rfl P5.out.2
          · have u1 : ¬ (m : Int) < (S : Int) := by omega
            by_cases ms2 : S < m
            · have hE : ansE q ys = 2 := by have := HY.out; have := hS.out; rw [ansE, if_neg (by omega), if_pos (by omega)]
              have hR2 : ansR q ys = ⟨0, [], [], []⟩ := by rw [ansR, if_neg (by rw [hE]; simp)]; rfl
              rw [hE, hR2]
              have u2 : (S : Int) < (m : Int) := by omega
              clear ms1 ms2 hE hR2
              go_enter Tryz.func28, Tryz.ntmps28
              go_wp2_with fail
              refine HC.out.mono ?_
              rintro e w1 ⟨rfl, b1⟩
              have t1 := t0.below b1
              clear b1 t0 HC
              obtain ⟨d0, d1, d2, d3, d4⟩ := t1.c4
              obtain ⟨r0, r1, r2, r3, r4, r5, r6⟩ := t1.r6
              have hc1 : w1.cell? ⟨b, o, none⟩ = some (.int .u8 y) := (t1.bel.cell (p := ⟨b, o, none⟩) hb).trans hc
              go_wp2_with fail
              go_quiet (fail)
              have t2 := t1.below (bel_drewN w1 nq)
              clear d0 d1 d2 d3 d4 r0 r1 r2 r3 r4 r5 r6 hc1 t1
              generalize w1.drewN nq = w2 at *
              have hc2 : w2.cell? ⟨b, o, none⟩ = some (.int .u8 y) := (t2.bel.cell (p := ⟨b, o, none⟩) hb).trans hc
              obtain ⟨r0, r1, r2, r3, r4, r5, r6⟩ := t2.r6
              go_wp2_with fail
              go_quiet (fail)
              have t3 := t2.below (bel_drewN w2 nq)
              clear r0 r1 r2 r3 r4 r5 r6 hc2 t2
              generalize w2.drewN nq = w3 at *
              obtain ⟨r0, r1, r2, r3, r4, r5, r6⟩ := t3.r6
              go_wp2_with fail
              refine (HLEN.out _ ((H.out.below t3.bel).more t3.bel.size)).mono ?_
              rintro e w4 ⟨rfl, b4⟩
              have t4 := t3.below b4
              clear b4 t3 r0 r1 r2 r3 r4 r5 r6
              obtain ⟨r0, r1, r2, r3, r4, r5, r6⟩ := t4.r6
              go_wp2_with fail
              refine (HLEN.out _ ((H.out.below t4.bel).more t4.bel.size)).mono ?_
              rintro e w5 ⟨rfl, b5⟩
              have t5 := t4.below b5
              clear b5 t4 r0 r1 r2 r3 r4 r5 r6
              have P5 := Lib.hid (t5.put4 (.int .i64 0) (.slice none 0 0) (.slice none 0 0) (.slice none 0 0))
              obtain ⟨f0, f1, f2, f3, f4⟩ := t5.c4
              go_wp2
              (try simp only [Exit.inBlock, Exit.then])
              show bodyPost _ _ _ _ _ (put4 (w5) (w.heap.size + 1) (.int .i64 0) (.slice none 0 0) (.slice none 0 0) (.slice none 0 0))
              generalize put4 (w5) (w.heap.size + 1) (.int .i64 0) (.slice none 0 0) (.slice none 0 0) (.slice none 0 0) = w6 at *
              obtain ⟨x0, x1, x2, x3⟩ := cells4 P5.out.1
              refine bodyPost_ret (v := .tuple #[.agg #[.int .i64 0, .slice none 0 0, .slice none 0 0, .slice none 0 0], .int .i64 2]) (by simp [results, Tryz.results28, go_sem, x0, x1, x2, x3]) rfl ?_
              exact RpGotS.exc rfl P5.out.2
            · have u2 : ¬ (S : Int) < (m : Int) := by omega
              have hms : m = S := by omega
              have HMS : Hid (m = sizeR q) := Lib.hid (by rw [hS.out]; exact hms)
              obtain ⟨u, hu⟩ : ∃ u, Hid (rdOkR q ys = u) := ⟨_, Lib.hid rfl⟩
              have HEU : Hid (ansE q ys = bif u then 0 else 4) := Lib.hid (by
                have := HY.out; have := HMS.out
                rw [ansE, if_neg (by omega), if_neg (by omega), hu.out]
                cases u <;> rfl)
              have HD : Hid (decide (putR q (rdR q ys) = ys) = u) := Lib.hid (by
                have hi := rdOkR_iff HWF.out HK.out H3.out (by rw [HY.out]; exact HMS.out) (by rw [hy0.out]; exact HF2.out)
                rw [hu.out] at hi
                cases u with
                | true => exact decide_eq_true (hi.2 rfl)
                | false => exact decide_eq_false (fun e => by have := hi.1 e; cases this))
              have HPW : Hid (∀ x ∈ putR q (rdR q ys), (Lit.int .u8 x).wf = true) := Lib.hid (putR_wf q (rdR q ys))
              have HPL : Hid ((putR q (rdR q ys)).length ≤ 1000) := Lib.hid (putR_len q (rdR q ys))
              have HRA : Hid (u = true → ansR q ys = rdR q ys) := Lib.hid (fun e => by rw [ansR, if_pos (by rw [HEU.out, e]; rfl)])
              have HRZ : Hid (u = false → ansR q ys = ⟨0, [], [], []⟩) := Lib.hid (fun e => by rw [ansR, if_neg (by rw [HEU.out, e]; simp)]; rfl)
              have hsh := fun W hA hR => refShape_any q Ao As Ap lo ls lp co cs cp (some ⟨b, o, none⟩) m cap ys W hA HK.out hR HY.out HMS.out hcap hcb
              obtain ⟨R, hR⟩ : ∃ R, Hid (rdR q ys = R) := ⟨_, Lib.hid rfl⟩
              rw [hR.out] at HD HPW HPL HRA hsh
              have HSH := Lib.hid hsh
              rw [HEU.out]
              clear ms1 ms2 hms hsh
              go_enter Tryz.func28, Tryz.ntmps28
              go_wp2_with fail
              refine HC.out.mono ?_
              rintro e w1 ⟨rfl, b1⟩
              have t1 := t0.below b1
              clear b1 t0 HC
              obtain ⟨d0, d1, d2, d3, d4⟩ := t1.c4
              obtain ⟨r0, r1, r2, r3, r4, r5, r6⟩ := t1.r6
              have hc1 : w1.cell? ⟨b, o, none⟩ = some (.int .u8 y) := (t1.bel.cell (p := ⟨b, o, none⟩) hb).trans hc
              go_wp2_with fail
              go_quiet (fail)
              have t2 := t1.below (bel_drewN w1 nq)
              clear d0 d1 d2 d3 d4 r0 r1 r2 r3 r4 r5 r6 hc1 t1
              generalize w1.drewN nq = w2 at *
              have hc2 : w2.cell? ⟨b, o, none⟩ = some (.int .u8 y) := (t2.bel.cell (p := ⟨b, o, none⟩) hb).trans hc
              obtain ⟨r0, r1, r2, r3, r4, r5, r6⟩ := t2.r6
              go_wp2_with fail
              go_quiet (fail)
              have t3 := t2.below (bel_drewN w2 nq)
              clear r0 r1 r2 r3 r4 r5 r6 hc2 t2
              generalize w2.drewN nq = w3 at *
              obtain ⟨r0, r1, r2, r3, r4, r5, r6⟩ := t3.r6
              go_wp2_with fail
              refine (HLEN.out _ ((H.out.below t3.bel).more t3.bel.size)).mono ?_
              rintro e w4 ⟨rfl, b4⟩
              have t4 := t3.below b4
              clear b4 t3 r0 r1 r2 r3 r4 r5 r6
              obtain ⟨r0, r1, r2, r3, r4, r5, r6⟩ := t4.r6
              go_wp2_with fail
              refine (HLEN.out _ ((H.out.below t4.bel).more t4.bel.size)).mono ?_
              rintro e w5 ⟨rfl, b5⟩
              have t5 := t4.below b5
              clear b5 t4 r0 r1 r2 r3 r4 r5 r6
              obtain ⟨r0, r1, r2, r3, r4, r5, r6⟩ := t5.r6
              go_wp2_with fail
              refine (HSH.out _ ((H.out.below t5.bel).more t5.bel.size) ((HR.out.below t5.bel).more t5.bel.size)).mono ?_
              rintro e w6' ⟨Bo, Bs, Bf, mo, ms, mf, eo, es, ef, rfl, rd, b6⟩
              have t6 := t5.below b6
              have bA := bel_alloc w6' (.cells #[.int .i64 R.x, .slice Bo mo eo, .slice Bs ms es, .slice Bf mf ef] 29)
              have t7 := t6.below bA
              have RDS := Lib.hid rd
              have RD := Lib.hid (rd _ (fun j _ hj => bA.block j hj))
              have ST : ∀ j, j < w6'.heap.size → (w6'.alloc (.cells #[.int .i64 R.x, .slice Bo mo eo, .slice Bs ms es, .slice Bf mf ef] 29)).heap[j]? = w6'.heap[j]? := fun j hj => bA.block j hj
              have hs7 := bA.size
              have hbox := Lib.hid (heap_alloc_new w6' (.cells #[.int .i64 R.x, .slice Bo mo eo, .slice Bs ms es, .slice Bf mf ef] 29))
              have hz5 := t5.lt
              have hz6 : w.heap.size + 1 < w6'.heap.size := t6.lt
              clear b6 t5 t6 bA rd r0 r1 r2 r3 r4 r5 r6
              obtain ⟨w7, hw7⟩ : ∃ w7, w6'.alloc (.cells #[.int .i64 R.x, .slice Bo mo eo, .slice Bs ms es, .slice Bf mf ef] 29) = w7 := ⟨_, rfl⟩
              obtain ⟨g7, hg7⟩ : ∃ g, w6'.heap.size = g := ⟨_, rfl⟩
              rw [hw7] at t7 RD hbox ST hs7
              have ST := Lib.hid ST
              rw [hg7] at hbox
              obtain ⟨r0, r1, r2, r3, r4, r5, r6⟩ := t7.r6
              obtain ⟨y0, y1, y2, y3⟩ := cells4 hbox.out
              have HP := Lib.hid (refPutR_any q R Ao As Ap Bo Bs Bf lo ls lp co cs cp mo ms mf eo es ef w7 ((H.out.below t7.bel).more t7.bel.size) RD.out hlp)
              go_wp2_with fail
              clear r0 r1 r2 r3 r4 r5 r6 y0 y1 y2 y3
              refine HP.out.mono ?_
              rintro e w8 ⟨v8, rfl, own8, b8⟩
              obtain ⟨A8, n8, c8, rfl, row8, l8⟩ := own8.view3 HPW.out
              have t8 := t7.below b8
              have ST8 := Lib.hid (fun j (hj : j < w6'.heap.size) => (b8.block j (Nat.lt_of_lt_of_le hj hs7)).trans (ST.out j hj))
              have hs8 := b8.size
              have hbox8 := Lib.hid ((b8.block g7 (block_lt hbox.out)).trans hbox.out)
              have HS8 := Lib.hid (same_any_u8 A8 (some ⟨b, o, none⟩) n8 m c8 cap (putR q R) ys w8 _ _ row8 (HR.out.below t8.bel) l8 HY.out (by have := HPL.out; omega))
              rw [HD.out] at HS8
              clear t7 b8 RD hbox own8 row8 l8 HP hw7 hg7
              cases u with
              | true =>
                go_wp2_with fail
                refine HS8.out.mono ?_
                rintro e w9 ⟨rfl, m9, hw9⟩
                have b9 : Below w8.heap.size w8 w9 := by rw [hw9]; exact bel_drewN w8 m9
                have t9 := t8.below b9
                have hs9 := b9.size
                have ST9 := Lib.hid (fun j (hj : j < w6'.heap.size) => (b9.block j (Nat.lt_of_lt_of_le hj (Nat.le_trans hs7 hs8))).trans (ST8.out j hj))
                have hbox9 := Lib.hid ((b9.block g7 (block_lt hbox8.out)).trans hbox8.out)
                clear b9 hw9 t8 hbox8 HS8
                obtain ⟨y0, y1, y2, y3⟩ := cells4 hbox9.out
                obtain ⟨f0, f1, f2, f3, f4⟩ := t9.c4
                have P5 := Lib.hid (t9.put4 (.int .i64 R.x) (.slice Bo mo eo) (.slice Bs ms es) (.slice Bf mf ef))
                have P6 : Hid (∀ j, w5.heap.size ≤ j → j < w6'.heap.size → (put4 w9 (w.heap.size + 1) (.int .i64 R.x) (.slice Bo mo eo) (.slice Bs ms es) (.slice Bf mf ef)).heap[j]? = w6'.heap[j]?) := Lib.hid (fun j h1 h2 => (put4_other (by omega) (.int .i64 R.x) (.slice Bo mo eo) (.slice Bs ms es) (.slice Bf mf ef)).trans (ST9.out j h2))
                have P7 : Hid (w6'.heap.size ≤ (put4 w9 (w.heap.size + 1) (.int .i64 R.x) (.slice Bo mo eo) (.slice Bs ms es) (.slice Bf mf ef)).heap.size) := Lib.hid (by simp [put4, World.setCell]; omega)
                go_wp2
                (try simp only [Exit.inBlock, Exit.then])
                show bodyPost _ _ _ _ _ (put4 (w9) (w.heap.size + 1) (.int .i64 R.x) (.slice Bo mo eo) (.slice Bs ms es) (.slice Bf mf ef))
                generalize put4 (w9) (w.heap.size + 1) (.int .i64 R.x) (.slice Bo mo eo) (.slice Bs ms es) (.slice Bf mf ef) = w6 at *
                obtain ⟨x0, x1, x2, x3⟩ := cells4 P5.out.1
                refine bodyPost_ret (v := .tuple #[.agg #[.int .i64 R.x, .slice Bo mo eo, .slice Bs ms es, .slice Bf mf ef], .int .i64 0]) (by simp [results, Tryz.results28, go_sem, x0, x1, x2, x3]) rfl ?_
                rw [HRA.out (by trivial)]
                exact ⟨Bo, Bs, Bf, mo, ms, mf, eo, es, ef, rfl, (fun v9 hk9 => RDS.out v9 (fun j h1 h2 => (hk9 j (by omega) (by have := P7.out; omega)).trans (P6.out j h1 h2))), P5.out.2⟩
              | false =>
                go_wp2_with fail
                refine HS8.out.mono ?_
                rintro e w9 ⟨rfl, m9, hw9⟩
                have t9 := t8.below (show Below w8.heap.size w8 w9 by rw [hw9]; exact bel_drewN w8 m9)
                clear hw9 t8 hbox8 HS8
                have P5 := Lib.hid (t9.put4 (.int .i64 0) (.slice none 0 0) (.slice none 0 0) (.slice none 0 0))
                obtain ⟨f0, f1, f2, f3, f4⟩ := t9.c4
                go_wp2
                (try simp only [Exit.inBlock, Exit.then])
                show bodyPost _ _ _ _ _ (put4 (w9) (w.heap.size + 1) (.int .i64 0) (.slice none 0 0) (.slice none 0 0) (.slice none 0 0))
                generalize put4 (w9) (w.heap.size + 1) (.int .i64 0) (.slice none 0 0) (.slice none 0 0) (.slice none 0 0) = w6 at *
                obtain ⟨x0, x1, x2, x3⟩ := cells4 P5.out.1
                refine bodyPost_ret (v := .tuple #[.agg #[.int .i64 0, .slice none 0 0, .slice none 0 0, .slice none 0 0], .int .i64 4]) (by simp [results, Tryz.results28, go_sem, x0, x1, x2, x3]) rfl ?_
                rw [HRZ.out (by trivial)]
                exact RpGotS.exc rfl P5.out.2
        · obtain ⟨g1, g2⟩ := hA3 f1 f2
          rw [g1, g2]
          have e3 : (y == q.c) = false := beq_false_of_ne f2
          have e3' : (y != q.c) = true := by simpa using f2
          clear f1 f2 hA1 hA2 hA3 g1 g2
          go_enter Tryz.func28, Tryz.ntmps28
          go_wp2_with fail
          refine HC.out.mono ?_
          rintro e w1 ⟨rfl, b1⟩
          have t1 := t0.below b1
          clear b1 t0 HC
          obtain ⟨d0, d1, d2, d3, d4⟩ := t1.c4
          obtain ⟨r0, r1, r2, r3, r4, r5, r6⟩ := t1.r6
          have hc1 : w1.cell? ⟨b, o, none⟩ = some (.int .u8 y) := (t1.bel.cell (p := ⟨b, o, none⟩) hb).trans hc
          go_wp2_with fail
          go_quiet (fail)
          have t2 := t1.below (bel_drewN w1 nq)
          clear d0 d1 d2 d3 d4 r0 r1 r2 r3 r4 r5 r6 hc1 t1
          generalize w1.drewN nq = w2 at *
          have hc2 : w2.cell? ⟨b, o, none⟩ = some (.int .u8 y) := (t2.bel.cell (p := ⟨b, o, none⟩) hb).trans hc
          obtain ⟨r0, r1, r2, r3, r4, r5, r6⟩ := t2.r6
          go_wp2_with fail
          go_quiet (fail)
          have t3 := t2.below (bel_drewN w2 nq)
          clear r0 r1 r2 r3 r4 r5 r6 hc2 t2
          generalize w2.drewN nq = w3 at *
          have P5 := Lib.hid (t3.put4 (.int .i64 0) (.slice none 0 0) (.slice none 0 0) (.slice none 0 0))
          obtain ⟨f0, f1, f2, f3, f4⟩ := t3.c4
          go_wp2
          (try simp only [Exit.inBlock, Exit.then])
          show bodyPost _ _ _ _ _ (put4 (w3) (w.heap.size + 1) (.int .i64 0) (.slice none 0 0) (.slice none 0 0) (.slice none 0 0))
          generalize put4 (w3) (w.heap.size + 1) (.int .i64 0) (.slice none 0 0) (.slice none 0 0) (.slice none 0 0) = w6 at *
          obtain ⟨x0, x1, x2, x3⟩ := cells4 P5.out.1
          refine bodyPost_ret (v := .tuple #[.agg #[.int .i64 0, .slice none 0 0, .slice none 0 0, .slice none 0 0], .int .i64 20]) (by simp [results, Tryz.results28, go_sem, x0, x1, x2, x3]) rfl ?_
          exact RpGotS.exc rfl P5.out.2
  · have e : getRE q ys = chkQ q := by rw [getRE, if_pos hk]
    rw [e, getR, if_pos (by rw [e]; exact hk)]
    obtain ⟨K, hK⟩ : ∃ K, chkQ q = K := ⟨_, rfl⟩
    rw [hK] at HC hk ⊢
    have u1 : (K != 0) = true := by simpa using hk
    have u2 : (K == 0) = false := beq_false_of_ne hk
    clear h hr hk hK e
    go_enter Tryz.func28, Tryz.ntmps28
    go_wp2_with fail
    refine HC.out.mono ?_
    rintro e w1 ⟨rfl, b1⟩
    have t1 := t0.below b1
    clear b1 t0 HC
    obtain ⟨d0, d1, d2, d3, d4⟩ := t1.c4
    obtain ⟨r0, r1, r2, r3, r4, r5, r6⟩ := t1.r6
    have P5 := Lib.hid (t1.put4 (.int .i64 0) (.slice none 0 0) (.slice none 0 0) (.slice none 0 0))
    obtain ⟨f0, f1, f2, f3, f4⟩ := t1.c4
    go_wp2
    (try simp only [Exit.inBlock, Exit.then])
    show bodyPost _ _ _ _ _ (put4 (w1) (w.heap.size + 1) (.int .i64 0) (.slice none 0 0) (.slice none 0 0) (.slice none 0 0))
    generalize put4 (w1) (w.heap.size + 1) (.int .i64 0) (.slice none 0 0) (.slice none 0 0) (.slice none 0 0) = w6 at *
    obtain ⟨x0, x1, x2, x3⟩ := cells4 P5.out.1
    refine bodyPost_ret (v := .tuple #[.agg #[.int .i64 0, .slice none 0 0, .slice none 0 0, .slice none 0 0], .int .i64 K]) (by simp [results, Tryz.results28, go_sem, x0, x1, x2, x3]) rfl ?_
    exact RpGotS.exc rfl P5.out.2
end Go.Proofs.YtobhllcnljggiaaGreat
namespace Go.Proofs.YtobhllcnljggiaaGreat
open Go.RowKit
set_option linter.unusedVariables false

/-- The box of a request that came in; the lent request and its box; the lent bytes. -/
structure GetSt (w0 : World) (q : Req) (Ao As Ap : Option Addr) (lo ls lp co cs cp go gs gp gx gb : Nat) (x1 : List Int) (w : World) : Prop where
  bx : Bx w0 w0.heap.size (.cells #[.int .i64 q.c, .int .i64 q.a, .int .i64 q.n, .slice Ao lo co, .slice As ls cs, .slice Ap lp cp] 26 (0, 0)) w
  k1 : L.Bk w go (q.on ++ L.marks5)
  k2 : W.Bk w gs (q.set ++ W.marks5)
  k3 : w.heap[gp]? = some (.cells (blk .i64 (q.fl ++ marksP)) 47 (0, 0))
  bxx : w.heap[gx]? = some (.cells #[.int .i64 q.c, .int .i64 q.a, .int .i64 q.n, .slice (some ⟨go, 0, none⟩) lo (lo + 5), .slice (some ⟨gs, 0, none⟩) ls (ls + 5), .slice (some ⟨gp, 0, none⟩) lp (lp + 5)] 26 (0, 0))
  by_ : w.heap[gb]? = some (.cells (blk .u8 (x1 ++ marks5)) 5 (0, 0))
  lent : Asked w w.heap.size q (some ⟨go, 0, none⟩) (some ⟨gs, 0, none⟩) (some ⟨gp, 0, none⟩) lo ls lp
section
variable {w0 w w' : World} {q : Req} {Ao As Ap : Option Addr} {lo ls lp co cs cp go gs gp gx gb : Nat} {x1 : List Int}
theorem GetSt.below (h : GetSt w0 q Ao As Ap lo ls lp co cs cp go gs gp gx gb x1 w) (hb : Below w.heap.size w w') : GetSt w0 q Ao As Ap lo ls lp co cs cp go gs gp gx gb x1 w' where
  bx := h.bx.below hb
  k1 := h.k1.below hb
  k2 := h.k2.below hb
  k3 := (hb.block gp (block_lt h.k3)).trans h.k3
  bxx := (hb.block gx (block_lt h.bxx)).trans h.bxx
  by_ := (hb.block gb (block_lt h.by_)).trans h.by_
  lent := h.lent.upB hb
theorem GetSt.cellsX (h : GetSt w0 q Ao As Ap lo ls lp co cs cp go gs gp gx gb x1 w) : w.cell? ⟨gx, 0, none⟩ = some (.int .i64 q.c) ∧ w.cell? ⟨gx, 1, none⟩ = some (.int .i64 q.a) ∧ w.cell? ⟨gx, 2, none⟩ = some (.int .i64 q.n) ∧ w.cell? ⟨gx, 3, none⟩ = some (.slice (some ⟨go, 0, none⟩) lo (lo + 5)) ∧ w.cell? ⟨gx, 4, none⟩ = some (.slice (some ⟨gs, 0, none⟩) ls (ls + 5)) ∧ w.cell? ⟨gx, 5, none⟩ = some (.slice (some ⟨gp, 0, none⟩) lp (lp + 5)) :=
  ⟨cell_of_row w gx 0 _ _ _ h.bxx, cell_of_row w gx 1 _ _ _ h.bxx, cell_of_row w gx 2 _ _ _ h.bxx, cell_of_row w gx 3 _ _ _ h.bxx, cell_of_row w gx 4 _ _ _ h.bxx, cell_of_row w gx 5 _ _ _ h.bxx⟩
theorem GetSt.row (h : GetSt w0 q Ao As Ap lo ls lp co cs cp go gs gp gx gb x1 w) (hw : ∀ x ∈ x1, (Lit.int .u8 x).wf = true) : Row .u8 w w.heap.size (some ⟨gb, 0, none⟩) x1 :=
  (Row.of_block h.by_ x1 hw (List.prefix_append _ _)).more (block_lt h.by_)
end
/-- An answer whose lists lie in the blocks from lo to hi: it stays where these stay. -/
def StayRep (w : World) (a z : Nat) (r : Rep) (Bo Bs Bf : Option Addr) (mo ms mf : Nat) : Prop := z ≤ w.heap.size ∧ ∀ w2 : World, (∀ j, a ≤ j → j < z → w2.heap[j]? = w.heap[j]?) → Repd w2 w2.heap.size r Bo Bs Bf mo ms mf
theorem StayRep.keep {w w' : World} {a z : Nat} {r : Rep} {Bo Bs Bf : Option Addr} {mo ms mf : Nat} (h : StayRep w a z r Bo Bs Bf mo ms mf) (hs : w.heap.size ≤ w'.heap.size) (hk : ∀ j, a ≤ j → j < z → w'.heap[j]? = w.heap[j]?) : StayRep w' a z r Bo Bs Bf mo ms mf :=
  ⟨Nat.le_trans h.1 hs, fun w2 h2 => h.2 w2 (fun j h3 h4 => (h2 j h3 h4).trans (hk j h3 h4))⟩
theorem StayRep.below {w w' : World} {a z : Nat} {r : Rep} {Bo Bs Bf : Option Addr} {mo ms mf : Nat} (h : StayRep w a z r Bo Bs Bf mo ms mf) (hb : Below w.heap.size w w') : StayRep w' a z r Bo Bs Bf mo ms mf :=
  h.keep hb.size (fun j _ hj => hb.block j (Nat.lt_of_lt_of_le hj h.1))
theorem StayRep.repd {w : World} {a z : Nat} {r : Rep} {Bo Bs Bf : Option Addr} {mo ms mf : Nat} (h : StayRep w a z r Bo Bs Bf mo ms mf) : Repd w w.heap.size r Bo Bs Bf mo ms mf := h.2 w (fun _ _ _ => rfl)
theorem RepK.stay {w : World} {base : Nat} {r : Rep} {Bo Bs Bf : Option Addr} {mo ms mf eo es ef : Nat} (h : RepK w base r Bo Bs Bf mo ms mf eo es ef) (hs : ∀ x ∈ r.set, (Lit.int .u16 x).wf = true) (hf : ∀ xs ∈ r.fs, ∀ x ∈ xs, (Lit.int .u16 x).wf = true) : StayRep w base w.heap.size r Bo Bs Bf mo ms mf :=
  ⟨Nat.le_refl _, fun w2 h2 => (h.keep (Nat.le_refl _) (fun g o hg ho => (h2 g hg (block_lt ho)).trans ho)).repd hs hf⟩
/-- The second answer, the document's, and their boxes. -/
structure Res2 (w : World) (R : Rep) (a2 z2 a3 z3 g2 g3 : Nat) (Eo Es Ef Do Ds Df : Option Addr) (mo ms mf ho hs hf jo js jf : Nat) : Prop where
  t2 : StayRep w a2 z2 R Eo Es Ef mo ms mf
  t3 : StayRep w a3 z3 R Do Ds Df mo ms mf
  b2 : w.heap[g2]? = some (.cells #[.int .i64 R.x, .slice Eo mo ho, .slice Es ms hs, .slice Ef mf hf] 29 (0, 0))
  b3 : w.heap[g3]? = some (.cells #[.int .i64 R.x, .slice Do mo jo, .slice Ds ms js, .slice Df mf jf] 29 (0, 0))
theorem Res2.keep {w w' : World} {R : Rep} {a2 z2 a3 z3 g2 g3 : Nat} {Eo Es Ef Do Ds Df : Option Addr} {mo ms mf ho hs hf jo js jf : Nat} (h : Res2 w R a2 z2 a3 z3 g2 g3 Eo Es Ef Do Ds Df mo ms mf ho hs hf jo js jf) (z : Nat) (l2 : z ≤ a2) (l3 : z ≤ a3) (l4 : z ≤ g2) (l5 : z ≤ g3) (hsz : w.heap.size ≤ w'.heap.size) (hk : ∀ j, z ≤ j → j < w.heap.size → w'.heap[j]? = w.heap[j]?) : Res2 w' R a2 z2 a3 z3 g2 g3 Eo Es Ef Do Ds Df mo ms mf ho hs hf jo js jf :=
  ⟨h.t2.keep hsz (fun j h1 h2 => hk j (by omega) (Nat.lt_of_lt_of_le h2 h.t2.1)), h.t3.keep hsz (fun j h1 h2 => hk j (by omega) (Nat.lt_of_lt_of_le h2 h.t3.1)), (hk g2 l4 (block_lt h.b2)).trans h.b2, (hk g3 l5 (block_lt h.b3)).trans h.b3⟩
theorem Res2.below {w w' : World} {R : Rep} {a2 z2 a3 z3 g2 g3 : Nat} {Eo Es Ef Do Ds Df : Option Addr} {mo ms mf ho hs hf jo js jf : Nat} (h : Res2 w R a2 z2 a3 z3 g2 g3 Eo Es Ef Do Ds Df mo ms mf ho hs hf jo js jf) (hb : Below w.heap.size w w') : Res2 w' R a2 z2 a3 z3 g2 g3 Eo Es Ef Do Ds Df mo ms mf ho hs hf jo js jf :=
  h.keep 0 (Nat.zero_le _) (Nat.zero_le _) (Nat.zero_le _) (Nat.zero_le _) hb.size (fun j _ hj => hb.block j hj)
/-- The first answer, its lists and its box. -/
structure Res1 (w : World) (R : Rep) (B z g1 : Nat) (Co Cs Cf : Option Addr) (mo ms mf ko ks kf : Nat) : Prop where
  k1 : RepK w B R Co Cs Cf mo ms mf ko ks kf
  sp : SpK w B z Co Cs Cf mo ms mf ko ks kf
  hz : z ≤ w.heap.size
  b1 : w.heap[g1]? = some (.cells #[.int .i64 R.x, .slice Co mo ko, .slice Cs ms ks, .slice Cf mf kf] 29 (0, 0))
theorem Res1.below {w w' : World} {R : Rep} {B z g1 : Nat} {Co Cs Cf : Option Addr} {mo ms mf ko ks kf : Nat} (h : Res1 w R B z g1 Co Cs Cf mo ms mf ko ks kf) (hb : Below w.heap.size w w') : Res1 w' R B z g1 Co Cs Cf mo ms mf ko ks kf :=
  ⟨h.k1.below hb, h.sp.keep (fun j _ hj => hb.block j (Nat.lt_of_lt_of_le hj h.hz)), Nat.le_trans h.hz hb.size, (hb.block g1 (block_lt h.b1)).trans h.b1⟩
theorem getR_bound {q : Req} {ys : List Int} (hl : ys.length ≤ 70000) : ((getR q ys).on.length ≤ 2000 ∧ (getR q ys).set.length ≤ 70000) ∧ (getR q ys).fs.length ≤ 35 ∧ ∀ i, i < (getR q ys).fs.length → (nthF (getR q ys).fs i).length ≤ 70000 := by
  by_cases h : getRE q ys = 0
  · obtain ⟨⟨h1, h2⟩, h3, h4⟩ := getR_len h
    exact ⟨⟨h1, by omega⟩, h3, fun i hi => by have := h4 i hi; omega⟩
  · rw [getR_zero h]
    exact ⟨⟨by simp [Rep.zero], by simp [Rep.zero]⟩, by simp [Rep.zero], fun i hi => by simp [Rep.zero] at hi⟩

set_option maxHeartbeats 4000000 in
set_option maxRecDepth 100000 in
theorem walk_ReplyGets (q : Req) (Ao As Ap : Option Addr) (lo ls lp co cs cp : Nat) (a1 : Option Addr) (l1 c1 : Nat) (x1 : List Int) (w : World) (h : Asked w w.heap.size q Ao As Ap lo ls lp) (hi : (Lit.int .i64 q.c).wf = true ∧ (Lit.int .i64 q.a).wf = true ∧ (Lit.int .i64 q.n).wf = true)
    (w1 : Row .u8 w w.heap.size a1 x1) (n1 : x1.length = l1) (s1 : l1 ≤ c1) (m1 : c1 ≤ 140737488351232) :
    Calls Tryz.prog 9 #[.agg #[.int .i64 q.c, .int .i64 q.a, .int .i64 q.n, .slice Ao lo co, .slice As ls cs, .slice Ap lp cp], .slice a1 l1 c1] w fun e w' => e = .returned (.bool true) ∧ Below w.heap.size w w' := by
  have bx := Bx.new w (.cells #[.int .i64 q.c, .int .i64 q.a, .int .i64 q.n, .slice Ao lo co, .slice As ls cs, .slice Ap lp cp] 26)
  have H0 := Lib.hid h
  have HW := Lib.hid w1
  have HN := Lib.hid n1
  have HWF := Lib.hid w1.1
  clear h hi w1 n1
  by_cases hlong : 70000 < lo ∨ 70000 < ls ∨ 70000 < lp
  · have hlong' := Lib.hid hlong
    clear hlong
    go_enter Tryz.func9, Tryz.ntmps9
    go_wp2_with fail
    refine (LongAsk_yes q.c q.a q.n Ao As Ap lo co ls cs lp cp _ hlong'.out).mono ?_
    rintro e w1 ⟨rfl, b1⟩
    have bel1 := (bx.below b1).2
    go_wp2_with fail
    refine (works_yes _).mono ?_
    rintro e w2 ⟨rfl, b2⟩
    go_wp2
    go_ret
    exact ⟨rfl, bel1.trans (b2.mono bel1.size)⟩
  have hlo : lo ≤ 70000 := by omega
  have hls : ls ≤ 70000 := by omega
  have hlp : lp ≤ 70000 := by omega
  clear hlong
  by_cases hmore : 70000 < l1
  · have hm2 : (70000 : Int) < (l1 : Int) := by omega
    go_enter Tryz.func9, Tryz.ntmps9
    go_wp2_with fail
    refine (LongAsk_no q.c q.a q.n Ao As Ap lo co ls cs lp cp _ hlo hls hlp).mono ?_
    rintro e w1 ⟨rfl, b1⟩
    have bel1 := (bx.below b1).2
    go_wp2_with fail
    refine (works_yes _).mono ?_
    rintro e w2 ⟨rfl, b2⟩
    go_wp2
    go_ret
    exact ⟨rfl, bel1.trans (b2.mono bel1.size)⟩
  have hm2 : ¬ (70000 : Int) < (l1 : Int) := by omega
  have hRW := getR_wf (q := q) HWF.out
  have hRB := getR_bound (q := q) (ys := x1) (by rw [HN.out]; omega)
  obtain ⟨R, hR⟩ : ∃ R, Hid (getR q x1 = R) := ⟨_, Lib.hid rfl⟩
  obtain ⟨E, hE⟩ : ∃ E, Hid (getRE q x1 = E) := ⟨_, Lib.hid rfl⟩
  rw [hR.out] at hRW hRB
  have HRW := Lib.hid hRW
  have HRB := Lib.hid hRB
  have tE : (E != E) = false := by simp
  clear hRW hRB
  go_enter Tryz.func9, Tryz.ntmps9
  go_wp2_with fail
  refine (LongAsk_no q.c q.a q.n Ao As Ap lo co ls cs lp cp _ hlo hls hlp).mono ?_
  rintro e w1 ⟨rfl, b1⟩
  have bx1 := bx.below b1
  clear bx b1
  obtain ⟨d0, d1, d2, d3, d4, d5⟩ := bx1.six
  have hz1 := bx1.lt
  go_wp2_with fail
  clear d0 d1 d2 d3 d4 d5
  refine (LentAsk_any q Ao As Ap lo ls lp co cs cp w1 ((H0.out.below bx1.2).more (Nat.le_of_lt bx1.lt)) hlo hls hlp).mono ?_
  rintro e w2 ⟨go, gs, gp, rfl, k1, k2, k3, b2⟩
  have bx2 := bx1.below b2
  have hgp := block_lt k3
  have HA2 : Hid (Asked w2 w2.heap.size q (some ⟨go, 0, none⟩) (some ⟨gs, 0, none⟩) (some ⟨gp, 0, none⟩) lo ls lp) := Lib.hid
    ⟨k1.row q.on (fun _ _ => rfl) (List.prefix_append _ _), k2.row q.set H0.out.set.1 (List.prefix_append _ _), (Row.of_block k3 q.fl H0.out.fl.1 (List.prefix_append _ _)).more hgp, H0.out.lo, H0.out.ls, H0.out.lp⟩
  have bA := bel_alloc w2 (.cells #[.int .i64 q.c, .int .i64 q.a, .int .i64 q.n, .slice (some ⟨go, 0, none⟩) lo (lo + 5), .slice (some ⟨gs, 0, none⟩) ls (ls + 5), .slice (some ⟨gp, 0, none⟩) lp (lp + 5)] 26)
  have bx3 := bx2.below bA
  have K1 := Lib.hid (k1.below bA)
  have K2 := Lib.hid (k2.below bA)
  have K3 := Lib.hid ((bA.block gp hgp).trans k3)
  have HA3 := Lib.hid (HA2.out.upB bA)
  have gX := heap_alloc_new w2 (.cells #[.int .i64 q.c, .int .i64 q.a, .int .i64 q.n, .slice (some ⟨go, 0, none⟩) lo (lo + 5), .slice (some ⟨gs, 0, none⟩) ls (ls + 5), .slice (some ⟨gp, 0, none⟩) lp (lp + 5)] 26)
  clear bx1 b2 k1 k2 k3 hgp HA2 bA bx2
  obtain ⟨gx, hgx⟩ : ∃ g, w2.heap.size = g := ⟨_, rfl⟩
  rw [hgx] at gX
  obtain ⟨w3, hw3⟩ : ∃ w', w2.alloc (.cells #[.int .i64 q.c, .int .i64 q.a, .int .i64 q.n, .slice (some ⟨go, 0, none⟩) lo (lo + 5), .slice (some ⟨gs, 0, none⟩) ls (ls + 5), .slice (some ⟨gp, 0, none⟩) lp (lp + 5)] 26) = w' := ⟨_, rfl⟩
  rw [hw3] at bx3 K1 K2 K3 HA3 gX
  have GX := Lib.hid gX
  clear gX
  go_wp2_with fail
  refine (lent_u8 a1 l1 c1 x1 w3 ((HW.out.below bx3.2).more (Nat.le_of_lt bx3.lt)) HN.out (by omega)).mono ?_
  rintro e w4' ⟨rfl, rfl⟩
  have bA := bel_alloc w3 (.cells (blk .u8 (x1 ++ marks5)) 5)
  have gB := heap_alloc_new w3 (.cells (blk .u8 (x1 ++ marks5)) 5)
  obtain ⟨gb, hgb⟩ : ∃ g, w3.heap.size = g := ⟨_, rfl⟩
  have st : Hid (GetSt w q Ao As Ap lo ls lp co cs cp go gs gp gx w3.heap.size x1 (w3.alloc (.cells (blk .u8 (x1 ++ marks5)) 5))) := Lib.hid
    ⟨bx3.below bA, K1.out.below bA, K2.out.below bA, (bA.block gp (block_lt K3.out)).trans K3.out, (bA.block gx (block_lt GX.out)).trans GX.out, gB, HA3.out.upB bA⟩
  clear bx3 K1 K2 K3 HA3 GX bA gB hw3 hgx
  rw [hgb] at st
  rw [hgb]
  obtain ⟨w4, hw4⟩ : ∃ w', w3.alloc (.cells (blk .u8 (x1 ++ marks5)) 5) = w' := ⟨_, rfl⟩
  rw [hw4] at st
  have s4 := st.out
  clear st hgb
  -- the program's Get
  obtain ⟨x0, x1', x2, x3, x4, x5⟩ := s4.cellsX
  have HG := Lib.hid (rpGet_any q (some ⟨go, 0, none⟩) (some ⟨gs, 0, none⟩) (some ⟨gp, 0, none⟩) lo ls lp (lo + 5) (ls + 5) (lp + 5) (some ⟨gb, 0, none⟩) l1 (l1 + 5) x1 w4 s4.lent (s4.row HWF.out) HN.out (by omega) (by omega))
  rw [hR.out, hE.out] at HG
  go_wp2_with fail
  clear x0 x1' x2 x3 x4 x5
  refine HG.out.mono ?_
  rintro e w5 ⟨Co, Cs, Cf, mo, ms, mf, ko, ks, kf, rfl, rk, b5⟩
  have bA := bel_alloc w5 (.cells #[.int .i64 R.x, .slice Co mo ko, .slice Cs ms ks, .slice Cf mf kf] 29)
  have hmo : mo ≤ 2000 := by have := (rk.repd HRW.out.1 HRW.out.2).mo; have := HRB.out; omega
  have hms : ms ≤ 70000 := by have := (rk.repd HRW.out.1 HRW.out.2).ms; have := HRB.out; omega
  have hmf : mf ≤ 35 := by have := (rk.repd HRW.out.1 HRW.out.2).mf; have := HRB.out; omega
  have HMF : Hid (R.fs.length = mf) := Lib.hid (rk.repd HRW.out.1 HRW.out.2).mf
  have HMO : Hid (R.on.length = mo) := Lib.hid (rk.repd HRW.out.1 HRW.out.2).mo
  have HMS : Hid (R.set.length = ms) := Lib.hid (rk.repd HRW.out.1 HRW.out.2).ms
  have HSH : Hid (∀ i, i < mf → (nthF R.fs i).length ≤ 70368744177664) := Lib.hid (fun i hi => by have := HRB.out.2.2 i (by rw [HMF.out]; exact hi); omega)
  have r1 : Hid (Res1 (w5.alloc (.cells #[.int .i64 R.x, .slice Co mo ko, .slice Cs ms ks, .slice Cf mf kf] 29)) R w4.heap.size w5.heap.size w5.heap.size Co Cs Cf mo ms mf ko ks kf) := Lib.hid
    ⟨rk.below bA, (rk.spk (by have := HRB.out; omega) (by have := HRB.out; omega) (fun i hi => by have := HRB.out.2.2 i hi; omega)).keep (fun j _ hj => bA.block j hj), bA.size, heap_alloc_new w5 (.cells #[.int .i64 R.x, .slice Co mo ko, .slice Cs ms ks, .slice Cf mf kf] 29)⟩
  have bb6 := b5.trans (bA.mono b5.size)
  have s6 := s4.below bb6
  have hs5 := b5.size
  have hs6 : (w5.alloc (.cells #[.int .i64 R.x, .slice Co mo ko, .slice Cs ms ks, .slice Cf mf kf] 29)).heap.size = w5.heap.size + 1 := by simp
  clear HG rk b5 bA
  obtain ⟨z, hz⟩ : ∃ z, w5.heap.size = z := ⟨_, rfl⟩
  obtain ⟨w6, hw6⟩ : ∃ w', w5.alloc (.cells #[.int .i64 R.x, .slice Co mo ko, .slice Cs ms ks, .slice Cf mf kf] 29) = w' := ⟨_, rfl⟩
  rw [hw6] at r1 bb6 s6 hs6
  rw [hz] at r1 hs5 hs6
  -- once more
  obtain ⟨x0, x1', x2, x3, x4, x5⟩ := s6.cellsX
  have HG := Lib.hid (rpGet_any q (some ⟨go, 0, none⟩) (some ⟨gs, 0, none⟩) (some ⟨gp, 0, none⟩) lo ls lp (lo + 5) (ls + 5) (lp + 5) (some ⟨gb, 0, none⟩) l1 (l1 + 5) x1 w6 s6.lent (s6.row HWF.out) HN.out (by omega) (by omega))
  rw [hR.out, hE.out] at HG
  go_wp2_with fail
  clear x0 x1' x2 x3 x4 x5
  refine HG.out.mono ?_
  rintro e w7 ⟨Eo, Es, Ef, mo2, ms2, mf2, ho, hs, hf, rfl, rk, b7⟩
  obtain rfl : mo = mo2 := HMO.out.symm.trans (rk.repd HRW.out.1 HRW.out.2).mo
  obtain rfl : ms = ms2 := HMS.out.symm.trans (rk.repd HRW.out.1 HRW.out.2).ms
  obtain rfl : mf = mf2 := HMF.out.symm.trans (rk.repd HRW.out.1 HRW.out.2).mf
  have bA := bel_alloc w7 (.cells #[.int .i64 R.x, .slice Eo mo ho, .slice Es ms hs, .slice Ef mf hf] 29)
  have T2 := Lib.hid ((rk.stay HRW.out.1 HRW.out.2).below bA)
  have G2 := Lib.hid (heap_alloc_new w7 (.cells #[.int .i64 R.x, .slice Eo mo ho, .slice Es ms hs, .slice Ef mf hf] 29))
  have b68 := b7.trans (bA.mono b7.size)
  have bb8 := bb6.trans (b68.mono bb6.size)
  have s8 := s6.below b68
  have r1 := Lib.hid (r1.out.below b68)
  have hs7 := b7.size
  have hs8 : (w7.alloc (.cells #[.int .i64 R.x, .slice Eo mo ho, .slice Es ms hs, .slice Ef mf hf] 29)).heap.size = w7.heap.size + 1 := by simp
  clear HG rk b7 bA b68 bb6 s6 hw6 hz
  obtain ⟨z7, hz7⟩ : ∃ z, w7.heap.size = z := ⟨_, rfl⟩
  obtain ⟨w8, hw8⟩ : ∃ w', w7.alloc (.cells #[.int .i64 R.x, .slice Eo mo ho, .slice Es ms hs, .slice Ef mf hf] 29) = w' := ⟨_, rfl⟩
  rw [hw8] at r1 bb8 s8 hs8 T2 G2
  rw [hz7] at hs7 hs8 T2 G2
  -- the document's
  obtain ⟨d0, d1, d2, d3, d4, d5⟩ := s8.bx.six
  have HG := Lib.hid (refGetR_any q Ao As Ap lo ls lp co cs cp a1 l1 c1 x1 w8 ((H0.out.below s8.bx.2).more (Nat.le_of_lt s8.bx.lt)) ((HW.out.below s8.bx.2).more (Nat.le_of_lt s8.bx.lt)) HN.out s1 (by omega) (by omega) (by omega))
  rw [hR.out, hE.out] at HG
  go_wp2_with fail
  clear d0 d1 d2 d3 d4 d5
  refine HG.out.mono ?_
  rintro e w9 ⟨Do, Ds, Df, mo3, ms3, mf3, jo, js, jf, rfl, st3, b9⟩
  obtain rfl : mo = mo3 := HMO.out.symm.trans (st3 w9 (fun _ _ _ => rfl)).mo
  obtain rfl : ms = ms3 := HMS.out.symm.trans (st3 w9 (fun _ _ _ => rfl)).ms
  obtain rfl : mf = mf3 := HMF.out.symm.trans (st3 w9 (fun _ _ _ => rfl)).mf
  have bA := bel_alloc w9 (.cells #[.int .i64 R.x, .slice Do mo jo, .slice Ds ms js, .slice Df mf jf] 29)
  have T3 : StayRep w9 w8.heap.size w9.heap.size R Do Ds Df mo ms mf := ⟨Nat.le_refl _, st3⟩
  have T3 := T3.below bA
  have b810 := b9.trans (bA.mono b9.size)
  have r2 : Hid (Res2 (w9.alloc (.cells #[.int .i64 R.x, .slice Do mo jo, .slice Ds ms js, .slice Df mf jf] 29)) R w6.heap.size z7 w8.heap.size w9.heap.size z7 w9.heap.size Eo Es Ef Do Ds Df mo ms mf ho hs hf jo js jf) := Lib.hid
    ⟨T2.out.below b810, T3, (b810.block z7 (block_lt G2.out)).trans G2.out, heap_alloc_new w9 (.cells #[.int .i64 R.x, .slice Do mo jo, .slice Ds ms js, .slice Df mf jf] 29)⟩
  have bb10 := bb8.trans (b810.mono bb8.size)
  have s10 := s8.below b810
  have r1 := Lib.hid (r1.out.below b810)
  have hs9 := b9.size
  clear HG st3 b9 bA b810 bb8 s8 hw8 hz7 T3 T2 G2
  obtain ⟨z9, hz9⟩ : ∃ z, w9.heap.size = z := ⟨_, rfl⟩
  obtain ⟨w10, hw10⟩ : ∃ w', w9.alloc (.cells #[.int .i64 R.x, .slice Do mo jo, .slice Ds ms js, .slice Df mf jf] 29) = w' := ⟨_, rfl⟩
  rw [hw10] at r1 bb10 s10 r2
  rw [hz9] at r2 hs9
  obtain ⟨y0, y1, y2, y3⟩ := cells4 r1.out.b1
  obtain ⟨v0, v1, v2, v3⟩ := cells4 r2.out.b3
  have RA := Lib.hid (r1.out.k1.repd HRW.out.1 HRW.out.2)
  have RB := Lib.hid r2.out.t3.repd
  go_wp2_with fail
  clear y0 y1 y2 y3 v0 v1 v2 v3
  refine (SameReply_yes R.x R.on R.set R.fs Co Cs Cf Do Ds Df mo ms mf ko ks kf jo js jf w10 RA.out.on RA.out.set RB.out.on RB.out.set RA.out.fs RB.out.fs HMO.out HMS.out HMF.out (by omega) (by omega) (by omega) HSH.out).mono ?_
  rintro e w11 ⟨rfl, b11⟩
  have r1 := Lib.hid (r1.out.below b11)
  have r2 := Lib.hid (r2.out.below b11)
  have s11 := s10.below b11
  have bb11 := bb10.trans (b11.mono bb10.size)
  clear RA RB b11 bb10 s10 hw10 hz9
  obtain ⟨y0, y1, y2, y3⟩ := cells4 r2.out.b2
  obtain ⟨v0, v1, v2, v3⟩ := cells4 r2.out.b3
  have RA := Lib.hid r2.out.t2.repd
  have RB := Lib.hid r2.out.t3.repd
  go_wp2_with fail
  clear y0 y1 y2 y3 v0 v1 v2 v3
  refine (SameReply_yes R.x R.on R.set R.fs Eo Es Ef Do Ds Df mo ms mf ho hs hf jo js jf w11 RA.out.on RA.out.set RB.out.on RB.out.set RA.out.fs RB.out.fs HMO.out HMS.out HMF.out (by omega) (by omega) (by omega) HSH.out).mono ?_
  rintro e w12 ⟨rfl, b12⟩
  have r1 := Lib.hid (r1.out.below b12)
  have r2 := Lib.hid (r2.out.below b12)
  have s12 := s11.below b12
  have bb12 := bb11.trans (b12.mono bb11.size)
  clear RA RB b12 bb11 s11
  obtain ⟨x0, x1', x2, x3, x4, x5⟩ := s12.cellsX
  obtain ⟨d0, d1, d2, d3, d4, d5⟩ := s12.bx.six
  go_wp2_with fail
  clear x0 x1' x2 x3 x4 x5 d0 d1 d2 d3 d4 d5
  refine (KeptAsk_yes q Ao As Ap lo ls lp co cs cp go gs gp w12 ((H0.out.below s12.bx.2).more (Nat.le_of_lt s12.bx.lt)) s12.k1 s12.k2 s12.k3 hlo hls hlp).mono ?_
  rintro e w13 ⟨rfl, b13⟩
  have r1 := Lib.hid (r1.out.below b13)
  have r2 := Lib.hid (r2.out.below b13)
  have s13 := s12.below b13
  have bb13 := bb12.trans (b13.mono bb12.size)
  clear b13 bb12 s12
  go_wp2_with fail
  refine (kept_u8 a1 l1 c1 gb x1 w13 w.heap.size (HW.out.below s13.bx.2) HN.out (by omega) s13.by_).mono ?_
  rintro e w14 ⟨rfl, m14, hw14⟩
  have b14 : Below w13.heap.size w13 w14 := by rw [hw14]; exact bel_drewN w13 m14
  have r1 := Lib.hid (r1.out.below b14)
  have r2 := Lib.hid (r2.out.below b14)
  have s14 := s13.below b14
  have bb14 := bb13.trans (b14.mono bb13.size)
  clear hw14 b14 bb13 s13
  obtain ⟨y0, y1, y2, y3⟩ := cells4 r1.out.b1
  go_wp2_with fail
  clear y0 y1 y2 y3
  refine (SpoilReply_any R.x w4.heap.size z Co Cs Cf mo ms mf ko ks kf w14 r1.out.sp hs5 r1.out.hz (by omega)).mono ?_
  rintro e w15 ⟨rfl, b15, k15⟩
  have r2 := Lib.hid (r2.out.keep (w' := w15) z (by omega) (by omega) (by omega) (by omega) b15.size k15)
  have bb15 := bb14.trans b15
  have s15 := s4.below bb15
  clear r1 b15 k15 bb14 s14
  obtain ⟨y0, y1, y2, y3⟩ := cells4 r2.out.b2
  obtain ⟨v0, v1, v2, v3⟩ := cells4 r2.out.b3
  have RA := Lib.hid r2.out.t2.repd
  have RB := Lib.hid r2.out.t3.repd
  go_wp2_with fail
  clear y0 y1 y2 y3 v0 v1 v2 v3
  refine (SameReply_yes R.x R.on R.set R.fs Eo Es Ef Do Ds Df mo ms mf ho hs hf jo js jf w15 RA.out.on RA.out.set RB.out.on RB.out.set RA.out.fs RB.out.fs HMO.out HMS.out HMF.out (by omega) (by omega) (by omega) HSH.out).mono ?_
  rintro e w16 ⟨rfl, b16⟩
  have s16 := s15.below b16
  clear RA RB b16 s15 bb15 r2
  obtain ⟨x0, x1', x2, x3, x4, x5⟩ := s16.cellsX
  obtain ⟨d0, d1, d2, d3, d4, d5⟩ := s16.bx.six
  go_wp2_with fail
  clear x0 x1' x2 x3 x4 x5 d0 d1 d2 d3 d4 d5
  refine (KeptAsk_yes q Ao As Ap lo ls lp co cs cp go gs gp w16 ((H0.out.below s16.bx.2).more (Nat.le_of_lt s16.bx.lt)) s16.k1 s16.k2 s16.k3 hlo hls hlp).mono ?_
  rintro e w17 ⟨rfl, b17⟩
  have s17 := s16.below b17
  clear b17 s16
  go_wp2_with fail
  refine (kept_u8 a1 l1 c1 gb x1 w17 w.heap.size (HW.out.below s17.bx.2) HN.out (by omega) s17.by_).mono ?_
  rintro e w18 ⟨rfl, m18, hw18⟩
  have s18 := s17.below (w' := w18) (by rw [hw18]; exact bel_drewN w17 m18)
  clear hw18 s17
  go_wp2_with fail
  refine (works_yes _).mono ?_
  rintro e w19 ⟨rfl, b19⟩
  go_wp2
  go_ret
  exact ⟨rfl, s18.bx.2.trans (b19.mono (Nat.le_of_lt s18.bx.lt))⟩
end Go.Proofs.YtobhllcnljggiaaGreat
namespace Go.Proofs.YtobhllcnljggiaaGreat
open Go.RowKit
set_option linter.unusedVariables false

theorem chkQ_ne_one (q : Req) : chkQ q ≠ 1 := by
  unfold chkQ chk
  repeat' split
  all_goals first | omega | (unfold ptsE; repeat' split) <;> omega

set_option maxHeartbeats 2000000 in
set_option maxRecDepth 100000 in
theorem walk_ReplyExceptions (q : Req) (Ao As Ap : Option Addr) (lo ls lp co cs cp : Nat) (x : Int) (w : World) (h : Asked w w.heap.size q Ao As Ap lo ls lp) (hi : (Lit.int .i64 q.c).wf = true ∧ (Lit.int .i64 q.a).wf = true ∧ (Lit.int .i64 q.n).wf = true) (wx : (Lit.int .i64 x).wf = true) :
    Calls Tryz.prog 11 #[.agg #[.int .i64 q.c, .int .i64 q.a, .int .i64 q.n, .slice Ao lo co, .slice As ls cs, .slice Ap lp cp], .int .i64 x] w fun e w' => e = .returned (.bool true) ∧ Below w.heap.size w w' := by
  have bx := Bx.new w (.cells #[.int .i64 q.c, .int .i64 q.a, .int .i64 q.n, .slice Ao lo co, .slice As ls cs, .slice Ap lp cp] 26)
  have H := Lib.hid (h.upAlloc (.cells #[.int .i64 q.c, .int .i64 q.a, .int .i64 q.n, .slice Ao lo co, .slice As ls cs, .slice Ap lp cp] 26))
  have hxw := wf_i64 wx
  clear h hi wx
  by_cases hlong : 70000 < lo ∨ 70000 < ls ∨ 70000 < lp
  · have hlong' := Lib.hid hlong
    clear hlong
    go_enter Tryz.func11, Tryz.ntmps11
    go_wp2_with fail
    refine (LongAsk_yes q.c q.a q.n Ao As Ap lo co ls cs lp cp _ hlong'.out).mono ?_
    rintro e w1 ⟨rfl, b1⟩
    have bel1 := (bx.below b1).2
    go_wp2_with fail
    refine (works_yes _).mono ?_
    rintro e w2 ⟨rfl, b2⟩
    go_wp2
    go_ret
    exact ⟨rfl, bel1.trans (b2.mono bel1.size)⟩
  have hlo : lo ≤ 70000 := by omega
  have hls : ls ≤ 70000 := by omega
  have hlp : lp ≤ 70000 := by omega
  clear hlong
  obtain ⟨k, hk⟩ : ∃ k, Hid (chkQ q = k) := ⟨_, Lib.hid rfl⟩
  have hk1 : k ≠ 1 := by rw [← hk.out]; exact chkQ_ne_one q
  have HCR : Hid (∀ W, Asked W W.heap.size q Ao As Ap lo ls lp → Calls Tryz.prog 15 #[.agg #[.int .i64 q.c, .int .i64 q.a, .int .i64 q.n, .slice Ao lo co, .slice As ls cs, .slice Ap lp cp], .agg #[.int .i64 x, .slice none 0 0, .slice none 0 0, .slice none 0 0]] W fun e w' => e = .returned (.int .i64 (chkR q ⟨x, [], [], []⟩)) ∧ Below W.heap.size W w') :=
    Lib.hid (fun W h => rpCheck_any q ⟨x, [], [], []⟩ Ao As Ap none none none lo ls lp co cs cp 0 0 0 0 0 0 W h (Repd.zero _ _ x) (by omega))
  go_enter Tryz.func11, Tryz.ntmps11
  go_wp2_with fail
  refine (LongAsk_no q.c q.a q.n Ao As Ap lo co ls cs lp cp _ hlo hls hlp).mono ?_
  rintro e w1 ⟨rfl, b1⟩
  have bx1 := bx.below b1
  have H1 := Lib.hid (H.out.up b1)
  clear bx b1 H
  obtain ⟨d0, d1, d2, d3, d4, d5⟩ := bx1.six
  have hz1 := bx1.lt
  go_wp2_with fail
  clear d0 d1 d2 d3 d4 d5
  by_cases hk0 : k = 0
  · subst hk0
    refine (rpGet_none q Ao As Ap lo ls lp co cs cp none 0 _ H1.out hk.out).mono ?_
    rintro e w2 ⟨Bo, Bs, Bf, mo, ms, mf, eo, es, ef, rfl, hrep, b2⟩
    have bx2 := bx1.below b2
    have H2 := Lib.hid ((H1.out.up b2).upAlloc (.cells #[.int .i64 Rep.zero.x, .slice Bo mo eo, .slice Bs ms es, .slice Bf mf ef] 29))
    have bx3 := bx2.alloc (.cells #[.int .i64 Rep.zero.x, .slice Bo mo eo, .slice Bs ms es, .slice Bf mf ef] 29)
    obtain ⟨E, hE⟩ : ∃ E, Hid (chkR q ⟨x, [], [], []⟩ = E) := ⟨_, Lib.hid rfl⟩
    clear hk1 hrep bx1 b2 H1 bx2
    obtain ⟨d0, d1, d2, d3, d4, d5⟩ := bx3.six
    by_cases hin : x < 1 ∨ 127 < x
    · have HE3 : Hid (x = 0 ∨ E = 3) := Lib.hid (by
        by_cases hx0 : x = 0
        · exact .inl hx0
        · right
          rw [← hE.out]; unfold chkR
          rw [if_neg (show ¬ chkQ q ≠ 0 by rw [hk.out]; simp), if_pos (show (⟨x, [], [], []⟩ : Rep).x ≠ 0 from hx0), if_neg (show ¬ (1 ≤ (⟨x, [], [], []⟩ : Rep).x ∧ (⟨x, [], [], []⟩ : Rep).x ≤ 127) by simp only; omega)])
      by_cases hx0 : x = 0
      · subst hx0
        clear hin
        go_wp2_with fail
        clear d0 d1 d2 d3 d4 d5
        refine (HCR.out _ H2.out).mono ?_
        rintro e w3 ⟨rfl, b3⟩
        rw [hE.out]
        have bx4 := bx3.below b3
        clear bx3 b3
        go_wp2_with fail
        refine (works_yes _).mono ?_
        rintro e w4 ⟨rfl, b4⟩
        go_wp2
        go_ret
        exact ⟨rfl, bx4.2.trans (b4.mono bx4.2.size)⟩
      · obtain rfl : E = 3 := by rcases HE3.out with h | h <;> omega
        have v0 : (x == 0) = false := beq_false_of_ne hx0
        by_cases hx1 : x < 1
        · clear hin hx0
          go_wp2_with fail
          clear d0 d1 d2 d3 d4 d5
          refine (HCR.out _ H2.out).mono ?_
          rintro e w3 ⟨rfl, b3⟩
          rw [hE.out]
          have bx4 := bx3.below b3
          clear bx3 b3
          go_wp2_with fail
          refine (works_yes _).mono ?_
          rintro e w4 ⟨rfl, b4⟩
          go_wp2
          go_ret
          exact ⟨rfl, bx4.2.trans (b4.mono bx4.2.size)⟩
        · have hx2 : 127 < x := by omega
          clear hin hx0
          go_wp2_with fail
          clear d0 d1 d2 d3 d4 d5
          refine (HCR.out _ H2.out).mono ?_
          rintro e w3 ⟨rfl, b3⟩
          rw [hE.out]
          have bx4 := bx3.below b3
          clear bx3 b3
          go_wp2_with fail
          refine (works_yes _).mono ?_
          rintro e w4 ⟨rfl, b4⟩
          go_wp2
          go_ret
          exact ⟨rfl, bx4.2.trans (b4.mono bx4.2.size)⟩
    · have hx1 : ¬ x < 1 := by omega
      have hx2 : ¬ 127 < x := by omega
      have HXR := Lib.hid (show 1 ≤ x ∧ x ≤ 127 by omega)
      obtain rfl : E = 0 := by
        rw [← hE.out]; unfold chkR
        rw [if_neg (show ¬ chkQ q ≠ 0 by rw [hk.out]; simp), if_pos (show (⟨x, [], [], []⟩ : Rep).x ≠ 0 by simp only; omega), if_pos (show 1 ≤ (⟨x, [], [], []⟩ : Rep).x ∧ (⟨x, [], [], []⟩ : Rep).x ≤ 127 by simp only; omega)]
        rfl
      clear hin
      go_wp2_with fail
      clear d0 d1 d2 d3 d4 d5
      refine (HCR.out _ H2.out).mono ?_
      rintro e w3 ⟨rfl, b3⟩
      rw [hE.out]
      have bx4 := bx3.below b3
      have H4 := Lib.hid (H2.out.up b3)
      clear bx3 b3 H2
      obtain ⟨d0, d1, d2, d3, d4, d5⟩ := bx4.six
      go_wp2_with fail
      clear d0 d1 d2 d3 d4 d5
      refine (rpPut_exc q Ao As Ap lo ls lp co cs cp x _ H4.out (by omega) hk.out HXR.out).mono ?_
      rintro e w5 ⟨g, hg, rfl, hb, b5⟩
      have bx5 := bx4.below b5
      have H5 := Lib.hid (H4.out.up b5)
      have hcr := Lib.hid (mm_le _ (chk_code hk.out))
      have hwf : Hid (∀ z ∈ [q.c + 128, x], (Lit.int .u8 z).wf = true) := Lib.hid (by
        intro z hz
        simp only [List.mem_cons, List.not_mem_nil, or_false] at hz
        have h1 := hcr.out
        have h2 := HXR.out
        rcases hz with rfl | rfl
        · have := wf_byte (q.c + 128).toNat (by omega); rwa [show (((q.c + 128).toNat : Nat) : Int) = q.c + 128 by omega] at this
        · have := wf_byte z.toNat (by omega); rwa [show ((z.toNat : Nat) : Int) = z by omega] at this)
      have R5 := Lib.hid ((Row.of_block hb [q.c + 128, x] hwf.out (List.prefix_refl _)).more (block_lt hb))
      have HB5 := Lib.hid hb
      clear bx4 b5 H4 hb
      obtain ⟨d0, d1, d2, d3, d4, d5⟩ := bx5.six
      go_wp2_with fail
      clear d0 d1 d2 d3 d4 d5
      refine (rpGet_exc q Ao As Ap lo ls lp co cs cp (some ⟨g, 0, none⟩) 2 x _ H5.out hk.out R5.out HXR.out).mono ?_
      rintro e w6 ⟨Co, Cs, Cf, no, ns, nf, fo, fs, ff, rfl, hrep6, b6⟩
      obtain rfl : no = 0 := hrep6.mo.symm
      obtain rfl : ns = 0 := hrep6.ms.symm
      obtain rfl : nf = 0 := hrep6.mf.symm
      have bx6 := bx5.below b6
      have HB6 := (b6.block g (block_lt HB5.out)).trans HB5.out
      have bx7 := bx6.alloc (.cells #[.int .i64 x, .slice Co 0 fo, .slice Cs 0 fs, .slice Cf 0 ff] 29)
      have HB7 := (heap_alloc_old w6 (.cells #[.int .i64 x, .slice Co 0 fo, .slice Cs 0 fs, .slice Cf 0 ff] 29) (block_lt HB6)).trans HB6
      have c1 : (w6.alloc (.cells #[.int .i64 x, .slice Co 0 fo, .slice Cs 0 fs, .slice Cf 0 ff] 29)).cell? ⟨g, 1, none⟩ = some (.int .u8 x) := cell_of_row _ g 1 _ _ _ HB7
      have ex1 : IntKind.i64.wrap x = x := IntWalk.i64_in _ (by omega)
      have ex2 : (x == x) = true := by simp
      have bel7 := bx7.2
      clear bx5 b6 H5 bx6 HB6 HB7 hrep6 bx7
      go_wp2_with fail
      refine (SameReply_flat x [] [] Co Cs Cf none none none 0 0 fo fs ff 0 0 0 _ (L.Row.nil _ _ _ _) (Row.nil _ _ _ _) (L.Row.nil _ _ _ _) (Row.nil _ _ _ _) rfl rfl (by omega) (by omega)).mono ?_
      rintro e w8 ⟨rfl, b8⟩
      have bel8 := bel7.trans (b8.mono bel7.size)
      go_wp2_with fail
      refine (works_yes _).mono ?_
      rintro e w9 ⟨rfl, b9⟩
      go_wp2
      go_ret
      exact ⟨rfl, bel8.trans (b9.mono bel8.size)⟩
  · have HE : Hid (chkR q ⟨x, [], [], []⟩ = k) := Lib.hid (by unfold chkR; rw [if_pos (show chkQ q ≠ 0 by rw [hk.out]; exact hk0)]; exact hk.out)
    have u1 : (k != 1) = true := by simpa using hk1
    have u2 : (k == 1) = false := beq_false_of_ne hk1
    have u3 : (k == k) = true := by simp
    refine (rpGet_bad q Ao As Ap lo ls lp co cs cp none 0 0 _ H1.out (by rw [hk.out]; exact hk0)).mono ?_
    rintro e w2 ⟨Bo, Bs, Bf, mo, ms, mf, eo, es, ef, rfl, hrep, b2⟩
    rw [hk.out]
    have bx2 := bx1.below b2
    have H2 := Lib.hid ((H1.out.up b2).upAlloc (.cells #[.int .i64 Rep.zero.x, .slice Bo mo eo, .slice Bs ms es, .slice Bf mf ef] 29))
    have bx3 := bx2.alloc (.cells #[.int .i64 Rep.zero.x, .slice Bo mo eo, .slice Bs ms es, .slice Bf mf ef] 29)
    clear hk0 hk1 hrep bx1 b2 H1 bx2
    obtain ⟨d0, d1, d2, d3, d4, d5⟩ := bx3.six
    go_wp2_with fail
    clear d0 d1 d2 d3 d4 d5
    refine (HCR.out _ H2.out).mono ?_
    rintro e w3 ⟨rfl, b3⟩
    rw [HE.out]
    have bx4 := bx3.below b3
    clear bx3 b3
    go_wp2_with fail
    refine (works_yes _).mono ?_
    rintro e w4 ⟨rfl, b4⟩
    go_wp2
    go_ret
    exact ⟨rfl, bx4.2.trans (b4.mono bx4.2.size)⟩
end Go.Proofs.YtobhllcnljggiaaGreat
