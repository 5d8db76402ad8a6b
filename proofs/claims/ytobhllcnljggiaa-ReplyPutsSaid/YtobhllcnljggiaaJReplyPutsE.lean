/-
  Texts of the proof of ReplyPuts, joined.
-/
import Derived.Test.YtobhllcnljggiaaJReplyPutsD
import Derived.Test.YtobhllcnljggiaaJReplyPutsA
import Derived.Test.YtobhllcnljggiaaJReplyPutsC
import Derived.Laws.AppendOwn
import Derived.Deep.RegionHeld3
namespace Go.Proofs.Ytobhllcnljggiaa
open Go.RowKit
set_option linter.unusedVariables false

set_option maxHeartbeats 1000000 in
theorem rpPut_words (q : Req) (r : Rep) (Ao As Ap Bo Bs Bf : Option Addr) (lo ls lp co cs cp mo ms mf eo es ef : Nat) (w : World) (h : Asked w w.heap.size q Ao As Ap lo ls lp) (hr : Repd w w.heap.size r Bo Bs Bf mo ms mf) (hb : lp ≤ 100000) (hk : chkR q r = 0) (hx : r.x = 0) (hc : q.c = 3 ∨ q.c = 4) (hm : ms ≤ 125) :
    Calls Try.prog 11 #[.agg #[.int .i64 q.c, .int .i64 q.a, .int .i64 q.n, .slice Ao lo co, .slice As ls cs, .slice Ap lp cp], .agg #[.int .i64 r.x, .slice Bo mo eo, .slice Bs ms es, .slice Bf mf ef]] w fun e w' => ∃ v', e = .returned (.tuple #[v', .int .i64 0]) ∧ Own .u8 5 w' w.heap.size v' (q.c :: 2 * (ms : Int) :: wbytes r.set) ∧ Below w.heap.size w w' := by
  have t0 := TB.new2 w #[.int .i64 q.c, .int .i64 q.a, .int .i64 q.n, .slice Ao lo co, .slice As ls cs, .slice Ap lp cp] #[.int .i64 r.x, .slice Bo mo eo, .slice Bs ms es, .slice Bf mf ef] 26 29
  have hsz : w.heap.size ≤ ((w.alloc (.cells #[.int .i64 q.c, .int .i64 q.a, .int .i64 q.n, .slice Ao lo co, .slice As ls cs, .slice Ap lp cp] 26)).alloc (.cells #[.int .i64 r.x, .slice Bo mo eo, .slice Bs ms es, .slice Bf mf ef] 29)).heap.size := t0.bel.size
  have H := Lib.hid ((h.below t0.bel).more hsz)
  have HR := Lib.hid ((hr.below t0.bel).more hsz)
  have HC := Lib.hid (rpCheck_any q r Ao As Ap Bo Bs Bf lo ls lp co cs cp mo ms mf eo es ef _ H.out HR.out hb)
  rw [hk] at HC
  have u1 : (r.x != 0) = false := by simp [hx]
  have u2 : (r.x == 0) = true := by simp [hx]
  have HCC := Lib.hid hc
  clear h hr hk hx hc
  go_enter Try.func11, Try.ntmps11
  go_wp2_with fail
  refine HC.out.mono ?_
  rintro e w1 ⟨rfl, b1⟩
  have t1 := t0.below b1
  have hlt := t1.lt
  have HF := Lib.hid (rpForm_words q r Ao As Ap Bo Bs Bf lo ls lp co cs cp mo ms mf eo es ef w1 (H.out.up b1) (HR.out.up b1) HCC.out hm)
  clear b1 t0 HC hsz
  obtain ⟨d0, d1, d2, d3, d4⟩ := t1.c4
  obtain ⟨r0, r1, r2, r3, r4, r5, r6⟩ := t1.r6
  go_wp2_with fail
  refine HF.out.mono ?_
  rintro e w2 ⟨v2, rfl, own2, b2⟩
  have t2 := t1.below b2
  go_wp2
  go_ret2
  exact ⟨_, rfl, own2.mono (by omega), t2.bel⟩

set_option maxHeartbeats 1000000 in
theorem rpSize_words (c a : Int) (n : Nat) (Ao As Ap : Option Addr) (lo co ls cs lp cp : Nat) (w : World) (hc : c = 3 ∨ c = 4) (hn : n ≤ 1000) :
    Calls Try.prog 75 #[.agg #[.int .i64 c, .int .i64 a, .int .i64 n, .slice Ao lo co, .slice As ls cs, .slice Ap lp cp]] w fun e w' => e = .returned (.int .i64 ((2 + 2 * n : Nat) : Int)) ∧ Below w.heap.size w w' := by
  have e1 : IntKind.i64.wrap (2 * (n : Int)) = 2 * (n : Int) := IntWalk.i64_in _ (by omega)
  have e2 : IntKind.i64.wrap (2 + 2 * (n : Int)) = 2 + 2 * (n : Int) := IntWalk.i64_in _ (by omega)
  rw [show ((2 + 2 * n : Nat) : Int) = 2 + 2 * (n : Int) by omega]
  have bel := bel_alloc w (.cells #[.int .i64 c, .int .i64 a, .int .i64 n, .slice Ao lo co, .slice As ls cs, .slice Ap lp cp] 26)
  rcases hc with rfl | rfl
  all_goals
    go_enter Try.func75, Try.ntmps75
    go_wp2
    go_ret
    exact ⟨rfl, bel⟩

theorem taker_any (A : Option Addr) (n c : Nat) (w : World) :
    Calls Try.prog 94 #[.slice A n c] w fun e w' => e = .returned (.func (.func 99) #[] #[.pointer (some ⟨w.heap.size, 0, none⟩)]) ∧ w' = w.alloc (.cells #[.slice A n c] 34) := by
  go_enter Try.func94, Try.ntmps94
  go_wp2
  go_ret
  exact ⟨rfl, rfl⟩

theorem take_at (b o n c k g : Nat) (z : Int) (hz : z = k) (w : World) (hg : w.heap[g]? = some (.cells #[.slice (some ⟨b, o, none⟩) n c] 34 (0, 0))) (hn : n ≤ c) (hk : k ≤ n) (hb : c ≤ 9223372036854775807) :
    Calls Try.prog 99 #[.int .i64 z, .pointer (some ⟨g, 0, none⟩)] w fun e w' => e = .returned (.slice (some ⟨b, o, none⟩) k c) ∧ ∃ A', (k < c → A' = some ⟨b, o + k, none⟩) ∧ w' = w.setCell ⟨g, 0, none⟩ (.slice A' (n - k) (c - k)) := by
  subst hz; exact take_any b o n c k g w hg hn hk hb
theorem TB.far {w0 w : World} {B g : Nat} {o1 o2 : Obj} (h : TB w0 B o1 o2 w) (hg : B + 1 < g) (i : Nat) (v : Value) : TB w0 B o1 o2 (w.setCell ⟨g, i, none⟩ v) :=
  ⟨(Below.heap_setCell w ⟨g, i, none⟩ v B (by simp; omega)).trans h.ret, (Below.heap_setCell w ⟨g, i, none⟩ v (B + 1) (by simp; omega)).trans h.box, below_setCell h.bel (by omega) i v⟩
theorem put4_other {w : World} {g j : Nat} (h : j ≠ g) (v0 v1 v2 v3 : Value) : (put4 w g v0 v1 v2 v3).heap[j]? = w.heap[j]? := by
  unfold put4
  rw [Below.heap_setCell _ ⟨g, 3, none⟩ v3 j (by simpa using h), Below.heap_setCell _ ⟨g, 2, none⟩ v2 j (by simpa using h), Below.heap_setCell _ ⟨g, 1, none⟩ v1 j (by simpa using h), Below.heap_setCell _ ⟨g, 0, none⟩ v0 j (by simpa using h)]

set_option maxHeartbeats 2000000 in
set_option maxRecDepth 100000 in
theorem rpRead_words (c a : Int) (n : Nat) (Ao As Ap : Option Addr) (lo co ls cs lp cp : Nat) (b o m cap : Nat) (ys : List Int) (w : World) (hc : c = 3 ∨ c = 4) (hr : Row .u8 w w.heap.size (some ⟨b, o, none⟩) ys) (hy : ys.length = m) (hm : m = 2 + 2 * n) (hn : 1 ≤ n ∧ n ≤ 125) (hcap : m ≤ cap) (hcb : cap ≤ 9223372036854775807) (h1 : nth ys 1 = 2 * (n : Int)) :
    Calls Try.prog 76 #[.agg #[.int .i64 c, .int .i64 a, .int .i64 n, .slice Ao lo co, .slice As ls cs, .slice Ap lp cp], .slice (some ⟨b, o, none⟩) m cap] w fun e w' => ∃ g, w.heap.size ≤ g ∧ e = .returned (.tuple #[.agg #[.int .i64 0, .slice none 0 0, .slice (some ⟨g, 0, none⟩) n n, .slice none 0 0], .bool true]) ∧ w'.heap[g]? = some (.cells (blk .u16 (wwords (ys.drop 2))) 75 (0, 0)) ∧ Below w.heap.size w w' := by
  have HR := Lib.hid hr
  have HY := Lib.hid hy
  have HM := Lib.hid hm
  have HW : Hid (wrB c = false) := Lib.hid (decide_eq_false (by omega))
  obtain ⟨b', o', hA, hbB, hcell⟩ := hr.at_ (i := 1) (by omega)
  injection hA with hA
  injection hA with hA1 hA2
  subst hA1 hA2
  rw [h1] at hcell
  have t0 := TB.new2 w #[.int .i64 c, .int .i64 a, .int .i64 n, .slice Ao lo co, .slice As ls cs, .slice Ap lp cp] #[.int .i64 0, .slice none 0 0, .slice none 0 0, .slice none 0 0] 26 29
  have e0 : IntKind.i64.wrap (2 * (n : Int)) = 2 * (n : Int) := IntWalk.i64_in _ (by omega)
  have em : (m : Int) - 2 = 2 * (n : Int) := by omega
  have em1 : IntKind.i64.wrap ((m : Int) - 2) = 2 * (n : Int) := by rw [IntWalk.i64_in _ (by omega)]; omega
  have tn : (2 * (n : Int) != 2 * (n : Int)) = false := by simp
  have hm2 : 1 < m := by omega
  have HC1 := Lib.hid hcell
  clear hr hy hm h1 hcell
  rcases hc with rfl | rfl
  all_goals
    go_enter Try.func76, Try.ntmps76
    go_wp2_with fail
    refine (Writes_any _ a n Ao As Ap lo co ls cs lp cp _).mono ?_
    rintro e w1 ⟨rfl, b1⟩
    rw [HW.out]
    have t1 := t0.below b1
    clear t0 b1
    go_wp2_with fail
    refine (taker_any (some ⟨b, o, none⟩) m cap _).mono ?_
    rintro e w2' ⟨rfl, rfl⟩
    have t2 := t1.alloc (.cells #[.slice (some ⟨b, o, none⟩) m cap] 34)
    have hg2 := Lib.hid (heap_alloc_new w1 (.cells #[.slice (some ⟨b, o, none⟩) m cap] 34))
    have hz := t1.lt
    generalize w1.heap.size = g at *
    clear t1
    generalize w1.alloc (.cells #[.slice (some ⟨b, o, none⟩) m cap] 34) = w2 at *
    go_wp2_with fail
    refine (take_any b o m cap 2 g _ hg2.out hcap (by omega) hcb).mono ?_
    rintro e w3' ⟨rfl, A', hA', rfl⟩
    obtain rfl := hA' (by have := HM.out; omega)
    clear hA'
    have t3 := t2.far hz 0 (.slice (some ⟨b, o + 2, none⟩) (m - 2) (cap - 2))
    have hg3 : (w2.setCell ⟨g, 0, none⟩ (.slice (some ⟨b, o + 2, none⟩) (m - 2) (cap - 2))).heap[g]? = some (.cells #[.slice (some ⟨b, o + 2, none⟩) (m - 2) (cap - 2)] 34 (0, 0)) := box_set hg2.out 0 _
    have hc3 := (t3.bel.cell (p := ⟨b, o + 1, none⟩) hbB).trans HC1.out
    clear t2 hg2
    generalize w2.setCell ⟨g, 0, none⟩ (.slice (some ⟨b, o + 2, none⟩) (m - 2) (cap - 2)) = w3 at *
    have HG3 := Lib.hid hg3
    clear hg3
    obtain ⟨d0, d1, d2, d3, d4⟩ := t3.c4
    obtain ⟨r0, r1, r2, r3, r4, r5, r6⟩ := t3.r6
    go_wp2_with fail
    refine (take_at b (o + 2) (m - 2) (cap - 2) (2 * n) g _ (by omega) _ HG3.out (by omega) (by have := HM.out; omega) (by omega)).mono ?_
    rintro e w4' ⟨rfl, A', _, rfl⟩
    have t4 := t3.far hz 0 (.slice A' (m - 2 - 2 * n) (cap - 2 - 2 * n))
    have hz4 := t4.lt
    have HR4 := Lib.hid (((HR.out.drop 2).tb t4).more (Nat.le_of_lt (Nat.lt_of_succ_lt hz4)))
    clear t3 hc3 d0 d1 d2 d3 d4 r0 r1 r2 r3 r4 r5 r6 HG3
    generalize w3.setCell ⟨g, 0, none⟩ (.slice A' (m - 2 - 2 * n) (cap - 2 - 2 * n)) = w4 at *
    go_wp2_with fail
    refine (Words_ok _ (2 * n) (cap - 2) n (ys.drop 2) _ HR4.out (by rw [List.length_drop, HY.out, HM.out]; omega) (by have := HM.out; omega) (by omega) rfl).mono ?_
    rintro e w5' ⟨rfl, rfl⟩
    have t5 := t4.alloc (.cells (blk .u16 (wwords (ys.drop 2))) 75)
    have hn5 := Lib.hid (heap_alloc_new w4 (.cells (blk .u16 (wwords (ys.drop 2))) 75))
    clear t4 HR4
    generalize w4.heap.size = g5 at *
    generalize w4.alloc (.cells (blk .u16 (wwords (ys.drop 2))) 75) = w5 at *
    have P5 := Lib.hid (t5.put4 (.int .i64 0) (.slice none 0 0) (.slice (some ⟨g5, 0, none⟩) n n) (.slice none 0 0))
    have P6 := Lib.hid ((put4_other (w := w5) (g := w.heap.size + 1) (j := g5) (by omega) (.int .i64 0) (.slice none 0 0) (.slice (some ⟨g5, 0, none⟩) n n) (.slice none 0 0)).trans hn5.out)
    obtain ⟨d0, d1, d2, d3, d4⟩ := t5.c4
    go_wp2
    (try simp only [Exit.inBlock, Exit.then])
    show bodyPost _ _ _ _ _ (put4 (w5) (w.heap.size + 1) (.int .i64 0) (.slice none 0 0) (.slice (some ⟨g5, 0, none⟩) n n) (.slice none 0 0))
    generalize put4 (w5) (w.heap.size + 1) (.int .i64 0) (.slice none 0 0) (.slice (some ⟨g5, 0, none⟩) n n) (.slice none 0 0) = w6 at *
    obtain ⟨x0, x1, x2, x3⟩ := cells4 P5.out.1
    refine bodyPost_ret (v := .tuple #[.agg #[.int .i64 0, .slice none 0 0, .slice (some ⟨g5, 0, none⟩) n n, .slice none 0 0], .bool true]) (by simp [results, Try.results76, go_sem, x0, x1, x2, x3]) rfl ?_
    exact ⟨g5, by omega, rfl, P6.out, P5.out.2⟩
end Go.Proofs.Ytobhllcnljggiaa
namespace Go.Proofs.Ytobhllcnljggiaa
open Go.RowKit
set_option linter.unusedVariables false

set_option maxHeartbeats 2000000 in
set_option maxRecDepth 100000 in
theorem rpAnswer_words (q : Req) (n : Nat) (Ao As Ap : Option Addr) (lo co ls cs lp cp : Nat) (b o m cap : Nat) (ys : List Int) (w : World) (hc : q.c = 3 ∨ q.c = 4) (hr : Row .u8 w w.heap.size (some ⟨b, o, none⟩) ys) (hy : ys.length = m) (hm : m = 2 + 2 * n) (hn : 1 ≤ n ∧ n ≤ 125) (hcap : m ≤ cap) (hcb : cap ≤ 9223372036854775807) (h1 : nth ys 1 = 2 * (n : Int)) :
    Calls Try.prog 50 #[.agg #[.int .i64 q.c, .int .i64 q.a, .int .i64 n, .slice Ao lo co, .slice As ls cs, .slice Ap lp cp], .slice (some ⟨b, o, none⟩) m cap] w fun e w' => ∃ g, w.heap.size ≤ g ∧ e = .returned (.tuple #[.agg #[.int .i64 0, .slice none 0 0, .slice (some ⟨g, 0, none⟩) n n, .slice none 0 0], .int .i64 0]) ∧ w'.heap[g]? = some (.cells (blk .u16 (wwords (ys.drop 2))) 75 (0, 0)) ∧ Below w.heap.size w w' := by
  have HR := Lib.hid hr
  have t0 := TB.new2 w #[.int .i64 q.c, .int .i64 q.a, .int .i64 n, .slice Ao lo co, .slice As ls cs, .slice Ap lp cp] #[.int .i64 0, .slice none 0 0, .slice none 0 0, .slice none 0 0] 26 29
  have HM := Lib.hid hm
  have HC := Lib.hid hc
  have HY := Lib.hid hy
  have H1 := Lib.hid h1
  have HS : Hid (∀ W, Calls Try.prog 73 #[.slice (some ⟨b, o, none⟩) m cap, .int .i64 ((2 + 2 * n : Nat) : Int)] W fun e w' => e = .returned (.int .i64 0) ∧ w' = W) := Lib.hid (fun W => (checkSize_any (some ⟨b, o, none⟩) m cap ((2 + 2 * n : Nat) : Int) W).mono fun e w' h => ⟨h.1.trans (by rw [if_neg (by omega), if_neg (by omega)]), h.2⟩)
  clear hr hm hc hy h1
  go_enter Try.func50, Try.ntmps50
  go_wp2_with fail
  refine (rpSize_words q.c q.a n Ao As Ap lo co ls cs lp cp _ HC.out (by omega)).mono ?_
  rintro e w1 ⟨rfl, b1⟩
  have t1 := t0.below b1
  clear t0 b1
  obtain ⟨d0, d1, d2, d3, d4⟩ := t1.c4
  obtain ⟨r0, r1, r2, r3, r4, r5, r6⟩ := t1.r6
  go_wp2_with fail
  refine (HS.out _).mono ?_
  rintro e w1' ⟨rfl, hw1⟩
  rw [hw1]
  clear hw1
  go_wp2_with fail
  clear d0 d1 d2 d3 d4 r0 r1 r2 r3 r4 r5 r6
  refine (rpRead_words q.c q.a n Ao As Ap lo co ls cs lp cp b o m cap ys _ HC.out ((HR.out.tb t1).more (Nat.le_of_lt (Nat.lt_of_succ_lt t1.lt))) HY.out HM.out hn hcap hcb H1.out).mono ?_
  rintro e w2 ⟨g, hg, rfl, hb, b2⟩
  have t2 := t1.below b2
  have hz1 := t1.lt
  have t3 := t2.alloc (.cells #[.int .i64 0, .slice none 0 0, .slice (some ⟨g, 0, none⟩) n n, .slice none 0 0] 29)
  have hb3 := Lib.hid ((heap_alloc_old w2 (.cells #[.int .i64 0, .slice none 0 0, .slice (some ⟨g, 0, none⟩) n n, .slice none 0 0] 29) (block_lt hb)).trans hb)
  have hx3 := heap_alloc_new w2 (.cells #[.int .i64 0, .slice none 0 0, .slice (some ⟨g, 0, none⟩) n n, .slice none 0 0] 29)
  clear t1 b2 t2 hb
  have P5 := Lib.hid (t3.put4 (.int .i64 0) (.slice none 0 0) (.slice (some ⟨g, 0, none⟩) n n) (.slice none 0 0))
  have P6 := Lib.hid ((put4_other (w := w2.alloc (.cells #[.int .i64 0, .slice none 0 0, .slice (some ⟨g, 0, none⟩) n n, .slice none 0 0] 29)) (g := w.heap.size + 1) (j := g) (by omega) (.int .i64 0) (.slice none 0 0) (.slice (some ⟨g, 0, none⟩) n n) (.slice none 0 0)).trans hb3.out)
  obtain ⟨y0, y1, y2, y3⟩ := cells4 hx3
  obtain ⟨d0, d1, d2, d3, d4⟩ := t3.c4
  clear hx3
  go_wp2
  (try simp only [Exit.inBlock, Exit.then])
  show bodyPost _ _ _ _ _ (put4 (w2.alloc (.cells #[.int .i64 0, .slice none 0 0, .slice (some ⟨g, 0, none⟩) n n, .slice none 0 0] 29)) (w.heap.size + 1) (.int .i64 0) (.slice none 0 0) (.slice (some ⟨g, 0, none⟩) n n) (.slice none 0 0))
  generalize put4 (w2.alloc (.cells #[.int .i64 0, .slice none 0 0, .slice (some ⟨g, 0, none⟩) n n, .slice none 0 0] 29)) (w.heap.size + 1) (.int .i64 0) (.slice none 0 0) (.slice (some ⟨g, 0, none⟩) n n) (.slice none 0 0) = w6 at *
  obtain ⟨x0, x1, x2, x3⟩ := cells4 P5.out.1
  refine bodyPost_ret (v := .tuple #[.agg #[.int .i64 0, .slice none 0 0, .slice (some ⟨g, 0, none⟩) n n, .slice none 0 0], .int .i64 0]) (by simp [results, Try.results50, go_sem, x0, x1, x2, x3]) rfl ?_
  exact ⟨g, by omega, rfl, P6.out, P5.out.2⟩

set_option maxHeartbeats 2000000 in
set_option maxRecDepth 100000 in
theorem rpGet_words (q : Req) (n : Nat) (hqn : q.n = n) (Ao As Ap : Option Addr) (lo co ls cs lp cp : Nat) (b o m cap : Nat) (ys : List Int) (w : World) (h : Asked w w.heap.size q Ao As Ap lo ls lp) (hk : chkQ q = 0) (hc : q.c = 3 ∨ q.c = 4) (hr : Row .u8 w w.heap.size (some ⟨b, o, none⟩) ys) (hy : ys.length = m) (hm : m = 2 + 2 * n) (hn : 1 ≤ n ∧ n ≤ 125) (hcap : m ≤ cap) (hcb : cap ≤ 9223372036854775807) (h1 : nth ys 1 = 2 * (n : Int)) (h0 : nth ys 0 = q.c) :
    Calls Try.prog 19 #[.agg #[.int .i64 q.c, .int .i64 q.a, .int .i64 n, .slice Ao lo co, .slice As ls cs, .slice Ap lp cp], .slice (some ⟨b, o, none⟩) m cap] w fun e w' => ∃ g, w.heap.size ≤ g ∧ e = .returned (.tuple #[.agg #[.int .i64 0, .slice none 0 0, .slice (some ⟨g, 0, none⟩) n n, .slice none 0 0], .int .i64 0]) ∧ w'.heap[g]? = some (.cells (blk .u16 (wwords (ys.drop 2))) 75 (0, 0)) ∧ Below w.heap.size w w' := by
  have HR := Lib.hid hr
  have t0 := TB.new2 w #[.int .i64 q.c, .int .i64 q.a, .int .i64 n, .slice Ao lo co, .slice As ls cs, .slice Ap lp cp] #[.int .i64 0, .slice none 0 0, .slice none 0 0, .slice none 0 0] 26 29
  have hsz : w.heap.size ≤ ((w.alloc (.cells #[.int .i64 q.c, .int .i64 q.a, .int .i64 n, .slice Ao lo co, .slice As ls cs, .slice Ap lp cp] 26)).alloc (.cells #[.int .i64 0, .slice none 0 0, .slice none 0 0, .slice none 0 0] 29)).heap.size := t0.bel.size
  have HC := Lib.hid (Check_Q q Ao As Ap lo ls lp co cs cp _ ((h.below t0.bel).more hsz))
  rw [hk, hqn] at HC
  have HM := Lib.hid hm
  have HCC := Lib.hid hc
  have HY := Lib.hid hy
  have H1 := Lib.hid h1
  obtain ⟨b', o', hA, hbB, hcell⟩ := hr.at_ (i := 0) (by omega)
  injection hA with hA
  injection hA with hA1 hA2
  subst hA1 hA2
  rw [h0, Nat.add_zero] at hcell
  have e0 : IntKind.i64.wrap (q.c + 128) = q.c + 128 := IntWalk.i64_in _ (by omega)
  have e1 : IntKind.i64.wrap q.c = q.c := IntWalk.i64_in _ (by omega)
  have e2 : (q.c == q.c + 128) = false := beq_false_of_ne (by omega)
  have e3 : (q.c == q.c) = true := by simp
  have tm : ((m : Int) == 0) = false := beq_false_of_ne (by omega)
  have tm2 : (0 : Int) < (m : Int) := by omega
  have tm3 : 0 < m := by omega
  clear h hr hm hc hy h1 h0 hk hqn
  go_enter Try.func19, Try.ntmps19
  go_wp2_with fail
  refine HC.out.mono ?_
  rintro e w1 ⟨rfl, b1⟩
  have t1 := t0.below b1
  clear t0 b1 HC hsz
  have hc1 : w1.cell? ⟨b, o, none⟩ = some (.int .u8 q.c) := (t1.bel.cell (p := ⟨b, o, none⟩) hbB).trans hcell
  obtain ⟨d0, d1, d2, d3, d4⟩ := t1.c4
  obtain ⟨r0, r1, r2, r3, r4, r5, r6⟩ := t1.r6
  go_wp2_with fail
  clear d0 d1 d2 d3 d4 r0 r1 r2 r3 r4 r5 r6 hc1
  refine (rpAnswer_words q n Ao As Ap lo co ls cs lp cp b o m cap ys _ HCC.out ((HR.out.tb t1).more (Nat.le_of_lt (Nat.lt_of_succ_lt t1.lt))) HY.out HM.out hn hcap hcb H1.out).mono ?_
  rintro e w3 ⟨g, hg, rfl, hb, b2⟩
  have t3 := t1.below b2
  have hz1 := t1.lt
  have hb3 := Lib.hid hb
  clear t1 b2 hb
  have P5 := Lib.hid (t3.put4 (.int .i64 0) (.slice none 0 0) (.slice (some ⟨g, 0, none⟩) n n) (.slice none 0 0))
  have P6 := Lib.hid ((put4_other (w := w3) (g := w.heap.size + 1) (j := g) (by omega) (.int .i64 0) (.slice none 0 0) (.slice (some ⟨g, 0, none⟩) n n) (.slice none 0 0)).trans hb3.out)
  obtain ⟨d0, d1, d2, d3, d4⟩ := t3.c4
  go_wp2
  (try simp only [Exit.inBlock, Exit.then])
  show bodyPost _ _ _ _ _ (put4 (w3) (w.heap.size + 1) (.int .i64 0) (.slice none 0 0) (.slice (some ⟨g, 0, none⟩) n n) (.slice none 0 0))
  generalize put4 (w3) (w.heap.size + 1) (.int .i64 0) (.slice none 0 0) (.slice (some ⟨g, 0, none⟩) n n) (.slice none 0 0) = w6 at *
  obtain ⟨x0, x1, x2, x3⟩ := cells4 P5.out.1
  refine bodyPost_ret (v := .tuple #[.agg #[.int .i64 0, .slice none 0 0, .slice (some ⟨g, 0, none⟩) n n, .slice none 0 0], .int .i64 0]) (by simp [results, Try.results19, go_sem, x0, x1, x2, x3]) rfl ?_
  exact ⟨g, by omega, rfl, P6.out, P5.out.2⟩
end Go.Proofs.Ytobhllcnljggiaa
namespace Go.Proofs.Ytobhllcnljggiaa
open Go.RowKit
set_option linter.unusedVariables false

def exA : Req := ⟨3, 0, 2, [], [], []⟩
def exR : Rep := ⟨0, [], [1, 512], []⟩
theorem exA_chk : chkQ exA = 0 := by decide
theorem exR_chk : chkR exA exR = 0 := by decide

set_option maxHeartbeats 1000000 in
set_option maxRecDepth 100000 in
theorem two_any (w : World) : Calls Try.prog 26 #[] w fun e w' => ∃ g, w.heap.size ≤ g ∧ e = .returned (.tuple #[.agg #[.int .i64 3, .int .i64 0, .int .i64 2, .slice none 0 0, .slice none 0 0, .slice none 0 0], .agg #[.int .i64 0, .slice none 0 0, .slice (some ⟨g, 0, none⟩) 2 2, .slice none 0 0]]) ∧
    w'.heap[g]? = some (.cells (blk .u16 [1, 512]) 75 (0, 0)) ∧ Below w.heap.size w w' := by
  go_enter Try.func26, Try.ntmps26
  go_wp2
  (try simp only [Exit.inBlock, Exit.then])
  refine bodyPost_ret (v := .tuple #[.agg #[.int .i64 3, .int .i64 0, .int .i64 2, .slice none 0 0, .slice none 0 0, .slice none 0 0], .agg #[.int .i64 0, .slice none 0 0, .slice (some ⟨w.heap.size + 1 + 1, 0, none⟩) 2 2, .slice none 0 0]]) (by simp [results, Try.results26, go_sem]) rfl ?_
  exact ⟨w.heap.size + 1 + 1, by omega, rfl, heap_new_at _ _ (by simp), ((bel_alloc w _).alloc (by simp) _).alloc (by simp; omega) _⟩

set_option maxHeartbeats 1000000 in
/-- SameFiles, of two lists of none. -/
theorem SameFiles_nil (A A' : Option Addr) (c c' : Nat) (w : World) : Calls Try.prog 45 #[.slice A 0 c, .slice A' 0 c'] w fun e w' => e = .returned (.bool true) ∧ w' = w := by
  go_enter Try.func45, Try.ntmps45
  go_wp2
  go_loopw [5] (fun i wr => i = .int .i64 0 ∧ wr = w) (fun _ _ => 0)
  case atStart => exact ⟨rfl, rfl⟩
  case round =>
    obtain ⟨rfl, rfl⟩ := hrel
    go_wp2
    go_ret
    exact ⟨rfl, rfl⟩

set_option maxHeartbeats 1000000 in
set_option maxRecDepth 100000 in
/-- SameReply, of two answers that are the same and have no files. -/
theorem SameReply_flat (x : Int) (on : List Bool) (set : List Int) (Bo Bs Bf Bo' Bs' Bf' : Option Addr) (mo ms eo es ef eo' es' ef' : Nat) (w : World) (h1 : L.Row () w w.heap.size Bo on) (h2 : Row .u16 w w.heap.size Bs set) (h1' : L.Row () w w.heap.size Bo' on) (h2' : Row .u16 w w.heap.size Bs' set) (l1 : on.length = mo) (l2 : set.length = ms) (c1 : mo ≤ 1000000) (c2 : ms ≤ 1000000) :
    Calls Try.prog 15 #[.agg #[.int .i64 x, .slice Bo mo eo, .slice Bs ms es, .slice Bf 0 ef], .agg #[.int .i64 x, .slice Bo' mo eo', .slice Bs' ms es', .slice Bf' 0 ef']] w fun e w' => e = .returned (.bool true) ∧ Below w.heap.size w w' := by
  have t0 := TB.new2 w #[.int .i64 x, .slice Bo mo eo, .slice Bs ms es, .slice Bf 0 ef] #[.int .i64 x, .slice Bo' mo eo', .slice Bs' ms es', .slice Bf' 0 ef'] 29 29
  have bel := t0.bel
  have H1 := Lib.hid (h1.below bel)
  have H2 := Lib.hid (h2.below bel)
  have H1' := Lib.hid (h1'.below bel)
  have H2' := Lib.hid (h2'.below bel)
  have L1 := Lib.hid l1
  have L2 := Lib.hid l2
  have ex : (x == x) = true := by simp
  clear h1 h2 h1' h2' l1 l2 t0
  go_enter Try.func15, Try.ntmps15
  go_wp2_with fail
  refine (L.same_yes_bool _ _ _ _ _ on _ _ _ H1.out H1'.out L1.out (by omega)).mono ?_
  rintro e w' ⟨rfl, m1, rfl⟩
  go_wp2_with fail
  refine (W.same_yes_u16 _ _ _ _ _ set _ _ _ (H2.out.drewN m1) (H2'.out.drewN m1) L2.out (by omega)).mono ?_
  rintro e w' ⟨rfl, m2, rfl⟩
  rw [World.drewN_drewN]
  go_wp2_with fail
  refine (SameFiles_nil _ _ _ _ _).mono ?_
  rintro e w' ⟨rfl, rfl⟩
  go_wp2
  go_ret
  exact ⟨rfl, below_drewN bel _⟩

abbrev exAO : Obj := .cells #[.int .i64 3, .int .i64 0, .int .i64 2, .slice none 0 0, .slice none 0 0, .slice none 0 0] 26 (0, 0)
set_option maxHeartbeats 2000000 in
set_option maxRecDepth 100000 in
theorem works_yes (w : World) : Calls Try.prog 8 #[] w fun e w' => e = .returned (.bool true) ∧ Below w.heap.size w w' := by
  go_enter Try.func8, Try.ntmps8
  go_wp2_with fail
  refine (two_any _).mono ?_
  rintro e w1 ⟨g, hg, rfl, hb, b1⟩
  have t0 := TB.new2 w1 #[.int .i64 3, .int .i64 0, .int .i64 2, .slice none 0 0, .slice none 0 0, .slice none 0 0] #[.int .i64 0, .slice none 0 0, .slice (some ⟨g, 0, none⟩) 2 2, .slice none 0 0] 26 29
  have hgl := block_lt hb
  have hb0 := Lib.hid ((t0.bel.block g hgl).trans hb)
  have hsz0 : w1.heap.size ≤ ((w1.alloc (.cells #[.int .i64 3, .int .i64 0, .int .i64 2, .slice none 0 0, .slice none 0 0, .slice none 0 0] 26)).alloc (.cells #[.int .i64 0, .slice none 0 0, .slice (some ⟨g, 0, none⟩) 2 2, .slice none 0 0] 29)).heap.size := t0.bel.size
  have hwf : ∀ x ∈ [(1 : Int), 512], (Lit.int .u16 x).wf = true := by decide
  have HP := Lib.hid (rpPut_words exA exR none none none none (some ⟨g, 0, none⟩) none 0 0 0 0 0 0 0 2 0 0 2 0 _ (Asked.of_nil ((w1.alloc (.cells #[.int .i64 3, .int .i64 0, .int .i64 2, .slice none 0 0, .slice none 0 0, .slice none 0 0] 26)).alloc (.cells #[.int .i64 0, .slice none 0 0, .slice (some ⟨g, 0, none⟩) 2 2, .slice none 0 0] 29)) _ _ _ _) ⟨L.Row.nil _ _ _ _, (Row.of_block hb0.out [1, 512] hwf (List.prefix_refl _)).more (by omega), FRow.nil _ _ _, rfl, rfl, rfl⟩ (by omega) exR_chk rfl (.inl rfl) (by omega))
  go_wp2_with fail
  refine HP.out.mono ?_
  rintro e w2 ⟨v2, rfl, own2, b2⟩
  have eL : exA.c :: 2 * ((2 : Nat) : Int) :: wbytes exR.set = [3, 4, 0, 1, 2, 0] := by decide
  rw [eL] at own2
  have hwL : ∀ x ∈ [(3 : Int), 4, 0, 1, 2, 0], (Lit.int .u8 x).wf = true := by decide
  obtain ⟨A2, c2, rfl, row2, hle, hmx⟩ := own2.row hwL
  obtain ⟨b, o, rfl, hb2, _⟩ := row2.at_ (i := 0) (by simp)
  have t2 := t0.below b2
  have hz2 := t2.lt
  have hb02 := Lib.hid ((b2.block g (by omega)).trans hb0.out)
  have R2 := Lib.hid row2
  have hle' : 6 ≤ c2 := hle
  have hmx' : c2 ≤ 9223372036854775807 := by simpa [maxLen] using hmx
  have HG := Lib.hid (rpGet_words exA 2 rfl none none none 0 0 0 0 0 0 b o 6 c2 [3, 4, 0, 1, 2, 0] w2 (Asked.of_nil _ _ _ _ _) exA_chk (.inl rfl) R2.out rfl rfl ⟨by omega, by omega⟩ hle' hmx' rfl rfl)
  have eW : wwords (List.drop 2 [(3 : Int), 4, 0, 1, 2, 0]) = [1, 512] := by decide
  rw [eW] at HG
  clear own2 row2 hle hmx b2 t0 HP hsz0 hb0
  obtain ⟨d0, d1, d2, d3, d4⟩ := t2.c4
  obtain ⟨r0, r1, r2, r3, r4, r5, r6⟩ := t2.r6
  go_wp2_with fail
  clear d0 d1 d2 d3 d4 r0 r1 r2 r3 r4 r5 r6
  refine HG.out.mono ?_
  rintro e w3 ⟨g3, hg3, rfl, hb3, b3⟩
  have t3 := t2.below b3
  have hg3l := block_lt hb3
  have hbg3 := Lib.hid ((b3.block g (by omega)).trans hb02.out)
  have R3 := Lib.hid ((R2.out.below b3).more b3.size)
  -- the box of what was read, and the list to hold it against
  have b4 : Below w3.heap.size w3 ((w3.alloc (.cells #[.int .i64 0, .slice none 0 0, .slice (some ⟨g3, 0, none⟩) 2 2, .slice none 0 0] 29)).alloc (.cells (blk .u8 [3, 4, 0, 1, 2, 0]) 5)) := (bel_alloc w3 _).alloc (by simp) _
  have t4 := t3.below b4
  have hlit := Lib.hid (heap_alloc_new (w3.alloc (.cells #[.int .i64 0, .slice none 0 0, .slice (some ⟨g3, 0, none⟩) 2 2, .slice none 0 0] 29)) (.cells (blk .u8 [3, 4, 0, 1, 2, 0]) 5))
  have hz3 : (w3.alloc (.cells #[.int .i64 0, .slice none 0 0, .slice (some ⟨g3, 0, none⟩) 2 2, .slice none 0 0] 29)).heap.size = w3.heap.size + 1 := by simp
  rw [hz3] at hlit
  have R4 := Lib.hid (R3.out.below b4)
  have hb34 := Lib.hid ((b4.block g3 hg3l).trans hb3)
  have hbg4 := Lib.hid ((b4.block g (by have := t3.lt; have := b3.size; omega)).trans hbg3.out)
  have hbx4 := Lib.hid ((heap_alloc_old (w3.alloc (.cells #[.int .i64 0, .slice none 0 0, .slice (some ⟨g3, 0, none⟩) 2 2, .slice none 0 0] 29)) (.cells (blk .u8 [3, 4, 0, 1, 2, 0]) 5) (r := w3.heap.size) (by simp)).trans (heap_alloc_new w3 (.cells #[.int .i64 0, .slice none 0 0, .slice (some ⟨g3, 0, none⟩) 2 2, .slice none 0 0] 29)))
  have bel3 : Below w.heap.size w w3 := (b1.trans (t3.bel.mono b1.size))
  clear t2 HG hb02 b3 R2
  go_wp2_with fail
  refine (same_yes_u8 (some ⟨b, o, none⟩) _ 6 _ _ [3, 4, 0, 1, 2, 0] _ _ _ R4.out (Row.of_block hlit.out [3, 4, 0, 1, 2, 0] hwL (List.prefix_refl _)) rfl (by omega)).mono ?_
  rintro e w5 ⟨rfl, m, rfl⟩
  have b5 := bel_drewN ((w3.alloc (.cells #[.int .i64 0, .slice none 0 0, .slice (some ⟨g3, 0, none⟩) 2 2, .slice none 0 0] 29)).alloc (.cells (blk .u8 [3, 4, 0, 1, 2, 0]) 5)) m
  have hsz4 : w3.heap.size ≤ ((w3.alloc (.cells #[.int .i64 0, .slice none 0 0, .slice (some ⟨g3, 0, none⟩) 2 2, .slice none 0 0] 29)).alloc (.cells (blk .u8 [3, 4, 0, 1, 2, 0]) 5)).heap.size := b4.size
  have t5 := t4.below b5
  have RA := Lib.hid ((Row.of_block hb34.out [1, 512] hwf (List.prefix_refl _)).more (block_lt hb34.out))
  have RB := Lib.hid ((Row.of_block hbg4.out [1, 512] hwf (List.prefix_refl _)).more (block_lt hbg4.out))
  have hbx5 := (b5.block w3.heap.size (block_lt hbx4.out)).trans hbx4.out
  obtain ⟨y0, y1, y2, y3⟩ := cells4 hbx5
  obtain ⟨d0, d1, d2, d3, d4⟩ := t5.c4
  have bel5 := bel3.trans (((b4.mono (Nat.le_refl _)).trans (b5.mono hsz4)).mono bel3.size)
  clear hbx5 t5 t4 b4
  go_wp2_with fail
  clear y0 y1 y2 y3 d0 d1 d2 d3 d4
  refine (SameReply_flat 0 [] [1, 512] none (some ⟨g3, 0, none⟩) none none (some ⟨g, 0, none⟩) none 0 2 0 2 0 0 2 0 _ (L.Row.nil _ _ _ _) (RA.out.drewN m) (L.Row.nil _ _ _ _) (RB.out.drewN m) rfl rfl (by omega) (by omega)).mono ?_
  rintro e w6 ⟨rfl, b6⟩
  go_wp2
  go_ret
  exact ⟨rfl, bel5.trans (b6.mono bel5.size)⟩
end Go.Proofs.Ytobhllcnljggiaa
namespace Go.Proofs.Ytobhllcnljggiaa
open Go.RowKit
set_option linter.unusedVariables false

set_option maxHeartbeats 1000000 in
set_option maxRecDepth 100000 in
/-- SameReply, of two answers that are the same. -/
theorem SameReply_yes (x : Int) (on : List Bool) (set : List Int) (fs : List (List Int)) (Bo Bs Bf Bo' Bs' Bf' : Option Addr) (mo ms mf eo es ef eo' es' ef' : Nat) (w : World) (h1 : L.Row () w w.heap.size Bo on) (h2 : Row .u16 w w.heap.size Bs set) (h1' : L.Row () w w.heap.size Bo' on) (h2' : Row .u16 w w.heap.size Bs' set) (h3 : FRow w w.heap.size Bf fs) (h3' : FRow w w.heap.size Bf' fs) (l1 : on.length = mo) (l2 : set.length = ms) (l3 : fs.length = mf) (c1 : mo ≤ 70368744177664) (c2 : ms ≤ 70368744177664) (c3 : mf ≤ 1000000) (c4 : ∀ i, i < mf → (nthF fs i).length ≤ 70368744177664) :
    Calls Try.prog 15 #[.agg #[.int .i64 x, .slice Bo mo eo, .slice Bs ms es, .slice Bf mf ef], .agg #[.int .i64 x, .slice Bo' mo eo', .slice Bs' ms es', .slice Bf' mf ef']] w fun e w' => e = .returned (.bool true) ∧ Below w.heap.size w w' := by
  have t0 := TB.new2 w #[.int .i64 x, .slice Bo mo eo, .slice Bs ms es, .slice Bf mf ef] #[.int .i64 x, .slice Bo' mo eo', .slice Bs' ms es', .slice Bf' mf ef'] 29 29
  have bel := t0.bel
  have H1 := Lib.hid (h1.below bel)
  have H2 := Lib.hid (h2.below bel)
  have H3 := Lib.hid (h3.below bel)
  have H3' := Lib.hid (h3'.below bel)
  have L3 := Lib.hid l3
  have C4 := Lib.hid c4
  have H1' := Lib.hid (h1'.below bel)
  have H2' := Lib.hid (h2'.below bel)
  have L1 := Lib.hid l1
  have L2 := Lib.hid l2
  have ex : (x == x) = true := by simp
  clear h1 h2 h1' h2' h3 h3' l1 l2 l3 c4 t0
  go_enter Try.func15, Try.ntmps15
  go_wp2_with fail
  refine (L.same_yes_bool _ _ _ _ _ on _ _ _ H1.out H1'.out L1.out (by omega)).mono ?_
  rintro e w' ⟨rfl, m1, rfl⟩
  go_wp2_with fail
  refine (W.same_yes_u16 _ _ _ _ _ set _ _ _ (H2.out.drewN m1) (H2'.out.drewN m1) L2.out (by omega)).mono ?_
  rintro e w' ⟨rfl, m2, rfl⟩
  rw [World.drewN_drewN]
  go_wp2_with fail
  refine (SameFiles_yes _ _ mf _ _ fs _ _ _ (H3.out.drewN (m1 + m2)) (H3'.out.drewN (m1 + m2)) L3.out c3 C4.out).mono ?_
  rintro e w' ⟨rfl, m3, rfl⟩
  rw [World.drewN_drewN]
  go_wp2
  go_ret
  exact ⟨rfl, below_drewN bel _⟩

end Go.Proofs.Ytobhllcnljggiaa
namespace Go.Proofs.Ytobhllcnljggiaa
open Go.RowKit
set_option linter.unusedVariables false

theorem info_words : (Try.prog.info? 23).map (fun i => (i.zero, i.size, i.bytes)) = some (some (.slice none 0 0), 1, 24) := by kernel_rfl

/-- The slice v owns the lists fs, each of which is a slice of the call's own. -/
def WOwn (w : World) (base : Nat) (v : Value) (fs : List (List Int)) : Prop :=
  ∃ L : List (List Int × Value), L.map Prod.fst = fs ∧ w.ownsRow base 23 1 v L.length (L.map Prod.snd) ∧ ∀ p ∈ L, Own .u16 75 w base p.2 p.1
theorem WOwn.nil (w : World) (base : Nat) : WOwn w base (.slice none 0 0) [] := ⟨[], rfl, World.ownsRow_nil _ _ _ _, fun p hp => by cases hp⟩
theorem Own.keep {k : IntKind} {e : TypeId} {w w' : World} {base : Nat} {v : Value} {xs : List Int} {row : Option Nat} (h : Own k e w base v xs) (hg : w.grownBy w' row) (hr : v.ownBlock = none ∨ v.ownBlock ≠ row) : Own k e w' base v xs := World.ownsRow.kept h hg hr
theorem rowW_below {w w' : World} {base B n : Nat} {v : Value} {xs : List Value} (h : w.ownsRow base 23 1 v n xs) (hb : Below B w w') (hB : w.heap.size ≤ B) : w'.ownsRow base 23 1 v n xs := by
  refine h.kept (row := none) ⟨hb.os, hb.tape, hb.output, hb.size, fun i hi _ => hb.block i (by omega)⟩ ?_
  cases hv : v.ownBlock with
  | none => exact .inl rfl
  | some g => exact .inr (by simp)
theorem WOwn.below {w w' : World} {base B : Nat} {v : Value} {fs : List (List Int)} (h : WOwn w base v fs) (hb : Below B w w') (hB : w.heap.size ≤ B) : WOwn w' base v fs := by
  obtain ⟨L, h1, h2, h3⟩ := h
  exact ⟨L, h1, rowW_below h2 hb hB, fun p hp => (h3 p hp).below hb hB⟩
theorem WOwn.block {w : World} {base : Nat} {v : Value} {fs : List (List Int)} (h : WOwn w base v fs) : ∀ g, v.ownBlock = some g → base ≤ g ∧ g < w.heap.size := by
  obtain ⟨L, h1, h2, h3⟩ := h
  exact World.ownsRow.lt h2
theorem WOwn.set {w : World} {base : Nat} {v : Value} {fs : List (List Int)} (h : WOwn w base v fs) {g : Nat} (hg : g < base) (i : Nat) (u : Value) : WOwn (w.setCell ⟨g, i, none⟩ u) base v fs := by
  obtain ⟨L, h1, h2, h3⟩ := h
  exact ⟨L, h1, h2.kept (grown_setCell (World.grownBy.refl _ _) i u) (.inr fun hv => by have := (World.ownsRow.lt h2 g hv).1; omega), fun p hp => (h3 p hp).set hg i u⟩
/-- The block of a list of lists is none of its lists' own. -/
theorem words_far {w : World} {base base' : Nat} {v u : Value} {n : Nat} {xs : List Value} {ys : List Int} (h : w.ownsRow base 23 1 v n xs) (k : Own .u16 75 w base' u ys) : u.ownBlock = none ∨ u.ownBlock ≠ v.ownBlock := by
  rcases k.2 with ⟨rfl, _⟩ | ⟨g, cap, cur0, rfl, _, hg, _⟩
  · exact .inl rfl
  · refine .inr fun e => ?_
    rcases h.2 with ⟨rfl, _⟩ | ⟨g', cap', cur, rfl, _, hg', _⟩
    · cases e
    · have e : some g = some g' := e
      injection e with e
      subst e
      rw [hg] at hg'
      injection hg' with hg'
      injection hg' with _ ht
      exact absurd ht (by decide)
theorem WOwn.len {w : World} {base : Nat} {v : Value} {fs : List (List Int)} (h : WOwn w base v fs) : ∃ A c, v = .slice A fs.length c ∧ fs.length ≤ c := by
  obtain ⟨L, rfl, h2, h3⟩ := h
  rw [List.length_map]
  rcases h2.2 with ⟨rfl, h0⟩ | ⟨g, cap, cur, rfl, _, _, h4, _⟩
  · rw [h0]; exact ⟨none, 0, rfl, Nat.le_refl _⟩
  · exact ⟨_, cap, rfl, h4⟩
/-- As a list of lists that is read. -/
theorem WOwn.frow {w : World} {base : Nat} {A : Option Addr} {n c : Nat} {fs : List (List Int)} (h : WOwn w base (.slice A n c) fs) (hw : ∀ xs ∈ fs, ∀ x ∈ xs, (Lit.int .u16 x).wf = true) : FRow w w.heap.size A fs := by
  obtain ⟨L, rfl, h2, h3⟩ := h
  intro h0
  rw [List.length_map] at h0
  rcases h2.2 with ⟨e, h9⟩ | ⟨g, cap, cur, e, hb, hg, h4, h5, h6, h7⟩
  · omega
  · injection e with e1 e2 e3
    subst e1 e2 e3
    refine ⟨g, 0, rfl, block_lt hg, fun i hi => ?_⟩
    rw [List.length_map] at hi
    have hown := h3 _ (List.getElem_mem hi)
    have hfst : nthF (L.map Prod.fst) i = (L[i]).1 := by simp [nthF, List.getD_eq_getElem?_getD, List.getElem?_eq_getElem hi]
    obtain ⟨Ai, ci, hv, hrow, hle, _⟩ := hown.row (hw _ (List.mem_map.2 ⟨_, List.getElem_mem hi, rfl⟩))
    refine ⟨Ai, ci, ?_, by rw [hfst]; exact hrow, by rw [hfst]; exact hle⟩
    rw [Nat.zero_add, cell_of_row w g i cur _ _ hg, hfst, ← hv, ← Array.getElem?_toList]
    have : (cur.toList.take (L.length * 1))[i]? = (L.map Prod.snd)[i]? := by rw [h7]
    rw [List.getElem?_take_of_lt (by omega)] at this
    rw [this, List.getElem?_map, List.getElem?_eq_getElem hi]
    rfl

section
variable {P : Program}
/-- 'append(v, xs)' of a list of words in a box. -/
theorem wpList_append_words {ops : Array Oper} {rest : List Oper} {o : Oper} {a : Act} {Q : Exit → Act → World → Prop} (w : World) (hgd : o.guard = none) (s x : Operand) (t : TypeId)
    (ho : o.op = .call { callee := .builtin .append, args := #[s, x], argTypes := #[t, t] }) (base : Nat) (ht : P.underlying t = some (.slice 23)) (hi : (P.info? 23).map (fun i => (i.zero, i.size, i.bytes)) = some (some (.slice none 0 0), 1, 24))
    (v : Value) (fs : List (List Int)) (hs : a.eval s = v) (hown : WOwn w base v fs) (ad : Addr) (c : Nat) (xs : List Int) (A : Option Addr) (m cc : Nat) (hx : a.eval x = .slice (some ad) 1 c)
    (hk : Own .u16 75 w base (.slice A m cc) xs) (hnews : ∀ j u, [Value.slice A m cc][j]? = some u → w.cell? (ad.add j) = some u) (hb : fs.length ≤ 1000000) (hbase : base ≤ w.heap.size)
    (h : ∀ v' w', WOwn w' base v' (fs ++ [xs]) → w.grownBy w' v.ownBlock → wpList P ops Q rest (a.put o.dst v') w') : wpList P ops Q (o :: rest) a w := by
  obtain ⟨i, hi1, hz, hsz, hby⟩ := info_parts hi
  obtain ⟨L, rfl, h2, h3⟩ := hown
  rw [List.length_map] at hb
  refine wpList_append_own w hgd s x t ho base 23 i _ 1 24 ht hi1 hz hsz hby rfl (by omega) v L.length (L.map Prod.snd) hs h2 ad 1 c [.slice A m cc] hx rfl hnews (by simp [Value.oneCell']) (by simp only [maxLen]; omega) (by omega) hbase fun v' w' h4 h5 _ => h v' w' ?_ h5
  refine ⟨L ++ [(xs, .slice A m cc)], by simp, ?_, fun p hp => ?_⟩
  · rw [List.map_append, List.length_append]
    exact h4
  · rcases List.mem_append.1 hp with hp | hp
    · exact (h3 p hp).keep h5 (words_far h2 (h3 p hp))
    · simp only [List.mem_singleton] at hp
      subst hp
      exact hk.keep h5 (words_far h2 hk)
end
/-- The cell of a list in a new box. -/
theorem box_words (w : World) (t : TypeId) (x : Value) : ∀ j u, [x][j]? = some u → (w.alloc (.cells #[x] t)).cell? ((⟨w.heap.size, 0, none⟩ : Addr).add j) = some u := by
  intro j u hu
  rw [Go.WideShapes.add_plain, Nat.zero_add, World.cell?_alloc_at _ _ _ _ rfl]
  simpa using hu
theorem TB.set1 {w0 w : World} {B : Nat} {o2 : Obj} {cs : Array Value} {t : TypeId} (h : TB w0 B (.cells cs t (0, 0)) o2 w) (i : Nat) (v : Value) : TB w0 B (.cells (cs.setIfInBounds i v) t (0, 0)) o2 (w.setCell ⟨B, i, none⟩ v) :=
  ⟨box_set h.ret i v, (Below.heap_setCell w ⟨B, i, none⟩ v (B + 1) (by simp)).trans h.box, below_setCell h.bel (Nat.le_refl _) i v⟩
theorem TB.r4 {w0 w : World} {B : Nat} {o2 : Obj} {t : TypeId} {v0 v1 v2 v3 : Value} (h : TB w0 B (.cells #[v0, v1, v2, v3] t (0, 0)) o2 w) :
    w.cell? ⟨B, 0, none⟩ = some v0 ∧ w.cell? ⟨B, 1, none⟩ = some v1 ∧ w.cell? ⟨B, 2, none⟩ = some v2 ∧ w.cell? ⟨B, 3, none⟩ = some v3 ∧ ∀ i, w.frozen? ⟨B, i, none⟩ = false :=
  ⟨cell_of_row w B 0 _ _ _ h.ret, cell_of_row w B 1 _ _ _ h.ret, cell_of_row w B 2 _ _ _ h.ret, cell_of_row w B 3 _ _ _ h.ret, fun i => block_frozen w B i _ _ h.ret⟩
theorem Own.put4 {k : IntKind} {e : TypeId} {w : World} {base : Nat} {v : Value} {xs : List Int} (h : Own k e w base v xs) {g : Nat} (hg : g < base) (v0 v1 v2 v3 : Value) : Own k e (put4 w g v0 v1 v2 v3) base v xs :=
  (((h.set hg 0 v0).set hg 1 v1).set hg 2 v2).set hg 3 v3
theorem L.Own.put4 {k : Unit} {e : TypeId} {w : World} {base : Nat} {v : Value} {xs : List Bool} (h : L.Own k e w base v xs) {g : Nat} (hg : g < base) (v0 v1 v2 v3 : Value) : L.Own k e (put4 w g v0 v1 v2 v3) base v xs :=
  (((h.set hg 0 v0).set hg 1 v1).set hg 2 v2).set hg 3 v3
theorem WOwn.put4 {w : World} {base : Nat} {v : Value} {fs : List (List Int)} (h : WOwn w base v fs) {g : Nat} (hg : g < base) (v0 v1 v2 v3 : Value) : WOwn (put4 w g v0 v1 v2 v3) base v fs :=
  (((h.set hg 0 v0).set hg 1 v1).set hg 2 v2).set hg 3 v3
theorem takeF_step (fs : List (List Int)) (k : Nat) (h : k < fs.length) : fs.take (k + 1) = fs.take k ++ [nthF fs k] := by
  rw [List.take_succ_eq_append_getElem h]
  simp [nthF, List.getD_eq_getElem?_getD, List.getElem?_eq_getElem h]
/-- The words of an answer's files are words. -/
theorem FRow.wf {w : World} {B : Nat} {A : Option Addr} {fs : List (List Int)} (h : FRow w B A fs) : ∀ xs ∈ fs, ∀ x ∈ xs, (Lit.int .u16 x).wf = true := by
  intro xs hxs
  obtain ⟨i, hi, rfl⟩ := List.mem_iff_getElem.1 hxs
  obtain ⟨b, o, _, _, hc⟩ := h (by omega)
  obtain ⟨Ai, ci, _, h2, _⟩ := hc i hi
  have : nthF fs i = fs[i] := by simp [nthF, List.getD_eq_getElem?_getD, List.getElem?_eq_getElem hi]
  rw [this] at h2
  exact h2.1

theorem farW {w : World} {base base' : Nat} {v u : Value} {fs : List (List Int)} {ys : List Int} (k : Own .u16 75 w base' u ys) (h : WOwn w base v fs) : u.ownBlock = none ∨ u.ownBlock ≠ v.ownBlock := by
  obtain ⟨L, _, h2, _⟩ := h
  exact words_far h2 k
theorem farB {w : World} {base base' : Nat} {v u : Value} {fs : List (List Int)} {ys : List Bool} (k : L.Own () 4 w base' u ys) (h : WOwn w base v fs) : u.ownBlock = none ∨ u.ownBlock ≠ v.ownBlock := by
  obtain ⟨L, _, h2, _⟩ := h
  rcases k.2 with ⟨rfl, _⟩ | ⟨g, cap, cur0, rfl, _, hg, _⟩
  · exact .inl rfl
  · refine .inr fun e => ?_
    rcases h2.2 with ⟨rfl, _⟩ | ⟨g', cap', cur, rfl, _, hg', _⟩
    · cases e
    · have e : some g = some g' := e
      injection e with e
      subst e
      rw [hg] at hg'
      injection hg' with hg'
      injection hg' with _ ht
      exact absurd ht (by decide)
theorem L.Own.view3 {k : Unit} {e : TypeId} {w : World} {base : Nat} {v : Value} {xs : List Bool} (h : L.Own k e w base v xs) : ∃ A n c, v = .slice A n c ∧ L.Row k w w.heap.size A xs ∧ xs.length = n := by
  obtain ⟨A, c, e, hr, _⟩ := h.row (fun _ _ => rfl)
  exact ⟨A, _, c, e, hr, rfl⟩
theorem Own.view3 {k : IntKind} {e : TypeId} {w : World} {base : Nat} {v : Value} {xs : List Int} (h : Own k e w base v xs) (hw : ∀ x ∈ xs, (Lit.int k x).wf = true) : ∃ A n c, v = .slice A n c ∧ Row k w w.heap.size A xs ∧ xs.length = n := by
  obtain ⟨A, c, e, hr, _⟩ := h.row hw
  exact ⟨A, _, c, e, hr, rfl⟩
set_option maxHeartbeats 4000000 in
set_option maxRecDepth 100000 in
theorem CopyReply_any (r : Rep) (Bo Bs Bf : Option Addr) (mo ms mf eo es ef : Nat) (w : World) (hr : Repd w w.heap.size r Bo Bs Bf mo ms mf) (b1 : mo ≤ 70000) (b2 : ms ≤ 70000) (b3 : mf ≤ 1000) (b4 : ∀ i, i < mf → (nthF r.fs i).length ≤ 70368744175616) :
    Calls Try.prog 10 #[.agg #[.int .i64 r.x, .slice Bo mo eo, .slice Bs ms es, .slice Bf mf ef]] w
      fun e w' => ∃ Co Cs Cf ko ks kf, e = .returned (.agg #[.int .i64 r.x, .slice Co mo ko, .slice Cs ms ks, .slice Cf mf kf]) ∧ Repd w' w'.heap.size r Co Cs Cf mo ms mf ∧ Below w.heap.size w w' := by
  have HR := Lib.hid hr
  have HWF := Lib.hid hr.fs.wf
  have HMF := Lib.hid hr.mf
  have HL4 := Lib.hid b4
  have t0 := TB.new w #[.int .i64 r.x, .slice Bo mo eo, .slice Bs ms es, .slice Bf mf ef] #[.int .i64 0, .slice none 0 0, .slice none 0 0, .slice none 0 0] 29
  clear hr b4
  go_enter Try.func10, Try.ntmps10
  go_wp2_with fail
  refine (L.copy_bool _ _ _ r.on _ ((HR.out.on.below t0.bel).more t0.bel.size) HR.out.mo (by omega)).mono ?_
  rintro e w1 ⟨vo, rfl, own1, b⟩
  obtain ⟨A1, c1, rfl, _, _, _⟩ := own1.row (fun _ _ => rfl)
  rw [HR.out.mo] at own1 ⊢
  have t1 := t0.below b
  have own1 := own1.mono (base' := w.heap.size + 2) (by have := t0.lt; omega)
  clear t0 b
  obtain ⟨d0, d1, d2, d3, d4⟩ := t1.r4
  have t2 := t1.set1 1 (.slice A1 mo c1)
  have own2 := Lib.hid (own1.set (g := w.heap.size) (by omega) 1 (.slice A1 mo c1))
  clear own1 t1
  go_wp2_with fail
  clear d0 d1 d2 d3 d4
  generalize w1.setCell ⟨w.heap.size, 1, none⟩ (.slice A1 mo c1) = w2 at *
  refine (W.copy_u16 _ _ _ r.set _ ((HR.out.set.below t2.bel).more t2.bel.size) HR.out.ms (by omega)).mono ?_
  rintro e w3 ⟨vs, rfl, own3, b⟩
  obtain ⟨A3, c3, rfl, _, _, _⟩ := own3.row HR.out.set.1
  rw [HR.out.ms] at own3 ⊢
  have t3 := t2.below b
  have own4 := own2.out.below b (Nat.le_refl _)
  have own3 := own3.mono (base' := w.heap.size + 2) (by have := t2.lt; omega)
  clear own2 t2 b
  obtain ⟨d0, d1, d2, d3, d4⟩ := t3.r4
  have t4 := t3.set1 2 (.slice A3 ms c3)
  have own5 := own3.set (g := w.heap.size) (by omega) 2 (.slice A3 ms c3)
  have own6 := own4.set (g := w.heap.size) (by omega) 2 (.slice A3 ms c3)
  clear own3 own4 t3
  go_wp2_with fail
  clear d0 d1 d2 d3 d4
  generalize w3.setCell ⟨w.heap.size, 2, none⟩ (.slice A3 ms c3) = w4 at *
  go_loopw [3, 4] (fun v i wr => ∃ k : Nat, k ≤ mf ∧ i = .int .i64 k ∧ WOwn wr (w.heap.size + 2) v (r.fs.take k) ∧ Hid (L.Own () 4 wr (w.heap.size + 2) (.slice A1 mo c1) r.on ∧ Own .u16 75 wr (w.heap.size + 2) (.slice A3 ms c3) r.set) ∧ TB w w.heap.size (.cells #[.int .i64 r.x, .slice A1 mo c1, .slice A3 ms c3, .slice Bf mf ef] 29 (0, 0)) (.cells #[.int .i64 0, .slice none 0 0, .slice none 0 0, .slice none 0 0] 29 (0, 0)) wr) (fun _ i _ => mf - (intOf i).toNat)
  case atStart => exact ⟨0, by omega, rfl, WOwn.nil _ _, Lib.hid ⟨own6, own5⟩, t4⟩
  case round =>
    clear own5 own6 t4
    obtain ⟨k, hk, rfl, fown, two, t5⟩ := hrel
    obtain ⟨d0, d1, d2, d3, d4⟩ := t5.r4
    have hlt5 := t5.lt
    by_cases hlt : k < mf
    · obtain ⟨b, o, Ai, ci, rfl, hb1, hc0, rw0, hle⟩ := HR.out.fs.at_ (i := k) (by rw [HMF.out]; exact hlt)
      have hc1 := (t5.bel.cell (p := ⟨b, o + k, none⟩) hb1).trans hc0
      have hlen := HL4.out k hlt
      have HT := Lib.hid (takeF_step r.fs k (by rw [HMF.out]; exact hlt))
      have HTL : Hid ((r.fs.take k).length = k) := Lib.hid (by rw [List.length_take, HMF.out]; omega)
      have hwx := Lib.hid rw0.1
      generalize nthF r.fs k = xs at *
      obtain ⟨z, hz⟩ : ∃ z, Hid (xs.length = z) := ⟨_, Lib.hid rfl⟩
      rw [hz.out] at hc1 hlen hle
      have R0 := Lib.hid ((rw0.below t5.bel).more t5.bel.size)
      have hklt : (k : Int) < (mf : Int) := by omega
      clear hc0 rw0
      go_wp2_with fail
      refine (W.copy_u16 _ _ _ xs _ R0.out hz.out (by omega)).mono ?_
      rintro e w5 ⟨vx, rfl, ownx, b5⟩
      obtain ⟨Ax, cx, rfl, _, _, _⟩ := ownx.row hwx.out
      rw [hz.out] at ownx ⊢
      have t6 := t5.below b5
      have fown6 := fown.below b5 (Nat.le_refl _)
      have o1 := two.out.1.below b5 (Nat.le_refl _)
      have o2 := two.out.2.below b5 (Nat.le_refl _)
      have ownx := ownx.mono (base' := w.heap.size + 2) (by omega)
      have hlt6 := t6.lt
      clear t5 b5 fown two d0 d1 d2 d3 d4 hc1
      have bA := bel_alloc w5 (.cells #[.slice Ax z cx] 23)
      have t7 := t6.below bA
      have fown7 := fown6.below bA (Nat.le_refl _)
      have ownx7 := ownx.below bA (Nat.le_refl _)
      have o17 := Lib.hid (o1.below bA (Nat.le_refl _))
      have o27 := Lib.hid (o2.below bA (Nat.le_refl _))
      obtain ⟨Av, cv, hv, _⟩ := fown7.len
      rw [HTL.out] at hv
      subst hv
      have HNEWS := Lib.hid (box_words w5 23 (.slice Ax z cx))
      clear t6 fown6 ownx o1 o2 bA
      go_wp2_with (at_builtin; refine wpList_append_words _ rfl (.tmp 20) (.tmp 27) 27 rfl (w.heap.size + 2) Try.underlying27 info_words (.slice Av k cv) (r.fs.take k) rfl fown7 ⟨w5.heap.size, 0, none⟩ 1 xs Ax z cx rfl ownx7 HNEWS.out (by rw [HTL.out]; omega) (by simp; omega) ?_; intro v8 w8 fown8 hg8)
      have t8 := t7.grown hg8 (fun g e => (fown7.block g e).1)
      have far1 : L.Own () 4 w8 (w.heap.size + 2) (.slice A1 mo c1) r.on := o17.out.kept hg8 (farB o17.out fown7)
      have far2 : Own .u16 75 w8 (w.heap.size + 2) (.slice A3 ms c3) r.set := o27.out.keep hg8 (farW o27.out fown7)
      have two8 := Lib.hid (And.intro far1 far2)
      rw [← HT.out] at fown8
      clear t7 fown7 ownx7 o17 o27 far1 far2 hg8
      go_wp2
      go_roundw
      case rel => exact ⟨k + 1, by omega, by go_num, fown8, two8, t8⟩
      case measure => simp [intOf]; omega
    · obtain rfl : k = mf := by omega
      have hx : r.fs.take k = r.fs := List.take_of_length_le (by rw [HMF.out]; omega)
      rw [hx] at fown
      clear hx
      obtain ⟨Av, cv, hv, _⟩ := fown.len
      rw [HMF.out] at hv
      subst hv
      have t6 := t5.set1 3 (.slice Av k cv)
      have fown6 := fown.set (g := w.heap.size) (by omega) 3 (.slice Av k cv)
      have o1 := two.out.1.set (g := w.heap.size) (by omega) 3 (.slice Av k cv)
      have o2 := two.out.2.set (g := w.heap.size) (by omega) 3 (.slice Av k cv)
      obtain ⟨k0, k1, k2, k3, k4⟩ := t5.c4
      have P5 := Lib.hid (t6.put4 (.int .i64 r.x) (.slice A1 mo c1) (.slice A3 ms c3) (.slice Av k cv))
      have F5 := Lib.hid (fown6.put4 (g := w.heap.size + 1) (by omega) (.int .i64 r.x) (.slice A1 mo c1) (.slice A3 ms c3) (.slice Av k cv))
      have F1 := Lib.hid (o1.put4 (g := w.heap.size + 1) (by omega) (.int .i64 r.x) (.slice A1 mo c1) (.slice A3 ms c3) (.slice Av k cv))
      have F2 := Lib.hid (o2.put4 (g := w.heap.size + 1) (by omega) (.int .i64 r.x) (.slice A1 mo c1) (.slice A3 ms c3) (.slice Av k cv))
      clear t5 t6 fown fown6 two o1 o2
      go_wp2

      (try simp only [Exit.inBlock, Exit.then])
      show bodyPost _ _ _ _ _ (put4 (wr.setCell ⟨w.heap.size, 3, none⟩ (.slice Av k cv)) (w.heap.size + 1) (.int .i64 r.x) (.slice A1 mo c1) (.slice A3 ms c3) (.slice Av k cv))
      generalize put4 (wr.setCell ⟨w.heap.size, 3, none⟩ (.slice Av k cv)) (w.heap.size + 1) (.int .i64 r.x) (.slice A1 mo c1) (.slice A3 ms c3) (.slice Av k cv) = w6 at *
      clear d0 d1 d2 d3 d4 k0 k1 k2 k3 k4
      have c0 := cell_of_row w6 (w.heap.size + 1) 0 _ _ _ P5.out.1
      have c1' := cell_of_row w6 (w.heap.size + 1) 1 _ _ _ P5.out.1
      have c2 := cell_of_row w6 (w.heap.size + 1) 2 _ _ _ P5.out.1
      have c3' := cell_of_row w6 (w.heap.size + 1) 3 _ _ _ P5.out.1
      refine bodyPost_ret (v := .agg #[.int .i64 r.x, .slice A1 mo c1, .slice A3 ms c3, .slice Av k cv]) (by simp [results, Try.results10, go_sem, *]) rfl ?_
      refine ⟨A1, A3, Av, c1, c3, cv, rfl, ⟨?_, ?_, F5.out.frow HWF.out, HR.out.mo, HR.out.ms, HMF.out⟩, P5.out.2⟩
      · obtain ⟨A, n, c, e, hrow, _⟩ := F1.out.view3
        injection e with e1 e2 e3
        subst e1
        exact hrow
      · obtain ⟨A, n, c, e, hrow, _⟩ := F2.out.view3 HR.out.set.1
        injection e with e1 e2 e3
        subst e1
        exact hrow
end Go.Proofs.Ytobhllcnljggiaa
namespace Go.Proofs.Ytobhllcnljggiaa
open Go.RowKit
set_option linter.unusedVariables false

theorem Bits_row (A : Option Addr) (n c z : Nat) (bs : List Bool) (W : World) (hz : W.heap.size = z) (hr : L.Row () W z A bs) (hn : bs.length = n) (hb : n ≤ 1000000) :
    Calls Try.prog 60 #[.slice A n c] W fun e w' => e = .returned (.slice (some ⟨z, 0, none⟩) (need n) (need n)) ∧ w'.heap[z]? = some (.cells (blk .u8 (pk bs (need n))) 5 (0, 0)) ∧ Below z W w' := by
  subst hz; exact Bits_any A n c bs W hr hn hb

set_option maxHeartbeats 1000000 in
set_option maxRecDepth 100000 in
theorem rpForm_bits (q : Req) (r : Rep) (Ao As Ap Bo Bs Bf : Option Addr) (lo ls lp co cs cp mo ms mf eo es ef : Nat) (w : World) (h : Asked w w.heap.size q Ao As Ap lo ls lp) (hr : Repd w w.heap.size r Bo Bs Bf mo ms mf) (hc : q.c = 1 ∨ q.c = 2) (hm : mo ≤ 2000) :
    Calls Try.prog 32 #[.agg #[.int .i64 q.c, .int .i64 q.a, .int .i64 q.n, .slice Ao lo co, .slice As ls cs, .slice Ap lp cp], .agg #[.int .i64 r.x, .slice Bo mo eo, .slice Bs ms es, .slice Bf mf ef]] w (Makes .u8 5 w (q.c :: ((need mo : Nat) : Int) :: pk r.on (need mo))) := by
  obtain ⟨c, a, n, on, set, fl⟩ := q
  simp only at *
  have t0 := TB.new2 w #[.int .i64 c, .int .i64 a, .int .i64 n, .slice Ao lo co, .slice As ls cs, .slice Ap lp cp] #[.int .i64 r.x, .slice Bo mo eo, .slice Bs ms es, .slice Bf mf ef] 26 29
  have HSET := Lib.hid hr.on
  have HMS := Lib.hid hr.mo
  obtain ⟨m2, hm2⟩ : ∃ m2, need mo = m2 := ⟨_, rfl⟩
  have hm3 : m2 ≤ 255 := by rw [← hm2]; unfold need; omega
  have HM2 := Lib.hid hm2
  rw [hm2]
  have HWL : Hid ((pk r.on m2).length = m2) := Lib.hid (pk_length _ _)
  clear h hr hm2
  rcases hc with rfl | rfl
  · go_enter Try.func32, Try.ntmps32
    go_wp2_with fail
    go_region_held3 (fun w' => TB w w.heap.size (.cells #[.int .i64 1, .int .i64 a, .int .i64 n, .slice Ao lo co, .slice As ls cs, .slice Ap lp cp] 26 (0, 0)) (.cells #[.int .i64 r.x, .slice Bo mo eo, .slice Bs ms es, .slice Bf mf ef] 29 (0, 0)) w' ∧ w'.cell? ⟨w.heap.size, 0, none⟩ = some (.int .i64 1) ∧ w'.cell? ⟨w.heap.size + 1, 0, none⟩ = some (.int .i64 r.x) ∧ w'.cell? ⟨w.heap.size + 1, 1, none⟩ = some (.slice Bo mo eo) ∧ w'.cell? ⟨w.heap.size + 1, 2, none⟩ = some (.slice Bs ms es) ∧ w'.cell? ⟨w.heap.size + 1, 3, none⟩ = some (.slice Bf mf ef))
      ((first
        | exact ⟨t0.drew, t0.drew.r6.1, t0.drew.c4.1, t0.drew.c4.2.1, t0.drew.c4.2.2.1, t0.drew.c4.2.2.2.1⟩
        | exact ⟨t2, t2.r6.1, t2.c4.1, t2.c4.2.1, t2.c4.2.2.1, t2.c4.2.2.2.1⟩
        | exact ⟨t1, t1.r6.1, t1.c4.1, t1.c4.2.1, t1.c4.2.2.1, t1.c4.2.2.2.1⟩))
      (first
        | (go_at_call 60; refine (Bits_row Bo mo eo (w.heap.size + 1 + 1) r.on _ (by simp) ((HSET.out.below t0.drew.bel).more (by omega)) HMS.out (by omega)).mono ?_; rw [HM2.out]; rintro e w1 ⟨rfl, g1, b1⟩; have t1 := t0.drew.below2 b1 (by omega); have hg1 := block_lt g1)
        | (go_at_call 59; refine (rpCounted_any _ _ m2 m2 (pk r.on m2) _ ((Row.of_block g1 (pk r.on m2) (pk_wf _ _) (List.prefix_refl _)).more hg1) HWL.out hm3 (by omega)).mono ?_; rintro e w2 ⟨v2, rfl, own2, b2⟩; have t2 := t1.below b2))
    go_wp2
    go_ret
    exact ⟨_, rfl, own2.mono (by have := t1.lt; omega), t2.bel⟩
  · go_enter Try.func32, Try.ntmps32
    go_wp2_with fail
    go_region_held3 (fun w' => TB w w.heap.size (.cells #[.int .i64 2, .int .i64 a, .int .i64 n, .slice Ao lo co, .slice As ls cs, .slice Ap lp cp] 26 (0, 0)) (.cells #[.int .i64 r.x, .slice Bo mo eo, .slice Bs ms es, .slice Bf mf ef] 29 (0, 0)) w' ∧ w'.cell? ⟨w.heap.size, 0, none⟩ = some (.int .i64 2) ∧ w'.cell? ⟨w.heap.size + 1, 0, none⟩ = some (.int .i64 r.x) ∧ w'.cell? ⟨w.heap.size + 1, 1, none⟩ = some (.slice Bo mo eo) ∧ w'.cell? ⟨w.heap.size + 1, 2, none⟩ = some (.slice Bs ms es) ∧ w'.cell? ⟨w.heap.size + 1, 3, none⟩ = some (.slice Bf mf ef))
      ((first
        | exact ⟨t0.drew, t0.drew.r6.1, t0.drew.c4.1, t0.drew.c4.2.1, t0.drew.c4.2.2.1, t0.drew.c4.2.2.2.1⟩
        | exact ⟨t2, t2.r6.1, t2.c4.1, t2.c4.2.1, t2.c4.2.2.1, t2.c4.2.2.2.1⟩
        | exact ⟨t1, t1.r6.1, t1.c4.1, t1.c4.2.1, t1.c4.2.2.1, t1.c4.2.2.2.1⟩))
      (first
        | (go_at_call 60; refine (Bits_row Bo mo eo (w.heap.size + 1 + 1) r.on _ (by simp) ((HSET.out.below t0.drew.bel).more (by omega)) HMS.out (by omega)).mono ?_; rw [HM2.out]; rintro e w1 ⟨rfl, g1, b1⟩; have t1 := t0.drew.below2 b1 (by omega); have hg1 := block_lt g1)
        | (go_at_call 59; refine (rpCounted_any _ _ m2 m2 (pk r.on m2) _ ((Row.of_block g1 (pk r.on m2) (pk_wf _ _) (List.prefix_refl _)).more hg1) HWL.out hm3 (by omega)).mono ?_; rintro e w2 ⟨v2, rfl, own2, b2⟩; have t2 := t1.below b2))
    go_wp2
    go_ret
    exact ⟨_, rfl, own2.mono (by have := t1.lt; omega), t2.bel⟩
end Go.Proofs.Ytobhllcnljggiaa
namespace Go.Proofs.Ytobhllcnljggiaa
open Go.RowKit
set_option linter.unusedVariables false

theorem Own.front {k : IntKind} {e : TypeId} {w : World} {base n c m : Nat} {A : Option Addr} {xs : List Int} (h : Own k e w base (.slice A n c) xs) (hm : m ≤ xs.length) : Own k e w base (.slice A m c) (xs.take m) := by
  rcases h with ⟨h0, ⟨hv, hl⟩ | ⟨g, cap, cur, hv, h1, h2, h3, h4, h5, h6⟩⟩
  · have hx : xs = [] := List.eq_nil_of_length_eq_zero hl
    subst hx
    obtain rfl : m = 0 := by simpa using hm
    injection hv with a b c'
    subst a c'
    exact ⟨by simp, .inl ⟨rfl, rfl⟩⟩
  · injection hv with a b c'
    subst a c'
    refine ⟨by simp, .inr ⟨g, c, cur, ?_, h1, h2, ?_, h4, h5, ?_⟩⟩
    · simp [Nat.min_eq_left hm]
    · simp [Nat.min_eq_left hm]; omega
    · simp only [Nat.mul_one] at h6 ⊢
      have hlen : (xs.take m).length = m := by simp [Nat.min_eq_left hm]
      rw [hlen, List.map_take, ← h6, List.take_take, Nat.min_eq_left hm]

set_option maxHeartbeats 1000000 in
/-- The first five bytes of a request that is right. -/
theorem echo_any (q : Req) (Ao As Ap : Option Addr) (lo ls lp co cs cp : Nat) (w : World) (h : Asked w w.heap.size q Ao As Ap lo ls lp) (hk : chkQ q = 0) (h5 : 5 ≤ (putL q).length) :
    Calls Try.prog 63 #[.agg #[.int .i64 q.c, .int .i64 q.a, .int .i64 q.n, .slice Ao lo co, .slice As ls cs, .slice Ap lp cp]] w (Makes .u8 5 w ((putL q).take 5)) := by
  have bx := Bx.new w (.cells #[.int .i64 q.c, .int .i64 q.a, .int .i64 q.n, .slice Ao lo co, .slice As ls cs, .slice Ap lp cp] 26)
  have HP := Lib.hid (Put_any q Ao As Ap lo ls lp co cs cp _ (h.upAlloc (.cells #[.int .i64 q.c, .int .i64 q.a, .int .i64 q.n, .slice Ao lo co, .slice As ls cs, .slice Ap lp cp] 26)))
  rw [hk] at HP
  have H5 := Lib.hid h5
  clear h hk h5
  go_enter Try.func63, Try.ntmps63
  go_wp2_with fail
  refine HP.out.mono ?_
  rintro e w1 ⟨v1, rfl, own1, b1⟩
  obtain ⟨A1, c1, rfl, _, hle, _⟩ := own1.row (putL_wf q)
  have OW := Lib.hid ((own1.front H5.out).mono (base' := w.heap.size) (by simp))
  have bel := (bx.below b1).2
  obtain ⟨n1, hn1⟩ : ∃ n, (putL q).length = n := ⟨_, rfl⟩
  rw [hn1] at hle
  rw [hn1]
  have hc5 : (5 : Int) ≤ (c1 : Int) := by have := H5.out; omega
  clear own1 b1 bx hn1 HP
  go_wp2
  go_ret
  exact ⟨_, rfl, OW.out, bel⟩
end Go.Proofs.Ytobhllcnljggiaa
namespace Go.Proofs.Ytobhllcnljggiaa
open Go.RowKit
set_option linter.unusedVariables false
theorem own_form {k : IntKind} {e : TypeId} {w : World} {base : Nat} {v : Value} {xs : List Int} (h : Own k e w base v xs) : ∃ A n c, v = .slice A n c := by
  rcases h.2 with ⟨rfl, _⟩ | ⟨g, cap, cur, rfl, _⟩
  · exact ⟨_, _, _, rfl⟩
  · exact ⟨_, _, _, rfl⟩

end Go.Proofs.Ytobhllcnljggiaa
namespace Go.Proofs.Ytobhllcnljggiaa
open Go.RowKit
set_option linter.unusedVariables false

/-- The first k files as bytes, each behind its head. -/
def fbytes (fs : List (List Int)) : Nat → List Int
  | 0 => []
  | k + 1 => fbytes fs k ++ [((1 + 2 * (nthF fs k).length : Nat) : Int), 6] ++ wbytes (nthF fs k)
theorem partSays_any (n : Nat) (w : World) (h : n ≤ 127) : Calls Try.prog 89 #[.int .i64 n] w fun e w' => e = .returned (.int .u8 ((1 + 2 * n : Nat) : Int)) ∧ w' = w := by
  have e1 : IntKind.i64.wrap (2 * (n : Int)) = 2 * (n : Int) := IntWalk.i64_in _ (by omega)
  have e2 : IntKind.i64.wrap (1 + 2 * (n : Int)) = 1 + 2 * (n : Int) := IntWalk.i64_in _ (by omega)
  have e3 : IntKind.u8.wrap (1 + 2 * (n : Int)) = 1 + 2 * (n : Int) := by rw [IntKind.wrap_u8]; omega
  rw [show ((1 + 2 * n : Nat) : Int) = 1 + 2 * (n : Int) by omega]
  go_enter Try.func89, Try.ntmps89
  go_wp2
  go_ret
  exact ⟨rfl, rfl⟩
theorem fbytes_length (fs : List (List Int)) (k : Nat) (h : ∀ i, i < k → (nthF fs i).length ≤ 127) : (fbytes fs k).length ≤ 256 * k := by
  induction k with
  | zero => simp [fbytes]
  | succ k ih =>
    rw [fbytes, List.length_append, List.length_append, wbytes_length]
    have h1 := ih (fun i hi => h i (by omega))
    have h2 := h k (by omega)
    simp only [List.length_cons, List.length_nil]
    omega

set_option maxHeartbeats 2000000 in
set_option maxRecDepth 100000 in
theorem fileBytes_any (A : Option Addr) (n c : Nat) (fs : List (List Int)) (w : World) (hr : FRow w w.heap.size A fs) (hn : fs.length = n) (hb : n ≤ 100) (hl : ∀ i, i < n → (nthF fs i).length ≤ 127) :
    Calls Try.prog 62 #[.slice A n c] w (Makes .u8 5 w (fbytes fs n)) := by
  have HR := Lib.hid hr
  have HN := Lib.hid hn
  have HL := Lib.hid hl
  clear hr hn hl
  go_enter Try.func62, Try.ntmps62
  go_wp2
  go_loopw [3, 5, 8] (fun v _ i wr => ∃ k : Nat, k ≤ n ∧ i = .int .i64 k ∧ Own .u8 5 wr w.heap.size v (fbytes fs k) ∧ Below w.heap.size w wr) (fun _ _ i _ => n - (intOf i).toNat)
  case atStart => exact ⟨0, by omega, rfl, Own.nil _ _ _ _, Below.refl _ _⟩
  case round =>
    obtain ⟨k, hk, rfl, hown, hbel⟩ := hrel
    by_cases hlt : k < n
    · obtain ⟨b, o, Ai, ci, rfl, hb1, hc0, r0, hle⟩ := HR.out.at_ (i := k) (by have := HN.out; omega)
      have hc1 := (hbel.cell (p := ⟨b, o + k, none⟩) hb1).trans hc0
      clear hc0
      have hlen := HL.out k hlt
      have HB : Hid (fbytes fs (k + 1) = fbytes fs k ++ [((1 + 2 * (nthF fs k).length : Nat) : Int), 6] ++ wbytes (nthF fs k)) := Lib.hid rfl
      have HF : Hid ((fbytes fs k).length ≤ 25600) := Lib.hid (by have := fbytes_length fs k (fun i hi => HL.out i (by omega)); omega)
      generalize nthF fs k = xs at *
      obtain ⟨z, hz⟩ : ∃ z, Hid (xs.length = z) := ⟨_, Lib.hid rfl⟩
      rw [hz.out] at hc1 hlen HB hle
      obtain ⟨P, hP⟩ : ∃ P, Hid (fbytes fs k = P) := ⟨_, Lib.hid rfl⟩
      rw [hP.out] at hown HB HF
      have hsz := hbel.size
      have hz2 := hz.out
      obtain ⟨p, hp⟩ : ∃ p, Hid (((1 + 2 * z : Nat) : Int) = p) := ⟨_, Lib.hid rfl⟩
      have hwp : Hid (∀ y ∈ [p, 6], (Lit.int .u8 y).wf = true) := Lib.hid (by
        intro y hy
        simp only [List.mem_cons, List.not_mem_nil, or_false] at hy
        rcases hy with rfl | rfl
        · rw [← hp.out]; exact wf_byte _ (by omega)
        · decide)
      rw [hp.out] at HB
      obtain ⟨Av, nv, cv, hv⟩ := own_form hown
      subst hv
      have R0 := Lib.hid r0
      clear r0 hz2
      go_wp2_with fail
      refine (partSays_any z _ hlen).mono ?_
      rintro e w9 ⟨rfl, hw9⟩
      rw [hw9, hp.out]
      clear hw9
      go_wp2_with (at_builtin; refine wpList_append_row _ rfl (.tmp 12) (.tmp 16) 34 rfl w.heap.size .u8 5 1 Try.underlying34 info_u8 (.slice Av nv cv) P rfl (hown.alloc _) _ _ 2 2 [p, 6] rfl (Row.lit_at .u8 wr 5 [p, 6] hwp.out rfl) rfl (by have := HF.out; omega) (by have := HF.out; simp only [maxLen]; omega) (by simp; omega) ?_; intro v1 w1 hown1 hg1)
      have hbel1 := Below.own1 hbel hsz hown hg1
      have hsz1 := hbel1.size
      obtain ⟨Aw, nw, cw, hv⟩ := own_form hown1
      subst hv
      clear hown hg1 hc1
      go_wp2_with fail
      refine (Bytes_any Ai z ci xs _ ((R0.out.below hbel1).more hsz1) hz.out (by omega)).mono ?_
      rintro e w2 ⟨rfl, g2, b2⟩
      have hg2 := block_lt g2
      have hrow2 := Lib.hid ((Row.of_block g2 (wbytes xs) (wbytes_wf xs) (List.prefix_refl _)).more hg2)
      have own2 := hown1.below b2 (Nat.le_refl _)
      have hbel2 := hbel1.trans (b2.mono hsz1)
      have hsz2 := hbel2.size
      have HWL : Hid ((wbytes xs).length = 2 * z) := Lib.hid (by rw [wbytes_length, hz.out])
      clear hown1 g2 b2
      go_wp2_with (at_builtin; refine wpList_append_row _ rfl (.tmp 18) (.tmp 20) 34 rfl w.heap.size .u8 5 1 Try.underlying34 info_u8 (.slice Aw nw cw) (P ++ [p, 6]) rfl own2 _ _ (2 * z) (2 * z) (wbytes xs) rfl hrow2.out HWL.out (by have := HF.out; simp; omega) (by have := HF.out; simp [maxLen]; omega) hsz2 ?_; intro v3 w3 hown3 hg3)
      have hbel3 := Below.own hbel2 hsz2 own2 hg3
      rw [← HB.out] at hown3
      clear own2 hg3 hbel2
      (try go_wp2)
      go_roundw
      case rel => exact ⟨k + 1, by omega, by go_num, hown3, hbel3⟩
      case measure => simp [intOf]; omega
    · obtain rfl : k = n := by omega
      go_wp2
      go_ret
      exact ⟨_, rfl, hown, hbel⟩
end Go.Proofs.Ytobhllcnljggiaa
namespace Go.Proofs.Ytobhllcnljggiaa
open Go.RowKit
set_option linter.unusedVariables false

theorem fbytes_wf (fs : List (List Int)) (k : Nat) (h : ∀ i, i < k → (nthF fs i).length ≤ 127) : ∀ x ∈ fbytes fs k, (Lit.int .u8 x).wf = true := by
  induction k with
  | zero => simp [fbytes]
  | succ k ih =>
    intro x hx
    rw [fbytes] at hx
    rcases List.mem_append.1 hx with hx | hx
    · rcases List.mem_append.1 hx with hx | hx
      · exact ih (fun i hi => h i (by omega)) x hx
      · simp only [List.mem_cons, List.not_mem_nil, or_false] at hx
        rcases hx with rfl | rfl
        · exact wf_byte _ (by have := h k (by omega); omega)
        · decide
    · exact wbytes_wf _ x hx

set_option maxHeartbeats 1000000 in
set_option maxRecDepth 100000 in
theorem rpForm_file (q : Req) (r : Rep) (Ao As Ap Bo Bs Bf : Option Addr) (lo ls lp co cs cp mo ms mf eo es ef : Nat) (w : World) (h : Asked w w.heap.size q Ao As Ap lo ls lp) (hr : Repd w w.heap.size r Bo Bs Bf mo ms mf) (hc : q.c = 20) (hm : mf ≤ 100) (hl : ∀ i, i < mf → (nthF r.fs i).length ≤ 127) (hf : (fbytes r.fs mf).length ≤ 255) :
    Calls Try.prog 32 #[.agg #[.int .i64 q.c, .int .i64 q.a, .int .i64 q.n, .slice Ao lo co, .slice As ls cs, .slice Ap lp cp], .agg #[.int .i64 r.x, .slice Bo mo eo, .slice Bs ms es, .slice Bf mf ef]] w (Makes .u8 5 w (20 :: (((fbytes r.fs mf).length : Nat) : Int) :: fbytes r.fs mf)) := by
  obtain ⟨c, a, n, on, set, fl⟩ := q
  simp only at *
  subst hc
  have t0 := TB.new2 w #[.int .i64 20, .int .i64 a, .int .i64 n, .slice Ao lo co, .slice As ls cs, .slice Ap lp cp] #[.int .i64 r.x, .slice Bo mo eo, .slice Bs ms es, .slice Bf mf ef] 26 29
  have HFS := Lib.hid hr.fs
  have HMF := Lib.hid hr.mf
  have HL := Lib.hid hl
  have HW := Lib.hid (fbytes_wf r.fs mf hl)
  obtain ⟨m2, hm2⟩ : ∃ m2, (fbytes r.fs mf).length = m2 := ⟨_, rfl⟩
  have hm3 : m2 ≤ 255 := by omega
  have HM2 := Lib.hid hm2
  rw [hm2]
  obtain ⟨F, hF⟩ : ∃ F, Hid (fbytes r.fs mf = F) := ⟨_, Lib.hid rfl⟩
  rw [hF.out] at HM2 HW ⊢
  clear h hr hm2 hl hf
  go_enter Try.func32, Try.ntmps32
  go_wp2_with fail
  go_region_held3 (fun w' => TB w w.heap.size (.cells #[.int .i64 20, .int .i64 a, .int .i64 n, .slice Ao lo co, .slice As ls cs, .slice Ap lp cp] 26 (0, 0)) (.cells #[.int .i64 r.x, .slice Bo mo eo, .slice Bs ms es, .slice Bf mf ef] 29 (0, 0)) w' ∧ w'.cell? ⟨w.heap.size, 0, none⟩ = some (.int .i64 20) ∧ w'.cell? ⟨w.heap.size + 1, 0, none⟩ = some (.int .i64 r.x) ∧ w'.cell? ⟨w.heap.size + 1, 1, none⟩ = some (.slice Bo mo eo) ∧ w'.cell? ⟨w.heap.size + 1, 2, none⟩ = some (.slice Bs ms es) ∧ w'.cell? ⟨w.heap.size + 1, 3, none⟩ = some (.slice Bf mf ef))
    ((first
      | exact ⟨t0.drew, t0.drew.r6.1, t0.drew.c4.1, t0.drew.c4.2.1, t0.drew.c4.2.2.1, t0.drew.c4.2.2.2.1⟩
      | exact ⟨t2, t2.r6.1, t2.c4.1, t2.c4.2.1, t2.c4.2.2.1, t2.c4.2.2.2.1⟩
      | exact ⟨t1, t1.r6.1, t1.c4.1, t1.c4.2.1, t1.c4.2.2.1, t1.c4.2.2.2.1⟩))
    (first
      | (go_at_call 62; refine (fileBytes_any Bf mf ef r.fs _ ((HFS.out.below t0.drew.bel).more t0.drew.bel.size) HMF.out hm HL.out).mono ?_; rw [hF.out]; rintro e w1 ⟨v1, rfl, own1, b1⟩; have t1 := t0.drew.below b1; obtain ⟨A1, c1, hv1, row1, _, _⟩ := own1.row HW.out; rw [HM2.out] at hv1; subst hv1)
      | (go_at_call 59; refine (rpCounted_any _ _ m2 c1 F _ row1 HM2.out hm3 (by omega)).mono ?_; rintro e w2 ⟨v2, rfl, own2, b2⟩; have t2 := t1.below b2))
  go_wp2
  go_ret
  exact ⟨_, rfl, own2.mono (by have := t1.lt; omega), t2.bel⟩

set_option maxHeartbeats 1000000 in
set_option maxRecDepth 100000 in
theorem rpForm_echo (q : Req) (r : Rep) (Ao As Ap Bo Bs Bf : Option Addr) (lo ls lp co cs cp mo ms mf eo es ef : Nat) (w : World) (h : Asked w w.heap.size q Ao As Ap lo ls lp) (hr : Repd w w.heap.size r Bo Bs Bf mo ms mf) (hk : chkQ q = 0) (h5 : 5 ≤ (putL q).length) (n1 : q.c ≠ 1) (n2 : q.c ≠ 2) (n3 : q.c ≠ 3) (n4 : q.c ≠ 4) (n20 : q.c ≠ 20) :
    Calls Try.prog 32 #[.agg #[.int .i64 q.c, .int .i64 q.a, .int .i64 q.n, .slice Ao lo co, .slice As ls cs, .slice Ap lp cp], .agg #[.int .i64 r.x, .slice Bo mo eo, .slice Bs ms es, .slice Bf mf ef]] w (Makes .u8 5 w ((putL q).take 5)) := by
  have t0 := TB.new2 w #[.int .i64 q.c, .int .i64 q.a, .int .i64 q.n, .slice Ao lo co, .slice As ls cs, .slice Ap lp cp] #[.int .i64 r.x, .slice Bo mo eo, .slice Bs ms es, .slice Bf mf ef] 26 29
  have HE := Lib.hid (echo_any q Ao As Ap lo ls lp co cs cp _ ((h.below t0.bel).more t0.bel.size) hk h5)
  have b1 : (q.c == 1) = false := beq_false_of_ne n1
  have b2 : (q.c == 2) = false := beq_false_of_ne n2
  have b3 : (q.c == 3) = false := beq_false_of_ne n3
  have b4 : (q.c == 4) = false := beq_false_of_ne n4
  have b20 : (q.c == 20) = false := beq_false_of_ne n20
  have hsz := t0.bel.size
  have bel := t0.bel
  clear h hr hk h5 n1 n2 n3 n4 n20 t0
  go_enter Try.func32, Try.ntmps32
  go_wp2_with fail
  refine HE.out.mono ?_
  rintro e w2 ⟨v2, rfl, own2, b2⟩
  go_wp2
  go_ret
  exact ⟨_, rfl, own2.mono hsz, bel.trans (b2.mono hsz)⟩
end Go.Proofs.Ytobhllcnljggiaa
namespace Go.Proofs.Ytobhllcnljggiaa
open Go.RowKit
set_option linter.unusedVariables false

/-- The form of an answer that is right and no exception. -/
def formR (q : Req) (r : Rep) : List Int :=
  if q.c = 1 ∨ q.c = 2 then q.c :: ((need r.on.length : Nat) : Int) :: pk r.on (need r.on.length)
  else if q.c = 3 ∨ q.c = 4 then q.c :: 2 * (r.set.length : Int) :: wbytes r.set
  else if q.c = 20 then 20 :: (((fbytes r.fs r.fs.length).length : Nat) : Int) :: fbytes r.fs r.fs.length
  else (putL q).take 5
/-- An answer as a PDU. -/
def putR (q : Req) (r : Rep) : List Int := if chkR q r ≠ 0 then [] else if r.x ≠ 0 then [q.c + 128, r.x] else formR q r

theorem fits_true {fl : List Int} {fs : List (List Int)} (h : fitsB fl fs = true) : fl.length = 3 * fs.length ∧ ∀ i, i < fs.length → ((nthF fs i).length : Int) = nth fl (3 * i + 2) := by
  rw [fitsB, Bool.and_eq_true, decide_eq_true_eq, List.all_eq_true] at h
  exact ⟨h.1, fun i hi => of_decide_eq_true (h.2 i (List.mem_range.2 hi))⟩
theorem fbytes_sum (fl : List Int) (fs : List (List Int)) (k : Nat) (h : ∀ i, i < k → ((nthF fs i).length : Int) = nth fl (3 * i + 2)) : (((fbytes fs k).length : Nat) : Int) = sumTo fl k := by
  induction k with
  | zero => rfl
  | succ k ih =>
    rw [fbytes, sumTo, ← ih (fun i hi => h i (by omega)), ← h k (by omega), List.length_append, List.length_append, wbytes_length]
    simp only [List.length_cons, List.length_nil]
    omega
theorem sumTo_part (fl : List Int) (k : Nat) (h : ∀ i, i < k → 0 ≤ nth fl (3 * i + 2)) : (0 ≤ sumTo fl k) ∧ ∀ i, i < k → 2 + 2 * nth fl (3 * i + 2) ≤ sumTo fl k := by
  induction k with
  | zero => exact ⟨Int.le_refl _, fun i hi => absurd hi (by omega)⟩
  | succ k ih =>
    obtain ⟨h1, h2⟩ := ih (fun i hi => h i (by omega))
    have h3 := h k (by omega)
    rw [sumTo]
    refine ⟨by omega, fun i hi => ?_⟩
    rcases Nat.lt_succ_iff_lt_or_eq.1 hi with h4 | h4
    · have := h2 i h4; omega
    · subst h4; omega
/-- What a right answer that is no exception holds. -/
theorem chkR_zero {q : Req} {r : Rep} (h : chkR q r = 0) (hx : r.x = 0) : chkQ q = 0 ∧ manyB q r = true := by
  unfold chkR at h
  by_cases hk : chkQ q ≠ 0
  · rw [if_pos hk] at h; exact absurd h hk
  · rw [if_neg hk, if_neg (show ¬ r.x ≠ 0 by simp [hx])] at h
    refine ⟨by simpa using hk, ?_⟩
    split at h
    · cases h
    · split at h
      · cases h
      · rename_i h2; simpa using h2
theorem rep_bits {q : Req} {r : Rep} (h : chkR q r = 0) (hx : r.x = 0) (hc : q.c = 1 ∨ q.c = 2) : r.on.length ≤ 2000 := by
  obtain ⟨h1, h2⟩ := chkR_zero h hx
  have hz := (chk_zero h1).2.2.2.1
  unfold manyB at h2
  rw [if_pos hc] at h2
  have h2 := of_decide_eq_true h2
  rcases hc with hc | hc <;> rw [hc] at hz <;> simp [many, mm] at hz <;> omega
theorem rep_words {q : Req} {r : Rep} (h : chkR q r = 0) (hx : r.x = 0) (hc : q.c = 3 ∨ q.c = 4) : r.set.length ≤ 125 := by
  obtain ⟨h1, h2⟩ := chkR_zero h hx
  have hz := (chk_zero h1).2.2.2.1
  unfold manyB at h2
  rw [if_neg (show ¬ (q.c = 1 ∨ q.c = 2) by omega), if_pos hc] at h2
  have h2 := of_decide_eq_true h2
  rcases hc with hc | hc <;> rw [hc] at hz <;> simp [many, mm] at hz <;> omega
theorem rep_files {q : Req} {r : Rep} (h : chkR q r = 0) (hx : r.x = 0) (hc : q.c = 20) : r.fs.length ≤ 35 ∧ (∀ i, i < r.fs.length → (nthF r.fs i).length ≤ 127) ∧ (fbytes r.fs r.fs.length).length ≤ 255 := by
  obtain ⟨h1, h2⟩ := chkR_zero h hx
  have hz := chk_zero h1
  unfold manyB at h2
  rw [if_neg (show ¬ (q.c = 1 ∨ q.c = 2) by omega), if_neg (show ¬ (q.c = 3 ∨ q.c = 4) by omega), if_pos hc] at h2
  obtain ⟨hl, hi⟩ := fits_true h2
  obtain ⟨hok, hs⟩ := hz.2.2.2.2.1 hc
  have hm := hz.2.2.2.1
  rw [hc] at hm
  rw [show q.fl.length / 3 = r.fs.length by omega] at hok hs hm
  have hm2 : r.fs.length ≤ 35 := by simp [many, mm] at hm; omega
  have hp := sumTo_part q.fl r.fs.length (fun i h => by rw [← hi i h]; omega)
  have hsum := fbytes_sum q.fl r.fs r.fs.length hi
  exact ⟨hm2, fun i h => by have h3 := hp.2 i h; rw [← hi i h] at h3; omega, by omega⟩
theorem putL_five {q : Req} (h : chkQ q = 0) (n1 : q.c ≠ 20) : 5 ≤ (putL q).length := by
  have hm := (chk_zero h).1
  rw [putL, if_pos h, pduQ]
  unfold pduOf tl
  rcases mm_pos hm with h | h | h | h | h | h | h | h | h
  all_goals first | (exact absurd h n1) | (rw [h]; simp [wbytes_length]; done) | (simp [h, wbytes_length]; omega) | (simp [h, wbytes_length])

theorem rpForm_any (q : Req) (r : Rep) (Ao As Ap Bo Bs Bf : Option Addr) (lo ls lp co cs cp mo ms mf eo es ef : Nat) (w : World) (h : Asked w w.heap.size q Ao As Ap lo ls lp) (hr : Repd w w.heap.size r Bo Bs Bf mo ms mf) (hk : chkR q r = 0) (hx : r.x = 0) :
    Calls Try.prog 32 #[.agg #[.int .i64 q.c, .int .i64 q.a, .int .i64 q.n, .slice Ao lo co, .slice As ls cs, .slice Ap lp cp], .agg #[.int .i64 r.x, .slice Bo mo eo, .slice Bs ms es, .slice Bf mf ef]] w (Makes .u8 5 w (formR q r)) := by
  have hq := (chkR_zero hk hx).1
  unfold formR
  by_cases h1 : q.c = 1 ∨ q.c = 2
  · rw [if_pos h1, hr.mo]
    exact rpForm_bits q r Ao As Ap Bo Bs Bf lo ls lp co cs cp mo ms mf eo es ef w h hr h1 (by have := rep_bits hk hx h1; have := hr.mo; omega)
  · rw [if_neg h1]
    by_cases h2 : q.c = 3 ∨ q.c = 4
    · rw [if_pos h2, hr.ms]
      exact rpForm_words q r Ao As Ap Bo Bs Bf lo ls lp co cs cp mo ms mf eo es ef w h hr h2 (by have := rep_words hk hx h2; have := hr.ms; omega)
    · rw [if_neg h2]
      by_cases h3 : q.c = 20
      · obtain ⟨f1, f2, f3⟩ := rep_files hk hx h3
        rw [hr.mf] at f1 f2 f3
        rw [if_pos h3, hr.mf]
        exact rpForm_file q r Ao As Ap Bo Bs Bf lo ls lp co cs cp mo ms mf eo es ef w h hr h3 (by omega) f2 f3
      · rw [if_neg h3]
        exact rpForm_echo q r Ao As Ap Bo Bs Bf lo ls lp co cs cp mo ms mf eo es ef w h hr hq (putL_five hq h3) (by omega) (by omega) (by omega) (by omega) h3
end Go.Proofs.Ytobhllcnljggiaa
namespace Go.Proofs.Ytobhllcnljggiaa
open Go.RowKit
set_option linter.unusedVariables false

/-- The slice v is nil and xs empty, or v begins a block of the call's own, whose cells are the integers xs, and others behind them. -/
def KOwn (k : IntKind) (e : TypeId) (w : World) (base : Nat) (v : Value) (xs : List Int) : Prop :=
  (v = .slice none 0 0 ∧ xs = []) ∨
  ∃ (g n cap : Nat) (r : List Int), v = .slice (some ⟨g, 0, none⟩) n cap ∧ base ≤ g ∧ xs.length = n ∧ w.heap[g]? = some (.cells (blk k (xs ++ r)) e (0, 0)) ∧ n ≤ cap ∧ cap ≤ maxLen ∧ xs.length + r.length = cap ∧ (∀ x ∈ r, (Lit.int k x).wf = true)
theorem KOwn.nil (k : IntKind) (e : TypeId) (w : World) (base : Nat) : KOwn k e w base (.slice none 0 0) [] := .inl ⟨rfl, rfl⟩
theorem KOwn.below {k : IntKind} {e : TypeId} {w w' : World} {base B : Nat} {v : Value} {xs : List Int} (h : KOwn k e w base v xs) (hb : Below B w w') (hB : w.heap.size ≤ B) : KOwn k e w' base v xs := by
  rcases h with h | ⟨g, n, cap, r, h1, h2, h3, h4, h5⟩
  · exact .inl h
  · exact .inr ⟨g, n, cap, r, h1, h2, h3, (hb.block g (by have := block_lt h4; omega)).trans h4, h5⟩
theorem KOwn.drewN {k : IntKind} {e : TypeId} {w : World} {base : Nat} {v : Value} {xs : List Int} (h : KOwn k e w base v xs) (n : Nat) : KOwn k e (w.drewN n) base v xs := h
theorem KOwn.mono {k : IntKind} {e : TypeId} {w : World} {base base' : Nat} {v : Value} {xs : List Int} (h : KOwn k e w base v xs) (hb : base' ≤ base) : KOwn k e w base' v xs := by
  rcases h with h | ⟨g, n, cap, r, h1, h2, h3⟩
  · exact .inl h
  · exact .inr ⟨g, n, cap, r, h1, by omega, h3⟩
theorem KOwn.block {k : IntKind} {e : TypeId} {w : World} {base : Nat} {v : Value} {xs : List Int} (h : KOwn k e w base v xs) : ∀ g, v.ownBlock = some g → base ≤ g ∧ g < w.heap.size := by
  intro g hg
  rcases h with ⟨rfl, _⟩ | ⟨g', n, cap, r, rfl, h2, h3, h4, h5⟩
  · cases hg
  · injection hg with hg
    subst hg
    exact ⟨h2, block_lt h4⟩
theorem KOwn.own {k : IntKind} {e : TypeId} {w : World} {base : Nat} {v : Value} {xs : List Int} (h : KOwn k e w base v xs) : Own k e w base v xs := by
  rcases h with ⟨rfl, rfl⟩ | ⟨g, n, cap, r, rfl, h2, h3, h4, h5, h6, h7, _⟩
  · exact Own.nil _ _ _ _
  · subst h3
    refine ⟨by simp, .inr ⟨g, cap, _, rfl, h2, h4, h5, h6, by rw [blk_size, List.length_append]; omega, ?_⟩⟩
    rw [Nat.mul_one]
    simp only [blk, List.map_append]
    rw [List.take_left' (by simp)]
theorem KOwn.row {k : IntKind} {e : TypeId} {w : World} {base : Nat} {v : Value} {xs : List Int} (h : KOwn k e w base v xs) (hw : ∀ x ∈ xs, (Lit.int k x).wf = true) :
    ∃ A c, v = .slice A xs.length c ∧ Row k w w.heap.size A xs ∧ xs.length ≤ c ∧ c ≤ maxLen := h.own.row hw
theorem KOwn.kept {k : IntKind} {e : TypeId} {w w' : World} {base : Nat} {v : Value} {xs : List Int} {row : Option Nat} (h : KOwn k e w base v xs) (hg : w.grownBy w' row) (hne : v.ownBlock = none ∨ v.ownBlock ≠ row) : KOwn k e w' base v xs := by
  rcases h with h | ⟨g, n, cap, r, rfl, h2, h3, h4, h5⟩
  · exact .inl h
  · refine .inr ⟨g, n, cap, r, rfl, h2, h3, (hg.block g (block_lt h4) ?_).trans h4, h5⟩
    rcases hne with h | h
    · cases h
    · exact h

section
variable {P : Program}
theorem zero_one (k : IntKind) (m : Nat) : Builtin.zeroCells (Value.int k 0).cells m = blk k (List.replicate m 0) := by
  have h := toList_madeCells_one (Value.int k 0) m
  apply Array.toList_inj.1
  show (madeCells (Value.int k 0).cells (m * 1)).toList = _
  rw [Nat.mul_one, show (Value.int k 0).cells = #[Value.int k 0] from rfl, h]
  simp [blk]
theorem run_append_full (w : World) (t : TypeId) (k : IntKind) (e : TypeId) (bytes : Nat) (ht : P.underlying t = some (.slice e)) (hi : (P.info? e).map (fun i => (i.zero, i.size, i.bytes)) = some (some (.int k 0), 1, bytes))
    (g n : Nat) (xs : List Int) (hg : w.heap[g]? = some (.cells (blk k xs) e (0, 0))) (hn : xs.length = n) (B : Nat) (A : Option Addr) (m c : Nat) (ys : List Int) (hr : Row k w B A ys) (hm : ys.length = m) (h1 : 1 ≤ m)
    (hb : (n + m) * bytes ≤ 140737488355328) (h63 : n + m ≤ maxLen) :
    ∃ cap, (∀ ty, (Builtin.append_ #[t, t] ty #[.slice (some ⟨g, 0, none⟩) n n, .slice A m c]).run P w = .ok (.slice (some ⟨w.heap.size, 0, none⟩) (n + m) cap) (w.drew.alloc (.cells (blk k (xs ++ ys ++ List.replicate (cap - (n + m)) 0)) e))) ∧ n + m ≤ cap ∧ cap ≤ maxLen := by
  obtain ⟨i, hi1, hz, hsz, hby⟩ := info_parts hi
  have h64 := h63
  simp only [maxLen] at h64
  obtain ⟨b, o, rfl, _, hc⟩ := hr.2 (by omega)
  have holds : ∀ j u, (xs.map (Value.int k))[j]? = some u → w.cell? ((⟨g, 0, none⟩ : Addr).add j) = some u := by
    intro j u hu
    rw [Go.WideShapes.add_plain, Nat.zero_add, cell_of_row w g j _ _ _ hg]
    simpa [blk] using hu
  have hnews : ∀ j u, (ys.map (Value.int k))[j]? = some u → w.cell? ((⟨b, o, none⟩ : Addr).add j) = some u := by
    intro j u hu
    rw [List.getElem?_map] at hu
    by_cases hj : j < ys.length
    · rw [List.getElem?_eq_getElem hj] at hu
      rw [Go.WideShapes.add_plain, hc j hj, nth_eq ys j hj]
      exact hu
    · rw [List.getElem?_eq_none (by omega)] at hu
      cases hu
  have hr := fun ty => run_append_grow (P := P) w t ty e i _ ht hi1 hz ⟨g, 0, none⟩ n n (xs.map (Value.int k)) (by rw [hsz]; simp; omega) holds ⟨b, o, none⟩ m c (ys.map (Value.int k)) (by rw [hsz]; simp; omega) hnews (by omega) (by omega) (growslice_fits (by omega) (by rw [hby]; omega))
  have hge := grownCap_ge w (n + m) n e
  refine ⟨grownCap w (n + m) n e, fun ty => ?_, hge, grownCap_le_maxLen w (n + m) n e h63⟩
  rw [hr ty, zero_one]
  congr 3
  apply Array.toList_inj.1
  simp [blk]
/-- An append whose outcome is known. -/
theorem wpList_append_run {ops : Array Oper} {rest : List Oper} {o : Oper} {a : Act} {Q : Exit → Act → World → Prop} (w : World) (hgd : o.guard = none) (s x : Operand) (t : TypeId)
    (ho : o.op = .call { callee := .builtin .append, args := #[s, x], argTypes := #[t, t] }) (v u v' : Value) (w' : World) (hs : a.eval s = v) (hx : a.eval x = u)
    (hrun : ∀ ty, (Builtin.append_ #[t, t] ty #[v, u]).run P w = .ok v' w') (h : wpList P ops Q rest (a.put o.dst v') w') : wpList P ops Q (o :: rest) a w := by
  refine wpList_plain hgd fun K hK => ?_
  unfold Oper.wp
  simp [execOp, ho, resolve, invoke, builtin, hs, hx, hrun, Result.andThen]
  exact hK _ _ h
theorem step_append_run {ops : Array Oper} {o : Oper} {a : Act} {K : Act → World → Prop} {Q : Exit → Act → World → Prop} {E : Prop} (w : World) (hgd : o.guard = none) (s x : Operand) (t : TypeId)
    (ho : o.op = .call { callee := .builtin .append, args := #[s, x], argTypes := #[t, t] }) (v u v' : Value) (w' : World) (hs : a.eval s = v) (hx : a.eval x = u)
    (hrun : ∀ ty, (Builtin.append_ #[t, t] ty #[v, u]).run P w = .ok v' w') (h : K (a.put o.dst v') w') :
    if Region.wanted o (yielded ops a.tmps) = true then Oper.wp P o a w K Q else E := by
  have hw : Region.wanted o (yielded ops a.tmps) = true := by simp [Region.wanted, hgd]
  rw [if_pos hw]
  unfold Oper.wp execOp
  simp only [ho, resolve, invoke, builtin, Sem.run_bind, Sem.run_pure, Result.andThen_ok, List.map_toArray, List.map_cons, List.map_nil, hs, hx, hrun]
  exact h
end
end Go.Proofs.Ytobhllcnljggiaa
namespace Go.Proofs.Ytobhllcnljggiaa
open Go.RowKit
set_option linter.unusedVariables false

/-- A slice that fills a block whose cells are the integers xs. -/
def KFull (k : IntKind) (e : TypeId) (w : World) (base : Nat) (v : Value) (xs : List Int) : Prop :=
  ∃ g n : Nat, v = .slice (some ⟨g, 0, none⟩) n n ∧ base ≤ g ∧ xs.length = n ∧ n ≤ maxLen ∧ w.heap[g]? = some (.cells (blk k xs) e (0, 0))
theorem KFull.laid {k : IntKind} {t : TypeId} {w : World} {base g : Nat} {l : List Int} {n : Nat} (hg : w.heap[g]? = some (.cells (blk k l) t (0, 0))) (hb : base ≤ g) (hl : l.length = n) (hm : n ≤ maxLen) : KFull k t w base (.slice (some ⟨g, 0, none⟩) n n) l :=
  ⟨g, n, rfl, hb, hl, hm, hg⟩
theorem KFull.kown {k : IntKind} {e : TypeId} {w : World} {base : Nat} {v : Value} {xs : List Int} (h : KFull k e w base v xs) : KOwn k e w base v xs := by
  obtain ⟨g, n, rfl, hb, hl, hm, hg⟩ := h
  exact .inr ⟨g, n, n, [], rfl, hb, hl, by rw [List.append_nil]; exact hg, Nat.le_refl _, hm, by simpa using hl, by simp⟩
theorem zerosK_wf (k : IntKind) (m : Nat) (hk : (Lit.int k 0).wf = true) : ∀ x ∈ List.replicate m (0 : Int), (Lit.int k x).wf = true := fun x hx => by rw [List.eq_of_mem_replicate hx]; exact hk
theorem wf_zero (k : IntKind) : (Lit.int k 0).wf = true := by cases k <;> decide
/-- What is taken of a list of the call's own. -/
theorem KOwn.front {k : IntKind} {e : TypeId} {w : World} {base n c m : Nat} {A : Option Addr} {xs : List Int} (h : KOwn k e w base (.slice A n c) xs) (hw : ∀ x ∈ xs, (Lit.int k x).wf = true) (hm : m ≤ xs.length) : KOwn k e w base (.slice A m c) (xs.take m) := by
  rcases h with ⟨hv, rfl⟩ | ⟨g, n', cap, r, hv, h1, h2, h3, h4, h5, h6, h7⟩
  · injection hv with a b c'
    subst a c'
    obtain rfl : m = 0 := by simpa using hm
    exact .inl ⟨rfl, rfl⟩
  · injection hv with a b c'
    subst a c'
    refine .inr ⟨g, m, c, xs.drop m ++ r, rfl, h1, by rw [List.length_take]; omega, by rw [← List.append_assoc, List.take_append_drop]; exact h3, by omega, h5, by simp; omega, fun x hx => ?_⟩
    rcases List.mem_append.1 hx with hx | hx
    · exact hw x (List.mem_of_mem_drop hx)
    · exact h7 x hx
def MakesK (w : World) (xs : List Int) (e : Ending) (w' : World) : Prop := ∃ v, e = .returned v ∧ KOwn .u8 5 w' w.heap.size v xs ∧ Below w.heap.size w w'
def MakesK2 (w : World) (xs : List Int) (e : Ending) (w' : World) : Prop := ∃ v, e = .returned (.tuple #[v, .int .i64 0]) ∧ KOwn .u8 5 w' w.heap.size v xs ∧ Below w.heap.size w w'
/-- A call returns a pair: a list of its own, its block known whole, and a number. -/
def GivesK (w : World) (l : List Int) (err : Int) (e : Ending) (w' : World) : Prop :=
  ∃ v, e = .returned (.tuple #[v, .int .i64 err]) ∧ KOwn .u8 5 w' w.heap.size v l ∧ Below w.heap.size w w'

section
variable {P : Program}
theorem run_append_rowK {ys : List Int} (h1 : 1 ≤ ys.length) (w : World) (base : Nat) (t : TypeId) (k : IntKind) (e : TypeId) (bytes : Nat) (ht : P.underlying t = some (.slice e)) (hi : (P.info? e).map (fun i => (i.zero, i.size, i.bytes)) = some (some (.int k 0), 1, bytes))
    (v : Value) (xs : List Int) (hown : KFull k e w base v xs) (B : Nat) (A : Option Addr) (m c : Nat) (hr : Row k w B A ys) (hm : ys.length = m)
    (hbytes : (xs.length + m) * bytes ≤ 140737488355328) (h63 : xs.length + m ≤ maxLen) (hbase : base ≤ w.heap.size) :
    ∃ v' w', (∀ ty, (Builtin.append_ #[t, t] ty #[v, .slice A m c]).run P w = .ok v' w') ∧ KOwn k e w' base v' (xs ++ ys) ∧ w.grownBy w' v.ownBlock := by
  obtain ⟨g, n, rfl, hb, hl, hmx, hg⟩ := hown
  subst hl
  obtain ⟨cap, h2, h3, h4⟩ := run_append_full (P := P) w t k e bytes ht hi g xs.length xs hg rfl B A m c ys hr hm (by omega) hbytes h63
  refine ⟨_, _, h2, .inr ⟨w.heap.size, xs.length + m, cap, List.replicate (cap - (xs.length + m)) 0, rfl, hbase, by rw [List.length_append, hm], ?_, h3, h4, by rw [List.length_append, List.length_replicate, hm]; omega, zerosK_wf k _ (wf_zero k)⟩, ?_⟩
  · exact heap_alloc_new w.drew _
  · have hbel : Below w.heap.size w (w.drew.alloc (.cells (blk k (xs ++ ys ++ List.replicate (cap - (xs.length + m)) 0)) e)) := (below_drew (Below.refl _ _)).alloc (by show _ ≤ w.heap.size; exact Nat.le_refl _) _
    exact ⟨hbel.os, hbel.tape, hbel.output, hbel.size, fun i hi _ => hbel.block i hi⟩
theorem step_append_rowK {ops : Array Oper} {o : Oper} {a : Act} {K : Act → World → Prop} {Q : Exit → Act → World → Prop} {E : Prop} {ys : List Int} (h1 : 1 ≤ ys.length) (w : World) (hgd : o.guard = none) (s x : Operand) (t : TypeId)
    (ho : o.op = .call { callee := .builtin .append, args := #[s, x], argTypes := #[t, t] })
    (base : Nat) (k : IntKind) (e : TypeId) (bytes : Nat) (ht : P.underlying t = some (.slice e)) (hi : (P.info? e).map (fun i => (i.zero, i.size, i.bytes)) = some (some (.int k 0), 1, bytes))
    (v : Value) (xs : List Int) (hs : a.eval s = v) (hown : KFull k e w base v xs) (B : Nat) (A : Option Addr) (m c : Nat) (ys' : List Int) (hx : a.eval x = .slice A m c) (hr : Row k w B A ys) (hm : ys.length = m)
    (hbytes : (xs.length + m) * bytes ≤ 140737488355328) (h63 : xs.length + m ≤ maxLen) (hbase : base ≤ w.heap.size)
    (h : ∀ v' w', KOwn k e w' base v' (xs ++ ys) → w.grownBy w' v.ownBlock → K (a.put o.dst v') w') :
    if Region.wanted o (yielded ops a.tmps) = true then Oper.wp P o a w K Q else E := by
  have hw : Region.wanted o (yielded ops a.tmps) = true := by simp [Region.wanted, hgd]
  rw [if_pos hw]
  obtain ⟨v', w', hrun, h1, h2⟩ := run_append_rowK (P := P) h1 w base t k e bytes ht hi v xs hown B A m c hr hm hbytes h63 hbase
  unfold Oper.wp execOp
  simp only [ho, resolve, invoke, builtin, Sem.run_bind, Sem.run_pure, Result.andThen_ok, List.map_toArray, List.map_cons, List.map_nil, hs, hx, hrun]
  exact h v' w' h1 h2
theorem wpList_append_rowK {ops : Array Oper} {rest : List Oper} {o : Oper} {a : Act} {Q : Exit → Act → World → Prop} {ys : List Int} (h1 : 1 ≤ ys.length) (w : World) (hgd : o.guard = none) (s x : Operand) (t : TypeId)
    (ho : o.op = .call { callee := .builtin .append, args := #[s, x], argTypes := #[t, t] })
    (base : Nat) (k : IntKind) (e : TypeId) (bytes : Nat) (ht : P.underlying t = some (.slice e)) (hi : (P.info? e).map (fun i => (i.zero, i.size, i.bytes)) = some (some (.int k 0), 1, bytes))
    (v : Value) (xs : List Int) (hs : a.eval s = v) (hown : KFull k e w base v xs)
    (B : Nat) (A : Option Addr) (m c : Nat) (ys' : List Int) (hx : a.eval x = .slice A m c) (hr : Row k w B A ys) (hm : ys.length = m)
    (hbytes : (xs.length + m) * bytes ≤ 140737488355328) (h63 : xs.length + m ≤ maxLen) (hbase : base ≤ w.heap.size)
    (h : ∀ v' w', KOwn k e w' base v' (xs ++ ys) → w.grownBy w' v.ownBlock → wpList P ops Q rest (a.put o.dst v') w') : wpList P ops Q (o :: rest) a w := by
  obtain ⟨v', w', hrun, h1, h2⟩ := run_append_rowK (P := P) h1 w base t k e bytes ht hi v xs hown B A m c hr hm hbytes h63 hbase
  exact wpList_append_run w hgd s x t ho v (.slice A m c) v' w' hs hx hrun (h v' w' h1 h2)
end

set_option maxHeartbeats 1000000 in
theorem rpCountedK_any (c : Int) (A : Option Addr) (m cap : Nat) (ys : List Int) (w : World) (hr : Row .u8 w w.heap.size A ys) (hm : ys.length = m) (hm1 : 1 ≤ ys.length) (hm2 : m ≤ 255) (hc : 0 ≤ c ∧ c < 256) :
    Calls Try.prog 59 #[.int .i64 c, .slice A m cap] w (MakesK w (c :: (m : Int) :: ys)) := by
  have e1 : IntKind.u8.wrap c = c := by rw [IntKind.wrap_u8]; omega
  have e2 : IntKind.u8.wrap (m : Int) = m := by rw [IntKind.wrap_u8]; omega
  have HR := Lib.hid (hr.alloc (Nat.le_refl _) (.cells (blk .u8 [c, (m : Int)]) 5))
  have HM := Lib.hid hm
  have hown := KFull.laid (k := .u8) (base := w.heap.size) (n := 2) (heap_alloc_new w (.cells (blk .u8 [c, (m : Int)]) 5)) (Nat.le_refl _) (show [c, (m : Int)].length = 2 from rfl) (by simp [maxLen])
  have bel := bel_alloc w (.cells (blk .u8 [c, (m : Int)]) 5)
  clear hr hm
  go_enter Try.func59, Try.ntmps59
  go_wp2_with (at_builtin; refine wpList_append_rowK hm1 _ rfl (.tmp 10) (.tmp 11) 34 rfl w.heap.size .u8 5 1 Try.underlying34 info_u8 (.slice (some ⟨w.heap.size, 0, none⟩) 2 2) [c, (m : Int)] rfl hown _ _ m cap ys rfl HR.out HM.out (by simp; omega) (by simp [maxLen]; omega) (by simp) ?_; intro v1 w1 hown1 hg1)
  go_ret
  exact ⟨_, rfl, hown1, bel.grown hg1 (by simp) (fun g e => by have e : some w.heap.size = some g := e; injection e with e; omega)⟩

set_option maxHeartbeats 1000000 in
set_option maxRecDepth 100000 in
theorem PutK_ok (q : Req) (Ao As Ap : Option Addr) (lo ls lp co cs cp : Nat) (w : World) (h : Asked w w.heap.size q Ao As Ap lo ls lp) (hk : chk q.c q.a q.n lo ls lp q.fl = 0) (h5 : 1 ≤ (tl q.c q.a q.n q.on q.set q.fl lo ls lp).length) :
    Calls Try.prog 90 #[.agg #[.int .i64 q.c, .int .i64 q.a, .int .i64 q.n, .slice Ao lo co, .slice As ls cs, .slice Ap lp cp]] w (MakesK2 w (pduOf q lo ls lp)) := by
  have H := Lib.hid (h.alloc (Nat.le_refl _) (.cells #[.int .i64 q.c, .int .i64 q.a, .int .i64 q.n, .slice Ao lo co, .slice As ls cs, .slice Ap lp cp] 26))
  have HC := Lib.hid (Check_any q Ao As Ap lo ls lp co cs cp (w.alloc (.cells #[.int .i64 q.c, .int .i64 q.a, .int .i64 q.n, .slice Ao lo co, .slice As ls cs, .slice Ap lp cp] 26)) (H.out.more (by simp)))
  rw [hk] at HC
  have hcb : 0 ≤ q.c ∧ q.c < 256 := by
    have := (chk_zero hk).1
    have := mm_pos this
    omega
  obtain ⟨⟨hlo, hls⟩, hlp⟩ := right_many hk
  have e1 : IntKind.u8.wrap q.c = q.c := by rw [IntKind.wrap_u8]; omega
  have hcw : Hid ((Lit.int .u8 q.c).wf = true) := Lib.hid (by have := wf_byte q.c.toNat (by omega); rwa [show ((q.c.toNat : Nat) : Int) = q.c by omega] at this)
  have HP : Hid (pduOf q lo ls lp = [q.c] ++ tl q.c q.a q.n q.on q.set q.fl lo ls lp) := Lib.hid rfl
  have HTL : Hid ((tl q.c q.a q.n q.on q.set q.fl lo ls lp).length ≤ 1000) := Lib.hid (by
    have := tl_length q.c q.a q.n q.on q.set q.fl lo ls lp
    have h1 := h.ls
    unfold need at this
    omega)
  have HTW := Lib.hid (tl_wf (c := q.c) (a := q.a) (n := q.n) (on := q.on) (set := q.set) (fl := q.fl) (lo := lo) (ls := ls) (lp := lp) (by unfold need; omega))
  have HK := Lib.hid hk
  have hx0 := Bx.new w (.cells #[.int .i64 q.c, .int .i64 q.a, .int .i64 q.n, .slice Ao lo co, .slice As ls cs, .slice Ap lp cp] 26)
  rw [HP.out]
  clear h hk
  go_enter Try.func90, Try.ntmps90
  go_wp2_with fail
  refine HC.out.mono ?_
  rintro e w1 ⟨rfl, bel⟩
  have h9 := hx0.below bel
  have HA := Lib.hid ((H.out.below (bel.mono (by simp))).more (show w.heap.size ≤ w1.heap.size from Nat.le_of_lt h9.lt))
  have hz9 := h9.lt
  clear HC H hx0 bel
  go_wp2_with fail
  go_region_held3 (fun w' => Bx w w.heap.size (.cells #[.int .i64 q.c, .int .i64 q.a, .int .i64 q.n, .slice Ao lo co, .slice As ls cs, .slice Ap lp cp] 26) w' ∧ w'.cell? ⟨w.heap.size, 0, none⟩ = some (.int .i64 q.c) ∧ w'.cell? ⟨w.heap.size, 1, none⟩ = some (.int .i64 q.a) ∧ w'.cell? ⟨w.heap.size, 2, none⟩ = some (.int .i64 q.n) ∧ w'.cell? ⟨w.heap.size, 3, none⟩ = some (.slice Ao lo co) ∧ w'.cell? ⟨w.heap.size, 4, none⟩ = some (.slice As ls cs) ∧ w'.cell? ⟨w.heap.size, 5, none⟩ = some (.slice Ap lp cp))
    ((first
      | exact ⟨h9.drew, h9.drew.six⟩
      | exact ⟨(h9.alloc _).drew, (h9.alloc _).drew.six⟩
      | exact ⟨h12, h12.six⟩
      | exact ⟨h10, h10.six⟩
      | exact ⟨h10.alloc _, (h10.alloc _).six⟩))
    (first
      | (go_at_call 98
         refine (behind_any q Ao As Ap lo ls lp co cs cp _ (by first | exact (HA.out.upAlloc _).upDrew | exact HA.out.upDrew) HK.out).mono ?_
         rintro e w2 ⟨v2, rfl, own2, b2⟩
         obtain ⟨A2, c2, rfl, row2, _, _⟩ := own2.row HTW.out
         have h10 : Bx w w.heap.size (.cells #[.int .i64 q.c, .int .i64 q.a, .int .i64 q.n, .slice Ao lo co, .slice As ls cs, .slice Ap lp cp] 26) w2 := by first | exact (h9.alloc _).drew.below b2 | exact h9.drew.below b2)
      | (refine step_append_rowK h5 w2 rfl _ _ 34 rfl (w.heap.size + 1) .u8 5 1 Try.underlying34 info_u8 (.slice (some ⟨w1.heap.size, 0, none⟩) 1 1) [q.c] rfl (KFull.laid (l := [q.c]) ((b2.block w1.heap.size (by simp)).trans (heap_alloc_new w1 _)) hz9 rfl (by simp [maxLen])) _ A2 _ c2 (tl q.c q.a q.n q.on q.set q.fl lo ls lp) rfl row2 rfl (by have := HTL.out; simp only [List.length_singleton]; omega) (by have := HTL.out; simp only [List.length_singleton, maxLen]; omega) (by have := h10.lt; omega) ?_
         intro v3 w3 own3 g3
         have h12 := h10.grown g3 (by simp [Value.ownBlock]; omega))
      | (refine step_append_rowK h5 (w2.alloc (.cells (blk .u8 [q.c]) 5)) rfl _ _ 34 rfl (w.heap.size + 1) .u8 5 1 Try.underlying34 info_u8 (.slice (some ⟨w2.heap.size, 0, none⟩) 1 1) [q.c] rfl (KFull.laid (l := [q.c]) (heap_alloc_new w2 _) h10.lt rfl (by simp [maxLen])) _ A2 _ c2 (tl q.c q.a q.n q.on q.set q.fl lo ls lp) rfl (row2.alloc (Nat.le_refl _) _) rfl (by have := HTL.out; simp only [List.length_singleton]; omega) (by have := HTL.out; simp only [List.length_singleton, maxLen]; omega) (by have := h10.lt; simp; omega) ?_
         intro v3 w3 own3 g3
         have hz10 := h10.lt
         have h12 := (h10.alloc _).grown g3 (by simp [Value.ownBlock]; omega)))
  all_goals
    go_wp2
    go_ret2
    exact ⟨v3, rfl, own3.mono (by omega), h12.2⟩

theorem tl_four {q : Req} {lo ls lp : Nat} (h5 : 5 ≤ (pduOf q lo ls lp).length) : 1 ≤ (tl q.c q.a q.n q.on q.set q.fl lo ls lp).length := by
  have : (pduOf q lo ls lp).length = (tl q.c q.a q.n q.on q.set q.fl lo ls lp).length + 1 := rfl
  omega
/-- Put of a right request that is none for files. -/
theorem PutK_yes (q : Req) (Ao As Ap : Option Addr) (lo ls lp co cs cp : Nat) (w : World) (hk : chkQ q = 0) (h5 : 5 ≤ (putL q).length) (n20 : q.c ≠ 20) (h : Asked w w.heap.size q Ao As Ap lo ls lp) :
    Calls Try.prog 90 #[.agg #[.int .i64 q.c, .int .i64 q.a, .int .i64 q.n, .slice Ao lo co, .slice As ls cs, .slice Ap lp cp]] w (MakesK2 w (putL q)) := by
  rw [putL, if_pos hk, ← pduQ_of h] at h5 ⊢
  exact PutK_ok q Ao As Ap lo ls lp co cs cp w h (by rw [chkQ_of h, hk]) (tl_four h5)

theorem echoK_any (q : Req) (Ao As Ap : Option Addr) (lo ls lp co cs cp : Nat) (w : World) (h : Asked w w.heap.size q Ao As Ap lo ls lp) (hk : chkQ q = 0) (h5 : 5 ≤ (putL q).length) (n20 : q.c ≠ 20) :
    Calls Try.prog 63 #[.agg #[.int .i64 q.c, .int .i64 q.a, .int .i64 q.n, .slice Ao lo co, .slice As ls cs, .slice Ap lp cp]] w (MakesK w ((putL q).take 5)) := by
  have bx := Bx.new w (.cells #[.int .i64 q.c, .int .i64 q.a, .int .i64 q.n, .slice Ao lo co, .slice As ls cs, .slice Ap lp cp] 26)
  have HP := Lib.hid (PutK_yes q Ao As Ap lo ls lp co cs cp _ hk h5 n20 (h.upAlloc (.cells #[.int .i64 q.c, .int .i64 q.a, .int .i64 q.n, .slice Ao lo co, .slice As ls cs, .slice Ap lp cp] 26)))
  have H5 := Lib.hid h5
  clear h hk h5
  go_enter Try.func63, Try.ntmps63
  go_wp2_with fail
  refine HP.out.mono ?_
  rintro e w1 ⟨v1, rfl, own1, b1⟩
  obtain ⟨A1, c1, rfl, _, hle, _⟩ := own1.row (putL_wf q)
  have OW := Lib.hid ((own1.front (putL_wf q) H5.out).mono (base' := w.heap.size) (by simp))
  have bel := (bx.below b1).2
  obtain ⟨n1, hn1⟩ : ∃ n, (putL q).length = n := ⟨_, rfl⟩
  rw [hn1] at hle
  rw [hn1]
  have hc5 : (5 : Int) ≤ (c1 : Int) := by have := H5.out; omega
  clear own1 b1 bx hn1 HP
  go_wp2
  go_ret
  exact ⟨_, rfl, OW.out, bel⟩

end Go.Proofs.Ytobhllcnljggiaa
namespace Go.Proofs.Ytobhllcnljggiaa
open Go.RowKit
set_option linter.unusedVariables false

/-- A right answer that is no exception has something in its list. -/
theorem rep_one {q : Req} {r : Rep} (h : chkR q r = 0) (hx : r.x = 0) : (q.c = 1 ∨ q.c = 2 → 1 ≤ r.on.length) ∧ (q.c = 3 ∨ q.c = 4 → 1 ≤ r.set.length) ∧ (q.c = 20 → 1 ≤ r.fs.length) := by
  obtain ⟨h1, h2⟩ := chkR_zero h hx
  have hz := (chk_zero h1).2.2.2.1
  unfold manyB at h2
  refine ⟨fun hc => ?_, fun hc => ?_, fun hc => ?_⟩
  · rw [if_pos hc] at h2
    have h2 := of_decide_eq_true h2
    rcases hc with hc | hc <;> rw [hc] at hz <;> simp [many, mm] at hz <;> omega
  · rw [if_neg (show ¬ (q.c = 1 ∨ q.c = 2) by omega), if_pos hc] at h2
    have h2 := of_decide_eq_true h2
    rcases hc with hc | hc <;> rw [hc] at hz <;> simp [many, mm] at hz <;> omega
  · rw [if_neg (show ¬ (q.c = 1 ∨ q.c = 2) by omega), if_neg (show ¬ (q.c = 3 ∨ q.c = 4) by omega), if_pos hc] at h2
    obtain ⟨hl, _⟩ := fits_true h2
    rw [hc] at hz
    simp [many, mm] at hz
    omega
theorem fbytes_one (fs : List (List Int)) (k : Nat) (h : 1 ≤ k) : 1 ≤ (fbytes fs k).length := by
  obtain ⟨j, rfl⟩ : ∃ j, k = j + 1 := ⟨k - 1, by omega⟩
  rw [fbytes, List.length_append, List.length_append]
  simp only [List.length_cons, List.length_nil]
  omega
set_option maxHeartbeats 1000000 in
set_option maxRecDepth 100000 in
theorem rpFormK_bits (q : Req) (r : Rep) (Ao As Ap Bo Bs Bf : Option Addr) (lo ls lp co cs cp mo ms mf eo es ef : Nat) (w : World) (h : Asked w w.heap.size q Ao As Ap lo ls lp) (hr : Repd w w.heap.size r Bo Bs Bf mo ms mf) (hc : q.c = 1 ∨ q.c = 2) (hm : mo ≤ 2000) (hp1 : 1 ≤ mo) :
    Calls Try.prog 32 #[.agg #[.int .i64 q.c, .int .i64 q.a, .int .i64 q.n, .slice Ao lo co, .slice As ls cs, .slice Ap lp cp], .agg #[.int .i64 r.x, .slice Bo mo eo, .slice Bs ms es, .slice Bf mf ef]] w (MakesK w (q.c :: ((need mo : Nat) : Int) :: pk r.on (need mo))) := by
  obtain ⟨c, a, n, on, set, fl⟩ := q
  simp only at *
  have t0 := TB.new2 w #[.int .i64 c, .int .i64 a, .int .i64 n, .slice Ao lo co, .slice As ls cs, .slice Ap lp cp] #[.int .i64 r.x, .slice Bo mo eo, .slice Bs ms es, .slice Bf mf ef] 26 29
  have HSET := Lib.hid hr.on
  have HMS := Lib.hid hr.mo
  obtain ⟨m2, hm2⟩ : ∃ m2, need mo = m2 := ⟨_, rfl⟩
  have hm3 : m2 ≤ 255 := by rw [← hm2]; unfold need; omega
  have HM2 := Lib.hid hm2
  rw [hm2]
  have HWL : Hid ((pk r.on m2).length = m2) := Lib.hid (pk_length _ _)
  have HP1 : Hid (1 ≤ (pk r.on m2).length) := Lib.hid (by rw [HWL.out, ← hm2]; unfold need; omega)
  clear h hr hm2
  rcases hc with rfl | rfl
  · go_enter Try.func32, Try.ntmps32
    go_wp2_with fail
    go_region_held3 (fun w' => TB w w.heap.size (.cells #[.int .i64 1, .int .i64 a, .int .i64 n, .slice Ao lo co, .slice As ls cs, .slice Ap lp cp] 26 (0, 0)) (.cells #[.int .i64 r.x, .slice Bo mo eo, .slice Bs ms es, .slice Bf mf ef] 29 (0, 0)) w' ∧ w'.cell? ⟨w.heap.size, 0, none⟩ = some (.int .i64 1) ∧ w'.cell? ⟨w.heap.size + 1, 0, none⟩ = some (.int .i64 r.x) ∧ w'.cell? ⟨w.heap.size + 1, 1, none⟩ = some (.slice Bo mo eo) ∧ w'.cell? ⟨w.heap.size + 1, 2, none⟩ = some (.slice Bs ms es) ∧ w'.cell? ⟨w.heap.size + 1, 3, none⟩ = some (.slice Bf mf ef))
      ((first
        | exact ⟨t0.drew, t0.drew.r6.1, t0.drew.c4.1, t0.drew.c4.2.1, t0.drew.c4.2.2.1, t0.drew.c4.2.2.2.1⟩
        | exact ⟨t2, t2.r6.1, t2.c4.1, t2.c4.2.1, t2.c4.2.2.1, t2.c4.2.2.2.1⟩
        | exact ⟨t1, t1.r6.1, t1.c4.1, t1.c4.2.1, t1.c4.2.2.1, t1.c4.2.2.2.1⟩))
      (first
        | (go_at_call 60; refine (Bits_row Bo mo eo (w.heap.size + 1 + 1) r.on _ (by simp) ((HSET.out.below t0.drew.bel).more (by omega)) HMS.out (by omega)).mono ?_; rw [HM2.out]; rintro e w1 ⟨rfl, g1, b1⟩; have t1 := t0.drew.below2 b1 (by omega); have hg1 := block_lt g1)
        | (go_at_call 59; refine (rpCountedK_any _ _ m2 m2 (pk r.on m2) _ ((Row.of_block g1 (pk r.on m2) (pk_wf _ _) (List.prefix_refl _)).more hg1) HWL.out HP1.out hm3 (by omega)).mono ?_; rintro e w2 ⟨v2, rfl, own2, b2⟩; have t2 := t1.below b2))
    go_wp2
    go_ret
    exact ⟨_, rfl, own2.mono (by have := t1.lt; omega), t2.bel⟩
  · go_enter Try.func32, Try.ntmps32
    go_wp2_with fail
    go_region_held3 (fun w' => TB w w.heap.size (.cells #[.int .i64 2, .int .i64 a, .int .i64 n, .slice Ao lo co, .slice As ls cs, .slice Ap lp cp] 26 (0, 0)) (.cells #[.int .i64 r.x, .slice Bo mo eo, .slice Bs ms es, .slice Bf mf ef] 29 (0, 0)) w' ∧ w'.cell? ⟨w.heap.size, 0, none⟩ = some (.int .i64 2) ∧ w'.cell? ⟨w.heap.size + 1, 0, none⟩ = some (.int .i64 r.x) ∧ w'.cell? ⟨w.heap.size + 1, 1, none⟩ = some (.slice Bo mo eo) ∧ w'.cell? ⟨w.heap.size + 1, 2, none⟩ = some (.slice Bs ms es) ∧ w'.cell? ⟨w.heap.size + 1, 3, none⟩ = some (.slice Bf mf ef))
      ((first
        | exact ⟨t0.drew, t0.drew.r6.1, t0.drew.c4.1, t0.drew.c4.2.1, t0.drew.c4.2.2.1, t0.drew.c4.2.2.2.1⟩
        | exact ⟨t2, t2.r6.1, t2.c4.1, t2.c4.2.1, t2.c4.2.2.1, t2.c4.2.2.2.1⟩
        | exact ⟨t1, t1.r6.1, t1.c4.1, t1.c4.2.1, t1.c4.2.2.1, t1.c4.2.2.2.1⟩))
      (first
        | (go_at_call 60; refine (Bits_row Bo mo eo (w.heap.size + 1 + 1) r.on _ (by simp) ((HSET.out.below t0.drew.bel).more (by omega)) HMS.out (by omega)).mono ?_; rw [HM2.out]; rintro e w1 ⟨rfl, g1, b1⟩; have t1 := t0.drew.below2 b1 (by omega); have hg1 := block_lt g1)
        | (go_at_call 59; refine (rpCountedK_any _ _ m2 m2 (pk r.on m2) _ ((Row.of_block g1 (pk r.on m2) (pk_wf _ _) (List.prefix_refl _)).more hg1) HWL.out HP1.out hm3 (by omega)).mono ?_; rintro e w2 ⟨v2, rfl, own2, b2⟩; have t2 := t1.below b2))
    go_wp2
    go_ret
    exact ⟨_, rfl, own2.mono (by have := t1.lt; omega), t2.bel⟩

set_option maxHeartbeats 1000000 in
set_option maxRecDepth 100000 in
theorem rpFormK_words (q : Req) (r : Rep) (Ao As Ap Bo Bs Bf : Option Addr) (lo ls lp co cs cp mo ms mf eo es ef : Nat) (w : World) (h : Asked w w.heap.size q Ao As Ap lo ls lp) (hr : Repd w w.heap.size r Bo Bs Bf mo ms mf) (hc : q.c = 3 ∨ q.c = 4) (hm : ms ≤ 125) (hp1 : 1 ≤ ms) :
    Calls Try.prog 32 #[.agg #[.int .i64 q.c, .int .i64 q.a, .int .i64 q.n, .slice Ao lo co, .slice As ls cs, .slice Ap lp cp], .agg #[.int .i64 r.x, .slice Bo mo eo, .slice Bs ms es, .slice Bf mf ef]] w (MakesK w (q.c :: 2 * (ms : Int) :: wbytes r.set)) := by
  obtain ⟨c, a, n, on, set, fl⟩ := q
  simp only at *
  have t0 := TB.new2 w #[.int .i64 c, .int .i64 a, .int .i64 n, .slice Ao lo co, .slice As ls cs, .slice Ap lp cp] #[.int .i64 r.x, .slice Bo mo eo, .slice Bs ms es, .slice Bf mf ef] 26 29
  have HSET := Lib.hid hr.set
  have HMS := Lib.hid hr.ms
  have HWL : Hid ((wbytes r.set).length = 2 * ms) := Lib.hid (by rw [wbytes_length, hr.ms])
  have hcast : ((2 * ms : Nat) : Int) = 2 * (ms : Int) := by omega
  obtain ⟨m2, hm2⟩ : ∃ m2, 2 * ms = m2 := ⟨_, rfl⟩
  rw [hm2] at HWL hcast
  rw [← hcast]
  have hm3 : m2 ≤ 255 := by omega
  have HM2 := Lib.hid hm2
  have HP1 : Hid (1 ≤ (wbytes r.set).length) := Lib.hid (by rw [HWL.out]; omega)
  clear h hr hm2 hcast
  rcases hc with rfl | rfl
  · go_enter Try.func32, Try.ntmps32
    go_wp2_with fail
    go_region_held3 (fun w' => TB w w.heap.size (.cells #[.int .i64 3, .int .i64 a, .int .i64 n, .slice Ao lo co, .slice As ls cs, .slice Ap lp cp] 26 (0, 0)) (.cells #[.int .i64 r.x, .slice Bo mo eo, .slice Bs ms es, .slice Bf mf ef] 29 (0, 0)) w' ∧ w'.cell? ⟨w.heap.size, 0, none⟩ = some (.int .i64 3) ∧ w'.cell? ⟨w.heap.size + 1, 0, none⟩ = some (.int .i64 r.x) ∧ w'.cell? ⟨w.heap.size + 1, 1, none⟩ = some (.slice Bo mo eo) ∧ w'.cell? ⟨w.heap.size + 1, 2, none⟩ = some (.slice Bs ms es) ∧ w'.cell? ⟨w.heap.size + 1, 3, none⟩ = some (.slice Bf mf ef))
      ((first
        | exact ⟨t0.drew, t0.drew.r6.1, t0.drew.c4.1, t0.drew.c4.2.1, t0.drew.c4.2.2.1, t0.drew.c4.2.2.2.1⟩
        | exact ⟨t2, t2.r6.1, t2.c4.1, t2.c4.2.1, t2.c4.2.2.1, t2.c4.2.2.2.1⟩
        | exact ⟨t1, t1.r6.1, t1.c4.1, t1.c4.2.1, t1.c4.2.2.1, t1.c4.2.2.2.1⟩))
      (first
        | (go_at_call 61; refine (Bytes_row Bs ms es (w.heap.size + 1 + 1) r.set _ (by simp) ((HSET.out.below t0.drew.bel).more (by omega)) HMS.out (by omega)).mono ?_; rintro e w1 ⟨rfl, g1, b1⟩; rw [HM2.out]; have t1 := t0.drew.below2 b1 (by omega); have hg1 := block_lt g1)
        | (go_at_call 59; refine (rpCountedK_any _ _ m2 m2 (wbytes r.set) _ ((Row.of_block g1 (wbytes r.set) (wbytes_wf r.set) (List.prefix_refl _)).more hg1) HWL.out HP1.out hm3 (by omega)).mono ?_; rintro e w2 ⟨v2, rfl, own2, b2⟩; have t2 := t1.below b2))
    go_wp2
    go_ret
    exact ⟨_, rfl, own2.mono (by have := t1.lt; omega), t2.bel⟩
  · go_enter Try.func32, Try.ntmps32
    go_wp2_with fail
    go_region_held3 (fun w' => TB w w.heap.size (.cells #[.int .i64 4, .int .i64 a, .int .i64 n, .slice Ao lo co, .slice As ls cs, .slice Ap lp cp] 26 (0, 0)) (.cells #[.int .i64 r.x, .slice Bo mo eo, .slice Bs ms es, .slice Bf mf ef] 29 (0, 0)) w' ∧ w'.cell? ⟨w.heap.size, 0, none⟩ = some (.int .i64 4) ∧ w'.cell? ⟨w.heap.size + 1, 0, none⟩ = some (.int .i64 r.x) ∧ w'.cell? ⟨w.heap.size + 1, 1, none⟩ = some (.slice Bo mo eo) ∧ w'.cell? ⟨w.heap.size + 1, 2, none⟩ = some (.slice Bs ms es) ∧ w'.cell? ⟨w.heap.size + 1, 3, none⟩ = some (.slice Bf mf ef))
      ((first
        | exact ⟨t0.drew, t0.drew.r6.1, t0.drew.c4.1, t0.drew.c4.2.1, t0.drew.c4.2.2.1, t0.drew.c4.2.2.2.1⟩
        | exact ⟨t2, t2.r6.1, t2.c4.1, t2.c4.2.1, t2.c4.2.2.1, t2.c4.2.2.2.1⟩
        | exact ⟨t1, t1.r6.1, t1.c4.1, t1.c4.2.1, t1.c4.2.2.1, t1.c4.2.2.2.1⟩))
      (first
        | (go_at_call 61; refine (Bytes_row Bs ms es (w.heap.size + 1 + 1) r.set _ (by simp) ((HSET.out.below t0.drew.bel).more (by omega)) HMS.out (by omega)).mono ?_; rintro e w1 ⟨rfl, g1, b1⟩; rw [HM2.out]; have t1 := t0.drew.below2 b1 (by omega); have hg1 := block_lt g1)
        | (go_at_call 59; refine (rpCountedK_any _ _ m2 m2 (wbytes r.set) _ ((Row.of_block g1 (wbytes r.set) (wbytes_wf r.set) (List.prefix_refl _)).more hg1) HWL.out HP1.out hm3 (by omega)).mono ?_; rintro e w2 ⟨v2, rfl, own2, b2⟩; have t2 := t1.below b2))
    go_wp2
    go_ret
    exact ⟨_, rfl, own2.mono (by have := t1.lt; omega), t2.bel⟩

set_option maxHeartbeats 1000000 in
set_option maxRecDepth 100000 in
theorem rpFormK_file (q : Req) (r : Rep) (Ao As Ap Bo Bs Bf : Option Addr) (lo ls lp co cs cp mo ms mf eo es ef : Nat) (w : World) (h : Asked w w.heap.size q Ao As Ap lo ls lp) (hr : Repd w w.heap.size r Bo Bs Bf mo ms mf) (hc : q.c = 20) (hm : mf ≤ 100) (hl : ∀ i, i < mf → (nthF r.fs i).length ≤ 127) (hf : (fbytes r.fs mf).length ≤ 255) (hf1 : 1 ≤ (fbytes r.fs mf).length) :
    Calls Try.prog 32 #[.agg #[.int .i64 q.c, .int .i64 q.a, .int .i64 q.n, .slice Ao lo co, .slice As ls cs, .slice Ap lp cp], .agg #[.int .i64 r.x, .slice Bo mo eo, .slice Bs ms es, .slice Bf mf ef]] w (MakesK w (20 :: (((fbytes r.fs mf).length : Nat) : Int) :: fbytes r.fs mf)) := by
  obtain ⟨c, a, n, on, set, fl⟩ := q
  simp only at *
  subst hc
  have t0 := TB.new2 w #[.int .i64 20, .int .i64 a, .int .i64 n, .slice Ao lo co, .slice As ls cs, .slice Ap lp cp] #[.int .i64 r.x, .slice Bo mo eo, .slice Bs ms es, .slice Bf mf ef] 26 29
  have HFS := Lib.hid hr.fs
  have HMF := Lib.hid hr.mf
  have HL := Lib.hid hl
  have HW := Lib.hid (fbytes_wf r.fs mf hl)
  obtain ⟨m2, hm2⟩ : ∃ m2, (fbytes r.fs mf).length = m2 := ⟨_, rfl⟩
  have hm3 : m2 ≤ 255 := by omega
  have HM2 := Lib.hid hm2
  rw [hm2]
  obtain ⟨F, hF⟩ : ∃ F, Hid (fbytes r.fs mf = F) := ⟨_, Lib.hid rfl⟩
  rw [hF.out] at HM2 HW ⊢
  have HP1 : Hid (1 ≤ F.length) := Lib.hid (by rw [HM2.out, ← hm2]; exact hf1)
  clear h hr hm2 hl hf hf1
  go_enter Try.func32, Try.ntmps32
  go_wp2_with fail
  go_region_held3 (fun w' => TB w w.heap.size (.cells #[.int .i64 20, .int .i64 a, .int .i64 n, .slice Ao lo co, .slice As ls cs, .slice Ap lp cp] 26 (0, 0)) (.cells #[.int .i64 r.x, .slice Bo mo eo, .slice Bs ms es, .slice Bf mf ef] 29 (0, 0)) w' ∧ w'.cell? ⟨w.heap.size, 0, none⟩ = some (.int .i64 20) ∧ w'.cell? ⟨w.heap.size + 1, 0, none⟩ = some (.int .i64 r.x) ∧ w'.cell? ⟨w.heap.size + 1, 1, none⟩ = some (.slice Bo mo eo) ∧ w'.cell? ⟨w.heap.size + 1, 2, none⟩ = some (.slice Bs ms es) ∧ w'.cell? ⟨w.heap.size + 1, 3, none⟩ = some (.slice Bf mf ef))
    ((first
      | exact ⟨t0.drew, t0.drew.r6.1, t0.drew.c4.1, t0.drew.c4.2.1, t0.drew.c4.2.2.1, t0.drew.c4.2.2.2.1⟩
      | exact ⟨t2, t2.r6.1, t2.c4.1, t2.c4.2.1, t2.c4.2.2.1, t2.c4.2.2.2.1⟩
      | exact ⟨t1, t1.r6.1, t1.c4.1, t1.c4.2.1, t1.c4.2.2.1, t1.c4.2.2.2.1⟩))
    (first
      | (go_at_call 62; refine (fileBytes_any Bf mf ef r.fs _ ((HFS.out.below t0.drew.bel).more t0.drew.bel.size) HMF.out hm HL.out).mono ?_; rw [hF.out]; rintro e w1 ⟨v1, rfl, own1, b1⟩; have t1 := t0.drew.below b1; obtain ⟨A1, c1, hv1, row1, _, _⟩ := own1.row HW.out; rw [HM2.out] at hv1; subst hv1)
      | (go_at_call 59; refine (rpCountedK_any _ _ m2 c1 F _ row1 HM2.out HP1.out hm3 (by omega)).mono ?_; rintro e w2 ⟨v2, rfl, own2, b2⟩; have t2 := t1.below b2))
  go_wp2
  go_ret
  exact ⟨_, rfl, own2.mono (by have := t1.lt; omega), t2.bel⟩

set_option maxHeartbeats 1000000 in
set_option maxRecDepth 100000 in
theorem rpFormK_echo (q : Req) (r : Rep) (Ao As Ap Bo Bs Bf : Option Addr) (lo ls lp co cs cp mo ms mf eo es ef : Nat) (w : World) (h : Asked w w.heap.size q Ao As Ap lo ls lp) (hr : Repd w w.heap.size r Bo Bs Bf mo ms mf) (hk : chkQ q = 0) (h5 : 5 ≤ (putL q).length) (n1 : q.c ≠ 1) (n2 : q.c ≠ 2) (n3 : q.c ≠ 3) (n4 : q.c ≠ 4) (n20 : q.c ≠ 20) :
    Calls Try.prog 32 #[.agg #[.int .i64 q.c, .int .i64 q.a, .int .i64 q.n, .slice Ao lo co, .slice As ls cs, .slice Ap lp cp], .agg #[.int .i64 r.x, .slice Bo mo eo, .slice Bs ms es, .slice Bf mf ef]] w (MakesK w ((putL q).take 5)) := by
  have t0 := TB.new2 w #[.int .i64 q.c, .int .i64 q.a, .int .i64 q.n, .slice Ao lo co, .slice As ls cs, .slice Ap lp cp] #[.int .i64 r.x, .slice Bo mo eo, .slice Bs ms es, .slice Bf mf ef] 26 29
  have HE := Lib.hid (echoK_any q Ao As Ap lo ls lp co cs cp _ ((h.below t0.bel).more t0.bel.size) hk h5 n20)
  have b1 : (q.c == 1) = false := beq_false_of_ne n1
  have b2 : (q.c == 2) = false := beq_false_of_ne n2
  have b3 : (q.c == 3) = false := beq_false_of_ne n3
  have b4 : (q.c == 4) = false := beq_false_of_ne n4
  have b20 : (q.c == 20) = false := beq_false_of_ne n20
  have hsz := t0.bel.size
  have bel := t0.bel
  clear h hr hk h5 n1 n2 n3 n4 n20 t0
  go_enter Try.func32, Try.ntmps32
  go_wp2_with fail
  refine HE.out.mono ?_
  rintro e w2 ⟨v2, rfl, own2, b2⟩
  go_wp2
  go_ret
  exact ⟨_, rfl, own2.mono hsz, bel.trans (b2.mono hsz)⟩

theorem rpFormK_any (q : Req) (r : Rep) (Ao As Ap Bo Bs Bf : Option Addr) (lo ls lp co cs cp mo ms mf eo es ef : Nat) (w : World) (h : Asked w w.heap.size q Ao As Ap lo ls lp) (hr : Repd w w.heap.size r Bo Bs Bf mo ms mf) (hk : chkR q r = 0) (hx : r.x = 0) :
    Calls Try.prog 32 #[.agg #[.int .i64 q.c, .int .i64 q.a, .int .i64 q.n, .slice Ao lo co, .slice As ls cs, .slice Ap lp cp], .agg #[.int .i64 r.x, .slice Bo mo eo, .slice Bs ms es, .slice Bf mf ef]] w (MakesK w (formR q r)) := by
  have hq := (chkR_zero hk hx).1
  unfold formR
  by_cases h1 : q.c = 1 ∨ q.c = 2
  · rw [if_pos h1, hr.mo]
    exact rpFormK_bits q r Ao As Ap Bo Bs Bf lo ls lp co cs cp mo ms mf eo es ef w h hr h1 (by have := rep_bits hk hx h1; have := hr.mo; omega) (by have := (rep_one hk hx).1 h1; have := hr.mo; omega)
  · rw [if_neg h1]
    by_cases h2 : q.c = 3 ∨ q.c = 4
    · rw [if_pos h2, hr.ms]
      exact rpFormK_words q r Ao As Ap Bo Bs Bf lo ls lp co cs cp mo ms mf eo es ef w h hr h2 (by have := rep_words hk hx h2; have := hr.ms; omega) (by have := (rep_one hk hx).2.1 h2; have := hr.ms; omega)
    · rw [if_neg h2]
      by_cases h3 : q.c = 20
      · obtain ⟨f1, f2, f3⟩ := rep_files hk hx h3
        rw [hr.mf] at f1 f2 f3
        rw [if_pos h3, hr.mf]
        exact rpFormK_file q r Ao As Ap Bo Bs Bf lo ls lp co cs cp mo ms mf eo es ef w h hr h3 (by omega) f2 f3 (fbytes_one r.fs mf (by have := (rep_one hk hx).2.2 h3; have := hr.mf; omega))
      · rw [if_neg h3]
        exact rpFormK_echo q r Ao As Ap Bo Bs Bf lo ls lp co cs cp mo ms mf eo es ef w h hr hq (putL_five hq h3) (by omega) (by omega) (by omega) (by omega) h3
end Go.Proofs.Ytobhllcnljggiaa
namespace Go.Proofs.Ytobhllcnljggiaa
open Go.RowKit
set_option linter.unusedVariables false

set_option maxHeartbeats 2000000 in
theorem rpPutK_any (q : Req) (r : Rep) (Ao As Ap Bo Bs Bf : Option Addr) (lo ls lp co cs cp mo ms mf eo es ef : Nat) (w : World) (h : Asked w w.heap.size q Ao As Ap lo ls lp) (hr : Repd w w.heap.size r Bo Bs Bf mo ms mf) (hb : lp ≤ 100000) :
    Calls Try.prog 11 #[.agg #[.int .i64 q.c, .int .i64 q.a, .int .i64 q.n, .slice Ao lo co, .slice As ls cs, .slice Ap lp cp], .agg #[.int .i64 r.x, .slice Bo mo eo, .slice Bs ms es, .slice Bf mf ef]] w (GivesK w (putR q r) (chkR q r)) := by
  have t0 := TB.new2 w #[.int .i64 q.c, .int .i64 q.a, .int .i64 q.n, .slice Ao lo co, .slice As ls cs, .slice Ap lp cp] #[.int .i64 r.x, .slice Bo mo eo, .slice Bs ms es, .slice Bf mf ef] 26 29
  have hsz : w.heap.size ≤ ((w.alloc (.cells #[.int .i64 q.c, .int .i64 q.a, .int .i64 q.n, .slice Ao lo co, .slice As ls cs, .slice Ap lp cp] 26)).alloc (.cells #[.int .i64 r.x, .slice Bo mo eo, .slice Bs ms es, .slice Bf mf ef] 29)).heap.size := t0.bel.size
  have H := Lib.hid ((h.below t0.bel).more hsz)
  have HR := Lib.hid ((hr.below t0.bel).more hsz)
  have HC := Lib.hid (rpCheck_any q r Ao As Ap Bo Bs Bf lo ls lp co cs cp mo ms mf eo es ef _ H.out HR.out hb)
  clear h hr
  obtain ⟨E, hE⟩ : ∃ E, Hid (chkR q r = E) := ⟨_, Lib.hid rfl⟩
  rw [hE.out] at HC ⊢
  by_cases hE0 : E = 0
  · subst hE0
    by_cases hx : r.x = 0
    · have HL : Hid (putR q r = formR q r) := Lib.hid (by unfold putR; rw [if_neg (show ¬ chkR q r ≠ 0 by rw [hE.out]; simp), if_neg (show ¬ r.x ≠ 0 by simp [hx])])
      rw [HL.out]
      have u1 : (r.x != 0) = false := by simp [hx]
      have u2 : (r.x == 0) = true := by simp [hx]
      have HX := Lib.hid hx
      clear hx
      go_enter Try.func11, Try.ntmps11
      go_wp2_with fail
      refine HC.out.mono ?_
      rintro e w1 ⟨rfl, b1⟩
      have t1 := t0.below b1
      have hlt := t1.lt
      have HF := Lib.hid (rpFormK_any q r Ao As Ap Bo Bs Bf lo ls lp co cs cp mo ms mf eo es ef w1 (H.out.up b1) (HR.out.up b1) hE.out HX.out)
      clear b1 t0 HC hsz
      obtain ⟨d0, d1, d2, d3, d4⟩ := t1.c4
      obtain ⟨r0, r1, r2, r3, r4, r5, r6⟩ := t1.r6
      go_wp2_with fail
      refine HF.out.mono ?_
      rintro e w2 ⟨v2, rfl, own2, b2⟩
      have t2 := t1.below b2
      go_wp2
      go_ret2
      exact ⟨_, rfl, own2.mono (by omega), t2.bel⟩
    · have HL : Hid (putR q r = [q.c + 128, r.x]) := Lib.hid (by unfold putR; rw [if_neg (show ¬ chkR q r ≠ 0 by rw [hE.out]; simp), if_pos hx])
      rw [HL.out]
      have hq : chkQ q = 0 := by
        have h2 := hE.out
        unfold chkR at h2
        by_cases hk : chkQ q ≠ 0
        · rw [if_pos hk] at h2; exact h2
        · simpa using hk
      have hxr : 1 ≤ r.x ∧ r.x ≤ 127 := by
        have h2 := hE.out
        unfold chkR at h2
        rw [if_neg (show ¬ chkQ q ≠ 0 by rw [hq]; simp), if_pos hx] at h2
        split at h2
        · assumption
        · cases h2
      have hcr := mm_le _ (chk_code hq)
      have u1 : (r.x != 0) = true := by simpa using hx
      have u2 : (r.x == 0) = false := beq_false_of_ne hx
      have e1 : IntKind.i64.wrap (q.c + 128) = q.c + 128 := IntWalk.i64_in _ (by omega)
      have e2 : IntKind.u8.wrap (q.c + 128) = q.c + 128 := by rw [IntKind.wrap_u8]; omega
      have e3 : IntKind.u8.wrap r.x = r.x := by rw [IntKind.wrap_u8]; omega
      clear hq hx
      go_enter Try.func11, Try.ntmps11
      go_wp2_with fail
      refine HC.out.mono ?_
      rintro e w1 ⟨rfl, b1⟩
      have t1 := t0.below b1
      have hlt := t1.lt
      clear b1 t0 HC hsz
      obtain ⟨d0, d1, d2, d3, d4⟩ := t1.c4
      obtain ⟨r0, r1, r2, r3, r4, r5, r6⟩ := t1.r6
      go_wp2
      go_ret2
      exact ⟨_, rfl, KFull.kown (KFull.laid (heap_alloc_new w1 (.cells (blk .u8 [q.c + 128, r.x]) 5)) (by omega) rfl (by simp [maxLen])), t1.bel.alloc (by omega) _⟩
  · have HL : Hid (putR q r = []) := Lib.hid (by unfold putR; rw [if_pos (show chkR q r ≠ 0 by rw [hE.out]; exact hE0)])
    rw [HL.out]
    have u1 : (E != 0) = true := by simpa using hE0
    have u2 : (E == 0) = false := beq_false_of_ne hE0
    clear hE0
    go_enter Try.func11, Try.ntmps11
    go_wp2_with fail
    refine HC.out.mono ?_
    rintro e w1 ⟨rfl, b1⟩
    have t1 := t0.below b1
    go_wp2
    go_ret2
    exact ⟨_, rfl, KOwn.nil _ _ _ _, t1.bel⟩
end Go.Proofs.Ytobhllcnljggiaa
