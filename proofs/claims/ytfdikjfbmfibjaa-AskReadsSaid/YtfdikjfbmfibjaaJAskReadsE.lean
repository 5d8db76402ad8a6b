/-
  Texts of the proof of AskReads, joined.
-/
import Derived.Test.YtfdikjfbmfibjaaJAskReadsD
import Derived.Test.YtfdikjfbmfibjaaJAskReadsA
import Derived.Test.YtfdikjfbmfibjaaJAskReadsC
import Derived.Maps.AppendAt
import Derived.Deep.AppendLies
import Derived.Deep.RegionHeld3
namespace Go.Proofs.Ytfdikjfbmfibjaa
open Go.RowKit
set_option linter.unusedVariables false

/-- The box of the result and the box of the request under way; what lies below is as it was. -/
structure TB (w0 : World) (B : Nat) (o1 o2 : Obj) (w : World) : Prop where
  ret : w.heap[B]? = some o1
  box : w.heap[B + 1]? = some o2
  bel : Below B w0 w
theorem TB.lt {w0 w : World} {B : Nat} {o1 o2 : Obj} (h : TB w0 B o1 o2 w) : B + 1 < w.heap.size := block_lt h.box
theorem TB.below {w0 w w' : World} {B : Nat} {o1 o2 : Obj} (h : TB w0 B o1 o2 w) (hb : Below w.heap.size w w') : TB w0 B o1 o2 w' := by
  have h1 := h.lt
  exact ⟨(hb.block B (by omega)).trans h.ret, (hb.block (B + 1) (by omega)).trans h.box, h.bel.trans (hb.mono (by omega))⟩
theorem TB.grown {w0 w w' : World} {B : Nat} {o1 o2 : Obj} {row : Option Nat} (h : TB w0 B o1 o2 w) (hg : w.grownBy w' row) (hr : ∀ g, row = some g → B + 2 ≤ g) : TB w0 B o1 o2 w' := by
  have h1 := h.lt
  have hn : ∀ k, k < B + 2 → some k ≠ row := fun k hk e => by have := hr k e.symm; omega
  refine ⟨(hg.block B (by omega) (hn _ (by omega))).trans h.ret, (hg.block (B + 1) (by omega) (hn _ (by omega))).trans h.box, ?_⟩
  exact ⟨hg.os.trans h.bel.os, hg.tape.trans h.bel.tape, hg.output.trans h.bel.output, by have := h.bel.size; have := hg.size; omega, fun k hk => (hg.block k (by omega) (hn _ (by omega))).trans (h.bel.block k hk)⟩
theorem TB.new (w : World) (c1 c2 : Array Value) (t : TypeId) : TB w w.heap.size (.cells c1 t (0, 0)) (.cells c2 t (0, 0)) ((w.alloc (.cells c1 t)).alloc (.cells c2 t)) :=
  ⟨(heap_alloc_old _ _ (by simp)).trans (heap_alloc_new w _), heap_new_at _ _ (by simp), (bel_alloc w _).alloc (by simp) _⟩
theorem TB.set {w0 w : World} {B : Nat} {o1 : Obj} {cs : Array Value} {t : TypeId} (h : TB w0 B o1 (.cells cs t (0, 0)) w) (i : Nat) (v : Value) : TB w0 B o1 (.cells (cs.setIfInBounds i v) t (0, 0)) (w.setCell ⟨B + 1, i, none⟩ v) :=
  ⟨(Below.heap_setCell w ⟨B + 1, i, none⟩ v B (by simp)).trans h.ret, box_set h.box i v, below_setCell h.bel (Nat.le_succ _) i v⟩
theorem L.Own.laid {k : Unit} {t : TypeId} {w : World} {base g : Nat} {l : List Bool} {n : Nat} (hg : w.heap[g]? = some (.cells (L.blk k l) t (0, 0))) (hb : base ≤ g) (hl : l.length = n) (hm : n ≤ maxLen) : L.Own k t w base (.slice (some ⟨g, 0, none⟩) n n) l := by
  subst hl
  exact ⟨by simp, .inr ⟨g, _, _, rfl, hb, hg, Nat.le_refl _, hm, by simp [L.blk], by rw [Nat.mul_one, List.take_of_length_le (by simp [L.blk])]; simp [L.blk]⟩⟩
theorem TB.c6 {w0 w : World} {B : Nat} {o1 : Obj} {t : TypeId} {v0 v1 v2 v3 v4 v5 : Value} (h : TB w0 B o1 (.cells #[v0, v1, v2, v3, v4, v5] t (0, 0)) w) :
    w.cell? ⟨B + 1, 0, none⟩ = some v0 ∧ w.cell? ⟨B + 1, 1, none⟩ = some v1 ∧ w.cell? ⟨B + 1, 2, none⟩ = some v2 ∧ w.cell? ⟨B + 1, 3, none⟩ = some v3 ∧ w.cell? ⟨B + 1, 4, none⟩ = some v4 ∧ w.cell? ⟨B + 1, 5, none⟩ = some v5 ∧ ∀ i, w.frozen? ⟨B + 1, i, none⟩ = false := by
  obtain ⟨⟨a, b, c⟩, ⟨d, e, f⟩, g⟩ := cells6 h.box
  exact ⟨a, b, c, d, e, f, g⟩
theorem TB.r6 {w0 w : World} {B : Nat} {o2 : Obj} {t : TypeId} {v0 v1 v2 v3 v4 v5 : Value} (h : TB w0 B (.cells #[v0, v1, v2, v3, v4, v5] t (0, 0)) o2 w) :
    w.cell? ⟨B, 0, none⟩ = some v0 ∧ w.cell? ⟨B, 1, none⟩ = some v1 ∧ w.cell? ⟨B, 2, none⟩ = some v2 ∧ w.cell? ⟨B, 3, none⟩ = some v3 ∧ w.cell? ⟨B, 4, none⟩ = some v4 ∧ w.cell? ⟨B, 5, none⟩ = some v5 ∧ ∀ i, w.frozen? ⟨B, i, none⟩ = false := by
  obtain ⟨⟨a, b, c⟩, ⟨d, e, f⟩, g⟩ := cells6 h.ret
  exact ⟨a, b, c, d, e, f, g⟩
theorem TB.put {w0 w : World} {B : Nat} {o2 : Obj} {t : TypeId} {u0 u1 u2 u3 u4 u5 : Value} (h : TB w0 B (.cells #[u0, u1, u2, u3, u4, u5] t (0, 0)) o2 w) (v0 v1 v2 v3 v4 v5 : Value) :
    (put6 w B v0 v1 v2 v3 v4 v5).heap[B]? = some (.cells #[v0, v1, v2, v3, v4, v5] t (0, 0)) ∧ Below B w0 (put6 w B v0 v1 v2 v3 v4 v5) :=
  ⟨put6_heap h.ret v0 v1 v2 v3 v4 v5, below_put6 h.bel (Nat.le_refl _) v0 v1 v2 v3 v4 v5⟩

theorem TB.drew {w0 w : World} {B : Nat} {o1 o2 : Obj} (h : TB w0 B o1 o2 w) : TB w0 B o1 o2 w.drew := h.below ⟨rfl, rfl, rfl, Nat.le_refl _, fun _ _ => rfl⟩
theorem TB.alloc {w0 w : World} {B : Nat} {o1 o2 : Obj} (h : TB w0 B o1 o2 w) (o : Obj) : TB w0 B o1 o2 (w.alloc o) := h.below (bel_alloc w o)
theorem TB.all {w0 w : World} {B : Nat} {o1 : Obj} {t : TypeId} {v0 v1 v2 v3 v4 v5 u : Value} {b i : Nat} (h : TB w0 B o1 (.cells #[v0, v1, v2, v3, v4, v5] t (0, 0)) w) (hb : b < B) (hc : w0.cell? ⟨b, i, none⟩ = some u) :
    w.cell? ⟨b, i, none⟩ = some u ∧ w.cell? ⟨B + 1, 0, none⟩ = some v0 ∧ w.cell? ⟨B + 1, 1, none⟩ = some v1 ∧ w.cell? ⟨B + 1, 2, none⟩ = some v2 ∧ w.cell? ⟨B + 1, 3, none⟩ = some v3 ∧ w.cell? ⟨B + 1, 4, none⟩ = some v4 ∧ w.cell? ⟨B + 1, 5, none⟩ = some v5 ∧ ∀ i, w.frozen? ⟨B + 1, i, none⟩ = false :=
  ⟨(h.bel.cell (p := ⟨b, i, none⟩) hb).trans hc, h.c6⟩

theorem TB.set3 {w0 w : World} {B : Nat} {o1 : Obj} {t : TypeId} {v0 v1 v2 v3 v4 v5 : Value} (h : TB w0 B o1 (.cells #[v0, v1, v2, v3, v4, v5] t (0, 0)) w) (u : Value) : TB w0 B o1 (.cells #[v0, v1, v2, u, v4, v5] t (0, 0)) (w.setCell ⟨B + 1, 3, none⟩ u) := h.set 3 u
theorem TB.set4 {w0 w : World} {B : Nat} {o1 : Obj} {t : TypeId} {v0 v1 v2 v3 v4 v5 : Value} (h : TB w0 B o1 (.cells #[v0, v1, v2, v3, v4, v5] t (0, 0)) w) (u : Value) : TB w0 B o1 (.cells #[v0, v1, v2, v3, u, v5] t (0, 0)) (w.setCell ⟨B + 1, 4, none⟩ u) := h.set 4 u
theorem TB.set5 {w0 w : World} {B : Nat} {o1 : Obj} {t : TypeId} {v0 v1 v2 v3 v4 v5 : Value} (h : TB w0 B o1 (.cells #[v0, v1, v2, v3, v4, v5] t (0, 0)) w) (u : Value) : TB w0 B o1 (.cells #[v0, v1, v2, v3, v4, u] t (0, 0)) (w.setCell ⟨B + 1, 5, none⟩ u) := h.set 5 u
theorem TB.st {w0 w : World} {B : Nat} {o1 : Obj} {t : TypeId} {v0 v1 v2 v3 v4 v5 u : Value} {b i : Nat} (h : TB w0 B o1 (.cells #[v0, v1, v2, v3, v4, v5] t (0, 0)) w) (hb : b < B) (hc : w0.cell? ⟨b, i, none⟩ = some u) :
    w.cell? ⟨b, i, none⟩ = some u ∧ ∀ i, w.frozen? ⟨B + 1, i, none⟩ = false :=
  ⟨(h.bel.cell (p := ⟨b, i, none⟩) hb).trans hc, h.c6.2.2.2.2.2.2⟩

/-- Whatever lies at A lies in a block from B on. -/
def Fresh (B : Nat) (A : Option Addr) : Prop := ∀ b o f, A = some ⟨b, o, f⟩ → B ≤ b
theorem Fresh.nil (B : Nat) : Fresh B none := fun _ _ _ h => by cases h
theorem Fresh.at {B g o : Nat} {f : Option Nat} (h : B ≤ g) : Fresh B (some ⟨g, o, f⟩) := fun b o f e => by injection e with e; injection e with e1; omega
theorem Fresh.own {k : IntKind} {e : TypeId} {w : World} {base n c B : Nat} {A : Option Addr} {xs : List Int} (h : Own k e w base (.slice A n c) xs) (hB : B ≤ base) : Fresh B A := by
  rcases h.2 with ⟨h, _⟩ | ⟨g, cap, cur, h, hb, _⟩
  · injection h with h; subst h; exact Fresh.nil _
  · injection h with h; subst h; exact Fresh.at (Nat.le_trans hB hb)
theorem Fresh.ownL {k : Unit} {e : TypeId} {w : World} {base n c B : Nat} {A : Option Addr} {xs : List Bool} (h : L.Own k e w base (.slice A n c) xs) (hB : B ≤ base) : Fresh B A := by
  rcases h.2 with ⟨h, _⟩ | ⟨g, cap, cur, h, hb, _⟩
  · injection h with h; subst h; exact Fresh.nil _
  · injection h with h; subst h; exact Fresh.at (Nat.le_trans hB hb)
theorem Fresh.ownP {e : TypeId} {w : World} {base n c B : Nat} {A : Option Addr} {fl : List Int} (h : POwn e w base (.slice A n c) fl) (hB : B ≤ base) : Fresh B A := by
  rcases h with ⟨h, _⟩ | ⟨g, n, cap, r, h, hb, _⟩
  · injection h with h; subst h; exact Fresh.nil _
  · injection h with h; subst h; exact Fresh.at (Nat.le_trans hB hb)

/-- What said tells: the request that the bytes say, or that they say none. -/
def RSaid (w : World) (ys : List Int) (e : Ending) (w' : World) : Prop :=
  ∃ (q : Req) (A1 A2 A3 : Option Addr) (m1 m2 m3 c1 c2 c3 : Nat) (ok : Bool), e = .returned (.tuple #[.agg #[.int .i64 q.c, .int .i64 q.a, .int .i64 q.n, .slice A1 m1 c1, .slice A2 m2 c2, .slice A3 m3 c3], .bool ok]) ∧
    Asked w' w'.heap.size q A1 A2 A3 m1 m2 m3 ∧ Below w.heap.size w w' ∧ (Fresh w.heap.size A1 ∧ Fresh w.heap.size A2 ∧ Fresh w.heap.size A3) ∧ (ok = true ∧ rdOk ys = true ∧ q = rdQ ys ∨ ok = false ∧ rdOk ys = false)
theorem refAt_bel (b o n c i : Nat) (z : Int) (hz : z = i) (ys : List Int) (w : World) (B : Nat) (hr : Row .u8 w B (some ⟨b, o, none⟩) ys) (hn : ys.length = n) (hc : n ≤ c) (hb : n ≤ 100000) (hi : i + 2 ≤ n) :
    Calls Try.prog 104 #[.slice (some ⟨b, o, none⟩) n c, .int .i64 z] w fun e w' => e = .returned (.int .i64 (at2 ys i)) ∧ Below w.heap.size w w' :=
  (refAt_at b o n c i z hz ys w B hr hn hc hb hi).mono fun e w' ⟨h, q, hq⟩ => ⟨h, by subst hq; exact bel_drewN w q⟩
theorem Row.tb {k : IntKind} {w0 w : World} {B : Nat} {o1 o2 : Obj} {A : Option Addr} {xs : List Int} (h : Row k w0 B A xs) (ht : TB w0 B o1 o2 w) : Row k w B A xs := h.below ht.bel

set_option maxHeartbeats 1000000 in
set_option maxRecDepth 100000 in
theorem refSaid_plain (A : Option Addr) (n c : Nat) (ys : List Int) (w : World) (hr : Row .u8 w w.heap.size A ys) (hn : ys.length = n) (hc : n ≤ c) (hb : n ≤ 7000) (h5 : 5 ≤ n) (hv : nth ys 0 = 1 ∨ nth ys 0 = 2 ∨ nth ys 0 = 3 ∨ nth ys 0 = 4) :
    Calls Try.prog 71 #[.slice A n c] w (RSaid w ys) := by
  obtain ⟨b, o, rfl, hb1, hc1, hrg⟩ := row_head hr (by omega)
  have HN := Lib.hid hn
  have HR := Lib.hid hr
  have HQ : Hid (rdOk ys = true ∧ (⟨nth ys 0, at2 ys 1, at2 ys 3, [], [], []⟩ : Req) = rdQ ys) := Lib.hid ⟨by unfold rdOk; rw [if_neg (by omega), if_neg (by omega), if_neg (by omega), if_neg (by omega)], by unfold rdQ; rw [if_neg (by omega), if_neg (by omega), if_neg (by omega), if_neg (by omega), if_neg (by omega)]⟩
  clear hr hn
  generalize nth ys 0 = v at *
  have t5 : (v == 5) = false := beq_false_of_ne (by omega)
  have t6 : (v == 6) = false := beq_false_of_ne (by omega)
  have t15 : (v == 15) = false := beq_false_of_ne (by omega)
  have t16 : (v == 16) = false := beq_false_of_ne (by omega)
  have t20 : (v == 20) = false := beq_false_of_ne (by omega)
  have e0 : IntKind.i64.wrap v = v := IntWalk.i64_in _ (by omega)
  clear hv
  go_enter Try.func71, Try.ntmps71
  go_wp2_with fail
  refine (refAt_bel b o n c 1 _ rfl ys _ _ (HR.out.tb (TB.new w _ _ _)) HN.out hc (by omega) (by omega)).mono ?_
  rintro e w1 ⟨rfl, b1⟩
  have t1 := (TB.new w #[.int .i64 0, .int .i64 0, .int .i64 0, .slice none 0 0, .slice none 0 0, .slice none 0 0] #[.int .i64 v, .int .i64 0, .int .i64 0, .slice none 0 0, .slice none 0 0, .slice none 0 0] 26).below b1
  clear b1
  generalize at2 ys 1 = x at *
  have t2 : TB w w.heap.size (.cells #[.int .i64 0, .int .i64 0, .int .i64 0, .slice none 0 0, .slice none 0 0, .slice none 0 0] 26 (0, 0)) (.cells #[.int .i64 v, .int .i64 x, .int .i64 0, .slice none 0 0, .slice none 0 0, .slice none 0 0] 26 (0, 0)) (w1.setCell ⟨w.heap.size + 1, 1, none⟩ (.int .i64 x)) := t1.set 1 _
  obtain ⟨d0, d1, d2, d3, d4, d5, d6⟩ := t1.c6
  go_wp2_with fail
  clear d0 d1 d2 d3 d4 d5 d6 t1
  generalize w1.setCell ⟨w.heap.size + 1, 1, none⟩ (.int .i64 x) = w2 at *
  refine (refAt_bel b o n c 3 _ rfl ys _ _ (HR.out.tb t2) HN.out hc (by omega) (by omega)).mono ?_
  rintro e w3 ⟨rfl, b3⟩
  have t3 := t2.below b3
  clear b3 t2
  generalize at2 ys 3 = y at *
  obtain ⟨d0, d1, d2, d3, d4, d5, d6⟩ := t3.c6
  obtain ⟨r0, r1, r2, r3, r4, r5, r6⟩ := t3.r6
  have t4 : TB w w.heap.size (.cells #[.int .i64 0, .int .i64 0, .int .i64 0, .slice none 0 0, .slice none 0 0, .slice none 0 0] 26 (0, 0)) (.cells #[.int .i64 v, .int .i64 x, .int .i64 y, .slice none 0 0, .slice none 0 0, .slice none 0 0] 26 (0, 0)) (w3.setCell ⟨w.heap.size + 1, 2, none⟩ (.int .i64 y)) := t3.set 2 _
  have P5 := Lib.hid (t4.put (.int .i64 v) (.int .i64 x) (.int .i64 y) (.slice none 0 0) (.slice none 0 0) (.slice none 0 0))
  clear t3 t4
  go_wp2
  (try simp only [Exit.inBlock, Exit.then])
  show bodyPost _ _ _ _ _ (put6 (w3.setCell ⟨w.heap.size + 1, 2, none⟩ (.int .i64 y)) w.heap.size (.int .i64 v) (.int .i64 x) (.int .i64 y) (.slice none 0 0) (.slice none 0 0) (.slice none 0 0))
  generalize put6 (w3.setCell ⟨w.heap.size + 1, 2, none⟩ (.int .i64 y)) w.heap.size (.int .i64 v) (.int .i64 x) (.int .i64 y) (.slice none 0 0) (.slice none 0 0) (.slice none 0 0) = w6 at *
  obtain ⟨⟨d10, d11, d12⟩, ⟨d13, d14, d15⟩, d16⟩ := cells6 P5.out.1
  refine bodyPost_ret (v := .tuple #[.agg #[.int .i64 v, .int .i64 x, .int .i64 y, .slice none 0 0, .slice none 0 0, .slice none 0 0], .bool true]) (by simp [results, Try.results71, go_sem, d10, d11, d12, d13, d14, d15]) rfl ?_
  exact ⟨⟨v, x, y, [], [], []⟩, _, _, _, _, _, _, _, _, _, true, rfl, Asked.of_nil _ _ _ _ _, P5.out.2, ⟨Fresh.nil _, Fresh.nil _, Fresh.nil _⟩, .inl ⟨rfl, HQ.out⟩⟩

set_option maxHeartbeats 1000000 in
set_option maxRecDepth 100000 in
theorem refSaid_reg (A : Option Addr) (n c : Nat) (ys : List Int) (w : World) (hr : Row .u8 w w.heap.size A ys) (hn : ys.length = n) (hc : n ≤ c) (hb : n ≤ 7000) (h5 : 5 ≤ n) (hv : nth ys 0 = 6) :
    Calls Try.prog 71 #[.slice A n c] w (RSaid w ys) := by
  obtain ⟨b, o, rfl, hb1, hc1, hrg⟩ := row_head hr (by omega)
  rw [hv] at hc1
  have HN := Lib.hid hn
  have HR := Lib.hid hr
  have hyr := at2_range ys hr.1 3 (by omega)
  have HQ : Hid (rdOk ys = true ∧ (⟨6, at2 ys 1, 0, [], [at2 ys 3], []⟩ : Req) = rdQ ys) := Lib.hid ⟨by unfold rdOk; rw [if_neg (by omega), if_neg (by omega), if_neg (by omega), if_neg (by omega)], by unfold rdQ; rw [if_neg (by omega), if_neg (by omega), if_pos hv]⟩
  clear hr hn hv hrg
  go_enter Try.func71, Try.ntmps71
  go_wp2_with fail
  refine (refAt_bel b o n c 1 _ rfl ys _ _ (HR.out.tb (TB.new w _ _ _)) HN.out hc (by omega) (by omega)).mono ?_
  rintro e w1 ⟨rfl, b1⟩
  have t1 := (TB.new w #[.int .i64 0, .int .i64 0, .int .i64 0, .slice none 0 0, .slice none 0 0, .slice none 0 0] #[.int .i64 6, .int .i64 0, .int .i64 0, .slice none 0 0, .slice none 0 0, .slice none 0 0] 26).below b1
  clear b1
  generalize at2 ys 1 = x at *
  have t2 : TB w w.heap.size (.cells #[.int .i64 0, .int .i64 0, .int .i64 0, .slice none 0 0, .slice none 0 0, .slice none 0 0] 26 (0, 0)) (.cells #[.int .i64 6, .int .i64 x, .int .i64 0, .slice none 0 0, .slice none 0 0, .slice none 0 0] 26 (0, 0)) (w1.setCell ⟨w.heap.size + 1, 1, none⟩ (.int .i64 x)) := t1.set 1 _
  obtain ⟨d0, d1, d2, d3, d4, d5, d6⟩ := t1.c6
  go_wp2_with fail
  clear d0 d1 d2 d3 d4 d5 d6 t1
  generalize w1.setCell ⟨w.heap.size + 1, 1, none⟩ (.int .i64 x) = w2 at *
  refine (refAt_bel b o n c 3 _ rfl ys _ _ (HR.out.tb t2) HN.out hc (by omega) (by omega)).mono ?_
  rintro e w3 ⟨rfl, b3⟩
  have t3 := t2.below b3
  clear b3 t2
  generalize at2 ys 3 = y at *
  obtain ⟨d0, d1, d2, d3, d4, d5, d6⟩ := t3.c6
  obtain ⟨r0, r1, r2, r3, r4, r5, r6⟩ := t3.r6
  have e1 : IntKind.u16.wrap y = y := by rw [IntKind.wrap_u16]; omega
  have t4 : TB w w.heap.size (.cells #[.int .i64 0, .int .i64 0, .int .i64 0, .slice none 0 0, .slice none 0 0, .slice none 0 0] 26 (0, 0)) (.cells #[.int .i64 6, .int .i64 x, .int .i64 0, .slice none 0 0, .slice (some ⟨w3.heap.size, 0, none⟩) 1 1, .slice none 0 0] 26 (0, 0)) ((w3.alloc (.cells #[.int .u16 y] 90)).setCell ⟨w.heap.size + 1, 4, none⟩ (.slice (some ⟨w3.heap.size, 0, none⟩) 1 1)) := (t3.below (bel_alloc w3 _)).set 4 _
  have P5 := Lib.hid (t4.put (.int .i64 6) (.int .i64 x) (.int .i64 0) (.slice none 0 0) (.slice (some ⟨w3.heap.size, 0, none⟩) 1 1) (.slice none 0 0))
  have hrow : Row .u16 (put6 ((w3.alloc (.cells #[.int .u16 y] 90)).setCell ⟨w.heap.size + 1, 4, none⟩ (.slice (some ⟨w3.heap.size, 0, none⟩) 1 1)) w.heap.size (.int .i64 6) (.int .i64 x) (.int .i64 0) (.slice none 0 0) (.slice (some ⟨w3.heap.size, 0, none⟩) 1 1) (.slice none 0 0)) (put6 ((w3.alloc (.cells #[.int .u16 y] 90)).setCell ⟨w.heap.size + 1, 4, none⟩ (.slice (some ⟨w3.heap.size, 0, none⟩) 1 1)) w.heap.size (.int .i64 6) (.int .i64 x) (.int .i64 0) (.slice none 0 0) (.slice (some ⟨w3.heap.size, 0, none⟩) 1 1) (.slice none 0 0)).heap.size (some ⟨w3.heap.size, 0, none⟩) [y] := by
    have h := Own.put6 (g := w.heap.size) (base := w.heap.size + 2) (Own.set (g := w.heap.size + 1) (base := w.heap.size + 2) (Own.laid (k := .u16) (l := [y]) (heap_alloc_new w3 (.cells (blk .u16 [y]) 90)) (by have := t3.lt; omega) (show [y].length = 1 from rfl) (by simp [maxLen])) (by omega) 4 (.slice (some ⟨w3.heap.size, 0, none⟩) 1 1)) (by omega) (.int .i64 6) (.int .i64 x) (.int .i64 0) (.slice none 0 0) (.slice (some ⟨w3.heap.size, 0, none⟩) 1 1) (.slice none 0 0)
    obtain ⟨A9, c9, h1, h2, _⟩ := h.row (by intro z hz; simp only [List.mem_cons, List.not_mem_nil, or_false] at hz; subst hz; exact wf_word16 hyr)
    injection h1 with h1
    subst h1
    exact h2
  have HR2 := Lib.hid hrow
  have HFR := Lib.hid (show Fresh w.heap.size (some ⟨w3.heap.size, 0, none⟩) from Fresh.at (by have := t3.lt; omega))
  obtain ⟨f0, f1, f2, f3, f4, f5, f6⟩ := (t3.below (bel_alloc w3 (.cells #[.int .u16 y] 90))).c6
  obtain ⟨s0, s1, s2, s3, s4, s5, s6⟩ := (t3.below (bel_alloc w3 (.cells #[.int .u16 y] 90))).r6
  clear t3 t4 hrow
  go_wp2
  (try simp only [Exit.inBlock, Exit.then])
  show bodyPost _ _ _ _ _ (put6 ((w3.alloc (.cells #[.int .u16 y] 90)).setCell ⟨w.heap.size + 1, 4, none⟩ (.slice (some ⟨w3.heap.size, 0, none⟩) 1 1)) w.heap.size (.int .i64 6) (.int .i64 x) (.int .i64 0) (.slice none 0 0) (.slice (some ⟨w3.heap.size, 0, none⟩) 1 1) (.slice none 0 0))
  generalize put6 ((w3.alloc (.cells #[.int .u16 y] 90)).setCell ⟨w.heap.size + 1, 4, none⟩ (.slice (some ⟨w3.heap.size, 0, none⟩) 1 1)) w.heap.size (.int .i64 6) (.int .i64 x) (.int .i64 0) (.slice none 0 0) (.slice (some ⟨w3.heap.size, 0, none⟩) 1 1) (.slice none 0 0) = w6 at *
  obtain ⟨⟨d10, d11, d12⟩, ⟨d13, d14, d15⟩, d16⟩ := cells6 P5.out.1
  refine bodyPost_ret (v := .tuple #[.agg #[.int .i64 6, .int .i64 x, .int .i64 0, .slice none 0 0, .slice (some ⟨w3.heap.size, 0, none⟩) 1 1, .slice none 0 0], .bool true]) (by simp [results, Try.results71, go_sem, d10, d11, d12, d13, d14, d15]) rfl ?_
  exact ⟨⟨6, x, 0, [], [y], []⟩, _, _, _, _, _, _, _, _, _, true, rfl, ⟨L.Row.nil _ _ _ _, HR2.out, Row.nil _ _ _ _, rfl, rfl, rfl⟩, P5.out.2, ⟨Fresh.nil _, HFR.out, Fresh.nil _⟩, .inl ⟨rfl, HQ.out⟩⟩

set_option maxHeartbeats 1000000 in
set_option maxRecDepth 100000 in
theorem refSaid_coil_on (A : Option Addr) (n c : Nat) (ys : List Int) (w : World) (hr : Row .u8 w w.heap.size A ys) (hn : ys.length = n) (hc : n ≤ c) (hb : n ≤ 7000) (h5 : 5 ≤ n) (hv : nth ys 0 = 5) (hy : at2 ys 3 = 65280) :
    Calls Try.prog 71 #[.slice A n c] w (RSaid w ys) := by
  obtain ⟨b, o, rfl, hb1, hc1, hrg⟩ := row_head hr (by omega)
  rw [hv] at hc1
  have HN := Lib.hid hn
  have HR := Lib.hid hr
  have HQ : Hid (rdOk ys = true ∧ (⟨5, at2 ys 1, 0, [true], [], []⟩ : Req) = rdQ ys) := Lib.hid ⟨by unfold rdOk; rw [if_neg (by omega), if_pos hv]; simp [hy], by unfold rdQ; rw [if_neg (by omega), if_pos hv, show coilL (at2 ys 3) = [true] by rw [hy]; rfl]⟩
  clear hr hn hv hrg
  go_enter Try.func71, Try.ntmps71
  go_wp2_with fail
  refine (refAt_bel b o n c 1 _ rfl ys _ _ (HR.out.tb (TB.new w _ _ _)) HN.out hc (by omega) (by omega)).mono ?_
  rintro e w1 ⟨rfl, b1⟩
  have t1 := (TB.new w #[.int .i64 0, .int .i64 0, .int .i64 0, .slice none 0 0, .slice none 0 0, .slice none 0 0] #[.int .i64 5, .int .i64 0, .int .i64 0, .slice none 0 0, .slice none 0 0, .slice none 0 0] 26).below b1
  clear b1
  generalize at2 ys 1 = x at *
  have t2 : TB w w.heap.size (.cells #[.int .i64 0, .int .i64 0, .int .i64 0, .slice none 0 0, .slice none 0 0, .slice none 0 0] 26 (0, 0)) (.cells #[.int .i64 5, .int .i64 x, .int .i64 0, .slice none 0 0, .slice none 0 0, .slice none 0 0] 26 (0, 0)) (w1.setCell ⟨w.heap.size + 1, 1, none⟩ (.int .i64 x)) := t1.set 1 _
  obtain ⟨d0, d1, d2, d3, d4, d5, d6⟩ := t1.c6
  go_wp2_with fail
  clear d0 d1 d2 d3 d4 d5 d6 t1
  generalize w1.setCell ⟨w.heap.size + 1, 1, none⟩ (.int .i64 x) = w2 at *
  refine (refAt_bel b o n c 3 _ rfl ys _ _ (HR.out.tb t2) HN.out hc (by omega) (by omega)).mono ?_
  rintro e w3 ⟨rfl, b3⟩
  have t3 := t2.below b3
  clear b3 t2
  generalize at2 ys 3 = y at *
  obtain ⟨d0, d1, d2, d3, d4, d5, d6⟩ := t3.c6
  obtain ⟨r0, r1, r2, r3, r4, r5, r6⟩ := t3.r6
  subst hy
  have t4 : TB w w.heap.size (.cells #[.int .i64 0, .int .i64 0, .int .i64 0, .slice none 0 0, .slice none 0 0, .slice none 0 0] 26 (0, 0)) (.cells #[.int .i64 5, .int .i64 x, .int .i64 0, .slice (some ⟨w3.heap.size, 0, none⟩) 1 1, .slice none 0 0, .slice none 0 0] 26 (0, 0)) ((w3.alloc (.cells #[.bool true] 4)).setCell ⟨w.heap.size + 1, 3, none⟩ (.slice (some ⟨w3.heap.size, 0, none⟩) 1 1)) := (t3.below (bel_alloc w3 _)).set 3 _
  have P5 := Lib.hid (t4.put (.int .i64 5) (.int .i64 x) (.int .i64 0) (.slice (some ⟨w3.heap.size, 0, none⟩) 1 1) (.slice none 0 0) (.slice none 0 0))
  have hrow : L.Row () (put6 ((w3.alloc (.cells #[.bool true] 4)).setCell ⟨w.heap.size + 1, 3, none⟩ (.slice (some ⟨w3.heap.size, 0, none⟩) 1 1)) w.heap.size (.int .i64 5) (.int .i64 x) (.int .i64 0) (.slice (some ⟨w3.heap.size, 0, none⟩) 1 1) (.slice none 0 0) (.slice none 0 0)) (put6 ((w3.alloc (.cells #[.bool true] 4)).setCell ⟨w.heap.size + 1, 3, none⟩ (.slice (some ⟨w3.heap.size, 0, none⟩) 1 1)) w.heap.size (.int .i64 5) (.int .i64 x) (.int .i64 0) (.slice (some ⟨w3.heap.size, 0, none⟩) 1 1) (.slice none 0 0) (.slice none 0 0)).heap.size (some ⟨w3.heap.size, 0, none⟩) [true] := by
    have h := L.Own.put6 (g := w.heap.size) (base := w.heap.size + 2) (L.Own.set (g := w.heap.size + 1) (base := w.heap.size + 2) (L.Own.laid (k := ()) (l := [true]) (heap_alloc_new w3 (.cells (L.blk () [true]) 4)) (by have := t3.lt; omega) (show [true].length = 1 from rfl) (by simp [maxLen])) (by omega) 3 (.slice (some ⟨w3.heap.size, 0, none⟩) 1 1)) (by omega) (.int .i64 5) (.int .i64 x) (.int .i64 0) (.slice (some ⟨w3.heap.size, 0, none⟩) 1 1) (.slice none 0 0) (.slice none 0 0)
    obtain ⟨A9, c9, h1, h2, _⟩ := h.row (by intro z hz; rfl)
    injection h1 with h1
    subst h1
    exact h2
  have HR2 := Lib.hid hrow
  have HFR := Lib.hid (show Fresh w.heap.size (some ⟨w3.heap.size, 0, none⟩) from Fresh.at (by have := t3.lt; omega))
  obtain ⟨f0, f1, f2, f3, f4, f5, f6⟩ := (t3.below (bel_alloc w3 (.cells #[.bool true] 4))).c6
  obtain ⟨s0, s1, s2, s3, s4, s5, s6⟩ := (t3.below (bel_alloc w3 (.cells #[.bool true] 4))).r6
  clear t3 t4 hrow
  go_wp2
  (try simp only [Exit.inBlock, Exit.then])
  show bodyPost _ _ _ _ _ (put6 ((w3.alloc (.cells #[.bool true] 4)).setCell ⟨w.heap.size + 1, 3, none⟩ (.slice (some ⟨w3.heap.size, 0, none⟩) 1 1)) w.heap.size (.int .i64 5) (.int .i64 x) (.int .i64 0) (.slice (some ⟨w3.heap.size, 0, none⟩) 1 1) (.slice none 0 0) (.slice none 0 0))
  generalize put6 ((w3.alloc (.cells #[.bool true] 4)).setCell ⟨w.heap.size + 1, 3, none⟩ (.slice (some ⟨w3.heap.size, 0, none⟩) 1 1)) w.heap.size (.int .i64 5) (.int .i64 x) (.int .i64 0) (.slice (some ⟨w3.heap.size, 0, none⟩) 1 1) (.slice none 0 0) (.slice none 0 0) = w6 at *
  obtain ⟨⟨d10, d11, d12⟩, ⟨d13, d14, d15⟩, d16⟩ := cells6 P5.out.1
  refine bodyPost_ret (v := .tuple #[.agg #[.int .i64 5, .int .i64 x, .int .i64 0, .slice (some ⟨w3.heap.size, 0, none⟩) 1 1, .slice none 0 0, .slice none 0 0], .bool true]) (by simp [results, Try.results71, go_sem, d10, d11, d12, d13, d14, d15]) rfl ?_
  exact ⟨⟨5, x, 0, [true], [], []⟩, _, _, _, _, _, _, _, _, _, true, rfl, ⟨HR2.out, Row.nil _ _ _ _, Row.nil _ _ _ _, rfl, rfl, rfl⟩, P5.out.2, ⟨HFR.out, Fresh.nil _, Fresh.nil _⟩, .inl ⟨rfl, HQ.out⟩⟩

set_option maxHeartbeats 1000000 in
set_option maxRecDepth 100000 in
theorem refSaid_coil_off (A : Option Addr) (n c : Nat) (ys : List Int) (w : World) (hr : Row .u8 w w.heap.size A ys) (hn : ys.length = n) (hc : n ≤ c) (hb : n ≤ 7000) (h5 : 5 ≤ n) (hv : nth ys 0 = 5) (hy : at2 ys 3 = 0) :
    Calls Try.prog 71 #[.slice A n c] w (RSaid w ys) := by
  obtain ⟨b, o, rfl, hb1, hc1, hrg⟩ := row_head hr (by omega)
  rw [hv] at hc1
  have HN := Lib.hid hn
  have HR := Lib.hid hr
  have HQ : Hid (rdOk ys = true ∧ (⟨5, at2 ys 1, 0, [false], [], []⟩ : Req) = rdQ ys) := Lib.hid ⟨by unfold rdOk; rw [if_neg (by omega), if_pos hv]; simp [hy], by unfold rdQ; rw [if_neg (by omega), if_pos hv, show coilL (at2 ys 3) = [false] by rw [hy]; rfl]⟩
  clear hr hn hv hrg
  go_enter Try.func71, Try.ntmps71
  go_wp2_with fail
  refine (refAt_bel b o n c 1 _ rfl ys _ _ (HR.out.tb (TB.new w _ _ _)) HN.out hc (by omega) (by omega)).mono ?_
  rintro e w1 ⟨rfl, b1⟩
  have t1 := (TB.new w #[.int .i64 0, .int .i64 0, .int .i64 0, .slice none 0 0, .slice none 0 0, .slice none 0 0] #[.int .i64 5, .int .i64 0, .int .i64 0, .slice none 0 0, .slice none 0 0, .slice none 0 0] 26).below b1
  clear b1
  generalize at2 ys 1 = x at *
  have t2 : TB w w.heap.size (.cells #[.int .i64 0, .int .i64 0, .int .i64 0, .slice none 0 0, .slice none 0 0, .slice none 0 0] 26 (0, 0)) (.cells #[.int .i64 5, .int .i64 x, .int .i64 0, .slice none 0 0, .slice none 0 0, .slice none 0 0] 26 (0, 0)) (w1.setCell ⟨w.heap.size + 1, 1, none⟩ (.int .i64 x)) := t1.set 1 _
  obtain ⟨d0, d1, d2, d3, d4, d5, d6⟩ := t1.c6
  go_wp2_with fail
  clear d0 d1 d2 d3 d4 d5 d6 t1
  generalize w1.setCell ⟨w.heap.size + 1, 1, none⟩ (.int .i64 x) = w2 at *
  refine (refAt_bel b o n c 3 _ rfl ys _ _ (HR.out.tb t2) HN.out hc (by omega) (by omega)).mono ?_
  rintro e w3 ⟨rfl, b3⟩
  have t3 := t2.below b3
  clear b3 t2
  generalize at2 ys 3 = y at *
  obtain ⟨d0, d1, d2, d3, d4, d5, d6⟩ := t3.c6
  obtain ⟨r0, r1, r2, r3, r4, r5, r6⟩ := t3.r6
  subst hy
  have t4 : TB w w.heap.size (.cells #[.int .i64 0, .int .i64 0, .int .i64 0, .slice none 0 0, .slice none 0 0, .slice none 0 0] 26 (0, 0)) (.cells #[.int .i64 5, .int .i64 x, .int .i64 0, .slice (some ⟨w3.heap.size, 0, none⟩) 1 1, .slice none 0 0, .slice none 0 0] 26 (0, 0)) ((w3.alloc (.cells #[.bool false] 4)).setCell ⟨w.heap.size + 1, 3, none⟩ (.slice (some ⟨w3.heap.size, 0, none⟩) 1 1)) := (t3.below (bel_alloc w3 _)).set 3 _
  have P5 := Lib.hid (t4.put (.int .i64 5) (.int .i64 x) (.int .i64 0) (.slice (some ⟨w3.heap.size, 0, none⟩) 1 1) (.slice none 0 0) (.slice none 0 0))
  have hrow : L.Row () (put6 ((w3.alloc (.cells #[.bool false] 4)).setCell ⟨w.heap.size + 1, 3, none⟩ (.slice (some ⟨w3.heap.size, 0, none⟩) 1 1)) w.heap.size (.int .i64 5) (.int .i64 x) (.int .i64 0) (.slice (some ⟨w3.heap.size, 0, none⟩) 1 1) (.slice none 0 0) (.slice none 0 0)) (put6 ((w3.alloc (.cells #[.bool false] 4)).setCell ⟨w.heap.size + 1, 3, none⟩ (.slice (some ⟨w3.heap.size, 0, none⟩) 1 1)) w.heap.size (.int .i64 5) (.int .i64 x) (.int .i64 0) (.slice (some ⟨w3.heap.size, 0, none⟩) 1 1) (.slice none 0 0) (.slice none 0 0)).heap.size (some ⟨w3.heap.size, 0, none⟩) [false] := by
    have h := L.Own.put6 (g := w.heap.size) (base := w.heap.size + 2) (L.Own.set (g := w.heap.size + 1) (base := w.heap.size + 2) (L.Own.laid (k := ()) (l := [false]) (heap_alloc_new w3 (.cells (L.blk () [false]) 4)) (by have := t3.lt; omega) (show [false].length = 1 from rfl) (by simp [maxLen])) (by omega) 3 (.slice (some ⟨w3.heap.size, 0, none⟩) 1 1)) (by omega) (.int .i64 5) (.int .i64 x) (.int .i64 0) (.slice (some ⟨w3.heap.size, 0, none⟩) 1 1) (.slice none 0 0) (.slice none 0 0)
    obtain ⟨A9, c9, h1, h2, _⟩ := h.row (by intro z hz; rfl)
    injection h1 with h1
    subst h1
    exact h2
  have HR2 := Lib.hid hrow
  have HFR := Lib.hid (show Fresh w.heap.size (some ⟨w3.heap.size, 0, none⟩) from Fresh.at (by have := t3.lt; omega))
  obtain ⟨f0, f1, f2, f3, f4, f5, f6⟩ := (t3.below (bel_alloc w3 (.cells #[.bool false] 4))).c6
  obtain ⟨s0, s1, s2, s3, s4, s5, s6⟩ := (t3.below (bel_alloc w3 (.cells #[.bool false] 4))).r6
  clear t3 t4 hrow
  go_wp2
  (try simp only [Exit.inBlock, Exit.then])
  show bodyPost _ _ _ _ _ (put6 ((w3.alloc (.cells #[.bool false] 4)).setCell ⟨w.heap.size + 1, 3, none⟩ (.slice (some ⟨w3.heap.size, 0, none⟩) 1 1)) w.heap.size (.int .i64 5) (.int .i64 x) (.int .i64 0) (.slice (some ⟨w3.heap.size, 0, none⟩) 1 1) (.slice none 0 0) (.slice none 0 0))
  generalize put6 ((w3.alloc (.cells #[.bool false] 4)).setCell ⟨w.heap.size + 1, 3, none⟩ (.slice (some ⟨w3.heap.size, 0, none⟩) 1 1)) w.heap.size (.int .i64 5) (.int .i64 x) (.int .i64 0) (.slice (some ⟨w3.heap.size, 0, none⟩) 1 1) (.slice none 0 0) (.slice none 0 0) = w6 at *
  obtain ⟨⟨d10, d11, d12⟩, ⟨d13, d14, d15⟩, d16⟩ := cells6 P5.out.1
  refine bodyPost_ret (v := .tuple #[.agg #[.int .i64 5, .int .i64 x, .int .i64 0, .slice (some ⟨w3.heap.size, 0, none⟩) 1 1, .slice none 0 0, .slice none 0 0], .bool true]) (by simp [results, Try.results71, go_sem, d10, d11, d12, d13, d14, d15]) rfl ?_
  exact ⟨⟨5, x, 0, [false], [], []⟩, _, _, _, _, _, _, _, _, _, true, rfl, ⟨HR2.out, Row.nil _ _ _ _, Row.nil _ _ _ _, rfl, rfl, rfl⟩, P5.out.2, ⟨HFR.out, Fresh.nil _, Fresh.nil _⟩, .inl ⟨rfl, HQ.out⟩⟩

set_option maxHeartbeats 1000000 in
set_option maxRecDepth 100000 in
theorem refSaid_coil_none (A : Option Addr) (n c : Nat) (ys : List Int) (w : World) (hr : Row .u8 w w.heap.size A ys) (hn : ys.length = n) (hc : n ≤ c) (hb : n ≤ 7000) (h5 : 5 ≤ n) (hv : nth ys 0 = 5) (hy : ¬ (at2 ys 3 = 65280) ∧ ¬ (at2 ys 3 = 0)) :
    Calls Try.prog 71 #[.slice A n c] w (RSaid w ys) := by
  obtain ⟨b, o, rfl, hb1, hc1, hrg⟩ := row_head hr (by omega)
  rw [hv] at hc1
  have HN := Lib.hid hn
  have HR := Lib.hid hr
  have HQ : Hid (rdOk ys = false) := Lib.hid (by unfold rdOk; rw [if_neg (by omega), if_pos hv]; simp [hy])
  clear hr hn hv hrg
  go_enter Try.func71, Try.ntmps71
  go_wp2_with fail
  refine (refAt_bel b o n c 1 _ rfl ys _ _ (HR.out.tb (TB.new w _ _ _)) HN.out hc (by omega) (by omega)).mono ?_
  rintro e w1 ⟨rfl, b1⟩
  have t1 := (TB.new w #[.int .i64 0, .int .i64 0, .int .i64 0, .slice none 0 0, .slice none 0 0, .slice none 0 0] #[.int .i64 5, .int .i64 0, .int .i64 0, .slice none 0 0, .slice none 0 0, .slice none 0 0] 26).below b1
  clear b1
  generalize at2 ys 1 = x at *
  have t2 : TB w w.heap.size (.cells #[.int .i64 0, .int .i64 0, .int .i64 0, .slice none 0 0, .slice none 0 0, .slice none 0 0] 26 (0, 0)) (.cells #[.int .i64 5, .int .i64 x, .int .i64 0, .slice none 0 0, .slice none 0 0, .slice none 0 0] 26 (0, 0)) (w1.setCell ⟨w.heap.size + 1, 1, none⟩ (.int .i64 x)) := t1.set 1 _
  obtain ⟨d0, d1, d2, d3, d4, d5, d6⟩ := t1.c6
  go_wp2_with fail
  clear d0 d1 d2 d3 d4 d5 d6 t1
  generalize w1.setCell ⟨w.heap.size + 1, 1, none⟩ (.int .i64 x) = w2 at *
  refine (refAt_bel b o n c 3 _ rfl ys _ _ (HR.out.tb t2) HN.out hc (by omega) (by omega)).mono ?_
  rintro e w3 ⟨rfl, b3⟩
  have t3 := t2.below b3
  clear b3 t2
  generalize at2 ys 3 = y at *
  obtain ⟨d0, d1, d2, d3, d4, d5, d6⟩ := t3.c6
  obtain ⟨r0, r1, r2, r3, r4, r5, r6⟩ := t3.r6
  have u1 : (y == 65280) = false := beq_false_of_ne hy.1
  have u2 : (y == 0) = false := beq_false_of_ne hy.2
  clear hy
  have t4 : TB w w.heap.size (.cells #[.int .i64 0, .int .i64 0, .int .i64 0, .slice none 0 0, .slice none 0 0, .slice none 0 0] 26 (0, 0)) (.cells #[.int .i64 5, .int .i64 x, .int .i64 0, .slice (some ⟨w3.heap.size, 0, none⟩) 1 1, .slice none 0 0, .slice none 0 0] 26 (0, 0)) ((w3.alloc (.cells #[.bool false] 4)).setCell ⟨w.heap.size + 1, 3, none⟩ (.slice (some ⟨w3.heap.size, 0, none⟩) 1 1)) := (t3.below (bel_alloc w3 _)).set 3 _
  have P5 := Lib.hid (t4.put (.int .i64 5) (.int .i64 x) (.int .i64 0) (.slice (some ⟨w3.heap.size, 0, none⟩) 1 1) (.slice none 0 0) (.slice none 0 0))
  have hrow : L.Row () (put6 ((w3.alloc (.cells #[.bool false] 4)).setCell ⟨w.heap.size + 1, 3, none⟩ (.slice (some ⟨w3.heap.size, 0, none⟩) 1 1)) w.heap.size (.int .i64 5) (.int .i64 x) (.int .i64 0) (.slice (some ⟨w3.heap.size, 0, none⟩) 1 1) (.slice none 0 0) (.slice none 0 0)) (put6 ((w3.alloc (.cells #[.bool false] 4)).setCell ⟨w.heap.size + 1, 3, none⟩ (.slice (some ⟨w3.heap.size, 0, none⟩) 1 1)) w.heap.size (.int .i64 5) (.int .i64 x) (.int .i64 0) (.slice (some ⟨w3.heap.size, 0, none⟩) 1 1) (.slice none 0 0) (.slice none 0 0)).heap.size (some ⟨w3.heap.size, 0, none⟩) [false] := by
    have h := L.Own.put6 (g := w.heap.size) (base := w.heap.size + 2) (L.Own.set (g := w.heap.size + 1) (base := w.heap.size + 2) (L.Own.laid (k := ()) (l := [false]) (heap_alloc_new w3 (.cells (L.blk () [false]) 4)) (by have := t3.lt; omega) (show [false].length = 1 from rfl) (by simp [maxLen])) (by omega) 3 (.slice (some ⟨w3.heap.size, 0, none⟩) 1 1)) (by omega) (.int .i64 5) (.int .i64 x) (.int .i64 0) (.slice (some ⟨w3.heap.size, 0, none⟩) 1 1) (.slice none 0 0) (.slice none 0 0)
    obtain ⟨A9, c9, h1, h2, _⟩ := h.row (by intro z hz; rfl)
    injection h1 with h1
    subst h1
    exact h2
  have HR2 := Lib.hid hrow
  have HFR := Lib.hid (show Fresh w.heap.size (some ⟨w3.heap.size, 0, none⟩) from Fresh.at (by have := t3.lt; omega))
  obtain ⟨f0, f1, f2, f3, f4, f5, f6⟩ := (t3.below (bel_alloc w3 (.cells #[.bool false] 4))).c6
  obtain ⟨s0, s1, s2, s3, s4, s5, s6⟩ := (t3.below (bel_alloc w3 (.cells #[.bool false] 4))).r6
  clear t3 t4 hrow
  go_wp2
  (try simp only [Exit.inBlock, Exit.then])
  show bodyPost _ _ _ _ _ (put6 ((w3.alloc (.cells #[.bool false] 4)).setCell ⟨w.heap.size + 1, 3, none⟩ (.slice (some ⟨w3.heap.size, 0, none⟩) 1 1)) w.heap.size (.int .i64 5) (.int .i64 x) (.int .i64 0) (.slice (some ⟨w3.heap.size, 0, none⟩) 1 1) (.slice none 0 0) (.slice none 0 0))
  generalize put6 ((w3.alloc (.cells #[.bool false] 4)).setCell ⟨w.heap.size + 1, 3, none⟩ (.slice (some ⟨w3.heap.size, 0, none⟩) 1 1)) w.heap.size (.int .i64 5) (.int .i64 x) (.int .i64 0) (.slice (some ⟨w3.heap.size, 0, none⟩) 1 1) (.slice none 0 0) (.slice none 0 0) = w6 at *
  obtain ⟨⟨d10, d11, d12⟩, ⟨d13, d14, d15⟩, d16⟩ := cells6 P5.out.1
  refine bodyPost_ret (v := .tuple #[.agg #[.int .i64 5, .int .i64 x, .int .i64 0, .slice (some ⟨w3.heap.size, 0, none⟩) 1 1, .slice none 0 0, .slice none 0 0], .bool false]) (by simp [results, Try.results71, go_sem, d10, d11, d12, d13, d14, d15]) rfl ?_
  exact ⟨⟨5, x, 0, [false], [], []⟩, _, _, _, _, _, _, _, _, _, false, rfl, ⟨HR2.out, Row.nil _ _ _ _, Row.nil _ _ _ _, rfl, rfl, rfl⟩, P5.out.2, ⟨HFR.out, Fresh.nil _, Fresh.nil _⟩, .inr ⟨rfl, HQ.out⟩⟩
end Go.Proofs.Ytfdikjfbmfibjaa
namespace Go.Proofs.Ytfdikjfbmfibjaa.L
open Go.RowKit
set_option linter.unusedVariables false

section
variable {P : Program}
theorem run_append_row (w : World) (base : Nat) (t ty : TypeId) (k : Unit) (e : TypeId) (bytes : Nat) (ht : P.underlying t = some (.slice e)) (hi : (P.info? e).map (fun i => (i.zero, i.size, i.bytes)) = some (some (.bool false), 1, bytes))
    (v : Value) (xs : List Bool) (hown : Own k e w base v xs) (B : Nat) (A : Option Addr) (m c : Nat) (ys : List Bool) (hr : Row k w B A ys) (hm : ys.length = m)
    (hbytes : (xs.length + m) * bytes ≤ 140737488355328) (h63 : xs.length + m ≤ maxLen) (hbase : base ≤ w.heap.size) :
    ∃ v' w', (Builtin.append_ #[t, t] ty #[v, .slice A m c]).run P w = .ok v' w' ∧ Own k e w' base v' (xs ++ ys) ∧ w.grownBy w' v.ownBlock := by
  obtain ⟨i, hi1, hz, hsz, hby⟩ := info_parts hi
  cases A with
  | none =>
    have hm0 : m = 0 := by
      rcases Nat.eq_zero_or_pos m with h0 | h0
      · exact h0
      · obtain ⟨b, o, h, _⟩ := hr.2 (by omega); cases h
    subst hm0
    have hy : ys = [] := List.eq_nil_of_length_eq_zero hm
    subst hy
    exact ⟨v, w, run_append_none (P := P) w t ty e i ht hi1 base v _ _ hown c, by simpa using hown, World.grownBy.refl _ _⟩
  | some ad =>
    have hcells : ∀ j u, (ys.map (Value.bool))[j]? = some u → w.cell? (ad.add j) = some u := by
      intro j u hu
      rw [List.getElem?_map] at hu
      by_cases hj : j < ys.length
      · obtain ⟨b, o, e1, _, hc⟩ := hr.2 (by omega)
        injection e1 with e1
        subst e1
        rw [List.getElem?_eq_getElem hj] at hu
        rw [Go.WideShapes.add_plain, hc j hj, nth_eq ys j hj]
        exact hu
      · rw [List.getElem?_eq_none (by omega)] at hu
        cases hu
    obtain ⟨v', w', hrun, h2, h3, _, _⟩ := run_append_own_at (P := P) w base t ty e i (.bool false) 1 bytes ht hi1 hz hsz hby rfl (by omega) v _ _ hown ad m c (ys.map (Value.bool)) (by simp [hm]) hcells (bools_oneCell ys) h63 hbytes hbase
    exact ⟨v', w', hrun, by simpa [Own, hm] using h2, h3⟩

theorem run_append_row2 (w : World) (base : Nat) (t ty : TypeId) (k : Unit) (e : TypeId) (bytes : Nat) (ht : P.underlying t = some (.slice e)) (hi : (P.info? e).map (fun i => (i.zero, i.size, i.bytes)) = some (some (.bool false), 1, bytes))
    (v : Value) (xs : List Bool) (hown : Own k e w base v xs) (B : Nat) (A : Option Addr) (m c : Nat) (ys : List Bool) (hr : Row k w B A ys) (hm : ys.length = m)
    (hbytes : (xs.length + m) * bytes ≤ 140737488355328) (h63 : xs.length + m ≤ maxLen) (hbase : base ≤ w.heap.size) :
    ∃ v' w', (Builtin.append_ #[t, t] ty #[v, .slice A m c]).run P w = .ok v' w' ∧ Own k e w' base v' (xs ++ ys) ∧ w.grownBy w' v.ownBlock ∧ (v'.ownBlock = v.ownBlock ∨ v'.ownBlock = some w.heap.size) := by
  obtain ⟨i, hi1, hz, hsz, hby⟩ := info_parts hi
  cases A with
  | none =>
    have hm0 : m = 0 := by
      rcases Nat.eq_zero_or_pos m with h0 | h0
      · exact h0
      · obtain ⟨b, o, h, _⟩ := hr.2 (by omega); cases h
    subst hm0
    have hy : ys = [] := List.eq_nil_of_length_eq_zero hm
    subst hy
    exact ⟨v, w, run_append_none (P := P) w t ty e i ht hi1 base v _ _ hown c, by simpa using hown, World.grownBy.refl _ _, .inl rfl⟩
  | some ad =>
    have hcells : ∀ j u, (ys.map (Value.bool))[j]? = some u → w.cell? (ad.add j) = some u := by
      intro j u hu
      rw [List.getElem?_map] at hu
      by_cases hj : j < ys.length
      · obtain ⟨b, o, e1, _, hc⟩ := hr.2 (by omega)
        injection e1 with e1
        subst e1
        rw [List.getElem?_eq_getElem hj] at hu
        rw [Go.WideShapes.add_plain, hc j hj, nth_eq ys j hj]
        exact hu
      · rw [List.getElem?_eq_none (by omega)] at hu
        cases hu
    obtain ⟨v', w', hrun, h2, h3, _, h5⟩ := run_append_own_at (P := P) w base t ty e i (.bool false) 1 bytes ht hi1 hz hsz hby rfl (by omega) v _ _ hown ad m c (ys.map (Value.bool)) (by simp [hm]) hcells (bools_oneCell ys) h63 hbytes hbase
    exact ⟨v', w', hrun, by simpa [Own, hm] using h2, h3, h5⟩

/-- 'append(v, src...)': v owned, src whatever row of integers; where the new row lies. -/
theorem wpList_append_row2 {ops : Array Oper} {rest : List Oper} {o : Oper} {a : Act} {Q : Exit → Act → World → Prop} (w : World) (hgd : o.guard = none) (s x : Operand) (t : TypeId)
    (ho : o.op = .call { callee := .builtin .append, args := #[s, x], argTypes := #[t, t] })
    (base : Nat) (k : Unit) (e : TypeId) (bytes : Nat) (ht : P.underlying t = some (.slice e)) (hi : (P.info? e).map (fun i => (i.zero, i.size, i.bytes)) = some (some (.bool false), 1, bytes))
    (v : Value) (xs : List Bool) (hs : a.eval s = v) (hown : Own k e w base v xs) (B : Nat) (A : Option Addr) (m c : Nat) (ys : List Bool) (hx : a.eval x = .slice A m c) (hr : Row k w B A ys) (hm : ys.length = m)
    (hbytes : (xs.length + m) * bytes ≤ 140737488355328) (h63 : xs.length + m ≤ maxLen) (hbase : base ≤ w.heap.size)
    (h : ∀ v' w', Own k e w' base v' (xs ++ ys) → w.grownBy w' v.ownBlock → (v'.ownBlock = v.ownBlock ∨ v'.ownBlock = some w.heap.size) → wpList P ops Q rest (a.put o.dst v') w') : wpList P ops Q (o :: rest) a w := by
  obtain ⟨v', w', hrun, h1, h2, h3⟩ := run_append_row2 (P := P) w base t o.type k e bytes ht hi v xs hown B A m c ys hr hm hbytes h63 hbase
  refine wpList_plain hgd fun K hK => ?_
  unfold Oper.wp
  simp [execOp, ho, resolve, invoke, builtin, hs, hx, hrun, Result.andThen]
  exact hK _ _ (h v' w' h1 h2 h3)

theorem step_append_row {ops : Array Oper} {o : Oper} {a : Act} {K : Act → World → Prop} {Q : Exit → Act → World → Prop} {E : Prop} (w : World) (hgd : o.guard = none) (s x : Operand) (t : TypeId)
    (ho : o.op = .call { callee := .builtin .append, args := #[s, x], argTypes := #[t, t] })
    (base : Nat) (k : Unit) (e : TypeId) (bytes : Nat) (ht : P.underlying t = some (.slice e)) (hi : (P.info? e).map (fun i => (i.zero, i.size, i.bytes)) = some (some (.bool false), 1, bytes))
    (v : Value) (xs : List Bool) (hs : a.eval s = v) (hown : Own k e w base v xs) (B : Nat) (A : Option Addr) (m c : Nat) (ys : List Bool) (hx : a.eval x = .slice A m c) (hr : Row k w B A ys) (hm : ys.length = m)
    (hbytes : (xs.length + m) * bytes ≤ 140737488355328) (h63 : xs.length + m ≤ maxLen) (hbase : base ≤ w.heap.size)
    (h : ∀ v' w', Own k e w' base v' (xs ++ ys) → w.grownBy w' v.ownBlock → K (a.put o.dst v') w') :
    if Region.wanted o (yielded ops a.tmps) = true then Oper.wp P o a w K Q else E := by
  have hw : Region.wanted o (yielded ops a.tmps) = true := by simp [Region.wanted, hgd]
  rw [if_pos hw]
  obtain ⟨v', w', hrun, h1, h2⟩ := run_append_row (P := P) w base t o.type k e bytes ht hi v xs hown B A m c ys hr hm hbytes h63 hbase
  unfold Oper.wp execOp
  simp only [ho, resolve, invoke, builtin, Sem.run_bind, Sem.run_pure, Result.andThen_ok, List.map_toArray, List.map_cons, List.map_nil, hs, hx, hrun]
  exact h v' w' h1 h2
end
end Go.Proofs.Ytfdikjfbmfibjaa.L
namespace Go.Proofs.Ytfdikjfbmfibjaa
open Go.RowKit
set_option linter.unusedVariables false

theorem spare_pk (ys : List Int) (n : Nat) (hw : ∀ x ∈ ys, (Lit.int .u8 x).wf = true) (hl : ys.length = need n) : bitsOk ys n = decide (pk (unpk ys n) (need n) = ys) := by
  rw [bitsOk, decide_eq_true hl, Bool.true_and]
  by_cases h : spare ys n
  · rw [(spareB_iff ys n).2 h, decide_eq_false]
    · rfl
    · intro e
      have h2 := no_spare_pk (unpk ys n)
      rw [unpk_length, e] at h2
      exact h2 h
  · rw [decide_eq_true (pk_unpk ys n hw hl h)]
    cases hs : spareB ys n with
    | false => rfl
    | true => exact absurd ((spareB_iff ys n).1 hs) h
theorem bitsOk_len (ys : List Int) (n : Nat) (h : ys.length ≠ need n) : bitsOk ys n = false := by rw [bitsOk, decide_eq_false h, Bool.false_and]

set_option maxHeartbeats 1000000 in
set_option maxRecDepth 100000 in
theorem refSaid_bits_len (A : Option Addr) (n c : Nat) (ys : List Int) (w : World) (hr : Row .u8 w w.heap.size A ys) (hn : ys.length = n) (hc : n ≤ c) (hb : n ≤ 7000) (h5 : 6 ≤ n) (hv : nth ys 0 = 15) (m : Nat) (hm : at2 ys 3 = m) (hlen : n - 6 ≠ need m) :
    Calls Try.prog 71 #[.slice A n c] w (RSaid w ys) := by
  obtain ⟨b, o, rfl, hb1, hc1, hrg⟩ := row_head hr (by omega)
  rw [hv] at hc1
  have HN := Lib.hid hn
  have HR := Lib.hid hr
  have hyr := at2_range ys hr.1 3 (by omega)
  have HQ : Hid (rdOk ys = false) := Lib.hid (by
    unfold rdOk; rw [if_neg (by omega), if_neg (by omega), if_pos hv, hm, Int.toNat_natCast]
    exact bitsOk_len _ _ (by rw [List.length_drop, hn]; exact hlen))
  have hmb : m < 65536 := by omega
  have en : ((m : Int) + 7) / 8 = ((need m : Nat) : Int) := by unfold need; omega
  generalize need m = d at *
  have tn : ((n : Int) - 6 != (d : Int)) = true := by simp; omega
  have tn2 : ((n : Int) - 6 == (d : Int)) = false := beq_false_of_ne (by omega)
  clear hr hn hv hrg hlen
  go_enter Try.func71, Try.ntmps71
  go_wp2_with fail
  refine (refAt_bel b o n c 1 _ rfl ys _ _ (HR.out.tb (TB.new w _ _ _)) HN.out hc (by omega) (by omega)).mono ?_
  rintro e w1 ⟨rfl, b1⟩
  have t1 := (TB.new w #[.int .i64 0, .int .i64 0, .int .i64 0, .slice none 0 0, .slice none 0 0, .slice none 0 0] #[.int .i64 15, .int .i64 0, .int .i64 0, .slice none 0 0, .slice none 0 0, .slice none 0 0] 26).below b1
  clear b1
  generalize at2 ys 1 = x at *
  have t2 : TB w w.heap.size (.cells #[.int .i64 0, .int .i64 0, .int .i64 0, .slice none 0 0, .slice none 0 0, .slice none 0 0] 26 (0, 0)) (.cells #[.int .i64 15, .int .i64 x, .int .i64 0, .slice none 0 0, .slice none 0 0, .slice none 0 0] 26 (0, 0)) (w1.setCell ⟨w.heap.size + 1, 1, none⟩ (.int .i64 x)) := t1.set 1 _
  obtain ⟨d0, d1, d2, d3, d4, d5, d6⟩ := t1.c6
  go_wp2_with fail
  clear d0 d1 d2 d3 d4 d5 d6 t1
  generalize w1.setCell ⟨w.heap.size + 1, 1, none⟩ (.int .i64 x) = w2 at *
  refine (refAt_bel b o n c 3 _ rfl ys _ _ (HR.out.tb t2) HN.out hc (by omega) (by omega)).mono ?_
  rintro e w3 ⟨rfl, b3⟩
  have t3 := t2.below b3
  clear b3 t2
  generalize at2 ys 3 = y at *
  obtain ⟨d0, d1, d2, d3, d4, d5, d6⟩ := t3.c6
  obtain ⟨r0, r1, r2, r3, r4, r5, r6⟩ := t3.r6
  subst hm
  have P5 := Lib.hid (t3.put (.int .i64 0) (.int .i64 0) (.int .i64 0) (.slice none 0 0) (.slice none 0 0) (.slice none 0 0))
  clear t3
  go_wp2
  (try simp only [Exit.inBlock, Exit.then])
  show bodyPost _ _ _ _ _ (put6 (w3) w.heap.size (.int .i64 0) (.int .i64 0) (.int .i64 0) (.slice none 0 0) (.slice none 0 0) (.slice none 0 0))
  generalize put6 (w3) w.heap.size (.int .i64 0) (.int .i64 0) (.int .i64 0) (.slice none 0 0) (.slice none 0 0) (.slice none 0 0) = w6 at *
  obtain ⟨⟨d10, d11, d12⟩, ⟨d13, d14, d15⟩, d16⟩ := cells6 P5.out.1
  refine bodyPost_ret (v := .tuple #[.agg #[.int .i64 0, .int .i64 0, .int .i64 0, .slice none 0 0, .slice none 0 0, .slice none 0 0], .bool false]) (by simp [results, Try.results71, go_sem, d10, d11, d12, d13, d14, d15]) rfl ?_
  exact ⟨Req.zero, _, _, _, _, _, _, _, _, _, false, rfl, Asked.zero _ _, P5.out.2, ⟨Fresh.nil _, Fresh.nil _, Fresh.nil _⟩, .inr ⟨rfl, HQ.out⟩⟩

set_option maxHeartbeats 1000000 in
set_option maxRecDepth 100000 in
theorem refSaid_bits_loop (A : Option Addr) (n c : Nat) (ys : List Int) (w : World) (hr : Row .u8 w w.heap.size A ys) (hn : ys.length = n) (hc : n ≤ c) (hb : n ≤ 7000) (h5 : 6 ≤ n) (hv : nth ys 0 = 15) (m : Nat) (hm : at2 ys 3 = m) (hlen : n - 6 = need m) :
    Calls Try.prog 71 #[.slice A n c] w (RSaid w ys) := by
  obtain ⟨b, o, rfl, hb1, hc1, hrg⟩ := row_head hr (by omega)
  rw [hv] at hc1
  have HN := Lib.hid hn
  have HR := Lib.hid hr
  have hyr := at2_range ys hr.1 3 (by omega)
  have HQ : Hid (rdOk ys = decide (pk (unpk (ys.drop 6) m) (need m) = ys.drop 6) ∧ rdQ ys = ⟨15, at2 ys 1, 0, unpk (ys.drop 6) m, [], []⟩) := Lib.hid (by
    have e1 : rdOk ys = bitsOk (ys.drop 6) m := by unfold rdOk; rw [if_neg (by omega), if_neg (by omega), if_pos hv, hm, Int.toNat_natCast]
    rw [e1, spare_pk _ _ (fun x hx => hr.1 x (List.mem_of_mem_drop hx)) (by rw [List.length_drop, hn]; exact hlen)]
    exact ⟨rfl, by unfold rdQ; rw [if_neg (by omega), if_neg (by omega), if_neg (by omega), if_pos hv, hm, Int.toNat_natCast]⟩)
  have hmb : m < 65536 := by omega
  have en : ((m : Int) + 7) / 8 = ((need m : Nat) : Int) := by unfold need; omega
  have HK : Hid (∀ k, k < m → k / 8 < need m) := Lib.hid (by unfold need; omega)
  have HZL : Hid ((ys.drop 6).length = need m) := Lib.hid (by rw [List.length_drop, hn]; exact hlen)
  have HZN : Hid (∀ j, nth (ys.drop 6) j = nth ys (6 + j)) := Lib.hid (fun j => nth_drop ys 6 j)
  generalize hzs : ys.drop 6 = zs at *
  have HPL : Hid ((pk (unpk zs m) (need m)).length = need m) := Lib.hid (pk_length _ _)
  have HBE : Hid (∀ k, bitAt zs k = decide ((nth zs (k / 8)).toNat / 2 ^ (k % 8) % 2 = 1)) := Lib.hid (fun k => rfl)
  obtain ⟨d, hd⟩ : ∃ d, Hid (need m = d) := ⟨_, Lib.hid rfl⟩
  rw [hd.out] at HK HZL HPL en hlen HQ
  have tn : ((n : Int) - 6 != (d : Int)) = false := by simp; omega
  have tn2 : ((n : Int) - 6 == (d : Int)) = true := by simp; omega
  have en2 : ((m : Int) + 7).tdiv 8 = (d : Int) := by rw [Int.tdiv_eq_ediv_of_nonneg (by omega)]; exact en
  have en3 : IntKind.i64.wrap (d : Int) = (d : Int) := IntWalk.i64_in _ (by omega)
  have en4 : IntKind.i64.wrap ((m : Int) + 7) = (m : Int) + 7 := IntWalk.i64_in _ (by omega)
  have hd1 : Hid (n = 6 + d) := Lib.hid (by omega)
  have hd2 : d ≤ 7000 := by omega
  clear hr hn hv hrg hzs hlen
  go_enter Try.func71, Try.ntmps71
  go_wp2_with fail
  refine (refAt_bel b o n c 1 _ rfl ys _ _ (HR.out.tb (TB.new w _ _ _)) HN.out hc (by omega) (by omega)).mono ?_
  rintro e w1 ⟨rfl, b1⟩
  have t1 := (TB.new w #[.int .i64 0, .int .i64 0, .int .i64 0, .slice none 0 0, .slice none 0 0, .slice none 0 0] #[.int .i64 15, .int .i64 0, .int .i64 0, .slice none 0 0, .slice none 0 0, .slice none 0 0] 26).below b1
  clear b1
  generalize at2 ys 1 = x at *
  have t2 : TB w w.heap.size (.cells #[.int .i64 0, .int .i64 0, .int .i64 0, .slice none 0 0, .slice none 0 0, .slice none 0 0] 26 (0, 0)) (.cells #[.int .i64 15, .int .i64 x, .int .i64 0, .slice none 0 0, .slice none 0 0, .slice none 0 0] 26 (0, 0)) (w1.setCell ⟨w.heap.size + 1, 1, none⟩ (.int .i64 x)) := t1.set 1 _
  obtain ⟨d0, d1, d2, d3, d4, d5, d6⟩ := t1.c6
  go_wp2_with fail
  clear d0 d1 d2 d3 d4 d5 d6 t1
  generalize w1.setCell ⟨w.heap.size + 1, 1, none⟩ (.int .i64 x) = w2 at *
  refine (refAt_bel b o n c 3 _ rfl ys _ _ (HR.out.tb t2) HN.out hc (by omega) (by omega)).mono ?_
  rintro e w3 ⟨rfl, b3⟩
  have t3 := t2.below b3
  clear b3 t2
  generalize at2 ys 3 = y at *
  obtain ⟨d0, d1, d2, d3, d4, d5, d6⟩ := t3.c6
  obtain ⟨r0, r1, r2, r3, r4, r5, r6⟩ := t3.r6
  subst hm
  go_wp2
  go_loopw [7] (fun i wr => ∃ k : Nat, k ≤ m ∧ i = .int .i64 k ∧ Hid (∃ v, TB w w.heap.size (.cells #[.int .i64 0, .int .i64 0, .int .i64 0, .slice none 0 0, .slice none 0 0, .slice none 0 0] 26 (0, 0)) (.cells #[.int .i64 15, .int .i64 x, .int .i64 0, v, .slice none 0 0, .slice none 0 0] 26 (0, 0)) wr ∧ L.Own () 4 wr (w.heap.size + 2) v (unpk zs k))) (fun i _ => m - (intOf i).toNat)
  case atStart => exact ⟨0, by omega, rfl, Lib.hid ⟨_, t3, L.Own.nil _ _ _ _⟩⟩
  case round =>
    clear d0 d1 d2 d3 d4 d5 d6 r0 r1 r2 r3 r4 r5 r6 t3
    obtain ⟨k, hk, rfl, hv⟩ := hrel
    obtain ⟨v, tb, hown⟩ := hv.out
    obtain ⟨d0, d1, d2, d3, d4, d5, d6⟩ := tb.c6
    have hz2 := tb.lt
    by_cases hlt : k < m
    · have hj := HK.out k hlt
      obtain ⟨b', o', hA, hbB, hcell⟩ := HR.out.at_ (i := 6 + k / 8) (by have := HN.out; have := hd1.out; omega)
      injection hA with hA
      injection hA with hA1 hA2
      subst hA1 hA2
      have hwf := wf_u8 (HR.out.wf_at (i := 6 + k / 8) (by have := HN.out; have := hd1.out; omega))
      have HB := Lib.hid (HBE.out k)
      rw [HZN.out] at HB
      obtain ⟨z, hz⟩ := Int.eq_ofNat_of_zero_le hwf.1
      rw [hz] at HB hcell hwf
      rw [Int.toNat_natCast] at HB
      have HS := Lib.hid (unpk_step zs k)
      have HL : Hid ((unpk zs k).length = k) := Lib.hid (unpk_length _ _)
      obtain ⟨u, hu⟩ : ∃ u, Hid (bitAt zs k = u) := ⟨_, Lib.hid rfl⟩
      rw [hu.out] at HB HS
      have ob := Lib.hid hown.block
      obtain ⟨Av, nv, cv, rfl⟩ : ∃ Av nv cv, v = .slice Av nv cv := by
        obtain ⟨A9, c9, h9, _⟩ := hown.row (fun _ _ => rfl)
        exact ⟨_, _, _, h9⟩
      have hone := L.Row.one () wr 4 u rfl
      obtain ⟨r, hr8⟩ : ∃ r, k % 8 = r := ⟨_, rfl⟩
      obtain ⟨j, hjj⟩ : ∃ j, k / 8 = j := ⟨_, rfl⟩
      rw [hjj] at hcell hj
      have er : (k : Int) % 8 = (r : Int) := by omega
      have er2 : (k : Int).tmod 8 = (r : Int) := by rw [Int.tmod_eq_emod_of_nonneg (by omega)]; omega
      have hr9 : r < 8 := by omega
      have ej : (k : Int) / 8 = (j : Int) := by omega
      have ej2 : (k : Int).tdiv 8 = (j : Int) := by rw [Int.tdiv_eq_ediv_of_nonneg (by omega)]; omega
      obtain ⟨q, hq⟩ : ∃ q, 6 + j = q := ⟨_, rfl⟩
      have ej3 : IntKind.i64.wrap (6 + (j : Int)) = (q : Int) := by rw [IntWalk.i64_in _ (by omega)]; omega
      have ej4 : (q : Int) < (n : Int) := by have := hd1.out; omega
      have ej6 : 6 + (j : Int) = (q : Int) := by omega
      have ej7 : IntKind.i64.wrap (j : Int) = (j : Int) := IntWalk.i64_in _ (by omega)
      have ej8 : IntKind.i64.wrap (q : Int) = (q : Int) := IntWalk.i64_in _ (by omega)
      have er3 : IntKind.i64.wrap (r : Int) = (r : Int) := IntWalk.i64_in _ (by omega)
      rw [hq] at hcell
      clear hq
      rw [hr8] at HB
      clear hr8 hjj hz
      have f1 : IntKind.u64.wrap (r : Int) = (r : Int) := by rw [IntKind.wrap_u64]; omega
      have f2 : min r 8 = r := by omega
      have f3 : (((z : Int) / 2 ^ r).tmod 2 == 1) = u := by
        have h2 := HB.out
        have e1 : (z : Int) / 2 ^ r = ((z / 2 ^ r : Nat) : Int) := by push_cast; rfl
        rw [e1, Int.tmod_eq_emod_of_nonneg (Int.natCast_nonneg _), h2]
        by_cases h : z / 2 ^ r % 2 = 1
        · rw [decide_eq_true h]; have : ((z / 2 ^ r : Nat) : Int) % 2 = 1 := by omega
          rw [this]; rfl
        · rw [decide_eq_false h]; exact beq_false_of_ne (by omega)
      clear HB HBE
      go_wp2_with fail
      have hcw : wr.cell? ⟨b, o + q, none⟩ = some (.int .u8 z) := (tb.bel.cell (p := ⟨b, o + q, none⟩) hbB).trans hcell
      clear hone hcell
      go_region_law (first
         | (refine L.step_append_row (World.drew (wr.alloc (.cells #[.bool u] 4))) rfl _ _ 22 rfl (w.heap.size + 2) () 4 1 Try.underlying22 L.info_bool _ (unpk zs k) rfl (hown.alloc _) (wr.heap.size + 1) (some ⟨wr.heap.size, 0, none⟩) 1 1 [u] rfl (L.Row.one () wr 4 u rfl) rfl (by have := HL.out; omega) (by have := HL.out; simp only [maxLen]; omega) (by show _ ≤ (wr.alloc _).heap.size; simp; omega) ?_; intro v4 w4 own4 g4; obtain ⟨A4, n4, c4, rfl⟩ : ∃ A n c, v4 = .slice A n c := (by obtain ⟨A9, c9, h9, _⟩ := own4.row (fun _ _ => rfl); exact ⟨_, _, _, h9⟩); have tb12 := (((tb.alloc (.cells #[.bool u] 4)).drew).grown g4 (fun g e => by have := (ob.out g e).1; omega)); obtain ⟨k0, k1, k2, k3, k4, k5, k6⟩ := tb12.c6)
         | (refine L.step_append_row (wr.alloc (.cells #[.bool u] 4)) rfl _ _ 22 rfl (w.heap.size + 2) () 4 1 Try.underlying22 L.info_bool _ (unpk zs k) rfl (hown.alloc _) (wr.heap.size + 1) (some ⟨wr.heap.size, 0, none⟩) 1 1 [u] rfl (L.Row.one () wr 4 u rfl) rfl (by have := HL.out; omega) (by have := HL.out; simp only [maxLen]; omega) (by show _ ≤ (wr.alloc _).heap.size; simp; omega) ?_; intro v4 w4 own4 g4; obtain ⟨A4, n4, c4, rfl⟩ : ∃ A n c, v4 = .slice A n c := (by obtain ⟨A9, c9, h9, _⟩ := own4.row (fun _ _ => rfl); exact ⟨_, _, _, h9⟩); have tb12 := ((tb.alloc (.cells #[.bool u] 4)).grown g4 (fun g e => by have := (ob.out g e).1; omega)); obtain ⟨k0, k1, k2, k3, k4, k5, k6⟩ := tb12.c6)
         | (refine L.step_append_row (World.drew (World.drew (wr.alloc (.cells #[.bool u] 4)))) rfl _ _ 22 rfl (w.heap.size + 2) () 4 1 Try.underlying22 L.info_bool _ (unpk zs k) rfl (hown.alloc _) (wr.heap.size + 1) (some ⟨wr.heap.size, 0, none⟩) 1 1 [u] rfl (L.Row.one () wr 4 u rfl) rfl (by have := HL.out; omega) (by have := HL.out; simp only [maxLen]; omega) (by show _ ≤ (wr.alloc _).heap.size; simp; omega) ?_; intro v4 w4 own4 g4; obtain ⟨A4, n4, c4, rfl⟩ : ∃ A n c, v4 = .slice A n c := (by obtain ⟨A9, c9, h9, _⟩ := own4.row (fun _ _ => rfl); exact ⟨_, _, _, h9⟩); have tb12 := (((tb.alloc (.cells #[.bool u] 4)).drew.drew).grown g4 (fun g e => by have := (ob.out g e).1; omega)); obtain ⟨k0, k1, k2, k3, k4, k5, k6⟩ := tb12.c6))
      all_goals
        have tb13 := tb12.set3 (.slice A4 n4 c4)
        have own5 := own4.set (g := w.heap.size + 1) (by omega) 3 (.slice A4 n4 c4)
        rw [← HS.out] at own5
        clear tb tb12 own4 g4 hown k0 k1 k2 k3 k4 k5 k6 d0 d1 d2 d3 d4 d5 d6
        (try go_wp2)
        go_roundw
        case rel => exact ⟨k + 1, by omega, by go_num, Lib.hid ⟨_, tb13, own5⟩⟩
        case measure => simp [intOf]; omega
    · obtain rfl : k = m := by omega
      obtain ⟨Av, c9, rfl, hrow, _⟩ := hown.row (fun _ _ => rfl)
      have HL : Hid ((unpk zs k).length = k) := Lib.hid (unpk_length _ _)
      rw [HL.out] at hown d3 tb
      go_wp2_with fail
      refine (Packed_any Av k c9 (unpk zs k) _ hrow HL.out (by omega)).mono ?_
      rintro e w5 ⟨rfl, hp, b5⟩
      rw [hd.out] at hp ⊢
      have tb5 := tb.below b5
      have own5 := hown.below b5 (Nat.le_refl _)
      have hg5 : w.heap.size + 1 < wr.heap.size := tb.lt
      clear d0 d1 d2 d3 d4 d5 d6 tb hown hrow b5
      generalize hps : pk (unpk zs k) d = ps at *
      generalize wr.heap.size = g at *
      have HP0 := Lib.hid hp
      clear hp
      go_wp2
      go_loopw [9] (fun i w7 => ∃ j : Nat, j ≤ d ∧ i = .int .i64 j ∧ TB w w.heap.size (.cells #[.int .i64 0, .int .i64 0, .int .i64 0, .slice none 0 0, .slice none 0 0, .slice none 0 0] 26 (0, 0)) (.cells #[.int .i64 15, .int .i64 x, .int .i64 0, .slice Av k c9, .slice none 0 0, .slice none 0 0] 26 (0, 0)) w7 ∧ L.Own () 4 w7 (w.heap.size + 2) (.slice Av k c9) (unpk zs k) ∧ Hid (w7.heap[g]? = some (.cells (blk .u8 ps) 5 (0, 0))) ∧ Hid (∀ i, i < j → nth ps i = nth zs i)) (fun i _ => d - (intOf i).toNat)
      case atStart => exact ⟨0, by omega, rfl, tb5, own5, HP0, Lib.hid (fun i h => by omega)⟩
      case round =>
        clear tb5 own5 HP0
        obtain ⟨j, hj, rfl, tb, hown, hp, hsame⟩ := hrel
        by_cases hlt2 : j < d
        · obtain ⟨b', o', hA, hbB, hcell⟩ := HR.out.at_ (i := 6 + j) (by have := HN.out; have := hd1.out; omega)
          injection hA with hA
          injection hA with hA1 hA2
          subst hA1 hA2
          rw [← HZN.out] at hcell
          have hcp : wr.cell? ⟨g, j, none⟩ = some (.int .u8 (nth ps j)) := by
            rw [cell_of_row wr g j _ _ _ hp.out, blk_get _ _ _ (by rw [HPL.out]; exact hlt2)]
          obtain ⟨pv, hpv⟩ : ∃ v, Hid (nth ps j = v) := ⟨_, Lib.hid rfl⟩
          obtain ⟨zv, hzv⟩ : ∃ v, Hid (nth zs j = v) := ⟨_, Lib.hid rfl⟩
          rw [hpv.out] at hcp
          rw [hzv.out] at hcell
          obtain ⟨q, hq⟩ : ∃ q, 6 + j = q := ⟨_, rfl⟩
          have ej3 : IntKind.i64.wrap (6 + (j : Int)) = (q : Int) := by rw [IntWalk.i64_in _ (by omega)]; omega
          have ej4 : (q : Int) < (n : Int) := by have := hd1.out; omega
          have ej6 : 6 + (j : Int) = (q : Int) := by omega
          have ej8 : IntKind.i64.wrap (q : Int) = (q : Int) := IntWalk.i64_in _ (by omega)
          rw [hq] at hcell
          have hcw : wr.cell? ⟨b, o + q, none⟩ = some (.int .u8 zv) := (tb.bel.cell (p := ⟨b, o + q, none⟩) hbB).trans hcell
          clear hq hcell
          by_cases he : pv = zv
          · subst he
            have u1 : (pv != pv) = false := by simp
            go_wp2_with fail
            go_quiet (fail)
            have tbq := tb.below (bel_drewN wr nq)
            have ownq := hown.drewN nq
            have hpq : Hid ((wr.drewN nq).heap[g]? = some (.cells (blk .u8 ps) 5 (0, 0))) := Lib.hid hp.out
            clear tb hown hp
            go_wp2
            go_roundw
            case rel => exact ⟨j + 1, by omega, by go_num, tbq, ownq, hpq, Lib.hid (fun i h => by
              rcases Nat.lt_succ_iff_lt_or_eq.1 h with h | h
              · exact hsame.out i h
              · subst h; rw [hpv.out, hzv.out])⟩
            case measure => simp [intOf]; omega
          · have u1 : (pv != zv) = true := by simpa using he
            have u2 : (pv == zv) = false := beq_false_of_ne he
            have HF : Hid (rdOk ys = false) := Lib.hid (HQ.out.1.trans (decide_eq_false (fun e => he (by rw [← hpv.out, ← hzv.out, e]))))
            clear he HQ
            go_wp2_with fail
            go_quiet (fail)
            have tbq := tb.below (bel_drewN wr nq)
            clear tb hown hp hcp hcw
            generalize wr.drewN nq = w8 at *
            have P5 := Lib.hid (tbq.put (.int .i64 0) (.int .i64 0) (.int .i64 0) (.slice none 0 0) (.slice none 0 0) (.slice none 0 0))
            obtain ⟨r0, r1, r2, r3, r4, r5, r6⟩ := tbq.r6
            go_wp2
            (try simp only [Exit.inBlock, Exit.then])
            show bodyPost _ _ _ _ _ (put6 (w8) w.heap.size (.int .i64 0) (.int .i64 0) (.int .i64 0) (.slice none 0 0) (.slice none 0 0) (.slice none 0 0))
            generalize put6 (w8) w.heap.size (.int .i64 0) (.int .i64 0) (.int .i64 0) (.slice none 0 0) (.slice none 0 0) (.slice none 0 0) = w6 at *
            obtain ⟨⟨d10, d11, d12⟩, ⟨d13, d14, d15⟩, d16⟩ := cells6 P5.out.1
            refine bodyPost_ret (v := .tuple #[.agg #[.int .i64 0, .int .i64 0, .int .i64 0, .slice none 0 0, .slice none 0 0, .slice none 0 0], .bool false]) (by simp [results, Try.results71, go_sem, d10, d11, d12, d13, d14, d15]) rfl ?_
            exact ⟨Req.zero, _, _, _, _, _, _, _, _, _, false, rfl, Asked.zero _ _, P5.out.2, ⟨Fresh.nil _, Fresh.nil _, Fresh.nil _⟩, .inr ⟨rfl, HF.out⟩⟩
        · have hjd : j = d := by omega
          have hpz : ps = zs := ext_nth _ _ (by rw [HPL.out, HZL.out]) (fun i hi => hsame.out i (by rw [HPL.out] at hi; omega))
          have HF : Hid (rdOk ys = true ∧ (⟨15, x, 0, unpk zs k, [], []⟩ : Req) = rdQ ys) := Lib.hid ⟨HQ.out.1.trans (decide_eq_true hpz), HQ.out.2.symm⟩
          have P5 := Lib.hid (tb.put (.int .i64 15) (.int .i64 x) (.int .i64 0) (.slice Av k c9) (.slice none 0 0) (.slice none 0 0))
          have HR2 : Hid (L.Row () (put6 wr w.heap.size (.int .i64 15) (.int .i64 x) (.int .i64 0) (.slice Av k c9) (.slice none 0 0) (.slice none 0 0)) (put6 wr w.heap.size (.int .i64 15) (.int .i64 x) (.int .i64 0) (.slice Av k c9) (.slice none 0 0) (.slice none 0 0)).heap.size Av (unpk zs k)) := Lib.hid (by
            obtain ⟨A9, c9', h1, h2, _⟩ := (hown.put6 (g := w.heap.size) (by omega) (.int .i64 15) (.int .i64 x) (.int .i64 0) (.slice Av k c9) (.slice none 0 0) (.slice none 0 0)).row (fun _ _ => rfl)
            injection h1 with h1
            subst h1
            exact h2)
          obtain ⟨d0, d1, d2, d3, d4, d5, d6⟩ := tb.c6
          obtain ⟨r0, r1, r2, r3, r4, r5, r6⟩ := tb.r6
          have HFR := Lib.hid (Fresh.ownL hown (show w.heap.size ≤ w.heap.size + 2 by omega))
          clear hpz HQ hps hown tb hp hjd
          go_wp2
          (try simp only [Exit.inBlock, Exit.then])
          show bodyPost _ _ _ _ _ (put6 (wr) w.heap.size (.int .i64 15) (.int .i64 x) (.int .i64 0) (.slice Av k c9) (.slice none 0 0) (.slice none 0 0))
          generalize put6 (wr) w.heap.size (.int .i64 15) (.int .i64 x) (.int .i64 0) (.slice Av k c9) (.slice none 0 0) (.slice none 0 0) = w6 at *
          obtain ⟨⟨d10, d11, d12⟩, ⟨d13, d14, d15⟩, d16⟩ := cells6 P5.out.1
          refine bodyPost_ret (v := .tuple #[.agg #[.int .i64 15, .int .i64 x, .int .i64 0, .slice Av k c9, .slice none 0 0, .slice none 0 0], .bool true]) (by simp [results, Try.results71, go_sem, d10, d11, d12, d13, d14, d15]) rfl ?_
          exact ⟨⟨15, x, 0, unpk zs k, [], []⟩, _, _, _, _, _, _, _, _, _, true, rfl, ⟨HR2.out, Row.nil _ _ _ _, Row.nil _ _ _ _, HL.out, rfl, rfl⟩, P5.out.2, ⟨HFR.out, Fresh.nil _, Fresh.nil _⟩, .inl ⟨rfl, HF.out⟩⟩
end Go.Proofs.Ytfdikjfbmfibjaa
namespace Go.Proofs.Ytfdikjfbmfibjaa
open Go.RowKit
set_option linter.unusedVariables false
theorem own_form {k : IntKind} {e : TypeId} {w : World} {base : Nat} {v : Value} {xs : List Int} (h : Own k e w base v xs) : ∃ A n c, v = .slice A n c := by
  rcases h.2 with ⟨rfl, _⟩ | ⟨g, cap, cur, rfl, _⟩
  · exact ⟨_, _, _, rfl⟩
  · exact ⟨_, _, _, rfl⟩

set_option maxHeartbeats 4000000 in
set_option maxRecDepth 100000 in
theorem refSaid_words_len (A : Option Addr) (n c : Nat) (ys : List Int) (w : World) (hr : Row .u8 w w.heap.size A ys) (hn : ys.length = n) (hc : n ≤ c) (hb : n ≤ 7000) (h5 : 6 ≤ n) (hv : nth ys 0 = 16) (m : Nat) (hm : at2 ys 3 = m) (hlen : n - 6 ≠ 2 * m) :
    Calls Try.prog 71 #[.slice A n c] w (RSaid w ys) := by
  obtain ⟨b, o, rfl, hb1, hc1, hrg⟩ := row_head hr (by omega)
  rw [hv] at hc1
  have HN := Lib.hid hn
  have HR := Lib.hid hr
  have hyr := at2_range ys hr.1 3 (by omega)
  have HQ : Hid (rdOk ys = false) := Lib.hid (by
    unfold rdOk; rw [if_neg (by omega), if_neg (by omega), if_neg (by omega), if_pos hv, hm, Int.toNat_natCast]
    exact decide_eq_false (by rw [List.length_drop, hn]; exact hlen))
  have hmb : m < 65536 := by omega
  have tn : ((n : Int) - 6 != 2 * (m : Int)) = true := by simp; omega
  have tn2 : ((n : Int) - 6 == 2 * (m : Int)) = false := beq_false_of_ne (by omega)
  clear hr hn hv hrg hlen
  go_enter Try.func71, Try.ntmps71
  go_wp2_with fail
  refine (refAt_bel b o n c 1 _ rfl ys _ _ (HR.out.tb (TB.new w _ _ _)) HN.out hc (by omega) (by omega)).mono ?_
  rintro e w1 ⟨rfl, b1⟩
  have t1 := (TB.new w #[.int .i64 0, .int .i64 0, .int .i64 0, .slice none 0 0, .slice none 0 0, .slice none 0 0] #[.int .i64 16, .int .i64 0, .int .i64 0, .slice none 0 0, .slice none 0 0, .slice none 0 0] 26).below b1
  clear b1
  generalize at2 ys 1 = x at *
  have t2 : TB w w.heap.size (.cells #[.int .i64 0, .int .i64 0, .int .i64 0, .slice none 0 0, .slice none 0 0, .slice none 0 0] 26 (0, 0)) (.cells #[.int .i64 16, .int .i64 x, .int .i64 0, .slice none 0 0, .slice none 0 0, .slice none 0 0] 26 (0, 0)) (w1.setCell ⟨w.heap.size + 1, 1, none⟩ (.int .i64 x)) := t1.set 1 _
  obtain ⟨d0, d1, d2, d3, d4, d5, d6⟩ := t1.c6
  go_wp2_with fail
  clear d0 d1 d2 d3 d4 d5 d6 t1
  generalize w1.setCell ⟨w.heap.size + 1, 1, none⟩ (.int .i64 x) = w2 at *
  refine (refAt_bel b o n c 3 _ rfl ys _ _ (HR.out.tb t2) HN.out hc (by omega) (by omega)).mono ?_
  rintro e w3 ⟨rfl, b3⟩
  have t3 := t2.below b3
  clear b3 t2
  generalize at2 ys 3 = y at *
  obtain ⟨d0, d1, d2, d3, d4, d5, d6⟩ := t3.c6
  obtain ⟨r0, r1, r2, r3, r4, r5, r6⟩ := t3.r6
  subst hm
  have P5 := Lib.hid (t3.put (.int .i64 0) (.int .i64 0) (.int .i64 0) (.slice none 0 0) (.slice none 0 0) (.slice none 0 0))
  clear t3
  go_wp2
  (try simp only [Exit.inBlock, Exit.then])
  show bodyPost _ _ _ _ _ (put6 (w3) w.heap.size (.int .i64 0) (.int .i64 0) (.int .i64 0) (.slice none 0 0) (.slice none 0 0) (.slice none 0 0))
  generalize put6 (w3) w.heap.size (.int .i64 0) (.int .i64 0) (.int .i64 0) (.slice none 0 0) (.slice none 0 0) (.slice none 0 0) = w6 at *
  obtain ⟨⟨d10, d11, d12⟩, ⟨d13, d14, d15⟩, d16⟩ := cells6 P5.out.1
  refine bodyPost_ret (v := .tuple #[.agg #[.int .i64 0, .int .i64 0, .int .i64 0, .slice none 0 0, .slice none 0 0, .slice none 0 0], .bool false]) (by simp [results, Try.results71, go_sem, d10, d11, d12, d13, d14, d15]) rfl ?_
  exact ⟨Req.zero, _, _, _, _, _, _, _, _, _, false, rfl, Asked.zero _ _, P5.out.2, ⟨Fresh.nil _, Fresh.nil _, Fresh.nil _⟩, .inr ⟨rfl, HQ.out⟩⟩

set_option maxHeartbeats 4000000 in
set_option maxRecDepth 100000 in
theorem refSaid_words_loop (A : Option Addr) (n c : Nat) (ys : List Int) (w : World) (hr : Row .u8 w w.heap.size A ys) (hn : ys.length = n) (hc : n ≤ c) (hb : n ≤ 7000) (h5 : 6 ≤ n) (hv : nth ys 0 = 16) (m : Nat) (hm : at2 ys 3 = m) (hlen : n - 6 = 2 * m) :
    Calls Try.prog 71 #[.slice A n c] w (RSaid w ys) := by
  obtain ⟨b, o, rfl, hb1, hc1, hrg⟩ := row_head hr (by omega)
  rw [hv] at hc1
  have HN := Lib.hid hn
  have HR := Lib.hid hr
  have hyr := at2_range ys hr.1 3 (by omega)
  have HQ : Hid (rdOk ys = true ∧ rdQ ys = ⟨16, at2 ys 1, 0, [], wwords (ys.drop 6), []⟩) := Lib.hid (by
    have e1 : rdOk ys = true := by unfold rdOk; rw [if_neg (by omega), if_neg (by omega), if_neg (by omega), if_pos hv, hm, Int.toNat_natCast]; exact decide_eq_true (by rw [List.length_drop, hn]; exact hlen)
    exact ⟨e1, by unfold rdQ; rw [if_neg (by omega), if_neg (by omega), if_neg (by omega), if_neg (by omega), if_pos hv]⟩)
  have hmb : m < 65536 := by omega
  have HZL : Hid ((wwords (ys.drop 6)).length = m) := Lib.hid (by rw [wwords_length, List.length_drop, hn]; omega)
  have HZW : Hid (∀ z ∈ wwords (ys.drop 6), (Lit.int .u16 z).wf = true) := Lib.hid (wwords_wf _ (fun z hz => hr.1 z (List.mem_of_mem_drop hz)))
  have HZN : Hid (∀ k, k < m → at2 ys (6 + 2 * k) = nth (wwords (ys.drop 6)) k) := Lib.hid (fun k hk => by
    rw [wwords_nth _ _ (by rw [List.length_drop, hn]; omega)]
    simp only [at2, word, nth_drop]; rfl)
  have HZR : Hid (∀ k, k < m → 0 ≤ at2 ys (6 + 2 * k) ∧ at2 ys (6 + 2 * k) < 65536) := Lib.hid (fun k hk => at2_range ys hr.1 _ (by omega))
  generalize wwords (ys.drop 6) = zs at *
  have tn : ((n : Int) - 6 != 2 * (m : Int)) = false := by simp; omega
  have tn2 : ((n : Int) - 6 == 2 * (m : Int)) = true := by simp; omega
  have en4 : IntKind.i64.wrap (2 * (m : Int)) = 2 * (m : Int) := IntWalk.i64_in _ (by omega)
  have hd1 : Hid (n = 6 + 2 * m) := Lib.hid (by omega)
  clear hr hn hv hrg hlen
  go_enter Try.func71, Try.ntmps71
  go_wp2_with fail
  refine (refAt_bel b o n c 1 _ rfl ys _ _ (HR.out.tb (TB.new w _ _ _)) HN.out hc (by omega) (by omega)).mono ?_
  rintro e w1 ⟨rfl, b1⟩
  have t1 := (TB.new w #[.int .i64 0, .int .i64 0, .int .i64 0, .slice none 0 0, .slice none 0 0, .slice none 0 0] #[.int .i64 16, .int .i64 0, .int .i64 0, .slice none 0 0, .slice none 0 0, .slice none 0 0] 26).below b1
  clear b1
  generalize at2 ys 1 = x at *
  have t2 : TB w w.heap.size (.cells #[.int .i64 0, .int .i64 0, .int .i64 0, .slice none 0 0, .slice none 0 0, .slice none 0 0] 26 (0, 0)) (.cells #[.int .i64 16, .int .i64 x, .int .i64 0, .slice none 0 0, .slice none 0 0, .slice none 0 0] 26 (0, 0)) (w1.setCell ⟨w.heap.size + 1, 1, none⟩ (.int .i64 x)) := t1.set 1 _
  obtain ⟨d0, d1, d2, d3, d4, d5, d6⟩ := t1.c6
  go_wp2_with fail
  clear d0 d1 d2 d3 d4 d5 d6 t1
  generalize w1.setCell ⟨w.heap.size + 1, 1, none⟩ (.int .i64 x) = w2 at *
  refine (refAt_bel b o n c 3 _ rfl ys _ _ (HR.out.tb t2) HN.out hc (by omega) (by omega)).mono ?_
  rintro e w3 ⟨rfl, b3⟩
  have t3 := t2.below b3
  clear b3 t2
  generalize at2 ys 3 = y at *
  obtain ⟨d0, d1, d2, d3, d4, d5, d6⟩ := t3.c6
  obtain ⟨r0, r1, r2, r3, r4, r5, r6⟩ := t3.r6
  subst hm
  go_wp2
  go_loopw [10] (fun i wr => ∃ k : Nat, k ≤ m ∧ i = .int .i64 k ∧ Hid (∃ v, TB w w.heap.size (.cells #[.int .i64 0, .int .i64 0, .int .i64 0, .slice none 0 0, .slice none 0 0, .slice none 0 0] 26 (0, 0)) (.cells #[.int .i64 16, .int .i64 x, .int .i64 0, .slice none 0 0, v, .slice none 0 0] 26 (0, 0)) wr ∧ Own .u16 90 wr (w.heap.size + 2) v (zs.take k))) (fun i _ => m - (intOf i).toNat)
  case atStart => exact ⟨0, by omega, rfl, Lib.hid ⟨_, t3, Own.nil _ _ _ _⟩⟩
  case round =>
    clear d0 d1 d2 d3 d4 d5 d6 r0 r1 r2 r3 r4 r5 r6 t3
    obtain ⟨k, hk, rfl, hv⟩ := hrel
    obtain ⟨v, tb, hown⟩ := hv.out
    clear hv
    obtain ⟨d0, d1, d2, d3, d4, d5, d6⟩ := tb.c6
    have hz2 := tb.lt
    by_cases hlt : k < m
    · obtain ⟨u, hu0⟩ : ∃ u, nth zs k = u := ⟨_, rfl⟩
      have HS : Hid (zs.take (k + 1) = zs.take k ++ [u]) := Lib.hid (by rw [take_step _ _ (by rw [HZL.out]; exact hlt), hu0])
      have HL : Hid ((zs.take k).length = k) := Lib.hid (by rw [List.length_take, HZL.out]; omega)
      have HU := HZN.out k hlt
      have hu := HZR.out k hlt
      rw [HU, hu0] at hu
      rw [hu0] at HU
      have hub := hu
      have eu : IntKind.u16.wrap u = u := by rw [IntKind.wrap_u16]; omega
      obtain ⟨q, hq⟩ : ∃ q, 6 + 2 * k = q := ⟨_, rfl⟩
      rw [hq] at HU
      have HU := Lib.hid HU
      have hu := Lib.hid hu
      have ek1 : IntKind.i64.wrap (2 * (k : Int)) = 2 * (k : Int) := IntWalk.i64_in _ (by omega)
      have ek2 : IntKind.i64.wrap (6 + 2 * (k : Int)) = (q : Int) := by rw [IntWalk.i64_in _ (by omega)]; omega
      have ek3 : 6 + 2 * (k : Int) = (q : Int) := by omega
      have ek4 : IntKind.i64.wrap (q : Int) = (q : Int) := IntWalk.i64_in _ (by omega)
      have hqn : q + 2 ≤ n := by have := hd1.out; omega
      have ob := Lib.hid hown.block
      obtain ⟨Av, nv, cv, rfl⟩ := own_form hown
      clear hq hu0
      go_wp2_with fail
      go_region_law (first
          | (refine step_append_row (World.drew (w5.alloc (.cells #[.int .u16 u] 90))) rfl _ _ 23 rfl (w.heap.size + 2) .u16 90 2 Try.underlying23 W.info_u16 _ (zs.take k) rfl (own5.alloc _) (w5.heap.size + 1) (some ⟨w5.heap.size, 0, none⟩) 1 1 [u] rfl (Row.one .u16 w5 90 u (by have := hu.out; exact wf_word16 this)) rfl (by have := HL.out; omega) (by have := HL.out; simp only [maxLen]; omega) (by show _ ≤ (w5.alloc _).heap.size; have := tb5.lt; simp; omega) ?_; intro v4 w4 own4 g4; obtain ⟨A4, n4, c4, rfl⟩ : ∃ A n c, v4 = .slice A n c := own_form own4; have tb12 := (((tb5.alloc (.cells #[.int .u16 u] 90)).drew).grown g4 (fun g e => by have := (ob.out g e).1; omega)); obtain ⟨k0, k1, k2, k3, k4, k5, k6⟩ := tb12.c6)
          | (refine step_append_row (w5.alloc (.cells #[.int .u16 u] 90)) rfl _ _ 23 rfl (w.heap.size + 2) .u16 90 2 Try.underlying23 W.info_u16 _ (zs.take k) rfl (own5.alloc _) (w5.heap.size + 1) (some ⟨w5.heap.size, 0, none⟩) 1 1 [u] rfl (Row.one .u16 w5 90 u (by have := hu.out; exact wf_word16 this)) rfl (by have := HL.out; omega) (by have := HL.out; simp only [maxLen]; omega) (by show _ ≤ (w5.alloc _).heap.size; have := tb5.lt; simp; omega) ?_; intro v4 w4 own4 g4; obtain ⟨A4, n4, c4, rfl⟩ : ∃ A n c, v4 = .slice A n c := own_form own4; have tb12 := ((tb5.alloc (.cells #[.int .u16 u] 90)).grown g4 (fun g e => by have := (ob.out g e).1; omega)); obtain ⟨k0, k1, k2, k3, k4, k5, k6⟩ := tb12.c6)
          | (refine step_append_row (World.drew (World.drew (w5.alloc (.cells #[.int .u16 u] 90)))) rfl _ _ 23 rfl (w.heap.size + 2) .u16 90 2 Try.underlying23 W.info_u16 _ (zs.take k) rfl (own5.alloc _) (w5.heap.size + 1) (some ⟨w5.heap.size, 0, none⟩) 1 1 [u] rfl (Row.one .u16 w5 90 u (by have := hu.out; exact wf_word16 this)) rfl (by have := HL.out; omega) (by have := HL.out; simp only [maxLen]; omega) (by show _ ≤ (w5.alloc _).heap.size; have := tb5.lt; simp; omega) ?_; intro v4 w4 own4 g4; obtain ⟨A4, n4, c4, rfl⟩ : ∃ A n c, v4 = .slice A n c := own_form own4; have tb12 := (((tb5.alloc (.cells #[.int .u16 u] 90)).drew.drew).grown g4 (fun g e => by have := (ob.out g e).1; omega)); obtain ⟨k0, k1, k2, k3, k4, k5, k6⟩ := tb12.c6)
          | (go_simp; go_at_call 104; refine (refAt_bel b o n c q _ rfl ys _ w.heap.size (by first | exact HR.out.tb tb | exact HR.out.tb tb.drew | exact HR.out.tb tb.drew.drew) HN.out hc (by omega) (by omega)).mono ?_; rintro e w5 ⟨rfl, b5⟩; rw [HU.out]; have tb5 : TB w w.heap.size (.cells #[.int .i64 0, .int .i64 0, .int .i64 0, .slice none 0 0, .slice none 0 0, .slice none 0 0] 26 (0, 0)) (.cells #[.int .i64 16, .int .i64 x, .int .i64 0, .slice none 0 0, .slice Av nv cv, .slice none 0 0] 26 (0, 0)) w5 := (by first | exact tb.below b5 | exact tb.drew.below b5 | exact tb.drew.drew.below b5); have own5 : Own .u16 90 w5 (w.heap.size + 2) (.slice Av nv cv) (zs.take k) := (by first | exact hown.below b5 (Nat.le_refl _) | exact (hown.drewN 1).below b5 (Nat.le_refl _)); obtain ⟨f0, f1, f2, f3, f4, f5, f6⟩ := tb5.c6; obtain ⟨s0, s1, s2, s3, s4, s5, s6⟩ := (tb5.alloc (.cells #[.int .u16 u] 90)).c6))

      all_goals
        have tb13 := tb12.set4 (.slice A4 n4 c4)
        have own6 := own4.set (g := w.heap.size + 1) (by omega) 4 (.slice A4 n4 c4)
        rw [← HS.out] at own6
        clear tb tb5 own5 tb12 own4 g4 hown k0 k1 k2 k3 k4 k5 k6 d0 d1 d2 d3 d4 d5 d6 f0 f1 f2 f3 f4 f5 f6 s0 s1 s2 s3 s4 s5 s6
        (try go_wp2)
        go_roundw
        case rel => exact ⟨k + 1, by omega, by go_num, Lib.hid ⟨_, tb13, own6⟩⟩
        case measure => simp [intOf]; omega
    · obtain rfl : k = m := by omega
      have hzk : zs.take k = zs := List.take_of_length_le (by rw [HZL.out]; omega)
      rw [hzk] at hown
      obtain ⟨Av, c9, rfl, hrow, _⟩ := hown.row HZW.out
      rw [HZL.out] at hown d4 tb
      have P5 := Lib.hid (tb.put (.int .i64 16) (.int .i64 x) (.int .i64 0) (.slice none 0 0) (.slice Av k c9) (.slice none 0 0))
      have HR2 : Hid (Row .u16 (put6 wr w.heap.size (.int .i64 16) (.int .i64 x) (.int .i64 0) (.slice none 0 0) (.slice Av k c9) (.slice none 0 0)) (put6 wr w.heap.size (.int .i64 16) (.int .i64 x) (.int .i64 0) (.slice none 0 0) (.slice Av k c9) (.slice none 0 0)).heap.size Av zs) := Lib.hid (by
        obtain ⟨A9, c9', h1, h2, _⟩ := (hown.put6 (g := w.heap.size) (by omega) (.int .i64 16) (.int .i64 x) (.int .i64 0) (.slice none 0 0) (.slice Av k c9) (.slice none 0 0)).row HZW.out
        injection h1 with h1
        subst h1
        exact h2)
      have HF : Hid (rdOk ys = true ∧ (⟨16, x, 0, [], zs, []⟩ : Req) = rdQ ys) := Lib.hid ⟨HQ.out.1, HQ.out.2.symm⟩
      obtain ⟨r0, r1, r2, r3, r4, r5, r6⟩ := tb.r6
      have HFR := Lib.hid (Fresh.own hown (show w.heap.size ≤ w.heap.size + 2 by omega))
      clear hown tb HQ hrow hzk
      go_wp2
      (try simp only [Exit.inBlock, Exit.then])
      show bodyPost _ _ _ _ _ (put6 (wr) w.heap.size (.int .i64 16) (.int .i64 x) (.int .i64 0) (.slice none 0 0) (.slice Av k c9) (.slice none 0 0))
      generalize put6 (wr) w.heap.size (.int .i64 16) (.int .i64 x) (.int .i64 0) (.slice none 0 0) (.slice Av k c9) (.slice none 0 0) = w6 at *
      obtain ⟨⟨d10, d11, d12⟩, ⟨d13, d14, d15⟩, d16⟩ := cells6 P5.out.1
      refine bodyPost_ret (v := .tuple #[.agg #[.int .i64 16, .int .i64 x, .int .i64 0, .slice none 0 0, .slice Av k c9, .slice none 0 0], .bool true]) (by simp [results, Try.results71, go_sem, d10, d11, d12, d13, d14, d15]) rfl ?_
      exact ⟨⟨16, x, 0, [], zs, []⟩, _, _, _, _, _, _, _, _, _, true, rfl, ⟨L.Row.nil _ _ _ _, HR2.out, Row.nil _ _ _ _, rfl, HZL.out, rfl⟩, P5.out.2, ⟨Fresh.nil _, HFR.out, Fresh.nil _⟩, .inl ⟨rfl, HF.out⟩⟩
end Go.Proofs.Ytfdikjfbmfibjaa
namespace Go.Proofs.Ytfdikjfbmfibjaa
open Go.RowKit
set_option linter.unusedVariables false

section
variable {P : Program}
theorem step_append_part {ops : Array Oper} {o : Oper} {a : Act} {K : Act → World → Prop} {Q : Exit → Act → World → Prop} {E : Prop} (w : World) (hgd : o.guard = none) (s x : Operand) (t : TypeId)
    (ho : o.op = .call { callee := .builtin .append, args := #[s, x], argTypes := #[t, t] })
    (base : Nat) (e : TypeId) (ht : P.underlying t = some (.slice e)) (hi : (P.info? e).map (fun i => (i.zero, i.size, i.bytes)) = some (some (.agg #[.int .i64 0, .int .i64 0, .int .i64 0]), 3, 24))
    (v : Value) (fl : List Int) (hs : a.eval s = v) (hown : POwn e w base v fl) (ad : Addr) (c : Nat) (p q r : Int) (hx : a.eval x = .slice (some ad) 1 c)
    (hnews : ∀ j u, [Value.int .i64 p, .int .i64 q, .int .i64 r][j]? = some u → w.cell? (ad.add j) = some u) (hb : fl.length ≤ 3000000) (hbase : base ≤ w.heap.size)
    (h : ∀ v' w', POwn e w' base v' (fl ++ [p, q, r]) → w.grownBy w' v.ownBlock → K (a.put o.dst v') w') :
    if Region.wanted o (yielded ops a.tmps) = true then Oper.wp P o a w K Q else E := by
  have hw : Region.wanted o (yielded ops a.tmps) = true := by simp [Region.wanted, hgd]
  rw [if_pos hw]
  obtain ⟨v', w', hrun, h1, h2⟩ := run_append_part (P := P) w base t o.type e ht hi v fl hown ad c p q r hnews hb hbase
  unfold Oper.wp execOp
  simp only [ho, resolve, invoke, builtin, Sem.run_bind, Sem.run_pure, Result.andThen_ok, List.map_toArray, List.map_cons, List.map_nil, hs, hx, hrun]
  exact h v' w' h1 h2
end
theorem partsOk_k (ys : List Int) (k : Nat) (h : ys.length = 7 * k) : partsOk ys = mkOk ys k := by
  unfold partsOk
  rw [decide_eq_true (by omega), Bool.true_and, show ys.length / 7 = k by omega]
theorem partsOk_rest (ys : List Int) (h : ¬ ys.length % 7 = 0) : partsOk ys = false := by
  unfold partsOk
  rw [decide_eq_false h, Bool.false_and]
theorem partsOk_mark (ys : List Int) (k : Nat) (hk : 7 * k + 7 ≤ ys.length) (h : nth ys (7 * k) ≠ 6) : partsOk ys = false := by
  by_cases h2 : ys.length % 7 = 0
  · rw [partsOk_k ys (ys.length / 7) (by omega)]; exact mkOk_no (by omega) h
  · exact partsOk_rest ys h2

set_option maxHeartbeats 8000000 in
set_option maxRecDepth 100000 in
theorem refSaid_file (A : Option Addr) (n c : Nat) (ys : List Int) (w : World) (hr : Row .u8 w w.heap.size A ys) (hn : ys.length = n) (hc : n ≤ c) (hb : n ≤ 7000) (h5 : 2 ≤ n) (hv : nth ys 0 = 20) :
    Calls Try.prog 71 #[.slice A n c] w (RSaid w ys) := by
  obtain ⟨b, o, rfl, hb1, hc1, hrg⟩ := row_head hr (by omega)
  rw [hv] at hc1
  have HN := Lib.hid hn
  have HR := Lib.hid hr
  have HQ : Hid (rdOk ys = partsOk (ys.drop 2) ∧ rdQ ys = ⟨20, 0, 0, [], [], flOf (ys.drop 2) ((ys.drop 2).length / 7)⟩) := Lib.hid ⟨by unfold rdOk; rw [if_pos hv], by unfold rdQ; rw [if_pos hv]⟩
  have HZL : Hid ((ys.drop 2).length = n - 2) := Lib.hid (by rw [List.length_drop, hn])
  have HZN : Hid (∀ j, nth (ys.drop 2) j = nth ys (2 + j)) := Lib.hid (fun j => nth_drop ys 2 j)
  have HZA : Hid (∀ j, at2 (ys.drop 2) j = at2 ys (2 + j)) := Lib.hid (fun j => by simp only [at2, nth_drop]; rfl)
  have HZW : Hid (∀ k, 7 * k ≤ n - 2 → ∀ z ∈ flOf (ys.drop 2) k, (Lit.int .i64 z).wf = true) := Lib.hid (fun k hk z hz => wf_i64_16 (flOf_wf _ (fun z hz => hr.1 z (List.mem_of_mem_drop hz)) k (by rw [List.length_drop, hn]; omega) z hz))
  have HM : Hid (∀ j, j < n → 0 ≤ nth ys j ∧ nth ys j < 256) := Lib.hid (fun j hj => wf_u8 (hr.wf_at (i := j) (by omega)))
  generalize ys.drop 2 = zs at *
  clear hr hn hv hrg
  have t0 := TB.new w #[.int .i64 0, .int .i64 0, .int .i64 0, .slice none 0 0, .slice none 0 0, .slice none 0 0] #[.int .i64 20, .int .i64 0, .int .i64 0, .slice none 0 0, .slice none 0 0, .slice none 0 0] 26
  go_enter Try.func71, Try.ntmps71
  go_wp2
  go_loopw [5] (fun i wr => ∃ k : Nat, 2 + 7 * k ≤ n ∧ i = .int .i64 ((2 + 7 * k : Nat) : Int) ∧ Hid (∃ v, TB w w.heap.size (.cells #[.int .i64 0, .int .i64 0, .int .i64 0, .slice none 0 0, .slice none 0 0, .slice none 0 0] 26 (0, 0)) (.cells #[.int .i64 20, .int .i64 0, .int .i64 0, .slice none 0 0, .slice none 0 0, v] 26 (0, 0)) wr ∧ POwn 61 wr (w.heap.size + 2) v (flOf zs k)) ∧ Hid (mkOk zs k = true)) (fun i _ => n - (intOf i).toNat)
  case atStart => exact ⟨0, by omega, rfl, Lib.hid ⟨_, t0, POwn.nil _ _ _⟩, Lib.hid rfl⟩
  case round =>
    clear t0
    obtain ⟨k, hk, rfl, hv, hok⟩ := hrel
    obtain ⟨v, tb, hown⟩ := hv.out
    clear hv
    obtain ⟨d0, d1, d2, d3, d4, d5, d6⟩ := tb.c6
    have hz2 := tb.lt
    obtain ⟨Av, nv, cv, rfl⟩ := hown.form
    have ob := Lib.hid hown.block
    obtain ⟨p, hp⟩ : ∃ p, 2 + 7 * k = p := ⟨_, rfl⟩
    have HP := Lib.hid hp
    rw [hp] at hk ⊢
    by_cases hlt : p < n
    · by_cases h7 : p + 7 ≤ n
      · obtain ⟨b', o', hA, hbB, hcell⟩ := HR.out.at_ (i := p) (by have := HN.out; omega)
        injection hA with hA
        injection hA with hA1 hA2
        subst hA1 hA2
        have hcw : wr.cell? ⟨b, o + p, none⟩ = some (.int .u8 (nth ys p)) := (tb.bel.cell (p := ⟨b, o + p, none⟩) hbB).trans hcell
        have hvr := HM.out p hlt
        have e7 : (7 : Int) ≤ (n : Int) - (p : Int) := by omega
        have e72 : ¬ ((n : Int) - (p : Int) < 7) := by omega
        have e73 : IntKind.i64.wrap ((n : Int) - (p : Int)) = (n : Int) - (p : Int) := IntWalk.i64_in _ (by omega)
        clear hcell
        by_cases h6 : nth ys p = 6
        · have HF : Hid (flOf zs (k + 1) = flOf zs k ++ [at2 zs (7 * k + 1), at2 zs (7 * k + 3), at2 zs (7 * k + 5)]) := Lib.hid rfl
          have HMK : Hid (mkOk zs (k + 1) = true) := Lib.hid (by rw [mkOk, hok.out, HZN.out, HP.out, decide_eq_true h6]; rfl)
          have HL : Hid ((flOf zs k).length ≤ 3000000) := Lib.hid (by rw [flOf_length]; omega)
          obtain ⟨p1, hp1⟩ : ∃ q, p + 1 = q := ⟨_, rfl⟩
          obtain ⟨p3, hp3⟩ : ∃ q, p + 3 = q := ⟨_, rfl⟩
          obtain ⟨p5, hp5⟩ : ∃ q, p + 5 = q := ⟨_, rfl⟩
          obtain ⟨x, hx⟩ : ∃ v, at2 ys p1 = v := ⟨_, rfl⟩
          obtain ⟨y, hy⟩ : ∃ v, at2 ys p3 = v := ⟨_, rfl⟩
          obtain ⟨z, hz⟩ : ∃ v, at2 ys p5 = v := ⟨_, rfl⟩
          have HX := Lib.hid hx
          have HY := Lib.hid hy
          have HZ := Lib.hid hz
          have HF2 : Hid (flOf zs (k + 1) = flOf zs k ++ [x, y, z]) := Lib.hid (by
            rw [HF.out, HZA.out, HZA.out, HZA.out, show 2 + (7 * k + 1) = p1 by omega, show 2 + (7 * k + 3) = p3 by omega, show 2 + (7 * k + 5) = p5 by omega, hx, hy, hz])
          have ea1 : IntKind.i64.wrap ((p : Int) + 1) = (p1 : Int) := by rw [IntWalk.i64_in _ (by omega)]; omega
          have ea3 : IntKind.i64.wrap ((p : Int) + 3) = (p3 : Int) := by rw [IntWalk.i64_in _ (by omega)]; omega
          have ea5 : IntKind.i64.wrap ((p : Int) + 5) = (p5 : Int) := by rw [IntWalk.i64_in _ (by omega)]; omega
          have eb1 : IntKind.i64.wrap (p1 : Int) = (p1 : Int) := IntWalk.i64_in _ (by omega)
          have eb3 : IntKind.i64.wrap (p3 : Int) = (p3 : Int) := IntWalk.i64_in _ (by omega)
          have eb5 : IntKind.i64.wrap (p5 : Int) = (p5 : Int) := IntWalk.i64_in _ (by omega)
          have ec1 : (p : Int) + 1 = (p1 : Int) := by omega
          have ec3 : (p : Int) + 3 = (p3 : Int) := by omega
          have ec5 : (p : Int) + 5 = (p5 : Int) := by omega
          have hq1 : p1 + 2 ≤ n := by omega
          have hq3 : p3 + 2 ≤ n := by omega
          have hq5 : p5 + 2 ≤ n := by omega
          rw [h6] at hcw
          clear hp1 hp3 hp5 hx hy hz h6 hp hvr HF
          go_wp2_with fail
          go_region_law (first
            | (refine step_append_part (w8.alloc (.cells #[.int .i64 x, .int .i64 y, .int .i64 z] 61)) rfl _ _ 24 rfl (w.heap.size + 2) 61 Try.underlying24 info_part (.slice Av nv cv) (flOf zs k) rfl (own8.alloc _) ⟨w8.heap.size, 0, none⟩ 1 x y z rfl (box_three w8 61 x y z) (by have := HL.out; omega) (by show _ ≤ (w8.alloc _).heap.size; have := tb8.lt; simp; omega) ?_; intro v4 w4 own4 g4; obtain ⟨A4, n4, c4, rfl⟩ := own4.form; have tb12 := ((tb8.alloc (.cells #[.int .i64 x, .int .i64 y, .int .i64 z] 61)).grown g4 (fun g e => by have := (ob.out g e).1; omega)); obtain ⟨k0, k1, k2, k3, k4, k5, k6⟩ := tb12.c6)
            | (refine step_append_part (World.drew (w8.alloc (.cells #[.int .i64 x, .int .i64 y, .int .i64 z] 61))) rfl _ _ 24 rfl (w.heap.size + 2) 61 Try.underlying24 info_part (.slice Av nv cv) (flOf zs k) rfl (own8.alloc _) ⟨w8.heap.size, 0, none⟩ 1 x y z rfl (box_three w8 61 x y z) (by have := HL.out; omega) (by show _ ≤ (w8.alloc _).heap.size; have := tb8.lt; simp; omega) ?_; intro v4 w4 own4 g4; obtain ⟨A4, n4, c4, rfl⟩ := own4.form; have tb12 := (((tb8.alloc (.cells #[.int .i64 x, .int .i64 y, .int .i64 z] 61)).drew).grown g4 (fun g e => by have := (ob.out g e).1; omega)); obtain ⟨k0, k1, k2, k3, k4, k5, k6⟩ := tb12.c6)
            | (go_simp; go_at_call_of 104 (Value.int .i64 ((p1 : Nat) : Int)); refine (refAt_bel b o n c p1 _ rfl ys _ w.heap.size (by first | exact HR.out.tb tb8 | exact HR.out.tb tb | exact HR.out.tb tb.drew) HN.out hc (by omega) (by omega)).mono ?_; rintro e w8 ⟨rfl, b9⟩; rw [HX.out]; (first | (have tb9 := tb8.below b9; have own9 := own8.below b9 (Nat.le_refl _)) | (have tb9 := tb.drew.below b9; have own9 := (hown.drewN 1).below b9 (Nat.le_refl _)) | (have tb9 := tb.below b9; have own9 := hown.below b9 (Nat.le_refl _))); have tb8 := tb9; have own8 := own9; clear tb9 own9; obtain ⟨f0, f1, f2, f3, f4, f5, f6⟩ := tb8.c6; obtain ⟨s0, s1, s2, s3, s4, s5, s6⟩ := (tb8.alloc (.cells #[.int .i64 x, .int .i64 y, .int .i64 z] 61)).c6)
            | (go_simp; go_at_call_of 104 (Value.int .i64 ((p3 : Nat) : Int)); refine (refAt_bel b o n c p3 _ rfl ys _ w.heap.size (by first | exact HR.out.tb tb8 | exact HR.out.tb tb | exact HR.out.tb tb.drew) HN.out hc (by omega) (by omega)).mono ?_; rintro e w8 ⟨rfl, b9⟩; rw [HY.out]; (first | (have tb9 := tb8.below b9; have own9 := own8.below b9 (Nat.le_refl _)) | (have tb9 := tb.drew.below b9; have own9 := (hown.drewN 1).below b9 (Nat.le_refl _)) | (have tb9 := tb.below b9; have own9 := hown.below b9 (Nat.le_refl _))); have tb8 := tb9; have own8 := own9; clear tb9 own9; obtain ⟨f0, f1, f2, f3, f4, f5, f6⟩ := tb8.c6; obtain ⟨s0, s1, s2, s3, s4, s5, s6⟩ := (tb8.alloc (.cells #[.int .i64 x, .int .i64 y, .int .i64 z] 61)).c6)
            | (go_simp; go_at_call_of 104 (Value.int .i64 ((p5 : Nat) : Int)); refine (refAt_bel b o n c p5 _ rfl ys _ w.heap.size (by first | exact HR.out.tb tb8 | exact HR.out.tb tb | exact HR.out.tb tb.drew) HN.out hc (by omega) (by omega)).mono ?_; rintro e w8 ⟨rfl, b9⟩; rw [HZ.out]; (first | (have tb9 := tb8.below b9; have own9 := own8.below b9 (Nat.le_refl _)) | (have tb9 := tb.drew.below b9; have own9 := (hown.drewN 1).below b9 (Nat.le_refl _)) | (have tb9 := tb.below b9; have own9 := hown.below b9 (Nat.le_refl _))); have tb8 := tb9; have own8 := own9; clear tb9 own9; obtain ⟨f0, f1, f2, f3, f4, f5, f6⟩ := tb8.c6; obtain ⟨s0, s1, s2, s3, s4, s5, s6⟩ := (tb8.alloc (.cells #[.int .i64 x, .int .i64 y, .int .i64 z] 61)).c6))
          all_goals
            have tb13 := tb12.set5 (.slice A4 n4 c4)
            have own13 := own4.set (g := w.heap.size + 1) (by omega) 5 (.slice A4 n4 c4)
            rw [← HF2.out] at own13
            clear tb tb8 own8 tb12 own4 g4 hown k0 k1 k2 k3 k4 k5 k6 d0 d1 d2 d3 d4 d5 d6 f0 f1 f2 f3 f4 f5 f6 s0 s1 s2 s3 s4 s5 s6 HQ
            have ep : IntKind.i64.wrap ((p : Int) + 7) = ((2 + 7 * (k + 1) : Nat) : Int) := by rw [IntWalk.i64_in _ (by omega)]; have := HP.out; omega
            have ep2 : (p : Int) + 7 = ((2 + 7 * (k + 1) : Nat) : Int) := by have := HP.out; omega
            (try go_wp2)
            go_roundw
            case rel => exact ⟨k + 1, by have := HP.out; omega, by first | rfl | go_num, Lib.hid ⟨_, tb13, own13⟩, HMK⟩
            case measure => have := HP.out; simp [intOf]; omega
        · have HF : Hid (rdOk ys = false) := Lib.hid (by rw [HQ.out.1]; exact partsOk_mark zs k (by rw [HZL.out]; omega) (by rw [HZN.out, HP.out]; exact h6))
          have u1 : (nth ys p != 6) = true := by simpa using h6
          have u2 : (nth ys p == 6) = false := beq_false_of_ne h6
          generalize nth ys p = mk at *
          have P5 := Lib.hid (tb.put (.int .i64 0) (.int .i64 0) (.int .i64 0) (.slice none 0 0) (.slice none 0 0) (.slice none 0 0))
          obtain ⟨r0, r1, r2, r3, r4, r5, r6⟩ := tb.r6
          clear h6 HQ hown tb hok
          go_wp2
          (try simp only [Exit.inBlock, Exit.then])
          show bodyPost _ _ _ _ _ (put6 (wr) w.heap.size (.int .i64 0) (.int .i64 0) (.int .i64 0) (.slice none 0 0) (.slice none 0 0) (.slice none 0 0))
          generalize put6 (wr) w.heap.size (.int .i64 0) (.int .i64 0) (.int .i64 0) (.slice none 0 0) (.slice none 0 0) (.slice none 0 0) = w6 at *
          obtain ⟨⟨d10, d11, d12⟩, ⟨d13, d14, d15⟩, d16⟩ := cells6 P5.out.1
          refine bodyPost_ret (v := .tuple #[.agg #[.int .i64 0, .int .i64 0, .int .i64 0, .slice none 0 0, .slice none 0 0, .slice none 0 0], .bool false]) (by simp [results, Try.results71, go_sem, d10, d11, d12, d13, d14, d15]) rfl ?_
          exact ⟨Req.zero, _, _, _, _, _, _, _, _, _, false, rfl, Asked.zero _ _, P5.out.2, ⟨Fresh.nil _, Fresh.nil _, Fresh.nil _⟩, .inr ⟨rfl, HF.out⟩⟩
      · have HF : Hid (rdOk ys = false) := Lib.hid (by rw [HQ.out.1]; exact partsOk_rest zs (by rw [HZL.out]; have := HP.out; omega))
        have e72 : (n : Int) - (p : Int) < 7 := by omega
        have e73 : IntKind.i64.wrap ((n : Int) - (p : Int)) = (n : Int) - (p : Int) := IntWalk.i64_in _ (by omega)
        have P5 := Lib.hid (tb.put (.int .i64 0) (.int .i64 0) (.int .i64 0) (.slice none 0 0) (.slice none 0 0) (.slice none 0 0))
        obtain ⟨r0, r1, r2, r3, r4, r5, r6⟩ := tb.r6
        clear HQ hown tb hok h7
        go_wp2
        (try simp only [Exit.inBlock, Exit.then])
        show bodyPost _ _ _ _ _ (put6 (wr) w.heap.size (.int .i64 0) (.int .i64 0) (.int .i64 0) (.slice none 0 0) (.slice none 0 0) (.slice none 0 0))
        generalize put6 (wr) w.heap.size (.int .i64 0) (.int .i64 0) (.int .i64 0) (.slice none 0 0) (.slice none 0 0) (.slice none 0 0) = w6 at *
        obtain ⟨⟨d10, d11, d12⟩, ⟨d13, d14, d15⟩, d16⟩ := cells6 P5.out.1
        refine bodyPost_ret (v := .tuple #[.agg #[.int .i64 0, .int .i64 0, .int .i64 0, .slice none 0 0, .slice none 0 0, .slice none 0 0], .bool false]) (by simp [results, Try.results71, go_sem, d10, d11, d12, d13, d14, d15]) rfl ?_
        exact ⟨Req.zero, _, _, _, _, _, _, _, _, _, false, rfl, Asked.zero _ _, P5.out.2, ⟨Fresh.nil _, Fresh.nil _, Fresh.nil _⟩, .inr ⟨rfl, HF.out⟩⟩
    · have HF : Hid (rdOk ys = true ∧ (⟨20, 0, 0, [], [], flOf zs k⟩ : Req) = rdQ ys) := Lib.hid (by
        have h1 : zs.length = 7 * k := by rw [HZL.out]; have := HP.out; omega
        refine ⟨by rw [HQ.out.1, partsOk_k zs k h1]; exact hok.out, ?_⟩
        rw [HQ.out.2, h1, show 7 * k / 7 = k by omega])
      have P5 := Lib.hid (tb.put (.int .i64 20) (.int .i64 0) (.int .i64 0) (.slice none 0 0) (.slice none 0 0) (.slice Av nv cv))
      have HR2 : Hid (Row .i64 (put6 wr w.heap.size (.int .i64 20) (.int .i64 0) (.int .i64 0) (.slice none 0 0) (.slice none 0 0) (.slice Av nv cv)) (put6 wr w.heap.size (.int .i64 20) (.int .i64 0) (.int .i64 0) (.slice none 0 0) (.slice none 0 0) (.slice Av nv cv)).heap.size Av (flOf zs k) ∧ (flOf zs k).length = 3 * nv) := Lib.hid ((hown.put6 (g := w.heap.size) (by omega) (.int .i64 20) (.int .i64 0) (.int .i64 0) (.slice none 0 0) (.slice none 0 0) (.slice Av nv cv)).row_at (HZW.out k (by have := HP.out; omega)))
      obtain ⟨r0, r1, r2, r3, r4, r5, r6⟩ := tb.r6
      have HFR := Lib.hid (Fresh.ownP hown (show w.heap.size ≤ w.heap.size + 2 by omega))
      clear HQ hown tb hok
      go_wp2
      (try simp only [Exit.inBlock, Exit.then])
      show bodyPost _ _ _ _ _ (put6 (wr) w.heap.size (.int .i64 20) (.int .i64 0) (.int .i64 0) (.slice none 0 0) (.slice none 0 0) (.slice Av nv cv))
      generalize put6 (wr) w.heap.size (.int .i64 20) (.int .i64 0) (.int .i64 0) (.slice none 0 0) (.slice none 0 0) (.slice Av nv cv) = w6 at *
      obtain ⟨⟨d10, d11, d12⟩, ⟨d13, d14, d15⟩, d16⟩ := cells6 P5.out.1
      refine bodyPost_ret (v := .tuple #[.agg #[.int .i64 20, .int .i64 0, .int .i64 0, .slice none 0 0, .slice none 0 0, .slice Av nv cv], .bool true]) (by simp [results, Try.results71, go_sem, d10, d11, d12, d13, d14, d15]) rfl ?_
      exact ⟨⟨20, 0, 0, [], [], flOf zs k⟩, _, _, _, _, _, _, _, _, _, true, rfl, ⟨L.Row.nil _ _ _ _, Row.nil _ _ _ _, HR2.out.1, rfl, rfl, HR2.out.2⟩, P5.out.2, ⟨Fresh.nil _, Fresh.nil _, HFR.out⟩, .inl ⟨rfl, HF.out⟩⟩
end Go.Proofs.Ytfdikjfbmfibjaa
namespace Go.Proofs.Ytfdikjfbmfibjaa
open Go.RowKit
set_option linter.unusedVariables false

theorem refSaid_any (A : Option Addr) (n c : Nat) (ys : List Int) (w : World) (hr : Row .u8 w w.heap.size A ys) (hn : ys.length = n) (hc : n ≤ c) (h1 : 1 ≤ n) (hb : n ≤ 7000) (hm : 0 < mm (nth ys 0)) (hs : (n : Int) = szOf ys) :
    Calls Try.prog 71 #[.slice A n c] w (RSaid w ys) := by
  have hw : ∀ i, i < n → 0 ≤ nth ys i := fun i hi => (wf_u8 (hr.1 _ (nth_mem ys i (by omega)))).1
  have h2 : nth ys 0 ≠ 20 → 5 ≤ n := fun h => by have := szOf_five ys hr.1 (by rw [hn]; exact hs) h; omega
  have h6 : nth ys 0 = 15 ∨ nth ys 0 = 16 → 6 ≤ n := by
    intro h
    unfold szOf at hs
    rw [if_pos h] at hs
    split at hs
    · omega
    · omega
  have h20 : nth ys 0 = 20 → 2 ≤ n := by
    intro h
    unfold szOf at hs
    rw [if_neg (by omega), if_pos h] at hs
    split at hs
    · omega
    · omega
  rcases mm_pos hm with h | h | h | h | h | h | h | h | h
  · exact refSaid_plain A n c ys w hr hn hc hb (h2 (by omega)) (by omega)
  · exact refSaid_plain A n c ys w hr hn hc hb (h2 (by omega)) (by omega)
  · exact refSaid_plain A n c ys w hr hn hc hb (h2 (by omega)) (by omega)
  · exact refSaid_plain A n c ys w hr hn hc hb (h2 (by omega)) (by omega)
  · by_cases hy : at2 ys 3 = 65280
    · exact refSaid_coil_on A n c ys w hr hn hc hb (h2 (by omega)) h hy
    · by_cases hy2 : at2 ys 3 = 0
      · exact refSaid_coil_off A n c ys w hr hn hc hb (h2 (by omega)) h hy2
      · exact refSaid_coil_none A n c ys w hr hn hc hb (h2 (by omega)) h ⟨hy, hy2⟩
  · exact refSaid_reg A n c ys w hr hn hc hb (h2 (by omega)) h
  · have hyr := at2_range ys hr.1 3 (by have := h6 (by omega); omega)
    obtain ⟨m, hm2⟩ := Int.eq_ofNat_of_zero_le hyr.1
    by_cases hl : n - 6 = need m
    · exact refSaid_bits_loop A n c ys w hr hn hc hb (h6 (by omega)) h m hm2 hl
    · exact refSaid_bits_len A n c ys w hr hn hc hb (h6 (by omega)) h m hm2 hl
  · have hyr := at2_range ys hr.1 3 (by have := h6 (by omega); omega)
    obtain ⟨m, hm2⟩ := Int.eq_ofNat_of_zero_le hyr.1
    by_cases hl : n - 6 = 2 * m
    · exact refSaid_words_loop A n c ys w hr hn hc hb (h6 (by omega)) h m hm2 hl
    · exact refSaid_words_len A n c ys w hr hn hc hb (h6 (by omega)) h m hm2 hl
  · exact refSaid_file A n c ys w hr hn hc hb (h20 h) h

/-- A request and a number. -/
def RGot (w : World) (q : Req) (E : Int) (e : Ending) (w' : World) : Prop :=
  ∃ (A1 A2 A3 : Option Addr) (m1 m2 m3 c1 c2 c3 : Nat), e = .returned (.tuple #[.agg #[.int .i64 q.c, .int .i64 q.a, .int .i64 q.n, .slice A1 m1 c1, .slice A2 m2 c2, .slice A3 m3 c3], .int .i64 E]) ∧ Asked w' w'.heap.size q A1 A2 A3 m1 m2 m3 ∧ Below w.heap.size w w'
theorem RGot.zero_ {w w' : World} {err : Int} {e : Ending} (h : e = .returned (.tuple #[.agg #[.int .i64 0, .int .i64 0, .int .i64 0, .slice none 0 0, .slice none 0 0, .slice none 0 0], .int .i64 err])) (hb : Below w.heap.size w w') : RGot w Req.zero err e w' :=
  ⟨none, none, none, 0, 0, 0, 0, 0, 0, h, Asked.zero _ _, hb⟩
theorem row_put6 {k : IntKind} {w : World} {B B' g : Nat} {A : Option Addr} {xs : List Int} (h : Row k w B A xs) (hf : Fresh B' A) (hg : g < B') (v0 v1 v2 v3 v4 v5 : Value) : Row k (put6 w g v0 v1 v2 v3 v4 v5) B A xs := by
  refine ⟨h.1, fun hp => ?_⟩
  obtain ⟨b, o, rfl, hb, hc⟩ := h.2 hp
  have hbg := hf b o none rfl
  refine ⟨b, o, rfl, hb, fun i hi => ?_⟩
  have hs : ∀ (W : World) (j : Nat) (u : Value), (W.setCell ⟨g, j, none⟩ u).cell? ⟨b, o + i, none⟩ = W.cell? ⟨b, o + i, none⟩ := fun W j u => World.cell?_setCell_far W _ _ u (by simp; omega)
  unfold put6
  rw [hs, hs, hs, hs, hs, hs]
  exact hc i hi
theorem rowL_put6 {k : Unit} {w : World} {B B' g : Nat} {A : Option Addr} {xs : List Bool} (h : L.Row k w B A xs) (hf : Fresh B' A) (hg : g < B') (v0 v1 v2 v3 v4 v5 : Value) : L.Row k (put6 w g v0 v1 v2 v3 v4 v5) B A xs := by
  refine ⟨h.1, fun hp => ?_⟩
  obtain ⟨b, o, rfl, hb, hc⟩ := h.2 hp
  have hbg := hf b o none rfl
  refine ⟨b, o, rfl, hb, fun i hi => ?_⟩
  have hs : ∀ (W : World) (j : Nat) (u : Value), (W.setCell ⟨g, j, none⟩ u).cell? ⟨b, o + i, none⟩ = W.cell? ⟨b, o + i, none⟩ := fun W j u => World.cell?_setCell_far W _ _ u (by simp; omega)
  unfold put6
  rw [hs, hs, hs, hs, hs, hs]
  exact hc i hi
theorem put6_size (w : World) (g : Nat) (v0 v1 v2 v3 v4 v5 : Value) : (put6 w g v0 v1 v2 v3 v4 v5).heap.size = w.heap.size := by simp [put6, World.setCell]
theorem Asked.put6 {w : World} {q : Req} {A1 A2 A3 : Option Addr} {m1 m2 m3 B' g : Nat} (h : Asked w w.heap.size q A1 A2 A3 m1 m2 m3) (f1 : Fresh B' A1) (f2 : Fresh B' A2) (f3 : Fresh B' A3) (hg : g < B') (v0 v1 v2 v3 v4 v5 : Value) :
    Asked (put6 w g v0 v1 v2 v3 v4 v5) (put6 w g v0 v1 v2 v3 v4 v5).heap.size q A1 A2 A3 m1 m2 m3 := by
  rw [put6_size]
  exact ⟨rowL_put6 h.on f1 hg _ _ _ _ _ _, row_put6 h.set f2 hg _ _ _ _ _ _, row_put6 h.fl f3 hg _ _ _ _ _ _, h.lo, h.ls, h.lp⟩

set_option maxRecDepth 100000 in
theorem refGet_none (A : Option Addr) (c : Nat) (w : World) : Calls Try.prog 30 #[.slice A 0 c] w (RGot w Req.zero 1) := by
  go_enter Try.func30, Try.ntmps30
  go_wp2
  (try simp only [Exit.inBlock, Exit.then])
  refine bodyPost_ret (v := .tuple #[.agg #[.int .i64 0, .int .i64 0, .int .i64 0, .slice none 0 0, .slice none 0 0, .slice none 0 0], .int .i64 1]) (by simp [results, Try.results30, go_sem]) rfl ?_
  exact RGot.zero_ rfl (bel_alloc w _)
set_option maxRecDepth 100000 in
theorem refGet_code (A : Option Addr) (n c : Nat) (ys : List Int) (w : World) (hr : Row .u8 w w.heap.size A ys) (hn : ys.length = n) (hb : n ≤ 140737488355328) (h1 : 1 ≤ n) (hm : mm (nth ys 0) ≤ 0) :
    Calls Try.prog 30 #[.slice A n c] w (RGot w Req.zero 20) := by
  obtain ⟨b, o, rfl, hb1, hc1, hrg⟩ := row_head hr (by omega)
  have t0 : ((n : Int) == 0) = false := beq_false_of_ne (by omega)
  have HD : Hid (decide (0 < mm (nth ys 0)) = false) := Lib.hid (decide_eq_false (by omega))
  clear hr hn hm
  generalize nth ys 0 = v at *
  have e0 : IntKind.i64.wrap v = v := IntWalk.i64_in _ (by omega)
  go_enter Try.func30, Try.ntmps30
  go_wp2_with fail
  refine (refKnown_any v _).mono ?_
  rintro e w1 ⟨rfl, rfl⟩
  rw [HD.out]
  go_wp2
  (try simp only [Exit.inBlock, Exit.then])
  refine bodyPost_ret (v := .tuple #[.agg #[.int .i64 0, .int .i64 0, .int .i64 0, .slice none 0 0, .slice none 0 0, .slice none 0 0], .int .i64 20]) (by simp [results, Try.results30, go_sem]) rfl ?_
  exact RGot.zero_ rfl (bel_alloc w _)
theorem lenR_cases (ys : List Int) (hw : ∀ x ∈ ys, (Lit.int .u8 x).wf = true) (h1 : 1 ≤ ys.length) : lenR ys = szOf ys ∨ (lenR ys = -1 ∧ (ys.length : Int) < szOf ys) := by
  unfold lenR szOf
  by_cases h : nth ys 0 = 15 ∨ nth ys 0 = 16
  · by_cases h6 : ys.length < 6
    · right; rw [if_pos ⟨h, h6⟩, if_pos h, if_pos h6]; exact ⟨rfl, by omega⟩
    · left; rw [if_neg (fun e => h6 e.2), if_neg (by omega)]
  · rw [if_neg (fun e => h e.1)]
    by_cases h2 : nth ys 0 = 20 ∧ ys.length < 2
    · right; rw [if_pos h2, if_neg h, if_pos h2.1, if_pos h2.2]; exact ⟨rfl, by omega⟩
    · left; rw [if_neg h2]
set_option maxRecDepth 100000 in
theorem refGet_size (A : Option Addr) (n c : Nat) (ys : List Int) (w : World) (hr : Row .u8 w w.heap.size A ys) (hn : ys.length = n) (hb : n ≤ 140737488355328) (h1 : 1 ≤ n) (hm : 0 < mm (nth ys 0)) (hs : (n : Int) ≠ szOf ys) :
    Calls Try.prog 30 #[.slice A n c] w (RGot w Req.zero (if (n : Int) < szOf ys then 1 else 2)) := by
  obtain ⟨b, o, rfl, hb1, hc1, hrg⟩ := row_head hr (by omega)
  have t0 : ((n : Int) == 0) = false := beq_false_of_ne (by omega)
  have HD : Hid (decide (0 < mm (nth ys 0)) = true) := Lib.hid (decide_eq_true (by omega))
  have HC := lenR_cases ys hr.1 (by omega)
  rw [hn] at HC
  have HR := Lib.hid hr
  have HN := Lib.hid hn
  have HM := Lib.hid hm
  clear hr hn hm
  obtain ⟨s, hs2⟩ : ∃ s, Hid (lenR ys = s) := ⟨_, Lib.hid rfl⟩
  rw [hs2.out] at HC
  by_cases hlt : (n : Int) < szOf ys
  · rw [if_pos hlt]
    by_cases hneg : s < 0
    · clear hs HC hlt
      generalize hv : nth ys 0 = v at *
      have e0 : IntKind.i64.wrap v = v := IntWalk.i64_in _ (by omega)
      go_enter Try.func30, Try.ntmps30
      go_wp2_with fail
      refine (refKnown_any v _).mono ?_
      rintro e w1 ⟨rfl, rfl⟩
      rw [HD.out]
      go_wp2_with fail
      refine (refLength_any b o n c ys _ w.heap.size (HR.out.alloc (Nat.le_refl _) _) HN.out h1 hb (by rw [hv]; exact HM.out)).mono ?_
      rintro e w1 ⟨rfl, rfl⟩
      rw [hs2.out]
      go_wp2
      (try simp only [Exit.inBlock, Exit.then])
      refine bodyPost_ret (v := .tuple #[.agg #[.int .i64 0, .int .i64 0, .int .i64 0, .slice none 0 0, .slice none 0 0, .slice none 0 0], .int .i64 1]) (by simp [results, Try.results30, go_sem]) rfl ?_
      exact RGot.zero_ rfl (bel_alloc w _)
    · have hlt2 : (n : Int) < s := by rcases HC with h | h <;> omega
      clear hs HC hlt
      generalize hv : nth ys 0 = v at *
      have e0 : IntKind.i64.wrap v = v := IntWalk.i64_in _ (by omega)
      go_enter Try.func30, Try.ntmps30
      go_wp2_with fail
      refine (refKnown_any v _).mono ?_
      rintro e w1 ⟨rfl, rfl⟩
      rw [HD.out]
      go_wp2_with fail
      refine (refLength_any b o n c ys _ w.heap.size (HR.out.alloc (Nat.le_refl _) _) HN.out h1 hb (by rw [hv]; exact HM.out)).mono ?_
      rintro e w1 ⟨rfl, rfl⟩
      rw [hs2.out]
      go_wp2
      (try simp only [Exit.inBlock, Exit.then])
      refine bodyPost_ret (v := .tuple #[.agg #[.int .i64 0, .int .i64 0, .int .i64 0, .slice none 0 0, .slice none 0 0, .slice none 0 0], .int .i64 1]) (by simp [results, Try.results30, go_sem]) rfl ?_
      exact RGot.zero_ rfl (bel_alloc w _)
  · rw [if_neg hlt]
    have hgt : s < (n : Int) := by rcases HC with h | h <;> omega
    have hge : ¬ (s < 0) := by
      rcases HC with h | h
      · rw [h]; unfold szOf; have hw : ∀ i, i < n → 0 ≤ nth ys i := fun i hi => (wf_u8 (HR.out.1 _ (nth_mem ys i (by have := HN.out; omega)))).1
        have hn2 := HN.out
        split
        · split
          · omega
          · have := hw 5 (by omega); omega
        · split
          · split
            · omega
            · have := hw 1 (by omega); omega
          · omega
      · omega
    clear hs HC hlt
    generalize hv : nth ys 0 = v at *
    have e0 : IntKind.i64.wrap v = v := IntWalk.i64_in _ (by omega)
    go_enter Try.func30, Try.ntmps30
    go_wp2_with fail
    refine (refKnown_any v _).mono ?_
    rintro e w1 ⟨rfl, rfl⟩
    rw [HD.out]
    go_wp2_with fail
    refine (refLength_any b o n c ys _ w.heap.size (HR.out.alloc (Nat.le_refl _) _) HN.out h1 hb (by rw [hv]; exact HM.out)).mono ?_
    rintro e w1 ⟨rfl, rfl⟩
    rw [hs2.out]
    go_wp2
    (try simp only [Exit.inBlock, Exit.then])
    refine bodyPost_ret (v := .tuple #[.agg #[.int .i64 0, .int .i64 0, .int .i64 0, .slice none 0 0, .slice none 0 0, .slice none 0 0], .int .i64 2]) (by simp [results, Try.results30, go_sem]) rfl ?_
    exact RGot.zero_ rfl (bel_alloc w _)

set_option maxHeartbeats 1000000 in
set_option maxRecDepth 100000 in
theorem refGet_rest (A : Option Addr) (n c : Nat) (ys : List Int) (w : World) (hr : Row .u8 w w.heap.size A ys) (hn : ys.length = n) (hc : n ≤ c) (h1 : 1 ≤ n) (hm : 0 < mm (nth ys 0)) (hs : (n : Int) = szOf ys) :
    Calls Try.prog 30 #[.slice A n c] w (RGot w (if rdOk ys = false then Req.zero else if chkQ (rdQ ys) = 0 then rdQ ys else Req.zero) (if rdOk ys = false then 4 else chkQ (rdQ ys))) := by
  have hle := szOf_le ys hr.1
  have hrd := Lib.hid (fun (W : World) (hR : Row .u8 W W.heap.size A ys) => refSaid_any A n c ys W hR hn hc h1 (by omega) hm hs)
  have HC0 := lenR_cases ys hr.1 (by omega)
  rw [hn] at HC0
  have HS : Hid (lenR ys = (n : Int)) := Lib.hid (by rcases HC0 with h | h <;> omega)
  obtain ⟨b, o, rfl, hb1, hc1, hrg⟩ := row_head hr (by omega)
  have t0 : ((n : Int) == 0) = false := beq_false_of_ne (by omega)
  have HD : Hid (decide (0 < mm (nth ys 0)) = true) := Lib.hid (decide_eq_true (by omega))
  have HR := Lib.hid hr
  have HN := Lib.hid hn
  have HM := Lib.hid hm
  have hn3 : n ≤ 300 := by omega
  clear hr hn hm hs hle HC0
  obtain ⟨q', hq'⟩ : ∃ q', Hid ((if rdOk ys = false then Req.zero else if chkQ (rdQ ys) = 0 then rdQ ys else Req.zero) = q') := ⟨_, Lib.hid rfl⟩
  obtain ⟨E', hE'⟩ : ∃ E', Hid ((if rdOk ys = false then 4 else chkQ (rdQ ys)) = E') := ⟨_, Lib.hid rfl⟩
  rw [hq'.out, hE'.out]
  generalize hv : nth ys 0 = v at *
  have HV := Lib.hid hv
  clear hv
  have e0 : IntKind.i64.wrap v = v := IntWalk.i64_in _ (by omega)
  go_enter Try.func30, Try.ntmps30
  go_wp2_with fail
  refine (refKnown_any v _).mono ?_
  rintro e w1 ⟨rfl, rfl⟩
  rw [HD.out]
  go_wp2_with fail
  refine (refLength_any b o n c ys _ w.heap.size (HR.out.alloc (Nat.le_refl _) _) HN.out h1 (by omega) (by rw [HV.out]; exact HM.out)).mono ?_
  rintro e w1 ⟨rfl, rfl⟩
  rw [HS.out]
  go_wp2_with fail
  refine (hrd.out _ (by exact (HR.out.alloc (Nat.le_refl _) _).more (by simp))).mono ?_
  rintro e w1 ⟨q, A1, A2, A3, m1, m2, m3, c1, c2, c3, ok, rfl, ha, b1, ⟨f1, f2, f3⟩, hok⟩
  have hz : (w.alloc (.cells #[.int .i64 0, .int .i64 0, .int .i64 0, .slice none 0 0, .slice none 0 0, .slice none 0 0] 26)).heap.size = w.heap.size + 1 := by simp
  rw [hz] at f1 f2 f3 b1
  have ret1 : Hid (w1.heap[w.heap.size]? = some (.cells #[.int .i64 0, .int .i64 0, .int .i64 0, .slice none 0 0, .slice none 0 0, .slice none 0 0] 26 (0, 0))) := Lib.hid ((b1.block w.heap.size (by omega)).trans (heap_alloc_new w _))
  have bel1 : Below w.heap.size w w1 := (bel_alloc w _).trans (b1.mono (by omega))
  have hs1 : w.heap.size < w1.heap.size := by have := b1.size; rw [hz] at this; omega
  have HOK := Lib.hid hok
  have HA := Lib.hid ha
  have F1 := Lib.hid f1
  have F2 := Lib.hid f2
  have F3 := Lib.hid f3
  clear hok ha f1 f2 f3 b1 hz hrd HD HS t0 e0
  cases ok with
  | false =>
    have hrk : Hid (rdOk ys = false) := Lib.hid (by
      rcases HOK.out with ⟨h, _⟩ | ⟨_, h⟩
      · cases h
      · exact h)
    have hsz : w.heap.size < (put6 w1 w.heap.size (.int .i64 0) (.int .i64 0) (.int .i64 0) (.slice none 0 0) (.slice none 0 0) (.slice none 0 0)).heap.size := by rw [put6_size]; exact hs1
    have P4 := Lib.hid ((below_put6 bel1 (g := w.heap.size) (Nat.le_refl _) (.int .i64 0) (.int .i64 0) (.int .i64 0) (.slice none 0 0) (.slice none 0 0) (.slice none 0 0)).alloc (Nat.le_of_lt hsz) (.cells #[.int .i64 q.c, .int .i64 q.a, .int .i64 q.n, .slice A1 m1 c1, .slice A2 m2 c2, .slice A3 m3 c3] 26))
    have P5 := Lib.hid ((heap_alloc_old (put6 w1 w.heap.size (.int .i64 0) (.int .i64 0) (.int .i64 0) (.slice none 0 0) (.slice none 0 0) (.slice none 0 0)) (.cells #[.int .i64 q.c, .int .i64 q.a, .int .i64 q.n, .slice A1 m1 c1, .slice A2 m2 c2, .slice A3 m3 c3] 26) hsz).trans (put6_heap ret1.out (.int .i64 0) (.int .i64 0) (.int .i64 0) (.slice none 0 0) (.slice none 0 0) (.slice none 0 0)))
    clear hsz
    obtain ⟨⟨d10, d11, d12⟩, ⟨d13, d14, d15⟩, d16⟩ := cells6 ret1.out
    go_wp2
    (try simp only [Exit.inBlock, Exit.then])
    show bodyPost _ _ _ _ _ ((put6 w1 w.heap.size (.int .i64 0) (.int .i64 0) (.int .i64 0) (.slice none 0 0) (.slice none 0 0) (.slice none 0 0)).alloc (.cells #[.int .i64 q.c, .int .i64 q.a, .int .i64 q.n, .slice A1 m1 c1, .slice A2 m2 c2, .slice A3 m3 c3] 26))
    generalize (put6 w1 w.heap.size (.int .i64 0) (.int .i64 0) (.int .i64 0) (.slice none 0 0) (.slice none 0 0) (.slice none 0 0)).alloc (.cells #[.int .i64 q.c, .int .i64 q.a, .int .i64 q.n, .slice A1 m1 c1, .slice A2 m2 c2, .slice A3 m3 c3] 26) = w6 at *
    clear d10 d11 d12 d13 d14 d15 d16
    obtain ⟨⟨d10, d11, d12⟩, ⟨d13, d14, d15⟩, d16⟩ := cells6 P5.out
    refine bodyPost_ret (v := .tuple #[.agg #[.int .i64 0, .int .i64 0, .int .i64 0, .slice none 0 0, .slice none 0 0, .slice none 0 0], .int .i64 4]) (by simp [results, Try.results30, go_sem, d10, d11, d12, d13, d14, d15]) rfl ?_
    rw [← hq'.out, ← hE'.out, if_pos hrk.out, if_pos hrk.out]
    exact RGot.zero_ rfl P4.out
  | true =>
    obtain ⟨hrk', hq⟩ : Hid (rdOk ys = true) ∧ Hid (q = rdQ ys) := by
      rcases HOK.out with ⟨_, h1, h2⟩ | ⟨h, _⟩
      · exact ⟨Lib.hid h1, Lib.hid h2⟩
      · cases h
    have HA2 := Lib.hid (HA.out.upAlloc (.cells #[.int .i64 q.c, .int .i64 q.a, .int .i64 q.n, .slice A1 m1 c1, .slice A2 m2 c2, .slice A3 m3 c3] 26))
    have hk : Hid (chk q.c q.a q.n m1 m2 m3 q.fl = chkQ (rdQ ys)) := Lib.hid (by
      rw [← hq.out, chkQ, HA.out.lo, HA.out.ls, HA.out.lp, Nat.mul_div_cancel_left m3 (by omega)])
    obtain ⟨r, hr⟩ : ∃ r, Hid (chkQ (rdQ ys) = r) := ⟨_, Lib.hid rfl⟩
    rw [hr.out] at hk
    have HC := Lib.hid (refCheck_any q A1 A2 A3 m1 m2 m3 c1 c2 c3 (w1.alloc (.cells #[.int .i64 q.c, .int .i64 q.a, .int .i64 q.n, .slice A1 m1 c1, .slice A2 m2 c2, .slice A3 m3 c3] 26)) HA2.out)
    rw [hk.out] at HC
    have bxn := Lib.hid (heap_alloc_new w1 (.cells #[.int .i64 q.c, .int .i64 q.a, .int .i64 q.n, .slice A1 m1 c1, .slice A2 m2 c2, .slice A3 m3 c3] 26))
    have hz1 : (w1.alloc (.cells #[.int .i64 q.c, .int .i64 q.a, .int .i64 q.n, .slice A1 m1 c1, .slice A2 m2 c2, .slice A3 m3 c3] 26)).heap.size = w1.heap.size + 1 := by simp
    go_wp2_with fail
    refine HC.out.mono ?_
    rintro e w2 ⟨rfl, b2⟩
    have ret2 : Hid (w2.heap[w.heap.size]? = some (.cells #[.int .i64 0, .int .i64 0, .int .i64 0, .slice none 0 0, .slice none 0 0, .slice none 0 0] 26 (0, 0))) := Lib.hid ((b2.block w.heap.size (by rw [hz1]; omega)).trans ((heap_alloc_old w1 _ hs1).trans ret1.out))
    have box2 := Lib.hid ((b2.block w1.heap.size (by rw [hz1]; omega)).trans bxn.out)
    have bel2 : Below w.heap.size w w2 := (bel1.alloc (by omega) _).trans (b2.mono (by rw [hz1]; omega))
    have HA3 := Lib.hid (HA2.out.up b2)
    clear b2 bxn HC hz1 bel1 ret1
    obtain ⟨⟨d10, d11, d12⟩, ⟨d13, d14, d15⟩, d16⟩ := cells6 ret2.out
    by_cases hr0 : r = 0
    · obtain rfl := hr0
      have P4 := Lib.hid (below_put6 bel2 (g := w.heap.size) (Nat.le_refl _) (.int .i64 q.c) (.int .i64 q.a) (.int .i64 q.n) (.slice A1 m1 c1) (.slice A2 m2 c2) (.slice A3 m3 c3))
      have P5 := Lib.hid (put6_heap ret2.out (.int .i64 q.c) (.int .i64 q.a) (.int .i64 q.n) (.slice A1 m1 c1) (.slice A2 m2 c2) (.slice A3 m3 c3))
      have P1 := Lib.hid (HA3.out.put6 F1.out F2.out F3.out (Nat.lt_succ_self w.heap.size) (.int .i64 q.c) (.int .i64 q.a) (.int .i64 q.n) (.slice A1 m1 c1) (.slice A2 m2 c2) (.slice A3 m3 c3))
      obtain ⟨⟨c10, c11, c12⟩, ⟨c13, c14, c15⟩, c16⟩ := cells6 box2.out
      go_wp2
      (try simp only [Exit.inBlock, Exit.then])
      show bodyPost _ _ _ _ _ (put6 w2 w.heap.size (.int .i64 q.c) (.int .i64 q.a) (.int .i64 q.n) (.slice A1 m1 c1) (.slice A2 m2 c2) (.slice A3 m3 c3))
      generalize put6 w2 w.heap.size (.int .i64 q.c) (.int .i64 q.a) (.int .i64 q.n) (.slice A1 m1 c1) (.slice A2 m2 c2) (.slice A3 m3 c3) = w6 at *
      clear d10 d11 d12 d13 d14 d15 d16 c10 c11 c12 c13 c14 c15 c16
      obtain ⟨⟨d10, d11, d12⟩, ⟨d13, d14, d15⟩, d16⟩ := cells6 P5.out
      refine bodyPost_ret (v := .tuple #[.agg #[.int .i64 q.c, .int .i64 q.a, .int .i64 q.n, .slice A1 m1 c1, .slice A2 m2 c2, .slice A3 m3 c3], .int .i64 0]) (by simp [results, Try.results30, go_sem, d10, d11, d12, d13, d14, d15]) rfl ?_
      have eq1 : q' = q := by rw [← hq'.out, if_neg (by rw [hrk'.out]; simp), hr.out, if_pos rfl, ← hq.out]
      have eE1 : E' = 0 := by rw [← hE'.out, if_neg (by rw [hrk'.out]; simp), hr.out]
      rw [eq1, eE1]
      exact ⟨A1, A2, A3, m1, m2, m3, c1, c2, c3, rfl, P1.out, P4.out⟩
    · have b1 : (r != 0) = true := by simpa using hr0
      have b2 : (r == 0) = false := beq_false_of_ne hr0
      have hr0' := Lib.hid hr0
      have P4 := Lib.hid (below_put6 bel2 (g := w.heap.size) (Nat.le_refl _) (.int .i64 0) (.int .i64 0) (.int .i64 0) (.slice none 0 0) (.slice none 0 0) (.slice none 0 0))
      have P5 := Lib.hid (put6_heap ret2.out (.int .i64 0) (.int .i64 0) (.int .i64 0) (.slice none 0 0) (.slice none 0 0) (.slice none 0 0))
      clear hr0
      go_wp2
      (try simp only [Exit.inBlock, Exit.then])
      show bodyPost _ _ _ _ _ (put6 w2 w.heap.size (.int .i64 0) (.int .i64 0) (.int .i64 0) (.slice none 0 0) (.slice none 0 0) (.slice none 0 0))
      generalize put6 w2 w.heap.size (.int .i64 0) (.int .i64 0) (.int .i64 0) (.slice none 0 0) (.slice none 0 0) (.slice none 0 0) = w6 at *
      clear d10 d11 d12 d13 d14 d15 d16
      obtain ⟨⟨d10, d11, d12⟩, ⟨d13, d14, d15⟩, d16⟩ := cells6 P5.out
      refine bodyPost_ret (v := .tuple #[.agg #[.int .i64 0, .int .i64 0, .int .i64 0, .slice none 0 0, .slice none 0 0, .slice none 0 0], .int .i64 r]) (by simp [results, Try.results30, go_sem, d10, d11, d12, d13, d14, d15]) rfl ?_
      have eq1 : q' = Req.zero := by rw [← hq'.out, if_neg (by rw [hrk'.out]; simp), hr.out, if_neg hr0'.out]
      have eE1 : E' = r := by rw [← hE'.out, if_neg (by rw [hrk'.out]; simp), hr.out]
      rw [eq1, eE1]
      exact RGot.zero_ rfl P4.out

/-- The document's Get, of any bytes. -/
theorem refGet_any (A : Option Addr) (n c : Nat) (ys : List Int) (w : World) (hr : Row .u8 w w.heap.size A ys) (hn : ys.length = n) (hc : n ≤ c) (hb : n ≤ 140737488355328) :
    Calls Try.prog 30 #[.slice A n c] w (RGot w (getQ ys) (getE ys)) := by
  subst hn
  rw [getQ]
  by_cases h0 : ys.length = 0
  · have e : getE ys = 1 := by rw [getE, if_pos h0]
    rw [e, if_neg (by omega), h0]
    exact refGet_none A c w
  · by_cases hm : mm (nth ys 0) ≤ 0
    · have e : getE ys = 20 := by rw [getE, if_neg h0, if_pos hm]
      rw [e, if_neg (by omega)]
      exact refGet_code A _ c ys w hr rfl hb (by omega) hm
    · by_cases hs : (ys.length : Int) = szOf ys
      · have e : getE ys = if rdOk ys = false then 4 else chkQ (rdQ ys) := by rw [getE, if_neg h0, if_neg hm, if_neg (by omega), if_neg (by omega)]
        have h := refGet_rest A _ c ys w hr rfl hc (by omega) (by omega) hs
        rw [← e] at h
        have e2 : (if getE ys = 0 then rdQ ys else Req.zero) = (if rdOk ys = false then Req.zero else if chkQ (rdQ ys) = 0 then rdQ ys else Req.zero) := by
          rw [e]
          cases rdOk ys <;> simp
        rw [e2]
        exact h
      · have e : getE ys = if (ys.length : Int) < szOf ys then 1 else 2 := by
          rw [getE, if_neg h0, if_neg hm]
          split
          · rfl
          · rw [if_pos (by omega)]
        rw [e, if_neg (by split <;> omega)]
        exact refGet_size A _ c ys w hr rfl hb (by omega) (by omega) hs
end Go.Proofs.Ytfdikjfbmfibjaa
