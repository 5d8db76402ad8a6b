/-
  Texts of the proof of ReplyKnown, joined.
-/
import Derived.Test.YtobhllcnljggiaaGreatJReplyKnownA
import Derived.Laws.CopyOwn
import Derived.StillTailTactics
import Derived.IntWalk
import Derived.Deep.RegionHeld3
import Derived.Deep.AppendLies
import Derived.Deep.RegionLaw
import Derived.Deep.RegionWith
namespace Go.Proofs.YtobhllcnljggiaaGreat
open Go.RowKit
set_option linter.unusedVariables false

theorem below_drew {B : Nat} {a w : World} (h : Below B a w) : Below B a w.drew := ⟨h.os, h.tape, h.output, h.size, h.block⟩
/-- The cells of a block that is known whole, and what a store makes of it. -/
theorem box_set {w : World} {g : Nat} {cs : Array Value} {t : TypeId} (h : w.heap[g]? = some (.cells cs t (0, 0))) (i : Nat) (v : Value) : (w.setCell ⟨g, i, none⟩ v).heap[g]? = some (.cells (cs.setIfInBounds i v) t (0, 0)) := by
  simp [World.setCell, Array.getElem?_modify, h]
theorem below_setCell {B : Nat} {a w : World} {g : Nat} (h : Below B a w) (hg : B ≤ g) (i : Nat) (v : Value) : Below B a (w.setCell ⟨g, i, none⟩ v) :=
  ⟨h.os, h.tape, h.output, by simpa [World.setCell] using h.size, fun k hk => (Below.heap_setCell w ⟨g, i, none⟩ v k (by simp; omega)).trans (h.block k hk)⟩


theorem heap_alloc_two (w : World) (o o' : Obj) : ((w.alloc o).alloc o').heap[w.heap.size + 1]? = some o' := by
  have h := heap_alloc_new (w.alloc o) o'
  rw [show (w.alloc o).heap.size = w.heap.size + 1 by simp] at h
  exact h

/-- Block g is known whole, and what lies below it is as it was. -/
def Bx (w0 : World) (g : Nat) (o : Obj) (w : World) : Prop := w.heap[g]? = some o ∧ Below g w0 w
theorem Bx.new (w : World) (o : Obj) : Bx w w.heap.size o (w.alloc o) := ⟨heap_alloc_new w o, bel_alloc w o⟩
theorem Bx.lt {w0 w : World} {g : Nat} {o : Obj} (h : Bx w0 g o w) : g < w.heap.size := block_lt h.1
theorem Bx.below {w0 w w' : World} {g : Nat} {o : Obj} (h : Bx w0 g o w) (hb : Below w.heap.size w w') : Bx w0 g o w' :=
  ⟨(hb.block g h.lt).trans h.1, h.2.trans (hb.mono (Nat.le_of_lt h.lt))⟩
theorem Bx.below2 {w0 w w' : World} {g B : Nat} {o : Obj} (h : Bx w0 g o w) (hb : Below B w w') (hB : g < B) : Bx w0 g o w' :=
  ⟨(hb.block g hB).trans h.1, h.2.trans (hb.mono (Nat.le_of_lt hB))⟩
theorem Bx.drewN {w0 w : World} {g : Nat} {o : Obj} (h : Bx w0 g o w) (n : Nat) : Bx w0 g o (w.drewN n) := h.below (bel_drewN w n)
theorem Bx.drew {w0 w : World} {g : Nat} {o : Obj} (h : Bx w0 g o w) : Bx w0 g o w.drew := h.below ⟨rfl, rfl, rfl, Nat.le_refl _, fun _ _ => rfl⟩
theorem Bx.alloc {w0 w : World} {g : Nat} {o : Obj} (h : Bx w0 g o w) (o' : Obj) : Bx w0 g o (w.alloc o') := h.below (bel_alloc w o')
end Go.Proofs.YtobhllcnljggiaaGreat
namespace Go.Proofs.YtobhllcnljggiaaGreat
open Go.RowKit
set_option linter.unusedVariables false

/-- A request: its numbers, its bits, its words, and its parts, three numbers each. -/
structure Req where
  c : Int
  a : Int
  n : Int
  on : List Bool
  set : List Int
  fl : List Int
def Req.zero : Req := ⟨0, 0, 0, [], [], []⟩

/-- The three lists of a request, where they lie and how long they are. -/
structure Asked (w : World) (B : Nat) (q : Req) (Ao As Ap : Option Addr) (lo ls lp : Nat) : Prop where
  on : L.Row () w B Ao q.on
  set : Row .u16 w B As q.set
  fl : Row .i64 w B Ap q.fl
  lo : q.on.length = lo
  ls : q.set.length = ls
  lp : q.fl.length = 3 * lp
theorem Asked.below {w w' : World} {B : Nat} {q : Req} {Ao As Ap : Option Addr} {lo ls lp : Nat} (h : Asked w B q Ao As Ap lo ls lp) (hb : Below B w w') : Asked w' B q Ao As Ap lo ls lp :=
  ⟨h.on.below hb, h.set.below hb, h.fl.below hb, h.lo, h.ls, h.lp⟩
theorem Asked.more {w : World} {B B' : Nat} {q : Req} {Ao As Ap : Option Addr} {lo ls lp : Nat} (h : Asked w B q Ao As Ap lo ls lp) (hB : B ≤ B') : Asked w B' q Ao As Ap lo ls lp :=
  ⟨h.on.more hB, h.set.more hB, h.fl.more hB, h.lo, h.ls, h.lp⟩
theorem Asked.up {w w' : World} {q : Req} {Ao As Ap : Option Addr} {lo ls lp : Nat} (h : Asked w w.heap.size q Ao As Ap lo ls lp) (hb : Below w.heap.size w w') : Asked w' w'.heap.size q Ao As Ap lo ls lp :=
  (h.below hb).more hb.size
theorem Asked.alloc {w : World} {B : Nat} {q : Req} {Ao As Ap : Option Addr} {lo ls lp : Nat} (h : Asked w B q Ao As Ap lo ls lp) (hB : B ≤ w.heap.size) (o : Obj) : Asked (w.alloc o) B q Ao As Ap lo ls lp :=
  h.below ((Below.refl _ _).alloc hB o)
theorem Asked.drewN {w : World} {B : Nat} {q : Req} {Ao As Ap : Option Addr} {lo ls lp : Nat} (h : Asked w B q Ao As Ap lo ls lp) (n : Nat) : Asked (w.drewN n) B q Ao As Ap lo ls lp := ⟨h.on, h.set, h.fl, h.lo, h.ls, h.lp⟩
theorem Asked.zero (w : World) (B : Nat) : Asked w B Req.zero none none none 0 0 0 := ⟨L.Row.nil _ _ _ _, Row.nil _ _ _ _, Row.nil _ _ _ _, rfl, rfl, rfl⟩
theorem heap_new_at (w : World) (o : Obj) {g : Nat} (h : w.heap.size = g) : (w.alloc o).heap[g]? = some o := by subst h; exact heap_alloc_new w o

theorem LongAsk_any (c a n : Int) (Ao As Ap : Option Addr) (lo co ls cs lp cp : Nat) (w : World) :
    Calls Tryz.prog 26 #[.agg #[.int .i64 c, .int .i64 a, .int .i64 n, .slice Ao lo co, .slice As ls cs, .slice Ap lp cp]] w fun e w' => e = .returned (.bool (decide (70000 < (lo : Int)) || decide (70000 < (ls : Int)) || decide (70000 < (lp : Int)))) ∧ Below w.heap.size w w' := by
  go_enter Tryz.func26, Tryz.ntmps26
  go_wp2
  all_goals (go_ret; refine ⟨?_, bel_alloc _ _⟩; first | rfl | simp [*])
theorem LongAsk_no (c a n : Int) (Ao As Ap : Option Addr) (lo co ls cs lp cp : Nat) (w : World) (h1 : lo ≤ 70000) (h2 : ls ≤ 70000) (h3 : lp ≤ 70000) :
    Calls Tryz.prog 26 #[.agg #[.int .i64 c, .int .i64 a, .int .i64 n, .slice Ao lo co, .slice As ls cs, .slice Ap lp cp]] w fun e w' => e = .returned (.bool false) ∧ Below w.heap.size w w' := by
  refine (LongAsk_any c a n Ao As Ap lo co ls cs lp cp w).mono fun e w' h => ⟨h.1.trans ?_, h.2⟩
  rw [decide_eq_false (by omega), decide_eq_false (by omega), decide_eq_false (by omega)]; rfl
theorem LongAsk_yes (c a n : Int) (Ao As Ap : Option Addr) (lo co ls cs lp cp : Nat) (w : World) (h : 70000 < lo ∨ 70000 < ls ∨ 70000 < lp) :
    Calls Tryz.prog 26 #[.agg #[.int .i64 c, .int .i64 a, .int .i64 n, .slice Ao lo co, .slice As ls cs, .slice Ap lp cp]] w fun e w' => e = .returned (.bool true) ∧ Below w.heap.size w w' := by
  refine (LongAsk_any c a n Ao As Ap lo co ls cs lp cp w).mono fun e w' h' => ⟨h'.1.trans ?_, h'.2⟩
  congr 2
  simp only [Bool.or_eq_true, decide_eq_true_eq]
  omega

/-- KeptAsk, where the request was lent. -/
theorem KeptAsk_yes (q : Req) (Ao As Ap : Option Addr) (lo ls lp co cs cp go gs gp : Nat) (w : World) (h : Asked w w.heap.size q Ao As Ap lo ls lp) (h1 : L.Bk w go (q.on ++ L.marks5)) (h2 : W.Bk w gs (q.set ++ W.marks5)) (h3 : w.heap[gp]? = some (.cells (blk .i64 (q.fl ++ marksP)) 47 (0, 0)))
    (b1 : lo ≤ 70000) (b2 : ls ≤ 70000) (b3 : lp ≤ 70000) :
    Calls Tryz.prog 22 #[.agg #[.int .i64 q.c, .int .i64 q.a, .int .i64 q.n, .slice (some ⟨go, 0, none⟩) lo (lo + 5), .slice (some ⟨gs, 0, none⟩) ls (ls + 5), .slice (some ⟨gp, 0, none⟩) lp (lp + 5)], .agg #[.int .i64 q.c, .int .i64 q.a, .int .i64 q.n, .slice Ao lo co, .slice As ls cs, .slice Ap lp cp]] w
      fun e w' => e = .returned (.bool true) ∧ Below w.heap.size w w' := by
  have bel := (bel_alloc w (.cells #[.int .i64 q.c, .int .i64 q.a, .int .i64 q.n, .slice (some ⟨go, 0, none⟩) lo (lo + 5), .slice (some ⟨gs, 0, none⟩) ls (ls + 5), .slice (some ⟨gp, 0, none⟩) lp (lp + 5)] 26)).alloc (by simp) (.cells #[.int .i64 q.c, .int .i64 q.a, .int .i64 q.n, .slice Ao lo co, .slice As ls cs, .slice Ap lp cp] 26)
  have H := Lib.hid (h.below bel)
  have k1 := h1.below bel
  have k2 := h2.below bel
  have k3 := Lib.hid ((bel.block gp (block_lt h3)).trans h3)
  clear h h1 h2 h3
  go_enter Tryz.func22, Tryz.ntmps22
  go_wp2_with fail
  refine (L.kept_bool _ _ _ _ q.on _ _ H.out.on H.out.lo (by omega) k1).mono ?_
  rintro e w' ⟨rfl, m1, rfl⟩
  go_wp2_with fail
  refine (W.kept_u16 _ _ _ _ q.set _ _ (H.out.set.drewN m1) H.out.ls (by omega) (k2.drewN m1)).mono ?_
  rintro e w' ⟨rfl, m2, rfl⟩
  rw [World.drewN_drewN]
  go_wp2_with fail
  refine (kept_part _ _ _ _ q.fl _ _ (H.out.fl.drewN (m1 + m2)) H.out.lp (by omega) k3.out).mono ?_
  rintro e w' ⟨rfl, m3, rfl⟩
  rw [World.drewN_drewN]
  go_wp2
  go_ret
  exact ⟨rfl, below_drewN bel _⟩

/-- LentAsk: three new blocks, with marks behind the lists. -/
theorem LentAsk_any (q : Req) (Ao As Ap : Option Addr) (lo ls lp co cs cp : Nat) (w : World) (h : Asked w w.heap.size q Ao As Ap lo ls lp) (b1 : lo ≤ 70000) (b2 : ls ≤ 70000) (b3 : lp ≤ 70000) :
    Calls Tryz.prog 17 #[.agg #[.int .i64 q.c, .int .i64 q.a, .int .i64 q.n, .slice Ao lo co, .slice As ls cs, .slice Ap lp cp]] w
      fun e w' => ∃ go gs gp : Nat, e = .returned (.agg #[.int .i64 q.c, .int .i64 q.a, .int .i64 q.n, .slice (some ⟨go, 0, none⟩) lo (lo + 5), .slice (some ⟨gs, 0, none⟩) ls (ls + 5), .slice (some ⟨gp, 0, none⟩) lp (lp + 5)])
        ∧ L.Bk w' go (q.on ++ L.marks5) ∧ W.Bk w' gs (q.set ++ W.marks5) ∧ w'.heap[gp]? = some (.cells (blk .i64 (q.fl ++ marksP)) 47 (0, 0)) ∧ Below w.heap.size w w' := by
  have H := Lib.hid h
  clear h
  go_enter Tryz.func17, Tryz.ntmps17
  go_wp2_with fail
  have bel1 := (bel_alloc w (.cells #[.int .i64 q.c, .int .i64 q.a, .int .i64 q.n, .slice Ao lo co, .slice As ls cs, .slice Ap lp cp] 26)).alloc (by simp) (.cells #[.int .i64 0, .int .i64 0, .int .i64 0, .slice none 0 0, .slice none 0 0, .slice none 0 0] 26)
  refine (L.lent_bool _ _ _ q.on _ ((H.out.on.below bel1).more bel1.size) H.out.lo (by omega)).mono ?_
  rintro e w' ⟨rfl, rfl⟩
  clear bel1
  go_wp2_with fail
  have bel2 := ((bel_alloc w (.cells #[.int .i64 q.c, .int .i64 q.a, .int .i64 q.n, .slice (some ⟨w.heap.size + 1 + 1, 0, none⟩) lo (lo + 5), .slice As ls cs, .slice Ap lp cp] 26)).alloc (by simp) (.cells #[.int .i64 0, .int .i64 0, .int .i64 0, .slice none 0 0, .slice none 0 0, .slice none 0 0] 26)).alloc (by simp; omega) (.cells (L.blk () (q.on ++ L.marks5)) 4)
  refine (W.lent_u16 _ _ _ q.set _ ((H.out.set.below bel2).more bel2.size) H.out.ls (by omega)).mono ?_
  rintro e w' ⟨rfl, rfl⟩
  clear bel2
  go_wp2_with fail
  have bel3 := (((bel_alloc w (.cells #[.int .i64 q.c, .int .i64 q.a, .int .i64 q.n, .slice (some ⟨w.heap.size + 1 + 1, 0, none⟩) lo (lo + 5), .slice (some ⟨w.heap.size + 1 + 1 + 1, 0, none⟩) ls (ls + 5), .slice Ap lp cp] 26)).alloc (by simp) (.cells #[.int .i64 0, .int .i64 0, .int .i64 0, .slice none 0 0, .slice none 0 0, .slice none 0 0] 26)).alloc (by simp; omega) (.cells (L.blk () (q.on ++ L.marks5)) 4)).alloc (by simp; omega) (.cells (blk .u16 (q.set ++ W.marks5)) 32)
  refine (lent_part _ _ _ q.fl _ ((H.out.fl.below bel3).more bel3.size) H.out.lp (by omega)).mono ?_
  rintro e w' ⟨rfl, rfl⟩
  clear bel3
  go_wp2
  (try simp only [Exit.inBlock, Exit.then])
  refine bodyPost_ret (v := .agg #[.int .i64 q.c, .int .i64 q.a, .int .i64 q.n, .slice (some ⟨w.heap.size + 1 + 1, 0, none⟩) lo (lo + 5), .slice (some ⟨w.heap.size + 1 + 1 + 1, 0, none⟩) ls (ls + 5), .slice (some ⟨w.heap.size + 1 + 1 + 1 + 1, 0, none⟩) lp (lp + 5)]) (by simp [results, Tryz.results17, go_sem]) rfl ?_
  refine ⟨_, _, _, rfl, ?_, ?_, ?_, ?_⟩
  · exact (heap_alloc_old _ _ (by simp)).trans ((heap_alloc_old _ _ (by simp)).trans (heap_new_at _ _ (by simp)))
  · exact (heap_alloc_old _ _ (by simp)).trans (heap_new_at _ _ (by simp))
  · exact heap_new_at _ _ (by simp)
  · exact ((((bel_alloc w _).alloc (by simp) _).alloc (by simp; omega) _).alloc (by simp; omega) _).alloc (by simp; omega) _

theorem Own.set {k : IntKind} {e : TypeId} {w : World} {base : Nat} {v : Value} {xs : List Int} (h : Own k e w base v xs) {g : Nat} (hg : g < base) (i : Nat) (u : Value) : Own k e (w.setCell ⟨g, i, none⟩ u) base v xs :=
  h.kept (grown_setCell (World.grownBy.refl _ _) i u) (.inr fun hv => by have := (h.block g hv).1; omega)
theorem L.Own.set {k : Unit} {e : TypeId} {w : World} {base : Nat} {v : Value} {xs : List Bool} (h : L.Own k e w base v xs) {g : Nat} (hg : g < base) (i : Nat) (u : Value) : L.Own k e (w.setCell ⟨g, i, none⟩ u) base v xs :=
  h.kept (grown_setCell (World.grownBy.refl _ _) i u) (.inr fun hv => by have := (h.block g hv).1; omega)
theorem POwn.set {e : TypeId} {w : World} {base : Nat} {v : Value} {fl : List Int} (h : POwn e w base v fl) {g : Nat} (hg : g < base) (i : Nat) (u : Value) : POwn e (w.setCell ⟨g, i, none⟩ u) base v fl := by
  rcases h with h | ⟨g', n, cap, r, h1, h2, h3, h4, h5⟩
  · exact .inl h
  · exact .inr ⟨g', n, cap, r, h1, h2, h3, (Below.heap_setCell w ⟨g, i, none⟩ u g' (by simp; omega)).trans h4, h5⟩

/-- Six cells of a block are written. -/
def put6 (w : World) (g : Nat) (v0 v1 v2 v3 v4 v5 : Value) : World :=
  (((((w.setCell ⟨g, 0, none⟩ v0).setCell ⟨g, 1, none⟩ v1).setCell ⟨g, 2, none⟩ v2).setCell ⟨g, 3, none⟩ v3).setCell ⟨g, 4, none⟩ v4).setCell ⟨g, 5, none⟩ v5
theorem put6_heap {w : World} {g : Nat} {t : TypeId} {u0 u1 u2 u3 u4 u5 : Value} (h : w.heap[g]? = some (.cells #[u0, u1, u2, u3, u4, u5] t (0, 0))) (v0 v1 v2 v3 v4 v5 : Value) :
    (put6 w g v0 v1 v2 v3 v4 v5).heap[g]? = some (.cells #[v0, v1, v2, v3, v4, v5] t (0, 0)) :=
  box_set (box_set (box_set (box_set (box_set (box_set h 0 v0) 1 v1) 2 v2) 3 v3) 4 v4) 5 v5
theorem Own.put6 {k : IntKind} {e : TypeId} {w : World} {base : Nat} {v : Value} {xs : List Int} (h : Own k e w base v xs) {g : Nat} (hg : g < base) (v0 v1 v2 v3 v4 v5 : Value) : Own k e (put6 w g v0 v1 v2 v3 v4 v5) base v xs :=
  (((((h.set hg 0 v0).set hg 1 v1).set hg 2 v2).set hg 3 v3).set hg 4 v4).set hg 5 v5
theorem L.Own.put6 {k : Unit} {e : TypeId} {w : World} {base : Nat} {v : Value} {xs : List Bool} (h : L.Own k e w base v xs) {g : Nat} (hg : g < base) (v0 v1 v2 v3 v4 v5 : Value) : L.Own k e (put6 w g v0 v1 v2 v3 v4 v5) base v xs :=
  (((((h.set hg 0 v0).set hg 1 v1).set hg 2 v2).set hg 3 v3).set hg 4 v4).set hg 5 v5
theorem POwn.put6 {e : TypeId} {w : World} {base : Nat} {v : Value} {fl : List Int} (h : POwn e w base v fl) {g : Nat} (hg : g < base) (v0 v1 v2 v3 v4 v5 : Value) : POwn e (put6 w g v0 v1 v2 v3 v4 v5) base v fl :=
  (((((h.set hg 0 v0).set hg 1 v1).set hg 2 v2).set hg 3 v3).set hg 4 v4).set hg 5 v5
theorem below_put6 {B : Nat} {a w : World} {g : Nat} (h : Below B a w) (hg : B ≤ g) (v0 v1 v2 v3 v4 v5 : Value) : Below B a (put6 w g v0 v1 v2 v3 v4 v5) :=
  below_setCell (below_setCell (below_setCell (below_setCell (below_setCell (below_setCell h hg 0 v0) hg 1 v1) hg 2 v2) hg 3 v3) hg 4 v4) hg 5 v5
/-- The six cells of a block that is known whole. -/
theorem cells6 {w : World} {g : Nat} {t : TypeId} {v0 v1 v2 v3 v4 v5 : Value} (h : w.heap[g]? = some (.cells #[v0, v1, v2, v3, v4, v5] t (0, 0))) :
    (w.cell? ⟨g, 0, none⟩ = some v0 ∧ w.cell? ⟨g, 1, none⟩ = some v1 ∧ w.cell? ⟨g, 2, none⟩ = some v2) ∧ (w.cell? ⟨g, 3, none⟩ = some v3 ∧ w.cell? ⟨g, 4, none⟩ = some v4 ∧ w.cell? ⟨g, 5, none⟩ = some v5) ∧ ∀ i, w.frozen? ⟨g, i, none⟩ = false :=
  ⟨⟨cell_of_row w g 0 _ _ _ h, cell_of_row w g 1 _ _ _ h, cell_of_row w g 2 _ _ _ h⟩, ⟨cell_of_row w g 3 _ _ _ h, cell_of_row w g 4 _ _ _ h, cell_of_row w g 5 _ _ _ h⟩, fun i => block_frozen w g i _ _ h⟩
end Go.Proofs.YtobhllcnljggiaaGreat
namespace Go.Proofs.YtobhllcnljggiaaGreat
open Go.RowKit
/-- The n lowest bytes of a number, the highest first. -/
def be : Nat → Nat → List Int
  | 0, _ => []
  | n + 1, v => ((v / 256 ^ n % 256 : Nat) : Int) :: be n v
theorem be_length (n v : Nat) : (be n v).length = n := by
  induction n with
  | zero => rfl
  | succ n ih => simp [be, ih]
theorem be_wf (n v : Nat) : ∀ x ∈ be n v, (Lit.int .u8 x).wf = true := by
  induction n with
  | zero => intro x hx; cases hx
  | succ n ih =>
    intro x hx
    simp only [be, List.mem_cons] at hx
    rcases hx with rfl | hx
    · exact wf_byte _ (Nat.mod_lt _ (by omega))
    · exact ih x hx
theorem be_nth (n v : Nat) (j : Nat) (h : j < n) : nth (be n v) j = ((v / 256 ^ (n - 1 - j) % 256 : Nat) : Int) := by
  induction n generalizing j with
  | zero => omega
  | succ n ih =>
    cases j with
    | zero => simp [be, nth]
    | succ j =>
      have := ih j (by omega)
      rw [show n + 1 - 1 - (j + 1) = n - 1 - j by omega, ← this]
      simp [be, nth]
/-- What bytes are as a number, the highest one first. -/
def bval (xs : List Int) : Nat := xs.foldl (fun v x => v * 256 + x.toNat) 0
theorem bval_snoc (xs : List Int) (x : Int) : bval (xs ++ [x]) = bval xs * 256 + x.toNat := by simp [bval]
theorem bval_lt (xs : List Int) (h : ∀ x ∈ xs, (Lit.int .u8 x).wf = true) : bval xs < 256 ^ xs.length := by
  have H : ∀ (xs : List Int) (a n : Nat), (∀ x ∈ xs, (Lit.int .u8 x).wf = true) → a < 256 ^ n → xs.foldl (fun v x => v * 256 + x.toNat) a < 256 ^ (n + xs.length) := by
    intro xs
    induction xs with
    | nil => intro a n _ ha; simpa using ha
    | cons x xs ih =>
      intro a n hx ha
      have h1 := wf_u8 (hx x (by simp))
      have h2 := ih (a * 256 + x.toNat) (n + 1) (fun y hy => hx y (by simp [hy])) (by rw [Nat.pow_succ]; omega)
      rw [show n + 1 + xs.length = n + (x :: xs).length by simp; omega] at h2
      exact h2
  have := H xs 0 0 h (by simp)
  simpa [bval] using this
theorem bval_be (n v : Nat) (h : v < 256 ^ n) : bval (be n v) = v := by
  have H : ∀ (n a : Nat), (be n v).foldl (fun v x => v * 256 + x.toNat) a = a * 256 ^ n + v % 256 ^ n := by
    intro n
    induction n with
    | zero => intro a; simp [be]; omega
    | succ n ih =>
      intro a
      rw [be, List.foldl_cons, ih, Nat.mod_pow_succ, Int.toNat_natCast, Nat.add_mul, Nat.pow_succ, Nat.mul_assoc a, Nat.mul_comm 256, Nat.mul_comm (256 ^ n) (v / 256 ^ n % 256)]
      omega
  rw [bval, H, Nat.mod_eq_of_lt h]; omega
theorem bval_pow_le {n : Nat} (h : n ≤ 7) {a : Nat} (ha : a < 256 ^ n) : a * 256 + 255 < 18446744073709551616 := by
  have : (256 : Nat) ^ n ≤ 256 ^ 7 := Nat.pow_le_pow_right (by omega) h
  have e : (256 : Nat) ^ 7 = 72057594037927936 := by decide
  omega
theorem pow_le_64 {n : Nat} (h : n ≤ 8) : (256 : Nat) ^ n ≤ 18446744073709551616 := by
  have : (256 : Nat) ^ n ≤ 256 ^ 8 := Nat.pow_le_pow_right (by omega) h
  have e : (256 : Nat) ^ 8 = 18446744073709551616 := by decide
  omega
theorem div_step (s j : Nat) : s / 256 ^ j / 256 = s / 256 ^ (j + 1) := by rw [Nat.div_div_eq_div_mul, Nat.pow_succ]
/-- One more byte is laid, from the last one on. -/
theorem lay_step (P R Q : List Int) (n i v : Nat) (hi : i < n) (hR : R.length = n) :
    (P ++ (R.take (n - i) ++ (be i v ++ Q))).set (P.length + (n - 1 - i)) ((v / 256 ^ i % 256 : Nat) : Int) = P ++ (R.take (n - (i + 1)) ++ (be (i + 1) v ++ Q)) := by
  have e : R.take (n - i) = R.take (n - (i + 1)) ++ [nth R (n - (i + 1))] := by
    have := take_step R (n - (i + 1)) (by omega)
    rwa [show n - (i + 1) + 1 = n - i by omega] at this
  have hl : (R.take (n - (i + 1))).length = n - (i + 1) := by simp; omega
  rw [e, List.set_append_right _ _ (by omega), List.append_assoc, List.set_append_right _ _ (by omega), hl, show P.length + (n - 1 - i) - P.length - (n - (i + 1)) = 0 by omega]
  rfl
theorem lay_len (P R Q : List Int) (n i v : Nat) (hi : i ≤ n) (hR : R.length = n) : (P ++ (R.take (n - i) ++ (be i v ++ Q))).length = P.length + n + Q.length := by
  simp [be_length]; omega
/-- Of two numbers the first byte that differs decides. -/
theorem be_first (n a b i : Nat) (hi : i < n) (he : ∀ j, j < i → nth (be n a) j = nth (be n b) j) :
    (nth (be n a) i < nth (be n b) i → a % 256 ^ n < b % 256 ^ n) ∧ (nth (be n b) i < nth (be n a) i → b % 256 ^ n < a % 256 ^ n) := by
  induction n generalizing i with
  | zero => omega
  | succ n ih =>
    rw [Nat.mod_pow_succ, Nat.mod_pow_succ]
    have ha := Nat.mod_lt a (show 256 ^ n > 0 by exact Nat.pow_pos (by omega))
    have hb := Nat.mod_lt b (show 256 ^ n > 0 by exact Nat.pow_pos (by omega))
    cases i with
    | zero =>
      have key : ∀ (p q r s : Nat), p < 256 ^ n → r < s → p + 256 ^ n * r < q + 256 ^ n * s := by
        intro p q r s hp hrs
        have h1 : 256 ^ n * (r + 1) ≤ 256 ^ n * s := Nat.mul_le_mul_left _ hrs
        rw [Nat.mul_add, Nat.mul_one] at h1
        omega
      simp only [be, nth, List.getD_cons_zero]
      exact ⟨fun h => key _ _ _ _ ha (by omega), fun h => key _ _ _ _ hb (by omega)⟩
    | succ i =>
      have h0 := he 0 (by omega)
      simp only [be, nth, List.getD_cons_zero] at h0
      have h0' : a / 256 ^ n % 256 = b / 256 ^ n % 256 := by omega
      have := ih i (by omega) (fun j hj => by have := he (j + 1) (by omega); simpa [be, nth] using this)
      simp only [be, nth, List.getD_cons_succ]
      rw [h0']
      exact ⟨fun h => by have := this.1 h; omega, fun h => by have := this.2 h; omega⟩
theorem be_same (n a b : Nat) (he : ∀ j, j < n → nth (be n a) j = nth (be n b) j) : a % 256 ^ n = b % 256 ^ n := by
  induction n with
  | zero => simp; omega
  | succ n ih =>
    have h0 := he 0 (by omega)
    simp only [be, nth, List.getD_cons_zero] at h0
    have h0' : a / 256 ^ n % 256 = b / 256 ^ n % 256 := by omega
    rw [Nat.mod_pow_succ, Nat.mod_pow_succ, h0', ih (fun j hj => by have := he (j + 1) (by omega); simpa [be, nth] using this)]
theorem or_low (a b : Nat) (h : b < 256) : a * 256 ||| b = a * 256 + b := by
  have := Nat.shiftLeft_add_eq_or_of_lt (i := 8) h a
  rw [Nat.shiftLeft_eq] at this
  exact this.symm
end Go.Proofs.YtobhllcnljggiaaGreat
namespace Go.Proofs.YtobhllcnljggiaaGreat
open Go.RowKit
set_option linter.unusedVariables false
theorem shl_or (a : Nat) (x : Int) (k : Nat) (h : k ≤ 7) (ha : a < 256 ^ k) (hx : 0 ≤ x ∧ x < 256) : bits .or .u64 (IntKind.u64.wrap ((a : Int) * 256)) x = ((a * 256 + x.toNat : Nat) : Int) := by
  have h1 := bval_pow_le h ha
  clear ha h
  obtain ⟨y, rfl⟩ := Int.eq_ofNat_of_zero_le hx.1
  have h3 : a * 256 < 18446744073709551616 := Nat.lt_of_le_of_lt (Nat.le_add_right _ _) h1
  have hy : y < 256 := by omega
  have h4 : y < 18446744073709551616 := Nat.lt_trans hy (by decide)
  have h2 : IntKind.u64.wrap ((a : Int) * 256) = ((a * 256 : Nat) : Int) := by
    have e : ((a : Int) * 256) = ((a * 256 : Nat) : Int) := rfl
    rw [IntKind.wrap_u64, e]
    exact Int.emod_eq_of_lt (Int.natCast_nonneg _) (Int.ofNat_lt.2 h3)
  have h5 := u64_or_nat (a * 256) y h3 h4
  rw [h2, h5, or_low a y hy, Int.toNat_natCast]
theorem number_any (A : Option Addr) (m c n : Nat) (xs : List Int) (w : World) (B : Nat) (hr : Row .u8 w B A xs) (hm : xs.length = m) (hn : n ≤ m) (h8 : n ≤ 8) (hb : m ≤ 140737488355328) :
    Calls Tryz.prog 105 #[.slice A m c, .int .i64 n] w fun e w' => e = .returned (.int .u64 (bval (xs.take n) : Nat)) ∧ w = w' := by
  go_enter Tryz.func105, Tryz.ntmps105
  go_wp2
  go_loop [5, 8] (fun t i => ∃ k : Nat, k ≤ n ∧ i = .int .i64 k ∧ t = .int .u64 (bval (xs.take k) : Nat)) (fun _ i => n - (intOf i).toNat)
  case atStart => exact ⟨0, by omega, rfl, rfl⟩
  case round =>
    obtain ⟨k, hk, rfl, rfl⟩ := hrel
    by_cases hlt : k < n
    · obtain ⟨b, o, rfl, hb1, hc1⟩ := hr.at_ (i := k) (by omega)
      have hwf := wf_u8 (hr.wf_at (i := k) (by omega))
      have hl := bval_lt (xs.take k) (fun x hx => hr.1 x (List.mem_of_mem_take hx))
      rw [show (xs.take k).length = k by simp; omega] at hl
      have HO := Lib.hid (shl_or (bval (xs.take k)) (nth xs k) k (by omega) hl hwf)
      have HT := Lib.hid (take_step xs k (by omega))
      have HS := Lib.hid (bval_snoc (xs.take k) (nth xs k))
      go_wp2
      go_round
      case rel => exact ⟨k + 1, by omega, by go_num, by rw [HO.out, HT.out, HS.out]⟩
      case measure => simp [intOf]; omega
    · obtain rfl : k = n := by omega
      go_wp2
      go_ret
      exact ⟨rfl, rfl⟩

set_option maxHeartbeats 1000000 in
theorem lay_any (g o m c v n : Nat) (P R Q : List Int) (w : World) (hg : w.heap[g]? = some (.cells (blk .u8 (P ++ (R ++ Q))) 5 (0, 0))) (hP : P.length = o) (hR : R.length = n) (hn : n ≤ m) (hm : m ≤ 140737488355328) (h8 : n ≤ 8) (hv : v < 18446744073709551616) :
    Calls Tryz.prog 99 #[.slice (some ⟨g, o, none⟩) m c, .int .u64 v, .int .i64 n] w fun e w' => e = .returned (.tuple #[]) ∧ w'.heap[g]? = some (.cells (blk .u8 (P ++ (be n v ++ Q))) 5 (0, 0)) ∧ w.grownBy w' (some g) ∧ w'.heap.size = w.heap.size := by
  have hP' := Lib.hid hP
  have hR' := Lib.hid hR
  clear hP hR
  go_enter Tryz.func99, Tryz.ntmps99
  go_wp2
  go_loopw [1, 8] (fun t i wr => ∃ k : Nat, k ≤ n ∧ i = .int .i64 k ∧ t = .int .u64 (v / 256 ^ k : Nat) ∧ Hid (wr.heap[g]? = some (.cells (blk .u8 (P ++ (R.take (n - k) ++ (be k v ++ Q)))) 5 (0, 0))) ∧ w.grownBy wr (some g) ∧ Hid (wr.heap.size = w.heap.size)) (fun _ i _ => n - (intOf i).toNat)
  case atStart => exact ⟨0, by omega, rfl, by simp, Lib.hid (by rw [Nat.sub_zero, List.take_of_length_le (by rw [hR'.out]; exact Nat.le_refl _)]; exact hg), World.grownBy.refl _ _, Lib.hid rfl⟩
  case round =>
    obtain ⟨k, hk, rfl, rfl, hb, hgr, hsz⟩ := hrel
    by_cases hlt : k < n
    · obtain ⟨j, rfl⟩ : ∃ j, n = k + 1 + j := ⟨n - (k + 1), by omega⟩
      have hc1 : wr.cell? ⟨g, o + j, none⟩ = some (.int .u8 (nth (P ++ (R.take (k + 1 + j - k) ++ (be k v ++ Q))) (o + j))) := by
        rw [cell_of_row wr g (o + j) _ _ _ hb.out, blk_get _ _ _ (by rw [lay_len _ _ _ _ _ _ (by omega) hR'.out, hP'.out]; omega)]
      have hfz := block_frozen wr g (o + j) _ _ hb.out
      have hv2 : v / 256 ^ k < 18446744073709551616 := Nat.lt_of_le_of_lt (Nat.div_le_self _ _) hv
      have hq := Lib.hid (div_step v k)
      have hnew := Lib.hid (block_setCell wr g (o + j) .u8 5 _ ((v / 256 ^ k % 256 : Nat) : Int) hb.out)
      have HL := lay_step P R Q (k + 1 + j) k v (by omega) hR'.out
      rw [hP'.out, show k + 1 + j - 1 - k = j by omega] at HL
      rw [HL] at hnew
      clear HL
      have hgr2 := grown_setCell hgr (o + j) (.int .u8 ((v / 256 ^ k % 256 : Nat) : Int))
      have hsz2 : Hid ((wr.setCell ⟨g, o + j, none⟩ (.int .u8 ((v / 256 ^ k % 256 : Nat) : Int))).heap.size = w.heap.size) := by
        show _ = _
        rw [← hsz.out]; simp [World.setCell]
      generalize v / 256 ^ k = q at *
      have hwr := wrap_u8_nat q
      rw [show ((q % 256 : Nat) : Int) = (q : Int) % 256 by omega] at hnew hgr2 hsz2 hwr
      go_wp2
      go_roundw
      case rel => exact ⟨k + 1, by omega, by go_num, by rw [← hq.out]; go_num, hnew, hgr2, hsz2⟩
      case measure => simp [intOf]; omega
    · obtain rfl : k = n := by omega
      have hf := hb.out
      rw [Nat.sub_self, List.take_zero, List.nil_append] at hf
      have HF := Lib.hid hf
      clear hf
      go_wp2
      go_end0
      exact ⟨rfl, HF.out, hgr, hsz.out⟩
end Go.Proofs.YtobhllcnljggiaaGreat
namespace Go.Proofs.YtobhllcnljggiaaGreat
open Go.RowKit
set_option linter.unusedVariables false

/-- A call returns a pair: no list, and an error. -/
def Errs (n : Int) (w : World) (e : Ending) (w' : World) : Prop := e = .returned (.tuple #[.slice none 0 0, .int .i64 n]) ∧ w = w'
/-- A call returns a pair: a list that fills the first new block, and no error. -/
def Opens (w : World) (l : List Int) (m : Nat) (e : Ending) (w' : World) : Prop :=
  e = .returned (.tuple #[.slice (some ⟨w.heap.size, 0, none⟩) m m, .int .i64 0]) ∧ w'.heap[w.heap.size]? = some (.cells (blk .u8 l) 5 (0, 0)) ∧ Below w.heap.size w w'
/-- A call returns a pair: a list of its own, and no error. -/
def Makes2 (w : World) (xs : List Int) (e : Ending) (w' : World) : Prop := ∃ v, e = .returned (.tuple #[v, .int .i64 0]) ∧ Own .u8 5 w' w.heap.size v xs ∧ Below w.heap.size w w'

theorem info_size : (Tryz.prog.info? 5).map (·.size) = some 1 := by kernel_rfl
theorem setRow_alloc (w : World) (cur cs : Array Value) (t : TypeId) : (w.alloc (.cells cur t)).setRow w.heap.size cs = w.alloc (.cells cs t) := by
  have h : ((w.alloc (.cells cur t)).setRow w.heap.size cs).heap = (w.alloc (.cells cs t)).heap := by
    apply Array.ext_getElem?
    intro i
    by_cases hi : i = w.heap.size
    · subst hi
      rw [setRow_heap _ _ _ _ _ _ (heap_alloc_new w (.cells cur t)), heap_alloc_new]
    · rw [setRow_other _ _ _ _ hi]
      by_cases h2 : i < w.heap.size
      · rw [Below.heap_alloc w _ i h2, Below.heap_alloc w _ i h2]
      · rw [Array.getElem?_eq_none (by simp; omega), Array.getElem?_eq_none (by simp; omega)]
  exact congrArg (fun H => ({ w with heap := H } : World)) h
/-- 'copy' into a new block, as long a row as it holds. -/
theorem copy_new {P : Program} (k : IntKind) (w : World) (dT ty e : TypeId) (A : Option Addr) (m c q : Nat) (Z xs : List Int) (hu : P.underlying dT = some (.slice e)) (hs : (P.info? e).map (·.size) = some 1)
    (hr : Row k w w.heap.size A xs) (hm : xs.length = m) (hq : Z.length = q) (hz : m ≤ q) (t : TypeId) :
    (Builtin.copy_ #[dT, dT] ty #[.slice (some ⟨w.heap.size, 0, none⟩) q q, .slice A m c]).run P (w.alloc (.cells (blk k Z) t)) = .ok (.int .i64 m) (w.alloc (.cells (blk k (xs ++ Z.drop m)) t)) := by
  rcases Nat.eq_zero_or_pos m with h0 | h0
  · subst h0
    have : xs = [] := List.eq_nil_of_length_eq_zero hm
    subst this
    have := run_copy_none (P := P) (w.alloc (.cells (blk k Z) t)) dT dT ty e (some ⟨w.heap.size, 0, none⟩) A q q 0 c hu hs (Nat.zero_min _)
    simpa [goInt] using this
  · obtain ⟨b, o, rfl, _, hc⟩ := (hr.alloc (Nat.le_refl _) (.cells (blk k Z) t)).2 (by omega)
    have := run_copy_row (P := P) (w.alloc (.cells (blk k Z) t)) dT dT ty e w.heap.size 0 q q ⟨b, o, none⟩ m c (blk k Z) t (xs.map (Value.int k)) hu hs (heap_alloc_new w _)
      (by rw [List.length_map, hm]; exact (Nat.min_eq_left hz).symm) (fun j v hj => by
        rw [List.getElem?_map] at hj
        by_cases hlt : j < xs.length
        · rw [List.getElem?_eq_getElem hlt] at hj
          rw [Go.WideShapes.add_plain, hc j hlt, nth_eq xs j hlt]
          exact hj
        · rw [List.getElem?_eq_none (by omega)] at hj
          cases hj) (by rw [List.length_map, blk_size]; omega) (ints_oneCell _ _)
    rw [this, setRow_alloc]
    simp [goInt, hm, blk, List.map_drop]

end Go.Proofs.YtobhllcnljggiaaGreat
namespace Go.Proofs.YtobhllcnljggiaaGreat
open Go.RowKit
set_option linter.unusedVariables false
/-- A call returns a pair of numbers, and nothing has turned. -/
def Tells (v e : Int) (w : World) (r : Ending) (w' : World) : Prop := r = .returned (.tuple #[.int .u64 v, .int .i64 e]) ∧ w = w'

end Go.Proofs.YtobhllcnljggiaaGreat
namespace Go.Proofs.YtobhllcnljggiaaGreat
open Go.RowKit

/-- Words as bytes, two a word, the higher first. -/
def wbytes : List Int → List Int
  | [] => []
  | x :: xs => be 2 x.toNat ++ wbytes xs
theorem wbytes_append (a b : List Int) : wbytes (a ++ b) = wbytes a ++ wbytes b := by
  induction a with
  | nil => rfl
  | cons x a ih => simp [wbytes, ih]
theorem wbytes_snoc (a : List Int) (x : Int) : wbytes (a ++ [x]) = wbytes a ++ be 2 x.toNat := by simp [wbytes_append, wbytes]
theorem wbytes_length (a : List Int) : (wbytes a).length = 2 * a.length := by
  induction a with
  | nil => rfl
  | cons x a ih => simp [wbytes, ih, be_length]; omega
theorem wbytes_wf (a : List Int) : ∀ x ∈ wbytes a, (Lit.int .u8 x).wf = true := by
  induction a with
  | nil => intro x hx; cases hx
  | cons y a ih => exact wf_append (be_wf _ _) ih
/-- The word that stands at a place. -/
def word (ys : List Int) (i : Nat) : Int := nth ys (2 * i) * 256 + nth ys (2 * i + 1)
/-- Bytes as words. -/
def wwords (ys : List Int) : List Int := (List.range (ys.length / 2)).map (word ys)
theorem wwords_length (ys : List Int) : (wwords ys).length = ys.length / 2 := by simp [wwords]
theorem wwords_nth (ys : List Int) (i : Nat) (h : i < ys.length / 2) : nth (wwords ys) i = word ys i := by
  rw [nth_eq _ _ (by rw [wwords_length]; exact h)]; simp [wwords]
theorem wf_word16 {n : Int} (h : 0 ≤ n ∧ n < 65536) : (Lit.int .u16 n).wf = true := by
  simp [Lit.wf, IntKind.min, IntKind.max, IntKind.signed, IntKind.bits]; omega
theorem word_bound (ys : List Int) (hw : ∀ x ∈ ys, (Lit.int .u8 x).wf = true) (i : Nat) (h : i < ys.length / 2) : (0 ≤ nth ys (2 * i) ∧ nth ys (2 * i) < 256) ∧ (0 ≤ nth ys (2 * i + 1) ∧ nth ys (2 * i + 1) < 256) :=
  ⟨wf_u8 (hw _ (nth_mem _ _ (by omega))), wf_u8 (hw _ (nth_mem _ _ (by omega)))⟩
theorem wwords_wf (ys : List Int) (hw : ∀ x ∈ ys, (Lit.int .u8 x).wf = true) : ∀ x ∈ wwords ys, (Lit.int .u16 x).wf = true := by
  intro x hx
  simp only [wwords, List.mem_map, List.mem_range] at hx
  obtain ⟨i, hi, rfl⟩ := hx
  have := word_bound ys hw i hi
  exact wf_word16 (by unfold word; omega)
theorem bval_two (ys : List Int) (i : Nat) (h : i + 2 ≤ ys.length) : bval ((ys.drop i).take 2) = (nth ys i).toNat * 256 + (nth ys (i + 1)).toNat := by
  have e : (ys.drop i).take 2 = [nth ys i, nth ys (i + 1)] := by
    rw [List.drop_eq_getElem_cons (by omega), List.drop_eq_getElem_cons (by omega), nth_eq ys i (by omega), nth_eq ys (i + 1) (by omega)]
    rfl
  rw [e]
  simp [bval]
theorem bval_word (ys : List Int) (hw : ∀ x ∈ ys, (Lit.int .u8 x).wf = true) (i : Nat) (h : i < ys.length / 2) : ((bval ((ys.drop (2 * i)).take 2) : Nat) : Int) = word ys i := by
  have := word_bound ys hw i h
  rw [bval_two ys (2 * i) (by omega), word]
  omega
theorem be_two (v : Nat) : be 2 v = [((v / 256 % 256 : Nat) : Int), ((v % 256 : Nat) : Int)] := by simp [be]
theorem wwords_take (ys : List Int) (k : Nat) (h : k < ys.length / 2) : (wwords ys).take (k + 1) = (wwords ys).take k ++ [word ys k] := by
  rw [take_step _ _ (by rw [wwords_length]; exact h), wwords_nth ys k h]
theorem word_cons (a b : Int) (ys : List Int) (i : Nat) : word (a :: b :: ys) (i + 1) = word ys i := by
  simp only [word, nth, List.getD_eq_getElem?_getD, show 2 * (i + 1) = 2 * i + 1 + 1 by omega, List.getElem?_cons_succ]
theorem wwords_cons (a b : Int) (ys : List Int) : wwords (a :: b :: ys) = (a * 256 + b) :: wwords ys := by
  unfold wwords
  rw [show (a :: b :: ys).length / 2 = ys.length / 2 + 1 by simp; omega, List.range_succ_eq_map, List.map_cons, List.map_map]
  congr 1
theorem wwords_wbytes (xs : List Int) (h : ∀ x ∈ xs, (Lit.int .u16 x).wf = true) : wwords (wbytes xs) = xs := by
  induction xs with
  | nil => rfl
  | cons x xs ih =>
    have hx := wf_u16 (h x (by simp))
    rw [wbytes, be_two, List.cons_append, List.cons_append, List.nil_append, wwords_cons, ih (fun y hy => h y (by simp [hy]))]
    congr 1
    omega
theorem wbytes_wwords : ∀ (ys : List Int), (∀ x ∈ ys, (Lit.int .u8 x).wf = true) → ys.length % 2 = 0 → wbytes (wwords ys) = ys
  | [], _, _ => rfl
  | [a], _, h => by simp at h
  | a :: b :: ys, hw, h => by
    have ha := wf_u8 (hw a (by simp))
    have hb := wf_u8 (hw b (by simp))
    rw [wwords_cons, wbytes, be_two, wbytes_wwords ys (fun x hx => hw x (by simp [hx])) (by simp at h; omega)]
    have e1 : (((a * 256 + b).toNat / 256 % 256 : Nat) : Int) = a := by omega
    have e2 : (((a * 256 + b).toNat % 256 : Nat) : Int) = b := by omega
    rw [e1, e2]
    rfl
end Go.Proofs.YtobhllcnljggiaaGreat
namespace Go.Proofs.YtobhllcnljggiaaGreat
open Go.RowKit
set_option linter.unusedVariables false

theorem zeros_two (k m : Nat) : (List.replicate (2 * (m + 1)) (0 : Int)) = List.replicate 2 0 ++ List.replicate (2 * m) 0 := by
  rw [List.replicate_append_replicate]; congr 1; omega
set_option maxHeartbeats 1000000 in
theorem Bytes_any (A : Option Addr) (n c : Nat) (xs : List Int) (w : World) (hr : Row .u16 w w.heap.size A xs) (hn : xs.length = n) (hb : n ≤ 1000000) :
    Calls Tryz.prog 81 #[.slice A n c] w (Lays .u8 5 w (wbytes xs) (2 * n)) := by
  have hn' := Lib.hid hn
  clear hn
  have hmk := make_u8 (2 * n) (by omega)
  rw [show ((2 * n : Nat) : Int) = 2 * (n : Int) by omega] at hmk
  have hg0 := Lib.hid (heap_alloc_new w (.cells (blk .u8 (List.replicate (2 * n) 0)) 5))
  have bel0 : Below w.heap.size w (w.alloc (.cells (blk .u8 (List.replicate (2 * n) 0)) 5)) := (Below.refl _ _).alloc (Nat.le_refl _) _
  have hs0 : w.heap.size < (w.alloc (.cells (blk .u8 (List.replicate (2 * n) 0)) 5)).heap.size := by simp
  go_enter Tryz.func81, Tryz.ntmps81
  go_wp2
  go_loopw [4, 5, 12] (fun _ _ i wr => ∃ k : Nat, k ≤ n ∧ i = .int .i64 k ∧ Hid (wr.heap[w.heap.size]? = some (.cells (blk .u8 (wbytes (xs.take k) ++ List.replicate (2 * (n - k)) 0)) 5 (0, 0))) ∧ Below w.heap.size w wr ∧ w.heap.size < wr.heap.size) (fun _ _ i _ => n - (intOf i).toNat)
  case atStart => exact ⟨0, by omega, rfl, by simpa [wbytes] using hg0, bel0, hs0⟩
  case round =>
    clear bel0 hs0 hg0 hmk
    obtain ⟨k, hk, rfl, hg, bel, hs⟩ := hrel
    by_cases hlt : k < n
    · obtain ⟨b, o, rfl, hb1, hc1⟩ := (hr.below bel).at_ (i := k) (by have := hn'.out; omega)
      have hwf := wf_u16 (hr.wf_at (i := k) (by have := hn'.out; omega))
      have HT := Lib.hid (take_step xs k (by have := hn'.out; omega))
      have hl : Hid ((wbytes (xs.take k)).length = 2 * k) := Lib.hid (by have := hn'.out; rw [wbytes_length]; simp; omega)
      obtain ⟨j, hj⟩ : ∃ j, Hid (n = k + 1 + j) := ⟨n - (k + 1), Lib.hid (by omega)⟩
      have hz := zeros_two k j
      rw [show 2 * (j + 1) = 2 * (n - k) by have := hj.out; omega, show 2 * j = 2 * (n - (k + 1)) by have := hj.out; omega] at hz
      have hg1 : Hid (wr.heap[w.heap.size]? = some (.cells (blk .u8 (wbytes (xs.take k) ++ (List.replicate 2 0 ++ List.replicate (2 * (n - (k + 1))) 0))) 5 (0, 0))) := by rw [hz] at hg; exact hg
      clear hz hg
      obtain ⟨x, hx⟩ := Int.eq_ofNat_of_zero_le hwf.1
      have HS := Lib.hid (wbytes_snoc (xs.take k) (nth xs k))
      have HX := Lib.hid hx
      rw [hx] at hc1 hwf
      clear hx
      go_wp2_with (go_at_call 99; refine (lay_any w.heap.size (2 * k) _ _ x 2 (wbytes (xs.take k)) (List.replicate 2 0) (List.replicate (2 * (n - (k + 1))) 0) _ hg1.out hl.out rfl (by omega) (by omega) (by omega) (by omega)).mono ?_; rintro e w' ⟨rfl, hg2, hgr, hsz⟩)
      have bel2 : Below w.heap.size w w' := bel.grown hgr (Nat.le_of_lt hs) (fun k e => by injection e; omega)
      have hs2 : w.heap.size < w'.heap.size := by omega
      have hg3 : Hid (w'.heap[w.heap.size]? = some (.cells (blk .u8 (wbytes (xs.take (k + 1)) ++ List.replicate (2 * (n - (k + 1))) 0)) 5 (0, 0))) := Lib.hid (by
        rw [HT.out, HS.out, HX.out, Int.toNat_natCast, List.append_assoc]; exact hg2)
      clear hg2 hgr hsz hg1 bel hc1
      go_wp2
      go_roundw
      case rel => exact ⟨k + 1, by omega, by go_num, hg3, bel2, hs2⟩
      case measure => simp [intOf]; omega
    · obtain rfl : k = n := by omega
      have hx : xs.take k = xs := List.take_of_length_le (by have := hn'.out; omega)
      rw [hx, Nat.sub_self, Nat.mul_zero, List.replicate_zero, List.append_nil] at hg
      clear hx
      go_wp2
      go_ret
      exact ⟨rfl, hg.out, bel⟩

/-- A call returns a pair: no list, and an error. -/
theorem Words_odd (A : Option Addr) (n c : Nat) (w : World) (hb : n ≤ 1000000) (h : n % 2 = 1) :
    Calls Tryz.prog 95 #[.slice A n c] w (Errs 22 w) := by
  have h1 : ((n : Int) % 2 != 0) = true := by simp; omega
  have h2 : ((n : Int) % 2 == 0) = false := beq_false_of_ne (by omega)
  clear h
  go_enter Tryz.func95, Tryz.ntmps95
  go_wp2
  go_ret2
  exact ⟨rfl, rfl⟩
theorem wrap_word (ys : List Int) (hw : ∀ x ∈ ys, (Lit.int .u8 x).wf = true) (k : Nat) (h : k < ys.length / 2) : IntKind.u16.wrap (word ys k) = word ys k := by
  have := word_bound ys hw k h
  rw [IntKind.wrap_u16, word]; omega
set_option maxHeartbeats 1000000 in
theorem Words_ok (A : Option Addr) (n c m : Nat) (ys : List Int) (w : World) (hr : Row .u8 w w.heap.size A ys) (hn : ys.length = n) (hc : n ≤ c) (hb : n ≤ 1000000) (h : n = 2 * m) :
    Calls Tryz.prog 95 #[.slice A n c] w fun e w' => e = .returned (.tuple #[.slice (some ⟨w.heap.size, 0, none⟩) m m, .int .i64 0]) ∧ w' = w.alloc (.cells (blk .u16 (wwords ys)) 32) := by
  have hn' := Lib.hid hn
  have h1 : ((n : Int) % 2 != 0) = false := by simp; omega
  have h2 : ((n : Int) % 2 == 0) = true := by simp; omega
  have h3 : (n : Int) / 2 = (m : Int) := by omega
  have hy2 : Hid (ys.length / 2 = m) := Lib.hid (by omega)
  have hm' := Lib.hid h
  have hm2 : m ≤ 500000 := by omega
  clear hn h
  have hmk := W.make_u16 m (by omega)
  go_enter Tryz.func95, Tryz.ntmps95
  go_wp2
  clear hmk
  go_loopw [5, 16] (fun _ i wr => ∃ k : Nat, k ≤ m ∧ i = .int .i64 k ∧ wr = w.alloc (.cells (blk .u16 ((wwords ys).take k ++ List.replicate (m - k) 0)) 32)) (fun _ i _ => m - (intOf i).toNat)
  case atStart => exact ⟨0, by omega, rfl, by simp⟩
  case round =>
    obtain ⟨k, hk, rfl, rfl⟩ := hrel
    by_cases hlt : k < m
    · obtain ⟨b, o, rfl, hb1, hc1⟩ := hr.at_ (i := 2 * k) (by have := hn'.out; have := hm'.out; omega)
      have hrd := (hr.drop (2 * k)).alloc (Nat.le_refl _) (.cells (blk .u16 ((wwords ys).take k ++ List.replicate (m - k) 0)) 32)
      have hl : Hid ((ys.drop (2 * k)).length = n - 2 * k) := Lib.hid (by rw [List.length_drop, hn'.out])
      have hwr := Lib.hid (wrap_word ys hr.1 k (by have := hy2.out; omega))
      have hbv := Lib.hid (bval_word ys hr.1 k (by have := hy2.out; omega))
      have hlen : ((wwords ys).take k).length = k := by rw [List.length_take, wwords_length]; have := hy2.out; omega
      have hc2 := fill_cell .u16 ((wwords ys).take k) (m - k) k 0 hlen (by omega)
      have HS := Lib.hid (set_step ((wwords ys).take k) (m - (k + 1)) k 0 (word ys k) hlen)
      have HT := Lib.hid (wwords_take ys k (by have := hy2.out; omega))
      have hk2 : 2 * k < n := by have := hm'.out; omega
      clear hc1 hr hlen
      go_wp2_with (go_at_call 105; refine (number_any _ _ _ 2 (ys.drop (2 * k)) _ _ hrd hl.out (by omega) (by omega) (by omega)).mono ?_; rintro e w' ⟨rfl, rfl⟩; rw [hbv.out])
      go_roundw
      case rel => exact ⟨k + 1, by omega, by go_num, by rw [hwr.out, blk_set, show m - k = (m - (k + 1)) + 1 by omega, HS.out, HT.out]⟩
      case measure => simp [intOf]; omega
    · obtain rfl : k = m := by omega
      have hx : Hid ((wwords ys).take k = wwords ys) := Lib.hid (List.take_of_length_le (by rw [wwords_length]; have := hy2.out; omega))
      go_wp2
      go_ret2
      exact ⟨rfl, by rw [hx.out]⟩

end Go.Proofs.YtobhllcnljggiaaGreat
namespace Go.Proofs.YtobhllcnljggiaaGreat
open Go.RowKit
set_option linter.unusedVariables false

def wordsL (ys : List Int) : List Int := if ys.length % 2 = 1 then [] else wwords ys
def wordsE (ys : List Int) : Int := if ys.length % 2 = 1 then 22 else 0
theorem wordsL_wf {ys : List Int} (h : ∀ x ∈ ys, (Lit.int .u8 x).wf = true) : ∀ x ∈ wordsL ys, (Lit.int .u16 x).wf = true := by
  unfold wordsL
  split
  · simp
  · exact wwords_wf ys h
theorem wordsL_le (ys : List Int) : (wordsL ys).length ≤ ys.length := by
  unfold wordsL
  split
  · simp
  · rw [wwords_length]; omega
theorem Words_any (A : Option Addr) (n c : Nat) (ys : List Int) (w : World) (hr : Row .u8 w w.heap.size A ys) (hn : ys.length = n) (hc : n ≤ c) (hb : n ≤ 1000000) :
    Calls Tryz.prog 95 #[.slice A n c] w (W.Gives w (wordsL ys) (wordsE ys)) := by
  by_cases h : n % 2 = 1
  · refine (Words_odd A n c w hb h).mono fun e w' ⟨he, hw⟩ => ?_
    subst hw
    rw [wordsL, wordsE, if_pos (by rw [hn]; exact h), if_pos (by rw [hn]; exact h)]
    exact ⟨_, _, he, rfl, .inl ⟨rfl, rfl⟩, Below.refl _ _⟩
  · obtain ⟨m, hm⟩ : ∃ m, n = 2 * m := ⟨n / 2, by omega⟩
    refine (Words_ok A n c m ys w hr hn hc hb hm).mono fun e w' ⟨he, hw⟩ => ?_
    subst hw
    rw [wordsL, wordsE, if_neg (by rw [hn]; exact h), if_neg (by rw [hn]; exact h)]
    exact ⟨_, _, he, by rw [wwords_length]; omega, .inr ⟨rfl, by rw [List.append_nil]; exact heap_alloc_new w _⟩, (Below.refl _ _).alloc (Nat.le_refl _) _⟩
theorem Lays.li {w w' : World} {l : List Int} {m : Nat} {e : Ending} (h : Lays .u8 5 w l m e w') : e = .returned (.slice (some ⟨w.heap.size, 0, none⟩) m m) ∧ Li w' (some ⟨w.heap.size, 0, none⟩) m w.heap.size l [] ∧ Below w.heap.size w w' :=
  ⟨h.1, .inr ⟨rfl, by rw [List.append_nil]; exact h.2.1⟩, h.2.2⟩
end Go.Proofs.YtobhllcnljggiaaGreat
namespace Go.Proofs.YtobhllcnljggiaaGreat
open Go.RowKit

/-- What the first t bits of byte j count. -/
def bsum (bs : List Bool) (j : Nat) : Nat → Nat
  | 0 => 0
  | t + 1 => bsum bs j t + (if L.nth bs (8 * j + t) then 2 ^ t else 0)
theorem bsum_lt (bs : List Bool) (j t : Nat) : bsum bs j t < 2 ^ t := by
  induction t with
  | zero => simp [bsum]
  | succ t ih =>
    rw [bsum, Nat.pow_succ]
    split <;> omega
theorem bsum_same (a b : List Bool) (j t : Nat) (h : ∀ s, s < t → L.nth a (8 * j + s) = L.nth b (8 * j + s)) : bsum a j t = bsum b j t := by
  induction t with
  | zero => rfl
  | succ t ih => rw [bsum, bsum, ih (fun s hs => h s (by omega)), h t (by omega)]
/-- One bit more. -/
theorem bsum_more (a b : List Bool) (j s t : Nat) (hs : s < t) (ha : L.nth a (8 * j + s) = false) (h : ∀ r, r ≠ s → L.nth a (8 * j + r) = L.nth b (8 * j + r)) :
    bsum b j t = bsum a j t + (if L.nth b (8 * j + s) then 2 ^ s else 0) := by
  induction t with
  | zero => omega
  | succ t ih =>
    rw [bsum, bsum]
    by_cases e : s = t
    · subst e
      rw [ha, bsum_same a b j s (fun r hr => h r (by omega))]
      simp
    · rw [ih (by omega), h t (fun e' => e e'.symm)]
      omega
theorem bsum_stop (a : List Bool) (j s t : Nat) (hs : s ≤ t) (h : ∀ r, s ≤ r → L.nth a (8 * j + r) = false) : bsum a j t = bsum a j s := by
  induction t with
  | zero =>
    have : s = 0 := by omega
    rw [this]
  | succ t ih =>
    by_cases e : s = t + 1
    · rw [e]
    · rw [bsum, h t (by omega), ih (by omega)]; simp
/-- m bytes of bits. -/
def pk (bs : List Bool) (m : Nat) : List Int := (List.range m).map fun j => ((bsum bs j 8 : Nat) : Int)
theorem pk_length (bs : List Bool) (m : Nat) : (pk bs m).length = m := by simp [pk]
theorem pk_nth (bs : List Bool) (m j : Nat) (h : j < m) : nth (pk bs m) j = ((bsum bs j 8 : Nat) : Int) := by
  rw [nth_eq _ _ (by rw [pk_length]; exact h)]; simp [pk]
theorem pk_wf (bs : List Bool) (m : Nat) : ∀ x ∈ pk bs m, (Lit.int .u8 x).wf = true := by
  intro x hx
  simp only [pk, List.mem_map] at hx
  obtain ⟨j, _, rfl⟩ := hx
  exact wf_byte _ (by have := bsum_lt bs j 8; omega)
theorem nth_take (bs : List Bool) (k i : Nat) : L.nth (bs.take k) i = if i < k then L.nth bs i else false := by
  unfold L.nth
  rw [List.getD_eq_getElem?_getD, List.getD_eq_getElem?_getD]
  split
  · rw [List.getElem?_take_of_lt (by assumption)]
  · rw [List.getElem?_take_eq_none (by omega)]; rfl
theorem nth_take_off (bs : List Bool) (k i : Nat) (h : k ≤ i) : L.nth (bs.take k) i = false := by rw [nth_take, if_neg (by omega)]
theorem pk_low (bs : List Bool) (k : Nat) : bsum (bs.take k) (k / 8) 8 < 2 ^ (k % 8) := by
  rw [bsum_stop (bs.take k) (k / 8) (k % 8) 8 (by omega) (fun r hr => nth_take_off _ _ _ (by omega))]
  exact bsum_lt _ _ _
theorem take_byte (bs : List Bool) (k j : Nat) (h : j ≠ k / 8) : bsum (bs.take (k + 1)) j 8 = bsum (bs.take k) j 8 := by
  refine bsum_same _ _ _ _ fun s hs => ?_
  rw [nth_take, nth_take]
  have : (8 * j + s < k + 1) = (8 * j + s < k) := by apply propext; omega
  simp only [this]
theorem take_bit (bs : List Bool) (k : Nat) : bsum (bs.take (k + 1)) (k / 8) 8 = bsum (bs.take k) (k / 8) 8 + (if L.nth bs k then 2 ^ (k % 8) else 0) := by
  rw [bsum_more (bs.take k) (bs.take (k + 1)) (k / 8) (k % 8) 8 (by omega) (nth_take_off _ _ _ (by omega)) (fun r hr => by
    rw [nth_take, nth_take]
    have : (8 * (k / 8) + r < k + 1) = (8 * (k / 8) + r < k) := by apply propext; omega
    simp only [this])]
  rw [show 8 * (k / 8) + k % 8 = k by omega, show L.nth (bs.take (k + 1)) k = L.nth bs k by rw [nth_take, if_pos (by omega)]]
theorem pk_off (bs : List Bool) (k m : Nat) (h : L.nth bs k = false) : pk (bs.take (k + 1)) m = pk (bs.take k) m := by
  refine ext_nth _ _ (by rw [pk_length, pk_length]) fun j hj => ?_
  rw [pk_length] at hj
  rw [pk_nth _ _ _ hj, pk_nth _ _ _ hj]
  by_cases e : j = k / 8
  · subst e; rw [take_bit, h]; simp
  · rw [take_byte bs k j e]
theorem nth_set (l : List Int) (i j : Nat) (v : Int) (hi : i < l.length) : nth (l.set i v) j = if i = j then v else nth l j := by
  unfold nth
  rw [List.getD_eq_getElem?_getD, List.getD_eq_getElem?_getD, List.getElem?_set]
  split
  · rfl
  · rfl
theorem pk_on (bs : List Bool) (k m : Nat) (hm : k / 8 < m) (h : L.nth bs k = true) : (pk (bs.take k) m).set (k / 8) ((bsum (bs.take k) (k / 8) 8 + 2 ^ (k % 8) : Nat) : Int) = pk (bs.take (k + 1)) m := by
  refine ext_nth _ _ (by rw [List.length_set, pk_length, pk_length]) fun j hj => ?_
  rw [List.length_set, pk_length] at hj
  rw [nth_set _ _ _ _ (by rw [pk_length]; exact hm), pk_nth _ _ _ hj, pk_nth _ _ _ hj]
  by_cases e : k / 8 = j
  · subst e; rw [if_pos rfl, take_bit, h]; simp
  · rw [if_neg e, take_byte bs k j (fun e' => e e'.symm)]
theorem or_high (a s : Nat) (h : a < 2 ^ s) : a ||| 2 ^ s = a + 2 ^ s := by
  have := Nat.shiftLeft_add_eq_or_of_lt h 1
  rw [Nat.shiftLeft_eq, Nat.one_mul] at this
  rw [Nat.or_comm, ← this, Nat.add_comm]
/-- The bit i of bytes. -/
def bitAt (ys : List Int) (i : Nat) : Bool := decide ((nth ys (i / 8)).toNat / 2 ^ (i % 8) % 2 = 1)
def unpk (ys : List Int) (n : Nat) : List Bool := (List.range n).map (bitAt ys)
theorem unpk_length (ys : List Int) (n : Nat) : (unpk ys n).length = n := by simp [unpk]
theorem unpk_nth (ys : List Int) (n i : Nat) (h : i < n) : L.nth (unpk ys n) i = bitAt ys i := by
  rw [L.nth_eq _ _ (by rw [unpk_length]; exact h)]; simp [unpk]
theorem unpk_step (ys : List Int) (n : Nat) : unpk ys (n + 1) = unpk ys n ++ [bitAt ys n] := by simp [unpk, List.range_succ]
/-- Is a bit from n on set? -/
def spare (ys : List Int) (n : Nat) : Prop := ∃ i, n ≤ i ∧ i < 8 * ys.length ∧ bitAt ys i = true
def need (n : Nat) : Nat := (n + 7) / 8
/-- The bits of a sum of bits. -/
theorem bsum_bit (bs : List Bool) (j s t : Nat) (hs : s < t) : bsum bs j t / 2 ^ s % 2 = if L.nth bs (8 * j + s) then 1 else 0 := by
  induction t with
  | zero => omega
  | succ t ih =>
    rw [bsum]
    have hl := bsum_lt bs j t
    by_cases e : s = t
    · subst e
      split
      · rw [show bsum bs j s + 2 ^ s = bsum bs j s + 1 * 2 ^ s by omega, Nat.add_mul_div_right _ _ (Nat.pow_pos (by omega)), Nat.div_eq_of_lt hl]
      · rw [Nat.add_zero, Nat.div_eq_of_lt hl]
    · have h2 : s < t := by omega
      rw [← ih h2]
      split
      · obtain ⟨d, hd⟩ : ∃ d, t = s + 1 + d := ⟨t - (s + 1), by omega⟩
        have hp : 2 ^ t = (2 * 2 ^ d) * 2 ^ s := by rw [hd, Nat.pow_add, Nat.pow_succ]; ac_rfl
        rw [hp, Nat.add_mul_div_right _ _ (Nat.pow_pos (by omega))]
        omega
      · rfl
theorem bitAt_pk (bs : List Bool) (m i : Nat) (h : i / 8 < m) : bitAt (pk bs m) i = L.nth bs i := by
  unfold bitAt
  rw [pk_nth _ _ _ h, Int.toNat_natCast, bsum_bit bs (i / 8) (i % 8) 8 (by omega), show 8 * (i / 8) + i % 8 = i by omega]
  cases L.nth bs i <;> simp
theorem nth_out (bs : List Bool) (i : Nat) (h : bs.length ≤ i) : L.nth bs i = false := by
  unfold L.nth; rw [List.getD_eq_getElem?_getD, List.getElem?_eq_none h]; rfl
theorem unpk_pk (bs : List Bool) : unpk (pk bs (need bs.length)) bs.length = bs := by
  refine L.ext_nth _ _ (by rw [unpk_length]) fun i hi => ?_
  rw [unpk_length] at hi
  rw [unpk_nth _ _ _ hi, bitAt_pk bs _ _ (by unfold need; omega)]
theorem no_spare_pk (bs : List Bool) : ¬ spare (pk bs (need bs.length)) bs.length := by
  rintro ⟨i, h1, h2, h3⟩
  rw [pk_length] at h2
  rw [bitAt_pk bs _ _ (by omega), nth_out bs i h1] at h3
  cases h3
/-- A byte is the sum of its bits. -/
theorem byte_bits (x : Nat) (t : Nat) (bs : List Bool) (j : Nat) (h : ∀ s, s < t → L.nth bs (8 * j + s) = decide (x / 2 ^ s % 2 = 1)) : bsum bs j t = x % 2 ^ t := by
  induction t with
  | zero => simp [bsum]; omega
  | succ t ih =>
    rw [bsum, ih (fun s hs => h s (by omega)), h t (by omega), Nat.mod_pow_succ]
    have : x / 2 ^ t % 2 = 0 ∨ x / 2 ^ t % 2 = 1 := by omega
    rcases this with e | e <;> rw [e] <;> simp
theorem pk_unpk (ys : List Int) (n : Nat) (hw : ∀ x ∈ ys, (Lit.int .u8 x).wf = true) (hl : ys.length = need n) (hs : ¬ spare ys n) : pk (unpk ys n) (need n) = ys := by
  refine ext_nth _ _ (by rw [pk_length, hl]) fun j hj => ?_
  rw [pk_length] at hj
  have hx := wf_u8 (hw _ (nth_mem ys j (by omega)))
  rw [pk_nth _ _ _ hj, byte_bits (nth ys j).toNat 8 _ _ (fun s hs8 => ?_)]
  · rw [Nat.mod_eq_of_lt (by omega)]; omega
  · have hb : bitAt ys (8 * j + s) = decide ((nth ys j).toNat / 2 ^ s % 2 = 1) := by
      unfold bitAt
      rw [show (8 * j + s) / 8 = j by omega, show (8 * j + s) % 8 = s by omega]
    by_cases h : 8 * j + s < n
    · rw [unpk_nth _ _ _ h, hb]
    · rw [nth_out _ _ (by rw [unpk_length]; omega), ← hb]
      cases hq : bitAt ys (8 * j + s) with
      | false => rfl
      | true => exact absurd ⟨8 * j + s, by omega, by omega, hq⟩ hs
end Go.Proofs.YtobhllcnljggiaaGreat
namespace Go.Proofs.YtobhllcnljggiaaGreat
open Go.RowKit
set_option linter.unusedVariables false

theorem bytesOf_any (n : Nat) (w : World) (h : n < 9223372036854775808) : Calls Tryz.prog 97 #[.int .i64 n] w fun e w' => e = .returned (.int .i64 (need n : Nat)) ∧ w = w' := by
  by_cases h8 : n % 8 = 0
  · have h1 : ((n : Int) % 8 != 0) = false := by simp; omega
    have h2 : ((n : Int) % 8 == 0) = true := by simp; omega
    have e : Hid ((n : Int) / 8 = ((need n : Nat) : Int)) := Lib.hid (by unfold need; omega)
    clear h8
    go_enter Tryz.func97, Tryz.ntmps97
    go_wp2
    go_ret
    exact ⟨congrArg (fun x => Ending.returned (Value.int .i64 x)) e.out, rfl⟩
  · have h1 : ((n : Int) % 8 != 0) = true := by simp; omega
    have h2 : ((n : Int) % 8 == 0) = false := beq_false_of_ne (by omega)
    have e : Hid ((n : Int) / 8 + 1 = ((need n : Nat) : Int)) := Lib.hid (by unfold need; omega)
    clear h8
    go_enter Tryz.func97, Tryz.ntmps97
    go_wp2
    go_ret
    exact ⟨congrArg (fun x => Ending.returned (Value.int .i64 x)) e.out, rfl⟩
theorem weight_any (i : Nat) (w : World) (h : i ≤ 9000000) : Calls Tryz.prog 98 #[.int .i64 i] w fun e w' => e = .returned (.int .u8 (2 ^ (i % 8) : Nat)) ∧ w' = w := by
  have hm : (i : Int) % 8 = ((i % 8 : Nat) : Int) := by omega
  obtain ⟨r, hr⟩ : ∃ r, i % 8 = r := ⟨_, rfl⟩
  have hr8 : r < 8 := by omega
  rw [hr] at hm ⊢
  clear hr
  obtain rfl | rfl | rfl | rfl | rfl | rfl | rfl | rfl : r = 0 ∨ r = 1 ∨ r = 2 ∨ r = 3 ∨ r = 4 ∨ r = 5 ∨ r = 6 ∨ r = 7 := by omega
  all_goals
    go_enter Tryz.func98, Tryz.ntmps98
    go_wp2
    go_ret
    exact ⟨rfl, rfl⟩
theorem and_all : ∀ (x : Fin 256) (r : Fin 8), ((x.val &&& 2 ^ r.val) != 0) = decide (x.val / 2 ^ r.val % 2 = 1) := by decide +kernel
theorem and_bit (x i : Nat) (hx : x < 256) : (bits .and .u8 (x : Int) ((2 ^ (i % 8) : Nat) : Int) != 0) = decide (x / 2 ^ (i % 8) % 2 = 1) := by
  have hp : 2 ^ (i % 8) < 256 := Nat.lt_of_le_of_lt (Nat.pow_le_pow_right (n := 2) (by omega) (show i % 8 ≤ 7 by omega)) (by omega)
  rw [u8_and_nat x _ hx hp]
  have := and_all ⟨x, hx⟩ ⟨i % 8, by omega⟩
  simp only at this
  rw [← this]
  cases h : (x &&& 2 ^ (i % 8)) with
  | zero => rfl
  | succ n =>
    have e1 : (((n + 1 : Nat) : Int) != 0) = true := by simp; omega
    rw [e1]; rfl
theorem isOn_any (A : Option Addr) (m c i : Nat) (ys : List Int) (w : World) (B : Nat) (hr : Row .u8 w B A ys) (hm : ys.length = m) (hb : m ≤ 1000000) (hi : i < 8 * m) :
    Calls Tryz.prog 104 #[.slice A m c, .int .i64 i] w fun e w' => e = .returned (.bool (bitAt ys i)) ∧ ∃ q, w' = w.drewN q := by
  obtain ⟨b, o, rfl, hb1, hc1⟩ := hr.at_ (i := i / 8) (by omega)
  have hwf := wf_u8 (hr.wf_at (i := i / 8) (by omega))
  have HB : Hid (bitAt ys i = decide ((nth ys (i / 8)).toNat / 2 ^ (i % 8) % 2 = 1)) := Lib.hid rfl
  obtain ⟨x, hx⟩ := Int.eq_ofNat_of_zero_le hwf.1
  rw [hx, Int.toNat_natCast] at HB
  rw [hx] at hc1 hwf
  have HA := Lib.hid (and_bit x i (by omega))
  rw [show ((2 ^ (i % 8) : Nat) : Int) = (2 : Int) ^ (i % 8) by simp] at HA
  obtain ⟨j, hj⟩ : ∃ j, i / 8 = j := ⟨_, rfl⟩
  have e1 : (i : Int) / 8 = (j : Int) := by omega
  have e2 : (j : Int) < (m : Int) := by omega
  have e3 : (i : Int).tdiv 8 = (j : Int) := by rw [Int.tdiv_eq_ediv_of_nonneg (by omega)]; omega
  have e4 : (0 : Int) ≤ (j : Int) := by omega
  rw [hj] at hc1
  clear hj
  clear hx hr hm
  go_enter Tryz.func104, Tryz.ntmps104
  go_wp2_with fail
  go_quiet ((go_at_call 98; refine Calls.quiet_of_same (weight_any _ _ (by omega))))
  go_wp2
  go_ret
  exact ⟨congrArg (fun x => Ending.returned (Value.bool x)) (HA.out.trans HB.out.symm), nq, rfl⟩

/-- A bit from n on is set. -/
def spareB (ys : List Int) (n : Nat) : Bool := (List.range (8 * ys.length)).any fun i => decide (n ≤ i) && bitAt ys i
theorem spareB_iff (ys : List Int) (n : Nat) : spareB ys n = true ↔ spare ys n := by
  simp only [spareB, List.any_eq_true, List.mem_range, Bool.and_eq_true, decide_eq_true_eq, spare]
  exact ⟨fun ⟨i, h1, h2, h3⟩ => ⟨i, h2, h1, h3⟩, fun ⟨i, h2, h1, h3⟩ => ⟨i, h1, h2, h3⟩⟩
theorem hasSpare_any (A : Option Addr) (m c n : Nat) (ys : List Int) (w : World) (B : Nat) (hr : Row .u8 w B A ys) (hm : ys.length = m) (hb : m ≤ 1000000) (hn : n ≤ 8 * m) :
    Calls Tryz.prog 103 #[.slice A m c, .int .i64 n] w fun e w' => e = .returned (.bool (spareB ys n)) ∧ ∃ q, w' = w.drewN q := by
  have hm' := Lib.hid hm
  clear hm
  go_enter Tryz.func103, Tryz.ntmps103
  go_wp2
  go_loopw [5] (fun i wr => ∃ k q : Nat, n ≤ k ∧ k ≤ 8 * m ∧ i = .int .i64 k ∧ Hid (∀ j, n ≤ j → j < k → bitAt ys j = false) ∧ wr = w.drewN q) (fun i _ => 8 * m - (intOf i).toNat)
  case atStart => exact ⟨n, 0, by omega, hn, rfl, Lib.hid (fun j h1 h2 => by omega), rfl⟩
  case round =>
    obtain ⟨k, q, hk0, hk, rfl, hz, rfl⟩ := hrel
    by_cases hlt : k < 8 * m
    · have hlt' : (k : Int) < 8 * (m : Int) := by omega
      obtain ⟨v, hv⟩ : ∃ v, Hid (bitAt ys k = v) := ⟨_, Lib.hid rfl⟩
      go_wp2_with fail
      refine (isOn_any _ _ _ k ys _ B (hr.drewN q) hm'.out hb hlt).mono ?_
      rintro e w' ⟨rfl, q2, rfl⟩
      rw [hv.out, World.drewN_drewN]
      cases v with
      | true =>
        have hs : spareB ys n = true := (spareB_iff ys n).2 ⟨k, hk0, by have := hm'.out; omega, hv.out⟩
        have HS := Lib.hid hs
        clear hs
        go_wp2
        go_ret
        exact ⟨congrArg (fun x => Ending.returned (Value.bool x)) HS.out.symm, _, rfl⟩
      | false =>
        go_wp2
        go_roundw
        case rel => exact ⟨k + 1, _, by omega, by omega, by go_num, Lib.hid (fun j h1 h2 => by
          rcases Nat.lt_succ_iff_lt_or_eq.1 h2 with h | h
          · exact hz.out j h1 h
          · subst h; exact hv.out), rfl⟩
        case measure => simp [intOf]; omega
    · have hlt' : ¬ ((k : Int) < 8 * (m : Int)) := by omega
      have hs : spareB ys n = false := by
        cases h : spareB ys n with
        | false => rfl
        | true =>
          obtain ⟨i, h1, h2, h3⟩ := (spareB_iff ys n).1 h
          rw [hz.out i h1 (by have := hm'.out; omega)] at h3
          cases h3
      have HS := Lib.hid hs
      clear hs
      go_wp2
      go_ret
      exact ⟨congrArg (fun x => Ending.returned (Value.bool x)) HS.out.symm, _, rfl⟩

theorem or_bit (a i : Nat) (h : a < 2 ^ (i % 8)) : bits .or .u8 (a : Int) ((2 : Int) ^ (i % 8)) = ((a + 2 ^ (i % 8) : Nat) : Int) := by
  have hp : 2 ^ (i % 8) < 256 := Nat.lt_of_le_of_lt (Nat.pow_le_pow_right (n := 2) (by omega) (show i % 8 ≤ 7 by omega)) (by omega)
  rw [show (2 : Int) ^ (i % 8) = ((2 ^ (i % 8) : Nat) : Int) by simp, u8_or_nat a _ (by omega) hp, or_high a _ h]
set_option maxHeartbeats 1000000 in
theorem Bits_any (A : Option Addr) (n c : Nat) (bs : List Bool) (w : World) (hr : L.Row () w w.heap.size A bs) (hn : bs.length = n) (hb : n ≤ 1000000) :
    Calls Tryz.prog 80 #[.slice A n c] w (Lays .u8 5 w (pk bs (need n)) (need n)) := by
  have hn' := Lib.hid hn
  clear hn
  have hne : need n ≤ 1000000 := by unfold need; omega
  have hne2 := Lib.hid (show ∀ k, k < n → k / 8 < need n by unfold need; omega)
  obtain ⟨m, hm⟩ : ∃ m, Hid (need n = m) := ⟨_, Lib.hid rfl⟩
  rw [hm.out] at hne hne2 ⊢
  have hmk := make_u8 m (by omega)
  have hz : List.replicate m (0 : Int) = pk (bs.take 0) m := by
    refine ext_nth _ _ (by rw [pk_length, List.length_replicate]) fun j hj => ?_
    rw [List.length_replicate] at hj
    rw [nth_replicate _ _ _ hj, pk_nth _ _ _ hj, bsum_stop _ _ 0 8 (by omega) (fun r _ => nth_take_off _ _ _ (by omega))]
    rfl
  rw [hz] at hmk
  clear hz
  have hg0 := Lib.hid (heap_alloc_new w (.cells (blk .u8 (pk (bs.take 0) m)) 5))
  have bel0 : Below w.heap.size w (w.alloc (.cells (blk .u8 (pk (bs.take 0) m)) 5)) := (Below.refl _ _).alloc (Nat.le_refl _) _
  have hs0 : w.heap.size < (w.alloc (.cells (blk .u8 (pk (bs.take 0) m)) 5)).heap.size := by simp
  go_enter Tryz.func80, Tryz.ntmps80
  go_wp2_with (go_at_call 97; refine (bytesOf_any n _ (by omega)).mono ?_; rintro e w' ⟨rfl, rfl⟩; rw [hm.out])
  go_loopw [4, 5, 12] (fun _ _ i wr => ∃ k : Nat, k ≤ n ∧ i = .int .i64 k ∧ Hid (wr.heap[w.heap.size]? = some (.cells (blk .u8 (pk (bs.take k) m)) 5 (0, 0))) ∧ Below w.heap.size w wr ∧ w.heap.size < wr.heap.size) (fun _ _ i _ => n - (intOf i).toNat)
  case atStart => exact ⟨0, by omega, rfl, hg0, bel0, hs0⟩
  case round =>
    clear bel0 hs0 hg0 hmk
    obtain ⟨k, hk, rfl, hg, bel, hs⟩ := hrel
    by_cases hlt : k < n
    · obtain ⟨b, o, rfl, hb1, hc1⟩ := (hr.below bel).at_ (i := k) (by have := hn'.out; omega)
      obtain ⟨v, hv⟩ : ∃ v, Hid (L.nth bs k = v) := ⟨_, Lib.hid rfl⟩
      rw [hv.out] at hc1
      cases v with
      | false =>
        have hg1 := hg
        rw [← pk_off bs k m hv.out] at hg1
        go_wp2
        go_roundw
        case rel => exact ⟨k + 1, by omega, by go_num, hg1, bel, hs⟩
        case measure => simp [intOf]; omega
      | true =>
        have hk8 := hne2.out k hlt
        have hlow := pk_low bs k
        have hor := or_bit _ k hlow
        have hc2 : wr.cell? ⟨w.heap.size, k / 8, none⟩ = some (.int .u8 ((bsum (bs.take k) (k / 8) 8 : Nat) : Int)) := by
          rw [cell_of_row wr w.heap.size (k / 8) _ _ _ hg.out, blk_get _ _ _ (by rw [pk_length]; exact hk8), pk_nth _ _ _ hk8]
        have hfz := block_frozen wr w.heap.size (k / 8) _ _ hg.out
        have hgd : wr.drew.heap[w.heap.size]? = some (.cells (blk .u8 (pk (bs.take k) m)) 5 (0, 0)) := hg.out
        have hnew := Lib.hid (block_setCell wr.drew w.heap.size (k / 8) .u8 5 _ ((bsum (bs.take k) (k / 8) 8 + 2 ^ (k % 8) : Nat) : Int) hgd)
        clear hgd
        rw [pk_on bs k m hk8 hv.out] at hnew
        have belD : Below w.heap.size w wr.drew := ⟨bel.os, bel.tape, bel.output, bel.size, bel.block⟩
        have bel2 : Below w.heap.size w (wr.drew.setCell ⟨w.heap.size, k / 8, none⟩ (.int .u8 ((bsum (bs.take k) (k / 8) 8 + 2 ^ (k % 8) : Nat) : Int))) := belD.setCell (Nat.le_refl _) _
        clear belD
        have hs2 : w.heap.size < (wr.drew.setCell ⟨w.heap.size, k / 8, none⟩ (.int .u8 ((bsum (bs.take k) (k / 8) 8 + 2 ^ (k % 8) : Nat) : Int))).heap.size := by simpa [World.setCell] using hs
        obtain ⟨z, hz⟩ : ∃ z : Int, Hid (((bsum (bs.take k) (k / 8) 8 + 2 ^ (k % 8) : Nat) : Int) = z) := ⟨_, Lib.hid rfl⟩
        rw [hz.out] at hnew bel2 hs2 hor
        generalize bsum (bs.take k) (k / 8) 8 = a at *
        obtain ⟨j, hj⟩ : ∃ j, k / 8 = j := ⟨_, rfl⟩
        rw [hj] at hc2 hfz hnew bel2 hs2 hk8
        have e1 : (k : Int) / 8 = (j : Int) := by omega
        have e2 : (j : Int) < (m : Int) := by omega
        have e3 : (k : Int).tdiv 8 = (j : Int) := by rw [Int.tdiv_eq_ediv_of_nonneg (by omega)]; omega
        have e4 : (0 : Int) ≤ (j : Int) := by omega
        have e5 : IntKind.i64.wrap (j : Int) = (j : Int) := IntWalk.i64_in _ (by omega)
        clear hj hlow hg
        go_wp2
        go_region_law ((go_simp; go_at_call 98; refine (weight_any _ _ (by omega)).mono ?_; rintro e w' ⟨rfl, rfl⟩))
        all_goals
          go_wp2
          go_roundw
          case rel => exact ⟨k + 1, by omega, by go_num, hnew, bel2, hs2⟩
          case measure => simp [intOf]; omega
    · obtain rfl : k = n := by omega
      have hx : bs.take k = bs := List.take_of_length_le (by have := hn'.out; omega)
      rw [hx] at hg
      clear hx
      go_wp2
      go_ret
      exact ⟨rfl, hg.out, bel⟩

/-- What Unbits tells: the bits, and the error. -/
def unbitsE (ys : List Int) (n : Int) : Int := if n < 0 then 3 else if ys.length ≠ need n.toNat then 22 else if spareB ys n.toNat = true then 4 else 0
def unbitsL (ys : List Int) (n : Int) : List Bool := if n < 0 then [] else if ys.length ≠ need n.toNat then [] else if spareB ys n.toNat = true then [] else unpk ys n.toNat
theorem Unbits_neg (A : Option Addr) (m c : Nat) (n : Int) (w : World) (h : n < 0) :
    Calls Tryz.prog 94 #[.slice A m c, .int .i64 n] w (Errs 3 w) := by
  go_enter Tryz.func94, Tryz.ntmps94
  go_wp2
  go_ret2
  exact ⟨rfl, rfl⟩
theorem Unbits_count (A : Option Addr) (m c n : Nat) (w : World) (hn : n < 9223372036854775808) (hm : m ≤ 1000000) (h : m ≠ need n) :
    Calls Tryz.prog 94 #[.slice A m c, .int .i64 n] w (Errs 22 w) := by
  obtain ⟨d, hd⟩ : ∃ d, Hid (need n = d) := ⟨_, Lib.hid rfl⟩
  rw [hd.out] at h
  have h1 : ((m : Int) != (d : Int)) = true := by simp; omega
  have h2 : ((m : Int) == (d : Int)) = false := beq_false_of_ne (by omega)
  clear h
  go_enter Tryz.func94, Tryz.ntmps94
  go_wp2_with (go_at_call 97; refine (bytesOf_any n _ hn).mono ?_; rintro e w' ⟨rfl, rfl⟩; rw [hd.out])
  go_ret2
  exact ⟨rfl, rfl⟩
theorem need_le (n m : Nat) (h : m = need n) : n ≤ 8 * m := by unfold need at h; omega
theorem Unbits_spare (A : Option Addr) (m c n : Nat) (ys : List Int) (w : World) (B : Nat) (hr : Row .u8 w B A ys) (hy : ys.length = m) (hm : m ≤ 1000000) (h : m = need n) (hs : spareB ys n = true) :
    Calls Tryz.prog 94 #[.slice A m c, .int .i64 n] w fun e w' => e = .returned (.tuple #[.slice none 0 0, .int .i64 4]) ∧ ∃ q, w' = w.drewN q := by
  have hle := need_le n m h
  have HM := Lib.hid h.symm
  have HY := Lib.hid hy
  have HS := Lib.hid hs
  clear h hy hs
  go_enter Tryz.func94, Tryz.ntmps94
  go_wp2_with fail
  refine (bytesOf_any n _ (by omega)).mono ?_
  rintro e w' ⟨rfl, rfl⟩
  rw [HM.out]
  go_wp2_with fail
  refine (hasSpare_any _ _ _ n ys _ B hr HY.out hm hle).mono ?_
  rintro e w' ⟨rfl, q, rfl⟩
  rw [HS.out]
  go_wp2
  go_ret2
  exact ⟨rfl, q, rfl⟩
set_option maxHeartbeats 1000000 in
theorem Unbits_ok (A : Option Addr) (m c n : Nat) (ys : List Int) (w : World) (hr : Row .u8 w w.heap.size A ys) (hy : ys.length = m) (hm : m ≤ 1000000) (h : m = need n) (hs : spareB ys n = false) :
    Calls Tryz.prog 94 #[.slice A m c, .int .i64 n] w fun e w' => ∃ g, Hid (w.heap.size = g) ∧ e = .returned (.tuple #[.slice (some ⟨g, 0, none⟩) n n, .int .i64 0]) ∧ L.Bk w' g (unpk ys n) ∧ Below w.heap.size w w' := by
  have hle := need_le n m h
  have HM := Lib.hid h.symm
  have HY := Lib.hid hy
  have HS := Lib.hid hs
  clear h hy hs
  have hmk := L.make_bool n (by omega)
  go_enter Tryz.func94, Tryz.ntmps94
  go_wp2_with fail
  refine (bytesOf_any n _ (by omega)).mono ?_
  rintro e w' ⟨rfl, rfl⟩
  rw [HM.out]
  go_wp2_with fail
  refine (hasSpare_any _ _ _ n ys _ _ hr HY.out hm hle).mono ?_
  rintro e w' ⟨rfl, q, rfl⟩
  rw [HS.out]
  have bel1 := bel_drewN w q
  have hz1 : Hid ((w.drewN q).heap.size = w.heap.size) := Lib.hid rfl
  have hg0 : Hid (((w.drewN q).alloc (.cells (L.blk () (List.replicate n false)) 4)).heap[(w.drewN q).heap.size]? = some (.cells (L.blk () (unpk ys 0 ++ List.replicate (n - 0) false)) 4 (0, 0))) := Lib.hid (heap_alloc_new _ _)
  have bel2 : Below w.heap.size w ((w.drewN q).alloc (.cells (L.blk () (List.replicate n false)) 4)) := bel1.alloc (Nat.le_refl _) _
  have hs2 : (w.drewN q).heap.size < ((w.drewN q).alloc (.cells (L.blk () (List.replicate n false)) 4)).heap.size := by simp
  clear bel1
  generalize w.drewN q = w1 at *
  go_wp2
  clear hmk
  generalize w1.heap.size = g at *
  obtain ⟨wo, hwo⟩ : ∃ wo : World, wo = w1.alloc (.cells (L.blk () (List.replicate n false)) 4) := ⟨_, rfl⟩
  rw [← hwo] at hg0 bel2 hs2 ⊢
  clear hwo
  go_loopw [7, 21] (fun _ i wr => ∃ k : Nat, k ≤ n ∧ i = .int .i64 k ∧ Hid (wr.heap[g]? = some (.cells (L.blk () (unpk ys k ++ List.replicate (n - k) false)) 4 (0, 0))) ∧ Below w.heap.size w wr ∧ g < wr.heap.size) (fun _ i _ => n - (intOf i).toNat)
  case atStart => exact ⟨0, by omega, rfl, hg0, bel2, hs2⟩
  case round =>
    clear hg0 bel2 hs2
    obtain ⟨k, hk, rfl, hg, bel, hs⟩ := hrel
    by_cases hlt : k < n
    · have hl : (unpk ys k).length = k := unpk_length ys k
      have hfc := L.fill_cell () (unpk ys k) (n - k) k false hl (by omega)
      have HS1 := L.set_step (unpk ys k) (n - (k + 1)) k false (bitAt ys k) hl
      rw [show n - (k + 1) + 1 = n - k by omega, ← unpk_step] at HS1
      go_wp2_with fail
      refine (isOn_any _ _ _ k ys _ _ (hr.below bel) HY.out hm (by omega)).mono ?_
      rintro e w' ⟨rfl, q2, rfl⟩
      have hg2 : (wr.drewN q2).heap[g]? = some (.cells (L.blk () (unpk ys k ++ List.replicate (n - k) false)) 4 (0, 0)) := hg.out
      have bel2 := below_drewN bel q2
      have hs2 : g < (wr.drewN q2).heap.size := hs
      clear hg bel hs
      generalize wr.drewN q2 = w2 at *
      have hc : w2.cell? ⟨g, k, none⟩ = some (.bool false) := (cell_of_row w2 g k _ _ _ hg2).trans hfc
      have hfz := L.block_frozen w2 g k _ _ hg2
      have hnew := L.block_setCell w2 g k () 4 _ (bitAt ys k) hg2
      rw [HS1] at hnew
      have HN := Lib.hid hnew
      have bel3 : Below w.heap.size w (w2.setCell ⟨g, k, none⟩ (.bool (bitAt ys k))) := bel2.setCell (Nat.le_of_eq hz1.out.symm) _
      have hs3 : g < (w2.setCell ⟨g, k, none⟩ (.bool (bitAt ys k))).heap.size := by simpa [World.setCell] using hs2
      generalize bitAt ys k = v at *
      clear hnew hg2 bel2 hs2 hfc HS1 hl
      go_wp2
      go_roundw
      case rel => exact ⟨k + 1, by omega, by go_num, HN, bel3, hs3⟩
      case measure => simp [intOf]; omega
    · obtain rfl : k = n := by omega
      have hf := hg.out
      rw [Nat.sub_self, List.replicate_zero, List.append_nil] at hf
      have HF : L.Bk wr g (unpk ys k) := hf
      clear hf hg
      have HZ := Lib.hid hz1.out.symm
      go_wp2
      go_ret2
      exact ⟨g, HZ, rfl, HF, bel⟩
theorem unbitsL_le (ys : List Int) (n : Int) (h : ys.length ≤ 1000000) : (unbitsL ys n).length ≤ 8000000 := by
  unfold unbitsL
  split
  · simp
  · split
    · simp
    · split
      · simp
      · rename_i h2 _
        have := need_le n.toNat ys.length (Decidable.not_not.1 h2)
        rw [unpk_length]; omega
theorem Unbits_any (A : Option Addr) (m c : Nat) (n : Int) (ys : List Int) (w : World) (hr : Row .u8 w w.heap.size A ys) (hy : ys.length = m) (hm : m ≤ 1000000) (hn : (Lit.int .i64 n).wf = true) :
    Calls Tryz.prog 94 #[.slice A m c, .int .i64 n] w (L.Gives w (unbitsL ys n) (unbitsE ys n)) := by
  subst hy
  by_cases h1 : n < 0
  · rw [unbitsL, unbitsE, if_pos h1, if_pos h1]
    exact (Unbits_neg _ _ _ _ _ h1).mono fun e w' ⟨he, hw⟩ => by subst hw; exact ⟨_, _, he, rfl, .inl ⟨rfl, rfl⟩, Below.refl _ _⟩
  · have hn2 := wf_i64 hn
    obtain ⟨n, rfl⟩ := Int.eq_ofNat_of_zero_le (show 0 ≤ n by omega)
    have hn3 : n < 9223372036854775808 := Int.ofNat_lt.1 hn2.2
    rw [unbitsL, unbitsE, if_neg h1, if_neg h1, Int.toNat_natCast]
    by_cases h2 : ys.length ≠ need n
    · rw [if_pos h2, if_pos h2]
      exact (Unbits_count _ _ _ _ _ hn3 hm h2).mono fun e w' ⟨he, hw⟩ => by subst hw; exact ⟨_, _, he, rfl, .inl ⟨rfl, rfl⟩, Below.refl _ _⟩
    · rw [if_neg h2, if_neg h2]
      have h2 := Decidable.not_not.1 h2
      by_cases h3 : spareB ys n = true
      · rw [if_pos h3, if_pos h3]
        exact (Unbits_spare _ _ _ _ ys _ _ hr rfl hm h2 h3).mono fun e w' ⟨he, q, hw⟩ => by subst hw; exact ⟨_, _, he, rfl, .inl ⟨rfl, rfl⟩, bel_drewN _ _⟩
      · rw [if_neg h3, if_neg h3]
        exact (Unbits_ok _ _ _ _ ys _ hr rfl hm h2 (by simpa using h3)).mono fun e w' ⟨g, hg, he, hb, hbl⟩ => by
          have hg := hg.out
          subst hg
          exact ⟨_, _, he, unpk_length _ _, .inr ⟨rfl, by rw [List.append_nil]; exact hb⟩, hbl⟩
end Go.Proofs.YtobhllcnljggiaaGreat
namespace Go.Proofs.YtobhllcnljggiaaGreat
open Go.RowKit
set_option linter.unusedVariables false

/-- How many a request of a code may ask for: none, if there is no such code. -/
def mm (c : Int) : Int := if c = 1 ∨ c = 2 then 2000 else if c = 3 ∨ c = 4 then 125 else if c = 5 ∨ c = 6 then 1 else if c = 15 then 1968 else if c = 16 then 123 else if c = 20 then 35 else 0
theorem codes (c : Int) : c = 1 ∨ c = 2 ∨ c = 3 ∨ c = 4 ∨ c = 5 ∨ c = 6 ∨ c = 15 ∨ c = 16 ∨ c = 20 ∨ (c ≠ 1 ∧ c ≠ 2 ∧ c ≠ 3 ∧ c ≠ 4 ∧ c ≠ 5 ∧ c ≠ 6 ∧ c ≠ 15 ∧ c ≠ 16 ∧ c ≠ 20) := by omega
theorem mm_pos {c : Int} (h : 0 < mm c) : c = 1 ∨ c = 2 ∨ c = 3 ∨ c = 4 ∨ c = 5 ∨ c = 6 ∨ c = 15 ∨ c = 16 ∨ c = 20 := by
  unfold mm at h; split at h <;> omega
theorem mm_range (c : Int) : 0 ≤ mm c ∧ mm c ≤ 2000 := by
  unfold mm; split <;> omega
/-- Has a field without a meaning something in it? -/
def stray (c a n : Int) (lo ls lp : Nat) : Bool :=
  if c = 20 then a != 0 || n != 0 || decide (0 < lo) || decide (0 < ls)
  else if c = 5 ∨ c = 15 then n != 0 || decide (0 < ls) || decide (0 < lp)
  else if c = 6 ∨ c = 16 then n != 0 || decide (0 < lo) || decide (0 < lp)
  else decide (0 < lo) || decide (0 < ls) || decide (0 < lp)
/-- How many a request asks for. -/
def many (c n : Int) (lo ls lp : Nat) : Int := if c = 5 ∨ c = 15 then lo else if c = 6 ∨ c = 16 then ls else if c = 20 then lp else n
/-- Is the i-th part in its place? -/
def inPl (f r l : Int) : Bool := decide (1 ≤ f) && decide (f ≤ 65535) && decide (0 ≤ r) && decide (r ≤ 9999) && decide (1 ≤ l) && decide (l ≤ 10000 - r)
theorem inPl_iff (f r l : Int) : inPl f r l = true ↔ (1 ≤ f ∧ f ≤ 65535) ∧ (0 ≤ r ∧ r ≤ 9999) ∧ (1 ≤ l ∧ l ≤ 10000 - r) := by
  simp only [inPl, Bool.and_eq_true, decide_eq_true_eq]; omega
def okAt3 (fl : List Int) (i : Nat) : Bool := inPl (nth fl (3 * i)) (nth fl (3 * i + 1)) (nth fl (3 * i + 2))
def sumTo (fl : List Int) : Nat → Int
  | 0 => 0
  | k + 1 => sumTo fl k + (2 + 2 * nth fl (3 * k + 2))
/-- Are the first k parts in their places? -/
def allOk (fl : List Int) : Nat → Bool
  | 0 => true
  | k + 1 => allOk fl k && okAt3 fl k
theorem allOk_le {fl : List Int} {n : Nat} (h : allOk fl n = true) : ∀ k, k < n → okAt3 fl k = true := by
  induction n with
  | zero => intro k hk; omega
  | succ n ih =>
    rw [allOk, Bool.and_eq_true] at h
    intro k hk
    rcases Nat.lt_or_ge k n with h1 | h1
    · exact ih h.1 k h1
    · obtain rfl : k = n := by omega
      exact h.2
theorem allOk_no {fl : List Int} {n k : Nat} (hk : k < n) (h : okAt3 fl k = false) : allOk fl n = false := by
  cases hn : allOk fl n with
  | false => rfl
  | true => rw [allOk_le hn k hk] at h; cases h
theorem sumTo_range {fl : List Int} {k : Nat} (h : allOk fl k = true) : 0 ≤ sumTo fl k ∧ sumTo fl k ≤ 20002 * k := by
  induction k with
  | zero => simp [sumTo]
  | succ k ih =>
    rw [allOk, Bool.and_eq_true] at h
    have h1 := ih h.1
    have h2 := (inPl_iff _ _ _).1 h.2
    rw [sumTo]; omega
def ptsE (fl : List Int) (n : Nat) : Int := if allOk fl n = true then (if 245 < sumTo fl n then 2 else 0) else 3
/-- What is wrong with a request. -/
def chk (c a n : Int) (lo ls lp : Nat) (fl : List Int) : Int :=
  if mm c ≤ 0 then 20 else if stray c a n lo ls lp = true then 23 else if a < 0 ∨ 65536 ≤ a then 21
  else if many c n lo ls lp < 1 ∨ mm c < many c n lo ls lp then 22
  else if c = 20 then ptsE fl lp else if 65536 < a + many c n lo ls lp then 21 else 0
end Go.Proofs.YtobhllcnljggiaaGreat
namespace Go.Proofs.YtobhllcnljggiaaGreat
open Go.RowKit
set_option linter.unusedVariables false

theorem maxMany_any (c : Int) (w : World) : Calls Tryz.prog 66 #[.int .i64 c] w fun e w' => e = .returned (.int .i64 (mm c)) ∧ w' = w := by
  rcases codes c with rfl | rfl | rfl | rfl | rfl | rfl | rfl | rfl | rfl | ⟨h1, h2, h3, h4, h5, h6, h7, h8, h9⟩
  iterate 9
    · go_enter Tryz.func66, Tryz.ntmps66
      go_wp2
      go_ret
      exact ⟨rfl, rfl⟩
  have e : mm c = 0 := by simp [mm, *]
  rw [e]
  have b1 := beq_false_of_ne h1
  have b2 := beq_false_of_ne h2
  have b3 := beq_false_of_ne h3
  have b4 := beq_false_of_ne h4
  have b5 := beq_false_of_ne h5
  have b6 := beq_false_of_ne h6
  have b7 := beq_false_of_ne h7
  have b8 := beq_false_of_ne h8
  have b9 := beq_false_of_ne h9
  go_enter Tryz.func66, Tryz.ntmps66
  go_wp2
  go_ret
  exact ⟨rfl, rfl⟩
theorem isCode_any (c : Int) (w : World) : Calls Tryz.prog 63 #[.int .i64 c] w fun e w' => e = .returned (.bool (decide (0 < mm c))) ∧ w' = w := by
  go_enter Tryz.func63, Tryz.ntmps63
  go_wp2_with fail
  refine (maxMany_any c w).mono ?_
  rintro e w' ⟨rfl, rfl⟩
  go_wp2
  go_ret
  exact ⟨rfl, rfl⟩

set_option maxHeartbeats 2000000 in
theorem hasStray_any (c a n : Int) (Ao As Ap : Option Addr) (lo co ls cs lp cp : Nat) (w : World) (h : 0 < mm c) :
    Calls Tryz.prog 64 #[.agg #[.int .i64 c, .int .i64 a, .int .i64 n, .slice Ao lo co, .slice As ls cs, .slice Ap lp cp]] w fun e w' => e = .returned (.bool (stray c a n lo ls lp)) ∧ Below w.heap.size w w' := by
  rcases mm_pos h with rfl | rfl | rfl | rfl | rfl | rfl | rfl | rfl | rfl
  iterate 9
    · go_enter Tryz.func64, Tryz.ntmps64
      go_wp2
      all_goals (go_ret; refine ⟨?_, bel_alloc _ _⟩; (simp [stray, *] <;> omega))

set_option maxHeartbeats 2000000 in
theorem howMany_any (c a n : Int) (Ao As Ap : Option Addr) (lo co ls cs lp cp : Nat) (w : World) (h : 0 < mm c) :
    Calls Tryz.prog 65 #[.agg #[.int .i64 c, .int .i64 a, .int .i64 n, .slice Ao lo co, .slice As ls cs, .slice Ap lp cp]] w fun e w' => e = .returned (.int .i64 (many c n lo ls lp)) ∧ Below w.heap.size w w' := by
  rcases mm_pos h with rfl | rfl | rfl | rfl | rfl | rfl | rfl | rfl | rfl
  iterate 9
    · go_enter Tryz.func65, Tryz.ntmps65
      go_wp2
      go_ret
      exact ⟨rfl, bel_alloc _ _⟩

end Go.Proofs.YtobhllcnljggiaaGreat
namespace Go.Proofs.YtobhllcnljggiaaGreat
open Go.RowKit
set_option linter.unusedVariables false
theorem inPlace_any (f r l : Int) (w : World) :
    Calls Tryz.prog 90 #[.agg #[.int .i64 f, .int .i64 r, .int .i64 l]] w fun e w' => e = .returned (.bool (inPl f r l)) ∧ Below w.heap.size w w' := by
  by_cases hr : 0 ≤ r ∧ r ≤ 9999
  · have hw : IntKind.i64.wrap (10000 - r) = 10000 - r := IntWalk.i64_in _ (by omega)
    go_enter Tryz.func90, Tryz.ntmps90
    go_wp2
    all_goals (go_ret; refine ⟨?_, bel_alloc _ _⟩; show Ending.returned (Value.bool _) = Ending.returned (Value.bool (inPl f r l)); congr 2; rw [Bool.eq_iff_iff, inPl_iff]; (simp <;> omega))
  · go_enter Tryz.func90, Tryz.ntmps90
    go_wp2
    all_goals (go_ret; refine ⟨?_, bel_alloc _ _⟩; show Ending.returned (Value.bool _) = Ending.returned (Value.bool (inPl f r l)); congr 2; rw [Bool.eq_iff_iff, inPl_iff]; (simp <;> omega))

set_option maxHeartbeats 1000000 in
theorem checkParts_any (A : Option Addr) (n c : Nat) (fl : List Int) (w : World) (hr : Row .i64 w w.heap.size A fl) (hn : fl.length = 3 * n) (hb : n ≤ 35) :
    Calls Tryz.prog 67 #[.slice A n c] w fun e w' => e = .returned (.int .i64 (ptsE fl n)) ∧ Below w.heap.size w w' := by
  have hn' := Lib.hid hn
  clear hn
  go_enter Tryz.func67, Tryz.ntmps67
  go_wp2
  go_loopw [3, 8] (fun s i wr => ∃ k : Nat, k ≤ n ∧ i = .int .i64 k ∧ s = .int .i64 (sumTo fl k) ∧ allOk fl k = true ∧ Below w.heap.size w wr) (fun _ i _ => n - (intOf i).toNat)
  case atStart => exact ⟨0, by omega, rfl, rfl, rfl, Below.refl _ _⟩
  case round =>
    obtain ⟨k, hk, rfl, rfl, hok, hbel⟩ := hrel
    by_cases hlt : k < n
    · obtain ⟨b, o, rfl, hb1, hc1, hc2, hc3⟩ := (hr.below hbel).three (k := k) (by have := hn'.out; omega)
      have hs := sumTo_range hok
      have hbel2 := hbel.alloc hbel.size (.cells #[.int .i64 (nth fl (3 * k)), .int .i64 (nth fl (3 * k + 1)), .int .i64 (nth fl (3 * k + 2))] 47)
      have HS : Hid (sumTo fl (k + 1) = sumTo fl k + (2 + 2 * nth fl (3 * k + 2))) := Lib.hid rfl
      have HO : Hid (allOk fl (k + 1) = (allOk fl k && inPl (nth fl (3 * k)) (nth fl (3 * k + 1)) (nth fl (3 * k + 2)))) := Lib.hid rfl
      have HN : Hid (inPl (nth fl (3 * k)) (nth fl (3 * k + 1)) (nth fl (3 * k + 2)) = false → allOk fl n = false) := Lib.hid (fun h => allOk_no hlt h)
      have hbx := heap_alloc_new wr (.cells #[.int .i64 (nth fl (3 * k)), .int .i64 (nth fl (3 * k + 1)), .int .i64 (nth fl (3 * k + 2))] 47)
      have HB := Lib.hid hbx
      clear hbx
      generalize nth fl (3 * k) = x at *
      generalize nth fl (3 * k + 1) = y at *
      generalize nth fl (3 * k + 2) = z at *
      generalize sumTo fl k = s at *
      go_wp2_with fail
      refine (inPlace_any x y z _).mono ?_
      rintro e w1 ⟨rfl, b1⟩
      have hbel3 := hbel2.trans (b1.mono hbel2.size)
      have HB2 := Lib.hid ((b1.block wr.heap.size (by simp)).trans HB.out)
      have hc := cell_of_row w1 wr.heap.size 2 _ _ _ HB2.out
      clear hbel hbel2 b1 HB hc1 hc2 hc3
      cases hin : inPl x y z with
      | false =>
        have he := HN.out hin
        have hp : Hid (ptsE fl n = 3) := Lib.hid (by rw [ptsE, he]; rfl)
        clear HN HO HS he hc HB2
        go_wp2
        go_ret
        exact ⟨by rw [hp.out]; rfl, hbel3⟩
      | true =>
        have hz := (inPl_iff _ _ _).1 hin
        have e1 : IntKind.i64.wrap (2 * z) = 2 * z := IntWalk.i64_in _ (by omega)
        have e2 : IntKind.i64.wrap (2 + 2 * z) = 2 + 2 * z := IntWalk.i64_in _ (by omega)
        have e3 : IntKind.i64.wrap (s + (2 + 2 * z)) = s + (2 + 2 * z) := IntWalk.i64_in _ (by omega)
        have HO2 : Hid (allOk fl (k + 1) = true) := Lib.hid (by rw [HO.out, hok, hin]; rfl)
        clear HN HO
        go_wp2
        go_roundw
        case rel => exact ⟨k + 1, by omega, by go_num, by rw [HS.out], HO2.out, hbel3⟩
        case measure => simp [intOf]; omega
    · obtain rfl : k = n := by omega
      by_cases hl : 245 < sumTo fl k
      · have hp : Hid (ptsE fl k = 2) := Lib.hid (by rw [ptsE, if_pos hok, if_pos hl])
        go_wp2
        go_ret
        exact ⟨by rw [hp.out]; rfl, hbel⟩
      · have hp : Hid (ptsE fl k = 0) := Lib.hid (by rw [ptsE, if_pos hok, if_neg hl])
        go_wp2
        go_ret
        exact ⟨by rw [hp.out]; rfl, hbel⟩

set_option maxHeartbeats 2000000 in
theorem Check_any (q : Req) (Ao As Ap : Option Addr) (lo ls lp co cs cp : Nat) (w : World) (h : Asked w w.heap.size q Ao As Ap lo ls lp) :
    Calls Tryz.prog 31 #[.agg #[.int .i64 q.c, .int .i64 q.a, .int .i64 q.n, .slice Ao lo co, .slice As ls cs, .slice Ap lp cp]] w
      fun e w' => e = .returned (.int .i64 (chk q.c q.a q.n lo ls lp q.fl)) ∧ Below w.heap.size w w' := by
  have H := Lib.hid h.fl
  have HL := Lib.hid h.lp
  clear h
  have hmr := mm_range q.c
  obtain ⟨c, a, n, on, set, fl⟩ := q
  simp only at H HL hmr ⊢
  have hbox := Lib.hid (heap_alloc_new w (.cells #[.int .i64 c, .int .i64 a, .int .i64 n, .slice Ao lo co, .slice As ls cs, .slice Ap lp cp] 26))
  have bel0 := bel_alloc w (.cells #[.int .i64 c, .int .i64 a, .int .i64 n, .slice Ao lo co, .slice As ls cs, .slice Ap lp cp] 26)
  obtain ⟨r, hr⟩ : ∃ r, Hid (chk c a n lo ls lp fl = r) := ⟨_, Lib.hid rfl⟩
  rw [hr.out]
  go_enter Tryz.func31, Tryz.ntmps31
  go_wp2_with fail
  refine (isCode_any c _).mono ?_
  rintro e w1 ⟨rfl, rfl⟩
  by_cases hc : 0 < mm c
  rotate_left
  · have e0 : Hid (r = 20) := Lib.hid (by rw [← hr.out, chk, if_pos (by omega)])
    have e1 : decide (0 < mm c) = false := decide_eq_false hc
    clear hbox
    go_wp2
    go_ret
    exact ⟨by rw [e0.out]; rfl, bel0⟩
  have e1 : decide (0 < mm c) = true := decide_eq_true hc
  go_wp2_with fail
  clear e1
  refine (hasStray_any c a n Ao As Ap lo co ls cs lp cp _ hc).mono ?_
  rintro e w1 ⟨rfl, b1⟩
  have hbox1 := Lib.hid ((b1.block w.heap.size (by simp)).trans hbox.out)
  have bel1 := bel0.trans (b1.mono bel0.size)
  have hs1 := b1.size
  have hs0 : w.heap.size < w1.heap.size := by simp at hs1; omega
  clear b1 hbox bel0 hs1
  obtain ⟨⟨d10, d11, d12⟩, ⟨d13, d14, d15⟩, d16⟩ := cells6 hbox1.out
  cases hst : stray c a n lo ls lp with
  | true =>
    have e0 : Hid (r = 23) := Lib.hid (by rw [← hr.out, chk, if_neg (by omega), if_pos hst])
    clear d10 d11 d12 d13 d14 d15 d16
    go_wp2
    go_ret
    exact ⟨by rw [e0.out]; rfl, bel1⟩
  | false =>
    by_cases ha : a < 0 ∨ 65536 ≤ a
    · have e0 : Hid (r = 21) := Lib.hid (by rw [← hr.out, chk, if_neg (by omega), if_neg (by simp [hst]), if_pos ha])
      by_cases ha0 : a < 0
      · go_wp2
        go_ret
        exact ⟨by rw [e0.out]; rfl, bel1⟩
      · have ha1 : 65536 ≤ a := by omega
        go_wp2
        go_ret
        exact ⟨by rw [e0.out]; rfl, bel1⟩
    have ha0 : ¬ a < 0 := by omega
    have ha1 : ¬ 65536 ≤ a := by omega
    go_wp2_with fail
    clear d10 d11 d12 d13 d14 d15 d16
    refine (howMany_any c a n Ao As Ap lo co ls cs lp cp _ hc).mono ?_
    rintro e w2 ⟨rfl, b1⟩
    have hbox2 := Lib.hid ((b1.block w.heap.size hs0).trans hbox1.out)
    have bel2 := bel1.trans (b1.mono bel1.size)
    have hs2 := b1.size
    have hs3 : w.heap.size < w2.heap.size := by omega
    clear b1 hbox1 bel1 hs2 hs0
    obtain ⟨⟨d10, d11, d12⟩, ⟨d13, d14, d15⟩, d16⟩ := cells6 hbox2.out
    have HM : Hid (many c n lo ls lp = many c n lo ls lp) := Lib.hid rfl
    have hm20 : Hid (c = 20 → many c n lo ls lp = (lp : Int)) := Lib.hid (by rintro rfl; rfl)
    obtain ⟨m, hm⟩ : ∃ m, Hid (many c n lo ls lp = m) := ⟨_, Lib.hid rfl⟩
    rw [hm.out] at hm20 ⊢
    clear HM
    by_cases hm1 : m < 1
    · have e0 : Hid (r = 22) := Lib.hid (by rw [← hr.out, chk, if_neg (by omega), if_neg (by simp [hst]), if_neg ha, if_pos (by rw [hm.out]; exact .inl hm1)])
      go_wp2
      go_ret
      exact ⟨by rw [e0.out]; rfl, bel2⟩
    go_wp2_with fail
    refine (maxMany_any c _).mono ?_
    rintro e w3 ⟨rfl, rfl⟩
    by_cases hm2 : mm c < m
    · have e0 : Hid (r = 22) := Lib.hid (by rw [← hr.out, chk, if_neg (by omega), if_neg (by simp [hst]), if_neg ha, if_pos (by rw [hm.out]; exact .inr hm2)])
      go_wp2
      go_ret
      exact ⟨by rw [e0.out]; rfl, bel2⟩
    have hm3 : m ≤ mm c := by omega
    by_cases h20 : c = 20
    · have e0 : Hid (r = ptsE fl lp) := Lib.hid (by rw [← hr.out, chk, if_neg (by omega), if_neg (by simp [hst]), if_neg ha, if_neg (by rw [hm.out]; omega), if_pos h20])
      have hlp : lp ≤ 35 := by
        have := hm20.out h20
        subst h20
        have e35 : mm 20 = 35 := rfl
        omega
      clear hm20 hm hr
      subst h20
      go_wp2_with fail
      refine (checkParts_any Ap lp cp fl _ ((H.out.below bel2).more bel2.size) HL.out hlp).mono ?_
      rintro e w4 ⟨rfl, b1⟩
      have bel3 := bel2.trans (b1.mono bel2.size)
      go_wp2
      go_ret
      exact ⟨by rw [e0.out]; rfl, bel3⟩
    · have b20 : (c == 20) = false := beq_false_of_ne h20
      have e1 : IntKind.i64.wrap (a + m) = a + m := IntWalk.i64_in _ (by omega)
      by_cases hend : 65536 < a + m
      · have e0 : Hid (r = 21) := Lib.hid (by rw [← hr.out, chk, if_neg (by omega), if_neg (by simp [hst]), if_neg ha, if_neg (by rw [hm.out]; omega), if_neg h20, hm.out, if_pos hend])
        go_wp2
        go_ret
        exact ⟨by rw [e0.out]; rfl, bel2⟩
      · have e0 : Hid (r = 0) := Lib.hid (by rw [← hr.out, chk, if_neg (by omega), if_neg (by simp [hst]), if_neg ha, if_neg (by rw [hm.out]; omega), if_neg h20, hm.out, if_neg hend])
        go_wp2
        go_ret
        exact ⟨by rw [e0.out]; rfl, bel2⟩
end Go.Proofs.YtobhllcnljggiaaGreat
namespace Go.Proofs.YtobhllcnljggiaaGreat
open Go.RowKit
set_option linter.unusedVariables false

set_option maxHeartbeats 2000000 in
theorem refKnown_any (c : Int) (w : World) : Calls Tryz.prog 74 #[.int .i64 c] w fun e w' => e = .returned (.bool (decide (0 < mm c))) ∧ w' = w := by
  rcases codes c with rfl | rfl | rfl | rfl | rfl | rfl | rfl | rfl | rfl | ⟨h1, h2, h3, h4, h5, h6, h7, h8, h9⟩
  iterate 9
    · go_enter Tryz.func74, Tryz.ntmps74
      go_wp2
      go_ret
      exact ⟨rfl, rfl⟩
  have e : Hid (decide (0 < mm c) = false) := Lib.hid (by simp [mm, *])
  rw [e.out]
  have b7 := beq_false_of_ne h7
  have b8 := beq_false_of_ne h8
  have b9 := beq_false_of_ne h9
  by_cases hc : 1 ≤ c
  · have hc6 : ¬ c ≤ 6 := by omega
    clear h1 h2 h3 h4 h5 h6 h7 h8 h9
    go_enter Tryz.func74, Tryz.ntmps74
    go_wp2
    go_ret
    exact ⟨rfl, rfl⟩
  · clear h1 h2 h3 h4 h5 h6 h7 h8 h9
    go_enter Tryz.func74, Tryz.ntmps74
    go_wp2
    go_ret
    exact ⟨rfl, rfl⟩
set_option maxHeartbeats 2000000 in
theorem refMost_any (c : Int) (w : World) (h : 0 < mm c) : Calls Tryz.prog 77 #[.int .i64 c] w fun e w' => e = .returned (.int .i64 (mm c)) ∧ w' = w := by
  rcases mm_pos h with rfl | rfl | rfl | rfl | rfl | rfl | rfl | rfl | rfl
  iterate 9
    · go_enter Tryz.func77, Tryz.ntmps77
      go_wp2
      go_ret
      exact ⟨rfl, rfl⟩
set_option maxHeartbeats 2000000 in
theorem refMany_any (c a n : Int) (Ao As Ap : Option Addr) (lo co ls cs lp cp : Nat) (w : World) (h : 0 < mm c) :
    Calls Tryz.prog 76 #[.agg #[.int .i64 c, .int .i64 a, .int .i64 n, .slice Ao lo co, .slice As ls cs, .slice Ap lp cp]] w fun e w' => e = .returned (.int .i64 (many c n lo ls lp)) ∧ Below w.heap.size w w' := by
  rcases mm_pos h with rfl | rfl | rfl | rfl | rfl | rfl | rfl | rfl | rfl
  iterate 9
    · go_enter Tryz.func76, Tryz.ntmps76
      go_wp2
      go_ret
      exact ⟨rfl, bel_alloc _ _⟩
set_option maxHeartbeats 4000000 in
set_option maxRecDepth 100000 in
theorem refField_any (c a n : Int) (Ao As Ap : Option Addr) (lo co ls cs lp cp : Nat) (w : World) (h : 0 < mm c) :
    Calls Tryz.prog 75 #[.agg #[.int .i64 c, .int .i64 a, .int .i64 n, .slice Ao lo co, .slice As ls cs, .slice Ap lp cp]] w fun e w' => e = .returned (.bool (stray c a n lo ls lp)) ∧ Below w.heap.size w w' := by
  rcases mm_pos h with rfl | rfl | rfl | rfl | rfl | rfl | rfl | rfl | rfl
  iterate 9
    · go_enter Tryz.func75, Tryz.ntmps75
      go_wp2
      all_goals (go_ret; refine ⟨?_, bel_alloc _ _⟩; (simp [stray, *] <;> omega))

set_option maxHeartbeats 2000000 in
set_option maxRecDepth 100000 in
theorem refParts_any (A : Option Addr) (n c : Nat) (fl : List Int) (w : World) (hr : Row .i64 w w.heap.size A fl) (hn : fl.length = 3 * n) (hb : n ≤ 35) :
    Calls Tryz.prog 78 #[.slice A n c] w fun e w' => e = .returned (.int .i64 (ptsE fl n)) ∧ Below w.heap.size w w' := by
  have hn' := Lib.hid hn
  clear hn
  go_enter Tryz.func78, Tryz.ntmps78
  go_wp2
  go_loopw [3, 4] (fun s i wr => ∃ k : Nat, k ≤ n ∧ i = .int .i64 k ∧ s = .int .i64 (sumTo fl k) ∧ allOk fl k = true ∧ Below w.heap.size w wr) (fun _ i _ => n - (intOf i).toNat)
  case atStart => exact ⟨0, by omega, rfl, rfl, rfl, Below.refl _ _⟩
  case round =>
    obtain ⟨k, hk, rfl, rfl, hok, hbel⟩ := hrel
    by_cases hlt : k < n
    · obtain ⟨b, o, rfl, hb1, hc1, hc2, hc3⟩ := (hr.below hbel).three (k := k) (by have := hn'.out; omega)
      have hs := sumTo_range hok
      have hbel2 := hbel.alloc hbel.size (.cells #[.int .i64 (nth fl (3 * k)), .int .i64 (nth fl (3 * k + 1)), .int .i64 (nth fl (3 * k + 2))] 47)
      have HS : Hid (sumTo fl (k + 1) = sumTo fl k + (2 + 2 * nth fl (3 * k + 2))) := Lib.hid rfl
      have HO : Hid (allOk fl (k + 1) = (allOk fl k && inPl (nth fl (3 * k)) (nth fl (3 * k + 1)) (nth fl (3 * k + 2)))) := Lib.hid rfl
      have HN : Hid (inPl (nth fl (3 * k)) (nth fl (3 * k + 1)) (nth fl (3 * k + 2)) = false → allOk fl n = false) := Lib.hid (fun h => allOk_no hlt h)
      generalize nth fl (3 * k) = x at *
      generalize nth fl (3 * k + 1) = y at *
      generalize nth fl (3 * k + 2) = z at *
      have HK := Lib.hid hok
      clear hok
      generalize sumTo fl k = s at *
      cases hin : inPl x y z with
      | false =>
        have he := HN.out hin
        have hp : Hid (ptsE fl n = 3) := Lib.hid (by rw [ptsE, he]; rfl)
        have hne : ¬ ((1 ≤ x ∧ x ≤ 65535) ∧ (0 ≤ y ∧ y ≤ 9999) ∧ (1 ≤ z ∧ z ≤ 10000 - y)) := fun h => by rw [(inPl_iff x y z).2 h] at hin; cases hin
        clear HN HO HS he hin
        rcases (show x < 1 ∨ (1 ≤ x ∧ 65535 < x) ∨ (1 ≤ x ∧ x ≤ 65535 ∧ y < 0) ∨ (1 ≤ x ∧ x ≤ 65535 ∧ 0 ≤ y ∧ 9999 < y) ∨ (1 ≤ x ∧ x ≤ 65535 ∧ 0 ≤ y ∧ y ≤ 9999 ∧ z < 1) ∨ (1 ≤ x ∧ x ≤ 65535 ∧ 0 ≤ y ∧ y ≤ 9999 ∧ 1 ≤ z ∧ 10000 - y < z) by omega) with h | h | h | h | h | h
        iterate 5
          · clear hne
            go_wp2
            go_ret
            exact ⟨by rw [hp.out]; rfl, hbel2⟩
        have e0 : IntKind.i64.wrap (10000 - y) = 10000 - y := IntWalk.i64_in _ (by omega)
        clear hne
        go_wp2
        go_ret
        exact ⟨by rw [hp.out]; rfl, hbel2⟩
      | true =>
        have hz := (inPl_iff _ _ _).1 hin
        have e0 : IntKind.i64.wrap (10000 - y) = 10000 - y := IntWalk.i64_in _ (by omega)
        have e1 : IntKind.i64.wrap (2 * z) = 2 * z := IntWalk.i64_in _ (by omega)
        have e2 : IntKind.i64.wrap (s + 2) = s + 2 := IntWalk.i64_in _ (by omega)
        have e3 : IntKind.i64.wrap (s + 2 + 2 * z) = s + 2 + 2 * z := IntWalk.i64_in _ (by omega)
        have HO2 : Hid (allOk fl (k + 1) = true) := Lib.hid (by rw [HO.out, HK.out, hin]; rfl)
        have HS2 : Hid (sumTo fl (k + 1) = s + 2 + 2 * z) := Lib.hid (by rw [HS.out]; omega)
        clear HN HO hin
        go_wp2
        go_roundw
        case rel => exact ⟨k + 1, by omega, by go_num, by rw [HS2.out], HO2.out, hbel2⟩
        case measure => simp [intOf]; omega
    · obtain rfl : k = n := by omega
      by_cases hl : 245 < sumTo fl k
      · have hp : Hid (ptsE fl k = 2) := Lib.hid (by rw [ptsE, if_pos hok, if_pos hl])
        go_wp2
        go_ret
        exact ⟨by rw [hp.out]; rfl, hbel⟩
      · have hp : Hid (ptsE fl k = 0) := Lib.hid (by rw [ptsE, if_pos hok, if_neg hl])
        go_wp2
        go_ret
        exact ⟨by rw [hp.out]; rfl, hbel⟩

set_option maxHeartbeats 2000000 in
theorem refCheck_any (q : Req) (Ao As Ap : Option Addr) (lo ls lp co cs cp : Nat) (w : World) (h : Asked w w.heap.size q Ao As Ap lo ls lp) :
    Calls Tryz.prog 38 #[.agg #[.int .i64 q.c, .int .i64 q.a, .int .i64 q.n, .slice Ao lo co, .slice As ls cs, .slice Ap lp cp]] w
      fun e w' => e = .returned (.int .i64 (chk q.c q.a q.n lo ls lp q.fl)) ∧ Below w.heap.size w w' := by
  have H := Lib.hid h.fl
  have HL := Lib.hid h.lp
  clear h
  have hmr := mm_range q.c
  obtain ⟨c, a, n, on, set, fl⟩ := q
  simp only at H HL hmr ⊢
  have hbox := Lib.hid (heap_alloc_new w (.cells #[.int .i64 c, .int .i64 a, .int .i64 n, .slice Ao lo co, .slice As ls cs, .slice Ap lp cp] 26))
  have bel0 := bel_alloc w (.cells #[.int .i64 c, .int .i64 a, .int .i64 n, .slice Ao lo co, .slice As ls cs, .slice Ap lp cp] 26)
  obtain ⟨r, hr⟩ : ∃ r, Hid (chk c a n lo ls lp fl = r) := ⟨_, Lib.hid rfl⟩
  rw [hr.out]
  go_enter Tryz.func38, Tryz.ntmps38
  go_wp2_with fail
  refine (refKnown_any c _).mono ?_
  rintro e w1 ⟨rfl, rfl⟩
  by_cases hc : 0 < mm c
  rotate_left
  · have e0 : Hid (r = 20) := Lib.hid (by rw [← hr.out, chk, if_pos (by omega)])
    have e1 : decide (0 < mm c) = false := decide_eq_false hc
    clear hbox
    go_wp2
    go_ret
    exact ⟨by rw [e0.out]; rfl, bel0⟩
  have e1 : decide (0 < mm c) = true := decide_eq_true hc
  go_wp2_with fail
  clear e1
  refine (refField_any c a n Ao As Ap lo co ls cs lp cp _ hc).mono ?_
  rintro e w1 ⟨rfl, b1⟩
  have hbox1 := Lib.hid ((b1.block w.heap.size (by simp)).trans hbox.out)
  have bel1 := bel0.trans (b1.mono bel0.size)
  have hs1 := b1.size
  have hs0 : w.heap.size < w1.heap.size := by simp at hs1; omega
  clear b1 hbox bel0 hs1
  obtain ⟨⟨d10, d11, d12⟩, ⟨d13, d14, d15⟩, d16⟩ := cells6 hbox1.out
  cases hst : stray c a n lo ls lp with
  | true =>
    have e0 : Hid (r = 23) := Lib.hid (by rw [← hr.out, chk, if_neg (by omega), if_pos hst])
    clear d10 d11 d12 d13 d14 d15 d16
    go_wp2
    go_ret
    exact ⟨by rw [e0.out]; rfl, bel1⟩
  | false =>
    by_cases ha : a < 0 ∨ 65536 ≤ a
    · have e0 : Hid (r = 21) := Lib.hid (by rw [← hr.out, chk, if_neg (by omega), if_neg (by simp [hst]), if_pos ha])
      by_cases ha0 : a < 0
      · go_wp2
        go_ret
        exact ⟨by rw [e0.out]; rfl, bel1⟩
      · have ha1 : 65536 ≤ a := by omega
        go_wp2
        go_ret
        exact ⟨by rw [e0.out]; rfl, bel1⟩
    have ha0 : ¬ a < 0 := by omega
    have ha1 : ¬ 65536 ≤ a := by omega
    go_wp2_with fail
    clear d10 d11 d12 d13 d14 d15 d16
    refine (refMany_any c a n Ao As Ap lo co ls cs lp cp _ hc).mono ?_
    rintro e w2 ⟨rfl, b1⟩
    have hbox2 := Lib.hid ((b1.block w.heap.size hs0).trans hbox1.out)
    have bel2 := bel1.trans (b1.mono bel1.size)
    have hs2 := b1.size
    have hs3 : w.heap.size < w2.heap.size := by omega
    clear b1 hbox1 bel1 hs2 hs0
    obtain ⟨⟨d10, d11, d12⟩, ⟨d13, d14, d15⟩, d16⟩ := cells6 hbox2.out
    have HM : Hid (many c n lo ls lp = many c n lo ls lp) := Lib.hid rfl
    have hm20 : Hid (c = 20 → many c n lo ls lp = (lp : Int)) := Lib.hid (by rintro rfl; rfl)
    obtain ⟨m, hm⟩ : ∃ m, Hid (many c n lo ls lp = m) := ⟨_, Lib.hid rfl⟩
    rw [hm.out] at hm20 ⊢
    clear HM
    by_cases hm1 : m < 1
    · have e0 : Hid (r = 22) := Lib.hid (by rw [← hr.out, chk, if_neg (by omega), if_neg (by simp [hst]), if_neg ha, if_pos (by rw [hm.out]; exact .inl hm1)])
      go_wp2
      go_ret
      exact ⟨by rw [e0.out]; rfl, bel2⟩
    go_wp2_with fail
    refine (refMost_any c _ hc).mono ?_
    rintro e w3 ⟨rfl, rfl⟩
    by_cases hm2 : mm c < m
    · have e0 : Hid (r = 22) := Lib.hid (by rw [← hr.out, chk, if_neg (by omega), if_neg (by simp [hst]), if_neg ha, if_pos (by rw [hm.out]; exact .inr hm2)])
      go_wp2
      go_ret
      exact ⟨by rw [e0.out]; rfl, bel2⟩
    have hm3 : m ≤ mm c := by omega
    by_cases h20 : c = 20
    · have e0 : Hid (r = ptsE fl lp) := Lib.hid (by rw [← hr.out, chk, if_neg (by omega), if_neg (by simp [hst]), if_neg ha, if_neg (by rw [hm.out]; omega), if_pos h20])
      have hlp : lp ≤ 35 := by
        have := hm20.out h20
        subst h20
        have e35 : mm 20 = 35 := rfl
        omega
      clear hm20 hm hr
      subst h20
      go_wp2_with fail
      refine (refParts_any Ap lp cp fl _ ((H.out.below bel2).more bel2.size) HL.out hlp).mono ?_
      rintro e w4 ⟨rfl, b1⟩
      have bel3 := bel2.trans (b1.mono bel2.size)
      go_wp2
      go_ret
      exact ⟨by rw [e0.out]; rfl, bel3⟩
    · have b20 : (c == 20) = false := beq_false_of_ne h20
      have e1 : IntKind.i64.wrap (a + m) = a + m := IntWalk.i64_in _ (by omega)
      by_cases hend : 65536 < a + m
      · have e0 : Hid (r = 21) := Lib.hid (by rw [← hr.out, chk, if_neg (by omega), if_neg (by simp [hst]), if_neg ha, if_neg (by rw [hm.out]; omega), if_neg h20, hm.out, if_pos hend])
        go_wp2
        go_ret
        exact ⟨by rw [e0.out]; rfl, bel2⟩
      · have e0 : Hid (r = 0) := Lib.hid (by rw [← hr.out, chk, if_neg (by omega), if_neg (by simp [hst]), if_neg ha, if_neg (by rw [hm.out]; omega), if_neg h20, hm.out, if_neg hend])
        go_wp2
        go_ret
        exact ⟨by rw [e0.out]; rfl, bel2⟩
end Go.Proofs.YtobhllcnljggiaaGreat
namespace Go.Proofs.YtobhllcnljggiaaGreat
open Go.RowKit
set_option linter.unusedVariables false

/-- The first k parts as they stand in a PDU. -/
def pbytes (fl : List Int) : Nat → List Int
  | 0 => []
  | k + 1 => pbytes fl k ++ (6 :: wbytes [nth fl (3 * k), nth fl (3 * k + 1), nth fl (3 * k + 2)])
theorem pbytes_length (fl : List Int) (k : Nat) : (pbytes fl k).length = 7 * k := by
  induction k with
  | zero => rfl
  | succ k ih => rw [pbytes, List.length_append, ih, List.length_cons, wbytes_length]; simp; omega
theorem pbytes_wf (fl : List Int) (k : Nat) : ∀ x ∈ pbytes fl k, (Lit.int .u8 x).wf = true := by
  induction k with
  | zero => simp [pbytes]
  | succ k ih =>
    rw [pbytes]
    refine wf_append ih fun x hx => ?_
    rcases List.mem_cons.1 hx with rfl | hx
    · decide
    · exact wbytes_wf _ x hx
/-- What stands behind the code in a PDU. -/
def tl (c a n : Int) (on : List Bool) (set fl : List Int) (lo ls lp : Nat) : List Int :=
  if c = 5 then wbytes [a, if L.nth on 0 = true then 65280 else 0]
  else if c = 6 then wbytes [a, nth set 0]
  else if c = 15 then wbytes [a, (lo : Int)] ++ ((need lo : Nat) : Int) :: pk on (need lo)
  else if c = 16 then wbytes [a, (ls : Int)] ++ ((2 * ls : Nat) : Int) :: wbytes set
  else if c = 20 then ((7 * lp : Nat) : Int) :: pbytes fl lp
  else wbytes [a, n]

theorem chk_zero {c a n : Int} {lo ls lp : Nat} {fl : List Int} (h : chk c a n lo ls lp fl = 0) :
    0 < mm c ∧ stray c a n lo ls lp = false ∧ (0 ≤ a ∧ a < 65536) ∧ (1 ≤ many c n lo ls lp ∧ many c n lo ls lp ≤ mm c) ∧ (c = 20 → allOk fl lp = true ∧ sumTo fl lp ≤ 245) ∧ (c ≠ 20 → a + many c n lo ls lp ≤ 65536) := by
  unfold chk at h
  split at h
  · cases h
  split at h
  · cases h
  split at h
  · cases h
  split at h
  · cases h
  rename_i h1 h2 h3 h4
  refine ⟨by omega, by simpa using h2, by omega, by omega, ?_, ?_⟩
  · intro h20
    rw [if_pos h20, ptsE] at h
    split at h
    · rename_i hok
      refine ⟨hok, ?_⟩
      split at h
      · cases h
      · omega
    · cases h
  · intro h20
    rw [if_neg h20] at h
    split at h
    · cases h
    · omega

/-- One element's box, wherever it stands. -/
theorem Row.one_at (k : IntKind) (w : World) (t : TypeId) (x : Int) (h : (Lit.int k x).wf = true) {g : Nat} (hg : w.heap.size = g) : Row k (w.alloc (.cells #[.int k x] t)) (g + 1) (some ⟨g, 0, none⟩) [x] := by
  subst hg; exact Row.one k w t x h
theorem Row.lit_at (k : IntKind) (w : World) (t : TypeId) (xs : List Int) (h : ∀ x ∈ xs, (Lit.int k x).wf = true) {g : Nat} (hg : w.heap.size = g) : Row k (w.alloc (.cells (blk k xs) t)) (g + 1) (some ⟨g, 0, none⟩) xs := by
  subst hg; exact Row.new k w t xs xs h (List.prefix_refl _)

theorem coilWord_any (b : Bool) (w : World) : Calls Tryz.prog 107 #[.bool b] w fun e w' => e = .returned (.int .u16 (if b = true then 65280 else 0)) ∧ w' = w := by
  cases b
  · go_enter Tryz.func107, Tryz.ntmps107
    go_wp2
    go_ret
    exact ⟨rfl, rfl⟩
  · go_enter Tryz.func107, Tryz.ntmps107
    go_wp2
    go_ret
    exact ⟨rfl, rfl⟩

theorem Row.grown {k : IntKind} {w w' : World} {B : Nat} {A : Option Addr} {xs : List Int} {row : Option Nat} (h : Row k w B A xs) (hg : w.grownBy w' row) (hB : B ≤ w.heap.size) (hne : ∀ b o, A = some ⟨b, o, none⟩ → some b ≠ row) : Row k w' B A xs := by
  refine ⟨h.1, fun hn => ?_⟩
  obtain ⟨b, o, e, hb, hc⟩ := h.2 hn
  exact ⟨b, o, e, hb, fun i hi => hg.cell (hc i hi) (hne b o e)⟩

theorem counted_any (v : Value) (xs ys : List Int) (A : Option Addr) (m c base : Nat) (w : World) (hown : Own .u8 5 w base v xs) (hr : Row .u8 w w.heap.size A ys) (hm : ys.length = m) (hm2 : m ≤ 255) (hx : xs.length ≤ 1000)
    (hne : ∀ b o, A = some ⟨b, o, none⟩ → some b ≠ v.ownBlock) (hbase : base ≤ w.heap.size) :
    Calls Tryz.prog 108 #[v, .slice A m c] w fun e w' => ∃ v', e = .returned v' ∧ Own .u8 5 w' base v' (xs ++ ((m : Int) :: ys)) ∧ Below base w w' := by
  have hw1 : IntKind.u8.wrap (m : Int) = (m : Int) := by rw [IntKind.wrap_u8]; omega
  have one := Row.one .u8 w 5 (m : Int) (wf_byte m (by omega))
  have hx' := Lib.hid hx
  have hm' := Lib.hid hm
  clear hx hm
  obtain ⟨Av, nv, cv, rfl⟩ : ∃ Av nv cv, v = .slice Av nv cv := by
    rcases hown.2 with ⟨rfl, _⟩ | ⟨g, cap, cur, rfl, _⟩
    · exact ⟨_, _, _, rfl⟩
    · exact ⟨_, _, _, rfl⟩
  go_enter Tryz.func108, Tryz.ntmps108
  go_wp2_with (first
    | (at_builtin; refine wpList_append_row _ rfl _ _ 34 rfl base .u8 5 1 Tryz.underlying34 info_u8 (.slice Av nv cv) xs rfl (hown.alloc _) _ _ 1 1 [(m : Int)] rfl one rfl (by have := hx'.out; omega) (by have := hx'.out; simp only [maxLen]; omega) (by simp; omega) ?_; intro v1 w1 hown1 hg1)
    | (at_builtin; refine wpList_append_row _ rfl _ _ 34 rfl base .u8 5 1 Tryz.underlying34 info_u8 v1 (xs ++ [(m : Int)]) rfl hown1 w.heap.size A m c ys rfl (((hr.alloc (Nat.le_refl _) _).grown hg1 (by simp) hne)) hm'.out (by rw [List.length_append]; have := hx'.out; simp; omega) (by rw [List.length_append]; have := hx'.out; simp [maxLen]; omega) (by have := hg1.size; simp at this; omega) ?_; intro v2 w2 hown2 hg2))
  have b1 := Below.own1 (Below.refl base w) hbase hown hg1
  have b2 := Below.own b1 (by have := hg1.size; simp at this; omega) hown1 hg2
  rw [List.append_assoc] at hown2
  go_ret
  exact ⟨_, rfl, hown2, b2⟩

set_option maxHeartbeats 1000000 in
set_option maxRecDepth 100000 in
theorem partBytes_any (A : Option Addr) (n c : Nat) (fl : List Int) (w : World) (hr : Row .i64 w w.heap.size A fl) (hn : fl.length = 3 * n) (hb : n ≤ 35) (hok : allOk fl n = true) :
    Calls Tryz.prog 109 #[.slice A n c] w (Makes .u8 5 w (pbytes fl n)) := by
  have hn' := Lib.hid hn
  clear hn
  go_enter Tryz.func109, Tryz.ntmps109
  go_wp2
  go_loopw [3, 9] (fun v i wr => ∃ k : Nat, k ≤ n ∧ i = .int .i64 k ∧ Own .u8 5 wr w.heap.size v (pbytes fl k) ∧ Below w.heap.size w wr) (fun _ i _ => n - (intOf i).toNat)
  case atStart => exact ⟨0, by omega, rfl, Own.nil _ _ _ _, Below.refl _ _⟩
  case round =>
    obtain ⟨k, hk, rfl, hown, hbel⟩ := hrel
    by_cases hlt : k < n
    · obtain ⟨b, o, rfl, hb1, hc1, hc2, hc3⟩ := (hr.below hbel).three (k := k) (by have := hn'.out; omega)
      have hin := (inPl_iff _ _ _).1 (allOk_le hok k hlt)
      have HP : Hid (pbytes fl (k + 1) = pbytes fl k ++ (6 :: wbytes [nth fl (3 * k), nth fl (3 * k + 1), nth fl (3 * k + 2)])) := Lib.hid rfl
      have HL : Hid ((pbytes fl k).length = 7 * k) := Lib.hid (pbytes_length fl k)
      have hsz := hbel.size
      generalize nth fl (3 * k) = x at *
      generalize nth fl (3 * k + 1) = y at *
      generalize nth fl (3 * k + 2) = z at *
      have e1 : IntKind.u16.wrap x = x := by rw [IntKind.wrap_u16]; omega
      have e2 : IntKind.u16.wrap y = y := by rw [IntKind.wrap_u16]; omega
      have e3 : IntKind.u16.wrap z = z := by rw [IntKind.wrap_u16]; omega
      have HB := Lib.hid (heap_alloc_new wr (.cells #[.int .i64 x, .int .i64 y, .int .i64 z] 47))
      have HWB := Lib.hid (heap_alloc_new (wr.alloc (.cells #[.int .i64 x, .int .i64 y, .int .i64 z] 47)) (.cells (blk .u16 [x, y, z]) 32))
      have hwf : Hid (∀ v ∈ [x, y, z], (Lit.int .u16 v).wf = true) := Lib.hid (by
        intro v hv
        simp only [List.mem_cons, List.not_mem_nil, or_false] at hv
        rcases hv with rfl | rfl | rfl <;> exact wf_word16 (by omega))
      go_wp2_with (first
        | (at_builtin; refine wpList_append_row _ rfl (.tmp 23) (.tmp 24) 34 rfl w.heap.size .u8 5 1 Tryz.underlying34 info_u8 u3 (pbytes fl k) rfl (((hown.alloc _).alloc _).alloc _) _ _ 1 1 [(6 : Int)] rfl (Row.one_at .u8 _ 5 6 (by decide) (by simp)) rfl (by rw [HL.out]; omega) (by rw [HL.out]; simp only [maxLen]; omega) (by simp; omega) ?_; intro v1 w1 hown1 hg1))
      have HW1 := Lib.hid ((hg1.block (wr.heap.size + 1) (by simp) (fun e => by have := hown.block _ e.symm; omega)).trans ((heap_alloc_old _ _ (by simp)).trans (heap_new_at _ _ (by simp))))
      have bel1 := Below.own (((hbel.alloc hsz _).alloc (by simp; omega) _).alloc (by simp; omega) _) (by simp; omega) (((hown.alloc _).alloc _).alloc _) hg1
      have hs1 := bel1.size
      clear HB HWB hg1 hown hbel hc1 hc2 hc3
      refine (Bytes_any _ 3 _ [x, y, z] _ ((Row.of_block HW1.out [x, y, z] hwf.out (List.prefix_refl _)).more (block_lt HW1.out)) rfl (by omega)).mono ?_
      intro e w2 hL
      obtain ⟨rfl, li, b2⟩ := hL.li
      have hs2 := b2.size
      have rw2 := li.row (by rw [wbytes_length]; rfl) (wbytes_wf _)
      go_wp2_with (first
        | (at_builtin; refine wpList_append_row _ rfl (.tmp 25) (.tmp 27) 34 rfl w.heap.size .u8 5 1 Tryz.underlying34 info_u8 v1 (pbytes fl k ++ [6]) rfl (hown1.below b2 (Nat.le_refl _)) _ _ 6 6 (wbytes [x, y, z]) rfl rw2 (by rw [wbytes_length]; rfl) (by rw [List.length_append, HL.out]; simp; omega) (by rw [List.length_append, HL.out]; simp [maxLen]; omega) (by omega) ?_; intro v2 w3 hown2 hg2))
      have bel2 := Below.own (bel1.trans (b2.mono hs1)) (by omega) (hown1.below b2 (Nat.le_refl _)) hg2
      rw [List.append_assoc, List.singleton_append, ← HP.out] at hown2
      clear hg2 hown1 b2 bel1 HW1 rw2 li
      go_wp2
      go_roundw
      case rel => exact ⟨k + 1, by omega, by go_num, hown2, bel2⟩
      case measure => simp [intOf]; omega
    · obtain rfl : k = n := by omega
      go_wp2
      go_ret
      exact ⟨_, rfl, hown, hbel⟩
end Go.Proofs.YtobhllcnljggiaaGreat
