/-
  Requests: what they hold and where it lies, and contracts of the functions of outstationkit on them.
-/
import Derived.Test.YtojjcmkadmofdaaPtSpoil
import Derived.Test.YtojjcmkadmofdaaHeldL
import Derived.Test.YtojjcmkadmofdaaHeldW
import Derived.Test.YtojjcmkadmofdaaSpoilL
import Derived.Test.YtojjcmkadmofdaaSpoilW
namespace Go.Proofs.Ytojjcmkadmofdaa
open Go.RowKit
set_option linter.unusedVariables false

/-- A request: its numbers, its bits, its words, and its parts, three numbers each. -/
structure Req where
  c : Int
  a : Int
  n : Int
  on : List Bool
  set : List Int
  fl : List Int
def Req.zero : Req := ⟨0, 0, 0, [], [], []⟩

/-- The three lists of a request, where they lie and how long they are. -/
structure Asked (w : World) (B : Nat) (q : Req) (Ao As Ap : Option Addr) (lo ls lp : Nat) : Prop where
  on : L.Row () w B Ao q.on
  set : Row .u16 w B As q.set
  fl : Row .i64 w B Ap q.fl
  lo : q.on.length = lo
  ls : q.set.length = ls
  lp : q.fl.length = 3 * lp
theorem Asked.below {w w' : World} {B : Nat} {q : Req} {Ao As Ap : Option Addr} {lo ls lp : Nat} (h : Asked w B q Ao As Ap lo ls lp) (hb : Below B w w') : Asked w' B q Ao As Ap lo ls lp :=
  ⟨h.on.below hb, h.set.below hb, h.fl.below hb, h.lo, h.ls, h.lp⟩
theorem Asked.more {w : World} {B B' : Nat} {q : Req} {Ao As Ap : Option Addr} {lo ls lp : Nat} (h : Asked w B q Ao As Ap lo ls lp) (hB : B ≤ B') : Asked w B' q Ao As Ap lo ls lp :=
  ⟨h.on.more hB, h.set.more hB, h.fl.more hB, h.lo, h.ls, h.lp⟩
theorem Asked.up {w w' : World} {q : Req} {Ao As Ap : Option Addr} {lo ls lp : Nat} (h : Asked w w.heap.size q Ao As Ap lo ls lp) (hb : Below w.heap.size w w') : Asked w' w'.heap.size q Ao As Ap lo ls lp :=
  (h.below hb).more hb.size
theorem Asked.alloc {w : World} {B : Nat} {q : Req} {Ao As Ap : Option Addr} {lo ls lp : Nat} (h : Asked w B q Ao As Ap lo ls lp) (hB : B ≤ w.heap.size) (o : Obj) : Asked (w.alloc o) B q Ao As Ap lo ls lp :=
  h.below ((Below.refl _ _).alloc hB o)
theorem Asked.drewN {w : World} {B : Nat} {q : Req} {Ao As Ap : Option Addr} {lo ls lp : Nat} (h : Asked w B q Ao As Ap lo ls lp) (n : Nat) : Asked (w.drewN n) B q Ao As Ap lo ls lp := ⟨h.on, h.set, h.fl, h.lo, h.ls, h.lp⟩
theorem Asked.zero (w : World) (B : Nat) : Asked w B Req.zero none none none 0 0 0 := ⟨L.Row.nil _ _ _ _, Row.nil _ _ _ _, Row.nil _ _ _ _, rfl, rfl, rfl⟩
theorem bel_alloc (w : World) (o : Obj) : Below w.heap.size w (w.alloc o) := (Below.refl _ _).alloc (Nat.le_refl _) o

theorem heap_new_at (w : World) (o : Obj) {g : Nat} (h : w.heap.size = g) : (w.alloc o).heap[g]? = some o := by subst h; exact heap_alloc_new w o

theorem LongAsk_any (c a n : Int) (Ao As Ap : Option Addr) (lo co ls cs lp cp : Nat) (w : World) :
    Calls Try.prog 10 #[.agg #[.int .i64 c, .int .i64 a, .int .i64 n, .slice Ao lo co, .slice As ls cs, .slice Ap lp cp]] w fun e w' => e = .returned (.bool (decide (70000 < (lo : Int)) || decide (70000 < (ls : Int)) || decide (70000 < (lp : Int)))) ∧ Below w.heap.size w w' := by
  go_enter Try.func10, Try.ntmps10
  go_wp2
  all_goals (go_ret; refine ⟨?_, bel_alloc _ _⟩; first | rfl | simp [*])
theorem LongAsk_no (c a n : Int) (Ao As Ap : Option Addr) (lo co ls cs lp cp : Nat) (w : World) (h1 : lo ≤ 70000) (h2 : ls ≤ 70000) (h3 : lp ≤ 70000) :
    Calls Try.prog 10 #[.agg #[.int .i64 c, .int .i64 a, .int .i64 n, .slice Ao lo co, .slice As ls cs, .slice Ap lp cp]] w fun e w' => e = .returned (.bool false) ∧ Below w.heap.size w w' := by
  refine (LongAsk_any c a n Ao As Ap lo co ls cs lp cp w).mono fun e w' h => ⟨h.1.trans ?_, h.2⟩
  rw [decide_eq_false (by omega), decide_eq_false (by omega), decide_eq_false (by omega)]; rfl
theorem LongAsk_yes (c a n : Int) (Ao As Ap : Option Addr) (lo co ls cs lp cp : Nat) (w : World) (h : 70000 < lo ∨ 70000 < ls ∨ 70000 < lp) :
    Calls Try.prog 10 #[.agg #[.int .i64 c, .int .i64 a, .int .i64 n, .slice Ao lo co, .slice As ls cs, .slice Ap lp cp]] w fun e w' => e = .returned (.bool true) ∧ Below w.heap.size w w' := by
  refine (LongAsk_any c a n Ao As Ap lo co ls cs lp cp w).mono fun e w' h' => ⟨h'.1.trans ?_, h'.2⟩
  congr 2
  simp only [Bool.or_eq_true, decide_eq_true_eq]
  omega

theorem SameAsk_yes (q : Req) (Ao As Ap Ao' As' Ap' : Option Addr) (lo ls lp co cs cp co' cs' cp' : Nat) (w : World) (h : Asked w w.heap.size q Ao As Ap lo ls lp) (h' : Asked w w.heap.size q Ao' As' Ap' lo ls lp)
    (b1 : lo ≤ 1000000) (b2 : ls ≤ 1000000) (b3 : lp ≤ 1000000) :
    Calls Try.prog 24 #[.agg #[.int .i64 q.c, .int .i64 q.a, .int .i64 q.n, .slice Ao lo co, .slice As ls cs, .slice Ap lp cp], .agg #[.int .i64 q.c, .int .i64 q.a, .int .i64 q.n, .slice Ao' lo co', .slice As' ls cs', .slice Ap' lp cp']] w
      fun e w' => e = .returned (.bool true) ∧ Below w.heap.size w w' := by
  have bel := (bel_alloc w (.cells #[.int .i64 q.c, .int .i64 q.a, .int .i64 q.n, .slice Ao lo co, .slice As ls cs, .slice Ap lp cp] 26)).alloc (by simp) (.cells #[.int .i64 q.c, .int .i64 q.a, .int .i64 q.n, .slice Ao' lo co', .slice As' ls cs', .slice Ap' lp cp'] 26)
  have H := Lib.hid (h.below bel)
  have H' := Lib.hid (h'.below bel)
  clear h h'
  go_enter Try.func24, Try.ntmps24
  go_wp2_with fail
  refine (L.same_yes_bool _ _ _ _ _ q.on _ _ _ H.out.on H'.out.on H.out.lo (by omega)).mono ?_
  rintro e w' ⟨rfl, m1, rfl⟩
  go_wp2_with fail
  refine (W.same_yes_u16 _ _ _ _ _ q.set _ _ _ (H.out.set.drewN m1) (H'.out.set.drewN m1) H.out.ls (by omega)).mono ?_
  rintro e w' ⟨rfl, m2, rfl⟩
  rw [World.drewN_drewN]
  go_wp2_with fail
  refine (same_yes_part _ _ _ _ _ q.fl _ _ _ (H.out.fl.drewN (m1 + m2)) (H'.out.fl.drewN (m1 + m2)) H.out.lp (by omega)).mono ?_
  rintro e w' ⟨rfl, m3, rfl⟩
  rw [World.drewN_drewN]
  go_wp2
  go_ret
  exact ⟨rfl, below_drewN bel _⟩

/-- KeptAsk, where the request was lent. -/
theorem KeptAsk_yes (q : Req) (Ao As Ap : Option Addr) (lo ls lp co cs cp go gs gp : Nat) (w : World) (h : Asked w w.heap.size q Ao As Ap lo ls lp) (h1 : L.Bk w go (q.on ++ L.marks5)) (h2 : W.Bk w gs (q.set ++ W.marks5)) (h3 : w.heap[gp]? = some (.cells (blk .i64 (q.fl ++ marksP)) 47 (0, 0)))
    (b1 : lo ≤ 70000) (b2 : ls ≤ 70000) (b3 : lp ≤ 70000) :
    Calls Try.prog 20 #[.agg #[.int .i64 q.c, .int .i64 q.a, .int .i64 q.n, .slice (some ⟨go, 0, none⟩) lo (lo + 5), .slice (some ⟨gs, 0, none⟩) ls (ls + 5), .slice (some ⟨gp, 0, none⟩) lp (lp + 5)], .agg #[.int .i64 q.c, .int .i64 q.a, .int .i64 q.n, .slice Ao lo co, .slice As ls cs, .slice Ap lp cp]] w
      fun e w' => e = .returned (.bool true) ∧ Below w.heap.size w w' := by
  have bel := (bel_alloc w (.cells #[.int .i64 q.c, .int .i64 q.a, .int .i64 q.n, .slice (some ⟨go, 0, none⟩) lo (lo + 5), .slice (some ⟨gs, 0, none⟩) ls (ls + 5), .slice (some ⟨gp, 0, none⟩) lp (lp + 5)] 26)).alloc (by simp) (.cells #[.int .i64 q.c, .int .i64 q.a, .int .i64 q.n, .slice Ao lo co, .slice As ls cs, .slice Ap lp cp] 26)
  have H := Lib.hid (h.below bel)
  have k1 := h1.below bel
  have k2 := h2.below bel
  have k3 := Lib.hid ((bel.block gp (block_lt h3)).trans h3)
  clear h h1 h2 h3
  go_enter Try.func20, Try.ntmps20
  go_wp2_with fail
  refine (L.kept_bool _ _ _ _ q.on _ _ H.out.on H.out.lo (by omega) k1).mono ?_
  rintro e w' ⟨rfl, m1, rfl⟩
  go_wp2_with fail
  refine (W.kept_u16 _ _ _ _ q.set _ _ (H.out.set.drewN m1) H.out.ls (by omega) (k2.drewN m1)).mono ?_
  rintro e w' ⟨rfl, m2, rfl⟩
  rw [World.drewN_drewN]
  go_wp2_with fail
  refine (kept_part _ _ _ _ q.fl _ _ (H.out.fl.drewN (m1 + m2)) H.out.lp (by omega) k3.out).mono ?_
  rintro e w' ⟨rfl, m3, rfl⟩
  rw [World.drewN_drewN]
  go_wp2
  go_ret
  exact ⟨rfl, below_drewN bel _⟩

/-- LentAsk: three new blocks, with marks behind the lists. -/
theorem LentAsk_any (q : Req) (Ao As Ap : Option Addr) (lo ls lp co cs cp : Nat) (w : World) (h : Asked w w.heap.size q Ao As Ap lo ls lp) (b1 : lo ≤ 70000) (b2 : ls ≤ 70000) (b3 : lp ≤ 70000) :
    Calls Try.prog 12 #[.agg #[.int .i64 q.c, .int .i64 q.a, .int .i64 q.n, .slice Ao lo co, .slice As ls cs, .slice Ap lp cp]] w
      fun e w' => ∃ go gs gp : Nat, e = .returned (.agg #[.int .i64 q.c, .int .i64 q.a, .int .i64 q.n, .slice (some ⟨go, 0, none⟩) lo (lo + 5), .slice (some ⟨gs, 0, none⟩) ls (ls + 5), .slice (some ⟨gp, 0, none⟩) lp (lp + 5)])
        ∧ L.Bk w' go (q.on ++ L.marks5) ∧ W.Bk w' gs (q.set ++ W.marks5) ∧ w'.heap[gp]? = some (.cells (blk .i64 (q.fl ++ marksP)) 47 (0, 0)) ∧ Below w.heap.size w w' := by
  have H := Lib.hid h
  clear h
  go_enter Try.func12, Try.ntmps12
  go_wp2_with fail
  have bel1 := (bel_alloc w (.cells #[.int .i64 q.c, .int .i64 q.a, .int .i64 q.n, .slice Ao lo co, .slice As ls cs, .slice Ap lp cp] 26)).alloc (by simp) (.cells #[.int .i64 0, .int .i64 0, .int .i64 0, .slice none 0 0, .slice none 0 0, .slice none 0 0] 26)
  refine (L.lent_bool _ _ _ q.on _ ((H.out.on.below bel1).more bel1.size) H.out.lo (by omega)).mono ?_
  rintro e w' ⟨rfl, rfl⟩
  clear bel1
  go_wp2_with fail
  have bel2 := ((bel_alloc w (.cells #[.int .i64 q.c, .int .i64 q.a, .int .i64 q.n, .slice (some ⟨w.heap.size + 1 + 1, 0, none⟩) lo (lo + 5), .slice As ls cs, .slice Ap lp cp] 26)).alloc (by simp) (.cells #[.int .i64 0, .int .i64 0, .int .i64 0, .slice none 0 0, .slice none 0 0, .slice none 0 0] 26)).alloc (by simp; omega) (.cells (L.blk () (q.on ++ L.marks5)) 4)
  refine (W.lent_u16 _ _ _ q.set _ ((H.out.set.below bel2).more bel2.size) H.out.ls (by omega)).mono ?_
  rintro e w' ⟨rfl, rfl⟩
  clear bel2
  go_wp2_with fail
  have bel3 := (((bel_alloc w (.cells #[.int .i64 q.c, .int .i64 q.a, .int .i64 q.n, .slice (some ⟨w.heap.size + 1 + 1, 0, none⟩) lo (lo + 5), .slice (some ⟨w.heap.size + 1 + 1 + 1, 0, none⟩) ls (ls + 5), .slice Ap lp cp] 26)).alloc (by simp) (.cells #[.int .i64 0, .int .i64 0, .int .i64 0, .slice none 0 0, .slice none 0 0, .slice none 0 0] 26)).alloc (by simp; omega) (.cells (L.blk () (q.on ++ L.marks5)) 4)).alloc (by simp; omega) (.cells (blk .u16 (q.set ++ W.marks5)) 45)
  refine (lent_part _ _ _ q.fl _ ((H.out.fl.below bel3).more bel3.size) H.out.lp (by omega)).mono ?_
  rintro e w' ⟨rfl, rfl⟩
  clear bel3
  go_wp2
  (try simp only [Exit.inBlock, Exit.then])
  refine bodyPost_ret (v := .agg #[.int .i64 q.c, .int .i64 q.a, .int .i64 q.n, .slice (some ⟨w.heap.size + 1 + 1, 0, none⟩) lo (lo + 5), .slice (some ⟨w.heap.size + 1 + 1 + 1, 0, none⟩) ls (ls + 5), .slice (some ⟨w.heap.size + 1 + 1 + 1 + 1, 0, none⟩) lp (lp + 5)]) (by simp [results, Try.results12, go_sem]) rfl ?_
  refine ⟨_, _, _, rfl, ?_, ?_, ?_, ?_⟩
  · exact (heap_alloc_old _ _ (by simp)).trans ((heap_alloc_old _ _ (by simp)).trans (heap_new_at _ _ (by simp)))
  · exact (heap_alloc_old _ _ (by simp)).trans (heap_new_at _ _ (by simp))
  · exact heap_new_at _ _ (by simp)
  · exact ((((bel_alloc w _).alloc (by simp) _).alloc (by simp; omega) _).alloc (by simp; omega) _).alloc (by simp; omega) _

/-- The cells of a block that is known whole, and what a store makes of it. -/
theorem box_set {w : World} {g : Nat} {cs : Array Value} {t : TypeId} (h : w.heap[g]? = some (.cells cs t (0, 0))) (i : Nat) (v : Value) : (w.setCell ⟨g, i, none⟩ v).heap[g]? = some (.cells (cs.setIfInBounds i v) t (0, 0)) := by
  simp [World.setCell, Array.getElem?_modify, h]
theorem below_setCell {B : Nat} {a w : World} {g : Nat} (h : Below B a w) (hg : B ≤ g) (i : Nat) (v : Value) : Below B a (w.setCell ⟨g, i, none⟩ v) :=
  ⟨h.os, h.tape, h.output, by simpa [World.setCell] using h.size, fun k hk => (Below.heap_setCell w ⟨g, i, none⟩ v k (by simp; omega)).trans (h.block k hk)⟩

theorem Own.set {k : IntKind} {e : TypeId} {w : World} {base : Nat} {v : Value} {xs : List Int} (h : Own k e w base v xs) {g : Nat} (hg : g < base) (i : Nat) (u : Value) : Own k e (w.setCell ⟨g, i, none⟩ u) base v xs :=
  h.kept (grown_setCell (World.grownBy.refl _ _) i u) (.inr fun hv => by have := (h.block g hv).1; omega)
theorem L.Own.set {k : Unit} {e : TypeId} {w : World} {base : Nat} {v : Value} {xs : List Bool} (h : L.Own k e w base v xs) {g : Nat} (hg : g < base) (i : Nat) (u : Value) : L.Own k e (w.setCell ⟨g, i, none⟩ u) base v xs :=
  h.kept (grown_setCell (World.grownBy.refl _ _) i u) (.inr fun hv => by have := (h.block g hv).1; omega)
theorem POwn.set {e : TypeId} {w : World} {base : Nat} {v : Value} {fl : List Int} (h : POwn e w base v fl) {g : Nat} (hg : g < base) (i : Nat) (u : Value) : POwn e (w.setCell ⟨g, i, none⟩ u) base v fl := by
  rcases h with h | ⟨g', n, cap, r, h1, h2, h3, h4, h5⟩
  · exact .inl h
  · exact .inr ⟨g', n, cap, r, h1, h2, h3, (Below.heap_setCell w ⟨g, i, none⟩ u g' (by simp; omega)).trans h4, h5⟩

/-- Six cells of a block are written. -/
def put6 (w : World) (g : Nat) (v0 v1 v2 v3 v4 v5 : Value) : World :=
  (((((w.setCell ⟨g, 0, none⟩ v0).setCell ⟨g, 1, none⟩ v1).setCell ⟨g, 2, none⟩ v2).setCell ⟨g, 3, none⟩ v3).setCell ⟨g, 4, none⟩ v4).setCell ⟨g, 5, none⟩ v5
theorem put6_heap {w : World} {g : Nat} {t : TypeId} {u0 u1 u2 u3 u4 u5 : Value} (h : w.heap[g]? = some (.cells #[u0, u1, u2, u3, u4, u5] t (0, 0))) (v0 v1 v2 v3 v4 v5 : Value) :
    (put6 w g v0 v1 v2 v3 v4 v5).heap[g]? = some (.cells #[v0, v1, v2, v3, v4, v5] t (0, 0)) :=
  box_set (box_set (box_set (box_set (box_set (box_set h 0 v0) 1 v1) 2 v2) 3 v3) 4 v4) 5 v5
theorem Own.put6 {k : IntKind} {e : TypeId} {w : World} {base : Nat} {v : Value} {xs : List Int} (h : Own k e w base v xs) {g : Nat} (hg : g < base) (v0 v1 v2 v3 v4 v5 : Value) : Own k e (put6 w g v0 v1 v2 v3 v4 v5) base v xs :=
  (((((h.set hg 0 v0).set hg 1 v1).set hg 2 v2).set hg 3 v3).set hg 4 v4).set hg 5 v5
theorem L.Own.put6 {k : Unit} {e : TypeId} {w : World} {base : Nat} {v : Value} {xs : List Bool} (h : L.Own k e w base v xs) {g : Nat} (hg : g < base) (v0 v1 v2 v3 v4 v5 : Value) : L.Own k e (put6 w g v0 v1 v2 v3 v4 v5) base v xs :=
  (((((h.set hg 0 v0).set hg 1 v1).set hg 2 v2).set hg 3 v3).set hg 4 v4).set hg 5 v5
theorem POwn.put6 {e : TypeId} {w : World} {base : Nat} {v : Value} {fl : List Int} (h : POwn e w base v fl) {g : Nat} (hg : g < base) (v0 v1 v2 v3 v4 v5 : Value) : POwn e (put6 w g v0 v1 v2 v3 v4 v5) base v fl :=
  (((((h.set hg 0 v0).set hg 1 v1).set hg 2 v2).set hg 3 v3).set hg 4 v4).set hg 5 v5
theorem below_put6 {B : Nat} {a w : World} {g : Nat} (h : Below B a w) (hg : B ≤ g) (v0 v1 v2 v3 v4 v5 : Value) : Below B a (put6 w g v0 v1 v2 v3 v4 v5) :=
  below_setCell (below_setCell (below_setCell (below_setCell (below_setCell (below_setCell h hg 0 v0) hg 1 v1) hg 2 v2) hg 3 v3) hg 4 v4) hg 5 v5
/-- The six cells of a block that is known whole. -/
theorem cells6 {w : World} {g : Nat} {t : TypeId} {v0 v1 v2 v3 v4 v5 : Value} (h : w.heap[g]? = some (.cells #[v0, v1, v2, v3, v4, v5] t (0, 0))) :
    (w.cell? ⟨g, 0, none⟩ = some v0 ∧ w.cell? ⟨g, 1, none⟩ = some v1 ∧ w.cell? ⟨g, 2, none⟩ = some v2) ∧ (w.cell? ⟨g, 3, none⟩ = some v3 ∧ w.cell? ⟨g, 4, none⟩ = some v4 ∧ w.cell? ⟨g, 5, none⟩ = some v5) ∧ ∀ i, w.frozen? ⟨g, i, none⟩ = false :=
  ⟨⟨cell_of_row w g 0 _ _ _ h, cell_of_row w g 1 _ _ _ h, cell_of_row w g 2 _ _ _ h⟩, ⟨cell_of_row w g 3 _ _ _ h, cell_of_row w g 4 _ _ _ h, cell_of_row w g 5 _ _ _ h⟩, fun i => block_frozen w g i _ _ h⟩

/-- CopyAsk: the same request, in memory of its own. -/
theorem CopyAsk_any (q : Req) (Ao As Ap : Option Addr) (lo ls lp co cs cp : Nat) (w : World) (h : Asked w w.heap.size q Ao As Ap lo ls lp) (b1 : lo ≤ 70000) (b2 : ls ≤ 70000) (b3 : lp ≤ 70000) :
    Calls Try.prog 29 #[.agg #[.int .i64 q.c, .int .i64 q.a, .int .i64 q.n, .slice Ao lo co, .slice As ls cs, .slice Ap lp cp]] w
      fun e w' => ∃ vo vs vp, e = .returned (.agg #[.int .i64 q.c, .int .i64 q.a, .int .i64 q.n, vo, vs, vp]) ∧ L.Own () 4 w' w.heap.size vo q.on ∧ Own .u16 45 w' w.heap.size vs q.set ∧ POwn 47 w' w.heap.size vp q.fl ∧ Below w.heap.size w w' := by
  have H := Lib.hid h
  clear h
  go_enter Try.func29, Try.ntmps29
  go_wp2_with fail
  have bel1 := (bel_alloc w (.cells #[.int .i64 q.c, .int .i64 q.a, .int .i64 q.n, .slice Ao lo co, .slice As ls cs, .slice Ap lp cp] 26)).alloc (by simp) (.cells #[.int .i64 0, .int .i64 0, .int .i64 0, .slice none 0 0, .slice none 0 0, .slice none 0 0] 26)
  have hbox : Hid (((w.alloc (.cells #[.int .i64 q.c, .int .i64 q.a, .int .i64 q.n, .slice Ao lo co, .slice As ls cs, .slice Ap lp cp] 26)).alloc (.cells #[.int .i64 0, .int .i64 0, .int .i64 0, .slice none 0 0, .slice none 0 0, .slice none 0 0] 26)).heap[w.heap.size]? = some (.cells #[.int .i64 q.c, .int .i64 q.a, .int .i64 q.n, .slice Ao lo co, .slice As ls cs, .slice Ap lp cp] 26 (0, 0))) := Lib.hid ((heap_alloc_old _ _ (by simp)).trans (heap_alloc_new _ _))
  have hret : Hid (((w.alloc (.cells #[.int .i64 q.c, .int .i64 q.a, .int .i64 q.n, .slice Ao lo co, .slice As ls cs, .slice Ap lp cp] 26)).alloc (.cells #[.int .i64 0, .int .i64 0, .int .i64 0, .slice none 0 0, .slice none 0 0, .slice none 0 0] 26)).heap[w.heap.size + 1]? = some (.cells #[.int .i64 0, .int .i64 0, .int .i64 0, .slice none 0 0, .slice none 0 0, .slice none 0 0] 26 (0, 0))) := Lib.hid (by have := heap_alloc_new (w.alloc (.cells #[.int .i64 q.c, .int .i64 q.a, .int .i64 q.n, .slice Ao lo co, .slice As ls cs, .slice Ap lp cp] 26)) (.cells #[.int .i64 0, .int .i64 0, .int .i64 0, .slice none 0 0, .slice none 0 0, .slice none 0 0] 26); simpa using this)
  refine (L.copy_bool _ _ _ q.on _ ((H.out.on.below bel1).more bel1.size) H.out.lo (by omega)).mono ?_
  rintro e w1 ⟨vo, rfl, own1, b⟩
  obtain ⟨A1, c1, rfl, _, _, _⟩ := own1.row (fun _ _ => rfl)
  rw [H.out.lo] at own1 ⊢
  have box1 := Lib.hid ((b.block w.heap.size (by simp; omega)).trans hbox.out)
  have ret1 := Lib.hid ((b.block (w.heap.size + 1) (by simp)).trans hret.out)
  have bel2 := bel1.trans (b.mono bel1.size)
  have hx : w.heap.size + 2 ≤ ((w.alloc (.cells #[.int .i64 q.c, .int .i64 q.a, .int .i64 q.n, .slice Ao lo co, .slice As ls cs, .slice Ap lp cp] 26)).alloc (.cells #[.int .i64 0, .int .i64 0, .int .i64 0, .slice none 0 0, .slice none 0 0, .slice none 0 0] 26)).heap.size := by simp
  have hs2 := b.size
  clear hbox hret bel1 b
  generalize ((w.alloc (.cells #[.int .i64 q.c, .int .i64 q.a, .int .i64 q.n, .slice Ao lo co, .slice As ls cs, .slice Ap lp cp] 26)).alloc (.cells #[.int .i64 0, .int .i64 0, .int .i64 0, .slice none 0 0, .slice none 0 0, .slice none 0 0] 26)).heap.size = x at *
  have own2 := Lib.hid (own1.set (g := w.heap.size) (by omega) 3 (.slice A1 lo c1))
  have f1 := block_frozen w1 w.heap.size 3 _ _ box1.out
  have c13 := cell_of_row w1 w.heap.size 3 _ _ _ box1.out
  have c14 := cell_of_row w1 w.heap.size 4 _ _ _ box1.out
  have box2 : Hid ((w1.setCell ⟨w.heap.size, 3, none⟩ (.slice A1 lo c1)).heap[w.heap.size]? = some (.cells #[.int .i64 q.c, .int .i64 q.a, .int .i64 q.n, .slice A1 lo c1, .slice As ls cs, .slice Ap lp cp] 26 (0, 0))) := Lib.hid (box_set box1.out 3 _)
  have ret2 := Lib.hid ((Below.heap_setCell w1 ⟨w.heap.size, 3, none⟩ (.slice A1 lo c1) (w.heap.size + 1) (by simp)).trans ret1.out)
  have bel3 := below_setCell bel2 (Nat.le_refl _) 3 (.slice A1 lo c1)
  have hs3 : x ≤ (w1.setCell ⟨w.heap.size, 3, none⟩ (.slice A1 lo c1)).heap.size := by simpa [World.setCell] using hs2
  clear own1 bel2 ret1 box1
  go_wp2_with fail
  clear f1 c13 c14 hs2
  generalize w1.setCell ⟨w.heap.size, 3, none⟩ (.slice A1 lo c1) = w2 at *
  refine (W.copy_u16 _ _ _ q.set _ ((H.out.set.below bel3).more bel3.size) H.out.ls (by omega)).mono ?_
  rintro e w3 ⟨vs, rfl, own3, b⟩
  obtain ⟨A3, c3, rfl, _, _, _⟩ := own3.row H.out.set.1
  rw [H.out.ls] at own3 ⊢
  have own4 := Lib.hid ((own3.mono hs3).set (g := w.heap.size) (by omega) 4 (.slice A3 ls c3))
  have own5 := Lib.hid ((own2.out.below b (Nat.le_refl _)).set (g := w.heap.size) (by omega) 4 (.slice A3 ls c3))
  have box3 := Lib.hid ((b.block w.heap.size (by omega)).trans box2.out)
  have ret3 := Lib.hid ((b.block (w.heap.size + 1) (by omega)).trans ret2.out)
  have bel4 := bel3.trans (b.mono bel3.size)
  have hs4 := b.size
  clear own2 own3 box2 ret2 bel3 b
  have f1 := block_frozen w3 w.heap.size 4 _ _ box3.out
  have c13 := cell_of_row w3 w.heap.size 4 _ _ _ box3.out
  have c14 := cell_of_row w3 w.heap.size 5 _ _ _ box3.out
  have box4 : Hid ((w3.setCell ⟨w.heap.size, 4, none⟩ (.slice A3 ls c3)).heap[w.heap.size]? = some (.cells #[.int .i64 q.c, .int .i64 q.a, .int .i64 q.n, .slice A1 lo c1, .slice A3 ls c3, .slice Ap lp cp] 26 (0, 0))) := Lib.hid (box_set box3.out 4 _)
  have ret4 := Lib.hid ((Below.heap_setCell w3 ⟨w.heap.size, 4, none⟩ (.slice A3 ls c3) (w.heap.size + 1) (by simp)).trans ret3.out)
  have bel5 := below_setCell bel4 (Nat.le_refl _) 4 (.slice A3 ls c3)
  have hs5 : x ≤ (w3.setCell ⟨w.heap.size, 4, none⟩ (.slice A3 ls c3)).heap.size := by
    have : x ≤ w3.heap.size := by omega
    simpa [World.setCell] using this
  clear bel4 ret3 box3
  go_wp2_with fail
  clear f1 c13 c14 hs4 hs3
  generalize w3.setCell ⟨w.heap.size, 4, none⟩ (.slice A3 ls c3) = w4 at *
  refine (copy_part _ _ _ q.fl _ ((H.out.fl.below bel5).more bel5.size) H.out.lp (by omega)).mono ?_
  rintro e w5 ⟨vp, rfl, own6, b⟩
  obtain ⟨A5, n5, c5, rfl, _, e5, _, _⟩ := own6.row H.out.fl.1
  obtain rfl : n5 = lp := by have := H.out.lp; omega
  have box5 := Lib.hid ((b.block w.heap.size (by omega)).trans box4.out)
  have ret5 := Lib.hid ((b.block (w.heap.size + 1) (by omega)).trans ret4.out)
  have bel6 := bel5.trans (b.mono bel5.size)
  have P1 := Lib.hid ((((own6.mono hs5).set (g := w.heap.size) (by omega) 5 (.slice A5 n5 c5)).put6 (g := w.heap.size + 1) (by omega) (.int .i64 q.c) (.int .i64 q.a) (.int .i64 q.n) (.slice A1 lo c1) (.slice A3 ls c3) (.slice A5 n5 c5)).mono (base' := w.heap.size) (by omega))
  have P2 := Lib.hid ((((own4.out.below b (Nat.le_refl _)).set (g := w.heap.size) (by omega) 5 (.slice A5 n5 c5)).put6 (g := w.heap.size + 1) (by omega) (.int .i64 q.c) (.int .i64 q.a) (.int .i64 q.n) (.slice A1 lo c1) (.slice A3 ls c3) (.slice A5 n5 c5)).mono (base' := w.heap.size) (by omega))
  have P3 := Lib.hid ((((own5.out.below b (Nat.le_refl _)).set (g := w.heap.size) (by omega) 5 (.slice A5 n5 c5)).put6 (g := w.heap.size + 1) (by omega) (.int .i64 q.c) (.int .i64 q.a) (.int .i64 q.n) (.slice A1 lo c1) (.slice A3 ls c3) (.slice A5 n5 c5)).mono (base' := w.heap.size) (by omega))
  have P4 := Lib.hid (below_put6 (below_setCell bel6 (Nat.le_refl _) 5 (.slice A5 n5 c5)) (g := w.heap.size + 1) (by omega) (.int .i64 q.c) (.int .i64 q.a) (.int .i64 q.n) (.slice A1 lo c1) (.slice A3 ls c3) (.slice A5 n5 c5))
  have P5 := Lib.hid (put6_heap ((Below.heap_setCell w5 ⟨w.heap.size, 5, none⟩ (.slice A5 n5 c5) (w.heap.size + 1) (by simp)).trans ret5.out) (.int .i64 q.c) (.int .i64 q.a) (.int .i64 q.n) (.slice A1 lo c1) (.slice A3 ls c3) (.slice A5 n5 c5))
  clear own4 own5 own6 box4 ret4 bel5 b e5
  obtain ⟨⟨c10, c11, c12⟩, ⟨c13, c14, c15⟩, c16⟩ := cells6 box5.out
  obtain ⟨⟨d10, d11, d12⟩, ⟨d13, d14, d15⟩, d16⟩ := cells6 ret5.out
  go_wp2
  (try simp only [Exit.inBlock, Exit.then])
  show bodyPost _ _ _ _ _ (put6 (w5.setCell ⟨w.heap.size, 5, none⟩ (.slice A5 n5 c5)) (w.heap.size + 1) (.int .i64 q.c) (.int .i64 q.a) (.int .i64 q.n) (.slice A1 lo c1) (.slice A3 ls c3) (.slice A5 n5 c5))
  generalize put6 (w5.setCell ⟨w.heap.size, 5, none⟩ (.slice A5 n5 c5)) (w.heap.size + 1) (.int .i64 q.c) (.int .i64 q.a) (.int .i64 q.n) (.slice A1 lo c1) (.slice A3 ls c3) (.slice A5 n5 c5) = w6 at *
  clear c10 c11 c12 c13 c14 c15 c16 d10 d11 d12 d13 d14 d15 d16
  obtain ⟨⟨d10, d11, d12⟩, ⟨d13, d14, d15⟩, d16⟩ := cells6 P5.out
  refine bodyPost_ret (v := .agg #[.int .i64 q.c, .int .i64 q.a, .int .i64 q.n, .slice A1 lo c1, .slice A3 ls c3, .slice A5 n5 c5]) (by simp [results, Try.results29, go_sem, *]) rfl ?_
  exact ⟨_, _, _, rfl, P3.out, P2.out, P1.out, P4.out⟩
end Go.Proofs.Ytojjcmkadmofdaa
