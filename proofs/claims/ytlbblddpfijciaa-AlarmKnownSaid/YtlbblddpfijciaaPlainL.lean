/-
  Plain words for the walks of this seat: rows of integers in memory, and what keeps them.
-/
import Derived.Test.YtlbblddpfijciaaPlain
import Derived.WalkKit
import Derived.WalkSpells
import Derived.WalkLawsBesides
import Derived.Outline
import Derived.Lib.Hide
import Derived.Deep.QuietTactic
import Derived.BigQuiet
import Derived.Deep.Draws
namespace Go.Proofs.Ytlbblddpfijciaa.L
open Go.RowKit
set_option linter.unusedVariables false

/-- The i-th number of a list, behind a name that the walk's simp does not open. -/
def nth (l : List Bool) (i : Nat) : Bool := l.getD i false
theorem nth_eq (l : List Bool) (i : Nat) (h : i < l.length) : nth l i = l[i] := by simp [nth, List.getD_eq_getElem?_getD, List.getElem?_eq_getElem h]
theorem nth_mem (l : List Bool) (i : Nat) (h : i < l.length) : nth l i ∈ l := by rw [nth_eq l i h]; exact List.getElem_mem h
theorem nth_left (l m : List Bool) (i : Nat) (h : i < l.length) : nth (l ++ m) i = nth l i := by
  rw [nth_eq _ _ h, nth_eq _ _ (by simp; omega)]; exact List.getElem_append_left h
theorem nth_right (l m : List Bool) (i : Nat) : nth (l ++ m) (l.length + i) = nth m i := by
  simp [nth, List.getD_eq_getElem?_getD, List.getElem?_append_right]
theorem nth_replicate (n i : Nat) (v : Bool) (h : i < n) : nth (List.replicate n v) i = v := by rw [nth_eq _ _ (by simpa using h)]; simp
theorem ext_nth (a b : List Bool) (hl : a.length = b.length) (h : ∀ i, i < a.length → nth a i = nth b i) : a = b := by
  refine List.ext_getElem hl fun i h1 h2 => ?_
  rw [← nth_eq a i h1, ← nth_eq b i h2]; exact h i h1

/-- The cells of a row of integers. -/
def blk (k : Unit) (l : List Bool) : Array Value := (l.map (Value.bool)).toArray

theorem blk_size (k : Unit) (l : List Bool) : (blk k l).size = l.length := by simp [blk]
theorem blk_get (k : Unit) (l : List Bool) (i : Nat) (h : i < l.length) : (blk k l)[i]? = some (.bool (nth l i)) := by
  simp [blk, List.getElem?_eq_getElem h, nth_eq l i h]
theorem blk_set (k : Unit) (l : List Bool) (i : Nat) (v : Bool) : (blk k l).setIfInBounds i (.bool v) = blk k (l.set i v) := by
  simp [blk, List.map_set]

/-- A slice that reads as the list xs of integers of kind k, in blocks below B. -/
def Row (k : Unit) (w : World) (B : Nat) (A : Option Addr) (xs : List Bool) : Prop :=
  (∀ x ∈ xs, (Lit.bool x).wf = true) ∧ (0 < xs.length → ∃ b o, A = some ⟨b, o, none⟩ ∧ b < B ∧ ∀ i, i < xs.length → w.cell? ⟨b, o + i, none⟩ = some (.bool (nth xs i)))

theorem Row.keep {k : Unit} {w w' : World} {B : Nat} {A : Option Addr} {xs : List Bool} (h : Row k w B A xs) (hk : ∀ b o, b < B → w'.cell? ⟨b, o, none⟩ = w.cell? ⟨b, o, none⟩) : Row k w' B A xs := by
  refine ⟨h.1, fun hn => ?_⟩
  obtain ⟨b, o, e, hb, hc⟩ := h.2 hn
  exact ⟨b, o, e, hb, fun i hi => (hk _ _ hb).trans (hc i hi)⟩
theorem Row.more {k : Unit} {w : World} {B B' : Nat} {A : Option Addr} {xs : List Bool} (h : Row k w B A xs) (hB : B ≤ B') : Row k w B' A xs := by
  refine ⟨h.1, fun hn => ?_⟩
  obtain ⟨b, o, e, hb, hc⟩ := h.2 hn
  exact ⟨b, o, e, by omega, hc⟩
theorem Row.below {k : Unit} {w w' : World} {B : Nat} {A : Option Addr} {xs : List Bool} (h : Row k w B A xs) (hb : Below B w w') : Row k w' B A xs :=
  h.keep fun b o hlt => hb.cell (p := ⟨b, o, none⟩) hlt
theorem Row.alloc {k : Unit} {w : World} {B : Nat} {A : Option Addr} {xs : List Bool} (h : Row k w B A xs) (hB : B ≤ w.heap.size) (o : Obj) : Row k (w.alloc o) B A xs :=
  h.below ((Below.refl _ _).alloc hB o)
theorem Row.drewN {k : Unit} {w : World} {B : Nat} {A : Option Addr} {xs : List Bool} (h : Row k w B A xs) (n : Nat) : Row k (w.drewN n) B A xs := h
theorem Row.nil (k : Unit) (w : World) (B : Nat) (A : Option Addr) : Row k w B A [] := ⟨by simp, by simp⟩
/-- A row that lies at the head of a new block. -/
theorem Row.new (k : Unit) (w : World) (t : TypeId) (l xs : List Bool) (hw : ∀ x ∈ xs, (Lit.bool x).wf = true) (hp : xs <+: l) :
    Row k (w.alloc (.cells (blk k l) t)) (w.heap.size + 1) (some ⟨w.heap.size, 0, none⟩) xs := by
  obtain ⟨ys, rfl⟩ := hp
  refine ⟨hw, fun _ => ⟨_, _, rfl, Nat.lt_succ_self _, fun i hi => ?_⟩⟩
  rw [World.cell?_alloc_at _ _ _ _ rfl, Nat.zero_add, blk_get _ _ _ (by simp; omega), nth_left _ _ _ hi]
/-- A row at the head of a block that is known whole, whatever of it is frozen. -/
theorem Row.of_block {k : Unit} {w : World} {g : Nat} {t : TypeId} {fr : Nat × Nat} {l : List Bool} (hg : w.heap[g]? = some (.cells (blk k l) t fr)) (xs : List Bool) (hw : ∀ x ∈ xs, (Lit.bool x).wf = true) (hp : xs <+: l) :
    Row k w (g + 1) (some ⟨g, 0, none⟩) xs := by
  obtain ⟨ys, rfl⟩ := hp
  refine ⟨hw, fun _ => ⟨_, _, rfl, Nat.lt_succ_self _, fun i hi => ?_⟩⟩
  rw [Nat.zero_add, cell_of_row w g i _ _ _ hg, blk_get _ _ _ (by simp; omega), nth_left _ _ _ hi]
/-- One cell of a row, for the walk. -/
theorem Row.at_ {k : Unit} {w : World} {B : Nat} {A : Option Addr} {xs : List Bool} (h : Row k w B A xs) {i : Nat} (hi : i < xs.length) :
    ∃ b o, A = some ⟨b, o, none⟩ ∧ b < B ∧ w.cell? ⟨b, o + i, none⟩ = some (.bool (nth xs i)) := by
  obtain ⟨b, o, e, hb, hc⟩ := h.2 (by omega)
  exact ⟨b, o, e, hb, hc i hi⟩
theorem Row.wf_at {k : Unit} {w : World} {B : Nat} {A : Option Addr} {xs : List Bool} (h : Row k w B A xs) {i : Nat} (hi : i < xs.length) : (Lit.bool (nth xs i)).wf = true := h.1 _ (nth_mem _ _ hi)

theorem wf_append {k : Unit} {xs ys : List Bool} (h : ∀ x ∈ xs, (Lit.bool x).wf = true) (h' : ∀ x ∈ ys, (Lit.bool x).wf = true) : ∀ x ∈ xs ++ ys, (Lit.bool x).wf = true := fun x hx => (List.mem_append.1 hx).elim (h x) (h' x)
theorem take_step (xs : List Bool) (k : Nat) (h : k < xs.length) : xs.take (k + 1) = xs.take k ++ [nth xs k] := by
  rw [List.take_succ_eq_append_getElem h, nth_eq xs k h]
/-- The k-th place of what is filled up to k is written. -/
theorem set_step (l : List Bool) (m k : Nat) (v x : Bool) (h : l.length = k) : (l ++ List.replicate (m + 1) v).set k x = l ++ [x] ++ List.replicate m v := by
  rw [List.set_append_right _ _ (by omega)]
  simp [h, List.replicate_succ]
theorem fill_cell (k : Unit) (l : List Bool) (m i : Nat) (v : Bool) (h : l.length = i) (hm : 0 < m) : (blk k (l ++ List.replicate m v))[i]? = some (.bool v) := by
  rw [blk_get _ _ _ (by simp; omega)]
  subst h
  have := nth_right l (List.replicate m v) 0
  rw [Nat.add_zero] at this
  rw [this, nth_replicate _ _ _ hm]
end Go.Proofs.Ytlbblddpfijciaa.L
