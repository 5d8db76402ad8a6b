/-
  Texts of the proof of SegsOpens, joined.
-/
import Derived.WalkKit
import Derived.WalkSpells
import Derived.WalkLawsBesides
import Derived.Outline
import Derived.Lib.Hide
import Derived.Deep.QuietTactic
import Derived.BigQuiet
import Derived.Deep.Draws
import Derived.Deep.AppendLies
import Derived.Deep.MidRow
import Derived.Test.YtbdhhmhlcdganaaGreatDoorRows
import Derived.Laws.AppendOwn
import Derived.Lib.LaidTab
import Derived.Lib.ItoaNum
import Derived.MakeChecks
import Derived.LaidMore
import Derived.Stop.LaidErr
import Derived.ProofKit
import Derived.OpenShut
import Derived.ShutString
import Derived.ChangeOld
import Derived.SizedLaws
import Derived.Deep.Slices
import Derived.Deep.Fields
import Derived.ChangeSame
import Derived.Test.YtbdhhmhlcdganaaGreatDoorProg
import Derived.Deep.Grids
namespace Go.Proofs.YtbdhhmhlcdganaaGreatDoor
open Go.RowKit

def nth (l : List Int) (i : Nat) : Int := l.getD i 0
theorem nth_eq (l : List Int) (i : Nat) (h : i < l.length) : nth l i = l[i] := by simp [nth, List.getD_eq_getElem?_getD, List.getElem?_eq_getElem h]
theorem nth_mem (l : List Int) (i : Nat) (h : i < l.length) : nth l i ∈ l := by rw [nth_eq l i h]; exact List.getElem_mem h
theorem nth_left (l m : List Int) (i : Nat) (h : i < l.length) : nth (l ++ m) i = nth l i := by
  rw [nth_eq _ _ h, nth_eq _ _ (by simp; omega)]; exact List.getElem_append_left h
theorem nth_right (l m : List Int) (i : Nat) : nth (l ++ m) (l.length + i) = nth m i := by
  simp [nth, List.getD_eq_getElem?_getD, List.getElem?_append_right]
theorem nth_replicate (n i : Nat) (v : Int) (h : i < n) : nth (List.replicate n v) i = v := by rw [nth_eq _ _ (by simpa using h)]; simp
theorem ext_nth (a b : List Int) (hl : a.length = b.length) (h : ∀ i, i < a.length → nth a i = nth b i) : a = b := by
  refine List.ext_getElem hl fun i h1 h2 => ?_
  rw [← nth_eq a i h1, ← nth_eq b i h2]; exact h i h1

def blk (k : IntKind) (l : List Int) : Array Value := (l.map (Value.int k)).toArray

theorem blk_size (k : IntKind) (l : List Int) : (blk k l).size = l.length := by simp [blk]
theorem blk_get (k : IntKind) (l : List Int) (i : Nat) (h : i < l.length) : (blk k l)[i]? = some (.int k (nth l i)) := by
  simp [blk, List.getElem?_eq_getElem h, nth_eq l i h]
theorem blk_set (k : IntKind) (l : List Int) (i : Nat) (v : Int) : (blk k l).setIfInBounds i (.int k v) = blk k (l.set i v) := by
  simp [blk, List.map_set]

def Row (k : IntKind) (w : World) (B : Nat) (A : Option Addr) (xs : List Int) : Prop :=
  (∀ x ∈ xs, (Lit.int k x).wf = true) ∧ (0 < xs.length → ∃ b o, A = some ⟨b, o, none⟩ ∧ b < B ∧ ∀ i, i < xs.length → w.cell? ⟨b, o + i, none⟩ = some (.int k (nth xs i)))

theorem Row.keep {k : IntKind} {w w' : World} {B : Nat} {A : Option Addr} {xs : List Int} (h : Row k w B A xs) (hk : ∀ b o, b < B → w'.cell? ⟨b, o, none⟩ = w.cell? ⟨b, o, none⟩) : Row k w' B A xs := by
  refine ⟨h.1, fun hn => ?_⟩
  obtain ⟨b, o, e, hb, hc⟩ := h.2 hn
  exact ⟨b, o, e, hb, fun i hi => (hk _ _ hb).trans (hc i hi)⟩
theorem Row.more {k : IntKind} {w : World} {B B' : Nat} {A : Option Addr} {xs : List Int} (h : Row k w B A xs) (hB : B ≤ B') : Row k w B' A xs := by
  refine ⟨h.1, fun hn => ?_⟩
  obtain ⟨b, o, e, hb, hc⟩ := h.2 hn
  exact ⟨b, o, e, by omega, hc⟩
theorem Row.below {k : IntKind} {w w' : World} {B : Nat} {A : Option Addr} {xs : List Int} (h : Row k w B A xs) (hb : Below B w w') : Row k w' B A xs :=
  h.keep fun b o hlt => hb.cell (p := ⟨b, o, none⟩) hlt
theorem Row.alloc {k : IntKind} {w : World} {B : Nat} {A : Option Addr} {xs : List Int} (h : Row k w B A xs) (hB : B ≤ w.heap.size) (o : Obj) : Row k (w.alloc o) B A xs :=
  h.below ((Below.refl _ _).alloc hB o)
theorem Row.drewN {k : IntKind} {w : World} {B : Nat} {A : Option Addr} {xs : List Int} (h : Row k w B A xs) (n : Nat) : Row k (w.drewN n) B A xs := h
theorem Row.nil (k : IntKind) (w : World) (B : Nat) (A : Option Addr) : Row k w B A [] := ⟨by simp, by simp⟩
theorem Row.new (k : IntKind) (w : World) (t : TypeId) (l xs : List Int) (hw : ∀ x ∈ xs, (Lit.int k x).wf = true) (hp : xs <+: l) :
    Row k (w.alloc (.cells (blk k l) t)) (w.heap.size + 1) (some ⟨w.heap.size, 0, none⟩) xs := by
  obtain ⟨ys, rfl⟩ := hp
  refine ⟨hw, fun _ => ⟨_, _, rfl, Nat.lt_succ_self _, fun i hi => ?_⟩⟩
  rw [World.cell?_alloc_at _ _ _ _ rfl, Nat.zero_add, blk_get _ _ _ (by simp; omega), nth_left _ _ _ hi]
theorem Row.of_block {k : IntKind} {w : World} {g : Nat} {t : TypeId} {fr : Nat × Nat} {l : List Int} (hg : w.heap[g]? = some (.cells (blk k l) t fr)) (xs : List Int) (hw : ∀ x ∈ xs, (Lit.int k x).wf = true) (hp : xs <+: l) :
    Row k w (g + 1) (some ⟨g, 0, none⟩) xs := by
  obtain ⟨ys, rfl⟩ := hp
  refine ⟨hw, fun _ => ⟨_, _, rfl, Nat.lt_succ_self _, fun i hi => ?_⟩⟩
  rw [Nat.zero_add, cell_of_row w g i _ _ _ hg, blk_get _ _ _ (by simp; omega), nth_left _ _ _ hi]
theorem Row.at_ {k : IntKind} {w : World} {B : Nat} {A : Option Addr} {xs : List Int} (h : Row k w B A xs) {i : Nat} (hi : i < xs.length) :
    ∃ b o, A = some ⟨b, o, none⟩ ∧ b < B ∧ w.cell? ⟨b, o + i, none⟩ = some (.int k (nth xs i)) := by
  obtain ⟨b, o, e, hb, hc⟩ := h.2 (by omega)
  exact ⟨b, o, e, hb, hc i hi⟩
theorem Row.wf_at {k : IntKind} {w : World} {B : Nat} {A : Option Addr} {xs : List Int} (h : Row k w B A xs) {i : Nat} (hi : i < xs.length) : (Lit.int k (nth xs i)).wf = true := h.1 _ (nth_mem _ _ hi)

theorem wf_u8 {n : Int} (h : (Lit.int .u8 n).wf = true) : 0 ≤ n ∧ n < 256 := by
  simp [Lit.wf, IntKind.min, IntKind.max, IntKind.signed, IntKind.bits] at h; omega
theorem wf_i64 {n : Int} (h : (Lit.int .i64 n).wf = true) : -9223372036854775808 ≤ n ∧ n < 9223372036854775808 := by
  simp [Lit.wf, IntKind.min, IntKind.max, IntKind.signed, IntKind.bits] at h; omega

theorem wf_append {k : IntKind} {xs ys : List Int} (h : ∀ x ∈ xs, (Lit.int k x).wf = true) (h' : ∀ x ∈ ys, (Lit.int k x).wf = true) : ∀ x ∈ xs ++ ys, (Lit.int k x).wf = true := fun x hx => (List.mem_append.1 hx).elim (h x) (h' x)
theorem take_step (xs : List Int) (k : Nat) (h : k < xs.length) : xs.take (k + 1) = xs.take k ++ [nth xs k] := by
  rw [List.take_succ_eq_append_getElem h, nth_eq xs k h]
theorem set_step (l : List Int) (m k : Nat) (v x : Int) (h : l.length = k) : (l ++ List.replicate (m + 1) v).set k x = l ++ [x] ++ List.replicate m v := by
  rw [List.set_append_right _ _ (by omega)]
  simp [h, List.replicate_succ]
theorem fill_cell (k : IntKind) (l : List Int) (m i : Nat) (v : Int) (h : l.length = i) (hm : 0 < m) : (blk k (l ++ List.replicate m v))[i]? = some (.int k v) := by
  rw [blk_get _ _ _ (by simp; omega)]
  subst h
  have := nth_right l (List.replicate m v) 0
  rw [Nat.add_zero] at this
  rw [this, nth_replicate _ _ _ hm]
end Go.Proofs.YtbdhhmhlcdganaaGreatDoor
namespace Go.Proofs.YtbdhhmhlcdganaaGreatDoor
open Go.RowKit

def Own (k : IntKind) (e : TypeId) (w : World) (base : Nat) (v : Value) (xs : List Int) : Prop := w.ownsRow base e 1 v xs.length (xs.map (Value.int k))

theorem Own.nil (k : IntKind) (e : TypeId) (w : World) (base : Nat) : Own k e w base (.slice none 0 0) [] := ⟨by simp, .inl ⟨rfl, rfl⟩⟩
theorem Own.alloc {k : IntKind} {e : TypeId} {w : World} {base : Nat} {v : Value} {xs : List Int} (h : Own k e w base v xs) (o : Obj) : Own k e (w.alloc o) base v xs := World.ownsRow.alloc h o
theorem Own.drewN {k : IntKind} {e : TypeId} {w : World} {base : Nat} {v : Value} {xs : List Int} (h : Own k e w base v xs) (n : Nat) : Own k e (w.drewN n) base v xs := h
theorem Own.block {k : IntKind} {e : TypeId} {w : World} {base : Nat} {v : Value} {xs : List Int} (h : Own k e w base v xs) : ∀ g, v.ownBlock = some g → base ≤ g ∧ g < w.heap.size := World.ownsRow.lt h
theorem Own.kept {k : IntKind} {e : TypeId} {w w' : World} {base : Nat} {v : Value} {xs : List Int} {row : Option Nat} (h : Own k e w base v xs) (hg : w.grownBy w' row) (hne : v.ownBlock = none ∨ v.ownBlock ≠ row) : Own k e w' base v xs := World.ownsRow.kept h hg hne
theorem Own.below {k : IntKind} {e : TypeId} {w w' : World} {base B : Nat} {v : Value} {xs : List Int} (h : Own k e w base v xs) (hb : Below B w w') (hB : w.heap.size ≤ B) : Own k e w' base v xs := by
  refine h.kept (row := none) ⟨hb.os, hb.tape, hb.output, hb.size, fun i hi _ => hb.block i (by omega)⟩ ?_
  cases hv : v.ownBlock with
  | none => exact .inl rfl
  | some g => exact .inr (by simp)
theorem Own.mono {k : IntKind} {e : TypeId} {w : World} {base base' : Nat} {v : Value} {xs : List Int} (h : Own k e w base v xs) (hb : base' ≤ base) : Own k e w base' v xs := by
  refine ⟨h.1, ?_⟩
  rcases h.2 with h0 | ⟨g, cap, cur, hv, h1, r⟩
  · exact .inl h0
  · exact .inr ⟨g, cap, cur, hv, by omega, r⟩
theorem Own.row {k : IntKind} {e : TypeId} {w : World} {base : Nat} {v : Value} {xs : List Int} (h : Own k e w base v xs) (hw : ∀ x ∈ xs, (Lit.int k x).wf = true) :
    ∃ A c, v = .slice A xs.length c ∧ Row k w w.heap.size A xs ∧ xs.length ≤ c ∧ c ≤ maxLen := by
  rcases h.2 with ⟨rfl, h0⟩ | ⟨g, cap, cur, rfl, hb, hg, h1, h2, h3, h4⟩
  · have : xs = [] := List.eq_nil_of_length_eq_zero h0
    subst this
    exact ⟨none, 0, rfl, Row.nil _ _ _ _, by simp, by simp⟩
  · refine ⟨_, _, rfl, ⟨hw, fun _ => ⟨g, 0, rfl, ?_, fun i hi => ?_⟩⟩, h1, h2⟩
    · exact (Own.block (k := k) (e := e) (w := w) (base := base) (xs := xs) ⟨by simp, .inr ⟨g, cap, cur, rfl, hb, hg, h1, h2, h3, h4⟩⟩ g rfl).2
    · rw [Nat.zero_add, cell_of_row w g i cur e (0, 0) hg]
      have : (cur.toList.take (xs.length * 1))[i]? = (xs.map (Value.int k))[i]? := by rw [h4]
      rw [List.getElem?_take_of_lt (by omega)] at this
      rw [← Array.getElem?_toList, this, List.getElem?_map, List.getElem?_eq_getElem hi, nth_eq xs i hi]
      rfl

section
variable {P : Program}
end

theorem Own.made (k : IntKind) (e : TypeId) (w : World) (l : List Int) (hm : l.length ≤ maxLen) : Own k e (w.alloc (.cells (blk k l) e)) w.heap.size (.slice (some ⟨w.heap.size, 0, none⟩) 0 l.length) [] :=
  ⟨rfl, .inr ⟨_, _, _, rfl, Nat.le_refl _, heap_alloc_new w _, by simp, hm, by simp [blk_size], by simp⟩⟩
theorem Below.own {k : IntKind} {e : TypeId} {w0 w w' : World} {base : Nat} {v : Value} {xs : List Int} (hb : Below base w0 w) (hB : base ≤ w.heap.size) (h : Own k e w base v xs) (hg : w.grownBy w' v.ownBlock) : Below base w0 w' :=
  hb.grown hg hB fun g e => (h.block g e).1
theorem Row.one (k : IntKind) (w : World) (t : TypeId) (x : Int) (h : (Lit.int k x).wf = true) : Row k (w.alloc (.cells #[.int k x] t)) (w.heap.size + 1) (some ⟨w.heap.size, 0, none⟩) [x] :=
  Row.new k w t [x] [x] (by simpa using h) (List.prefix_refl _)
end Go.Proofs.YtbdhhmhlcdganaaGreatDoor
namespace Go.Proofs.YtbdhhmhlcdganaaGreatDoor
open Go.RowKit
set_option linter.unusedVariables false

theorem block_setCell (w : World) (g i : Nat) (k : IntKind) (t : TypeId) (l : List Int) (v : Int) (h : w.heap[g]? = some (.cells (blk k l) t (0, 0))) :
    (w.setCell ⟨g, i, none⟩ (.int k v)).heap[g]? = some (.cells (blk k (l.set i v)) t (0, 0)) := by
  simp [World.setCell, Array.getElem?_modify, h, blk_set]
theorem block_frozen (w : World) (g i : Nat) (cs : Array Value) (t : TypeId) (h : w.heap[g]? = some (.cells cs t (0, 0))) : w.frozen? ⟨g, i, none⟩ = false := by simp [World.frozen?, h]
theorem block_lt {w : World} {g : Nat} {o : Obj} (h : w.heap[g]? = some o) : g < w.heap.size := by
  rcases Nat.lt_or_ge g w.heap.size with hlt | hge
  · exact hlt
  · rw [Array.getElem?_eq_none hge] at h; cases h

end Go.Proofs.YtbdhhmhlcdganaaGreatDoor
namespace Go.Proofs.YtbdhhmhlcdganaaGreatDoor
open Go.RowKit
set_option linter.unusedVariables false


theorem wf_byte (n : Nat) (h : n < 256) : (Lit.int .u8 (n : Int)).wf = true := by
  simp [Lit.wf, IntKind.min, IntKind.max, IntKind.signed, IntKind.bits]; omega

theorem bel_alloc (w : World) (o : Obj) : Below w.heap.size w (w.alloc o) := (Below.refl _ _).alloc (Nat.le_refl _) o


theorem nth_drop (xs : List Int) (i j : Nat) : nth (xs.drop i) j = nth xs (i + j) := by simp [nth, List.getD_eq_getElem?_getD]
theorem Row.drop {k : IntKind} {w : World} {B b o : Nat} {xs : List Int} (h : Row k w B (some ⟨b, o, none⟩) xs) (i : Nat) : Row k w B (some ⟨b, o + i, none⟩) (xs.drop i) := by
  refine ⟨fun x hx => h.1 x (List.mem_of_mem_drop hx), fun hn => ?_⟩
  have hl : i < xs.length := by rw [List.length_drop] at hn; omega
  obtain ⟨b', o', e, hb, hc⟩ := h.2 (by omega)
  injection e with e
  injection e with e1 e2
  subst e1 e2
  refine ⟨b, o + i, rfl, hb, fun j hj => ?_⟩
  rw [List.length_drop] at hj
  rw [Nat.add_assoc, hc (i + j) (by omega), nth_drop]


theorem Own.cells {k : IntKind} {e : TypeId} {w : World} {base : Nat} {v : Value} {xs : List Int} (h : Own k e w base v xs) (hp : 0 < xs.length) :
    ∃ g cap, v = .slice (some ⟨g, 0, none⟩) xs.length cap ∧ base ≤ g ∧ g < w.heap.size ∧ xs.length ≤ cap ∧ (∀ i, i < xs.length → w.cell? ⟨g, i, none⟩ = some (.int k (nth xs i))) ∧ (∀ i, w.frozen? ⟨g, i, none⟩ = false)
      ∧ ∀ (w' : World) i x, w'.heap = w.heap → i < xs.length → Own k e (w'.setCell ⟨g, i, none⟩ (.int k x)) base v (xs.set i x) := by
  rcases h.2 with ⟨rfl, h0⟩ | ⟨g, cap, cur, rfl, hb, hg, h1, h2, h3, h4⟩
  · omega
  · refine ⟨g, cap, rfl, hb, block_lt hg, h1, fun i hi => ?_, fun i => block_frozen w g i _ _ hg, fun w' i x hw hi => ?_⟩
    · rw [cell_of_row w g i cur e (0, 0) hg]
      have : (cur.toList.take (xs.length * 1))[i]? = (xs.map (Value.int k))[i]? := by rw [h4]
      rw [List.getElem?_take_of_lt (by omega)] at this
      rw [← Array.getElem?_toList, this, List.getElem?_map, List.getElem?_eq_getElem hi, nth_eq xs i hi]
      rfl
    · unfold Own
      rw [List.length_set]
      refine ⟨by simp, .inr ⟨g, cap, cur.setIfInBounds i (.int k x), rfl, hb, ?_, h1, h2, by simpa using h3, ?_⟩⟩
      · simp [World.setCell, Array.getElem?_modify, hw, hg]
      · rw [Array.toList_setIfInBounds, List.take_set, h4, List.map_set]
theorem Own.laid {k : IntKind} {t : TypeId} {w : World} {base g : Nat} {l : List Int} {n : Nat} (hg : w.heap[g]? = some (.cells (blk k l) t (0, 0))) (hb : base ≤ g) (hl : l.length = n) (hm : n ≤ maxLen) : Own k t w base (.slice (some ⟨g, 0, none⟩) n n) l := by
  subst hl
  exact ⟨by simp, .inr ⟨g, _, _, rfl, hb, hg, Nat.le_refl _, hm, by simp [blk_size], by rw [Nat.mul_one, List.take_of_length_le (by simp [blk])]; simp [blk]⟩⟩
theorem Row.front {k : IntKind} {w : World} {B : Nat} {A : Option Addr} {xs : List Int} (h : Row k w B A xs) (m : Nat) : Row k w B A (xs.take m) := by
  refine ⟨fun x hx => h.1 x (List.mem_of_mem_take hx), fun hn => ?_⟩
  rw [List.length_take] at hn
  obtain ⟨b, o, e, hb, hc⟩ := h.2 (by omega)
  refine ⟨b, o, e, hb, fun i hi => ?_⟩
  rw [List.length_take] at hi
  rw [hc i (by omega), nth_eq _ _ (by omega), nth_eq _ _ (by rw [List.length_take]; omega), List.getElem_take]
end Go.Proofs.YtbdhhmhlcdganaaGreatDoor
namespace Go.Proofs.YtbdhhmhlcdganaaGreatDoor
open Go.RowKit
set_option linter.unusedVariables false

structure Fl where
  (nm : ByteArray) (bs : List Int) (sy : Nat)
structure Dv where
  (room : Nat) (left : Int) (off : Bool) (fs : List Fl)
def sameN (a b : ByteArray) : Bool := a.toList == b.toList
def lessN (a b : ByteArray) : Bool := Op.bytesLess a.toList b.toList
def okN (s : ByteArray) : Bool := decide (0 < s.size) && decide (s.size ≤ 16)
theorem lessN_lt (x y : List UInt8) : Op.bytesLess x y = decide (x < y) := by
  induction x generalizing y with
  | nil => cases y <;> simp [Op.bytesLess]
  | cons a x ih =>
    cases y with
    | nil => simp [Op.bytesLess]
    | cons b y =>
      have e : decide (a :: x < b :: y) = (decide (a < b) || (decide (a = b) && decide (x < y))) := by
        rw [← Bool.decide_and, ← Bool.decide_or]
        exact decide_eq_decide.2 List.cons_lt_cons_iff
      rw [Op.bytesLess, ih, e]
      by_cases h1 : a < b
      · simp [h1]
      · by_cases h2 : a = b <;> simp [h1, h2]
theorem sameN_iff {a b : ByteArray} : sameN a b = true ↔ a = b := by
  unfold sameN
  rw [beq_iff_eq]
  constructor
  · intro h
    rw [ByteArray.toList_eq, ByteArray.toList_eq] at h
    apply ByteArray.ext
    exact Array.toList_inj.1 h
  · intro h; rw [h]
theorem sameN_refl (a : ByteArray) : sameN a a = true := sameN_iff.2 rfl
theorem sameN_comm (a b : ByteArray) : sameN a b = sameN b a := by
  rw [Bool.eq_iff_iff, sameN_iff, sameN_iff]; exact eq_comm
theorem lessN_iff {a b : ByteArray} : lessN a b = true ↔ a.toList < b.toList := by unfold lessN; rw [lessN_lt, decide_eq_true_iff]
theorem lessN_trans {a b c : ByteArray} (h : lessN a b = true) (h' : lessN b c = true) : lessN a c = true := lessN_iff.2 (List.lt_trans (lessN_iff.1 h) (lessN_iff.1 h'))
theorem lessN_irrefl (a : ByteArray) : lessN a a = false := by
  cases h : lessN a a
  · rfl
  · exact absurd (lessN_iff.1 h) (List.lt_irrefl _)
theorem lessN_tri {a b : ByteArray} (h : lessN a b = false) (h' : sameN a b = false) : lessN b a = true := by
  rcases Std.lt_trichotomy a.toList b.toList with h3 | h3 | h3
  · rw [lessN_iff.2 h3] at h; cases h
  · unfold sameN at h'
    rw [h3] at h'
    simp at h'
  · exact lessN_iff.2 h3
theorem lessN_not {a b : ByteArray} (h : lessN a b = true) : lessN b a = false ∧ sameN a b = false ∧ sameN b a = false := by
  have h1 : a ≠ b := fun e => by rw [e, lessN_irrefl] at h; cases h
  refine ⟨?_, ?_, ?_⟩
  · cases h2 : lessN b a
    · rfl
    · have := lessN_trans h h2; rw [lessN_irrefl] at this; cases this
  · cases h2 : sameN a b
    · rfl
    · exact absurd (sameN_iff.1 h2) h1
  · cases h2 : sameN b a
    · rfl
    · exact absurd (sameN_iff.1 h2).symm h1

def findD (l : List Fl) (s : ByteArray) : Option Nat := l.findIdx? (fun f => sameN f.nm s)
def findZ (l : List Fl) (s : ByteArray) : Int := match findD l s with | some k => (k : Int) | none => -1
theorem findD_some {l : List Fl} {s : ByteArray} {k : Nat} (h : findD l s = some k) : ∃ hk : k < l.length, sameN l[k].nm s = true ∧ ∀ j (hj : j < k), sameN (l[j]'(by omega)).nm s = false := by
  unfold findD at h
  rw [List.findIdx?_eq_some_iff_getElem] at h
  obtain ⟨hk, h1, h2⟩ := h
  exact ⟨hk, h1, fun j hj => by simpa using h2 j hj⟩
theorem findD_none {l : List Fl} {s : ByteArray} : findD l s = none ↔ ∀ f ∈ l, sameN f.nm s = false := by
  unfold findD
  rw [List.findIdx?_eq_none_iff]
def insD : List Fl → Fl → List Fl
  | [], f => [f]
  | h :: t, f => bif lessN f.nm h.nm then f :: h :: t else h :: insD t f
def usedD (l : List Fl) : Nat := (l.map fun f => f.bs.length).sum
def spentD (d : Dv) : Dv := if 0 < d.left then { d with left := d.left - 1 } else d
def opD (d d' : Dv) : Dv × Int := if d.left = 0 then ({ d with off := true }, 10) else (d', 0)
def addF (l : List Fl) (s : ByteArray) (b : List Int) : List Fl := match findD l s with
  | some k => l.modify k (fun f => { f with bs := f.bs ++ b })
  | none => insD l ⟨s, b, 0⟩
def appD (d : Dv) (s : ByteArray) (b : List Int) : Dv × Int :=
  if okN s = false then (d, 8) else if d.off = true then (d, 10)
  else if (findD d.fs s = none ∧ d.fs.length = 64) ∨ (d.room : Int) - usedD d.fs < b.length then (d, 9)
  else opD d { spentD d with fs := addF d.fs s b }
def syncD (d : Dv) (s : ByteArray) : Dv × Int :=
  if d.off = true then (d, 10) else match findD d.fs s with
  | none => (d, 6)
  | some k => opD d { spentD d with fs := d.fs.modify k (fun f => { f with sy := f.bs.length }) }
def truncD (d : Dv) (s : ByteArray) (n : Int) : Dv × Int :=
  if d.off = true then (d, 10) else match findD d.fs s with
  | none => (d, 6)
  | some k => if n < 0 ∨ (((d.fs[k]?).map fun f => f.bs.length).getD 0 : Int) < n then (d, 3) else opD d { spentD d with fs := d.fs.modify k (fun f => { f with bs := f.bs.take n.toNat, sy := min f.sy n.toNat }) }
def outD (l : List Fl) (s : ByteArray) : List Fl := match findD l s with
  | some k => l.eraseIdx k
  | none => l
def renD (d : Dv) (s u : ByteArray) : Dv × Int :=
  if okN u = false then (d, 8) else if d.off = true then (d, 10) else match findD d.fs s with
  | none => (d, 6)
  | some k => opD d { spentD d with fs := match d.fs[k]? with
    | some f => insD (outD (d.fs.eraseIdx k) u) { f with nm := u }
    | none => d.fs }
def remD (d : Dv) (s : ByteArray) : Dv × Int :=
  if d.off = true then (d, 10) else match findD d.fs s with
  | none => (d, 6)
  | some k => opD d { spentD d with fs := d.fs.eraseIdx k }
def readE (d : Dv) (s : ByteArray) : Int := match findD d.fs s with | none => 6 | some _ => 0
def readL (d : Dv) (s : ByteArray) : List Int := match findD d.fs s with | none => [] | some k => ((d.fs[k]?).map fun f => f.bs).getD []
def namesD (d : Dv) : List ByteArray := d.fs.map fun f => f.nm
def armD (d : Dv) (n : Int) : Dv := { d with left := if n < 0 then -1 else n }
def wakeF (keep : Int) (f : Fl) : Fl := ⟨f.nm, f.bs.take (f.sy + min keep.toNat (f.bs.length - f.sy)), f.sy + min keep.toNat (f.bs.length - f.sy)⟩
def wakeD (d : Dv) (keep : Int) : Dv := { d with left := -1, off := false, fs := d.fs.map (wakeF keep) }
def newD (room : Nat) : Dv := ⟨room, -1, false, []⟩

structure Fl.Ok (f : Fl) : Prop where
  nm : okN f.nm = true
  wf : ∀ x ∈ f.bs, (Lit.int .u8 x).wf = true
  sy : f.sy ≤ f.bs.length
structure Dv.Ok (d : Dv) : Prop where
  fl : ∀ f ∈ d.fs, Fl.Ok f
  up : d.fs.Pairwise (fun a b => lessN a.nm b.nm = true)
  us : usedD d.fs ≤ d.room
  rm : d.room ≤ 16777216
  ln : d.fs.length ≤ 64
  lf : -1 ≤ d.left
  li : d.left < 9223372036854775808

theorem used_cons (f : Fl) (l : List Fl) : usedD (f :: l) = f.bs.length + usedD l := by simp [usedD]
theorem used_mem {l : List Fl} {f : Fl} (h : f ∈ l) : f.bs.length ≤ usedD l := by
  induction l with
  | nil => cases h
  | cons g l ih =>
    rw [used_cons]
    rcases List.mem_cons.1 h with rfl | h
    · omega
    · have := ih h; omega
theorem used_ins (l : List Fl) (f : Fl) : usedD (insD l f) = usedD l + f.bs.length := by
  induction l with
  | nil => simp [insD, usedD]
  | cons g l ih =>
    unfold insD
    cases lessN f.nm g.nm
    · simp only [cond_false, used_cons, ih]; omega
    · simp only [cond_true, used_cons]; omega
theorem ins_len (l : List Fl) (f : Fl) : (insD l f).length = l.length + 1 := by
  induction l with
  | nil => rfl
  | cons g l ih =>
    unfold insD
    cases lessN f.nm g.nm
    · simp only [cond_false, List.length_cons, ih]
    · rfl
theorem ins_mem {l : List Fl} {f g : Fl} (h : g ∈ insD l f) : g = f ∨ g ∈ l := by
  induction l with
  | nil => simp [insD] at h; exact .inl h
  | cons a l ih =>
    unfold insD at h
    cases hl : lessN f.nm a.nm <;> rw [hl] at h
    · simp only [cond_false, List.mem_cons] at h ⊢
      rcases h with h | h
      · exact .inr (.inl h)
      · rcases ih h with h | h
        · exact .inl h
        · exact .inr (.inr h)
    · simp only [cond_true, List.mem_cons] at h ⊢
      exact h
theorem ins_up {l : List Fl} {f : Fl} (h : l.Pairwise (fun a b => lessN a.nm b.nm = true)) (hn : ∀ g ∈ l, sameN g.nm f.nm = false) : (insD l f).Pairwise (fun a b => lessN a.nm b.nm = true) := by
  induction l with
  | nil => simp [insD]
  | cons a l ih =>
    obtain ⟨h1, h2⟩ := List.pairwise_cons.1 h
    unfold insD
    cases hl : lessN f.nm a.nm
    · simp only [cond_false]
      refine List.pairwise_cons.2 ⟨fun b hb => ?_, ih h2 (fun g hg => hn g (by simp [hg]))⟩
      rcases ins_mem hb with rfl | hb
      · exact lessN_tri hl (by rw [sameN_comm]; exact hn a (by simp))
      · exact h1 b hb
    · simp only [cond_true]
      exact List.pairwise_cons.2 ⟨fun b hb => by
        rcases List.mem_cons.1 hb with rfl | hb
        · exact hl
        · exact lessN_trans hl (h1 b hb), h⟩
theorem up_unique {l : List Fl} (h : l.Pairwise (fun a b => lessN a.nm b.nm = true)) {i j : Nat} (hi : i < l.length) (hj : j < l.length) (he : sameN l[i].nm l[j].nm = true) : i = j := by
  rcases Nat.lt_trichotomy i j with h1 | h1 | h1
  · have := List.pairwise_iff_getElem.1 h i j hi hj h1
    rw [(lessN_not this).2.1] at he; cases he
  · exact h1
  · have := List.pairwise_iff_getElem.1 h j i hj hi h1
    rw [(lessN_not this).2.2] at he; cases he
theorem erase_up {l : List Fl} (h : l.Pairwise (fun a b => lessN a.nm b.nm = true)) (k : Nat) : (l.eraseIdx k).Pairwise (fun a b => lessN a.nm b.nm = true) := h.sublist (List.eraseIdx_sublist _ _)
theorem used_erase {l : List Fl} {k : Nat} (h : k < l.length) : usedD (l.eraseIdx k) + l[k].bs.length = usedD l := by
  induction l generalizing k with
  | nil => simp at h
  | cons a l ih =>
    cases k with
    | zero => simp [used_cons]; omega
    | succ k =>
      simp only [List.eraseIdx_cons_succ, used_cons, List.getElem_cons_succ]
      have := ih (k := k) (by simpa using h)
      omega
theorem used_erase_le (l : List Fl) (k : Nat) : usedD (l.eraseIdx k) ≤ usedD l := by
  by_cases h : k < l.length
  · have := used_erase h; omega
  · rw [List.eraseIdx_of_length_le (by omega)]; exact Nat.le_refl _
theorem used_modify {l : List Fl} {k : Nat} (h : k < l.length) (f : Fl → Fl) : usedD (l.modify k f) + l[k].bs.length = usedD l + (f l[k]).bs.length := by
  induction l generalizing k with
  | nil => simp at h
  | cons a l ih =>
    cases k with
    | zero => simp [used_cons]; omega
    | succ k =>
      simp only [List.modify_succ_cons, used_cons, List.getElem_cons_succ]
      have := ih (k := k) (by simpa using h)
      omega
theorem modify_mem {l : List Fl} {k : Nat} {f : Fl → Fl} {g : Fl} (h : g ∈ l.modify k f) : g ∈ l ∨ ∃ hk : k < l.length, g = f l[k] := by
  obtain ⟨i, hi, rfl⟩ := List.mem_iff_getElem.1 h
  rw [List.length_modify] at hi
  rw [List.getElem_modify]
  by_cases e : k = i
  · subst e; rw [if_pos rfl]; exact .inr ⟨hi, rfl⟩
  · rw [if_neg e]; exact .inl (List.getElem_mem _)
theorem modify_up {l : List Fl} (h : l.Pairwise (fun a b => lessN a.nm b.nm = true)) (k : Nat) (f : Fl → Fl) (hf : ∀ g, (f g).nm = g.nm) : (l.modify k f).Pairwise (fun a b => lessN a.nm b.nm = true) := by
  rw [List.pairwise_iff_getElem] at h ⊢
  intro i j hi hj hij
  rw [List.length_modify] at hi hj
  have := h i j hi hj hij
  rw [List.getElem_modify, List.getElem_modify]
  split <;> split <;> simpa [hf] using this
theorem map_up {l : List Fl} (h : l.Pairwise (fun a b => lessN a.nm b.nm = true)) (f : Fl → Fl) (hf : ∀ g, (f g).nm = g.nm) : (l.map f).Pairwise (fun a b => lessN a.nm b.nm = true) := by
  rw [List.pairwise_map]
  exact h.imp (fun {a b} hab => by rw [hf, hf]; exact hab)
theorem spent_ok {d : Dv} (h : Dv.Ok d) {l : List Fl} (h1 : ∀ f ∈ l, Fl.Ok f) (h2 : l.Pairwise (fun a b => lessN a.nm b.nm = true)) (h3 : usedD l ≤ d.room) (h4 : l.length ≤ 64) : Dv.Ok (opD d { spentD d with fs := l }).1 := by
  unfold opD
  split
  · exact ⟨h.fl, h.up, h.us, h.rm, h.ln, h.lf, h.li⟩
  · unfold spentD
    split
    · rename_i hp
      refine ⟨h1, h2, h3, h.rm, h4, ?_, ?_⟩
      · show -1 ≤ d.left - 1; omega
      · have := h.li
        show d.left - 1 < 9223372036854775808; omega
    · exact ⟨h1, h2, h3, h.rm, h4, h.lf, h.li⟩
theorem app_ok {d : Dv} (h : Dv.Ok d) (s : ByteArray) (b : List Int) (hb : ∀ x ∈ b, (Lit.int .u8 x).wf = true) : Dv.Ok (appD d s b).1 := by
  unfold appD
  split
  · exact h
  rename_i hn
  split
  · exact h
  split
  · exact h
  rename_i hf
  have hu := h.us
  refine spent_ok h ?_ ?_ ?_ ?_
  · intro g hg
    unfold addF at hg
    cases hfd : findD d.fs s with
    | none =>
      rw [hfd] at hg
      rcases ins_mem hg with rfl | hg
      · exact ⟨by simpa using hn, hb, Nat.zero_le _⟩
      · exact h.fl g hg
    | some k =>
      rw [hfd] at hg
      rcases modify_mem hg with hg | ⟨hk, rfl⟩
      · exact h.fl g hg
      · have := h.fl _ (List.getElem_mem hk)
        exact ⟨this.nm, wf_append this.wf hb, by have := this.sy; simp only [List.length_append]; omega⟩
  · unfold addF
    cases hfd : findD d.fs s with
    | none => exact ins_up h.up (fun g hg => findD_none.1 hfd g hg)
    | some k => exact modify_up h.up k _ (fun g => rfl)
  · unfold addF
    cases hfd : findD d.fs s with
    | none => simp only [used_ins]; omega
    | some k =>
      obtain ⟨hk, _⟩ := findD_some hfd
      have := used_modify hk (fun f => { f with bs := f.bs ++ b })
      simp only [List.length_append] at this
      simp only
      omega
  · unfold addF
    cases hfd : findD d.fs s with
    | none =>
      have := h.ln
      simp only [ins_len]
      have : d.fs.length ≠ 64 := fun e => hf (.inl ⟨hfd, e⟩)
      omega
    | some k => simp only [List.length_modify]; exact h.ln
theorem sync_ok {d : Dv} (h : Dv.Ok d) (s : ByteArray) : Dv.Ok (syncD d s).1 := by
  unfold syncD
  split
  · exact h
  cases hfd : findD d.fs s with
  | none => exact h
  | some k =>
    obtain ⟨hk, _⟩ := findD_some hfd
    refine spent_ok h ?_ (modify_up h.up k _ (fun g => rfl)) ?_ (by rw [List.length_modify]; exact h.ln)
    · intro g hg
      rcases modify_mem hg with hg | ⟨hk, rfl⟩
      · exact h.fl g hg
      · have := h.fl _ (List.getElem_mem hk)
        exact ⟨this.nm, this.wf, Nat.le_refl _⟩
    · have := used_modify hk (fun f => { f with sy := f.bs.length })
      have := h.us
      simp only at *
      omega
theorem trunc_ok {d : Dv} (h : Dv.Ok d) (s : ByteArray) (n : Int) : Dv.Ok (truncD d s n).1 := by
  unfold truncD
  split
  · exact h
  cases hfd : findD d.fs s with
  | none => exact h
  | some k =>
    obtain ⟨hk, _⟩ := findD_some hfd
    simp only
    split
    · exact h
    refine spent_ok h ?_ (modify_up h.up k _ (fun g => rfl)) ?_ (by rw [List.length_modify]; exact h.ln)
    · intro g hg
      rcases modify_mem hg with hg | ⟨hk, rfl⟩
      · exact h.fl g hg
      · have := h.fl _ (List.getElem_mem hk)
        have h2 := this.sy
        exact ⟨this.nm, fun x hx => this.wf x (List.mem_of_mem_take hx), by simp only [List.length_take]; omega⟩
    · have := used_modify hk (fun f => { f with bs := f.bs.take n.toNat, sy := min f.sy n.toNat })
      have := h.us
      simp only [List.length_take] at *
      omega
theorem rem_ok {d : Dv} (h : Dv.Ok d) (s : ByteArray) : Dv.Ok (remD d s).1 := by
  unfold remD
  split
  · exact h
  cases hfd : findD d.fs s with
  | none => exact h
  | some k =>
    exact spent_ok h (fun g hg => h.fl g (List.mem_of_mem_eraseIdx hg)) (erase_up h.up k) (Nat.le_trans (used_erase_le _ _) h.us) (Nat.le_trans (List.length_eraseIdx_le _ _) h.ln)
theorem arm_ok {d : Dv} (h : Dv.Ok d) (n : Int) (hn : n < 9223372036854775808) : Dv.Ok (armD d n) := by
  refine ⟨h.fl, h.up, h.us, h.rm, h.ln, ?_, ?_⟩
  · show -1 ≤ (if n < 0 then -1 else n : Int); split <;> omega
  · show (if n < 0 then -1 else n : Int) < 9223372036854775808; split <;> omega
theorem used_wake (l : List Fl) (keep : Int) : usedD (l.map (wakeF keep)) ≤ usedD l := by
  induction l with
  | nil => exact Nat.le_refl _
  | cons f l ih =>
    rw [List.map_cons, used_cons, used_cons]
    have : (wakeF keep f).bs.length ≤ f.bs.length := by unfold wakeF; simp only [List.length_take]; omega
    omega
theorem wakeF_ok {f : Fl} (h : Fl.Ok f) (keep : Int) : Fl.Ok (wakeF keep f) := by
  have h2 := h.sy
  exact ⟨h.nm, fun x hx => h.wf x (List.mem_of_mem_take hx), by unfold wakeF; simp only [List.length_take]; omega⟩
theorem wake_ok {d : Dv} (h : Dv.Ok d) (keep : Int) : Dv.Ok (wakeD d keep) := by
  refine ⟨fun g hg => ?_, map_up h.up _ (fun g => rfl), Nat.le_trans (used_wake _ _) h.us, h.rm, ?_, by show (-1 : Int) ≤ -1; omega, by show (-1 : Int) < _; omega⟩
  · obtain ⟨f, hf, rfl⟩ := List.mem_map.1 hg
    exact wakeF_ok (h.fl f hf) keep
  · show (d.fs.map (wakeF keep)).length ≤ 64
    rw [List.length_map]; exact h.ln
theorem new_ok (room : Nat) (h : room ≤ 16777216) : Dv.Ok (newD room) := ⟨fun f hf => absurd hf (by simp [newD]), by simp [newD], Nat.zero_le _, h, Nat.zero_le _, by show (-1 : Int) ≤ -1; omega, by show (-1 : Int) < _; omega⟩
end Go.Proofs.YtbdhhmhlcdganaaGreatDoor
namespace Go.Proofs.YtbdhhmhlcdganaaGreatDoor
open Go.RowKit
set_option linter.unusedVariables false

def VRow (w : World) (B : Nat) (A : Option Addr) (vs : List Value) : Prop :=
  0 < vs.length → ∃ b o, A = some ⟨b, o, none⟩ ∧ b < B ∧ ∀ i v, vs[i]? = some v → w.cell? ⟨b, o + i, none⟩ = some v
theorem VRow.nil (w : World) (B : Nat) (A : Option Addr) : VRow w B A [] := fun h => absurd h (by simp)
theorem VRow.more {w : World} {B B' : Nat} {A : Option Addr} {vs : List Value} (h : VRow w B A vs) (hB : B ≤ B') : VRow w B' A vs := fun hn => by
  obtain ⟨b, o, e, hb, hc⟩ := h hn
  exact ⟨b, o, e, by omega, hc⟩
theorem VRow.below {w w' : World} {B : Nat} {A : Option Addr} {vs : List Value} (h : VRow w B A vs) (hb : Below B w w') : VRow w' B A vs := fun hn => by
  obtain ⟨b, o, e, hlt, hc⟩ := h hn
  exact ⟨b, o, e, hlt, fun i v hv => (hb.cell (p := ⟨b, o + i, none⟩) hlt).trans (hc i v hv)⟩
theorem VRow.alloc {w : World} {B : Nat} {A : Option Addr} {vs : List Value} (h : VRow w B A vs) (hB : B ≤ w.heap.size) (o : Obj) : VRow (w.alloc o) B A vs := h.below ((Below.refl _ _).alloc hB o)
theorem VRow.drewN {w : World} {B : Nat} {A : Option Addr} {vs : List Value} (h : VRow w B A vs) (n : Nat) : VRow (w.drewN n) B A vs := h
theorem VRow.of_block {w : World} {g : Nat} {t : TypeId} {fr : Nat × Nat} {cs : Array Value} (hg : w.heap[g]? = some (.cells cs t fr)) (vs : List Value) (hp : vs <+: cs.toList) : VRow w w.heap.size (some ⟨g, 0, none⟩) vs := fun hn => by
  refine ⟨g, 0, rfl, block_lt hg, fun i v hv => ?_⟩
  obtain ⟨r, hr⟩ := hp
  have hi : i < vs.length := (List.getElem?_eq_some_iff.1 hv).1
  rw [Nat.zero_add, cell_of_row w g i _ _ _ hg, ← Array.getElem?_toList, ← hr, List.getElem?_append_left hi, hv]
theorem VRow.new (w : World) (t : TypeId) (vs : List Value) : VRow (w.alloc (.cells vs.toArray t)) (w.alloc (.cells vs.toArray t)).heap.size (some ⟨w.heap.size, 0, none⟩) vs :=
  VRow.of_block (heap_alloc_new w _) vs (by simp)
theorem VRow.front {w : World} {B : Nat} {A : Option Addr} {vs ws : List Value} (h : VRow w B A vs) (hp : ws <+: vs) : VRow w B A ws := fun hn => by
  obtain ⟨r, rfl⟩ := hp
  obtain ⟨b, o, e, hb, hc⟩ := h (by rw [List.length_append]; omega)
  exact ⟨b, o, e, hb, fun i v hv => hc i v (by rw [List.getElem?_append_left (List.getElem?_eq_some_iff.1 hv).1]; exact hv)⟩
theorem VRow.of_own {w : World} {base size n : Nat} {e : TypeId} {v : Value} {xs : List Value} (h : w.ownsRow base e size v n xs) :
    ∃ A c, v = .slice A n c ∧ VRow w w.heap.size A xs ∧ n ≤ c ∧ c ≤ maxLen := by
  obtain ⟨hl, ⟨rfl, rfl⟩ | ⟨g, cap, cur, rfl, h1, h2, h3, h4, h5, h6⟩⟩ := h
  · have hx : xs = [] := List.eq_nil_of_length_eq_zero (by simpa using hl)
    subst hx
    exact ⟨none, 0, rfl, VRow.nil _ _ _, Nat.le_refl _, Nat.zero_le _⟩
  · exact ⟨_, cap, rfl, VRow.of_block h2 xs (by rw [← h6]; exact List.take_prefix _ _), h3, h4⟩

section
variable {α : Type} {C : α → List Value} {k : Nat}
def flatV (C : α → List Value) (l : List α) : List Value := l.flatMap C
theorem flatV_cons (a : α) (l : List α) : flatV C (a :: l) = C a ++ flatV C l := rfl
variable (hC : ∀ a, (C a).length = k)
include hC
theorem flatV_len (l : List α) : (flatV C l).length = l.length * k := by
  induction l with
  | nil => simp [flatV]
  | cons a l ih => rw [flatV_cons, List.length_append, ih, hC, List.length_cons, Nat.succ_mul]; omega
theorem flatV_get (l : List α) (i : Nat) (h : i < l.length) (j : Nat) (hj : j < k) : (flatV C l)[i * k + j]? = (C l[i])[j]? := by
  induction l generalizing i with
  | nil => simp at h
  | cons a l ih =>
    rw [flatV_cons]
    cases i with
    | zero => rw [Nat.zero_mul, Nat.zero_add, List.getElem?_append_left (by rw [hC]; exact hj)]; rfl
    | succ i =>
      rw [show (i + 1) * k + j = k + (i * k + j) by rw [Nat.succ_mul]; omega]
      rw [List.getElem?_append_right (by rw [hC]; omega), hC, Nat.add_sub_cancel_left]
      exact ih i (by simpa using h)
theorem VRow.elem {w : World} {B : Nat} {A : Option Addr} {l : List α} (h : VRow w B A (flatV C l)) (hk : 0 < k) {i : Nat} (hi : i < l.length) :
    ∃ b o, A = some ⟨b, o, none⟩ ∧ b < B ∧ ∀ j v, (C l[i])[j]? = some v → w.cell? ⟨b, o + i * k + j, none⟩ = some v := by
  have hpos : 0 < (flatV C l).length := by rw [flatV_len hC]; exact Nat.mul_pos (by omega) hk
  obtain ⟨b, o, e, hb, hc⟩ := h hpos
  refine ⟨b, o, e, hb, fun j v hv => ?_⟩
  have hj : j < k := by have := (List.getElem?_eq_some_iff.1 hv).1; rw [hC] at this; exact this
  rw [Nat.add_assoc]
  exact hc _ _ (by rw [flatV_get hC l i hi j hj]; exact hv)
theorem VRow.range {w : World} {B : Nat} {A : Option Addr} {l : List α} (h : VRow w B A (flatV C l)) (hk : 0 < k) {i : Nat} (hi : i < l.length) :
    ∃ b o, A = some ⟨b, o, none⟩ ∧ b < B ∧ w.rangeAt b (o + i * k) (C l[i]) := h.elem hC hk hi
end

def setL (arr : Array Value) (p : Nat) : List Value → Array Value
  | [] => arr
  | v :: vs => setL (arr.setIfInBounds p v) (p + 1) vs
end Go.Proofs.YtbdhhmhlcdganaaGreatDoor
namespace Go.Proofs.YtbdhhmhlcdganaaGreatDoor
open Go.RowKit

theorem info_u8 : (Tryz.prog.info? 5).map (fun i => (i.zero, i.size, i.bytes)) = some (some (.int .u8 0), 1, 1) := by kernel_rfl

theorem made_zero (z : Int) (n : Nat) : madeCells (Value.int .u8 z).cells (n * 1) = blk .u8 (List.replicate n z) := by
  apply Array.toList_inj.1
  rw [show (Value.int .u8 z).cells = #[Value.int .u8 z] from rfl, toList_madeCells_one, Nat.mul_one]
  simp [blk]

theorem make_u8 (n : Nat) (hn : n ≤ 140737488355328) (W : World) :
    (Instr.makeSlice 47 (.int .i64 (n : Int)) (.int .i64 (n : Int))).run Tryz.prog W = .ok (.slice (some ⟨W.heap.size, 0, none⟩) n n) (W.alloc (.cells (blk .u8 (List.replicate n 0)) 5)) := by
  obtain ⟨i, hi, hz, hs, hb⟩ := info_parts info_u8
  have h := run_make (P := Tryz.prog) W 47 5 i (.int .u8 0) Tryz.underlying47 hi hz .i64 .i64 n n (by omega) (by omega) (by rw [hb]; omega) (by omega)
  rw [h, hs, Int.toNat_natCast, made_zero]

def marks5 : List Int := [165, 165, 165, 165, 165]

theorem same_yes_u8 (A A' : Option Addr) (n c c' : Nat) (xs : List Int) (w : World) (B B' : Nat) (hr : Row .u8 w B A xs) (hr' : Row .u8 w B' A' xs) (hn : xs.length = n) (hb : n ≤ 140737488355328) :
    Calls Tryz.prog 32 #[.slice A n c, .slice A' n c'] w fun e w' => e = .returned (.bool true) ∧ ∃ m, w' = w.drewN m := by
  go_enter Tryz.func32, Tryz.ntmps32
  go_wp2
  go_loopw [5] (fun i wr => ∃ k nq : Nat, k ≤ n ∧ i = .int .i64 k ∧ wr = w.drewN nq) (fun i _ => n - (intOf i).toNat)
  case atStart => exact ⟨0, 0, by omega, rfl, rfl⟩
  case round =>
    obtain ⟨k, nq, hk, rfl, rfl⟩ := hrel
    by_cases hlt : k < n
    · obtain ⟨b, o, rfl, hb1, hc1⟩ := hr.at_ (i := k) (by omega)
      obtain ⟨b', o', rfl, hb1', hc1'⟩ := hr'.at_ (i := k) (by omega)
      have hlt' : (k : Int) < (n : Int) := by omega
      go_wp2
      go_quiet (fail)
      go_wp2
      go_roundw
      case rel => exact ⟨k + 1, _, by omega, by go_num, rfl⟩
      case measure => simp [intOf]; omega
    · go_wp2
      go_ret
      exact ⟨rfl, nq, rfl⟩

end Go.Proofs.YtbdhhmhlcdganaaGreatDoor
namespace Go.Proofs.YtbdhhmhlcdganaaGreatDoor
open Go.RowKit
set_option linter.unusedVariables false
set_option maxRecDepth 100000

structure Frm (F : Nat → Prop) (w w' : World) : Prop where
  os : w'.os = w.os
  tape : w'.tape = w.tape
  output : w'.output = w.output
  size : w.heap.size ≤ w'.heap.size
  block : ∀ k, k < w.heap.size → ¬ F k → w'.heap[k]? = w.heap[k]?
theorem Frm.refl (F : Nat → Prop) (w : World) : Frm F w w := ⟨rfl, rfl, rfl, Nat.le_refl _, fun _ _ _ => rfl⟩
theorem Frm.mono {F G : Nat → Prop} {w w' : World} (h : Frm F w w') (hG : ∀ b, F b → G b) : Frm G w w' := ⟨h.os, h.tape, h.output, h.size, fun k hk hn => h.block k hk (fun hf => hn (hG k hf))⟩
theorem Frm.trans {F G : Nat → Prop} {a b c : World} (h : Frm F a b) (k : Frm G b c) (hG : ∀ i, G i → F i ∨ a.heap.size ≤ i) : Frm F a c :=
  ⟨k.os.trans h.os, k.tape.trans h.tape, k.output.trans h.output, Nat.le_trans h.size k.size, fun i hi hn => (k.block i (Nat.lt_of_lt_of_le hi h.size) (fun hg => (hG i hg).elim hn (fun hh => by omega))).trans (h.block i hi hn)⟩
theorem Frm.of_below {F : Nat → Prop} {w w' : World} (h : Below w.heap.size w w') : Frm F w w' := ⟨h.os, h.tape, h.output, h.size, fun k hk _ => h.block k hk⟩
theorem Frm.below {F : Nat → Prop} {B : Nat} {w0 w w' : World} (h : Frm F w w') (hb : Below B w0 w) (hB : B ≤ w.heap.size) (hF : ∀ i, F i → B ≤ i) : Below B w0 w' :=
  ⟨h.os.trans hb.os, h.tape.trans hb.tape, h.output.trans hb.output, Nat.le_trans hb.size h.size, fun k hk => (h.block k (by omega) (fun hf => by have := hF k hf; omega)).trans (hb.block k hk)⟩
theorem Frm.set {F : Nat → Prop} (w : World) (g i : Nat) (v : Value) (hg : F g) : Frm F w (w.setCell ⟨g, i, none⟩ v) :=
  ⟨rfl, rfl, rfl, by simp [World.setCell], fun k _ hn => Below.heap_setCell w _ _ k (fun e => hn (by rw [e]; exact hg))⟩
theorem Frm.row {F : Nat → Prop} {k : IntKind} {w w' : World} {A : Option Addr} {xs : List Int} (h : Frm F w w') (hr : Row k w w.heap.size A xs) (hn : ∀ a, A = some a → 0 < xs.length → ¬ F a.block) : Row k w' w'.heap.size A xs := by
  refine ⟨hr.1, fun hp => ?_⟩
  obtain ⟨b, o, e, hb, hc⟩ := hr.2 hp
  exact ⟨b, o, e, Nat.lt_of_lt_of_le hb h.size, fun i hi => (World.cell?_of_block (w := w) (a := ⟨b, o + i, none⟩) (h.block b hb (hn _ e hp))).trans (hc i hi)⟩

structure Fm where
  (nm : ByteArray) (A : Option Addr) (n c : Nat) (sy : Int)
def fmC (m : Fm) : List Value := [.string m.nm, .slice m.A m.n m.c, .int .i64 m.sy]
theorem fmC_len (m : Fm) : (fmC m).length = 3 := rfl
def FmOwn (w : World) (base : Nat) (v : Value) (l : List Fm) : Prop := w.ownsRow base 158 3 v l.length (flatV fmC l)
theorem FmOwn.nil (w : World) (base : Nat) : FmOwn w base (.slice none 0 0) [] := World.ownsRow_nil w base _ 3
theorem FmOwn.row {w : World} {base : Nat} {v : Value} {l : List Fm} (h : FmOwn w base v l) : ∃ A c, v = .slice A l.length c ∧ VRow w w.heap.size A (flatV fmC l) ∧ l.length ≤ c ∧ c ≤ maxLen := VRow.of_own h
theorem FmOwn.alloc {w : World} {base : Nat} {v : Value} {l : List Fm} (h : FmOwn w base v l) (o : Obj) : FmOwn (w.alloc o) base v l := World.ownsRow.alloc h o
theorem FmOwn.frm {F : Nat → Prop} {w w' : World} {base : Nat} {v : Value} {l : List Fm} (h : FmOwn w base v l) (hf : Frm F w w') (hn : ∀ b, v.ownBlock = some b → ¬ F b) : FmOwn w' base v l := by
  refine ⟨h.1, ?_⟩
  rcases h.2 with h0 | ⟨g, cap, cur, hv, h1, h2, h3⟩
  · exact .inl h0
  · exact .inr ⟨g, cap, cur, hv, h1, (hf.block g (block_lt h2) (hn g (by rw [hv]; rfl))).trans h2, h3⟩
theorem FmOwn.mono {w : World} {base base' : Nat} {v : Value} {l : List Fm} (h : FmOwn w base v l) (hb : base' ≤ base) : FmOwn w base' v l := by
  refine ⟨h.1, ?_⟩
  rcases h.2 with h0 | ⟨g, cap, cur, hv, h1, r⟩
  · exact .inl h0
  · exact .inr ⟨g, cap, cur, hv, by omega, r⟩
theorem FmOwn.lt {w : World} {base : Nat} {v : Value} {l : List Fm} (h : FmOwn w base v l) : ∀ g, v.ownBlock = some g → base ≤ g ∧ g < w.heap.size := World.ownsRow.lt h
theorem FmOwn.elem {w : World} {base : Nat} {v : Value} {l : List Fm} (h : FmOwn w base v l) {i : Nat} (hi : i < l.length) :
    ∃ b cap, v = .slice (some ⟨b, 0, none⟩) l.length cap ∧ base ≤ b ∧ b < w.heap.size ∧ l.length ≤ cap ∧ cap ≤ maxLen ∧ w.cell? ⟨b, i * 3, none⟩ = some (.string l[i].nm) ∧ w.cell? ⟨b, i * 3 + 1, none⟩ = some (.slice l[i].A l[i].n l[i].c) ∧ w.cell? ⟨b, i * 3 + 2, none⟩ = some (.int .i64 l[i].sy)
      ∧ ∀ j, w.frozen? ⟨b, j, none⟩ = false := by
  rcases h.2 with ⟨_, h0⟩ | ⟨g, cap, cur, rfl, h1, h2, h3, h4, h5, h6⟩
  · omega
  · have key : ∀ j, j < 3 → w.cell? ⟨g, i * 3 + j, none⟩ = (fmC l[i])[j]? := fun j hj => by
      rw [cell_of_row w g (i * 3 + j) cur _ _ h2, ← Array.getElem?_toList, ← flatV_get fmC_len l i hi j hj, ← h6, List.getElem?_take_of_lt (by omega)]
    exact ⟨g, cap, rfl, h1, block_lt h2, h3, h4, key 0 (by omega), key 1 (by omega), key 2 (by omega), fun j => block_frozen w g j _ _ h2⟩
theorem flat_set (l : List Fm) (i : Nat) (hi : i < l.length) (m : Fm) (j : Nat) (v : Value) (hj : j < 3) (hm : fmC m = (fmC l[i]).set j v) : (flatV fmC l).set (i * 3 + j) v = flatV fmC (l.set i m) := by
  induction l generalizing i with
  | nil => simp at hi
  | cons a l ih =>
    cases i with
    | zero =>
      simp only [List.set_cons_zero, flatV_cons, Nat.zero_mul, Nat.zero_add]
      rw [List.set_append_left _ _ (by rw [fmC_len]; exact hj), hm]
      rfl
    | succ i =>
      simp only [List.set_cons_succ, flatV_cons]
      rw [show (i + 1) * 3 + j = 3 + (i * 3 + j) by omega, List.set_append_right _ _ (by rw [fmC_len]; omega), fmC_len, Nat.add_sub_cancel_left, ih i (by simpa using hi) (by simpa using hm)]
theorem FmOwn.set {w : World} {base b n cap : Nat} {l : List Fm} (h : FmOwn w base (.slice (some ⟨b, 0, none⟩) n cap) l) (i : Nat) (hi : i < l.length) (m : Fm) (j : Nat) (v : Value) (hj : j < 3) (hm : fmC m = (fmC l[i]).set j v) :
    FmOwn (w.setCell ⟨b, i * 3 + j, none⟩ v) base (.slice (some ⟨b, 0, none⟩) n cap) (l.set i m) := by
  unfold FmOwn
  rw [← flat_set l i hi m j v hj hm, List.length_set]
  have hl := h.1
  rcases h.2 with ⟨h0, _⟩ | ⟨g, cap', cur, hv, h1, h2, h3, h4, h5, h6⟩
  · cases h0
  · injection hv with ha hn hc
    injection ha with ha
    injection ha with ha
    subst ha hn hc
    refine ⟨by rw [List.length_set]; exact hl, .inr ⟨b, cap, cur.setIfInBounds (i * 3 + j) v, rfl, h1, ?_, h3, h4, by simpa using h5, ?_⟩⟩
    · simp [World.setCell, Array.getElem?_modify, h2]
    · rw [Array.toList_setIfInBounds, List.take_set, h6]

structure FmIs (w : World) (m : Fm) (f : Fl) : Prop where
  nm : m.nm = f.nm
  sy : m.sy = (f.sy : Int)
  n : f.bs.length = m.n
  le : m.n ≤ m.c
  cap : m.c ≤ maxLen
  row : Row .u8 w w.heap.size m.A f.bs
structure RDx (w : World) (g : Nat) (fv : Value) (ms : List Fm) (d : Dv) : Prop where
  box : w.heap[g]? = some (.cells #[.int .i64 (d.room : Int), .int .i64 d.left, .bool d.off, fv] 117 (0, 0))
  own : FmOwn w 0 fv ms
  len : ms.length = d.fs.length
  is : ∀ i (h1 : i < ms.length) (h2 : i < d.fs.length), FmIs w ms[i] d.fs[i]
  sepF : fv.ownBlock ≠ some g
  sepB : ∀ m ∈ ms, ∀ a, m.A = some a → 0 < m.n → a.block ≠ g ∧ fv.ownBlock ≠ some a.block
def RG (g : Nat) (fv : Value) (ms : List Fm) (b : Nat) : Prop := b = g ∨ fv.ownBlock = some b ∨ ∃ m ∈ ms, ∃ a, m.A = some a ∧ a.block = b ∧ 0 < m.n
def RDv (w : World) (G : Nat → Prop) (g : Nat) (d : Dv) : Prop := ∃ fv ms, RDx w g fv ms d ∧ ∀ b, RG g fv ms b → G b
theorem RDx.lt {w : World} {g : Nat} {fv : Value} {ms : List Fm} {d : Dv} (h : RDx w g fv ms d) : ∀ b, RG g fv ms b → b < w.heap.size := by
  intro b hb
  rcases hb with rfl | hb | ⟨m, hm, a, ha, rfl, hn⟩
  · exact block_lt h.box
  · exact (h.own.lt b hb).2
  · obtain ⟨i, hi, rfl⟩ := List.mem_iff_getElem.1 hm
    have hi2 : i < d.fs.length := by rw [← h.len]; exact hi
    have := h.is i hi hi2
    obtain ⟨b, o, e, hlt, _⟩ := this.row.2 (by rw [this.n]; exact hn)
    rw [e] at ha
    injection ha with ha
    subst ha
    exact hlt
theorem RDx.frm {F : Nat → Prop} {w w' : World} {g : Nat} {fv : Value} {ms : List Fm} {d : Dv} (h : RDx w g fv ms d) (hf : Frm F w w') (hn : ∀ b, RG g fv ms b → ¬ F b) : RDx w' g fv ms d := by
  refine ⟨(hf.block g (block_lt h.box) (hn g (.inl rfl))).trans h.box, h.own.frm hf (fun b hb => hn b (.inr (.inl hb))), h.len, fun i h1 h2 => ?_, h.sepF, h.sepB⟩
  have := h.is i h1 h2
  exact ⟨this.nm, this.sy, this.n, this.le, this.cap, hf.row this.row (fun a ha hp => hn a.block (.inr (.inr ⟨_, List.getElem_mem h1, a, ha, rfl, by rw [← this.n]; exact hp⟩)))⟩
theorem RDx.below {w w' : World} {g : Nat} {fv : Value} {ms : List Fm} {d : Dv} (h : RDx w g fv ms d) (hb : Below w.heap.size w w') : RDx w' g fv ms d := h.frm (F := fun _ => False) (Frm.of_below hb) (fun _ _ h => h)
theorem RDx.c4 {w : World} {g : Nat} {fv : Value} {ms : List Fm} {d : Dv} (h : RDx w g fv ms d) :
    w.cell? ⟨g, 0, none⟩ = some (.int .i64 (d.room : Int)) ∧ w.cell? ⟨g, 1, none⟩ = some (.int .i64 d.left) ∧ w.cell? ⟨g, 2, none⟩ = some (.bool d.off) ∧ w.cell? ⟨g, 3, none⟩ = some fv ∧ ∀ j, w.frozen? ⟨g, j, none⟩ = false :=
  ⟨cell_of_row w g 0 _ _ _ h.box, cell_of_row w g 1 _ _ _ h.box, cell_of_row w g 2 _ _ _ h.box, cell_of_row w g 3 _ _ _ h.box, fun j => block_frozen w g j _ _ h.box⟩
theorem RDx.slice {w : World} {g : Nat} {fv : Value} {ms : List Fm} {d : Dv} (h : RDx w g fv ms d) : ∃ A cap, fv = .slice A d.fs.length cap ∧ d.fs.length ≤ cap ∧ cap ≤ maxLen := by
  obtain ⟨A, c, e, _, h1, h2⟩ := h.own.row
  rw [h.len] at e h1
  exact ⟨A, c, e, h1, h2⟩
theorem RDx.elem {w : World} {g : Nat} {fv : Value} {ms : List Fm} {d : Dv} (h : RDx w g fv ms d) {i : Nat} (hi : i < d.fs.length) :
    ∃ b cap m, ms[i]? = some m ∧ fv = .slice (some ⟨b, 0, none⟩) d.fs.length cap ∧ d.fs.length ≤ cap ∧ cap ≤ maxLen ∧ w.cell? ⟨b, i * 3, none⟩ = some (.string d.fs[i].nm) ∧ w.cell? ⟨b, i * 3 + 1, none⟩ = some (.slice m.A m.n m.c) ∧ w.cell? ⟨b, i * 3 + 2, none⟩ = some (.int .i64 (d.fs[i].sy : Int))
      ∧ (∀ j, w.frozen? ⟨b, j, none⟩ = false) ∧ FmIs w m d.fs[i] := by
  have hi1 : i < ms.length := by rw [h.len]; exact hi
  obtain ⟨b, cap, e, _, _, h3, h4, c0, c1, c2, hf⟩ := h.own.elem hi1
  have hm := h.is i hi1 hi
  rw [h.len] at e h3
  rw [hm.nm] at c0
  rw [hm.sy] at c2
  exact ⟨b, cap, ms[i], List.getElem?_eq_getElem hi1, e, h3, h4, c0, c1, c2, hf, hm⟩
theorem dv_box_set {w : World} {g : Nat} {cs : Array Value} {t : TypeId} (h : w.heap[g]? = some (.cells cs t (0, 0))) (i : Nat) (v : Value) : (w.setCell ⟨g, i, none⟩ v).heap[g]? = some (.cells (cs.setIfInBounds i v) t (0, 0)) := by
  simp [World.setCell, Array.getElem?_modify, h]
end Go.Proofs.YtbdhhmhlcdganaaGreatDoor
namespace Go.Proofs.YtbdhhmhlcdganaaGreatDoor
open Go.RowKit
set_option linter.unusedVariables false
set_option maxRecDepth 100000

def ErrAt (g : Nat) (w : World) : Prop := ∃ ev, w.cell? ⟨g, 0, none⟩ = some ev ∧ (ev = .nilIface ∨ ∃ te pe, ev = .iface te pe)
def gB (b : Nat) : Prop := b = 2 ∨ b = 0 ∨ b = 1
structure Gl (w : World) : Prop where
  tab : ∃ t fr, w.heap[2]? = some (.cells (Lib.pow10Tab.map fun z => Value.int .u64 z).toArray t fr)
  syn : ErrAt 0 w
  rng : ErrAt 1 w
theorem lt_of_cell' {w : World} {a : Addr} {v : Value} (h : w.cell? a = some v) : a.block < w.heap.size := by
  apply Nat.lt_of_not_le
  intro hn
  simp [World.cell?, Array.getElem?_eq_none hn] at h
theorem Gl.lt {w : World} (h : Gl w) {b : Nat} (hb : gB b) : b < w.heap.size := by
  rcases hb with rfl | rfl | rfl
  · obtain ⟨t, fr, h1⟩ := h.tab
    apply Nat.lt_of_not_le
    intro hn
    rw [Array.getElem?_eq_none hn] at h1
    cases h1
  · obtain ⟨_, h1, _⟩ := h.syn
    exact lt_of_cell' h1
  · obtain ⟨_, h1, _⟩ := h.rng
    exact lt_of_cell' h1
theorem Gl.of_blocks {w w' : World} (h : Gl w) (hb : ∀ b, gB b → w'.heap[b]? = w.heap[b]?) : Gl w' := by
  refine ⟨?_, ?_, ?_⟩
  · obtain ⟨t, fr, h1⟩ := h.tab
    exact ⟨t, fr, (hb _ (.inl rfl)).trans h1⟩
  · obtain ⟨ev, h1, h2⟩ := h.syn
    exact ⟨ev, (World.cell?_of_block (hb _ (.inr (.inl rfl)))).trans h1, h2⟩
  · obtain ⟨ev, h1, h2⟩ := h.rng
    exact ⟨ev, (World.cell?_of_block (hb _ (.inr (.inr rfl)))).trans h1, h2⟩
theorem Gl.below {w w' : World} (h : Gl w) (hb : Below w.heap.size w w') : Gl w' := h.of_blocks fun b hg => hb.block b (h.lt hg)
theorem Gl.frm {F : Nat → Prop} {w w' : World} (h : Gl w) (hf : Frm F w w') (hF : ∀ b, F b → ¬ gB b) : Gl w' := h.of_blocks fun b hg => hf.block b (h.lt hg) (fun e => hF b e hg)
theorem Gl.is {w : World} (h : Gl w) {n : String} (hn : Tryz.prog.globalNamed n = some 2) : Lib.TabIs Tryz.prog w n .u64 Lib.pow10Tab := by
  obtain ⟨t, fr, h1⟩ := h.tab
  unfold Lib.TabIs World.var?
  rw [hn]
  simp only [Option.bind_some]
  rw [h1]
end Go.Proofs.YtbdhhmhlcdganaaGreatDoor
namespace Go.Proofs.YtbdhhmhlcdganaaGreatDoor
open Go.RowKit
set_option linter.unusedVariables false
set_option maxRecDepth 100000

theorem errAt_of {n nm : String} {d : DataW Unit} {r : List (String × DataW Unit)} {W : World} {g ti : Nat} {ms : Array (String × TypeId)} (hg : Tryz.prog.globalNamed n = some g) (ht : (Tryz.prog.globals[g]?).map (·.type) = some ti) (hi : Tryz.prog.underlying ti = some (.interface ms)) (h : laidMet Tryz.prog ((n, .iface nm d) :: r) W) : ErrAt g W := by
  obtain ⟨ps, ⟨g0, t0, cs0, f0, p0, q0, hg0, ht0, hv0, hd0, _, e0⟩, _, hrows⟩ := h
  obtain rfl := Option.some.inj (hg.symm.trans hg0)
  obtain rfl := Option.some.inj (ht.symm.trans ht0)
  obtain ⟨f1, u, v, hcs, _, hd1⟩ := iface_of_trod hi hd0
  obtain ⟨l0⟩ := cs0
  simp only at hcs
  subst hcs
  have := World.var?_cell hg hv0 0
  exact ⟨_, by simpa using this, .inr ⟨u, v, rfl⟩⟩
theorem gl_of {W : World} (h : laidMetH Tryz.prog Rows.segsFullRow.laid W) : Gl W := by
  rw [MakeChecks.laidMetH_plain _ _ _ (by kernel_rfl)] at h
  have h3 := laidMet.tail (laidMet.tail h)
  have h4 := laidMet.tail h3
  have h5 := laidMet.tail h4
  refine ⟨?_, ?_, ?_⟩
  · have ht := Lib.tabIs_of_head (k := .u64) (zs := Lib.pow10Tab) (g := 2) (t := 198) (e := 105) (n := 20) (by kernel_rfl) (by kernel_rfl) Tryz.underlying198 Tryz.underlying105 (by kernel_rfl) (by kernel_rfl) h3
    unfold Lib.TabIs World.var? at ht
    rw [show Tryz.prog.globalNamed _ = some 2 by kernel_rfl] at ht
    simp only [Option.bind_some] at ht
    split at ht
    · rename_i cs t fr hh
      injection ht with ht
      subst ht
      exact ⟨t, fr, hh⟩
    · cases ht
  · exact errAt_of (g := 0) (ti := 133) (by kernel_rfl) (by kernel_rfl) Tryz.underlying133 h5
  · exact errAt_of (g := 1) (ti := 133) (by kernel_rfl) (by kernel_rfl) Tryz.underlying133 h4
theorem door14 (os : Os) (args : Array Value) : laidMetH Tryz.prog Rows.segsFullRow.laid ((World.doorLaid Tryz.prog 400 os).forCall (fun _ _ => 0) ⟨#[], args, []⟩).memory :=
  laidMetH_of_parts3 (fuel := 8) (laidMet_of_run' 8 (by kernel_rfl) (by kernel_rfl)) (by kernel_rfl) (by kernel_rfl)
end Go.Proofs.YtbdhhmhlcdganaaGreatDoor
namespace Go.Proofs.YtbdhhmhlcdganaaGreatDoor
open Go.ChangeShapes Go.WideShapes Go.ChangeAt Go.RowKit

theorem row_in {H : Type} {enc : TypeId × Value → H} {P : Program} {W : World} {t e : TypeId} {k : IntKind} {a : Option Addr} {len cap : Nat} {d : DataW H} {p : List MemPlace}
    (ht : P.underlying t = some (.slice e)) (he : P.underlying e = some (.int k)) (hc : P.cellsOf e = 1)
    (h : DataW.Trod enc P W 0 (fun _ => true) true t (.slice a len cap) d p) (lt : ∀ x ∈ p, x.block < W.heap.size) :
    ∃ xs, Row k W W.heap.size a xs ∧ xs.length = len ∧ len ≤ cap ∧ (cap = 0 ∨ ∃ el sp, d = .slice el sp ∧ cap ≤ el.length + sp.length) := by
  obtain ⟨fuel, hf⟩ := h
  rcases open_ints ht he hc hf with ⟨hcs, _⟩ | ⟨x, l, c, zs, hcs, _, hl, hm, hz, hx, hcell, hwz⟩
  · simp [Value.cells] at hcs
    obtain ⟨rfl, rfl, rfl⟩ := hcs
    exact ⟨[], Row.nil _ _ _ _, rfl, Nat.le_refl _, .inl rfl⟩
  · simp [Value.cells] at hcs
    obtain ⟨rfl, rfl, rfl⟩ := hcs
    simp only [if_true] at hz
    simp only [Prod.mk.injEq] at hx
    obtain ⟨rfl, rfl⟩ := hx
    refine ⟨zs.take len, ⟨fun v hv => hwz v (List.mem_of_mem_take hv), fun hn => ?_⟩, by simp; omega, hl, .inr ⟨_, _, rfl, by simp [lits]; omega⟩⟩
    have hpos : 0 < zs.length := by simp at hn; omega
    have hb := lt (.cell x.block x.off) (MemPlace.mem_row.2 ⟨0, hpos, by simp⟩)
    obtain ⟨b, off, rfl, hc'⟩ := ints_at hcell hpos
    refine ⟨b, off, rfl, hb, fun i hi => ?_⟩
    have hi' : i < len ∧ i < zs.length := by simp at hi; omega
    rw [hc' i hi'.2, nth, List.getD_eq_getElem?_getD, List.getD_eq_getElem?_getD, List.getElem?_take_of_lt hi'.1]

theorem reach_in {H : Type} {P : Program} {ts : List TypeId} {ds : List (DataW H)} (hsz : (DataW.weightsEach P ts ds).all (· ≤ reachBytes) = true) (j : Nat) {t e : TypeId} {d : DataW H} {cap : Nat} (ht : ts[j]? = some t) (hd : ds[j]? = some d)
    (hu : P.underlying t = some (.slice e)) (hb : 0 < P.bytesOf e) (h : cap = 0 ∨ ∃ el sp, d = .slice el sp ∧ cap ≤ el.length + sp.length) : cap ≤ 140737488351232 := by
  rcases h with rfl | ⟨el, sp, rfl, hle⟩
  · omega
  · have := sized_slice hsz ht hd hu
    have h2 : el.length + sp.length ≤ (el.length + sp.length) * P.bytesOf e := Nat.le_mul_of_pos_right _ hb
    simp only [reachBytes] at this
    omega
end Go.Proofs.YtbdhhmhlcdganaaGreatDoor
namespace Go.Proofs.YtbdhhmhlcdganaaGreatDoor
open Go.ChangeShapes Go.WideShapes Go.ChangeAt Go.RowKit Go.Deep
set_option linter.unusedVariables false

section
variable {H : Type} {enc : TypeId × Value → H} {P : Program} {W : World}
theorem slice_form {t e : TypeId} {fuel : Nat} {v : Value} {x : DataW H × List MemPlace} (ht : P.underlying t = some (.slice e)) (h : DataW.trod enc P W 0 (fun _ => true) true fuel t [v] = some x) : ∃ a l c, v = .slice a l c := by
  rcases open_slice ht h with ⟨h0, _⟩ | ⟨a, len, cap, m, n, D, Pl, hcs, _⟩
  · injection h0 with h0; exact ⟨_, _, _, h0⟩
  · injection hcs with hcs; exact ⟨_, _, _, hcs⟩
end
end Go.Proofs.YtbdhhmhlcdganaaGreatDoor
namespace Go.Proofs.YtbdhhmhlcdganaaGreatDoor
open Go.ChangeShapes Go.WideShapes Go.ChangeAt Go.RowKit Go.Deep
set_option linter.unusedVariables false
set_option maxRecDepth 100000

structure Opm where
  (ki : Int) (nm tn : ByteArray) (A : Option Addr) (n c : Nat) (N : Int) (bs : List Int)
def opC (m : Opm) : List Value := [.int .i64 m.ki, .string m.nm, .string m.tn, .slice m.A m.n m.c, .int .i64 m.N]
structure Opm.Ok (w : World) (B : Nat) (m : Opm) : Prop where
  row : Row .u8 w B m.A m.bs
  len : m.bs.length = m.n
  le : m.n ≤ m.c
  cap : m.c ≤ 140737488355328
  ki : -9223372036854775808 ≤ m.ki ∧ m.ki < 9223372036854775808
  N : -9223372036854775808 ≤ m.N ∧ m.N < 9223372036854775808

section
variable {H : Type} {enc : TypeId × Value → H} {W : World}
theorem weights_mem_op {P : Program} {e : TypeId} {ds : List (DataW H)} {d : DataW H} (hd : d ∈ ds) {n : Nat} (hn : n ∈ d.weights P e) : n ∈ DataW.weightsAll P e ds := by
  induction ds with
  | nil => cases hd
  | cons x xs ih =>
    simp only [DataW.weightsAll, List.mem_append]
    rcases List.mem_cons.1 hd with h | h
    · subst h; exact .inl hn
    · exact .inr (ih h)
end
end Go.Proofs.YtbdhhmhlcdganaaGreatDoor
namespace Go.Proofs.YtbdhhmhlcdganaaGreatDoor
open Go.ChangeShapes Go.WideShapes Go.ChangeAt Go.RowKit Go.Deep
set_option linter.unusedVariables false
set_option maxRecDepth 100000

structure Lm where
  (A : Option Addr) (n c : Nat) (bs : List Int)
def lmC (m : Lm) : List Value := [.slice m.A m.n m.c]
theorem lmC_len (m : Lm) : (lmC m).length = 1 := rfl
structure Lm.Ok (w : World) (B : Nat) (m : Lm) : Prop where
  row : Row .u8 w B m.A m.bs
  len : m.bs.length = m.n
  le : m.n ≤ m.c
  cap : m.c ≤ 140737488355328

section
variable {H : Type} {enc : TypeId × Value → H} {W : World}
theorem lm_cells {fuel : Nat} {cs : List Value} {x : DataW H × List MemPlace} (h : DataW.trod enc Tryz.prog W 0 (fun _ => true) true fuel 47 cs = some x) (hl : cs.length = 1) (lt : ∀ z ∈ x.2, z.block < W.heap.size) (hwt : ∀ n ∈ x.1.weights Tryz.prog 47, n ≤ reachBytes) :
    ∃ m : Lm, cs = lmC m ∧ Lm.Ok W W.heap.size m := by
  obtain ⟨d, p⟩ := x
  match cs, hl with
  | [c0], _ =>
  obtain ⟨A, m, c, rfl⟩ := slice_form Tryz.underlying47 h
  obtain ⟨l, r3, hl3, hle, hcap⟩ := row_in Tryz.underlying47 Tryz.underlying5 (by kernel_rfl) ⟨fuel, h⟩ lt
  refine ⟨⟨A, m, c, l⟩, rfl, r3, hl3, hle, ?_⟩
  rcases hcap with h0 | ⟨el, sp, hD, hle2⟩
  · show c ≤ _; omega
  · have hmem : (el.length + sp.length) * Tryz.prog.bytesOf 5 ∈ d.weights Tryz.prog 47 := by
      rw [hD]
      simp [DataW.weights, Tryz.underlying47]
    have := hwt _ hmem
    rw [show Tryz.prog.bytesOf 5 = 1 by kernel_rfl] at this
    simp only [reachBytes] at this
    show c ≤ _
    omega
theorem lists_in {a : Option Addr} {len cap : Nat} {d : DataW H} {p : List MemPlace}
    (h : DataW.Trod enc Tryz.prog W 0 (fun _ => true) true 22 (.slice a len cap) d p) (lt : ∀ x ∈ p, x.block < W.heap.size) (hwt : ∀ n ∈ d.weights Tryz.prog 22, n ≤ reachBytes) :
    ∃ l : List Lm, VRow W W.heap.size a (flatV lmC l) ∧ l.length = len ∧ (∀ m ∈ l, Lm.Ok W W.heap.size m) ∧ len ≤ cap ∧ (cap = 0 ∨ ∃ el sp, d = .slice el sp ∧ cap ≤ el.length + sp.length) := by
  have s0 : Tryz.prog.cellsOf 47 = 1 := by kernel_rfl
  obtain ⟨fuel, hf⟩ := h
  rcases open_slice Tryz.underlying22 hf with ⟨hcs, _⟩ | ⟨x, l, c, m, n, D, Pl, hcs, _, hl, hm, hmm, hx, hi⟩
  · injection hcs with hcs
    injection hcs with e1 e2 e3
    subst e1 e2 e3
    exact ⟨[], VRow.nil _ _ _, rfl, fun _ h => absurd h (by simp), Nat.le_refl _, .inl rfl⟩
  · injection hcs with hcs
    injection hcs with e1 e2 e3
    subst e1 e2 e3
    have hm2 : m = cap := by simpa using hmm
    have hcap : cap = 0 ∨ ∃ el sp, d = .slice el sp ∧ cap ≤ el.length + sp.length := by
      right
      simp only [Prod.mk.injEq] at hx
      exact ⟨_, _, hx.1, by simp; omega⟩
    rcases Nat.eq_zero_or_pos len with hz | hpos
    · subst hz; exact ⟨[], VRow.nil _ _ _, rfl, fun _ h => absurd h (by simp), by omega, hcap⟩
    simp only [Prod.mk.injEq] at hx
    have lmi : ∀ i, ∃ t : Lm, i < len → (∀ j v, (lmC t)[j]? = some v → W.cell? (x.add (i * 1 + j)) = some v) ∧ Lm.Ok W W.heap.size t := by
      intro i
      by_cases hil : i < len
      · obtain ⟨cs', hc, ht'⟩ := hi i (by omega)
        rw [s0] at hc
        obtain ⟨_, hcl, hat⟩ := World.cells?_some hc
        obtain ⟨t, e, ok⟩ := lm_cells ht' hcl (fun z hz => lt z (by
          rw [hx.2]
          exact List.mem_append.2 (.inr (List.mem_flatMap.2 ⟨i, List.mem_range.2 (by omega), hz⟩)))) (fun q hq => hwt q (by
          rw [hx.1]
          simp only [DataW.weights, Tryz.underlying22]
          refine List.mem_cons_of_mem _ (List.mem_append.2 (.inl ?_))
          exact weights_mem_op (d := D i) (List.mem_map.2 ⟨i, List.mem_range.2 hil, rfl⟩) hq))
        refine ⟨t, fun _ => ⟨fun j v hv => ?_, ok⟩⟩
        have hj : j < 1 := by have := (List.getElem?_eq_some_iff.1 hv).1; rwa [lmC_len] at this
        rw [← Go.Deep.add_add, hat j hj, e, hv]
      · exact ⟨⟨none, 0, 0, []⟩, fun h => absurd h hil⟩
    obtain ⟨T, hT⟩ := Classical.axiomOfChoice lmi
    obtain ⟨b, off, spot⟩ := x
    have c0 := (hT 0 (by omega)).1 0 _ rfl
    have hspot : spot = none := by simpa [Addr.add] using World.cell?_spot c0
    subst hspot
    have hb : b < W.heap.size := by
      have := lt (.cell b off) (by
        rw [hx.2]
        refine List.mem_append.2 (.inl (MemPlace.mem_row.2 ⟨0, ?_, by simp⟩))
        rw [s0]; omega)
      exact this
    refine ⟨(List.range len).map T, fun _ => ⟨b, off, rfl, hb, fun i v hv => ?_⟩, by simp, fun t ht => ?_, by omega, hcap⟩
    · have hil : i < ((List.range len).map T).length * 1 := by
        have := (List.getElem?_eq_some_iff.1 hv).1
        rwa [flatV_len lmC_len] at this
      have hlen : ((List.range len).map T).length = len := by simp
      have hi2 : i / 1 < ((List.range len).map T).length := by omega
      have hg := flatV_get lmC_len ((List.range len).map T) (i / 1) hi2 (i % 1) (Nat.mod_lt _ (by omega))
      rw [show i / 1 * 1 + i % 1 = i by omega, hv] at hg
      have hg2 : (lmC (T (i / 1)))[i % 1]? = some v := by rw [hg]; simp
      have := (hT (i / 1) (by omega)).1 (i % 1) v hg2
      rw [show i / 1 * 1 + i % 1 = i by omega] at this
      rw [← Go.WideShapes.add_plain]
      exact this
    · obtain ⟨i, hi', rfl⟩ := List.mem_map.1 ht
      exact (hT i (by have := List.mem_range.1 hi'; omega)).2
theorem reach_lists {ts : List TypeId} {ds : List (DataW H)} (hsz : (DataW.weightsEach Tryz.prog ts ds).all (· ≤ reachBytes) = true) (j : Nat) {d : DataW H} {cap : Nat} (ht : ts[j]? = some 22) (hd : ds[j]? = some d)
    (h : cap = 0 ∨ ∃ el sp, d = .slice el sp ∧ cap ≤ el.length + sp.length) : cap * 24 ≤ 140737488351232 := by
  rcases h with rfl | ⟨el, sp, rfl, hle⟩
  · omega
  · have := sized_slice hsz ht hd Tryz.underlying22
    rw [show Tryz.prog.bytesOf 47 = 24 by kernel_rfl] at this
    simp only [reachBytes] at this
    omega
end
end Go.Proofs.YtbdhhmhlcdganaaGreatDoor
namespace Go.Proofs.YtbdhhmhlcdganaaGreatDoor.L
open Go.RowKit
set_option linter.unusedVariables false

def nth (l : List Bool) (i : Nat) : Bool := l.getD i false
theorem nth_eq (l : List Bool) (i : Nat) (h : i < l.length) : nth l i = l[i] := by simp [nth, List.getD_eq_getElem?_getD, List.getElem?_eq_getElem h]
theorem nth_mem (l : List Bool) (i : Nat) (h : i < l.length) : nth l i ∈ l := by rw [nth_eq l i h]; exact List.getElem_mem h
theorem nth_left (l m : List Bool) (i : Nat) (h : i < l.length) : nth (l ++ m) i = nth l i := by
  rw [nth_eq _ _ h, nth_eq _ _ (by simp; omega)]; exact List.getElem_append_left h
theorem nth_right (l m : List Bool) (i : Nat) : nth (l ++ m) (l.length + i) = nth m i := by
  simp [nth, List.getD_eq_getElem?_getD, List.getElem?_append_right]
theorem nth_replicate (n i : Nat) (v : Bool) (h : i < n) : nth (List.replicate n v) i = v := by rw [nth_eq _ _ (by simpa using h)]; simp
theorem ext_nth (a b : List Bool) (hl : a.length = b.length) (h : ∀ i, i < a.length → nth a i = nth b i) : a = b := by
  refine List.ext_getElem hl fun i h1 h2 => ?_
  rw [← nth_eq a i h1, ← nth_eq b i h2]; exact h i h1

def blk (k : Unit) (l : List Bool) : Array Value := (l.map (Value.bool)).toArray

theorem blk_size (k : Unit) (l : List Bool) : (blk k l).size = l.length := by simp [blk]
theorem blk_get (k : Unit) (l : List Bool) (i : Nat) (h : i < l.length) : (blk k l)[i]? = some (.bool (nth l i)) := by
  simp [blk, List.getElem?_eq_getElem h, nth_eq l i h]
theorem blk_set (k : Unit) (l : List Bool) (i : Nat) (v : Bool) : (blk k l).setIfInBounds i (.bool v) = blk k (l.set i v) := by
  simp [blk, List.map_set]

def Row (k : Unit) (w : World) (B : Nat) (A : Option Addr) (xs : List Bool) : Prop :=
  (∀ x ∈ xs, (Lit.bool x).wf = true) ∧ (0 < xs.length → ∃ b o, A = some ⟨b, o, none⟩ ∧ b < B ∧ ∀ i, i < xs.length → w.cell? ⟨b, o + i, none⟩ = some (.bool (nth xs i)))

theorem Row.keep {k : Unit} {w w' : World} {B : Nat} {A : Option Addr} {xs : List Bool} (h : Row k w B A xs) (hk : ∀ b o, b < B → w'.cell? ⟨b, o, none⟩ = w.cell? ⟨b, o, none⟩) : Row k w' B A xs := by
  refine ⟨h.1, fun hn => ?_⟩
  obtain ⟨b, o, e, hb, hc⟩ := h.2 hn
  exact ⟨b, o, e, hb, fun i hi => (hk _ _ hb).trans (hc i hi)⟩
theorem Row.more {k : Unit} {w : World} {B B' : Nat} {A : Option Addr} {xs : List Bool} (h : Row k w B A xs) (hB : B ≤ B') : Row k w B' A xs := by
  refine ⟨h.1, fun hn => ?_⟩
  obtain ⟨b, o, e, hb, hc⟩ := h.2 hn
  exact ⟨b, o, e, by omega, hc⟩
theorem Row.below {k : Unit} {w w' : World} {B : Nat} {A : Option Addr} {xs : List Bool} (h : Row k w B A xs) (hb : Below B w w') : Row k w' B A xs :=
  h.keep fun b o hlt => hb.cell (p := ⟨b, o, none⟩) hlt
theorem Row.alloc {k : Unit} {w : World} {B : Nat} {A : Option Addr} {xs : List Bool} (h : Row k w B A xs) (hB : B ≤ w.heap.size) (o : Obj) : Row k (w.alloc o) B A xs :=
  h.below ((Below.refl _ _).alloc hB o)
theorem Row.drewN {k : Unit} {w : World} {B : Nat} {A : Option Addr} {xs : List Bool} (h : Row k w B A xs) (n : Nat) : Row k (w.drewN n) B A xs := h
theorem Row.nil (k : Unit) (w : World) (B : Nat) (A : Option Addr) : Row k w B A [] := ⟨by simp, by simp⟩
theorem Row.new (k : Unit) (w : World) (t : TypeId) (l xs : List Bool) (hw : ∀ x ∈ xs, (Lit.bool x).wf = true) (hp : xs <+: l) :
    Row k (w.alloc (.cells (blk k l) t)) (w.heap.size + 1) (some ⟨w.heap.size, 0, none⟩) xs := by
  obtain ⟨ys, rfl⟩ := hp
  refine ⟨hw, fun _ => ⟨_, _, rfl, Nat.lt_succ_self _, fun i hi => ?_⟩⟩
  rw [World.cell?_alloc_at _ _ _ _ rfl, Nat.zero_add, blk_get _ _ _ (by simp; omega), nth_left _ _ _ hi]
theorem Row.of_block {k : Unit} {w : World} {g : Nat} {t : TypeId} {fr : Nat × Nat} {l : List Bool} (hg : w.heap[g]? = some (.cells (blk k l) t fr)) (xs : List Bool) (hw : ∀ x ∈ xs, (Lit.bool x).wf = true) (hp : xs <+: l) :
    Row k w (g + 1) (some ⟨g, 0, none⟩) xs := by
  obtain ⟨ys, rfl⟩ := hp
  refine ⟨hw, fun _ => ⟨_, _, rfl, Nat.lt_succ_self _, fun i hi => ?_⟩⟩
  rw [Nat.zero_add, cell_of_row w g i _ _ _ hg, blk_get _ _ _ (by simp; omega), nth_left _ _ _ hi]
theorem Row.at_ {k : Unit} {w : World} {B : Nat} {A : Option Addr} {xs : List Bool} (h : Row k w B A xs) {i : Nat} (hi : i < xs.length) :
    ∃ b o, A = some ⟨b, o, none⟩ ∧ b < B ∧ w.cell? ⟨b, o + i, none⟩ = some (.bool (nth xs i)) := by
  obtain ⟨b, o, e, hb, hc⟩ := h.2 (by omega)
  exact ⟨b, o, e, hb, hc i hi⟩
theorem Row.wf_at {k : Unit} {w : World} {B : Nat} {A : Option Addr} {xs : List Bool} (h : Row k w B A xs) {i : Nat} (hi : i < xs.length) : (Lit.bool (nth xs i)).wf = true := h.1 _ (nth_mem _ _ hi)

theorem wf_append {k : Unit} {xs ys : List Bool} (h : ∀ x ∈ xs, (Lit.bool x).wf = true) (h' : ∀ x ∈ ys, (Lit.bool x).wf = true) : ∀ x ∈ xs ++ ys, (Lit.bool x).wf = true := fun x hx => (List.mem_append.1 hx).elim (h x) (h' x)
theorem take_step (xs : List Bool) (k : Nat) (h : k < xs.length) : xs.take (k + 1) = xs.take k ++ [nth xs k] := by
  rw [List.take_succ_eq_append_getElem h, nth_eq xs k h]
theorem set_step (l : List Bool) (m k : Nat) (v x : Bool) (h : l.length = k) : (l ++ List.replicate (m + 1) v).set k x = l ++ [x] ++ List.replicate m v := by
  rw [List.set_append_right _ _ (by omega)]
  simp [h, List.replicate_succ]
theorem fill_cell (k : Unit) (l : List Bool) (m i : Nat) (v : Bool) (h : l.length = i) (hm : 0 < m) : (blk k (l ++ List.replicate m v))[i]? = some (.bool v) := by
  rw [blk_get _ _ _ (by simp; omega)]
  subst h
  have := nth_right l (List.replicate m v) 0
  rw [Nat.add_zero] at this
  rw [this, nth_replicate _ _ _ hm]
end Go.Proofs.YtbdhhmhlcdganaaGreatDoor.L
namespace Go.Proofs.YtbdhhmhlcdganaaGreatDoor.L
open Go.ChangeShapes Go.WideShapes Go.ChangeAt Go.RowKit

theorem row_in {H : Type} {enc : TypeId × Value → H} {P : Program} {W : World} {t e : TypeId} {a : Option Addr} {len cap : Nat} {d : DataW H} {p : List MemPlace}
    (ht : P.underlying t = some (.slice e)) (he : P.underlying e = some .bool) (hc : P.cellsOf e = 1)
    (h : DataW.Trod enc P W 0 (fun _ => true) true t (.slice a len cap) d p) (lt : ∀ x ∈ p, x.block < W.heap.size) :
    ∃ xs, Row () W W.heap.size a xs ∧ xs.length = len ∧ len ≤ cap ∧ (cap = 0 ∨ ∃ el sp, d = .slice el sp ∧ cap ≤ el.length + sp.length) := by
  obtain ⟨fuel, hf⟩ := h
  rcases Go.Deep.open_bools ht he hc hf with ⟨hcs, _⟩ | ⟨x, l, c, B, hcs, _, hl, hm, hx, hcell⟩
  · simp [Value.cells] at hcs
    obtain ⟨rfl, rfl, rfl⟩ := hcs
    exact ⟨[], Row.nil _ _ _ _, rfl, Nat.le_refl _, .inl rfl⟩
  · simp [Value.cells] at hcs
    obtain ⟨rfl, rfl, rfl⟩ := hcs
    simp only [Prod.mk.injEq] at hx
    obtain ⟨rfl, rfl⟩ := hx
    refine ⟨(List.range len).map B, ⟨fun _ _ => rfl, fun hn => ?_⟩, by simp, hl, .inr ⟨_, _, rfl, by simp; omega⟩⟩
    have hpos : 0 < cap := by simp at hn; omega
    have hb := lt (.cell x.block x.off) (MemPlace.mem_row.2 ⟨0, hpos, by simp⟩)
    obtain ⟨b, off, spot⟩ := x
    have hspot : spot = none := by simpa [Addr.add] using World.cell?_spot (hcell 0 hpos)
    subst hspot
    refine ⟨b, off, rfl, hb, fun i hi => ?_⟩
    have hi' : i < len := by simpa using hi
    rw [← Go.WideShapes.add_plain, hcell i (by omega), nth_eq _ _ hi]
    simp
end Go.Proofs.YtbdhhmhlcdganaaGreatDoor.L
namespace Go.Proofs.YtbdhhmhlcdganaaGreatDoor
open Go.RowKit
set_option linter.unusedVariables false

def lkF (d : Dv) (s : ByteArray) : Option (List Int × Nat) := (findD d.fs s).bind fun k => (d.fs[k]?).map fun f => (f.bs, f.sy)
theorem lkF_fs {d d' : Dv} (h : d'.fs = d.fs) : lkF d' = lkF d := by funext s; unfold lkF; rw [h]
theorem lk_some {d : Dv} (ok : Dv.Ok d) {s : ByteArray} {b : List Int} {y : Nat} : lkF d s = some (b, y) ↔ ∃ f ∈ d.fs, f.nm = s ∧ f.bs = b ∧ f.sy = y := by
  unfold lkF
  cases hf : findD d.fs s with
  | none =>
    simp only [Option.bind_none]
    constructor
    · intro h; cases h
    · rintro ⟨f, hm, rfl, _⟩
      have := findD_none.1 hf f hm
      rw [sameN_refl] at this; cases this
  | some k =>
    obtain ⟨hk, h1, _⟩ := findD_some hf
    simp only [Option.bind_some, List.getElem?_eq_getElem hk, Option.map_some, Option.some.injEq, Prod.mk.injEq]
    constructor
    · rintro ⟨rfl, rfl⟩
      exact ⟨d.fs[k], List.getElem_mem hk, sameN_iff.1 h1, rfl, rfl⟩
    · rintro ⟨f, hm, rfl, rfl, rfl⟩
      obtain ⟨i, hi, rfl⟩ := List.mem_iff_getElem.1 hm
      have := up_unique ok.up hk hi h1
      subst this
      exact ⟨rfl, rfl⟩
theorem lk_none {d : Dv} {s : ByteArray} : lkF d s = none ↔ ∀ f ∈ d.fs, f.nm ≠ s := by
  unfold lkF
  cases hf : findD d.fs s with
  | none =>
    simp only [Option.bind_none, true_iff]
    intro f hm e
    have := findD_none.1 hf f hm
    rw [e, sameN_refl] at this; cases this
  | some k =>
    obtain ⟨hk, h1, _⟩ := findD_some hf
    simp only [Option.bind_some, List.getElem?_eq_getElem hk, Option.map_some]
    constructor
    · intro h; cases h
    · intro h; exact absurd (sameN_iff.1 h1) (h _ (List.getElem_mem hk))
theorem find_none_lk {d : Dv} {s : ByteArray} : findD d.fs s = none ↔ lkF d s = none := by
  rw [lk_none, findD_none]
  constructor
  · intro h f hm e; have := h f hm; rw [e, sameN_refl] at this; cases this
  · intro h f hm
    cases hs : sameN f.nm s
    · rfl
    · exact absurd (sameN_iff.1 hs) (h f hm)
theorem find_some_lk {d : Dv} {s : ByteArray} {k : Nat} (h : findD d.fs s = some k) : ∃ hk : k < d.fs.length, d.fs[k].nm = s ∧ lkF d s = some (d.fs[k].bs, d.fs[k].sy) := by
  obtain ⟨hk, h1, _⟩ := findD_some h
  refine ⟨hk, sameN_iff.1 h1, ?_⟩
  unfold lkF
  rw [h]
  simp [List.getElem?_eq_getElem hk]
theorem readL_lk (d : Dv) (s : ByteArray) : readL d s = ((lkF d s).map Prod.fst).getD [] := by
  unfold readL
  cases hf : findD d.fs s with
  | none => rw [find_none_lk.1 hf]; rfl
  | some k =>
    obtain ⟨hk, _, h⟩ := find_some_lk hf
    rw [h]
    simp [List.getElem?_eq_getElem hk]
theorem readE_lk (d : Dv) (s : ByteArray) : readE d s = if lkF d s = none then 6 else 0 := by
  unfold readE
  cases hf : findD d.fs s with
  | none => rw [if_pos (find_none_lk.1 hf)]
  | some k => obtain ⟨_, _, h⟩ := find_some_lk hf; rw [h, if_neg (by simp)]
theorem names_mem {d : Dv} {s : ByteArray} : s ∈ namesD d ↔ lkF d s ≠ none := by
  unfold namesD
  rw [Ne, lk_none, List.mem_map]
  constructor
  · rintro ⟨f, hm, rfl⟩ h; exact h f hm rfl
  · intro h
    refine Classical.byContradiction fun hn => h fun f hm e => hn ⟨f, hm, e⟩

theorem ins_mem_iff {l : List Fl} {f g : Fl} : g ∈ insD l f ↔ g = f ∨ g ∈ l := by
  induction l with
  | nil => simp [insD]
  | cons a l ih =>
    unfold insD
    cases lessN f.nm a.nm
    · simp only [cond_false, List.mem_cons, ih]
      constructor
      · rintro (h | h | h)
        · exact .inr (.inl h)
        · exact .inl h
        · exact .inr (.inr h)
      · rintro (h | h | h)
        · exact .inr (.inl h)
        · exact .inl h
        · exact .inr (.inr h)
    · simp only [cond_true, List.mem_cons]
theorem modify_mem_iff {l : List Fl} (up : l.Pairwise (fun a b => lessN a.nm b.nm = true)) {k : Nat} (hk : k < l.length) (f : Fl → Fl) {g : Fl} : g ∈ l.modify k f ↔ (g ∈ l ∧ g.nm ≠ l[k].nm) ∨ g = f l[k] := by
  constructor
  · intro h
    obtain ⟨i, hi, rfl⟩ := List.mem_iff_getElem.1 h
    rw [List.length_modify] at hi
    rw [List.getElem_modify]
    by_cases e : k = i
    · subst e; rw [if_pos rfl]; exact .inr rfl
    · rw [if_neg e]
      refine .inl ⟨List.getElem_mem _, fun hn => e ?_⟩
      exact (up_unique up hi hk (sameN_iff.2 hn)).symm
  · rintro (⟨h, hn⟩ | rfl)
    · obtain ⟨i, hi, rfl⟩ := List.mem_iff_getElem.1 h
      have e : k ≠ i := fun e => by subst e; exact hn rfl
      refine List.mem_iff_getElem.2 ⟨i, by rw [List.length_modify]; exact hi, ?_⟩
      rw [List.getElem_modify, if_neg e]
    · refine List.mem_iff_getElem.2 ⟨k, by rw [List.length_modify]; exact hk, ?_⟩
      rw [List.getElem_modify, if_pos rfl]
theorem erase_mem_iff {l : List Fl} (up : l.Pairwise (fun a b => lessN a.nm b.nm = true)) {k : Nat} (hk : k < l.length) {g : Fl} : g ∈ l.eraseIdx k ↔ g ∈ l ∧ g.nm ≠ l[k].nm := by
  rw [List.mem_eraseIdx_iff_getElem]
  constructor
  · rintro ⟨i, hi, hik, rfl⟩
    exact ⟨List.getElem_mem _, fun e => hik (up_unique up hi hk (sameN_iff.2 e))⟩
  · rintro ⟨h, hn⟩
    obtain ⟨i, hi, rfl⟩ := List.mem_iff_getElem.1 h
    exact ⟨i, hi, fun e => by subst e; exact hn rfl, rfl⟩
theorem lk_ext {d : Dv} (ok : Dv.Ok d) {s : ByteArray} {o : Option (List Int × Nat)} (h : ∀ b y, o = some (b, y) ↔ ∃ f ∈ d.fs, f.nm = s ∧ f.bs = b ∧ f.sy = y) : lkF d s = o := by
  apply Option.ext
  rintro ⟨b, y⟩
  show lkF d s = some (b, y) ↔ o = some (b, y)
  rw [lk_some ok, h]

structure Did1 (d d' : Dv) : Prop where
  off : d'.off = false
  room : d'.room = d.room
  left : d'.left = if 0 < d.left then d.left - 1 else d.left
theorem spent_fields (d : Dv) : (spentD d).fs = d.fs ∧ (spentD d).off = d.off ∧ (spentD d).room = d.room ∧ (spentD d).left = if 0 < d.left then d.left - 1 else d.left := by
  unfold spentD
  split <;> simp_all
theorem did1_of {d : Dv} (h : d.off = false) (l : List Fl) : Did1 d { spentD d with fs := l } := by
  obtain ⟨_, h2, h3, h4⟩ := spent_fields d
  exact ⟨by show (spentD d).off = false; rw [h2, h], h3, h4⟩
def Not1 (d d' : Dv) (e : Int) : Prop := e ≠ 0 ∧ d'.fs = d.fs ∧ d'.room = d.room ∧ d'.left = d.left ∧ ((e = 10 ∧ d'.off = true ∧ (d.off = true ∨ d.left = 0)) ∨ (e ≠ 10 ∧ d' = d))
theorem Not1.lk {d d' : Dv} {e : Int} (h : Not1 d d' e) : lkF d' = lkF d := lkF_fs h.2.1
theorem not_op {d : Dv} (h : d.left = 0) : Not1 d { d with off := true } 10 := ⟨by decide, rfl, rfl, rfl, .inl ⟨rfl, rfl, .inr h⟩⟩
theorem not_down {d : Dv} (h : d.off = true) : Not1 d d 10 := ⟨by decide, rfl, rfl, rfl, .inl ⟨rfl, h, .inl h⟩⟩
theorem not_err (d : Dv) {e : Int} (h : e ≠ 0) (h1 : e ≠ 10) : Not1 d d e := ⟨h, rfl, rfl, rfl, .inr ⟨h1, rfl⟩⟩
theorem app_step {d : Dv} (ok : Dv.Ok d) (s : ByteArray) (b : List Int) (hb : ∀ x ∈ b, (Lit.int .u8 x).wf = true) :
    ∃ d' e, appD d s b = (d', e) ∧ Dv.Ok d' ∧ ((Not1 d d' e ∧ (e = 9 → d.off = false ∧ ((lkF d s = none ∧ d.fs.length = 64) ∨ (d.room : Int) - usedD d.fs < b.length)) ∧ (e = 8 ↔ okN s = false) ∧ (e = 8 ∨ e = 9 ∨ e = 10)) ∨
    (e = 0 ∧ d.off = false ∧ okN s = true ∧ Did1 d d' ∧ usedD d'.fs = usedD d.fs + b.length ∧ ∀ t, lkF d' t = if t = s then some ((((lkF d s).map Prod.fst).getD []) ++ b, ((lkF d s).map Prod.snd).getD 0) else lkF d t)) := by
  have ok' := app_ok ok s b hb
  revert ok'
  unfold appD
  by_cases h1 : okN s = false
  · rw [if_pos h1]; intro ok'
    exact ⟨_, _, rfl, ok', .inl ⟨not_err d (by decide) (by decide), fun h => absurd h (by decide), by simp [h1], .inl rfl⟩⟩
  rw [if_neg h1]
  by_cases h2 : d.off = true
  · rw [if_pos h2]; intro ok'
    exact ⟨_, _, rfl, ok', .inl ⟨not_down h2, fun h => absurd h (by decide), by simp [h1], .inr (.inr rfl)⟩⟩
  rw [if_neg h2]
  have h2' : d.off = false := by simpa using h2
  by_cases h3 : (findD d.fs s = none ∧ d.fs.length = 64) ∨ (d.room : Int) - usedD d.fs < b.length
  · rw [if_pos h3]; intro ok'
    refine ⟨_, _, rfl, ok', .inl ⟨not_err d (by decide) (by decide), fun _ => ⟨h2', ?_⟩, by simp [h1], .inr (.inl rfl)⟩⟩
    rw [← find_none_lk]; exact h3
  rw [if_neg h3]
  unfold opD
  by_cases h4 : d.left = 0
  · rw [if_pos h4]; intro ok'
    exact ⟨_, _, rfl, ok', .inl ⟨not_op h4, fun h => absurd h (by decide), by simp [h1], .inr (.inr rfl)⟩⟩
  rw [if_neg h4]
  intro ok'
  refine ⟨_, _, rfl, ok', .inr ⟨rfl, h2', by simpa using h1, did1_of h2' _, ?_, fun t => ?_⟩⟩
  · show usedD (addF d.fs s b) = _
    unfold addF
    cases hf : findD d.fs s with
    | none => simp only; rw [used_ins]
    | some k =>
      obtain ⟨hk, _, _⟩ := find_some_lk hf
      simp only
      have := used_modify hk (fun f => ({ f with bs := f.bs ++ b } : Fl))
      simp only [List.length_append] at this
      omega
  · refine lk_ext ok' fun b' y => ?_
    show _ ↔ ∃ f ∈ addF d.fs s b, _
    unfold addF
    cases hf : findD d.fs s with
    | none =>
      have hn := find_none_lk.1 hf
      simp only [hn, Option.map_none, Option.getD_none, List.nil_append]
      constructor
      · intro h
        by_cases ht : t = s
        · rw [if_pos ht] at h
          injection h with h
          injection h with e1 e2
          subst e1 e2
          exact ⟨⟨s, b, 0⟩, ins_mem_iff.2 (.inl rfl), ht.symm, rfl, rfl⟩
        · rw [if_neg ht, lk_some ok] at h
          obtain ⟨f, hm, h⟩ := h
          exact ⟨f, ins_mem_iff.2 (.inr hm), h⟩
      · rintro ⟨f, hm, rfl, rfl, rfl⟩
        rcases ins_mem_iff.1 hm with rfl | hm
        · rw [if_pos rfl]
        · rw [if_neg (lk_none.1 hn f hm), lk_some ok]
          exact ⟨f, hm, rfl, rfl, rfl⟩
    | some k =>
      obtain ⟨hk, hnm, hlk⟩ := find_some_lk hf
      simp only [hlk, Option.map_some, Option.getD_some]
      constructor
      · intro h
        by_cases ht : t = s
        · rw [if_pos ht] at h
          injection h with h
          injection h with e1 e2
          subst e1 e2
          exact ⟨_, (modify_mem_iff ok.up hk _).2 (.inr rfl), by rw [ht]; exact hnm, rfl, rfl⟩
        · rw [if_neg ht, lk_some ok] at h
          obtain ⟨f, hm, h1, h2⟩ := h
          exact ⟨f, (modify_mem_iff ok.up hk _).2 (.inl ⟨hm, by rw [h1, hnm]; exact ht⟩), h1, h2⟩
      · rintro ⟨f, hm, rfl, rfl, rfl⟩
        rcases (modify_mem_iff ok.up hk _).1 hm with ⟨hm, hne⟩ | rfl
        · rw [if_neg (by rw [← hnm]; exact hne), lk_some ok]
          exact ⟨f, hm, rfl, rfl, rfl⟩
        · rw [if_pos hnm]
theorem mod_lk {d d' : Dv} (ok : Dv.Ok d) (ok' : Dv.Ok d') {s : ByteArray} {k : Nat} (hf : findD d.fs s = some k) (f : Fl → Fl) (hn : ∀ g, (f g).nm = g.nm) (h : d'.fs = d.fs.modify k f) :
    ∃ g : Fl, lkF d s = some (g.bs, g.sy) ∧ ∀ t, lkF d' t = if t = s then some ((f g).bs, (f g).sy) else lkF d t := by
  obtain ⟨hk, hnm, hlk⟩ := find_some_lk hf
  refine ⟨d.fs[k], hlk, fun t => lk_ext ok' fun b' y => ?_⟩
  rw [h]
  constructor
  · intro h
    by_cases ht : t = s
    · rw [if_pos ht] at h
      injection h with h
      injection h with e1 e2
      exact ⟨_, (modify_mem_iff ok.up hk _).2 (.inr rfl), by rw [hn, hnm]; exact ht.symm, e1, e2⟩
    · rw [if_neg ht, lk_some ok] at h
      obtain ⟨g, hm, h1, h2⟩ := h
      exact ⟨g, (modify_mem_iff ok.up hk _).2 (.inl ⟨hm, by rw [h1, hnm]; exact ht⟩), h1, h2⟩
  · rintro ⟨g, hm, rfl, rfl, rfl⟩
    rcases (modify_mem_iff ok.up hk _).1 hm with ⟨hm, hne⟩ | rfl
    · rw [if_neg (by rw [← hnm]; exact hne), lk_some ok]
      exact ⟨g, hm, rfl, rfl, rfl⟩
    · rw [if_pos (by rw [hn, hnm])]
theorem sync_step {d : Dv} (ok : Dv.Ok d) (s : ByteArray) :
    ∃ d' e, syncD d s = (d', e) ∧ Dv.Ok d' ∧ ((Not1 d d' e ∧ (e = 6 ∨ e = 10) ∧ (e = 6 → lkF d s = none)) ∨
    (e = 0 ∧ d.off = false ∧ Did1 d d' ∧ usedD d'.fs = usedD d.fs ∧ ∃ b y, lkF d s = some (b, y) ∧ ∀ t, lkF d' t = if t = s then some (b, b.length) else lkF d t)) := by
  have ok' := sync_ok ok s
  revert ok'
  unfold syncD
  by_cases h2 : d.off = true
  · rw [if_pos h2]; intro ok'
    exact ⟨_, _, rfl, ok', .inl ⟨not_down h2, .inr rfl, fun h => absurd h (by decide)⟩⟩
  rw [if_neg h2]
  have h2' : d.off = false := by simpa using h2
  cases hf : findD d.fs s with
  | none => intro ok'; exact ⟨_, _, rfl, ok', .inl ⟨not_err d (by decide) (by decide), .inl rfl, fun _ => find_none_lk.1 hf⟩⟩
  | some k =>
    unfold opD
    by_cases h4 : d.left = 0
    · simp only [if_pos h4]; intro ok'
      exact ⟨_, _, rfl, ok', .inl ⟨not_op h4, .inr rfl, fun h => absurd h (by decide)⟩⟩
    simp only [if_neg h4]
    intro ok'
    obtain ⟨g, h5, h6⟩ := mod_lk ok ok' hf (fun f => { f with sy := f.bs.length }) (fun _ => rfl) rfl
    refine ⟨_, _, rfl, ok', .inr ⟨rfl, h2', did1_of h2' _, ?_, g.bs, g.sy, h5, h6⟩⟩
    obtain ⟨hk, _, _⟩ := find_some_lk hf
    have := used_modify hk (fun f => ({ f with sy := f.bs.length } : Fl))
    show usedD (d.fs.modify k _) = _
    simp only at this
    omega
theorem rem_step {d : Dv} (ok : Dv.Ok d) (s : ByteArray) :
    ∃ d' e, remD d s = (d', e) ∧ Dv.Ok d' ∧ ((Not1 d d' e ∧ (e = 6 ∨ e = 10) ∧ (e = 6 → lkF d s = none)) ∨
    (e = 0 ∧ d.off = false ∧ Did1 d d' ∧ lkF d s ≠ none ∧ ∀ t, lkF d' t = if t = s then none else lkF d t)) := by
  have ok' := rem_ok ok s
  revert ok'
  unfold remD
  by_cases h2 : d.off = true
  · rw [if_pos h2]; intro ok'
    exact ⟨_, _, rfl, ok', .inl ⟨not_down h2, .inr rfl, fun h => absurd h (by decide)⟩⟩
  rw [if_neg h2]
  have h2' : d.off = false := by simpa using h2
  cases hf : findD d.fs s with
  | none => intro ok'; exact ⟨_, _, rfl, ok', .inl ⟨not_err d (by decide) (by decide), .inl rfl, fun _ => find_none_lk.1 hf⟩⟩
  | some k =>
    unfold opD
    by_cases h4 : d.left = 0
    · simp only [if_pos h4]; intro ok'
      exact ⟨_, _, rfl, ok', .inl ⟨not_op h4, .inr rfl, fun h => absurd h (by decide)⟩⟩
    simp only [if_neg h4]
    intro ok'
    obtain ⟨hk, hnm, hlk⟩ := find_some_lk hf
    refine ⟨_, _, rfl, ok', .inr ⟨rfl, h2', did1_of h2' _, by rw [hlk]; simp, fun t => lk_ext ok' fun b' y => ?_⟩⟩
    show _ ↔ ∃ f ∈ d.fs.eraseIdx k, _
    constructor
    · intro h
      by_cases ht : t = s
      · rw [if_pos ht] at h; cases h
      · rw [if_neg ht, lk_some ok] at h
        obtain ⟨g, hm, h1, h2⟩ := h
        exact ⟨g, (erase_mem_iff ok.up hk).2 ⟨hm, by rw [h1, hnm]; exact ht⟩, h1, h2⟩
    · rintro ⟨g, hm, rfl, rfl, rfl⟩
      obtain ⟨hm, hne⟩ := (erase_mem_iff ok.up hk).1 hm
      rw [if_neg (by rw [← hnm]; exact hne), lk_some ok]
      exact ⟨g, hm, rfl, rfl, rfl⟩
theorem trunc_step {d : Dv} (ok : Dv.Ok d) (s : ByteArray) (n : Nat) :
    ∃ d' e, truncD d s n = (d', e) ∧ Dv.Ok d' ∧ ((Not1 d d' e ∧ (e = 6 → lkF d s = none) ∧ (e = 3 → ∃ b y, lkF d s = some (b, y) ∧ b.length < n) ∧ (e = 6 ∨ e = 3 ∨ e = 10)) ∨
    (e = 0 ∧ d.off = false ∧ Did1 d d' ∧ ∃ b y, lkF d s = some (b, y) ∧ n ≤ b.length ∧ ∀ t, lkF d' t = if t = s then some (b.take n, min y n) else lkF d t)) := by
  have ok' := trunc_ok ok s n
  revert ok'
  unfold truncD
  by_cases h2 : d.off = true
  · rw [if_pos h2]; intro ok'
    exact ⟨_, _, rfl, ok', .inl ⟨not_down h2, fun h => absurd h (by decide), fun h => absurd h (by decide), .inr (.inr rfl)⟩⟩
  rw [if_neg h2]
  have h2' : d.off = false := by simpa using h2
  cases hf : findD d.fs s with
  | none => intro ok'; exact ⟨_, _, rfl, ok', .inl ⟨not_err d (by decide) (by decide), fun _ => find_none_lk.1 hf, fun h => absurd h (by decide), .inl rfl⟩⟩
  | some k =>
    obtain ⟨hk, hnm, hlk⟩ := find_some_lk hf
    simp only [List.getElem?_eq_getElem hk, Option.map_some, Option.getD_some]
    by_cases h3 : (n : Int) < 0 ∨ (d.fs[k].bs.length : Int) < n
    · rw [if_pos h3]; intro ok'
      exact ⟨_, _, rfl, ok', .inl ⟨not_err d (by decide) (by decide), fun h => absurd h (by decide), fun _ => ⟨_, _, hlk, by omega⟩, .inr (.inl rfl)⟩⟩
    rw [if_neg h3]
    unfold opD
    by_cases h4 : d.left = 0
    · simp only [if_pos h4]; intro ok'
      exact ⟨_, _, rfl, ok', .inl ⟨not_op h4, fun h => absurd h (by decide), fun h => absurd h (by decide), .inr (.inr rfl)⟩⟩
    simp only [if_neg h4]
    intro ok'
    obtain ⟨g, h5, h6⟩ := mod_lk ok ok' hf (fun f => { f with bs := f.bs.take (n : Int).toNat, sy := min f.sy (n : Int).toNat }) (fun _ => rfl) rfl
    rw [hlk] at h5
    injection h5 with h5
    injection h5 with e1 e2
    refine ⟨_, _, rfl, ok', .inr ⟨rfl, h2', did1_of h2' _, _, _, hlk, by omega, fun t => ?_⟩⟩
    rw [h6 t, e1, e2]
    rfl
theorem wake_lk {d : Dv} (ok : Dv.Ok d) (keep : Int) (t : ByteArray) : lkF (wakeD d keep) t = (lkF d t).map fun p => (p.1.take (p.2 + min keep.toNat (p.1.length - p.2)), p.2 + min keep.toNat (p.1.length - p.2)) := by
  refine lk_ext (wake_ok ok keep) fun b y => ?_
  show _ ↔ ∃ f ∈ d.fs.map (wakeF keep), _
  constructor
  · intro h
    rw [Option.map_eq_some_iff] at h
    obtain ⟨⟨b0, y0⟩, h1, h2⟩ := h
    obtain ⟨f, hm, h3, h4, h5⟩ := (lk_some ok).1 h1
    injection h2 with e1 e2
    subst h4 h5
    exact ⟨wakeF keep f, List.mem_map.2 ⟨f, hm, rfl⟩, h3, e1, e2⟩
  · rintro ⟨f', hm, rfl, rfl, rfl⟩
    obtain ⟨f, hm2, rfl⟩ := List.mem_map.1 hm
    rw [show lkF d (wakeF keep f).nm = some (f.bs, f.sy) from (lk_some ok).2 ⟨f, hm2, rfl, rfl, rfl⟩]
    rfl
end Go.Proofs.YtbdhhmhlcdganaaGreatDoor
