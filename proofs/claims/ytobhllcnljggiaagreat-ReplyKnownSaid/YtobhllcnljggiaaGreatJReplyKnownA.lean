/-
  Texts of the proof of ReplyKnown, joined.
-/
import Derived.WalkKit
import Derived.WalkSpells
import Derived.WalkLawsBesides
import Derived.Outline
import Derived.Lib.Hide
import Derived.Deep.QuietTactic
import Derived.BigQuiet
import Derived.Deep.Draws
import Derived.ProofKit
import Derived.OpenShut
import Derived.ShutString
import Derived.ChangeOld
import Derived.SizedLaws
import Derived.RegionTactic
import Derived.NoCompiler
import Derived.Deep.AppendLies
import Derived.Test.YtobhllcnljggiaaGreatRows
import Derived.Laws.AppendOwn
import Derived.Test.YtobhllcnljggiaaGreatProg
namespace Go.Proofs.YtobhllcnljggiaaGreat
open Go.RowKit

/-- The i-th number of a list, behind a name that the walk's simp does not open. -/
def nth (l : List Int) (i : Nat) : Int := l.getD i 0
theorem nth_eq (l : List Int) (i : Nat) (h : i < l.length) : nth l i = l[i] := by simp [nth, List.getD_eq_getElem?_getD, List.getElem?_eq_getElem h]
theorem nth_mem (l : List Int) (i : Nat) (h : i < l.length) : nth l i ∈ l := by rw [nth_eq l i h]; exact List.getElem_mem h
theorem nth_left (l m : List Int) (i : Nat) (h : i < l.length) : nth (l ++ m) i = nth l i := by
  rw [nth_eq _ _ h, nth_eq _ _ (by simp; omega)]; exact List.getElem_append_left h
theorem nth_right (l m : List Int) (i : Nat) : nth (l ++ m) (l.length + i) = nth m i := by
  simp [nth, List.getD_eq_getElem?_getD, List.getElem?_append_right]
theorem nth_replicate (n i : Nat) (v : Int) (h : i < n) : nth (List.replicate n v) i = v := by rw [nth_eq _ _ (by simpa using h)]; simp
theorem ext_nth (a b : List Int) (hl : a.length = b.length) (h : ∀ i, i < a.length → nth a i = nth b i) : a = b := by
  refine List.ext_getElem hl fun i h1 h2 => ?_
  rw [← nth_eq a i h1, ← nth_eq b i h2]; exact h i h1

/-- The cells of a row of integers. -/
def blk (k : IntKind) (l : List Int) : Array Value := (l.map (Value.int k)).toArray

theorem blk_size (k : IntKind) (l : List Int) : (blk k l).size = l.length := by simp [blk]
theorem blk_get (k : IntKind) (l : List Int) (i : Nat) (h : i < l.length) : (blk k l)[i]? = some (.int k (nth l i)) := by
  simp [blk, List.getElem?_eq_getElem h, nth_eq l i h]
theorem blk_set (k : IntKind) (l : List Int) (i : Nat) (v : Int) : (blk k l).setIfInBounds i (.int k v) = blk k (l.set i v) := by
  simp [blk, List.map_set]

/-- A slice that reads as the list xs of integers of kind k, in blocks below B. -/
def Row (k : IntKind) (w : World) (B : Nat) (A : Option Addr) (xs : List Int) : Prop :=
  (∀ x ∈ xs, (Lit.int k x).wf = true) ∧ (0 < xs.length → ∃ b o, A = some ⟨b, o, none⟩ ∧ b < B ∧ ∀ i, i < xs.length → w.cell? ⟨b, o + i, none⟩ = some (.int k (nth xs i)))

theorem Row.keep {k : IntKind} {w w' : World} {B : Nat} {A : Option Addr} {xs : List Int} (h : Row k w B A xs) (hk : ∀ b o, b < B → w'.cell? ⟨b, o, none⟩ = w.cell? ⟨b, o, none⟩) : Row k w' B A xs := by
  refine ⟨h.1, fun hn => ?_⟩
  obtain ⟨b, o, e, hb, hc⟩ := h.2 hn
  exact ⟨b, o, e, hb, fun i hi => (hk _ _ hb).trans (hc i hi)⟩
theorem Row.more {k : IntKind} {w : World} {B B' : Nat} {A : Option Addr} {xs : List Int} (h : Row k w B A xs) (hB : B ≤ B') : Row k w B' A xs := by
  refine ⟨h.1, fun hn => ?_⟩
  obtain ⟨b, o, e, hb, hc⟩ := h.2 hn
  exact ⟨b, o, e, by omega, hc⟩
theorem Row.below {k : IntKind} {w w' : World} {B : Nat} {A : Option Addr} {xs : List Int} (h : Row k w B A xs) (hb : Below B w w') : Row k w' B A xs :=
  h.keep fun b o hlt => hb.cell (p := ⟨b, o, none⟩) hlt
theorem Row.alloc {k : IntKind} {w : World} {B : Nat} {A : Option Addr} {xs : List Int} (h : Row k w B A xs) (hB : B ≤ w.heap.size) (o : Obj) : Row k (w.alloc o) B A xs :=
  h.below ((Below.refl _ _).alloc hB o)
theorem Row.drewN {k : IntKind} {w : World} {B : Nat} {A : Option Addr} {xs : List Int} (h : Row k w B A xs) (n : Nat) : Row k (w.drewN n) B A xs := h
theorem Row.nil (k : IntKind) (w : World) (B : Nat) (A : Option Addr) : Row k w B A [] := ⟨by simp, by simp⟩
/-- A row that lies at the head of a new block. -/
theorem Row.new (k : IntKind) (w : World) (t : TypeId) (l xs : List Int) (hw : ∀ x ∈ xs, (Lit.int k x).wf = true) (hp : xs <+: l) :
    Row k (w.alloc (.cells (blk k l) t)) (w.heap.size + 1) (some ⟨w.heap.size, 0, none⟩) xs := by
  obtain ⟨ys, rfl⟩ := hp
  refine ⟨hw, fun _ => ⟨_, _, rfl, Nat.lt_succ_self _, fun i hi => ?_⟩⟩
  rw [World.cell?_alloc_at _ _ _ _ rfl, Nat.zero_add, blk_get _ _ _ (by simp; omega), nth_left _ _ _ hi]
/-- A row at the head of a block that is known whole, whatever of it is frozen. -/
theorem Row.of_block {k : IntKind} {w : World} {g : Nat} {t : TypeId} {fr : Nat × Nat} {l : List Int} (hg : w.heap[g]? = some (.cells (blk k l) t fr)) (xs : List Int) (hw : ∀ x ∈ xs, (Lit.int k x).wf = true) (hp : xs <+: l) :
    Row k w (g + 1) (some ⟨g, 0, none⟩) xs := by
  obtain ⟨ys, rfl⟩ := hp
  refine ⟨hw, fun _ => ⟨_, _, rfl, Nat.lt_succ_self _, fun i hi => ?_⟩⟩
  rw [Nat.zero_add, cell_of_row w g i _ _ _ hg, blk_get _ _ _ (by simp; omega), nth_left _ _ _ hi]
/-- One cell of a row, for the walk. -/
theorem Row.at_ {k : IntKind} {w : World} {B : Nat} {A : Option Addr} {xs : List Int} (h : Row k w B A xs) {i : Nat} (hi : i < xs.length) :
    ∃ b o, A = some ⟨b, o, none⟩ ∧ b < B ∧ w.cell? ⟨b, o + i, none⟩ = some (.int k (nth xs i)) := by
  obtain ⟨b, o, e, hb, hc⟩ := h.2 (by omega)
  exact ⟨b, o, e, hb, hc i hi⟩
theorem Row.wf_at {k : IntKind} {w : World} {B : Nat} {A : Option Addr} {xs : List Int} (h : Row k w B A xs) {i : Nat} (hi : i < xs.length) : (Lit.int k (nth xs i)).wf = true := h.1 _ (nth_mem _ _ hi)

theorem wf_u8 {n : Int} (h : (Lit.int .u8 n).wf = true) : 0 ≤ n ∧ n < 256 := by
  simp [Lit.wf, IntKind.min, IntKind.max, IntKind.signed, IntKind.bits] at h; omega
theorem wf_u16 {n : Int} (h : (Lit.int .u16 n).wf = true) : 0 ≤ n ∧ n < 65536 := by
  simp [Lit.wf, IntKind.min, IntKind.max, IntKind.signed, IntKind.bits] at h; omega
theorem wf_u64 {n : Int} (h : (Lit.int .u64 n).wf = true) : 0 ≤ n ∧ n < 18446744073709551616 := by
  simp [Lit.wf, IntKind.min, IntKind.max, IntKind.signed, IntKind.bits] at h; omega
theorem wf_i64 {n : Int} (h : (Lit.int .i64 n).wf = true) : -9223372036854775808 ≤ n ∧ n < 9223372036854775808 := by
  simp [Lit.wf, IntKind.min, IntKind.max, IntKind.signed, IntKind.bits] at h; omega

theorem wf_append {k : IntKind} {xs ys : List Int} (h : ∀ x ∈ xs, (Lit.int k x).wf = true) (h' : ∀ x ∈ ys, (Lit.int k x).wf = true) : ∀ x ∈ xs ++ ys, (Lit.int k x).wf = true := fun x hx => (List.mem_append.1 hx).elim (h x) (h' x)
theorem take_step (xs : List Int) (k : Nat) (h : k < xs.length) : xs.take (k + 1) = xs.take k ++ [nth xs k] := by
  rw [List.take_succ_eq_append_getElem h, nth_eq xs k h]
/-- The k-th place of what is filled up to k is written. -/
theorem set_step (l : List Int) (m k : Nat) (v x : Int) (h : l.length = k) : (l ++ List.replicate (m + 1) v).set k x = l ++ [x] ++ List.replicate m v := by
  rw [List.set_append_right _ _ (by omega)]
  simp [h, List.replicate_succ]
theorem fill_cell (k : IntKind) (l : List Int) (m i : Nat) (v : Int) (h : l.length = i) (hm : 0 < m) : (blk k (l ++ List.replicate m v))[i]? = some (.int k v) := by
  rw [blk_get _ _ _ (by simp; omega)]
  subst h
  have := nth_right l (List.replicate m v) 0
  rw [Nat.add_zero] at this
  rw [this, nth_replicate _ _ _ hm]
end Go.Proofs.YtobhllcnljggiaaGreat
namespace Go.Proofs.YtobhllcnljggiaaGreat
open Go.ChangeShapes Go.WideShapes Go.ChangeAt Go.RowKit

theorem row_in {H : Type} {enc : TypeId × Value → H} {P : Program} {W : World} {t e : TypeId} {k : IntKind} {a : Option Addr} {len cap : Nat} {d : DataW H} {p : List MemPlace}
    (ht : P.underlying t = some (.slice e)) (he : P.underlying e = some (.int k)) (hc : P.cellsOf e = 1)
    (h : DataW.Trod enc P W 0 (fun _ => true) true t (.slice a len cap) d p) (lt : ∀ x ∈ p, x.block < W.heap.size) :
    ∃ xs, Row k W W.heap.size a xs ∧ xs.length = len ∧ len ≤ cap ∧ (cap = 0 ∨ ∃ el sp, d = .slice el sp ∧ cap ≤ el.length + sp.length) := by
  obtain ⟨fuel, hf⟩ := h
  rcases open_ints ht he hc hf with ⟨hcs, _⟩ | ⟨x, l, c, zs, hcs, _, hl, hm, hz, hx, hcell, hwz⟩
  · simp [Value.cells] at hcs
    obtain ⟨rfl, rfl, rfl⟩ := hcs
    exact ⟨[], Row.nil _ _ _ _, rfl, Nat.le_refl _, .inl rfl⟩
  · simp [Value.cells] at hcs
    obtain ⟨rfl, rfl, rfl⟩ := hcs
    simp only [if_true] at hz
    simp only [Prod.mk.injEq] at hx
    obtain ⟨rfl, rfl⟩ := hx
    refine ⟨zs.take len, ⟨fun v hv => hwz v (List.mem_of_mem_take hv), fun hn => ?_⟩, by simp; omega, hl, .inr ⟨_, _, rfl, by simp [lits]; omega⟩⟩
    have hpos : 0 < zs.length := by simp at hn; omega
    have hb := lt (.cell x.block x.off) (MemPlace.mem_row.2 ⟨0, hpos, by simp⟩)
    obtain ⟨b, off, rfl, hc'⟩ := ints_at hcell hpos
    refine ⟨b, off, rfl, hb, fun i hi => ?_⟩
    have hi' : i < len ∧ i < zs.length := by simp at hi; omega
    rw [hc' i hi'.2, nth, List.getD_eq_getElem?_getD, List.getD_eq_getElem?_getD, List.getElem?_take_of_lt hi'.1]

theorem reach_in {H : Type} {P : Program} {ts : List TypeId} {ds : List (DataW H)} (hsz : (DataW.weightsEach P ts ds).all (· ≤ reachBytes) = true) (j : Nat) {t e : TypeId} {d : DataW H} {cap : Nat} (ht : ts[j]? = some t) (hd : ds[j]? = some d)
    (hu : P.underlying t = some (.slice e)) (hb : 0 < P.bytesOf e) (h : cap = 0 ∨ ∃ el sp, d = .slice el sp ∧ cap ≤ el.length + sp.length) : cap ≤ 140737488351232 := by
  rcases h with rfl | ⟨el, sp, rfl, hle⟩
  · omega
  · have := sized_slice hsz ht hd hu
    have h2 : el.length + sp.length ≤ (el.length + sp.length) * P.bytesOf e := Nat.le_mul_of_pos_right _ hb
    simp only [reachBytes] at this
    omega
end Go.Proofs.YtobhllcnljggiaaGreat
namespace Go.Proofs.YtobhllcnljggiaaGreat
open Go.RowKit
set_option linter.unusedVariables false

section
variable {P : Program} {ops : Array Oper} {Q : Exit → Act → World → Prop} {md : Region.Mode}
/-- What each operation waits for. -/
def waitsTab (md : Region.Mode) (ops : Array Oper) : List (List Nat) := ops.toList.map fun o => (o.after.toList.filter (Region.binds md)).map (·.on)
theorem waits_mem {D : List (List Nat)} (hD : waitsTab md ops = D) {i : Nat} {o : Oper} (ho : ops[i]? = some o) {d : Nat} : d ∈ D.getD i [] ↔ ∃ e ∈ o.after, Region.binds md e = true ∧ e.on = d := by
  subst hD
  have h : (waitsTab md ops).getD i [] = (o.after.toList.filter (Region.binds md)).map (·.on) := by
    rw [waitsTab, List.getD_eq_getElem?_getD, List.getElem?_map]
    have : ops.toList[i]? = some o := by simpa using ho
    rw [this]; rfl
  rw [h, List.mem_map]
  constructor
  · rintro ⟨e, he, rfl⟩
    rw [List.mem_filter] at he
    exact ⟨e, by simpa using he.1, he.2, rfl⟩
  · rintro ⟨e, he, hb, rfl⟩
    exact ⟨e, List.mem_filter.2 ⟨by simpa using he, hb⟩, rfl⟩
theorem listed_all {D : List (List Nat)} (hD : waitsTab md ops = D) (hback : ∀ i, i < ops.size → ∀ d ∈ D.getD i [], d < i) {listed : Array Bool} (hs : listed.size = ops.size) (h : Region.ready md ops listed = []) :
    ∀ i, i < ops.size → listed.getD i false = true := by
  intro i
  induction i using Nat.strongRecOn with
  | _ i ih =>
    intro hi
    cases hl : listed.getD i false with
    | true => rfl
    | false =>
      have hl2 : listed.getD i true = false := by
        have hi' : i < listed.size := by omega
        simp [hi'] at hl ⊢
        exact hl
      have : i ∈ Region.ready md ops listed := by
        refine mem_ready.2 ⟨hl2, ops[i], by simp [hi], fun e he hb => ?_⟩
        have hd := (waits_mem hD (i := i) (o := ops[i]) (by simp [hi])).2 ⟨e, he, hb, rfl⟩
        have hlt := hback i hi _ hd
        exact ih e.on hlt (by omega)
      rw [h] at this
      cases this
theorem count_set {listed : Array Bool} {i : Nat} (hi : i < listed.size) (h : listed.getD i true = false) : (listed.setIfInBounds i true).toList.count true = listed.toList.count true + 1 := by
  rw [Array.toList_setIfInBounds, List.count_set (by simpa using hi)]
  have : listed.toList[i]'(by simpa using hi) = false := by
    simp [hi] at h; simpa using h
  rw [this]
  simp
/-- An invariant of a region: whatever comes up next keeps it. -/
theorem wpAny_hold (D : List (List Nat)) (J : Array Bool → Act → World → Prop) (hD : waitsTab md ops = D) (hback : ∀ i, i < ops.size → ∀ d ∈ D.getD i [], d < i)
    (hs : ∀ i, i < ops.size → ∀ listed a w, J listed a w → (∀ d ∈ D.getD i [], listed.getD d false = true) → wpOp P ops Q i (fun a' w' => listed.size = ops.size → J (listed.setIfInBounds i true) a' w') a w)
    (he : ∀ listed a w, J listed a w → (∀ i, i < ops.size → listed.getD i false = true) → Q .normal a w) :
    ∀ (fuel : Nat) (listed : Array Bool) (a : Act) (w : World), listed.size = ops.size → ops.size ≤ listed.toList.count true + fuel → J listed a w → wpAny P md ops Q fuel listed a w
  | 0, listed, a, w, hz, hf, hJ => by
    have hall : ∀ x ∈ listed.toList, x = true := by
      have : listed.toList.count true = listed.toList.length := by
        have h1 := List.count_le_length (a := true) (l := listed.toList)
        have h2 : listed.toList.length = listed.size := by simp
        omega
      intro x hx
      exact ((List.count_eq_length.1 this) x hx).symm
    have hl : ∀ i, i < ops.size → listed.getD i false = true := by
      intro i hi
      have hi' : i < listed.size := by omega
      have := hall (listed[i]) (by simp)
      simp [hi', this]
    have hr : Region.ready md ops listed = [] := by
      cases hh : Region.ready md ops listed with
      | nil => rfl
      | cons j js =>
        have hj : j ∈ Region.ready md ops listed := by rw [hh]; simp
        obtain ⟨h1, o, ho, _⟩ := mem_ready.1 hj
        have hjs : j < ops.size := by
          rcases Nat.lt_or_ge j ops.size with h | h
          · exact h
          · rw [Array.getElem?_eq_none h] at ho; cases ho
        have h2 := hl j hjs
        have hj' : j < listed.size := by omega
        simp [hj'] at h1 h2
        rw [h1] at h2; cases h2
    exact ⟨hr, he listed a w hJ hl⟩
  | fuel + 1, listed, a, w, hz, hf, hJ => by
    refine ⟨fun h => he listed a w hJ (listed_all hD hback hz h), fun i hi => ?_⟩
    obtain ⟨h1, o, ho, hall⟩ := mem_ready.1 hi
    have his : i < ops.size := by
      rcases Nat.lt_or_ge i ops.size with h | h
      · exact h
      · rw [Array.getElem?_eq_none h] at ho; cases ho
    refine wpOp_mono (fun a' w' hJ' => ?_) (hs i his listed a w hJ (fun d hd => ?_))
    · refine wpAny_hold D J hD hback hs he fuel _ a' w' (by simpa using hz) ?_ (hJ' hz)
      rw [count_set (by omega) h1]; omega
    · obtain ⟨e, he', hb, rfl⟩ := (waits_mem hD ho).1 hd
      exact hall e he' hb
theorem wp_region_hold (D : List (List Nat)) (J : Array Bool → Act → World → Prop) (hm : P.follows .mixedOrders = true) (hD : waitsTab .any ops = D) (hback : ∀ i, i < ops.size → ∀ d ∈ D.getD i [], d < i)
    (hs : ∀ i, i < ops.size → ∀ listed a w, J listed a w → (∀ d ∈ D.getD i [], listed.getD d false = true) → wpOp P ops Q i (fun a' w' => listed.size = ops.size → J (listed.setIfInBounds i true) a' w') a w)
    (he : ∀ listed a w, J listed a w → (∀ i, i < ops.size → listed.getD i false = true) → Q .normal a w) {id : Nat} {a : Act} {w : World} (h0 : J (Array.replicate ops.size false) a w.drew) : (Code.region id ops true).wp P Q a w :=
  wp_region_any hm (wpAny_hold D J hD hback hs he ops.size _ a _ (by simp) (by omega) h0)
/-- An operation that yields a value. -/
theorem wpOp_val {i : Nat} {o : Oper} {K : Act → World → Prop} {a : Act} {w w' : World} {v : Value} (ho : ops[i]? = some o) (hg : o.guard = none) (hrun : (execOp a.eval o).run P w = .ok (.value v) w') (h : K (a.put o.dst v) w') : wpOp P ops Q i K a w := by
  refine wpOp_step ho (fun K' hK => ?_)
  have hw : Region.wanted o (yielded ops a.tmps) = true := by simp [Region.wanted, hg]
  rw [if_pos hw]
  unfold Oper.wp
  rw [hrun]
  exact hK _ _ h
end
end Go.Proofs.YtobhllcnljggiaaGreat
namespace Go.Proofs.YtobhllcnljggiaaGreat
open Go.RowKit

/-- The slice v owns a row, in a block from base on, that holds the integers xs. -/
def Own (k : IntKind) (e : TypeId) (w : World) (base : Nat) (v : Value) (xs : List Int) : Prop := w.ownsRow base e 1 v xs.length (xs.map (Value.int k))

theorem Own.nil (k : IntKind) (e : TypeId) (w : World) (base : Nat) : Own k e w base (.slice none 0 0) [] := ⟨by simp, .inl ⟨rfl, rfl⟩⟩
theorem Own.alloc {k : IntKind} {e : TypeId} {w : World} {base : Nat} {v : Value} {xs : List Int} (h : Own k e w base v xs) (o : Obj) : Own k e (w.alloc o) base v xs := World.ownsRow.alloc h o
theorem Own.drewN {k : IntKind} {e : TypeId} {w : World} {base : Nat} {v : Value} {xs : List Int} (h : Own k e w base v xs) (n : Nat) : Own k e (w.drewN n) base v xs := h
theorem Own.block {k : IntKind} {e : TypeId} {w : World} {base : Nat} {v : Value} {xs : List Int} (h : Own k e w base v xs) : ∀ g, v.ownBlock = some g → base ≤ g ∧ g < w.heap.size := World.ownsRow.lt h
theorem Own.kept {k : IntKind} {e : TypeId} {w w' : World} {base : Nat} {v : Value} {xs : List Int} {row : Option Nat} (h : Own k e w base v xs) (hg : w.grownBy w' row) (hne : v.ownBlock = none ∨ v.ownBlock ≠ row) : Own k e w' base v xs := World.ownsRow.kept h hg hne
theorem Own.below {k : IntKind} {e : TypeId} {w w' : World} {base B : Nat} {v : Value} {xs : List Int} (h : Own k e w base v xs) (hb : Below B w w') (hB : w.heap.size ≤ B) : Own k e w' base v xs := by
  refine h.kept (row := none) ⟨hb.os, hb.tape, hb.output, hb.size, fun i hi _ => hb.block i (by omega)⟩ ?_
  cases hv : v.ownBlock with
  | none => exact .inl rfl
  | some g => exact .inr (by simp)
theorem Own.mono {k : IntKind} {e : TypeId} {w : World} {base base' : Nat} {v : Value} {xs : List Int} (h : Own k e w base v xs) (hb : base' ≤ base) : Own k e w base' v xs := by
  refine ⟨h.1, ?_⟩
  rcases h.2 with h0 | ⟨g, cap, cur, hv, h1, r⟩
  · exact .inl h0
  · exact .inr ⟨g, cap, cur, hv, by omega, r⟩
/-- What is owned is a slice that reads as its list. -/
theorem Own.row {k : IntKind} {e : TypeId} {w : World} {base : Nat} {v : Value} {xs : List Int} (h : Own k e w base v xs) (hw : ∀ x ∈ xs, (Lit.int k x).wf = true) :
    ∃ A c, v = .slice A xs.length c ∧ Row k w w.heap.size A xs ∧ xs.length ≤ c ∧ c ≤ maxLen := by
  rcases h.2 with ⟨rfl, h0⟩ | ⟨g, cap, cur, rfl, hb, hg, h1, h2, h3, h4⟩
  · have : xs = [] := List.eq_nil_of_length_eq_zero h0
    subst this
    exact ⟨none, 0, rfl, Row.nil _ _ _ _, by simp, by simp⟩
  · refine ⟨_, _, rfl, ⟨hw, fun _ => ⟨g, 0, rfl, ?_, fun i hi => ?_⟩⟩, h1, h2⟩
    · exact (Own.block (k := k) (e := e) (w := w) (base := base) (xs := xs) ⟨by simp, .inr ⟨g, cap, cur, rfl, hb, hg, h1, h2, h3, h4⟩⟩ g rfl).2
    · rw [Nat.zero_add, cell_of_row w g i cur e (0, 0) hg]
      have : (cur.toList.take (xs.length * 1))[i]? = (xs.map (Value.int k))[i]? := by rw [h4]
      rw [List.getElem?_take_of_lt (by omega)] at this
      rw [← Array.getElem?_toList, this, List.getElem?_map, List.getElem?_eq_getElem hi, nth_eq xs i hi]
      rfl

section
variable {P : Program}
theorem run_append_none (w : World) (t ty e : TypeId) (i : TypeInfo) (ht : P.underlying t = some (.slice e)) (hi : P.info? e = some i)
    (base : Nat) (v : Value) (n : Nat) (xs : List Value) (hown : w.ownsRow base e 1 v n xs) (c : Nat) : (Builtin.append_ #[t, t] ty #[v, .slice none 0 c]).run P w = .ok v w := by
  rcases hown.2 with ⟨rfl, rfl⟩ | ⟨g, cap, cur, rfl, _, _, hnc, _⟩
  · simp [Builtin.append_, run_underlying ht, sizeOf, typeInfo, hi, Builtin.lenOf, Builtin.firstCells]
  · simp [Builtin.append_, run_underlying ht, sizeOf, typeInfo, hi, Builtin.lenOf, Builtin.firstCells, hnc, storeCells]

/-- 'append(v, src...)': v owned, src whatever row of integers. -/
theorem wpList_append_row {ops : Array Oper} {rest : List Oper} {o : Oper} {a : Act} {Q : Exit → Act → World → Prop} (w : World) (hgd : o.guard = none) (s x : Operand) (t : TypeId)
    (ho : o.op = .call { callee := .builtin .append, args := #[s, x], argTypes := #[t, t] })
    (base : Nat) (k : IntKind) (e : TypeId) (bytes : Nat) (ht : P.underlying t = some (.slice e)) (hi : (P.info? e).map (fun i => (i.zero, i.size, i.bytes)) = some (some (.int k 0), 1, bytes))
    (v : Value) (xs : List Int) (hs : a.eval s = v) (hown : Own k e w base v xs)
    (B : Nat) (A : Option Addr) (m c : Nat) (ys : List Int) (hx : a.eval x = .slice A m c) (hr : Row k w B A ys) (hm : ys.length = m)
    (hbytes : (xs.length + m) * bytes ≤ 140737488355328) (h63 : xs.length + m ≤ maxLen) (hbase : base ≤ w.heap.size)
    (h : ∀ v' w', Own k e w' base v' (xs ++ ys) → w.grownBy w' v.ownBlock → wpList P ops Q rest (a.put o.dst v') w') : wpList P ops Q (o :: rest) a w := by
  obtain ⟨i, hi1, hz, hsz, hby⟩ := info_parts hi
  rcases Nat.eq_zero_or_pos m with h0 | h0
  · subst h0
    have hy : ys = [] := List.eq_nil_of_length_eq_zero hm
    subst hy
    cases A with
    | none =>
      refine wpList_plain hgd fun K hK => ?_
      have hrun := run_append_none (P := P) w t o.type e i ht hi1 base v _ _ hown c
      unfold Oper.wp
      simp [execOp, ho, resolve, invoke, builtin, hs, hx, hrun, Result.andThen]
      exact hK _ _ (h v w (by simpa using hown) (World.grownBy.refl _ _))
    | some ad =>
      refine wpList_append_own w hgd s x t ho base e i (.int k 0) 1 bytes ht hi1 hz hsz hby rfl (by omega) v _ _ hs hown ad 0 c [] hx (by simp) (by simp) (by simp) h63 hbytes hbase fun v' w' h1 h2 _ => h v' w' (by simpa [Own] using h1) h2
  · obtain ⟨b, of, rfl, _, hc⟩ := hr.2 (by omega)
    refine wpList_append_own w hgd s x t ho base e i (.int k 0) 1 bytes ht hi1 hz hsz hby rfl (by omega) v _ _ hs hown ⟨b, of, none⟩ m c (ys.map (Value.int k)) hx (by simp [hm]) ?_ (ints_oneCell k ys) h63 hbytes hbase fun v' w' h1 h2 _ => h v' w' (by simpa [Own, hm] using h1) h2
    intro j u hu
    rw [List.getElem?_map] at hu
    by_cases hj : j < ys.length
    · rw [List.getElem?_eq_getElem hj] at hu
      rw [Go.WideShapes.add_plain, hc j hj, nth_eq ys j hj]
      exact hu
    · rw [List.getElem?_eq_none (by omega)] at hu
      cases hu

/-- 'append(v, src...)' within the capacity: v owned, src whatever row of integers; the block stays. -/
theorem wpList_append_row_fits {ops : Array Oper} {rest : List Oper} {o : Oper} {a : Act} {Q : Exit → Act → World → Prop} (w : World) (hgd : o.guard = none) (s x : Operand) (t : TypeId)
    (ho : o.op = .call { callee := .builtin .append, args := #[s, x], argTypes := #[t, t] })
    (base : Nat) (k : IntKind) (e : TypeId) (bytes : Nat) (ht : P.underlying t = some (.slice e)) (hi : (P.info? e).map (fun i => (i.zero, i.size, i.bytes)) = some (some (.int k 0), 1, bytes))
    (g n cap : Nat) (xs : List Int) (hs : a.eval s = .slice (some ⟨g, 0, none⟩) n cap) (hn : xs.length = n) (hown : Own k e w base (.slice (some ⟨g, 0, none⟩) n cap) xs)
    (B : Nat) (A : Option Addr) (m c : Nat) (ys : List Int) (hx : a.eval x = .slice A m c) (hr : Row k w B A ys) (hm : ys.length = m) (hfit : n + m ≤ cap)
    (h : ∀ w', Own k e w' base (.slice (some ⟨g, 0, none⟩) (n + m) cap) (xs ++ ys) → w.grownBy w' (some g) → wpList P ops Q rest (a.put o.dst (.slice (some ⟨g, 0, none⟩) (n + m) cap)) w') : wpList P ops Q (o :: rest) a w := by
  obtain ⟨i, hi1, hz, hsz, hby⟩ := info_parts hi
  subst hn
  rcases Nat.eq_zero_or_pos m with h0 | h0
  · subst h0
    have hy : ys = [] := List.eq_nil_of_length_eq_zero hm
    subst hy
    cases A with
    | none =>
      refine wpList_plain hgd fun K hK => ?_
      have hrun := run_append_none (P := P) w t o.type e i ht hi1 base _ _ _ hown c
      unfold Oper.wp
      simp [execOp, ho, resolve, invoke, builtin, hs, hx, hrun, Result.andThen]
      exact hK _ _ (h w (by simpa using hown) (World.grownBy.refl _ _))
    | some ad =>
      refine wpList_append_fits w hgd s x t ho base e i 1 ht hi1 hsz g xs.length cap _ hs hown ad 0 c [] hx (by simp) (by simp) (by simp) hfit fun w' h1 h2 => h w' (by simpa [Own] using h1) h2
  · obtain ⟨b, of, rfl, _, hc⟩ := hr.2 (by omega)
    refine wpList_append_fits w hgd s x t ho base e i 1 ht hi1 hsz g xs.length cap _ hs hown ⟨b, of, none⟩ m c (ys.map (Value.int k)) hx (by simp [hm]) ?_ (ints_oneCell k ys) hfit fun w' h1 h2 => h w' (by simpa [Own, hm] using h1) h2
    intro j u hu
    rw [List.getElem?_map] at hu
    by_cases hj : j < ys.length
    · rw [List.getElem?_eq_getElem hj] at hu
      rw [Go.WideShapes.add_plain, hc j hj, nth_eq ys j hj]
      exact hu
    · rw [List.getElem?_eq_none (by omega)] at hu
      cases hu
end

/-- What 'make' of a length 0 lays is owned. -/
theorem Own.made (k : IntKind) (e : TypeId) (w : World) (l : List Int) (hm : l.length ≤ maxLen) : Own k e (w.alloc (.cells (blk k l) e)) w.heap.size (.slice (some ⟨w.heap.size, 0, none⟩) 0 l.length) [] :=
  ⟨rfl, .inr ⟨_, _, _, rfl, Nat.le_refl _, heap_alloc_new w _, by simp, hm, by simp [blk_size], by simp⟩⟩
/-- A row that fills its capacity is its block, whole. -/
theorem Own.full {k : IntKind} {e : TypeId} {w : World} {base g n : Nat} {xs : List Int} (h : Own k e w base (.slice (some ⟨g, 0, none⟩) n n) xs) : w.heap[g]? = some (.cells (blk k xs) e (0, 0)) := by
  rcases h.2 with ⟨h0, _⟩ | ⟨g', cap, cur, hv, hb, hg, h1, h2, h3, h4⟩
  · cases h0
  · injection hv with ha hn hc
    injection ha with ha
    injection ha with ha
    subst ha hn hc
    rw [hg]
    congr 2
    apply Array.toList_inj.1
    rw [List.take_of_length_le (by simp [h3])] at h4
    rw [h4]
    simp [blk]

theorem Below.own {k : IntKind} {e : TypeId} {w0 w w' : World} {base : Nat} {v : Value} {xs : List Int} (hb : Below base w0 w) (hB : base ≤ w.heap.size) (h : Own k e w base v xs) (hg : w.grownBy w' v.ownBlock) : Below base w0 w' :=
  hb.grown hg hB fun g e => (h.block g e).1
/-- One element's box, then the append that takes it. -/
theorem Below.own1 {k : IntKind} {e : TypeId} {w0 w w' : World} {base : Nat} {v : Value} {xs : List Int} {o : Obj} (hb : Below base w0 w) (hB : base ≤ w.heap.size) (h : Own k e w base v xs) (hg : (w.alloc o).grownBy w' v.ownBlock) : Below base w0 w' :=
  Below.own (hb.alloc hB o) (by simp; omega) (h.alloc o) hg
theorem Row.one (k : IntKind) (w : World) (t : TypeId) (x : Int) (h : (Lit.int k x).wf = true) : Row k (w.alloc (.cells #[.int k x] t)) (w.heap.size + 1) (some ⟨w.heap.size, 0, none⟩) [x] :=
  Row.new k w t [x] [x] (by simpa using h) (List.prefix_refl _)
end Go.Proofs.YtobhllcnljggiaaGreat
namespace Go.Proofs.YtobhllcnljggiaaGreat
open Go.RowKit
set_option linter.unusedVariables false

theorem block_setCell (w : World) (g i : Nat) (k : IntKind) (t : TypeId) (l : List Int) (v : Int) (h : w.heap[g]? = some (.cells (blk k l) t (0, 0))) :
    (w.setCell ⟨g, i, none⟩ (.int k v)).heap[g]? = some (.cells (blk k (l.set i v)) t (0, 0)) := by
  simp [World.setCell, Array.getElem?_modify, h, blk_set]
theorem block_frozen (w : World) (g i : Nat) (cs : Array Value) (t : TypeId) (h : w.heap[g]? = some (.cells cs t (0, 0))) : w.frozen? ⟨g, i, none⟩ = false := by simp [World.frozen?, h]
theorem grown_setCell {a w : World} {g : Nat} (h : a.grownBy w (some g)) (i : Nat) (u : Value) : a.grownBy (w.setCell ⟨g, i, none⟩ u) (some g) :=
  ⟨h.os, h.tape, h.output, by simpa [World.setCell] using h.size, fun k hk hne => (Below.heap_setCell w ⟨g, i, none⟩ u k (fun e => hne (by rw [e]))).trans (h.block k hk hne)⟩
theorem block_lt {w : World} {g : Nat} {o : Obj} (h : w.heap[g]? = some o) : g < w.heap.size := by
  rcases Nat.lt_or_ge g w.heap.size with hlt | hge
  · exact hlt
  · rw [Array.getElem?_eq_none hge] at h; cases h

end Go.Proofs.YtobhllcnljggiaaGreat
namespace Go.Proofs.YtobhllcnljggiaaGreat
open Go.RowKit
set_option linter.unusedVariables false

/-- The three cells of the k-th part. -/
theorem Row.three {w : World} {B : Nat} {A : Option Addr} {fl : List Int} (h : Row .i64 w B A fl) {k : Nat} (hk : 3 * k + 3 ≤ fl.length) :
    ∃ b o, A = some ⟨b, o, none⟩ ∧ b < B ∧ w.cell? ⟨b, o + k * 3, none⟩ = some (.int .i64 (nth fl (3 * k))) ∧ w.cell? ⟨b, o + k * 3 + 1, none⟩ = some (.int .i64 (nth fl (3 * k + 1))) ∧ w.cell? ⟨b, o + k * 3 + 2, none⟩ = some (.int .i64 (nth fl (3 * k + 2))) := by
  obtain ⟨b, o, e, hb, hc⟩ := h.2 (by omega)
  refine ⟨b, o, e, hb, ?_, ?_, ?_⟩
  · rw [Nat.mul_comm k 3]; exact hc _ (by omega)
  · rw [Nat.mul_comm k 3, Nat.add_assoc]; exact hc _ (by omega)
  · rw [Nat.mul_comm k 3, Nat.add_assoc]; exact hc _ (by omega)

/-- SameParts, where the lists are the same. -/
theorem same_yes_part (A A' : Option Addr) (n c c' : Nat) (fl : List Int) (w : World) (B B' : Nat) (hr : Row .i64 w B A fl) (hr' : Row .i64 w B' A' fl) (hn : fl.length = 3 * n) (hb : n ≤ 1000000) :
    Calls Tryz.prog 87 #[.slice A n c, .slice A' n c'] w fun e w' => e = .returned (.bool true) ∧ ∃ m, w' = w.drewN m := by
  have hn' := Lib.hid hn
  clear hn
  go_enter Tryz.func87, Tryz.ntmps87
  go_wp2
  go_loopw [5] (fun i wr => ∃ k nq : Nat, k ≤ n ∧ i = .int .i64 k ∧ wr = w.drewN nq) (fun i _ => n - (intOf i).toNat)
  case atStart => exact ⟨0, 0, by omega, rfl, rfl⟩
  case round =>
    obtain ⟨k, nq, hk, rfl, rfl⟩ := hrel
    by_cases hlt : k < n
    · obtain ⟨b, o, rfl, hb1, hc1, hc2, hc3⟩ := hr.three (k := k) (by have := hn'.out; omega)
      obtain ⟨b', o', rfl, hb1', hc1', hc2', hc3'⟩ := hr'.three (k := k) (by have := hn'.out; omega)
      have hlt' : (k : Int) < (n : Int) := by omega
      go_wp2
      go_quiet (fail)
      go_wp2
      go_roundw
      case rel => exact ⟨k + 1, _, by omega, by go_num, rfl⟩
      case measure => simp [intOf]; omega
    · go_wp2
      go_ret
      exact ⟨rfl, nq, rfl⟩

theorem info_part : (Tryz.prog.info? 47).map (fun i => (i.zero, i.size, i.bytes)) = some (some (.agg #[.int .i64 0, .int .i64 0, .int .i64 0]), 3, 24) := by kernel_rfl

theorem made_three (n : Nat) : madeCells (Value.agg #[.int .i64 0, .int .i64 0, .int .i64 0]).cells (n * 3) = blk .i64 (List.replicate (3 * n) 0) := by
  have hc : (Value.agg #[.int .i64 0, .int .i64 0, .int .i64 0]).cells = #[.int .i64 0, .int .i64 0, .int .i64 0] := rfl
  apply Array.ext
  · rw [size_madeCells, blk_size, List.length_replicate, Nat.mul_comm]
  · intro i h1 h2
    rw [blk_size, List.length_replicate] at h2
    have e1 : (blk .i64 (List.replicate (3 * n) 0))[i] = .int .i64 0 := by simp [blk]
    rw [e1]
    simp only [madeCells, Array.getElem_map, Array.getElem_range, hc]
    have h3 : i % (#[Value.int .i64 0, .int .i64 0, .int .i64 0] : Array Value).size = i % 3 := rfl
    rw [h3]
    rcases (show i % 3 = 0 ∨ i % 3 = 1 ∨ i % 3 = 2 by omega) with h | h | h <;> rw [h] <;> rfl

theorem make_part (n : Nat) (hn : n ≤ 1000000) (W : World) :
    (Instr.makeSlice 24 (.int .i64 (n : Int)) (.int .i64 (n : Int))).run Tryz.prog W = .ok (.slice (some ⟨W.heap.size, 0, none⟩) n n) (W.alloc (.cells (blk .i64 (List.replicate (3 * n) 0)) 47)) := by
  obtain ⟨i, hi, hz, hs, hb⟩ := info_parts info_part
  have h := run_make (P := Tryz.prog) W 24 47 i (.agg #[.int .i64 0, .int .i64 0, .int .i64 0]) Tryz.underlying24 hi hz .i64 .i64 n n (by omega) (by omega) (by rw [hb]; omega) (by omega)
  rw [h, hs, Int.toNat_natCast, made_three]

def marksP : List Int := [-77, 0, 0, -77, 0, 0, -77, 0, 0, -77, 0, 0, -77, 0, 0]

theorem take_three (xs : List Int) (k : Nat) (h : 3 * k + 3 ≤ xs.length) : xs.take (3 * (k + 1)) = xs.take (3 * k) ++ [nth xs (3 * k), nth xs (3 * k + 1), nth xs (3 * k + 2)] := by
  rw [show 3 * (k + 1) = 3 * k + 1 + 1 + 1 by omega, take_step _ _ (by omega), take_step _ _ (by omega), take_step _ _ (by omega)]
  simp
/-- Three places of what is filled up to 3 k are written. -/
theorem set_three (l : List Int) (m k : Nat) (x y z : Int) (h : l.length = 3 * k) (hm : 3 ≤ m) : (((l ++ List.replicate m 0).set (k * 3) x).set (k * 3 + 1) y).set (k * 3 + 2) z = l ++ [x, y, z] ++ List.replicate (m - 3) 0 := by
  obtain ⟨j, rfl⟩ : ∃ j, m = j + 3 := ⟨m - 3, by omega⟩
  rw [List.set_append_right _ _ (by omega), List.set_append_right _ _ (by omega), List.set_append_right _ _ (by omega), h, show k * 3 - 3 * k = 0 by omega, show k * 3 + 1 - 3 * k = 1 by omega, show k * 3 + 2 - 3 * k = 2 by omega]
  simp [List.replicate_succ]

theorem lent_part (A : Option Addr) (n c : Nat) (fl : List Int) (w : World) (hr : Row .i64 w w.heap.size A fl) (hn : fl.length = 3 * n) (hb : n ≤ 100000) : 
    Calls Tryz.prog 44 #[.slice A n c] w fun e w' => e = .returned (.slice (some ⟨w.heap.size, 0, none⟩) n (n+5)) ∧ w' = w.alloc (.cells (blk .i64 (fl ++ marksP)) 47) := by
  have hn' := Lib.hid hn
  clear hn
  have hmk := make_part (n + 5) (by omega)
  rw [show ((n + 5 : Nat) : Int) = (n : Int) + 5 by omega] at hmk
  go_enter Tryz.func44, Tryz.ntmps44
  go_wp2
  go_loopw [4] (fun i wr => ∃ (k : Nat) (L : List Int), k ≤ n ∧ i = .int .i64 k ∧ Hid (L = fl.take (3 * k) ++ List.replicate (3 * (n + 5 - k)) 0) ∧ wr = w.alloc (.cells (blk .i64 L) 47)) (fun i _ => n - (intOf i).toNat)
  case atStart => exact ⟨0, _, by omega, rfl, Lib.hid (by simp), rfl⟩
  case round =>
    obtain ⟨k, L, hk, rfl, hL, rfl⟩ := hrel
    by_cases hlt : k < n
    · obtain ⟨b, o, rfl, hb1, hc1, hc2, hc3⟩ := hr.three (k := k) (by have := hn'.out; omega)
      have hf : ∀ j, j < 3 → (blk .i64 L)[k * 3 + j]? = some (.int .i64 0) := fun j hj => by
        rw [hL.out, blk_get _ _ _ (by have := hn'.out; simp; omega), show k * 3 + j = (fl.take (3 * k)).length + j by have := hn'.out; simp; omega, nth_right, nth_replicate _ _ _ (by omega)]
      have hf0 : (blk .i64 L)[k * 3]? = some (.int .i64 0) := hf 0 (by omega)
      have hf1 := hf 1 (by omega)
      have hf2 := hf 2 (by omega)
      clear hf
      go_wp2
      go_roundw
      case rel => exact ⟨k + 1, _, by omega, by go_num, Lib.hid rfl, by
        rw [blk_set, blk_set, blk_set, hL.out, set_three _ _ k _ _ _ (by have := hn'.out; simp; omega) (by omega), take_three fl k (by have := hn'.out; omega), show 3 * (n + 5 - k) - 3 = 3 * (n + 5 - (k + 1)) by omega]⟩
      case measure => simp [intOf]; omega
    · obtain rfl : k = n := by omega
      have hx : fl.take (3 * k) = fl := List.take_of_length_le (by have := hn'.out; omega)
      have hL2 : Hid (L = fl ++ List.replicate 15 0) := Lib.hid (by rw [hL.out, hx, show 3 * (k + 5 - k) = 15 by omega])
      clear hx hlt hk hL
      go_wp2
      go_loopw [5] (fun i wr => ∃ (j : Nat) (L : List Int), j ≤ 5 ∧ i = .int .i64 (k + j : Nat) ∧ Hid (L = fl ++ marksP.take (3 * j) ++ List.replicate (3 * (5 - j)) 0) ∧ wr = w.alloc (.cells (blk .i64 L) 47)) (fun i _ => k + 5 - (intOf i).toNat)
      case atStart => exact ⟨0, _, by omega, rfl, Lib.hid (by rw [hL2.out]; simp), rfl⟩
      case round =>
        obtain ⟨j, L, hj, rfl, hL, rfl⟩ := hrel
        by_cases hlt : j < 5
        · have hlen : (fl ++ marksP.take (3 * j)).length = 3 * (k + j) := by have := hn'.out; simp [marksP]; omega
          have hf : ∀ i, i < 3 → (blk .i64 L)[(k + j) * 3 + i]? = some (.int .i64 0) := fun i hi => by
            rw [hL.out, blk_get _ _ _ (by rw [List.length_append, hlen]; simp; omega), show (k + j) * 3 + i = (fl ++ marksP.take (3 * j)).length + i by rw [hlen]; omega, nth_right, nth_replicate _ _ _ (by omega)]
          have hf0 : (blk .i64 L)[(k + j) * 3]? = some (.int .i64 0) := hf 0 (by omega)
          have hf1 := hf 1 (by omega)
          have hf2 := hf 2 (by omega)
          have HS := Lib.hid (set_three (fl ++ marksP.take (3 * j)) (3 * (5 - j)) (k + j) (-77) 0 0 hlen (by omega))
          have HM : Hid (marksP.take (3 * (j + 1)) = marksP.take (3 * j) ++ [-77, 0, 0]) := Lib.hid (by rcases j with _ | _ | _ | _ | _ | j <;> first | rfl | omega)
          clear hf hlen
          go_wp2
          go_roundw
          case rel => exact ⟨j + 1, _, by omega, by go_num, Lib.hid rfl, by
            rw [blk_set, blk_set, blk_set, hL.out, HS.out, HM.out, show 3 * (5 - j) - 3 = 3 * (5 - (j + 1)) by omega, List.append_assoc fl]⟩
          case measure => simp [intOf]; omega
        · obtain rfl : j = 5 := by omega
          go_wp2
          go_ret
          exact ⟨rfl, by rw [hL.out]; simp [marksP]⟩

/-- KeptParts, where the list is in memory of its own with its five marks behind it. -/
theorem kept_part (A : Option Addr) (n c g : Nat) (fl : List Int) (w : World) (B : Nat) (hr : Row .i64 w B A fl) (hn : fl.length = 3 * n) (hb : n ≤ 100000)
    (hg : w.heap[g]? = some (.cells (blk .i64 (fl ++ marksP)) 47 (0, 0))) :
    Calls Tryz.prog 53 #[.slice (some ⟨g, 0, none⟩) n (n + 5), .slice A n c] w fun e w' => e = .returned (.bool true) ∧ ∃ m, w' = w.drewN m := by
  have hcell : ∀ i, w.cell? ⟨g, i, none⟩ = (blk .i64 (fl ++ marksP))[i]? := fun i => cell_of_row w g i _ _ _ hg
  have hrow : Row .i64 w (g + 1) (some ⟨g, 0, none⟩) fl := by
    refine ⟨hr.1, fun _ => ⟨_, _, rfl, Nat.lt_succ_self _, fun i hi => ?_⟩⟩
    rw [Nat.zero_add, hcell, blk_get _ _ _ (by simp; omega), nth_left _ _ _ hi]
  have hmark : ∀ j, j < 15 → w.cell? ⟨g, n * 3 + j, none⟩ = some (.int .i64 (nth marksP j)) := by
    intro j hj
    rw [hcell, blk_get _ _ _ (by simp [marksP]; omega), show n * 3 + j = fl.length + j by omega, nth_right]
  have HM := Lib.hid hmark
  clear hcell hmark hg
  go_enter Tryz.func53, Tryz.ntmps53
  go_wp2_with (go_at_call 87; refine (same_yes_part _ _ _ _ _ fl _ _ _ hrow hr hn (by omega)).mono ?_; rintro e w' ⟨rfl, m, rfl⟩)
  go_loop [6] (fun i => ∃ j : Nat, j ≤ 5 ∧ i = .int .i64 (n + j : Nat)) (fun i => n + 5 - (intOf i).toNat)
  case atStart => exact ⟨0, by omega, rfl⟩
  case round =>
    obtain ⟨j, hj, rfl⟩ := hrel
    by_cases hlt : j < 5
    · have hc0 : w.cell? ⟨g, (n + j) * 3, none⟩ = some (.int .i64 (-77)) := by
        rw [show (n + j) * 3 = n * 3 + 3 * j by omega, HM.out (3 * j) (by omega)]
        rcases j with _ | _ | _ | _ | _ | j <;> first | rfl | omega
      have hc1 : w.cell? ⟨g, (n + j) * 3 + 1, none⟩ = some (.int .i64 0) := by
        rw [show (n + j) * 3 + 1 = n * 3 + (3 * j + 1) by omega, HM.out (3 * j + 1) (by omega)]
        rcases j with _ | _ | _ | _ | _ | j <;> first | rfl | omega
      have hc2 : w.cell? ⟨g, (n + j) * 3 + 2, none⟩ = some (.int .i64 0) := by
        rw [show (n + j) * 3 + 2 = n * 3 + (3 * j + 2) by omega, HM.out (3 * j + 2) (by omega)]
        rcases j with _ | _ | _ | _ | _ | j <;> first | rfl | omega
      go_wp2
      go_round
      case rel => exact ⟨j + 1, by omega, by go_num⟩
      case measure => simp [intOf]; omega
    · go_wp2
      go_ret
      exact ⟨rfl, m, rfl⟩
end Go.Proofs.YtobhllcnljggiaaGreat
namespace Go.Proofs.YtobhllcnljggiaaGreat
open Go.RowKit
set_option linter.unusedVariables false

/-- The slice v is nil and fl empty, or v begins a block of the call's own, whose cells are the integers fl, three an element, and others behind them. -/
def POwn (e : TypeId) (w : World) (base : Nat) (v : Value) (fl : List Int) : Prop :=
  (v = .slice none 0 0 ∧ fl = []) ∨
  ∃ (g n cap : Nat) (r : List Int), v = .slice (some ⟨g, 0, none⟩) n cap ∧ base ≤ g ∧ fl.length = 3 * n ∧ w.heap[g]? = some (.cells (blk .i64 (fl ++ r)) e (0, 0)) ∧ n ≤ cap ∧ cap ≤ maxLen ∧ fl.length + r.length = 3 * cap

theorem POwn.nil (e : TypeId) (w : World) (base : Nat) : POwn e w base (.slice none 0 0) [] := .inl ⟨rfl, rfl⟩
theorem POwn.below {e : TypeId} {w w' : World} {base B : Nat} {v : Value} {fl : List Int} (h : POwn e w base v fl) (hb : Below B w w') (hB : w.heap.size ≤ B) : POwn e w' base v fl := by
  rcases h with h | ⟨g, n, cap, r, h1, h2, h3, h4, h5⟩
  · exact .inl h
  · exact .inr ⟨g, n, cap, r, h1, h2, h3, (hb.block g (by have := block_lt h4; omega)).trans h4, h5⟩
theorem POwn.alloc {e : TypeId} {w : World} {base : Nat} {v : Value} {fl : List Int} (h : POwn e w base v fl) (o : Obj) : POwn e (w.alloc o) base v fl :=
  h.below ((Below.refl w.heap.size w).alloc (Nat.le_refl _) o) (Nat.le_refl _)
theorem POwn.drewN {e : TypeId} {w : World} {base : Nat} {v : Value} {fl : List Int} (h : POwn e w base v fl) (n : Nat) : POwn e (w.drewN n) base v fl := h
theorem POwn.mono {e : TypeId} {w : World} {base base' : Nat} {v : Value} {fl : List Int} (h : POwn e w base v fl) (hb : base' ≤ base) : POwn e w base' v fl := by
  rcases h with h | ⟨g, n, cap, r, h1, h2, h3⟩
  · exact .inl h
  · exact .inr ⟨g, n, cap, r, h1, by omega, h3⟩
theorem POwn.block {e : TypeId} {w : World} {base : Nat} {v : Value} {fl : List Int} (h : POwn e w base v fl) : ∀ g, v.ownBlock = some g → base ≤ g ∧ g < w.heap.size := by
  intro g hg
  rcases h with ⟨rfl, _⟩ | ⟨g', n, cap, r, rfl, h2, h3, h4, h5⟩
  · cases hg
  · injection hg with hg
    subst hg
    exact ⟨h2, block_lt h4⟩
theorem Below.pown {e : TypeId} {w0 w w' : World} {base : Nat} {v : Value} {fl : List Int} (hb : Below base w0 w) (hB : base ≤ w.heap.size) (h : POwn e w base v fl) (hg : w.grownBy w' v.ownBlock) : Below base w0 w' :=
  hb.grown hg hB fun g e => (h.block g e).1
theorem Below.pown1 {e : TypeId} {w0 w w' : World} {base : Nat} {v : Value} {fl : List Int} {o : Obj} (hb : Below base w0 w) (hB : base ≤ w.heap.size) (h : POwn e w base v fl) (hg : (w.alloc o).grownBy w' v.ownBlock) : Below base w0 w' :=
  Below.pown (hb.alloc hB o) (by simp; omega) (h.alloc o) hg
theorem POwn.row {e : TypeId} {w : World} {base : Nat} {v : Value} {fl : List Int} (h : POwn e w base v fl) (hw : ∀ x ∈ fl, (Lit.int .i64 x).wf = true) :
    ∃ A n c, v = .slice A n c ∧ Row .i64 w w.heap.size A fl ∧ fl.length = 3 * n ∧ n ≤ c ∧ c ≤ maxLen := by
  rcases h with ⟨rfl, rfl⟩ | ⟨g, n, cap, r, rfl, h2, h3, h4, h5, h6, _⟩
  · exact ⟨none, 0, 0, rfl, Row.nil _ _ _ _, rfl, Nat.le_refl _, Nat.zero_le _⟩
  · exact ⟨_, n, cap, rfl, (Row.of_block h4 fl hw (List.prefix_append _ _)).more (block_lt h4), h3, h5, h6⟩

theorem zero_three (m : Nat) : Builtin.zeroCells (Value.agg #[.int .i64 0, .int .i64 0, .int .i64 0]).cells m = blk .i64 (List.replicate (3 * m) 0) := by
  rw [← made_three m]; rfl
theorem blk_toArray (k : IntKind) (l m : List Int) : (l.map (Value.int k)).toArray ++ (m.map (Value.int k)).toArray = blk k (l ++ m) := by simp [blk]

section
variable {P : Program}
theorem run_append_part (w : World) (base : Nat) (t ty e : TypeId) (ht : P.underlying t = some (.slice e)) (hi : (P.info? e).map (fun i => (i.zero, i.size, i.bytes)) = some (some (.agg #[.int .i64 0, .int .i64 0, .int .i64 0]), 3, 24))
    (v : Value) (fl : List Int) (hown : POwn e w base v fl) (a : Addr) (c : Nat) (x y z : Int) (hnews : ∀ j u, [Value.int .i64 x, .int .i64 y, .int .i64 z][j]? = some u → w.cell? (a.add j) = some u)
    (hb : fl.length ≤ 3000000) (hbase : base ≤ w.heap.size) :
    ∃ v' w', (Builtin.append_ #[t, t] ty #[v, .slice (some a) 1 c]).run P w = .ok v' w' ∧ POwn e w' base v' (fl ++ [x, y, z]) ∧ w.grownBy w' v.ownBlock := by
  obtain ⟨i, hi1, hz, hsz, hby⟩ := info_parts hi
  have hl : [Value.int .i64 x, .int .i64 y, .int .i64 z].length = 1 * i.size := by rw [hsz]; rfl
  rcases hown with ⟨rfl, rfl⟩ | ⟨g, n, cap, r, rfl, h2, h3, h4, h5, h6, h7⟩
  · have hr := run_append_nil (P := P) w t ty e i _ ht hi1 hz a 1 c _ hl hnews (by omega) (by omega) (by rw [hby]; omega)
    have hge := grownCap_ge w 1 0 e
    refine ⟨_, _, hr, .inr ⟨_, 1, _, List.replicate (3 * (grownCap w 1 0 e - 1)) 0, rfl, hbase, rfl, ?_, hge, grownCap_le_maxLen w 1 0 e (by simp [maxLen]), ?_⟩, ⟨rfl, rfl, rfl, by simp, fun k hk _ => heap_alloc_old w.drew _ hk⟩⟩
    · have := heap_alloc_new w.drew (.cells ([Value.int .i64 x, .int .i64 y, .int .i64 z].toArray ++ Builtin.zeroCells (Value.agg #[.int .i64 0, .int .i64 0, .int .i64 0]).cells (grownCap w 1 0 e - 1)) e)
      rw [zero_three] at this
      rw [zero_three]
      exact this.trans (by simp [blk])
    · simp; omega
  · by_cases hroom : n + 1 ≤ cap
    · have hcs : (blk .i64 (fl ++ r)).size = 3 * cap := by rw [blk_size, List.length_append]; exact h7
      have hr := run_append_room (P := P) w t ty e i ht hi1 g n cap _ h4 a 1 c _ hl hnews (by simp [Value.oneCell']) hroom (by rw [hsz, hcs]; simp; omega)
      refine ⟨_, _, hr, .inr ⟨g, n + 1, cap, r.drop 3, rfl, h2, ?_, ?_, hroom, h6, ?_⟩, ⟨rfl, rfl, rfl, by simp, fun k _ hk => setRow_other w g k _ (fun e => hk (by simp [Value.ownBlock, e]))⟩⟩
      · simp; omega
      · rw [setRow_heap w g _ _ e _ h4, hsz]
        congr 2
        have e1 : (blk .i64 (fl ++ r)).toList = fl.map (Value.int .i64) ++ r.map (Value.int .i64) := by simp [blk]
        have e2 : (fl.map (Value.int .i64)).length = n * 3 := by simp; omega
        rw [e1, List.take_left' e2, List.drop_append]
        simp [blk, h3]
        rw [List.drop_eq_nil_of_le (by simp; omega), show n * 3 + 3 - 3 * n = 3 by omega]
        simp
      · simp; omega
    · have hcn : n = cap := by omega
      subst hcn
      have holds : ∀ j u, (fl.map (Value.int .i64))[j]? = some u → w.cell? ((⟨g, 0, none⟩ : Addr).add j) = some u := by
        intro j u hu
        rw [Go.WideShapes.add_plain, Nat.zero_add, cell_of_row w g j _ _ _ h4]
        simp only [blk, List.map_append, List.getElem?_toArray]
        rw [List.getElem?_append_left (by
          rcases Nat.lt_or_ge j (fl.map (Value.int .i64)).length with h | h
          · exact h
          · rw [List.getElem?_eq_none h] at hu; cases hu)]
        exact hu
      have hr := run_append_grow (P := P) w t ty e i _ ht hi1 hz ⟨g, 0, none⟩ n n _ (by rw [hsz]; simp; omega) holds a 1 c _ hl hnews (by omega) (by omega) (growslice_fits (by omega) (by rw [hby]; omega))
      have hge := grownCap_ge w (n + 1) n e
      refine ⟨_, _, hr, .inr ⟨_, n + 1, _, List.replicate (3 * (grownCap w (n + 1) n e - (n + 1))) 0, rfl, hbase, by simp; omega, ?_, hge, grownCap_le_maxLen w (n + 1) n e (by simp only [maxLen]; omega), ?_⟩, ⟨rfl, rfl, rfl, by simp, fun k hk _ => heap_alloc_old w.drew _ hk⟩⟩
      · have := heap_alloc_new w.drew (.cells ((fl.map (Value.int .i64)).toArray ++ [Value.int .i64 x, .int .i64 y, .int .i64 z].toArray ++ Builtin.zeroCells (Value.agg #[.int .i64 0, .int .i64 0, .int .i64 0]).cells (grownCap w (n + 1) n e - (n + 1))) e)
        rw [zero_three] at this
        rw [zero_three]
        exact this.trans (by simp [blk])
      · simp; omega

/-- 'append(v, part)': v owned, the part in a box. -/
theorem wpList_append_part {ops : Array Oper} {rest : List Oper} {o : Oper} {a : Act} {Q : Exit → Act → World → Prop} (w : World) (hgd : o.guard = none) (s x : Operand) (t : TypeId)
    (ho : o.op = .call { callee := .builtin .append, args := #[s, x], argTypes := #[t, t] })
    (base : Nat) (e : TypeId) (ht : P.underlying t = some (.slice e)) (hi : (P.info? e).map (fun i => (i.zero, i.size, i.bytes)) = some (some (.agg #[.int .i64 0, .int .i64 0, .int .i64 0]), 3, 24))
    (v : Value) (fl : List Int) (hs : a.eval s = v) (hown : POwn e w base v fl) (ad : Addr) (c : Nat) (p q r : Int) (hx : a.eval x = .slice (some ad) 1 c)
    (hnews : ∀ j u, [Value.int .i64 p, .int .i64 q, .int .i64 r][j]? = some u → w.cell? (ad.add j) = some u) (hb : fl.length ≤ 3000000) (hbase : base ≤ w.heap.size)
    (h : ∀ v' w', POwn e w' base v' (fl ++ [p, q, r]) → w.grownBy w' v.ownBlock → wpList P ops Q rest (a.put o.dst v') w') : wpList P ops Q (o :: rest) a w := by
  obtain ⟨v', w', hrun, h1, h2⟩ := run_append_part (P := P) w base t o.type e ht hi v fl hown ad c p q r hnews hb hbase
  refine wpList_plain hgd fun K hK => ?_
  unfold Oper.wp
  simp [execOp, ho, resolve, invoke, builtin, hs, hx, hrun, Result.andThen]
  exact hK _ _ (h v' w' h1 h2)
end
/-- The cells of a part in a new box. -/
theorem box_three (w : World) (t : TypeId) (x y z : Int) : ∀ j u, [Value.int .i64 x, .int .i64 y, .int .i64 z][j]? = some u → (w.alloc (.cells #[.int .i64 x, .int .i64 y, .int .i64 z] t)).cell? ((⟨w.heap.size, 0, none⟩ : Addr).add j) = some u := by
  intro j u hu
  rw [Go.WideShapes.add_plain, Nat.zero_add, World.cell?_alloc_at _ _ _ _ rfl]
  simpa using hu
end Go.Proofs.YtobhllcnljggiaaGreat
namespace Go.Proofs.YtobhllcnljggiaaGreat
open Go.RowKit
set_option linter.unusedVariables false

end Go.Proofs.YtobhllcnljggiaaGreat
namespace Go.Proofs.YtobhllcnljggiaaGreat.L
open Go.RowKit
set_option linter.unusedVariables false

/-- The i-th number of a list, behind a name that the walk's simp does not open. -/
def nth (l : List Bool) (i : Nat) : Bool := l.getD i false
theorem nth_eq (l : List Bool) (i : Nat) (h : i < l.length) : nth l i = l[i] := by simp [nth, List.getD_eq_getElem?_getD, List.getElem?_eq_getElem h]
theorem nth_mem (l : List Bool) (i : Nat) (h : i < l.length) : nth l i ∈ l := by rw [nth_eq l i h]; exact List.getElem_mem h
theorem nth_left (l m : List Bool) (i : Nat) (h : i < l.length) : nth (l ++ m) i = nth l i := by
  rw [nth_eq _ _ h, nth_eq _ _ (by simp; omega)]; exact List.getElem_append_left h
theorem nth_right (l m : List Bool) (i : Nat) : nth (l ++ m) (l.length + i) = nth m i := by
  simp [nth, List.getD_eq_getElem?_getD, List.getElem?_append_right]
theorem nth_replicate (n i : Nat) (v : Bool) (h : i < n) : nth (List.replicate n v) i = v := by rw [nth_eq _ _ (by simpa using h)]; simp
theorem ext_nth (a b : List Bool) (hl : a.length = b.length) (h : ∀ i, i < a.length → nth a i = nth b i) : a = b := by
  refine List.ext_getElem hl fun i h1 h2 => ?_
  rw [← nth_eq a i h1, ← nth_eq b i h2]; exact h i h1

/-- The cells of a row of integers. -/
def blk (k : Unit) (l : List Bool) : Array Value := (l.map (Value.bool)).toArray

theorem blk_size (k : Unit) (l : List Bool) : (blk k l).size = l.length := by simp [blk]
theorem blk_get (k : Unit) (l : List Bool) (i : Nat) (h : i < l.length) : (blk k l)[i]? = some (.bool (nth l i)) := by
  simp [blk, List.getElem?_eq_getElem h, nth_eq l i h]
theorem blk_set (k : Unit) (l : List Bool) (i : Nat) (v : Bool) : (blk k l).setIfInBounds i (.bool v) = blk k (l.set i v) := by
  simp [blk, List.map_set]

/-- A slice that reads as the list xs of integers of kind k, in blocks below B. -/
def Row (k : Unit) (w : World) (B : Nat) (A : Option Addr) (xs : List Bool) : Prop :=
  (∀ x ∈ xs, (Lit.bool x).wf = true) ∧ (0 < xs.length → ∃ b o, A = some ⟨b, o, none⟩ ∧ b < B ∧ ∀ i, i < xs.length → w.cell? ⟨b, o + i, none⟩ = some (.bool (nth xs i)))

theorem Row.keep {k : Unit} {w w' : World} {B : Nat} {A : Option Addr} {xs : List Bool} (h : Row k w B A xs) (hk : ∀ b o, b < B → w'.cell? ⟨b, o, none⟩ = w.cell? ⟨b, o, none⟩) : Row k w' B A xs := by
  refine ⟨h.1, fun hn => ?_⟩
  obtain ⟨b, o, e, hb, hc⟩ := h.2 hn
  exact ⟨b, o, e, hb, fun i hi => (hk _ _ hb).trans (hc i hi)⟩
theorem Row.more {k : Unit} {w : World} {B B' : Nat} {A : Option Addr} {xs : List Bool} (h : Row k w B A xs) (hB : B ≤ B') : Row k w B' A xs := by
  refine ⟨h.1, fun hn => ?_⟩
  obtain ⟨b, o, e, hb, hc⟩ := h.2 hn
  exact ⟨b, o, e, by omega, hc⟩
theorem Row.below {k : Unit} {w w' : World} {B : Nat} {A : Option Addr} {xs : List Bool} (h : Row k w B A xs) (hb : Below B w w') : Row k w' B A xs :=
  h.keep fun b o hlt => hb.cell (p := ⟨b, o, none⟩) hlt
theorem Row.alloc {k : Unit} {w : World} {B : Nat} {A : Option Addr} {xs : List Bool} (h : Row k w B A xs) (hB : B ≤ w.heap.size) (o : Obj) : Row k (w.alloc o) B A xs :=
  h.below ((Below.refl _ _).alloc hB o)
theorem Row.drewN {k : Unit} {w : World} {B : Nat} {A : Option Addr} {xs : List Bool} (h : Row k w B A xs) (n : Nat) : Row k (w.drewN n) B A xs := h
theorem Row.nil (k : Unit) (w : World) (B : Nat) (A : Option Addr) : Row k w B A [] := ⟨by simp, by simp⟩
/-- A row that lies at the head of a new block. -/
theorem Row.new (k : Unit) (w : World) (t : TypeId) (l xs : List Bool) (hw : ∀ x ∈ xs, (Lit.bool x).wf = true) (hp : xs <+: l) :
    Row k (w.alloc (.cells (blk k l) t)) (w.heap.size + 1) (some ⟨w.heap.size, 0, none⟩) xs := by
  obtain ⟨ys, rfl⟩ := hp
  refine ⟨hw, fun _ => ⟨_, _, rfl, Nat.lt_succ_self _, fun i hi => ?_⟩⟩
  rw [World.cell?_alloc_at _ _ _ _ rfl, Nat.zero_add, blk_get _ _ _ (by simp; omega), nth_left _ _ _ hi]
/-- A row at the head of a block that is known whole, whatever of it is frozen. -/
theorem Row.of_block {k : Unit} {w : World} {g : Nat} {t : TypeId} {fr : Nat × Nat} {l : List Bool} (hg : w.heap[g]? = some (.cells (blk k l) t fr)) (xs : List Bool) (hw : ∀ x ∈ xs, (Lit.bool x).wf = true) (hp : xs <+: l) :
    Row k w (g + 1) (some ⟨g, 0, none⟩) xs := by
  obtain ⟨ys, rfl⟩ := hp
  refine ⟨hw, fun _ => ⟨_, _, rfl, Nat.lt_succ_self _, fun i hi => ?_⟩⟩
  rw [Nat.zero_add, cell_of_row w g i _ _ _ hg, blk_get _ _ _ (by simp; omega), nth_left _ _ _ hi]
/-- One cell of a row, for the walk. -/
theorem Row.at_ {k : Unit} {w : World} {B : Nat} {A : Option Addr} {xs : List Bool} (h : Row k w B A xs) {i : Nat} (hi : i < xs.length) :
    ∃ b o, A = some ⟨b, o, none⟩ ∧ b < B ∧ w.cell? ⟨b, o + i, none⟩ = some (.bool (nth xs i)) := by
  obtain ⟨b, o, e, hb, hc⟩ := h.2 (by omega)
  exact ⟨b, o, e, hb, hc i hi⟩
theorem Row.wf_at {k : Unit} {w : World} {B : Nat} {A : Option Addr} {xs : List Bool} (h : Row k w B A xs) {i : Nat} (hi : i < xs.length) : (Lit.bool (nth xs i)).wf = true := h.1 _ (nth_mem _ _ hi)

theorem wf_append {k : Unit} {xs ys : List Bool} (h : ∀ x ∈ xs, (Lit.bool x).wf = true) (h' : ∀ x ∈ ys, (Lit.bool x).wf = true) : ∀ x ∈ xs ++ ys, (Lit.bool x).wf = true := fun x hx => (List.mem_append.1 hx).elim (h x) (h' x)
theorem take_step (xs : List Bool) (k : Nat) (h : k < xs.length) : xs.take (k + 1) = xs.take k ++ [nth xs k] := by
  rw [List.take_succ_eq_append_getElem h, nth_eq xs k h]
/-- The k-th place of what is filled up to k is written. -/
theorem set_step (l : List Bool) (m k : Nat) (v x : Bool) (h : l.length = k) : (l ++ List.replicate (m + 1) v).set k x = l ++ [x] ++ List.replicate m v := by
  rw [List.set_append_right _ _ (by omega)]
  simp [h, List.replicate_succ]
theorem fill_cell (k : Unit) (l : List Bool) (m i : Nat) (v : Bool) (h : l.length = i) (hm : 0 < m) : (blk k (l ++ List.replicate m v))[i]? = some (.bool v) := by
  rw [blk_get _ _ _ (by simp; omega)]
  subst h
  have := nth_right l (List.replicate m v) 0
  rw [Nat.add_zero] at this
  rw [this, nth_replicate _ _ _ hm]
end Go.Proofs.YtobhllcnljggiaaGreat.L
namespace Go.Proofs.YtobhllcnljggiaaGreat.L
open Go.RowKit
set_option linter.unusedVariables false

theorem bools_oneCell (xs : List Bool) : ∀ v ∈ xs.map Value.bool, v.oneCell' = true := by
  intro v hv
  obtain ⟨x, _, rfl⟩ := List.mem_map.1 hv
  rfl

/-- The slice v owns a row, in a block from base on, that holds the integers xs. -/
def Own (k : Unit) (e : TypeId) (w : World) (base : Nat) (v : Value) (xs : List Bool) : Prop := w.ownsRow base e 1 v xs.length (xs.map (Value.bool))

theorem Own.nil (k : Unit) (e : TypeId) (w : World) (base : Nat) : Own k e w base (.slice none 0 0) [] := ⟨by simp, .inl ⟨rfl, rfl⟩⟩
theorem Own.alloc {k : Unit} {e : TypeId} {w : World} {base : Nat} {v : Value} {xs : List Bool} (h : Own k e w base v xs) (o : Obj) : Own k e (w.alloc o) base v xs := World.ownsRow.alloc h o
theorem Own.drewN {k : Unit} {e : TypeId} {w : World} {base : Nat} {v : Value} {xs : List Bool} (h : Own k e w base v xs) (n : Nat) : Own k e (w.drewN n) base v xs := h
theorem Own.block {k : Unit} {e : TypeId} {w : World} {base : Nat} {v : Value} {xs : List Bool} (h : Own k e w base v xs) : ∀ g, v.ownBlock = some g → base ≤ g ∧ g < w.heap.size := World.ownsRow.lt h
theorem Own.kept {k : Unit} {e : TypeId} {w w' : World} {base : Nat} {v : Value} {xs : List Bool} {row : Option Nat} (h : Own k e w base v xs) (hg : w.grownBy w' row) (hne : v.ownBlock = none ∨ v.ownBlock ≠ row) : Own k e w' base v xs := World.ownsRow.kept h hg hne
theorem Own.below {k : Unit} {e : TypeId} {w w' : World} {base B : Nat} {v : Value} {xs : List Bool} (h : Own k e w base v xs) (hb : Below B w w') (hB : w.heap.size ≤ B) : Own k e w' base v xs := by
  refine h.kept (row := none) ⟨hb.os, hb.tape, hb.output, hb.size, fun i hi _ => hb.block i (by omega)⟩ ?_
  cases hv : v.ownBlock with
  | none => exact .inl rfl
  | some g => exact .inr (by simp)
theorem Own.mono {k : Unit} {e : TypeId} {w : World} {base base' : Nat} {v : Value} {xs : List Bool} (h : Own k e w base v xs) (hb : base' ≤ base) : Own k e w base' v xs := by
  refine ⟨h.1, ?_⟩
  rcases h.2 with h0 | ⟨g, cap, cur, hv, h1, r⟩
  · exact .inl h0
  · exact .inr ⟨g, cap, cur, hv, by omega, r⟩
/-- What is owned is a slice that reads as its list. -/
theorem Own.row {k : Unit} {e : TypeId} {w : World} {base : Nat} {v : Value} {xs : List Bool} (h : Own k e w base v xs) (hw : ∀ x ∈ xs, (Lit.bool x).wf = true) :
    ∃ A c, v = .slice A xs.length c ∧ Row k w w.heap.size A xs ∧ xs.length ≤ c ∧ c ≤ maxLen := by
  rcases h.2 with ⟨rfl, h0⟩ | ⟨g, cap, cur, rfl, hb, hg, h1, h2, h3, h4⟩
  · have : xs = [] := List.eq_nil_of_length_eq_zero h0
    subst this
    exact ⟨none, 0, rfl, Row.nil _ _ _ _, by simp, by simp⟩
  · refine ⟨_, _, rfl, ⟨hw, fun _ => ⟨g, 0, rfl, ?_, fun i hi => ?_⟩⟩, h1, h2⟩
    · exact (Own.block (k := k) (e := e) (w := w) (base := base) (xs := xs) ⟨by simp, .inr ⟨g, cap, cur, rfl, hb, hg, h1, h2, h3, h4⟩⟩ g rfl).2
    · rw [Nat.zero_add, cell_of_row w g i cur e (0, 0) hg]
      have : (cur.toList.take (xs.length * 1))[i]? = (xs.map (Value.bool))[i]? := by rw [h4]
      rw [List.getElem?_take_of_lt (by omega)] at this
      rw [← Array.getElem?_toList, this, List.getElem?_map, List.getElem?_eq_getElem hi, nth_eq xs i hi]
      rfl

section
variable {P : Program}
theorem run_append_none (w : World) (t ty e : TypeId) (i : TypeInfo) (ht : P.underlying t = some (.slice e)) (hi : P.info? e = some i)
    (base : Nat) (v : Value) (n : Nat) (xs : List Value) (hown : w.ownsRow base e 1 v n xs) (c : Nat) : (Builtin.append_ #[t, t] ty #[v, .slice none 0 c]).run P w = .ok v w := by
  rcases hown.2 with ⟨rfl, rfl⟩ | ⟨g, cap, cur, rfl, _, _, hnc, _⟩
  · simp [Builtin.append_, run_underlying ht, sizeOf, typeInfo, hi, Builtin.lenOf, Builtin.firstCells]
  · simp [Builtin.append_, run_underlying ht, sizeOf, typeInfo, hi, Builtin.lenOf, Builtin.firstCells, hnc, storeCells]

/-- 'append(v, src...)': v owned, src whatever row of integers. -/
theorem wpList_append_row {ops : Array Oper} {rest : List Oper} {o : Oper} {a : Act} {Q : Exit → Act → World → Prop} (w : World) (hgd : o.guard = none) (s x : Operand) (t : TypeId)
    (ho : o.op = .call { callee := .builtin .append, args := #[s, x], argTypes := #[t, t] })
    (base : Nat) (k : Unit) (e : TypeId) (bytes : Nat) (ht : P.underlying t = some (.slice e)) (hi : (P.info? e).map (fun i => (i.zero, i.size, i.bytes)) = some (some (.bool false), 1, bytes))
    (v : Value) (xs : List Bool) (hs : a.eval s = v) (hown : Own k e w base v xs)
    (B : Nat) (A : Option Addr) (m c : Nat) (ys : List Bool) (hx : a.eval x = .slice A m c) (hr : Row k w B A ys) (hm : ys.length = m)
    (hbytes : (xs.length + m) * bytes ≤ 140737488355328) (h63 : xs.length + m ≤ maxLen) (hbase : base ≤ w.heap.size)
    (h : ∀ v' w', Own k e w' base v' (xs ++ ys) → w.grownBy w' v.ownBlock → wpList P ops Q rest (a.put o.dst v') w') : wpList P ops Q (o :: rest) a w := by
  obtain ⟨i, hi1, hz, hsz, hby⟩ := info_parts hi
  rcases Nat.eq_zero_or_pos m with h0 | h0
  · subst h0
    have hy : ys = [] := List.eq_nil_of_length_eq_zero hm
    subst hy
    cases A with
    | none =>
      refine wpList_plain hgd fun K hK => ?_
      have hrun := run_append_none (P := P) w t o.type e i ht hi1 base v _ _ hown c
      unfold Oper.wp
      simp [execOp, ho, resolve, invoke, builtin, hs, hx, hrun, Result.andThen]
      exact hK _ _ (h v w (by simpa using hown) (World.grownBy.refl _ _))
    | some ad =>
      refine wpList_append_own w hgd s x t ho base e i (.bool false) 1 bytes ht hi1 hz hsz hby rfl (by omega) v _ _ hs hown ad 0 c [] hx (by simp) (by simp) (by simp) h63 hbytes hbase fun v' w' h1 h2 _ => h v' w' (by simpa [Own] using h1) h2
  · obtain ⟨b, of, rfl, _, hc⟩ := hr.2 (by omega)
    refine wpList_append_own w hgd s x t ho base e i (.bool false) 1 bytes ht hi1 hz hsz hby rfl (by omega) v _ _ hs hown ⟨b, of, none⟩ m c (ys.map (Value.bool)) hx (by simp [hm]) ?_ (bools_oneCell ys) h63 hbytes hbase fun v' w' h1 h2 _ => h v' w' (by simpa [Own, hm] using h1) h2
    intro j u hu
    rw [List.getElem?_map] at hu
    by_cases hj : j < ys.length
    · rw [List.getElem?_eq_getElem hj] at hu
      rw [Go.WideShapes.add_plain, hc j hj, nth_eq ys j hj]
      exact hu
    · rw [List.getElem?_eq_none (by omega)] at hu
      cases hu

/-- 'append(v, src...)' within the capacity: v owned, src whatever row of integers; the block stays. -/
theorem wpList_append_row_fits {ops : Array Oper} {rest : List Oper} {o : Oper} {a : Act} {Q : Exit → Act → World → Prop} (w : World) (hgd : o.guard = none) (s x : Operand) (t : TypeId)
    (ho : o.op = .call { callee := .builtin .append, args := #[s, x], argTypes := #[t, t] })
    (base : Nat) (k : Unit) (e : TypeId) (bytes : Nat) (ht : P.underlying t = some (.slice e)) (hi : (P.info? e).map (fun i => (i.zero, i.size, i.bytes)) = some (some (.bool false), 1, bytes))
    (g n cap : Nat) (xs : List Bool) (hs : a.eval s = .slice (some ⟨g, 0, none⟩) n cap) (hn : xs.length = n) (hown : Own k e w base (.slice (some ⟨g, 0, none⟩) n cap) xs)
    (B : Nat) (A : Option Addr) (m c : Nat) (ys : List Bool) (hx : a.eval x = .slice A m c) (hr : Row k w B A ys) (hm : ys.length = m) (hfit : n + m ≤ cap)
    (h : ∀ w', Own k e w' base (.slice (some ⟨g, 0, none⟩) (n + m) cap) (xs ++ ys) → w.grownBy w' (some g) → wpList P ops Q rest (a.put o.dst (.slice (some ⟨g, 0, none⟩) (n + m) cap)) w') : wpList P ops Q (o :: rest) a w := by
  obtain ⟨i, hi1, hz, hsz, hby⟩ := info_parts hi
  subst hn
  rcases Nat.eq_zero_or_pos m with h0 | h0
  · subst h0
    have hy : ys = [] := List.eq_nil_of_length_eq_zero hm
    subst hy
    cases A with
    | none =>
      refine wpList_plain hgd fun K hK => ?_
      have hrun := run_append_none (P := P) w t o.type e i ht hi1 base _ _ _ hown c
      unfold Oper.wp
      simp [execOp, ho, resolve, invoke, builtin, hs, hx, hrun, Result.andThen]
      exact hK _ _ (h w (by simpa using hown) (World.grownBy.refl _ _))
    | some ad =>
      refine wpList_append_fits w hgd s x t ho base e i 1 ht hi1 hsz g xs.length cap _ hs hown ad 0 c [] hx (by simp) (by simp) (by simp) hfit fun w' h1 h2 => h w' (by simpa [Own] using h1) h2
  · obtain ⟨b, of, rfl, _, hc⟩ := hr.2 (by omega)
    refine wpList_append_fits w hgd s x t ho base e i 1 ht hi1 hsz g xs.length cap _ hs hown ⟨b, of, none⟩ m c (ys.map (Value.bool)) hx (by simp [hm]) ?_ (bools_oneCell ys) hfit fun w' h1 h2 => h w' (by simpa [Own, hm] using h1) h2
    intro j u hu
    rw [List.getElem?_map] at hu
    by_cases hj : j < ys.length
    · rw [List.getElem?_eq_getElem hj] at hu
      rw [Go.WideShapes.add_plain, hc j hj, nth_eq ys j hj]
      exact hu
    · rw [List.getElem?_eq_none (by omega)] at hu
      cases hu
end

/-- What 'make' of a length 0 lays is owned. -/
theorem Own.made (k : Unit) (e : TypeId) (w : World) (l : List Bool) (hm : l.length ≤ maxLen) : Own k e (w.alloc (.cells (blk k l) e)) w.heap.size (.slice (some ⟨w.heap.size, 0, none⟩) 0 l.length) [] :=
  ⟨rfl, .inr ⟨_, _, _, rfl, Nat.le_refl _, heap_alloc_new w _, by simp, hm, by simp [blk_size], by simp⟩⟩
/-- A row that fills its capacity is its block, whole. -/
theorem Own.full {k : Unit} {e : TypeId} {w : World} {base g n : Nat} {xs : List Bool} (h : Own k e w base (.slice (some ⟨g, 0, none⟩) n n) xs) : w.heap[g]? = some (.cells (blk k xs) e (0, 0)) := by
  rcases h.2 with ⟨h0, _⟩ | ⟨g', cap, cur, hv, hb, hg, h1, h2, h3, h4⟩
  · cases h0
  · injection hv with ha hn hc
    injection ha with ha
    injection ha with ha
    subst ha hn hc
    rw [hg]
    congr 2
    apply Array.toList_inj.1
    rw [List.take_of_length_le (by simp [h3])] at h4
    rw [h4]
    simp [blk]

theorem Below.own {k : Unit} {e : TypeId} {w0 w w' : World} {base : Nat} {v : Value} {xs : List Bool} (hb : Below base w0 w) (hB : base ≤ w.heap.size) (h : Own k e w base v xs) (hg : w.grownBy w' v.ownBlock) : Below base w0 w' :=
  hb.grown hg hB fun g e => (h.block g e).1
/-- One element's box, then the append that takes it. -/
theorem Below.own1 {k : Unit} {e : TypeId} {w0 w w' : World} {base : Nat} {v : Value} {xs : List Bool} {o : Obj} (hb : Below base w0 w) (hB : base ≤ w.heap.size) (h : Own k e w base v xs) (hg : (w.alloc o).grownBy w' v.ownBlock) : Below base w0 w' :=
  Below.own (hb.alloc hB o) (by simp; omega) (h.alloc o) hg
theorem Row.one (k : Unit) (w : World) (t : TypeId) (x : Bool) (h : (Lit.bool x).wf = true) : Row k (w.alloc (.cells #[.bool x] t)) (w.heap.size + 1) (some ⟨w.heap.size, 0, none⟩) [x] :=
  Row.new k w t [x] [x] (by simpa using h) (List.prefix_refl _)
end Go.Proofs.YtobhllcnljggiaaGreat.L
namespace Go.Proofs.YtobhllcnljggiaaGreat
open Go.RowKit

theorem info_u8 : (Tryz.prog.info? 5).map (fun i => (i.zero, i.size, i.bytes)) = some (some (.int .u8 0), 1, 1) := by kernel_rfl

theorem made_zero (z : Int) (n : Nat) : madeCells (Value.int .u8 z).cells (n * 1) = blk .u8 (List.replicate n z) := by
  apply Array.toList_inj.1
  rw [show (Value.int .u8 z).cells = #[Value.int .u8 z] from rfl, toList_madeCells_one, Nat.mul_one]
  simp [blk]

theorem make_u8 (n : Nat) (hn : n ≤ 140737488355328) (W : World) :
    (Instr.makeSlice 34 (.int .i64 (n : Int)) (.int .i64 (n : Int))).run Tryz.prog W = .ok (.slice (some ⟨W.heap.size, 0, none⟩) n n) (W.alloc (.cells (blk .u8 (List.replicate n 0)) 5)) := by
  obtain ⟨i, hi, hz, hs, hb⟩ := info_parts info_u8
  have h := run_make (P := Tryz.prog) W 34 5 i (.int .u8 0) Tryz.underlying34 hi hz .i64 .i64 n n (by omega) (by omega) (by rw [hb]; omega) (by omega)
  rw [h, hs, Int.toNat_natCast, made_zero]

def marks5 : List Int := [165, 165, 165, 165, 165]

/-- LentBytes: the same list in a new block, five marks behind it. -/
theorem lent_u8 (A : Option Addr) (n c : Nat) (xs : List Int) (w : World) (hr : Row .u8 w w.heap.size A xs) (hn : xs.length = n) (hb : n ≤ 140737488351232) : 
    Calls Tryz.prog 27 #[.slice A n c] w fun e w' => e = .returned (.slice (some ⟨w.heap.size, 0, none⟩) n (n+5)) ∧ w' = w.alloc (.cells (blk .u8 (xs ++ marks5)) 5) := by
  have hmk := make_u8 (n + 5) (by omega)
  rw [show ((n + 5 : Nat) : Int) = (n : Int) + 5 by omega] at hmk
  go_enter Tryz.func27, Tryz.ntmps27
  go_wp2
  go_loopw [4] (fun i wr => ∃ k : Nat, k ≤ n ∧ i = .int .i64 k ∧ wr = w.alloc (.cells (blk .u8 (xs.take k ++ List.replicate (n + 5 - k) 0)) 5)) (fun i _ => n - (intOf i).toNat)
  case atStart => exact ⟨0, by omega, rfl, by simp⟩
  case round =>
    obtain ⟨k, hk, rfl, rfl⟩ := hrel
    by_cases hlt : k < n
    · obtain ⟨b, o, rfl, hb1, hc1⟩ := hr.at_ (i := k) (by omega)
      have hc2 := fill_cell .u8 (xs.take k) (n + 5 - k) k 0 (by simp; omega) (by omega)
      have HS := Lib.hid (set_step (xs.take k) (n + 5 - (k + 1)) k 0 (nth xs k) (by simp; omega))
      go_wp2
      go_roundw
      case rel => exact ⟨k + 1, by omega, by go_num, by rw [blk_set, show n + 5 - k = (n + 5 - (k + 1)) + 1 by omega, HS.out, take_step xs k (by omega)]⟩
      case measure => simp [intOf]; omega
    · obtain rfl : k = n := by omega
      have hx : xs.take k = xs := List.take_of_length_le (by omega)
      rw [hx, show k + 5 - k = 5 by omega]
      clear hx hlt hk
      go_wp2
      go_loopw [5] (fun i wr => ∃ (j : Nat) (L : List Int), j ≤ 5 ∧ i = .int .i64 (k + j : Nat) ∧ Hid (L = xs ++ List.replicate j 165 ++ List.replicate (5 - j) 0) ∧ wr = w.alloc (.cells (blk .u8 L) 5)) (fun i _ => k + 5 - (intOf i).toNat)
      case atStart => exact ⟨0, _, by omega, rfl, Lib.hid (by simp), rfl⟩
      case round =>
        obtain ⟨j, L, hj, rfl, hL, rfl⟩ := hrel
        by_cases hlt : j < 5
        · have hc2 := fill_cell .u8 (xs ++ List.replicate j 165) (5 - j) (k + j) 0 (by simp; omega) (by omega)
          rw [← hL.out] at hc2
          have HS := Lib.hid (set_step (xs ++ List.replicate j 165) (5 - (j + 1)) (k + j) 0 165 (by simp; omega))
          go_wp2
          go_roundw
          case rel => exact ⟨j + 1, L.set (k + j) 165, by omega, by go_num, Lib.hid (by rw [hL.out, show 5 - j = (5 - (j + 1)) + 1 by omega, HS.out, List.replicate_succ', List.append_assoc xs]), by rw [blk_set]⟩
          case measure => simp [intOf]; omega
        · obtain rfl : j = 5 := by omega
          go_wp2
          go_ret
          exact ⟨rfl, by rw [hL.out]; simp [marks5, List.replicate]⟩

/-- SameBytes, where the lists are the same. -/
theorem same_yes_u8 (A A' : Option Addr) (n c c' : Nat) (xs : List Int) (w : World) (B B' : Nat) (hr : Row .u8 w B A xs) (hr' : Row .u8 w B' A' xs) (hn : xs.length = n) (hb : n ≤ 140737488355328) :
    Calls Tryz.prog 21 #[.slice A n c, .slice A' n c'] w fun e w' => e = .returned (.bool true) ∧ ∃ m, w' = w.drewN m := by
  go_enter Tryz.func21, Tryz.ntmps21
  go_wp2
  go_loopw [5] (fun i wr => ∃ k nq : Nat, k ≤ n ∧ i = .int .i64 k ∧ wr = w.drewN nq) (fun i _ => n - (intOf i).toNat)
  case atStart => exact ⟨0, 0, by omega, rfl, rfl⟩
  case round =>
    obtain ⟨k, nq, hk, rfl, rfl⟩ := hrel
    by_cases hlt : k < n
    · obtain ⟨b, o, rfl, hb1, hc1⟩ := hr.at_ (i := k) (by omega)
      obtain ⟨b', o', rfl, hb1', hc1'⟩ := hr'.at_ (i := k) (by omega)
      have hlt' : (k : Int) < (n : Int) := by omega
      go_wp2
      go_quiet (fail)
      go_wp2
      go_roundw
      case rel => exact ⟨k + 1, _, by omega, by go_num, rfl⟩
      case measure => simp [intOf]; omega
    · go_wp2
      go_ret
      exact ⟨rfl, nq, rfl⟩

/-- KeptBytes, where the list is in memory of its own with its five marks behind it. -/
theorem kept_u8 (A : Option Addr) (n c g : Nat) (xs : List Int) (w : World) (B : Nat) (hr : Row .u8 w B A xs) (hn : xs.length = n) (hb : n ≤ 140737488351232)
    (hg : w.heap[g]? = some (.cells (blk .u8 (xs ++ marks5)) 5 (0, 0))) :
    Calls Tryz.prog 29 #[.slice (some ⟨g, 0, none⟩) n (n + 5), .slice A n c] w fun e w' => e = .returned (.bool true) ∧ ∃ m, w' = w.drewN m := by
  have hcell : ∀ i, w.cell? ⟨g, i, none⟩ = (blk .u8 (xs ++ marks5))[i]? := fun i => cell_of_row w g i _ _ _ hg
  have hrow : Row .u8 w (g + 1) (some ⟨g, 0, none⟩) xs := by
    refine ⟨hr.1, fun _ => ⟨_, _, rfl, Nat.lt_succ_self _, fun i hi => ?_⟩⟩
    rw [Nat.zero_add, hcell, blk_get _ _ _ (by simp; omega), nth_left _ _ _ hi]
  have hmark : ∀ j, j < 5 → w.cell? ⟨g, n + j, none⟩ = some (.int .u8 165) := by
    intro j hj
    rw [hcell, blk_get _ _ _ (by simp [marks5]; omega), ← hn, nth_right]
    rcases j with _ | _ | _ | _ | _ | j <;> first | rfl | omega
  have HM := Lib.hid hmark
  clear hcell hmark hg
  go_enter Tryz.func29, Tryz.ntmps29
  go_wp2_with (go_at_call 21; refine (same_yes_u8 _ _ _ _ _ xs _ _ _ hrow hr hn (by omega)).mono ?_; rintro e w' ⟨rfl, m, rfl⟩)
  go_loop [6] (fun i => ∃ j : Nat, j ≤ 5 ∧ i = .int .i64 (n + j : Nat)) (fun i => n + 5 - (intOf i).toNat)
  case atStart => exact ⟨0, by omega, rfl⟩
  case round =>
    obtain ⟨j, hj, rfl⟩ := hrel
    by_cases hlt : j < 5
    · have hc := HM.out j hlt
      go_wp2
      go_round
      case rel => exact ⟨j + 1, by omega, by go_num⟩
      case measure => simp [intOf]; omega
    · go_wp2
      go_ret
      exact ⟨rfl, m, rfl⟩
end Go.Proofs.YtobhllcnljggiaaGreat
namespace Go.Proofs.YtobhllcnljggiaaGreat.L
open Go.RowKit
set_option linter.unusedVariables false

theorem info_bool : (Tryz.prog.info? 4).map (fun i => (i.zero, i.size, i.bytes)) = some (some (.bool false), 1, 1) := by kernel_rfl

theorem made_zero (z : Bool) (n : Nat) : madeCells (Value.bool z).cells (n * 1) = blk () (List.replicate n z) := by
  apply Array.toList_inj.1
  rw [show (Value.bool z).cells = #[Value.bool z] from rfl, toList_madeCells_one, Nat.mul_one]
  simp [blk]

theorem make_bool (n : Nat) (hn : n ≤ 140737488355328) (W : World) :
    (Instr.makeSlice 22 (.int .i64 (n : Int)) (.int .i64 (n : Int))).run Tryz.prog W = .ok (.slice (some ⟨W.heap.size, 0, none⟩) n n) (W.alloc (.cells (blk () (List.replicate n false)) 4)) := by
  obtain ⟨i, hi, hz, hs, hb⟩ := info_parts info_bool
  have h := run_make (P := Tryz.prog) W 22 4 i (.bool false) Tryz.underlying22 hi hz .i64 .i64 n n (by omega) (by omega) (by rw [hb]; omega) (by omega)
  rw [h, hs, Int.toNat_natCast, made_zero]

def marks5 : List Bool := [true, true, true, true, true]

/-- LentBools: the same list in a new block, five marks behind it. -/
theorem lent_bool (A : Option Addr) (n c : Nat) (xs : List Bool) (w : World) (hr : Row () w w.heap.size A xs) (hn : xs.length = n) (hb : n ≤ 140737488351232) : 
    Calls Tryz.prog 42 #[.slice A n c] w fun e w' => e = .returned (.slice (some ⟨w.heap.size, 0, none⟩) n (n+5)) ∧ w' = w.alloc (.cells (blk () (xs ++ marks5)) 4) := by
  have hmk := make_bool (n + 5) (by omega)
  rw [show ((n + 5 : Nat) : Int) = (n : Int) + 5 by omega] at hmk
  go_enter Tryz.func42, Tryz.ntmps42
  go_wp2
  go_loopw [4] (fun i wr => ∃ k : Nat, k ≤ n ∧ i = .int .i64 k ∧ wr = w.alloc (.cells (blk () (xs.take k ++ List.replicate (n + 5 - k) false)) 4)) (fun i _ => n - (intOf i).toNat)
  case atStart => exact ⟨0, by omega, rfl, by simp⟩
  case round =>
    obtain ⟨k, hk, rfl, rfl⟩ := hrel
    by_cases hlt : k < n
    · obtain ⟨b, o, rfl, hb1, hc1⟩ := hr.at_ (i := k) (by omega)
      have hc2 := fill_cell () (xs.take k) (n + 5 - k) k false (by simp; omega) (by omega)
      have HS := Lib.hid (set_step (xs.take k) (n + 5 - (k + 1)) k false (nth xs k) (by simp; omega))
      go_wp2
      go_roundw
      case rel => exact ⟨k + 1, by omega, by go_num, by rw [blk_set, show n + 5 - k = (n + 5 - (k + 1)) + 1 by omega, HS.out, take_step xs k (by omega)]⟩
      case measure => simp [intOf]; omega
    · obtain rfl : k = n := by omega
      have hx : xs.take k = xs := List.take_of_length_le (by omega)
      rw [hx, show k + 5 - k = 5 by omega]
      clear hx hlt hk
      go_wp2
      go_loopw [5] (fun i wr => ∃ (j : Nat) (L : List Bool), j ≤ 5 ∧ i = .int .i64 (k + j : Nat) ∧ Hid (L = xs ++ List.replicate j true ++ List.replicate (5 - j) false) ∧ wr = w.alloc (.cells (blk () L) 4)) (fun i _ => k + 5 - (intOf i).toNat)
      case atStart => exact ⟨0, _, by omega, rfl, Lib.hid (by simp), rfl⟩
      case round =>
        obtain ⟨j, L, hj, rfl, hL, rfl⟩ := hrel
        by_cases hlt : j < 5
        · have hc2 := fill_cell () (xs ++ List.replicate j true) (5 - j) (k + j) false (by simp; omega) (by omega)
          rw [← hL.out] at hc2
          have HS := Lib.hid (set_step (xs ++ List.replicate j true) (5 - (j + 1)) (k + j) false true (by simp; omega))
          go_wp2
          go_roundw
          case rel => exact ⟨j + 1, L.set (k + j) true, by omega, by go_num, Lib.hid (by rw [hL.out, show 5 - j = (5 - (j + 1)) + 1 by omega, HS.out, List.replicate_succ', List.append_assoc xs]), by rw [blk_set]⟩
          case measure => simp [intOf]; omega
        · obtain rfl : j = 5 := by omega
          go_wp2
          go_ret
          exact ⟨rfl, by rw [hL.out]; simp [marks5, List.replicate]⟩

/-- SameBools, where the lists are the same. -/
theorem same_yes_bool (A A' : Option Addr) (n c c' : Nat) (xs : List Bool) (w : World) (B B' : Nat) (hr : Row () w B A xs) (hr' : Row () w B' A' xs) (hn : xs.length = n) (hb : n ≤ 140737488355328) :
    Calls Tryz.prog 54 #[.slice A n c, .slice A' n c'] w fun e w' => e = .returned (.bool true) ∧ ∃ m, w' = w.drewN m := by
  go_enter Tryz.func54, Tryz.ntmps54
  go_wp2
  go_loopw [5] (fun i wr => ∃ k nq : Nat, k ≤ n ∧ i = .int .i64 k ∧ wr = w.drewN nq) (fun i _ => n - (intOf i).toNat)
  case atStart => exact ⟨0, 0, by omega, rfl, rfl⟩
  case round =>
    obtain ⟨k, nq, hk, rfl, rfl⟩ := hrel
    by_cases hlt : k < n
    · obtain ⟨b, o, rfl, hb1, hc1⟩ := hr.at_ (i := k) (by omega)
      obtain ⟨b', o', rfl, hb1', hc1'⟩ := hr'.at_ (i := k) (by omega)
      have hlt' : (k : Int) < (n : Int) := by omega
      go_wp2
      go_quiet (fail)
      go_wp2
      go_roundw
      case rel => exact ⟨k + 1, _, by omega, by go_num, rfl⟩
      case measure => simp [intOf]; omega
    · go_wp2
      go_ret
      exact ⟨rfl, nq, rfl⟩

/-- KeptBools, where the list is in memory of its own with its five marks behind it. -/
theorem kept_bool (A : Option Addr) (n c g : Nat) (xs : List Bool) (w : World) (B : Nat) (hr : Row () w B A xs) (hn : xs.length = n) (hb : n ≤ 140737488351232)
    (hg : w.heap[g]? = some (.cells (blk () (xs ++ marks5)) 4 (0, 0))) :
    Calls Tryz.prog 51 #[.slice (some ⟨g, 0, none⟩) n (n + 5), .slice A n c] w fun e w' => e = .returned (.bool true) ∧ ∃ m, w' = w.drewN m := by
  have hcell : ∀ i, w.cell? ⟨g, i, none⟩ = (blk () (xs ++ marks5))[i]? := fun i => cell_of_row w g i _ _ _ hg
  have hrow : Row () w (g + 1) (some ⟨g, 0, none⟩) xs := by
    refine ⟨hr.1, fun _ => ⟨_, _, rfl, Nat.lt_succ_self _, fun i hi => ?_⟩⟩
    rw [Nat.zero_add, hcell, blk_get _ _ _ (by simp; omega), nth_left _ _ _ hi]
  have hmark : ∀ j, j < 5 → w.cell? ⟨g, n + j, none⟩ = some (.bool true) := by
    intro j hj
    rw [hcell, blk_get _ _ _ (by simp [marks5]; omega), ← hn, nth_right]
    rcases j with _ | _ | _ | _ | _ | j <;> first | rfl | omega
  have HM := Lib.hid hmark
  clear hcell hmark hg
  go_enter Tryz.func51, Tryz.ntmps51
  go_wp2_with (go_at_call 54; refine (same_yes_bool _ _ _ _ _ xs _ _ _ hrow hr hn (by omega)).mono ?_; rintro e w' ⟨rfl, m, rfl⟩)
  go_loop [6] (fun i => ∃ j : Nat, j ≤ 5 ∧ i = .int .i64 (n + j : Nat)) (fun i => n + 5 - (intOf i).toNat)
  case atStart => exact ⟨0, by omega, rfl⟩
  case round =>
    obtain ⟨j, hj, rfl⟩ := hrel
    by_cases hlt : j < 5
    · have hc := HM.out j hlt
      go_wp2
      go_round
      case rel => exact ⟨j + 1, by omega, by go_num⟩
      case measure => simp [intOf]; omega
    · go_wp2
      go_ret
      exact ⟨rfl, m, rfl⟩
end Go.Proofs.YtobhllcnljggiaaGreat.L
namespace Go.Proofs.YtobhllcnljggiaaGreat
open Go.RowKit

/-- A call returns a new slice, its own, that holds xs; nothing that was there has turned. -/
def Makes (k : IntKind) (t : TypeId) (w : World) (xs : List Int) (e : Ending) (w' : World) : Prop := ∃ v, e = .returned v ∧ Own k t w' w.heap.size v xs ∧ Below w.heap.size w w'

/-- A call returns a slice that fills a new block, the first new one, with xs; nothing that was there has turned. -/
def Lays (k : IntKind) (t : TypeId) (w : World) (xs : List Int) (m : Nat) (e : Ending) (w' : World) : Prop :=
  e = .returned (.slice (some ⟨w.heap.size, 0, none⟩) m m) ∧ w'.heap[w.heap.size]? = some (.cells (blk k xs) t (0, 0)) ∧ Below w.heap.size w w'

set_option maxHeartbeats 400000 in
theorem copy_u8 (A : Option Addr) (n c : Nat) (xs : List Int) (w : World) (hr : Row .u8 w w.heap.size A xs) (hn : xs.length = n) (hb : n ≤ 140737488355328) : 
    Calls Tryz.prog 57 #[.slice A n c] w (Makes .u8 5 w xs) := by
  go_enter Tryz.func57, Tryz.ntmps57
  go_wp2
  go_loopw [3, 4] (fun v i wr => ∃ k : Nat, k ≤ n ∧ i = .int .i64 k ∧ Own .u8 5 wr w.heap.size v (xs.take k) ∧ Below w.heap.size w wr) (fun _ i _ => n - (intOf i).toNat)
  case atStart => exact ⟨0, by omega, rfl, Own.nil _ _ _ _, Below.refl _ _⟩
  case round =>
    obtain ⟨k, hk, rfl, hown, hbel⟩ := hrel
    by_cases hlt : k < n
    · obtain ⟨b, o, rfl, hb1, hc1⟩ := (hr.below hbel).at_ (i := k) (by omega)
      have hl : Hid ((xs.take k).length = k) := by show _ = _; simp; omega
      have hone := Row.one .u8 wr 5 (nth xs k) (hr.wf_at (by omega))
      have hsz := hbel.size
      have HT := Lib.hid (take_step xs k (by omega))
      go_wp2_with (at_builtin; refine wpList_append_row _ rfl _ _ 34 rfl w.heap.size .u8 5 1 Tryz.underlying34 info_u8 _ (xs.take k) rfl (hown.alloc _) _ _ 1 1 [nth xs k] rfl hone rfl (by rw [hl.out]; omega) (by rw [hl.out]; simp only [maxLen]; omega) (by simp; omega) ?_; intro v1 w1 hown1 hg1)
      have hbel1 := Below.own1 hbel hsz hown hg1
      rw [← HT.out] at hown1
      clear hone hc1 hg1 hown
      go_wp2
      go_roundw
      case rel => exact ⟨k + 1, by omega, by go_num, hown1, hbel1⟩
      case measure => simp [intOf]; omega
    · have hx : xs.take k = xs := List.take_of_length_le (by omega)
      rw [hx] at hown
      clear hx
      go_wp2
      go_ret
      exact ⟨_, rfl, hown, hbel⟩
end Go.Proofs.YtobhllcnljggiaaGreat
namespace Go.Proofs.YtobhllcnljggiaaGreat.L
open Go.RowKit
set_option linter.unusedVariables false

/-- A call returns a new slice, its own, that holds xs; nothing that was there has turned. -/
def Makes (k : Unit) (t : TypeId) (w : World) (xs : List Bool) (e : Ending) (w' : World) : Prop := ∃ v, e = .returned v ∧ Own k t w' w.heap.size v xs ∧ Below w.heap.size w w'

/-- A call returns a slice that fills a new block, the first new one, with xs; nothing that was there has turned. -/
def Lays (k : Unit) (t : TypeId) (w : World) (xs : List Bool) (m : Nat) (e : Ending) (w' : World) : Prop :=
  e = .returned (.slice (some ⟨w.heap.size, 0, none⟩) m m) ∧ w'.heap[w.heap.size]? = some (.cells (blk k xs) t (0, 0)) ∧ Below w.heap.size w w'

set_option maxHeartbeats 400000 in
theorem copy_bool (A : Option Addr) (n c : Nat) (xs : List Bool) (w : World) (hr : Row () w w.heap.size A xs) (hn : xs.length = n) (hb : n ≤ 140737488355328) : 
    Calls Tryz.prog 45 #[.slice A n c] w (Makes () 4 w xs) := by
  go_enter Tryz.func45, Tryz.ntmps45
  go_wp2
  go_loopw [3, 4] (fun v i wr => ∃ k : Nat, k ≤ n ∧ i = .int .i64 k ∧ Own () 4 wr w.heap.size v (xs.take k) ∧ Below w.heap.size w wr) (fun _ i _ => n - (intOf i).toNat)
  case atStart => exact ⟨0, by omega, rfl, Own.nil _ _ _ _, Below.refl _ _⟩
  case round =>
    obtain ⟨k, hk, rfl, hown, hbel⟩ := hrel
    by_cases hlt : k < n
    · obtain ⟨b, o, rfl, hb1, hc1⟩ := (hr.below hbel).at_ (i := k) (by omega)
      have hl : Hid ((xs.take k).length = k) := by show _ = _; simp; omega
      have hone := Row.one () wr 4 (nth xs k) (hr.wf_at (by omega))
      have hsz := hbel.size
      have HT := Lib.hid (take_step xs k (by omega))
      go_wp2_with (at_builtin; refine wpList_append_row _ rfl _ _ 22 rfl w.heap.size () 4 1 Tryz.underlying22 info_bool _ (xs.take k) rfl (hown.alloc _) _ _ 1 1 [nth xs k] rfl hone rfl (by rw [hl.out]; omega) (by rw [hl.out]; simp only [maxLen]; omega) (by simp; omega) ?_; intro v1 w1 hown1 hg1)
      have hbel1 := Below.own1 hbel hsz hown hg1
      rw [← HT.out] at hown1
      clear hone hc1 hg1 hown
      go_wp2
      go_roundw
      case rel => exact ⟨k + 1, by omega, by go_num, hown1, hbel1⟩
      case measure => simp [intOf]; omega
    · have hx : xs.take k = xs := List.take_of_length_le (by omega)
      rw [hx] at hown
      clear hx
      go_wp2
      go_ret
      exact ⟨_, rfl, hown, hbel⟩
end Go.Proofs.YtobhllcnljggiaaGreat.L
namespace Go.Proofs.YtobhllcnljggiaaGreat
open Go.RowKit
set_option linter.unusedVariables false

theorem below_drewN {B : Nat} {a w : World} (h : Below B a w) (n : Nat) : Below B a (w.drewN n) := ⟨h.os, h.tape, h.output, h.size, h.block⟩
/-- Block g is just the row l. (A name: so the walk does not rewrite by it.) -/
def Bk (w : World) (g : Nat) (l : List Int) : Prop := w.heap[g]? = some (.cells (blk .u8 l) 5 (0, 0))
theorem Bk.below {w w' : World} {g : Nat} {l : List Int} (h : Bk w g l) (hb : Below w.heap.size w w') : Bk w' g l := (hb.block g (block_lt h)).trans h
theorem Bk.lt {w : World} {g : Nat} {l : List Int} (h : Bk w g l) : g < w.heap.size := block_lt h
theorem Bk.drewN {w : World} {g : Nat} {l : List Int} (h : Bk w g l) (n : Nat) : Bk (w.drewN n) g l := h
theorem Bk.row {w : World} {g : Nat} {l : List Int} (h : Bk w g l) (xs : List Int) (hw : ∀ x ∈ xs, (Lit.int .u8 x).wf = true) (hp : xs <+: l) : Row .u8 w w.heap.size (some ⟨g, 0, none⟩) xs :=
  (Row.of_block h xs hw hp).more h.lt
/-- A slice that is nil, or the beginning of block g. -/
def Li (w : World) (A : Option Addr) (m g : Nat) (l r : List Int) : Prop := A = none ∧ m = 0 ∨ A = some ⟨g, 0, none⟩ ∧ Bk w g (l ++ r)
theorem Li.below {w w' : World} {A : Option Addr} {m g : Nat} {l r : List Int} (h : Li w A m g l r) (hb : Below w.heap.size w w') : Li w' A m g l r := by
  rcases h with h | ⟨h1, h2⟩
  · exact .inl h
  · exact .inr ⟨h1, h2.below hb⟩
theorem Li.row {w : World} {A : Option Addr} {m g : Nat} {l r : List Int} (h : Li w A m g l r) (hm : l.length = m) (hw : ∀ x ∈ l, (Lit.int .u8 x).wf = true) : Row .u8 w w.heap.size A l := by
  rcases h with ⟨h1, h2⟩ | ⟨h1, h2⟩
  · have : l = [] := List.eq_nil_of_length_eq_zero (by omega)
    subst this
    exact Row.nil _ _ _ _
  · subst h1
    exact h2.row l hw (List.prefix_append _ _)
theorem bel_drewN (w : World) (n : Nat) : Below w.heap.size w (w.drewN n) := ⟨rfl, rfl, rfl, Nat.le_refl _, fun _ _ => rfl⟩

/-- A call returns a pair: a list that is nil or fills the first new block, and a number. -/
def Gives (w : World) (l : List Int) (err : Int) (e : Ending) (w' : World) : Prop :=
  ∃ A m, e = .returned (.tuple #[.slice A m m, .int .i64 err]) ∧ l.length = m ∧ Li w' A m w.heap.size l [] ∧ Below w.heap.size w w'
/-- A call returns a pair: a list of its own, and a number. -/
def GivesOwn (w : World) (l : List Int) (err : Int) (e : Ending) (w' : World) : Prop :=
  ∃ v, e = .returned (.tuple #[v, .int .i64 err]) ∧ Own .u8 5 w' w.heap.size v l ∧ Below w.heap.size w w'
theorem Li.lt {w : World} {A : Option Addr} {m g : Nat} {l r : List Int} (h : Li w A m g l r) : A = none ∨ g < w.heap.size := by
  rcases h with ⟨h1, _⟩ | ⟨_, h2⟩
  · exact .inl h1
  · exact .inr h2.lt
end Go.Proofs.YtobhllcnljggiaaGreat
namespace Go.Proofs.YtobhllcnljggiaaGreat.L
open Go.RowKit
set_option linter.unusedVariables false
set_option linter.unusedVariables false

theorem block_setCell (w : World) (g i : Nat) (k : Unit) (t : TypeId) (l : List Bool) (v : Bool) (h : w.heap[g]? = some (.cells (blk k l) t (0, 0))) :
    (w.setCell ⟨g, i, none⟩ (.bool v)).heap[g]? = some (.cells (blk k (l.set i v)) t (0, 0)) := by
  simp [World.setCell, Array.getElem?_modify, h, blk_set]
theorem block_frozen (w : World) (g i : Nat) (cs : Array Value) (t : TypeId) (h : w.heap[g]? = some (.cells cs t (0, 0))) : w.frozen? ⟨g, i, none⟩ = false := by simp [World.frozen?, h]
theorem grown_setCell {a w : World} {g : Nat} (h : a.grownBy w (some g)) (i : Nat) (u : Value) : a.grownBy (w.setCell ⟨g, i, none⟩ u) (some g) :=
  ⟨h.os, h.tape, h.output, by simpa [World.setCell] using h.size, fun k hk hne => (Below.heap_setCell w ⟨g, i, none⟩ u k (fun e => hne (by rw [e]))).trans (h.block k hk hne)⟩
theorem block_lt {w : World} {g : Nat} {o : Obj} (h : w.heap[g]? = some o) : g < w.heap.size := by
  rcases Nat.lt_or_ge g w.heap.size with hlt | hge
  · exact hlt
  · rw [Array.getElem?_eq_none hge] at h; cases h

end Go.Proofs.YtobhllcnljggiaaGreat.L
namespace Go.Proofs.YtobhllcnljggiaaGreat.L
open Go.RowKit
set_option linter.unusedVariables false
set_option linter.unusedVariables false

theorem below_drewN {B : Nat} {a w : World} (h : Below B a w) (n : Nat) : Below B a (w.drewN n) := ⟨h.os, h.tape, h.output, h.size, h.block⟩
/-- Block g is just the row l. (A name: so the walk does not rewrite by it.) -/
def Bk (w : World) (g : Nat) (l : List Bool) : Prop := w.heap[g]? = some (.cells (blk () l) 4 (0, 0))
theorem Bk.below {w w' : World} {g : Nat} {l : List Bool} (h : Bk w g l) (hb : Below w.heap.size w w') : Bk w' g l := (hb.block g (block_lt h)).trans h
theorem Bk.lt {w : World} {g : Nat} {l : List Bool} (h : Bk w g l) : g < w.heap.size := block_lt h
theorem Bk.drewN {w : World} {g : Nat} {l : List Bool} (h : Bk w g l) (n : Nat) : Bk (w.drewN n) g l := h
theorem Bk.row {w : World} {g : Nat} {l : List Bool} (h : Bk w g l) (xs : List Bool) (hw : ∀ x ∈ xs, (Lit.bool x).wf = true) (hp : xs <+: l) : Row () w w.heap.size (some ⟨g, 0, none⟩) xs :=
  (Row.of_block h xs hw hp).more h.lt
/-- A slice that is nil, or the beginning of block g. -/
def Li (w : World) (A : Option Addr) (m g : Nat) (l r : List Bool) : Prop := A = none ∧ m = 0 ∨ A = some ⟨g, 0, none⟩ ∧ Bk w g (l ++ r)
theorem Li.below {w w' : World} {A : Option Addr} {m g : Nat} {l r : List Bool} (h : Li w A m g l r) (hb : Below w.heap.size w w') : Li w' A m g l r := by
  rcases h with h | ⟨h1, h2⟩
  · exact .inl h
  · exact .inr ⟨h1, h2.below hb⟩
theorem Li.row {w : World} {A : Option Addr} {m g : Nat} {l r : List Bool} (h : Li w A m g l r) (hm : l.length = m) (hw : ∀ x ∈ l, (Lit.bool x).wf = true) : Row () w w.heap.size A l := by
  rcases h with ⟨h1, h2⟩ | ⟨h1, h2⟩
  · have : l = [] := List.eq_nil_of_length_eq_zero (by omega)
    subst this
    exact Row.nil _ _ _ _
  · subst h1
    exact h2.row l hw (List.prefix_append _ _)
theorem bel_drewN (w : World) (n : Nat) : Below w.heap.size w (w.drewN n) := ⟨rfl, rfl, rfl, Nat.le_refl _, fun _ _ => rfl⟩

/-- A call returns a pair: a list that is nil or fills the first new block, and a number. -/
def Gives (w : World) (l : List Bool) (err : Int) (e : Ending) (w' : World) : Prop :=
  ∃ A m, e = .returned (.tuple #[.slice A m m, .int .i64 err]) ∧ l.length = m ∧ Li w' A m w.heap.size l [] ∧ Below w.heap.size w w'
/-- A call returns a pair: a list of its own, and a number. -/
def GivesOwn (w : World) (l : List Bool) (err : Int) (e : Ending) (w' : World) : Prop :=
  ∃ v, e = .returned (.tuple #[v, .int .i64 err]) ∧ Own () 4 w' w.heap.size v l ∧ Below w.heap.size w w'
theorem Li.lt {w : World} {A : Option Addr} {m g : Nat} {l r : List Bool} (h : Li w A m g l r) : A = none ∨ g < w.heap.size := by
  rcases h with ⟨h1, _⟩ | ⟨_, h2⟩
  · exact .inl h1
  · exact .inr h2.lt
end Go.Proofs.YtobhllcnljggiaaGreat.L
namespace Go.Proofs.YtobhllcnljggiaaGreat.W
open Go.RowKit

theorem info_u16 : (Tryz.prog.info? 32).map (fun i => (i.zero, i.size, i.bytes)) = some (some (.int .u16 0), 1, 2) := by kernel_rfl

theorem made_zero (z : Int) (n : Nat) : madeCells (Value.int .u16 z).cells (n * 1) = blk .u16 (List.replicate n z) := by
  apply Array.toList_inj.1
  rw [show (Value.int .u16 z).cells = #[Value.int .u16 z] from rfl, toList_madeCells_one, Nat.mul_one]
  simp [blk]

theorem make_u16 (n : Nat) (hn : n ≤ 70368744177664) (W : World) :
    (Instr.makeSlice 23 (.int .i64 (n : Int)) (.int .i64 (n : Int))).run Tryz.prog W = .ok (.slice (some ⟨W.heap.size, 0, none⟩) n n) (W.alloc (.cells (blk .u16 (List.replicate n 0)) 32)) := by
  obtain ⟨i, hi, hz, hs, hb⟩ := info_parts info_u16
  have h := run_make (P := Tryz.prog) W 23 32 i (.int .u16 0) Tryz.underlying23 hi hz .i64 .i64 n n (by omega) (by omega) (by rw [hb]; omega) (by omega)
  rw [h, hs, Int.toNat_natCast, made_zero]

def marks5 : List Int := [42330, 42330, 42330, 42330, 42330]

/-- LentWords: the same list in a new block, five marks behind it. -/
theorem lent_u16 (A : Option Addr) (n c : Nat) (xs : List Int) (w : World) (hr : Row .u16 w w.heap.size A xs) (hn : xs.length = n) (hb : n ≤ 70368744173568) : 
    Calls Tryz.prog 43 #[.slice A n c] w fun e w' => e = .returned (.slice (some ⟨w.heap.size, 0, none⟩) n (n+5)) ∧ w' = w.alloc (.cells (blk .u16 (xs ++ marks5)) 32) := by
  have hmk := make_u16 (n + 5) (by omega)
  rw [show ((n + 5 : Nat) : Int) = (n : Int) + 5 by omega] at hmk
  go_enter Tryz.func43, Tryz.ntmps43
  go_wp2
  go_loopw [4] (fun i wr => ∃ k : Nat, k ≤ n ∧ i = .int .i64 k ∧ wr = w.alloc (.cells (blk .u16 (xs.take k ++ List.replicate (n + 5 - k) 0)) 32)) (fun i _ => n - (intOf i).toNat)
  case atStart => exact ⟨0, by omega, rfl, by simp⟩
  case round =>
    obtain ⟨k, hk, rfl, rfl⟩ := hrel
    by_cases hlt : k < n
    · obtain ⟨b, o, rfl, hb1, hc1⟩ := hr.at_ (i := k) (by omega)
      have hc2 := fill_cell .u16 (xs.take k) (n + 5 - k) k 0 (by simp; omega) (by omega)
      have HS := Lib.hid (set_step (xs.take k) (n + 5 - (k + 1)) k 0 (nth xs k) (by simp; omega))
      go_wp2
      go_roundw
      case rel => exact ⟨k + 1, by omega, by go_num, by rw [blk_set, show n + 5 - k = (n + 5 - (k + 1)) + 1 by omega, HS.out, take_step xs k (by omega)]⟩
      case measure => simp [intOf]; omega
    · obtain rfl : k = n := by omega
      have hx : xs.take k = xs := List.take_of_length_le (by omega)
      rw [hx, show k + 5 - k = 5 by omega]
      clear hx hlt hk
      go_wp2
      go_loopw [5] (fun i wr => ∃ (j : Nat) (L : List Int), j ≤ 5 ∧ i = .int .i64 (k + j : Nat) ∧ Hid (L = xs ++ List.replicate j 42330 ++ List.replicate (5 - j) 0) ∧ wr = w.alloc (.cells (blk .u16 L) 32)) (fun i _ => k + 5 - (intOf i).toNat)
      case atStart => exact ⟨0, _, by omega, rfl, Lib.hid (by simp), rfl⟩
      case round =>
        obtain ⟨j, L, hj, rfl, hL, rfl⟩ := hrel
        by_cases hlt : j < 5
        · have hc2 := fill_cell .u16 (xs ++ List.replicate j 42330) (5 - j) (k + j) 0 (by simp; omega) (by omega)
          rw [← hL.out] at hc2
          have HS := Lib.hid (set_step (xs ++ List.replicate j 42330) (5 - (j + 1)) (k + j) 0 42330 (by simp; omega))
          go_wp2
          go_roundw
          case rel => exact ⟨j + 1, L.set (k + j) 42330, by omega, by go_num, Lib.hid (by rw [hL.out, show 5 - j = (5 - (j + 1)) + 1 by omega, HS.out, List.replicate_succ', List.append_assoc xs]), by rw [blk_set]⟩
          case measure => simp [intOf]; omega
        · obtain rfl : j = 5 := by omega
          go_wp2
          go_ret
          exact ⟨rfl, by rw [hL.out]; simp [marks5, List.replicate]⟩

/-- SameWords, where the lists are the same. -/
theorem same_yes_u16 (A A' : Option Addr) (n c c' : Nat) (xs : List Int) (w : World) (B B' : Nat) (hr : Row .u16 w B A xs) (hr' : Row .u16 w B' A' xs) (hn : xs.length = n) (hb : n ≤ 70368744177664) :
    Calls Tryz.prog 55 #[.slice A n c, .slice A' n c'] w fun e w' => e = .returned (.bool true) ∧ ∃ m, w' = w.drewN m := by
  go_enter Tryz.func55, Tryz.ntmps55
  go_wp2
  go_loopw [5] (fun i wr => ∃ k nq : Nat, k ≤ n ∧ i = .int .i64 k ∧ wr = w.drewN nq) (fun i _ => n - (intOf i).toNat)
  case atStart => exact ⟨0, 0, by omega, rfl, rfl⟩
  case round =>
    obtain ⟨k, nq, hk, rfl, rfl⟩ := hrel
    by_cases hlt : k < n
    · obtain ⟨b, o, rfl, hb1, hc1⟩ := hr.at_ (i := k) (by omega)
      obtain ⟨b', o', rfl, hb1', hc1'⟩ := hr'.at_ (i := k) (by omega)
      have hlt' : (k : Int) < (n : Int) := by omega
      go_wp2
      go_quiet (fail)
      go_wp2
      go_roundw
      case rel => exact ⟨k + 1, _, by omega, by go_num, rfl⟩
      case measure => simp [intOf]; omega
    · go_wp2
      go_ret
      exact ⟨rfl, nq, rfl⟩

/-- KeptWords, where the list is in memory of its own with its five marks behind it. -/
theorem kept_u16 (A : Option Addr) (n c g : Nat) (xs : List Int) (w : World) (B : Nat) (hr : Row .u16 w B A xs) (hn : xs.length = n) (hb : n ≤ 70368744173568)
    (hg : w.heap[g]? = some (.cells (blk .u16 (xs ++ marks5)) 32 (0, 0))) :
    Calls Tryz.prog 52 #[.slice (some ⟨g, 0, none⟩) n (n + 5), .slice A n c] w fun e w' => e = .returned (.bool true) ∧ ∃ m, w' = w.drewN m := by
  have hcell : ∀ i, w.cell? ⟨g, i, none⟩ = (blk .u16 (xs ++ marks5))[i]? := fun i => cell_of_row w g i _ _ _ hg
  have hrow : Row .u16 w (g + 1) (some ⟨g, 0, none⟩) xs := by
    refine ⟨hr.1, fun _ => ⟨_, _, rfl, Nat.lt_succ_self _, fun i hi => ?_⟩⟩
    rw [Nat.zero_add, hcell, blk_get _ _ _ (by simp; omega), nth_left _ _ _ hi]
  have hmark : ∀ j, j < 5 → w.cell? ⟨g, n + j, none⟩ = some (.int .u16 42330) := by
    intro j hj
    rw [hcell, blk_get _ _ _ (by simp [marks5]; omega), ← hn, nth_right]
    rcases j with _ | _ | _ | _ | _ | j <;> first | rfl | omega
  have HM := Lib.hid hmark
  clear hcell hmark hg
  go_enter Tryz.func52, Tryz.ntmps52
  go_wp2_with (go_at_call 55; refine (same_yes_u16 _ _ _ _ _ xs _ _ _ hrow hr hn (by omega)).mono ?_; rintro e w' ⟨rfl, m, rfl⟩)
  go_loop [6] (fun i => ∃ j : Nat, j ≤ 5 ∧ i = .int .i64 (n + j : Nat)) (fun i => n + 5 - (intOf i).toNat)
  case atStart => exact ⟨0, by omega, rfl⟩
  case round =>
    obtain ⟨j, hj, rfl⟩ := hrel
    by_cases hlt : j < 5
    · have hc := HM.out j hlt
      go_wp2
      go_round
      case rel => exact ⟨j + 1, by omega, by go_num⟩
      case measure => simp [intOf]; omega
    · go_wp2
      go_ret
      exact ⟨rfl, m, rfl⟩
end Go.Proofs.YtobhllcnljggiaaGreat.W
namespace Go.Proofs.YtobhllcnljggiaaGreat.W
open Go.RowKit

/-- A call returns a new slice, its own, that holds xs; nothing that was there has turned. -/
def Makes (k : IntKind) (t : TypeId) (w : World) (xs : List Int) (e : Ending) (w' : World) : Prop := ∃ v, e = .returned v ∧ Own k t w' w.heap.size v xs ∧ Below w.heap.size w w'

/-- A call returns a slice that fills a new block, the first new one, with xs; nothing that was there has turned. -/
def Lays (k : IntKind) (t : TypeId) (w : World) (xs : List Int) (m : Nat) (e : Ending) (w' : World) : Prop :=
  e = .returned (.slice (some ⟨w.heap.size, 0, none⟩) m m) ∧ w'.heap[w.heap.size]? = some (.cells (blk k xs) t (0, 0)) ∧ Below w.heap.size w w'

set_option maxHeartbeats 400000 in
theorem copy_u16 (A : Option Addr) (n c : Nat) (xs : List Int) (w : World) (hr : Row .u16 w w.heap.size A xs) (hn : xs.length = n) (hb : n ≤ 70368744177664) : 
    Calls Tryz.prog 46 #[.slice A n c] w (Makes .u16 32 w xs) := by
  go_enter Tryz.func46, Tryz.ntmps46
  go_wp2
  go_loopw [3, 4] (fun v i wr => ∃ k : Nat, k ≤ n ∧ i = .int .i64 k ∧ Own .u16 32 wr w.heap.size v (xs.take k) ∧ Below w.heap.size w wr) (fun _ i _ => n - (intOf i).toNat)
  case atStart => exact ⟨0, by omega, rfl, Own.nil _ _ _ _, Below.refl _ _⟩
  case round =>
    obtain ⟨k, hk, rfl, hown, hbel⟩ := hrel
    by_cases hlt : k < n
    · obtain ⟨b, o, rfl, hb1, hc1⟩ := (hr.below hbel).at_ (i := k) (by omega)
      have hl : Hid ((xs.take k).length = k) := by show _ = _; simp; omega
      have hone := Row.one .u16 wr 32 (nth xs k) (hr.wf_at (by omega))
      have hsz := hbel.size
      have HT := Lib.hid (take_step xs k (by omega))
      go_wp2_with (at_builtin; refine wpList_append_row _ rfl _ _ 23 rfl w.heap.size .u16 32 2 Tryz.underlying23 info_u16 _ (xs.take k) rfl (hown.alloc _) _ _ 1 1 [nth xs k] rfl hone rfl (by rw [hl.out]; omega) (by rw [hl.out]; simp only [maxLen]; omega) (by simp; omega) ?_; intro v1 w1 hown1 hg1)
      have hbel1 := Below.own1 hbel hsz hown hg1
      rw [← HT.out] at hown1
      clear hone hc1 hg1 hown
      go_wp2
      go_roundw
      case rel => exact ⟨k + 1, by omega, by go_num, hown1, hbel1⟩
      case measure => simp [intOf]; omega
    · have hx : xs.take k = xs := List.take_of_length_le (by omega)
      rw [hx] at hown
      clear hx
      go_wp2
      go_ret
      exact ⟨_, rfl, hown, hbel⟩
end Go.Proofs.YtobhllcnljggiaaGreat.W
namespace Go.Proofs.YtobhllcnljggiaaGreat.W
open Go.RowKit
set_option linter.unusedVariables false

theorem below_drewN {B : Nat} {a w : World} (h : Below B a w) (n : Nat) : Below B a (w.drewN n) := ⟨h.os, h.tape, h.output, h.size, h.block⟩
/-- Block g is just the row l. (A name: so the walk does not rewrite by it.) -/
def Bk (w : World) (g : Nat) (l : List Int) : Prop := w.heap[g]? = some (.cells (blk .u16 l) 32 (0, 0))
theorem Bk.below {w w' : World} {g : Nat} {l : List Int} (h : Bk w g l) (hb : Below w.heap.size w w') : Bk w' g l := (hb.block g (block_lt h)).trans h
theorem Bk.lt {w : World} {g : Nat} {l : List Int} (h : Bk w g l) : g < w.heap.size := block_lt h
theorem Bk.drewN {w : World} {g : Nat} {l : List Int} (h : Bk w g l) (n : Nat) : Bk (w.drewN n) g l := h
theorem Bk.row {w : World} {g : Nat} {l : List Int} (h : Bk w g l) (xs : List Int) (hw : ∀ x ∈ xs, (Lit.int .u16 x).wf = true) (hp : xs <+: l) : Row .u16 w w.heap.size (some ⟨g, 0, none⟩) xs :=
  (Row.of_block h xs hw hp).more h.lt
/-- A slice that is nil, or the beginning of block g. -/
def Li (w : World) (A : Option Addr) (m g : Nat) (l r : List Int) : Prop := A = none ∧ m = 0 ∨ A = some ⟨g, 0, none⟩ ∧ Bk w g (l ++ r)
theorem Li.below {w w' : World} {A : Option Addr} {m g : Nat} {l r : List Int} (h : Li w A m g l r) (hb : Below w.heap.size w w') : Li w' A m g l r := by
  rcases h with h | ⟨h1, h2⟩
  · exact .inl h
  · exact .inr ⟨h1, h2.below hb⟩
theorem Li.row {w : World} {A : Option Addr} {m g : Nat} {l r : List Int} (h : Li w A m g l r) (hm : l.length = m) (hw : ∀ x ∈ l, (Lit.int .u16 x).wf = true) : Row .u16 w w.heap.size A l := by
  rcases h with ⟨h1, h2⟩ | ⟨h1, h2⟩
  · have : l = [] := List.eq_nil_of_length_eq_zero (by omega)
    subst this
    exact Row.nil _ _ _ _
  · subst h1
    exact h2.row l hw (List.prefix_append _ _)
theorem bel_drewN (w : World) (n : Nat) : Below w.heap.size w (w.drewN n) := ⟨rfl, rfl, rfl, Nat.le_refl _, fun _ _ => rfl⟩

/-- A call returns a pair: a list that is nil or fills the first new block, and a number. -/
def Gives (w : World) (l : List Int) (err : Int) (e : Ending) (w' : World) : Prop :=
  ∃ A m, e = .returned (.tuple #[.slice A m m, .int .i64 err]) ∧ l.length = m ∧ Li w' A m w.heap.size l [] ∧ Below w.heap.size w w'
/-- A call returns a pair: a list of its own, and a number. -/
def GivesOwn (w : World) (l : List Int) (err : Int) (e : Ending) (w' : World) : Prop :=
  ∃ v, e = .returned (.tuple #[v, .int .i64 err]) ∧ Own .u16 32 w' w.heap.size v l ∧ Below w.heap.size w w'
theorem Li.lt {w : World} {A : Option Addr} {m g : Nat} {l r : List Int} (h : Li w A m g l r) : A = none ∨ g < w.heap.size := by
  rcases h with ⟨h1, _⟩ | ⟨_, h2⟩
  · exact .inl h1
  · exact .inr h2.lt
end Go.Proofs.YtobhllcnljggiaaGreat.W
namespace Go.Proofs.YtobhllcnljggiaaGreat.L
open Go.RowKit
set_option linter.unusedVariables false
set_option linter.unusedVariables false
/-- A list with each byte written over, up to a place. -/
def spoilL (k : Nat) (l : List Bool) : List Bool := (l.take k).map (! ·) ++ l.drop k
theorem spoilL_length (k : Nat) (l : List Bool) : (spoilL k l).length = l.length := by simp [spoilL]; omega
theorem bool_wf (x : Bool) : (Lit.bool x).wf = true := rfl
theorem spoilL_wf (k : Nat) (l : List Bool) (h : ∀ x ∈ l, (Lit.bool x).wf = true) : ∀ x ∈ spoilL k l, (Lit.bool x).wf = true := by
  intro x hx
  rcases List.mem_append.1 hx with hx | hx
  · obtain ⟨y, hy, rfl⟩ := List.mem_map.1 hx
    exact bool_wf _
  · exact h x (List.mem_of_mem_drop hx)
theorem spoilL_at (k : Nat) (l : List Bool) (hk : k < l.length) : nth (spoilL k l) k = nth l k := by
  have hl : ((l.take k).map (! ·)).length = k := by simp; omega
  have := nth_right ((l.take k).map (! ·)) (l.drop k) 0
  rw [hl, Nat.add_zero] at this
  rw [spoilL, this, nth, nth, List.getD_eq_getElem?_getD, List.getD_eq_getElem?_getD, List.getElem?_drop, Nat.add_zero]
theorem spoilL_set (k : Nat) (l : List Bool) (hk : k < l.length) : (spoilL k l).set k (!(nth l k)) = spoilL (k + 1) l := by
  have hl : ((l.take k).map (! ·)).length = k := by simp; omega
  have hd := List.drop_eq_getElem_cons hk
  rw [spoilL, List.set_append_right _ _ (by omega), hl, Nat.sub_self, spoilL, take_step l k hk]
  simp
  rw [hd]
  rfl
theorem spoilL_zero (l : List Bool) : spoilL 0 l = l := by simp [spoilL]

set_option maxHeartbeats 400000 in
theorem spoil_bool (g n c : Nat) (l r : List Bool) (w : World) (hg : w.heap[g]? = some (.cells (blk () (l ++ r)) 4 (0, 0))) (hl : l.length = c) (hn : n ≤ c) (hc : c ≤ 140737488355328) :
    Calls Tryz.prog 61 #[.slice (some ⟨g, 0, none⟩) n c] w fun e w' => e = .returned (.tuple #[]) ∧ w'.heap[g]? = some (.cells (blk () (spoilL c l ++ r)) 4 (0, 0)) ∧ w.grownBy w' (some g) ∧ w'.heap.size = w.heap.size := by
  have hl' := Lib.hid hl
  clear hl
  go_enter Tryz.func61, Tryz.ntmps61
  go_wp2
  go_loopw [3] (fun i wr => ∃ k : Nat, k ≤ c ∧ i = .int .i64 k ∧ Hid (wr.heap[g]? = some (.cells (blk () (spoilL k l ++ r)) 4 (0, 0))) ∧ w.grownBy wr (some g) ∧ Hid (wr.heap.size = w.heap.size)) (fun i _ => c - (intOf i).toNat)
  case atStart => exact ⟨0, by omega, rfl, Lib.hid (by rw [spoilL_zero]; exact hg), World.grownBy.refl _ _, Lib.hid rfl⟩
  case round =>
    obtain ⟨k, hk, rfl, hb, hgr, hsz⟩ := hrel
    by_cases hlt : k < c
    · have hc1 : wr.cell? ⟨g, k, none⟩ = some (.bool (nth l k)) := by
        rw [cell_of_row wr g k _ _ _ hb.out, blk_get _ _ _ (by rw [List.length_append, spoilL_length, hl'.out]; omega), nth_left _ _ _ (by rw [spoilL_length, hl'.out]; exact hlt), spoilL_at k l (by have := hl'.out; omega)]
      have hfz := block_frozen wr g k _ _ hb.out
      have hnew := Lib.hid (block_setCell wr g k () 4 _ (!(nth l k)) hb.out)
      rw [List.set_append_left _ _ (by rw [spoilL_length, hl'.out]; exact hlt), spoilL_set k l (by have := hl'.out; omega)] at hnew
      have hgr2 := grown_setCell hgr k (.bool (!(nth l k)))
      have hsz2 : Hid ((wr.setCell ⟨g, k, none⟩ (.bool (!(nth l k)))).heap.size = w.heap.size) := by
        show _ = _
        rw [← hsz.out]; simp [World.setCell]
      go_wp2
      go_roundw
      case rel => exact ⟨k + 1, by omega, by go_num, hnew, hgr2, hsz2⟩
      case measure => simp [intOf]; omega
    · obtain rfl : k = c := by omega
      go_wp2
      go_end0
      exact ⟨rfl, hb.out, hgr, hsz.out⟩
theorem spoil_nil (w : World) :
    Calls Tryz.prog 61 #[.slice none 0 0] w fun e w' => e = .returned (.tuple #[]) ∧ w = w' := by
  go_enter Tryz.func61, Tryz.ntmps61
  go_wp2
  go_loop [3] (fun i => i = .int .i64 0) (fun _ => 0)
  case atStart => rfl
  case round =>
    subst hrel
    go_wp2
    go_end0
    exact ⟨rfl, rfl⟩

end Go.Proofs.YtobhllcnljggiaaGreat.L
namespace Go.Proofs.YtobhllcnljggiaaGreat.W
open Go.RowKit
set_option linter.unusedVariables false
/-- A list with each byte written over, up to a place. -/
def spoil16 (k : Nat) (l : List Int) : List Int := (l.take k).map (bits .xor .u16 · 23205) ++ l.drop k
theorem spoil16_length (k : Nat) (l : List Int) : (spoil16 k l).length = l.length := by simp [spoil16]; omega
theorem xor90_wf (x : Int) (h : (Lit.int .u16 x).wf = true) : (Lit.int .u16 (bits .xor .u16 x 23205)).wf = true := by
  have hx := wf_u16 h
  obtain ⟨n, rfl⟩ := Int.eq_ofNat_of_zero_le hx.1
  have hn : n < 65536 := by omega
  have := u16_xor_nat n 23205 hn (by omega)
  show (Lit.int .u16 (bits .xor .u16 (n : Int) ((23205 : Nat) : Int))).wf = true
  rw [this]
  have hlt : n ^^^ 23205 < 65536 := Nat.xor_lt_two_pow (n := 16) hn (by omega)
  simp [Lit.wf, IntKind.min, IntKind.max, IntKind.signed, IntKind.bits]; omega
theorem spoil16_wf (k : Nat) (l : List Int) (h : ∀ x ∈ l, (Lit.int .u16 x).wf = true) : ∀ x ∈ spoil16 k l, (Lit.int .u16 x).wf = true := by
  intro x hx
  rcases List.mem_append.1 hx with hx | hx
  · obtain ⟨y, hy, rfl⟩ := List.mem_map.1 hx
    exact xor90_wf y (h y (List.mem_of_mem_take hy))
  · exact h x (List.mem_of_mem_drop hx)
theorem spoil16_at (k : Nat) (l : List Int) (hk : k < l.length) : nth (spoil16 k l) k = nth l k := by
  have hl : ((l.take k).map (bits .xor .u16 · 23205)).length = k := by simp; omega
  have := nth_right ((l.take k).map (bits .xor .u16 · 23205)) (l.drop k) 0
  rw [hl, Nat.add_zero] at this
  rw [spoil16, this, nth, nth, List.getD_eq_getElem?_getD, List.getD_eq_getElem?_getD, List.getElem?_drop, Nat.add_zero]
theorem spoil16_set (k : Nat) (l : List Int) (hk : k < l.length) : (spoil16 k l).set k (bits .xor .u16 (nth l k) 23205) = spoil16 (k + 1) l := by
  have hl : ((l.take k).map (bits .xor .u16 · 23205)).length = k := by simp; omega
  have hd := List.drop_eq_getElem_cons hk
  rw [spoil16, List.set_append_right _ _ (by omega), hl, Nat.sub_self, spoil16, take_step l k hk]
  simp
  rw [hd]
  rfl
theorem spoil16_zero (l : List Int) : spoil16 0 l = l := by simp [spoil16]

set_option maxHeartbeats 400000 in
theorem spoil_u16 (g n c : Nat) (l r : List Int) (w : World) (hg : w.heap[g]? = some (.cells (blk .u16 (l ++ r)) 32 (0, 0))) (hl : l.length = c) (hn : n ≤ c) (hc : c ≤ 70368744177664) :
    Calls Tryz.prog 62 #[.slice (some ⟨g, 0, none⟩) n c] w fun e w' => e = .returned (.tuple #[]) ∧ w'.heap[g]? = some (.cells (blk .u16 (spoil16 c l ++ r)) 32 (0, 0)) ∧ w.grownBy w' (some g) ∧ w'.heap.size = w.heap.size := by
  have hl' := Lib.hid hl
  clear hl
  go_enter Tryz.func62, Tryz.ntmps62
  go_wp2
  go_loopw [3] (fun i wr => ∃ k : Nat, k ≤ c ∧ i = .int .i64 k ∧ Hid (wr.heap[g]? = some (.cells (blk .u16 (spoil16 k l ++ r)) 32 (0, 0))) ∧ w.grownBy wr (some g) ∧ Hid (wr.heap.size = w.heap.size)) (fun i _ => c - (intOf i).toNat)
  case atStart => exact ⟨0, by omega, rfl, Lib.hid (by rw [spoil16_zero]; exact hg), World.grownBy.refl _ _, Lib.hid rfl⟩
  case round =>
    obtain ⟨k, hk, rfl, hb, hgr, hsz⟩ := hrel
    by_cases hlt : k < c
    · have hc1 : wr.cell? ⟨g, k, none⟩ = some (.int .u16 (nth l k)) := by
        rw [cell_of_row wr g k _ _ _ hb.out, blk_get _ _ _ (by rw [List.length_append, spoil16_length, hl'.out]; omega), nth_left _ _ _ (by rw [spoil16_length, hl'.out]; exact hlt), spoil16_at k l (by have := hl'.out; omega)]
      have hfz := block_frozen wr g k _ _ hb.out
      have hnew := Lib.hid (block_setCell wr g k .u16 32 _ (bits .xor .u16 (nth l k) 23205) hb.out)
      rw [List.set_append_left _ _ (by rw [spoil16_length, hl'.out]; exact hlt), spoil16_set k l (by have := hl'.out; omega)] at hnew
      have hgr2 := grown_setCell hgr k (.int .u16 (bits .xor .u16 (nth l k) 23205))
      have hsz2 : Hid ((wr.setCell ⟨g, k, none⟩ (.int .u16 (bits .xor .u16 (nth l k) 23205))).heap.size = w.heap.size) := by
        show _ = _
        rw [← hsz.out]; simp [World.setCell]
      go_wp2
      go_roundw
      case rel => exact ⟨k + 1, by omega, by go_num, hnew, hgr2, hsz2⟩
      case measure => simp [intOf]; omega
    · obtain rfl : k = c := by omega
      go_wp2
      go_end0
      exact ⟨rfl, hb.out, hgr, hsz.out⟩
theorem spoil_nil (w : World) :
    Calls Tryz.prog 62 #[.slice none 0 0] w fun e w' => e = .returned (.tuple #[]) ∧ w = w' := by
  go_enter Tryz.func62, Tryz.ntmps62
  go_wp2
  go_loop [3] (fun i => i = .int .i64 0) (fun _ => 0)
  case atStart => rfl
  case round =>
    subst hrel
    go_wp2
    go_end0
    exact ⟨rfl, rfl⟩

end Go.Proofs.YtobhllcnljggiaaGreat.W
namespace Go.Proofs.YtobhllcnljggiaaGreat
open Go.RowKit
set_option linter.unusedVariables false


theorem wf_byte (n : Nat) (h : n < 256) : (Lit.int .u8 (n : Int)).wf = true := by
  simp [Lit.wf, IntKind.min, IntKind.max, IntKind.signed, IntKind.bits]; omega

theorem wrap_u8_nat (n : Nat) : IntKind.u8.wrap (n : Int) = ((n % 256 : Nat) : Int) := by rw [IntKind.wrap_u8]; omega
theorem bel_alloc (w : World) (o : Obj) : Below w.heap.size w (w.alloc o) := (Below.refl _ _).alloc (Nat.le_refl _) o


theorem nth_drop (xs : List Int) (i j : Nat) : nth (xs.drop i) j = nth xs (i + j) := by simp [nth, List.getD_eq_getElem?_getD]
theorem Row.drop {k : IntKind} {w : World} {B b o : Nat} {xs : List Int} (h : Row k w B (some ⟨b, o, none⟩) xs) (i : Nat) : Row k w B (some ⟨b, o + i, none⟩) (xs.drop i) := by
  refine ⟨fun x hx => h.1 x (List.mem_of_mem_drop hx), fun hn => ?_⟩
  have hl : i < xs.length := by rw [List.length_drop] at hn; omega
  obtain ⟨b', o', e, hb, hc⟩ := h.2 (by omega)
  injection e with e
  injection e with e1 e2
  subst e1 e2
  refine ⟨b, o + i, rfl, hb, fun j hj => ?_⟩
  rw [List.length_drop] at hj
  rw [Nat.add_assoc, hc (i + j) (by omega), nth_drop]


/-- A row of the call's own that is not empty: its block, its cells, and what a store makes of it. -/
theorem Own.cells {k : IntKind} {e : TypeId} {w : World} {base : Nat} {v : Value} {xs : List Int} (h : Own k e w base v xs) (hp : 0 < xs.length) :
    ∃ g cap, v = .slice (some ⟨g, 0, none⟩) xs.length cap ∧ base ≤ g ∧ g < w.heap.size ∧ xs.length ≤ cap ∧ (∀ i, i < xs.length → w.cell? ⟨g, i, none⟩ = some (.int k (nth xs i))) ∧ (∀ i, w.frozen? ⟨g, i, none⟩ = false)
      ∧ ∀ (w' : World) i x, w'.heap = w.heap → i < xs.length → Own k e (w'.setCell ⟨g, i, none⟩ (.int k x)) base v (xs.set i x) := by
  rcases h.2 with ⟨rfl, h0⟩ | ⟨g, cap, cur, rfl, hb, hg, h1, h2, h3, h4⟩
  · omega
  · refine ⟨g, cap, rfl, hb, block_lt hg, h1, fun i hi => ?_, fun i => block_frozen w g i _ _ hg, fun w' i x hw hi => ?_⟩
    · rw [cell_of_row w g i cur e (0, 0) hg]
      have : (cur.toList.take (xs.length * 1))[i]? = (xs.map (Value.int k))[i]? := by rw [h4]
      rw [List.getElem?_take_of_lt (by omega)] at this
      rw [← Array.getElem?_toList, this, List.getElem?_map, List.getElem?_eq_getElem hi, nth_eq xs i hi]
      rfl
    · unfold Own
      rw [List.length_set]
      refine ⟨by simp, .inr ⟨g, cap, cur.setIfInBounds i (.int k x), rfl, hb, ?_, h1, h2, by simpa using h3, ?_⟩⟩
      · simp [World.setCell, Array.getElem?_modify, hw, hg]
      · rw [Array.toList_setIfInBounds, List.take_set, h4, List.map_set]
theorem Own.laid {k : IntKind} {t : TypeId} {w : World} {base g : Nat} {l : List Int} {n : Nat} (hg : w.heap[g]? = some (.cells (blk k l) t (0, 0))) (hb : base ≤ g) (hl : l.length = n) (hm : n ≤ maxLen) : Own k t w base (.slice (some ⟨g, 0, none⟩) n n) l := by
  subst hl
  exact ⟨by simp, .inr ⟨g, _, _, rfl, hb, hg, Nat.le_refl _, hm, by simp [blk_size], by rw [Nat.mul_one, List.take_of_length_le (by simp [blk])]; simp [blk]⟩⟩
/-- A beginning of a row. -/
theorem Row.front {k : IntKind} {w : World} {B : Nat} {A : Option Addr} {xs : List Int} (h : Row k w B A xs) (m : Nat) : Row k w B A (xs.take m) := by
  refine ⟨fun x hx => h.1 x (List.mem_of_mem_take hx), fun hn => ?_⟩
  rw [List.length_take] at hn
  obtain ⟨b, o, e, hb, hc⟩ := h.2 (by omega)
  refine ⟨b, o, e, hb, fun i hi => ?_⟩
  rw [List.length_take] at hi
  rw [hc i (by omega), nth_eq _ _ (by omega), nth_eq _ _ (by rw [List.length_take]; omega), List.getElem_take]
end Go.Proofs.YtobhllcnljggiaaGreat
