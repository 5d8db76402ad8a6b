/-
  Texts of the proof of PlanReads, joined.
-/
import Derived.WalkKit
import Derived.WalkSpells
import Derived.WalkLawsBesides
import Derived.Outline
import Derived.Lib.Hide
import Derived.Deep.QuietTactic
import Derived.BigQuiet
import Derived.Deep.Draws
import Derived.ProofKit
import Derived.OpenShut
import Derived.ShutString
import Derived.ChangeOld
import Derived.SizedLaws
import Derived.Deep.Slices
import Derived.Deep.Fields
import Derived.ChangeSame
import Derived.Deep.AppendLies
import Derived.Test.YtcmbdhmhkfhjfaaRows
import Derived.IntWalk
import Derived.Deep.MidRow
import Derived.Deep.RegionHeld3
namespace Go.Proofs.Ytcmbdhmhkfhjfaa
open Go.RowKit

/-- The i-th number of a list, behind a name that the walk's simp does not open. -/
def nth (l : List Int) (i : Nat) : Int := l.getD i 0
theorem nth_eq (l : List Int) (i : Nat) (h : i < l.length) : nth l i = l[i] := by simp [nth, List.getD_eq_getElem?_getD, List.getElem?_eq_getElem h]
theorem nth_mem (l : List Int) (i : Nat) (h : i < l.length) : nth l i ∈ l := by rw [nth_eq l i h]; exact List.getElem_mem h
theorem nth_left (l m : List Int) (i : Nat) (h : i < l.length) : nth (l ++ m) i = nth l i := by
  rw [nth_eq _ _ h, nth_eq _ _ (by simp; omega)]; exact List.getElem_append_left h
theorem nth_right (l m : List Int) (i : Nat) : nth (l ++ m) (l.length + i) = nth m i := by
  simp [nth, List.getD_eq_getElem?_getD, List.getElem?_append_right]
theorem nth_replicate (n i : Nat) (v : Int) (h : i < n) : nth (List.replicate n v) i = v := by rw [nth_eq _ _ (by simpa using h)]; simp
theorem ext_nth (a b : List Int) (hl : a.length = b.length) (h : ∀ i, i < a.length → nth a i = nth b i) : a = b := by
  refine List.ext_getElem hl fun i h1 h2 => ?_
  rw [← nth_eq a i h1, ← nth_eq b i h2]; exact h i h1

/-- The cells of a row of integers. -/
def blk (k : IntKind) (l : List Int) : Array Value := (l.map (Value.int k)).toArray

theorem blk_size (k : IntKind) (l : List Int) : (blk k l).size = l.length := by simp [blk]
theorem blk_get (k : IntKind) (l : List Int) (i : Nat) (h : i < l.length) : (blk k l)[i]? = some (.int k (nth l i)) := by
  simp [blk, List.getElem?_eq_getElem h, nth_eq l i h]
theorem blk_set (k : IntKind) (l : List Int) (i : Nat) (v : Int) : (blk k l).setIfInBounds i (.int k v) = blk k (l.set i v) := by
  simp [blk, List.map_set]

/-- A slice that reads as the list xs of integers of kind k, in blocks below B. -/
def Row (k : IntKind) (w : World) (B : Nat) (A : Option Addr) (xs : List Int) : Prop :=
  (∀ x ∈ xs, (Lit.int k x).wf = true) ∧ (0 < xs.length → ∃ b o, A = some ⟨b, o, none⟩ ∧ b < B ∧ ∀ i, i < xs.length → w.cell? ⟨b, o + i, none⟩ = some (.int k (nth xs i)))

theorem Row.keep {k : IntKind} {w w' : World} {B : Nat} {A : Option Addr} {xs : List Int} (h : Row k w B A xs) (hk : ∀ b o, b < B → w'.cell? ⟨b, o, none⟩ = w.cell? ⟨b, o, none⟩) : Row k w' B A xs := by
  refine ⟨h.1, fun hn => ?_⟩
  obtain ⟨b, o, e, hb, hc⟩ := h.2 hn
  exact ⟨b, o, e, hb, fun i hi => (hk _ _ hb).trans (hc i hi)⟩
theorem Row.more {k : IntKind} {w : World} {B B' : Nat} {A : Option Addr} {xs : List Int} (h : Row k w B A xs) (hB : B ≤ B') : Row k w B' A xs := by
  refine ⟨h.1, fun hn => ?_⟩
  obtain ⟨b, o, e, hb, hc⟩ := h.2 hn
  exact ⟨b, o, e, by omega, hc⟩
theorem Row.below {k : IntKind} {w w' : World} {B : Nat} {A : Option Addr} {xs : List Int} (h : Row k w B A xs) (hb : Below B w w') : Row k w' B A xs :=
  h.keep fun b o hlt => hb.cell (p := ⟨b, o, none⟩) hlt
theorem Row.alloc {k : IntKind} {w : World} {B : Nat} {A : Option Addr} {xs : List Int} (h : Row k w B A xs) (hB : B ≤ w.heap.size) (o : Obj) : Row k (w.alloc o) B A xs :=
  h.below ((Below.refl _ _).alloc hB o)
theorem Row.drewN {k : IntKind} {w : World} {B : Nat} {A : Option Addr} {xs : List Int} (h : Row k w B A xs) (n : Nat) : Row k (w.drewN n) B A xs := h
theorem Row.nil (k : IntKind) (w : World) (B : Nat) (A : Option Addr) : Row k w B A [] := ⟨by simp, by simp⟩
/-- A row that lies at the head of a new block. -/
theorem Row.new (k : IntKind) (w : World) (t : TypeId) (l xs : List Int) (hw : ∀ x ∈ xs, (Lit.int k x).wf = true) (hp : xs <+: l) :
    Row k (w.alloc (.cells (blk k l) t)) (w.heap.size + 1) (some ⟨w.heap.size, 0, none⟩) xs := by
  obtain ⟨ys, rfl⟩ := hp
  refine ⟨hw, fun _ => ⟨_, _, rfl, Nat.lt_succ_self _, fun i hi => ?_⟩⟩
  rw [World.cell?_alloc_at _ _ _ _ rfl, Nat.zero_add, blk_get _ _ _ (by simp; omega), nth_left _ _ _ hi]
/-- A row at the head of a block that is known whole, whatever of it is frozen. -/
theorem Row.of_block {k : IntKind} {w : World} {g : Nat} {t : TypeId} {fr : Nat × Nat} {l : List Int} (hg : w.heap[g]? = some (.cells (blk k l) t fr)) (xs : List Int) (hw : ∀ x ∈ xs, (Lit.int k x).wf = true) (hp : xs <+: l) :
    Row k w (g + 1) (some ⟨g, 0, none⟩) xs := by
  obtain ⟨ys, rfl⟩ := hp
  refine ⟨hw, fun _ => ⟨_, _, rfl, Nat.lt_succ_self _, fun i hi => ?_⟩⟩
  rw [Nat.zero_add, cell_of_row w g i _ _ _ hg, blk_get _ _ _ (by simp; omega), nth_left _ _ _ hi]
/-- One cell of a row, for the walk. -/
theorem Row.at_ {k : IntKind} {w : World} {B : Nat} {A : Option Addr} {xs : List Int} (h : Row k w B A xs) {i : Nat} (hi : i < xs.length) :
    ∃ b o, A = some ⟨b, o, none⟩ ∧ b < B ∧ w.cell? ⟨b, o + i, none⟩ = some (.int k (nth xs i)) := by
  obtain ⟨b, o, e, hb, hc⟩ := h.2 (by omega)
  exact ⟨b, o, e, hb, hc i hi⟩
theorem Row.wf_at {k : IntKind} {w : World} {B : Nat} {A : Option Addr} {xs : List Int} (h : Row k w B A xs) {i : Nat} (hi : i < xs.length) : (Lit.int k (nth xs i)).wf = true := h.1 _ (nth_mem _ _ hi)

theorem wf_u8 {n : Int} (h : (Lit.int .u8 n).wf = true) : 0 ≤ n ∧ n < 256 := by
  simp [Lit.wf, IntKind.min, IntKind.max, IntKind.signed, IntKind.bits] at h; omega
theorem wf_u16 {n : Int} (h : (Lit.int .u16 n).wf = true) : 0 ≤ n ∧ n < 65536 := by
  simp [Lit.wf, IntKind.min, IntKind.max, IntKind.signed, IntKind.bits] at h; omega
theorem wf_u64 {n : Int} (h : (Lit.int .u64 n).wf = true) : 0 ≤ n ∧ n < 18446744073709551616 := by
  simp [Lit.wf, IntKind.min, IntKind.max, IntKind.signed, IntKind.bits] at h; omega
theorem wf_i64 {n : Int} (h : (Lit.int .i64 n).wf = true) : -9223372036854775808 ≤ n ∧ n < 9223372036854775808 := by
  simp [Lit.wf, IntKind.min, IntKind.max, IntKind.signed, IntKind.bits] at h; omega

theorem wf_append {k : IntKind} {xs ys : List Int} (h : ∀ x ∈ xs, (Lit.int k x).wf = true) (h' : ∀ x ∈ ys, (Lit.int k x).wf = true) : ∀ x ∈ xs ++ ys, (Lit.int k x).wf = true := fun x hx => (List.mem_append.1 hx).elim (h x) (h' x)
theorem take_step (xs : List Int) (k : Nat) (h : k < xs.length) : xs.take (k + 1) = xs.take k ++ [nth xs k] := by
  rw [List.take_succ_eq_append_getElem h, nth_eq xs k h]
/-- The k-th place of what is filled up to k is written. -/
theorem set_step (l : List Int) (m k : Nat) (v x : Int) (h : l.length = k) : (l ++ List.replicate (m + 1) v).set k x = l ++ [x] ++ List.replicate m v := by
  rw [List.set_append_right _ _ (by omega)]
  simp [h, List.replicate_succ]
theorem fill_cell (k : IntKind) (l : List Int) (m i : Nat) (v : Int) (h : l.length = i) (hm : 0 < m) : (blk k (l ++ List.replicate m v))[i]? = some (.int k v) := by
  rw [blk_get _ _ _ (by simp; omega)]
  subst h
  have := nth_right l (List.replicate m v) 0
  rw [Nat.add_zero] at this
  rw [this, nth_replicate _ _ _ hm]
end Go.Proofs.Ytcmbdhmhkfhjfaa
namespace Go.Proofs.Ytcmbdhmhkfhjfaa
open Go.ChangeShapes Go.WideShapes Go.ChangeAt Go.RowKit

theorem row_in {H : Type} {enc : TypeId × Value → H} {P : Program} {W : World} {t e : TypeId} {k : IntKind} {a : Option Addr} {len cap : Nat} {d : DataW H} {p : List MemPlace}
    (ht : P.underlying t = some (.slice e)) (he : P.underlying e = some (.int k)) (hc : P.cellsOf e = 1)
    (h : DataW.Trod enc P W 0 (fun _ => true) true t (.slice a len cap) d p) (lt : ∀ x ∈ p, x.block < W.heap.size) :
    ∃ xs, Row k W W.heap.size a xs ∧ xs.length = len ∧ len ≤ cap ∧ (cap = 0 ∨ ∃ el sp, d = .slice el sp ∧ cap ≤ el.length + sp.length) := by
  obtain ⟨fuel, hf⟩ := h
  rcases open_ints ht he hc hf with ⟨hcs, _⟩ | ⟨x, l, c, zs, hcs, _, hl, hm, hz, hx, hcell, hwz⟩
  · simp [Value.cells] at hcs
    obtain ⟨rfl, rfl, rfl⟩ := hcs
    exact ⟨[], Row.nil _ _ _ _, rfl, Nat.le_refl _, .inl rfl⟩
  · simp [Value.cells] at hcs
    obtain ⟨rfl, rfl, rfl⟩ := hcs
    simp only [if_true] at hz
    simp only [Prod.mk.injEq] at hx
    obtain ⟨rfl, rfl⟩ := hx
    refine ⟨zs.take len, ⟨fun v hv => hwz v (List.mem_of_mem_take hv), fun hn => ?_⟩, by simp; omega, hl, .inr ⟨_, _, rfl, by simp [lits]; omega⟩⟩
    have hpos : 0 < zs.length := by simp at hn; omega
    have hb := lt (.cell x.block x.off) (MemPlace.mem_row.2 ⟨0, hpos, by simp⟩)
    obtain ⟨b, off, rfl, hc'⟩ := ints_at hcell hpos
    refine ⟨b, off, rfl, hb, fun i hi => ?_⟩
    have hi' : i < len ∧ i < zs.length := by simp at hi; omega
    rw [hc' i hi'.2, nth, List.getD_eq_getElem?_getD, List.getD_eq_getElem?_getD, List.getElem?_take_of_lt hi'.1]

theorem reach_in {H : Type} {P : Program} {ts : List TypeId} {ds : List (DataW H)} (hsz : (DataW.weightsEach P ts ds).all (· ≤ reachBytes) = true) (j : Nat) {t e : TypeId} {d : DataW H} {cap : Nat} (ht : ts[j]? = some t) (hd : ds[j]? = some d)
    (hu : P.underlying t = some (.slice e)) (hb : 0 < P.bytesOf e) (h : cap = 0 ∨ ∃ el sp, d = .slice el sp ∧ cap ≤ el.length + sp.length) : cap ≤ 140737488351232 := by
  rcases h with rfl | ⟨el, sp, rfl, hle⟩
  · omega
  · have := sized_slice hsz ht hd hu
    have h2 : el.length + sp.length ≤ (el.length + sp.length) * P.bytesOf e := Nat.le_mul_of_pos_right _ hb
    simp only [reachBytes] at this
    omega
end Go.Proofs.Ytcmbdhmhkfhjfaa
namespace Go.Proofs.Ytcmbdhmhkfhjfaa
open Go.ChangeShapes Go.WideShapes Go.ChangeAt Go.RowKit Go.Deep
set_option linter.unusedVariables false

section
variable {H : Type} {enc : TypeId × Value → H} {P : Program} {W : World}
theorem slice_form {t e : TypeId} {fuel : Nat} {v : Value} {x : DataW H × List MemPlace} (ht : P.underlying t = some (.slice e)) (h : DataW.trod enc P W 0 (fun _ => true) true fuel t [v] = some x) : ∃ a l c, v = .slice a l c := by
  rcases open_slice ht h with ⟨h0, _⟩ | ⟨a, len, cap, m, n, D, Pl, hcs, _⟩
  · injection h0 with h0; exact ⟨_, _, _, h0⟩
  · injection hcs with hcs; exact ⟨_, _, _, hcs⟩
/-- A struct's fields take no more than the reach. -/
theorem reach_fields {ts : List TypeId} {ds : List (DataW H)} (hsz : (DataW.weightsEach P ts ds).all (· ≤ reachBytes) = true) (j : Nat) {t : TypeId} {fs : Array Field} {parts : List (DataW H)} (ht : ts[j]? = some t) (hd : ds[j]? = some (.agg parts))
    (hu : P.underlying t = some (.struct fs)) : (DataW.weightsEach P (fs.toList.map (·.type)) parts).all (· ≤ reachBytes) = true := by
  refine List.all_eq_true.2 fun x hx => ?_
  exact List.all_eq_true.1 hsz _ (DataW.weights_mem_each ht hd x (by simp only [DataW.weights, hu]; exact hx))
end
end Go.Proofs.Ytcmbdhmhkfhjfaa
namespace Go.Proofs.Ytcmbdhmhkfhjfaa
open Go.RowKit

/-- The slice v owns a row, in a block from base on, that holds the integers xs. -/
def Own (k : IntKind) (e : TypeId) (w : World) (base : Nat) (v : Value) (xs : List Int) : Prop := w.ownsRow base e 1 v xs.length (xs.map (Value.int k))

theorem Own.nil (k : IntKind) (e : TypeId) (w : World) (base : Nat) : Own k e w base (.slice none 0 0) [] := ⟨by simp, .inl ⟨rfl, rfl⟩⟩
theorem Own.alloc {k : IntKind} {e : TypeId} {w : World} {base : Nat} {v : Value} {xs : List Int} (h : Own k e w base v xs) (o : Obj) : Own k e (w.alloc o) base v xs := World.ownsRow.alloc h o
theorem Own.drewN {k : IntKind} {e : TypeId} {w : World} {base : Nat} {v : Value} {xs : List Int} (h : Own k e w base v xs) (n : Nat) : Own k e (w.drewN n) base v xs := h
theorem Own.block {k : IntKind} {e : TypeId} {w : World} {base : Nat} {v : Value} {xs : List Int} (h : Own k e w base v xs) : ∀ g, v.ownBlock = some g → base ≤ g ∧ g < w.heap.size := World.ownsRow.lt h
theorem Own.kept {k : IntKind} {e : TypeId} {w w' : World} {base : Nat} {v : Value} {xs : List Int} {row : Option Nat} (h : Own k e w base v xs) (hg : w.grownBy w' row) (hne : v.ownBlock = none ∨ v.ownBlock ≠ row) : Own k e w' base v xs := World.ownsRow.kept h hg hne
theorem Own.below {k : IntKind} {e : TypeId} {w w' : World} {base B : Nat} {v : Value} {xs : List Int} (h : Own k e w base v xs) (hb : Below B w w') (hB : w.heap.size ≤ B) : Own k e w' base v xs := by
  refine h.kept (row := none) ⟨hb.os, hb.tape, hb.output, hb.size, fun i hi _ => hb.block i (by omega)⟩ ?_
  cases hv : v.ownBlock with
  | none => exact .inl rfl
  | some g => exact .inr (by simp)
theorem Own.mono {k : IntKind} {e : TypeId} {w : World} {base base' : Nat} {v : Value} {xs : List Int} (h : Own k e w base v xs) (hb : base' ≤ base) : Own k e w base' v xs := by
  refine ⟨h.1, ?_⟩
  rcases h.2 with h0 | ⟨g, cap, cur, hv, h1, r⟩
  · exact .inl h0
  · exact .inr ⟨g, cap, cur, hv, by omega, r⟩
/-- What is owned is a slice that reads as its list. -/
theorem Own.row {k : IntKind} {e : TypeId} {w : World} {base : Nat} {v : Value} {xs : List Int} (h : Own k e w base v xs) (hw : ∀ x ∈ xs, (Lit.int k x).wf = true) :
    ∃ A c, v = .slice A xs.length c ∧ Row k w w.heap.size A xs ∧ xs.length ≤ c ∧ c ≤ maxLen := by
  rcases h.2 with ⟨rfl, h0⟩ | ⟨g, cap, cur, rfl, hb, hg, h1, h2, h3, h4⟩
  · have : xs = [] := List.eq_nil_of_length_eq_zero h0
    subst this
    exact ⟨none, 0, rfl, Row.nil _ _ _ _, by simp, by simp⟩
  · refine ⟨_, _, rfl, ⟨hw, fun _ => ⟨g, 0, rfl, ?_, fun i hi => ?_⟩⟩, h1, h2⟩
    · exact (Own.block (k := k) (e := e) (w := w) (base := base) (xs := xs) ⟨by simp, .inr ⟨g, cap, cur, rfl, hb, hg, h1, h2, h3, h4⟩⟩ g rfl).2
    · rw [Nat.zero_add, cell_of_row w g i cur e (0, 0) hg]
      have : (cur.toList.take (xs.length * 1))[i]? = (xs.map (Value.int k))[i]? := by rw [h4]
      rw [List.getElem?_take_of_lt (by omega)] at this
      rw [← Array.getElem?_toList, this, List.getElem?_map, List.getElem?_eq_getElem hi, nth_eq xs i hi]
      rfl

section
variable {P : Program}
theorem run_append_none (w : World) (t ty e : TypeId) (i : TypeInfo) (ht : P.underlying t = some (.slice e)) (hi : P.info? e = some i)
    (base : Nat) (v : Value) (n : Nat) (xs : List Value) (hown : w.ownsRow base e 1 v n xs) (c : Nat) : (Builtin.append_ #[t, t] ty #[v, .slice none 0 c]).run P w = .ok v w := by
  rcases hown.2 with ⟨rfl, rfl⟩ | ⟨g, cap, cur, rfl, _, _, hnc, _⟩
  · simp [Builtin.append_, run_underlying ht, sizeOf, typeInfo, hi, Builtin.lenOf, Builtin.firstCells]
  · simp [Builtin.append_, run_underlying ht, sizeOf, typeInfo, hi, Builtin.lenOf, Builtin.firstCells, hnc, storeCells]

/-- 'append(v, src...)': v owned, src whatever row of integers. -/
theorem wpList_append_row {ops : Array Oper} {rest : List Oper} {o : Oper} {a : Act} {Q : Exit → Act → World → Prop} (w : World) (hgd : o.guard = none) (s x : Operand) (t : TypeId)
    (ho : o.op = .call { callee := .builtin .append, args := #[s, x], argTypes := #[t, t] })
    (base : Nat) (k : IntKind) (e : TypeId) (bytes : Nat) (ht : P.underlying t = some (.slice e)) (hi : (P.info? e).map (fun i => (i.zero, i.size, i.bytes)) = some (some (.int k 0), 1, bytes))
    (v : Value) (xs : List Int) (hs : a.eval s = v) (hown : Own k e w base v xs)
    (B : Nat) (A : Option Addr) (m c : Nat) (ys : List Int) (hx : a.eval x = .slice A m c) (hr : Row k w B A ys) (hm : ys.length = m)
    (hbytes : (xs.length + m) * bytes ≤ 140737488355328) (h63 : xs.length + m ≤ maxLen) (hbase : base ≤ w.heap.size)
    (h : ∀ v' w', Own k e w' base v' (xs ++ ys) → w.grownBy w' v.ownBlock → wpList P ops Q rest (a.put o.dst v') w') : wpList P ops Q (o :: rest) a w := by
  obtain ⟨i, hi1, hz, hsz, hby⟩ := info_parts hi
  rcases Nat.eq_zero_or_pos m with h0 | h0
  · subst h0
    have hy : ys = [] := List.eq_nil_of_length_eq_zero hm
    subst hy
    cases A with
    | none =>
      refine wpList_plain hgd fun K hK => ?_
      have hrun := run_append_none (P := P) w t o.type e i ht hi1 base v _ _ hown c
      unfold Oper.wp
      simp [execOp, ho, resolve, invoke, builtin, hs, hx, hrun, Result.andThen]
      exact hK _ _ (h v w (by simpa using hown) (World.grownBy.refl _ _))
    | some ad =>
      refine wpList_append_own w hgd s x t ho base e i (.int k 0) 1 bytes ht hi1 hz hsz hby rfl (by omega) v _ _ hs hown ad 0 c [] hx (by simp) (by simp) (by simp) h63 hbytes hbase fun v' w' h1 h2 _ => h v' w' (by simpa [Own] using h1) h2
  · obtain ⟨b, of, rfl, _, hc⟩ := hr.2 (by omega)
    refine wpList_append_own w hgd s x t ho base e i (.int k 0) 1 bytes ht hi1 hz hsz hby rfl (by omega) v _ _ hs hown ⟨b, of, none⟩ m c (ys.map (Value.int k)) hx (by simp [hm]) ?_ (ints_oneCell k ys) h63 hbytes hbase fun v' w' h1 h2 _ => h v' w' (by simpa [Own, hm] using h1) h2
    intro j u hu
    rw [List.getElem?_map] at hu
    by_cases hj : j < ys.length
    · rw [List.getElem?_eq_getElem hj] at hu
      rw [Go.WideShapes.add_plain, hc j hj, nth_eq ys j hj]
      exact hu
    · rw [List.getElem?_eq_none (by omega)] at hu
      cases hu

/-- 'append(v, src...)' within the capacity: v owned, src whatever row of integers; the block stays. -/
theorem wpList_append_row_fits {ops : Array Oper} {rest : List Oper} {o : Oper} {a : Act} {Q : Exit → Act → World → Prop} (w : World) (hgd : o.guard = none) (s x : Operand) (t : TypeId)
    (ho : o.op = .call { callee := .builtin .append, args := #[s, x], argTypes := #[t, t] })
    (base : Nat) (k : IntKind) (e : TypeId) (bytes : Nat) (ht : P.underlying t = some (.slice e)) (hi : (P.info? e).map (fun i => (i.zero, i.size, i.bytes)) = some (some (.int k 0), 1, bytes))
    (g n cap : Nat) (xs : List Int) (hs : a.eval s = .slice (some ⟨g, 0, none⟩) n cap) (hn : xs.length = n) (hown : Own k e w base (.slice (some ⟨g, 0, none⟩) n cap) xs)
    (B : Nat) (A : Option Addr) (m c : Nat) (ys : List Int) (hx : a.eval x = .slice A m c) (hr : Row k w B A ys) (hm : ys.length = m) (hfit : n + m ≤ cap)
    (h : ∀ w', Own k e w' base (.slice (some ⟨g, 0, none⟩) (n + m) cap) (xs ++ ys) → w.grownBy w' (some g) → wpList P ops Q rest (a.put o.dst (.slice (some ⟨g, 0, none⟩) (n + m) cap)) w') : wpList P ops Q (o :: rest) a w := by
  obtain ⟨i, hi1, hz, hsz, hby⟩ := info_parts hi
  subst hn
  rcases Nat.eq_zero_or_pos m with h0 | h0
  · subst h0
    have hy : ys = [] := List.eq_nil_of_length_eq_zero hm
    subst hy
    cases A with
    | none =>
      refine wpList_plain hgd fun K hK => ?_
      have hrun := run_append_none (P := P) w t o.type e i ht hi1 base _ _ _ hown c
      unfold Oper.wp
      simp [execOp, ho, resolve, invoke, builtin, hs, hx, hrun, Result.andThen]
      exact hK _ _ (h w (by simpa using hown) (World.grownBy.refl _ _))
    | some ad =>
      refine wpList_append_fits w hgd s x t ho base e i 1 ht hi1 hsz g xs.length cap _ hs hown ad 0 c [] hx (by simp) (by simp) (by simp) hfit fun w' h1 h2 => h w' (by simpa [Own] using h1) h2
  · obtain ⟨b, of, rfl, _, hc⟩ := hr.2 (by omega)
    refine wpList_append_fits w hgd s x t ho base e i 1 ht hi1 hsz g xs.length cap _ hs hown ⟨b, of, none⟩ m c (ys.map (Value.int k)) hx (by simp [hm]) ?_ (ints_oneCell k ys) hfit fun w' h1 h2 => h w' (by simpa [Own, hm] using h1) h2
    intro j u hu
    rw [List.getElem?_map] at hu
    by_cases hj : j < ys.length
    · rw [List.getElem?_eq_getElem hj] at hu
      rw [Go.WideShapes.add_plain, hc j hj, nth_eq ys j hj]
      exact hu
    · rw [List.getElem?_eq_none (by omega)] at hu
      cases hu
end

/-- What 'make' of a length 0 lays is owned. -/
theorem Own.made (k : IntKind) (e : TypeId) (w : World) (l : List Int) (hm : l.length ≤ maxLen) : Own k e (w.alloc (.cells (blk k l) e)) w.heap.size (.slice (some ⟨w.heap.size, 0, none⟩) 0 l.length) [] :=
  ⟨rfl, .inr ⟨_, _, _, rfl, Nat.le_refl _, heap_alloc_new w _, by simp, hm, by simp [blk_size], by simp⟩⟩
/-- A row that fills its capacity is its block, whole. -/
theorem Own.full {k : IntKind} {e : TypeId} {w : World} {base g n : Nat} {xs : List Int} (h : Own k e w base (.slice (some ⟨g, 0, none⟩) n n) xs) : w.heap[g]? = some (.cells (blk k xs) e (0, 0)) := by
  rcases h.2 with ⟨h0, _⟩ | ⟨g', cap, cur, hv, hb, hg, h1, h2, h3, h4⟩
  · cases h0
  · injection hv with ha hn hc
    injection ha with ha
    injection ha with ha
    subst ha hn hc
    rw [hg]
    congr 2
    apply Array.toList_inj.1
    rw [List.take_of_length_le (by simp [h3])] at h4
    rw [h4]
    simp [blk]

theorem Below.own {k : IntKind} {e : TypeId} {w0 w w' : World} {base : Nat} {v : Value} {xs : List Int} (hb : Below base w0 w) (hB : base ≤ w.heap.size) (h : Own k e w base v xs) (hg : w.grownBy w' v.ownBlock) : Below base w0 w' :=
  hb.grown hg hB fun g e => (h.block g e).1
/-- One element's box, then the append that takes it. -/
theorem Below.own1 {k : IntKind} {e : TypeId} {w0 w w' : World} {base : Nat} {v : Value} {xs : List Int} {o : Obj} (hb : Below base w0 w) (hB : base ≤ w.heap.size) (h : Own k e w base v xs) (hg : (w.alloc o).grownBy w' v.ownBlock) : Below base w0 w' :=
  Below.own (hb.alloc hB o) (by simp; omega) (h.alloc o) hg
theorem Row.one (k : IntKind) (w : World) (t : TypeId) (x : Int) (h : (Lit.int k x).wf = true) : Row k (w.alloc (.cells #[.int k x] t)) (w.heap.size + 1) (some ⟨w.heap.size, 0, none⟩) [x] :=
  Row.new k w t [x] [x] (by simpa using h) (List.prefix_refl _)
end Go.Proofs.Ytcmbdhmhkfhjfaa
namespace Go.Proofs.Ytcmbdhmhkfhjfaa
open Go.RowKit
set_option linter.unusedVariables false

theorem block_setCell (w : World) (g i : Nat) (k : IntKind) (t : TypeId) (l : List Int) (v : Int) (h : w.heap[g]? = some (.cells (blk k l) t (0, 0))) :
    (w.setCell ⟨g, i, none⟩ (.int k v)).heap[g]? = some (.cells (blk k (l.set i v)) t (0, 0)) := by
  simp [World.setCell, Array.getElem?_modify, h, blk_set]
theorem block_frozen (w : World) (g i : Nat) (cs : Array Value) (t : TypeId) (h : w.heap[g]? = some (.cells cs t (0, 0))) : w.frozen? ⟨g, i, none⟩ = false := by simp [World.frozen?, h]
theorem grown_setCell {a w : World} {g : Nat} (h : a.grownBy w (some g)) (i : Nat) (u : Value) : a.grownBy (w.setCell ⟨g, i, none⟩ u) (some g) :=
  ⟨h.os, h.tape, h.output, by simpa [World.setCell] using h.size, fun k hk hne => (Below.heap_setCell w ⟨g, i, none⟩ u k (fun e => hne (by rw [e]))).trans (h.block k hk hne)⟩
theorem block_lt {w : World} {g : Nat} {o : Obj} (h : w.heap[g]? = some o) : g < w.heap.size := by
  rcases Nat.lt_or_ge g w.heap.size with hlt | hge
  · exact hlt
  · rw [Array.getElem?_eq_none hge] at h; cases h

end Go.Proofs.Ytcmbdhmhkfhjfaa
namespace Go.Proofs.Ytcmbdhmhkfhjfaa
open Go.RowKit
set_option linter.unusedVariables false


theorem wf_byte (n : Nat) (h : n < 256) : (Lit.int .u8 (n : Int)).wf = true := by
  simp [Lit.wf, IntKind.min, IntKind.max, IntKind.signed, IntKind.bits]; omega

theorem wrap_u8_nat (n : Nat) : IntKind.u8.wrap (n : Int) = ((n % 256 : Nat) : Int) := by rw [IntKind.wrap_u8]; omega
theorem bel_alloc (w : World) (o : Obj) : Below w.heap.size w (w.alloc o) := (Below.refl _ _).alloc (Nat.le_refl _) o


theorem nth_drop (xs : List Int) (i j : Nat) : nth (xs.drop i) j = nth xs (i + j) := by simp [nth, List.getD_eq_getElem?_getD]
theorem Row.drop {k : IntKind} {w : World} {B b o : Nat} {xs : List Int} (h : Row k w B (some ⟨b, o, none⟩) xs) (i : Nat) : Row k w B (some ⟨b, o + i, none⟩) (xs.drop i) := by
  refine ⟨fun x hx => h.1 x (List.mem_of_mem_drop hx), fun hn => ?_⟩
  have hl : i < xs.length := by rw [List.length_drop] at hn; omega
  obtain ⟨b', o', e, hb, hc⟩ := h.2 (by omega)
  injection e with e
  injection e with e1 e2
  subst e1 e2
  refine ⟨b, o + i, rfl, hb, fun j hj => ?_⟩
  rw [List.length_drop] at hj
  rw [Nat.add_assoc, hc (i + j) (by omega), nth_drop]


/-- A row of the call's own that is not empty: its block, its cells, and what a store makes of it. -/
theorem Own.cells {k : IntKind} {e : TypeId} {w : World} {base : Nat} {v : Value} {xs : List Int} (h : Own k e w base v xs) (hp : 0 < xs.length) :
    ∃ g cap, v = .slice (some ⟨g, 0, none⟩) xs.length cap ∧ base ≤ g ∧ g < w.heap.size ∧ xs.length ≤ cap ∧ (∀ i, i < xs.length → w.cell? ⟨g, i, none⟩ = some (.int k (nth xs i))) ∧ (∀ i, w.frozen? ⟨g, i, none⟩ = false)
      ∧ ∀ (w' : World) i x, w'.heap = w.heap → i < xs.length → Own k e (w'.setCell ⟨g, i, none⟩ (.int k x)) base v (xs.set i x) := by
  rcases h.2 with ⟨rfl, h0⟩ | ⟨g, cap, cur, rfl, hb, hg, h1, h2, h3, h4⟩
  · omega
  · refine ⟨g, cap, rfl, hb, block_lt hg, h1, fun i hi => ?_, fun i => block_frozen w g i _ _ hg, fun w' i x hw hi => ?_⟩
    · rw [cell_of_row w g i cur e (0, 0) hg]
      have : (cur.toList.take (xs.length * 1))[i]? = (xs.map (Value.int k))[i]? := by rw [h4]
      rw [List.getElem?_take_of_lt (by omega)] at this
      rw [← Array.getElem?_toList, this, List.getElem?_map, List.getElem?_eq_getElem hi, nth_eq xs i hi]
      rfl
    · unfold Own
      rw [List.length_set]
      refine ⟨by simp, .inr ⟨g, cap, cur.setIfInBounds i (.int k x), rfl, hb, ?_, h1, h2, by simpa using h3, ?_⟩⟩
      · simp [World.setCell, Array.getElem?_modify, hw, hg]
      · rw [Array.toList_setIfInBounds, List.take_set, h4, List.map_set]
theorem Own.laid {k : IntKind} {t : TypeId} {w : World} {base g : Nat} {l : List Int} {n : Nat} (hg : w.heap[g]? = some (.cells (blk k l) t (0, 0))) (hb : base ≤ g) (hl : l.length = n) (hm : n ≤ maxLen) : Own k t w base (.slice (some ⟨g, 0, none⟩) n n) l := by
  subst hl
  exact ⟨by simp, .inr ⟨g, _, _, rfl, hb, hg, Nat.le_refl _, hm, by simp [blk_size], by rw [Nat.mul_one, List.take_of_length_le (by simp [blk])]; simp [blk]⟩⟩
/-- A beginning of a row. -/
theorem Row.front {k : IntKind} {w : World} {B : Nat} {A : Option Addr} {xs : List Int} (h : Row k w B A xs) (m : Nat) : Row k w B A (xs.take m) := by
  refine ⟨fun x hx => h.1 x (List.mem_of_mem_take hx), fun hn => ?_⟩
  rw [List.length_take] at hn
  obtain ⟨b, o, e, hb, hc⟩ := h.2 (by omega)
  refine ⟨b, o, e, hb, fun i hi => ?_⟩
  rw [List.length_take] at hi
  rw [hc i (by omega), nth_eq _ _ (by omega), nth_eq _ _ (by rw [List.length_take]; omega), List.getElem_take]
end Go.Proofs.Ytcmbdhmhkfhjfaa
namespace Go.Proofs.Ytcmbdhmhkfhjfaa
open Go.RowKit

theorem info_u8 : (Try.prog.info? 5).map (fun i => (i.zero, i.size, i.bytes)) = some (some (.int .u8 0), 1, 1) := by kernel_rfl

theorem made_zero (z : Int) (n : Nat) : madeCells (Value.int .u8 z).cells (n * 1) = blk .u8 (List.replicate n z) := by
  apply Array.toList_inj.1
  rw [show (Value.int .u8 z).cells = #[Value.int .u8 z] from rfl, toList_madeCells_one, Nat.mul_one]
  simp [blk]

def marks5 : List Int := [165, 165, 165, 165, 165]

end Go.Proofs.Ytcmbdhmhkfhjfaa
namespace Go.Proofs.Ytcmbdhmhkfhjfaa
open Go.RowKit

/-- A call returns a new slice, its own, that holds xs; nothing that was there has turned. -/
def Makes (k : IntKind) (t : TypeId) (w : World) (xs : List Int) (e : Ending) (w' : World) : Prop := ∃ v, e = .returned v ∧ Own k t w' w.heap.size v xs ∧ Below w.heap.size w w'

/-- A call returns a slice that fills a new block, the first new one, with xs; nothing that was there has turned. -/
def Lays (k : IntKind) (t : TypeId) (w : World) (xs : List Int) (m : Nat) (e : Ending) (w' : World) : Prop :=
  e = .returned (.slice (some ⟨w.heap.size, 0, none⟩) m m) ∧ w'.heap[w.heap.size]? = some (.cells (blk k xs) t (0, 0)) ∧ Below w.heap.size w w'

end Go.Proofs.Ytcmbdhmhkfhjfaa
namespace Go.Proofs.Ytcmbdhmhkfhjfaa
open Go.RowKit
set_option linter.unusedVariables false

theorem below_drewN {B : Nat} {a w : World} (h : Below B a w) (n : Nat) : Below B a (w.drewN n) := ⟨h.os, h.tape, h.output, h.size, h.block⟩
/-- Block g is just the row l. (A name: so the walk does not rewrite by it.) -/
def Bk (w : World) (g : Nat) (l : List Int) : Prop := w.heap[g]? = some (.cells (blk .u8 l) 5 (0, 0))
theorem Bk.below {w w' : World} {g : Nat} {l : List Int} (h : Bk w g l) (hb : Below w.heap.size w w') : Bk w' g l := (hb.block g (block_lt h)).trans h
theorem Bk.lt {w : World} {g : Nat} {l : List Int} (h : Bk w g l) : g < w.heap.size := block_lt h
theorem Bk.drewN {w : World} {g : Nat} {l : List Int} (h : Bk w g l) (n : Nat) : Bk (w.drewN n) g l := h
theorem Bk.row {w : World} {g : Nat} {l : List Int} (h : Bk w g l) (xs : List Int) (hw : ∀ x ∈ xs, (Lit.int .u8 x).wf = true) (hp : xs <+: l) : Row .u8 w w.heap.size (some ⟨g, 0, none⟩) xs :=
  (Row.of_block h xs hw hp).more h.lt
/-- A slice that is nil, or the beginning of block g. -/
def Li (w : World) (A : Option Addr) (m g : Nat) (l r : List Int) : Prop := A = none ∧ m = 0 ∨ A = some ⟨g, 0, none⟩ ∧ Bk w g (l ++ r)
theorem Li.below {w w' : World} {A : Option Addr} {m g : Nat} {l r : List Int} (h : Li w A m g l r) (hb : Below w.heap.size w w') : Li w' A m g l r := by
  rcases h with h | ⟨h1, h2⟩
  · exact .inl h
  · exact .inr ⟨h1, h2.below hb⟩
theorem Li.row {w : World} {A : Option Addr} {m g : Nat} {l r : List Int} (h : Li w A m g l r) (hm : l.length = m) (hw : ∀ x ∈ l, (Lit.int .u8 x).wf = true) : Row .u8 w w.heap.size A l := by
  rcases h with ⟨h1, h2⟩ | ⟨h1, h2⟩
  · have : l = [] := List.eq_nil_of_length_eq_zero (by omega)
    subst this
    exact Row.nil _ _ _ _
  · subst h1
    exact h2.row l hw (List.prefix_append _ _)
theorem bel_drewN (w : World) (n : Nat) : Below w.heap.size w (w.drewN n) := ⟨rfl, rfl, rfl, Nat.le_refl _, fun _ _ => rfl⟩

/-- A call returns a pair: a list that is nil or fills the first new block, and a number. -/
def Gives (w : World) (l : List Int) (err : Int) (e : Ending) (w' : World) : Prop :=
  ∃ A m, e = .returned (.tuple #[.slice A m m, .int .i64 err]) ∧ l.length = m ∧ Li w' A m w.heap.size l [] ∧ Below w.heap.size w w'
/-- A call returns a pair: a list of its own, and a number. -/
def GivesOwn (w : World) (l : List Int) (err : Int) (e : Ending) (w' : World) : Prop :=
  ∃ v, e = .returned (.tuple #[v, .int .i64 err]) ∧ Own .u8 5 w' w.heap.size v l ∧ Below w.heap.size w w'
theorem Li.lt {w : World} {A : Option Addr} {m g : Nat} {l r : List Int} (h : Li w A m g l r) : A = none ∨ g < w.heap.size := by
  rcases h with ⟨h1, _⟩ | ⟨_, h2⟩
  · exact .inl h1
  · exact .inr h2.lt
end Go.Proofs.Ytcmbdhmhkfhjfaa
namespace Go.Proofs.Ytcmbdhmhkfhjfaa
open Go.RowKit
set_option linter.unusedVariables false

theorem below_drew {B : Nat} {a w : World} (h : Below B a w) : Below B a w.drew := ⟨h.os, h.tape, h.output, h.size, h.block⟩
/-- The cells of a block that is known whole, and what a store makes of it. -/
theorem box_set {w : World} {g : Nat} {cs : Array Value} {t : TypeId} (h : w.heap[g]? = some (.cells cs t (0, 0))) (i : Nat) (v : Value) : (w.setCell ⟨g, i, none⟩ v).heap[g]? = some (.cells (cs.setIfInBounds i v) t (0, 0)) := by
  simp [World.setCell, Array.getElem?_modify, h]
theorem below_setCell {B : Nat} {a w : World} {g : Nat} (h : Below B a w) (hg : B ≤ g) (i : Nat) (v : Value) : Below B a (w.setCell ⟨g, i, none⟩ v) :=
  ⟨h.os, h.tape, h.output, by simpa [World.setCell] using h.size, fun k hk => (Below.heap_setCell w ⟨g, i, none⟩ v k (by simp; omega)).trans (h.block k hk)⟩


theorem heap_alloc_two (w : World) (o o' : Obj) : ((w.alloc o).alloc o').heap[w.heap.size + 1]? = some o' := by
  have h := heap_alloc_new (w.alloc o) o'
  rw [show (w.alloc o).heap.size = w.heap.size + 1 by simp] at h
  exact h

/-- Block g is known whole, and what lies below it is as it was. -/
def Bx (w0 : World) (g : Nat) (o : Obj) (w : World) : Prop := w.heap[g]? = some o ∧ Below g w0 w
theorem Bx.new (w : World) (o : Obj) : Bx w w.heap.size o (w.alloc o) := ⟨heap_alloc_new w o, bel_alloc w o⟩
theorem Bx.lt {w0 w : World} {g : Nat} {o : Obj} (h : Bx w0 g o w) : g < w.heap.size := block_lt h.1
theorem Bx.below {w0 w w' : World} {g : Nat} {o : Obj} (h : Bx w0 g o w) (hb : Below w.heap.size w w') : Bx w0 g o w' :=
  ⟨(hb.block g h.lt).trans h.1, h.2.trans (hb.mono (Nat.le_of_lt h.lt))⟩
theorem Bx.below2 {w0 w w' : World} {g B : Nat} {o : Obj} (h : Bx w0 g o w) (hb : Below B w w') (hB : g < B) : Bx w0 g o w' :=
  ⟨(hb.block g hB).trans h.1, h.2.trans (hb.mono (Nat.le_of_lt hB))⟩
theorem Bx.drewN {w0 w : World} {g : Nat} {o : Obj} (h : Bx w0 g o w) (n : Nat) : Bx w0 g o (w.drewN n) := h.below (bel_drewN w n)
theorem Bx.drew {w0 w : World} {g : Nat} {o : Obj} (h : Bx w0 g o w) : Bx w0 g o w.drew := h.below ⟨rfl, rfl, rfl, Nat.le_refl _, fun _ _ => rfl⟩
theorem Bx.alloc {w0 w : World} {g : Nat} {o : Obj} (h : Bx w0 g o w) (o' : Obj) : Bx w0 g o (w.alloc o') := h.below (bel_alloc w o')
theorem Bx.six {w0 w : World} {g : Nat} {t : TypeId} {v0 v1 v2 v3 v4 v5 : Value} (h : Bx w0 g (.cells #[v0, v1, v2, v3, v4, v5] t (0, 0)) w) :
    w.cell? ⟨g, 0, none⟩ = some v0 ∧ w.cell? ⟨g, 1, none⟩ = some v1 ∧ w.cell? ⟨g, 2, none⟩ = some v2 ∧ w.cell? ⟨g, 3, none⟩ = some v3 ∧ w.cell? ⟨g, 4, none⟩ = some v4 ∧ w.cell? ⟨g, 5, none⟩ = some v5 :=
  ⟨cell_of_row _ _ 0 _ _ _ h.1, cell_of_row _ _ 1 _ _ _ h.1, cell_of_row _ _ 2 _ _ _ h.1, cell_of_row _ _ 3 _ _ _ h.1, cell_of_row _ _ 4 _ _ _ h.1, cell_of_row _ _ 5 _ _ _ h.1⟩
end Go.Proofs.Ytcmbdhmhkfhjfaa
namespace Go.Proofs.Ytcmbdhmhkfhjfaa
open Go.RowKit
set_option linter.unusedVariables false

theorem of2 {w : World} {g : Nat} {a b : Value} {t : TypeId} (h : w.heap[g]? = some (.cells #[a, b] t (0, 0))) : w.cell? ⟨g, 0, none⟩ = some a ∧ w.cell? ⟨g, 1, none⟩ = some b := ⟨cell_of_row _ _ 0 _ _ _ h, cell_of_row _ _ 1 _ _ _ h⟩
theorem of6 {w : World} {g : Nat} {a b c d e f : Value} {t : TypeId} (h : w.heap[g]? = some (.cells #[a, b, c, d, e, f] t (0, 0))) : w.cell? ⟨g, 0, none⟩ = some a ∧ w.cell? ⟨g, 1, none⟩ = some b ∧ w.cell? ⟨g, 2, none⟩ = some c ∧ w.cell? ⟨g, 3, none⟩ = some d ∧ w.cell? ⟨g, 4, none⟩ = some e ∧ w.cell? ⟨g, 5, none⟩ = some f :=
  ⟨cell_of_row _ _ 0 _ _ _ h, cell_of_row _ _ 1 _ _ _ h, cell_of_row _ _ 2 _ _ _ h, cell_of_row _ _ 3 _ _ _ h, cell_of_row _ _ 4 _ _ _ h, cell_of_row _ _ 5 _ _ _ h⟩
theorem thaw2 {w : World} {g : Nat} {a : Array Value} {t : TypeId} (h : w.heap[g]? = some (.cells a t (0, 0))) : w.frozen? ⟨g, 0, none⟩ = false ∧ w.frozen? ⟨g, 1, none⟩ = false := ⟨block_frozen _ _ 0 _ _ h, block_frozen _ _ 1 _ _ h⟩

/-- Three boxes. -/
def Box3 (w0 : World) (a b c : Obj) (w : World) : Prop :=
  w.heap[w0.heap.size]? = some a ∧ w.heap[w0.heap.size + 1]? = some b ∧ w.heap[w0.heap.size + 1 + 1]? = some c ∧ w0.heap.size + 3 ≤ w.heap.size ∧ Below w0.heap.size w0 w
theorem Box3.new (w : World) (a b c : Obj) : Box3 w a b c (((w.alloc a).alloc b).alloc c) := by
  have s1 : (w.alloc a).heap.size = w.heap.size + 1 := by simp
  have s2 : ((w.alloc a).alloc b).heap.size = w.heap.size + 1 + 1 := by simp
  refine ⟨?_, ?_, ?_, by simp, ((bel_alloc w a).alloc (by simp) b).alloc (by simp; omega) c⟩
  · exact (heap_alloc_old _ _ (by omega)).trans ((heap_alloc_old _ _ (by omega)).trans (heap_alloc_new _ _))
  · rw [← s1]; exact (heap_alloc_old _ _ (by omega)).trans (heap_alloc_new _ _)
  · rw [← s2]; exact heap_alloc_new _ _
theorem Box3.below {w0 w w' : World} {a b c : Obj} (h : Box3 w0 a b c w) (hb : Below w.heap.size w w') : Box3 w0 a b c w' := by
  obtain ⟨h1, h2, h3, h5, h6⟩ := h
  exact ⟨(hb.block _ (by omega)).trans h1, (hb.block _ (by omega)).trans h2, (hb.block _ (by omega)).trans h3, by have := hb.size; omega, h6.trans (hb.mono (by omega))⟩
theorem Box3.bel {w0 w : World} {a b c : Obj} (h : Box3 w0 a b c w) : Below w0.heap.size w0 w := h.2.2.2.2
theorem Box3.drewN {w0 w : World} {a b c : Obj} (h : Box3 w0 a b c w) (n : Nat) : Box3 w0 a b c (w.drewN n) := h.below (bel_drewN w n)
theorem Box3.alloc {w0 w : World} {a b c : Obj} (h : Box3 w0 a b c w) (o : Obj) : Box3 w0 a b c (w.alloc o) := h.below (bel_alloc w o)
/-- A store into the third box. -/
theorem Box3.set {w0 w : World} {a b : Obj} {cs : Array Value} {t : TypeId} (h : Box3 w0 a b (.cells cs t (0, 0)) w) (i : Nat) (v : Value) : Box3 w0 a b (.cells (cs.setIfInBounds i v) t (0, 0)) (w.setCell ⟨w0.heap.size + 1 + 1, i, none⟩ v) := by
  obtain ⟨h1, h2, h3, h5, h6⟩ := h
  refine ⟨(Below.heap_setCell w _ v _ (by simp only [ne_eq]; omega)).trans h1, (Below.heap_setCell w _ v _ (by simp only [ne_eq]; omega)).trans h2, box_set h3 i v, by simpa [World.setCell] using h5, below_setCell h6 (by omega) i v⟩
/-- Two stores into one box. -/
def put2 (w : World) (g : Nat) (a b : Value) : World := (w.setCell ⟨g, 0, none⟩ a).setCell ⟨g, 1, none⟩ b
theorem Box3.put {w0 w : World} {a b : Obj} {v0 v1 : Value} {t : TypeId} (h : Box3 w0 a b (.cells #[v0, v1] t (0, 0)) w) (x y : Value) : Box3 w0 a b (.cells #[x, y] t (0, 0)) (put2 w (w0.heap.size + 1 + 1) x y) := (h.set 0 x).set 1 y
/-- What lies below a world's end stays through an alloc, and through a store at or above it. -/
theorem balB {a w : World} (h : Below a.heap.size a w) (o : Obj) : Below a.heap.size a (w.alloc o) := h.alloc h.size o
theorem bsetB {a w : World} {g : Nat} (i : Nat) (v : Value) (h : Below a.heap.size a w) (hg : a.heap.size ≤ g) : Below a.heap.size a (w.setCell ⟨g, i, none⟩ v) := below_setCell h hg i v
theorem put2_heap {w : World} {g : Nat} {v0 v1 : Value} {t : TypeId} (h : w.heap[g]? = some (.cells #[v0, v1] t (0, 0))) (a b : Value) : (put2 w g a b).heap[g]? = some (.cells #[a, b] t (0, 0)) := box_set (box_set h 0 a) 1 b
theorem put2_below {B : Nat} {a w : World} {g : Nat} (h : Below B a w) (hg : B ≤ g) (x y : Value) : Below B a (put2 w g x y) := below_setCell (below_setCell h hg 0 x) hg 1 y
/-- A block that is known whole stays through what lies behind it; two boxes. -/
theorem keepB {w w' : World} {g : Nat} {o : Obj} (hb : Below w.heap.size w w') (h : w.heap[g]? = some o) : w'.heap[g]? = some o := (hb.block g (block_lt h)).trans h
theorem two_fst (w : World) (a b : Obj) : ((w.alloc a).alloc b).heap[w.heap.size]? = some a := (heap_alloc_old _ _ (by simp)).trans (heap_alloc_new w a)
end Go.Proofs.Ytcmbdhmhkfhjfaa
namespace Go.Proofs.Ytcmbdhmhkfhjfaa
open Go.RowKit
set_option linter.unusedVariables false

theorem put2_other {w : World} {g g' : Nat} (a b : Value) (h : g' ≠ g) : (put2 w g a b).heap[g']? = w.heap[g']? := by
  unfold put2
  rw [Below.heap_setCell _ _ _ _ (by simpa using h), Below.heap_setCell _ _ _ _ (by simpa using h)]
theorem put2_size (w : World) (g : Nat) (a b : Value) : (put2 w g a b).heap.size = w.heap.size := by simp [put2, World.setCell]
/-- A cell in a block that was there. -/
theorem cellB {w w' : World} {b o : Nat} {v : Value} (hb : Below w.heap.size w w') (hlt : b < w.heap.size) (h : w.cell? ⟨b, o, none⟩ = some v) : w'.cell? ⟨b, o, none⟩ = some v := (hb.cell (p := ⟨b, o, none⟩) hlt).trans h
end Go.Proofs.Ytcmbdhmhkfhjfaa
namespace Go.Proofs.Ytcmbdhmhkfhjfaa
open Go.RowKit
set_option linter.unusedVariables false

/-- A letter; a byte that a name may have. -/
def letB (c : Int) : Bool := (decide (97 ≤ c) && decide (c ≤ 122)) || (decide (65 ≤ c) && decide (c ≤ 90))
def chB (c : Int) : Bool := letB c || (decide (48 ≤ c) && decide (c ≤ 57)) || decide (c = 95) || decide (c = 46) || decide (c = 45)
/-- The bytes of a text, as numbers. -/
def bys (s : ByteArray) : List Int := s.data.toList.map fun c => (c.toNat : Int)
theorem bys_len (s : ByteArray) : (bys s).length = s.size := by simp [bys]
theorem bys_get (s : ByteArray) (k : Nat) (h : k < s.size) : nth (bys s) k = (s[k].toNat : Int) := by
  rw [nth_eq _ _ (by rw [bys_len]; exact h)]
  simp only [bys, List.getElem_map, Array.getElem_toList]
  rfl
theorem bys_bound (s : ByteArray) (k : Nat) (h : k < s.size) : 0 ≤ nth (bys s) k ∧ nth (bys s) k ≤ 255 := by
  rw [bys_get s k h]
  have := s[k].toNat_lt
  omega
def nameB (l : List Int) : Bool := decide (1 ≤ l.length) && decide (l.length ≤ 16) && letB (nth l 0) && l.all chB
theorem letter_cases (c : Int) (P : Prop) (a : 97 ≤ c → c ≤ 122 → letB c = true → P) (b : 97 ≤ c → ¬ c ≤ 122 → letB c = false → P) (d : ¬ 97 ≤ c → 65 ≤ c → c ≤ 90 → letB c = true → P)
    (e : ¬ 97 ≤ c → 65 ≤ c → ¬ c ≤ 90 → letB c = false → P) (f : ¬ 97 ≤ c → ¬ 65 ≤ c → letB c = false → P) : P := by
  by_cases h1 : 97 ≤ c
  · by_cases h2 : c ≤ 122
    · exact a h1 h2 (by simp [letB, h1, h2])
    · exact b h1 h2 (by
        have : ¬ c ≤ 90 := by omega
        simp [letB, h1, h2, this])
  · by_cases h3 : 65 ≤ c
    · by_cases h4 : c ≤ 90
      · exact d h1 h3 h4 (by simp [letB, h3, h4])
      · exact e h1 h3 h4 (by simp [letB, h1, h4])
    · exact f h1 h3 (by simp [letB, h1, h3])
theorem chB_letter {c : Int} (h : letB c = true) : chB c = true := by unfold chB; rw [h]; rfl
/-- The ways through the document's test of one byte. -/
theorem ch_cases (c : Int) (P : Prop) (a : letB c = true → chB c = true → P) (b : letB c = false → ¬ c < 48 → ¬ c > 57 → chB c = true → P)
    (x : letB c = false → c = 95 → chB c = true → P) (y : letB c = false → c = 46 → chB c = true → P) (z : letB c = false → c = 45 → chB c = true → P)
    (d : letB c = false → c < 48 → c ≠ 95 → c ≠ 46 → c ≠ 45 → chB c = false → P) (e : letB c = false → ¬ c < 48 → c > 57 → c ≠ 95 → c ≠ 46 → c ≠ 45 → chB c = false → P) : P := by
  cases h : letB c
  case true => exact a h (chB_letter h)
  by_cases h1 : c = 95
  · exact x h h1 (by subst h1; rfl)
  by_cases h2 : c = 46
  · exact y h h2 (by subst h2; rfl)
  by_cases h3 : c = 45
  · exact z h h3 (by subst h3; rfl)
  by_cases h4 : c < 48
  · exact d h h4 h1 h2 h3 (by
      have : ¬ 48 ≤ c := by omega
      simp [chB, h, h1, h2, h3, this])
  · by_cases h5 : c > 57
    · exact e h h4 h5 h1 h2 h3 (by
        have : ¬ c ≤ 57 := by omega
        simp [chB, h, h1, h2, h3, this])
    · exact b h h4 h5 (by
        have : 48 ≤ c := by omega
        have : c ≤ 57 := by omega
        simp [chB, *])
theorem nameB_bad {l : List Int} (k : Nat) (hk : k < l.length) (h : chB (nth l k) = false) : nameB l = false := by
  unfold nameB
  have : l.all chB = false := by
    rw [List.all_eq_false]
    exact ⟨nth l k, nth_mem l k hk, by simp [h]⟩
  rw [this, Bool.and_false]
theorem nameB_good {l : List Int} (h1 : 1 ≤ l.length) (h2 : l.length ≤ 16) (h3 : letB (nth l 0) = true) (h : ∀ i, i < l.length → chB (nth l i) = true) : nameB l = true := by
  unfold nameB
  have : l.all chB = true := by
    rw [List.all_eq_true]
    intro x hx
    obtain ⟨i, hi, rfl⟩ := List.mem_iff_getElem.1 hx
    rw [← nth_eq l i hi]
    exact h i hi
  rw [this, h3, decide_eq_true h1, decide_eq_true h2]; rfl
theorem nameB_len {l : List Int} (h : l.length < 1 ∨ 16 < l.length) : nameB l = false := by
  unfold nameB
  rcases h with h | h
  · rw [decide_eq_false (show ¬ 1 ≤ l.length by omega)]; rfl
  · rw [decide_eq_false (show ¬ l.length ≤ 16 by omega), Bool.and_false]; rfl
theorem nameB_first {l : List Int} (h : letB (nth l 0) = false) : nameB l = false := by
  unfold nameB; rw [h, Bool.and_false]; rfl

end Go.Proofs.Ytcmbdhmhkfhjfaa
namespace Go.Proofs.Ytcmbdhmhkfhjfaa
open Go.RowKit
set_option linter.unusedVariables false

/-- A scale as plain data. -/
structure Sc where
  wide : Bool
  signed : Bool
  swap : Bool
  mul : Int
  div : Int
  add : Int
/-- Its numbers are those of an int. -/
def Sc.fits (s : Sc) : Prop := (-9223372036854775808 ≤ s.mul ∧ s.mul < 9223372036854775808) ∧ (-9223372036854775808 ≤ s.div ∧ s.div < 9223372036854775808) ∧ (-9223372036854775808 ≤ s.add ∧ s.add < 9223372036854775808)
/-- May a scale be? -/
def Sc.Ok (s : Sc) : Prop := s.mul ≠ 0 ∧ (-1000000 ≤ s.mul ∧ s.mul ≤ 1000000) ∧ (1 ≤ s.div ∧ s.div ≤ 1000000) ∧ (-1099511627776 ≤ s.add ∧ s.add ≤ 1099511627776) ∧ (s.swap = true → s.wide = true)
instance (s : Sc) : Decidable s.Ok := by unfold Sc.Ok; infer_instance
def chkS (s : Sc) : Int := if s.Ok then 0 else 25
theorem chkS_yes {s : Sc} (h : s.Ok) : chkS s = 0 := if_pos h
theorem chkS_no {s : Sc} (h : ¬ s.Ok) : chkS s = 25 := if_neg h

/-- How many6 numbers words can be, and the least of them. -/
def many6 (s : Sc) : Int := if s.wide then 4294967296 else 65536
def lowS (s : Sc) : Int := if s.signed then -(many6 s / 2) else 0
def cntS (s : Sc) : Nat := if s.wide then 2 else 1
/-- The number of words, without a sign, and with it. -/
def baseS (s : Sc) (xs : List Int) : Int := if s.wide then (if s.swap then nth xs 1 * 65536 + nth xs 0 else nth xs 0 * 65536 + nth xs 1) else nth xs 0
def signS (s : Sc) (n : Int) : Int := if lowS s + many6 s - 1 < n then n - many6 s else n
def rawE (s : Sc) (xs : List Int) : Int := if s.Ok then (if xs.length = cntS s then 0 else 22) else 25
def rawN (s : Sc) (xs : List Int) : Int := if rawE s xs = 0 then signS s (baseS s xs) else 0
/-- The words of a number. -/
def wordsE6 (s : Sc) (n : Int) : Int := if s.Ok then (if lowS s ≤ n ∧ n ≤ lowS s + many6 s - 1 then 0 else 3) else 25
def layS (s : Sc) (n : Int) : List Int := if s.wide then (if s.swap then [n % 65536, n / 65536 % 65536] else [n / 65536 % 65536, n % 65536]) else [n % 65536]
def wordsS (s : Sc) (n : Int) : List Int := if wordsE6 s n = 0 then layS s n else []

/-- The nearest whole number. -/
def near (a b : Int) : Int := if a < 0 then -((2 * -a + b) / (2 * b)) else (2 * a + b) / (2 * b)
def valE (s : Sc) (n : Int) : Int := if s.Ok then (if -2147483648 ≤ n ∧ n ≤ 4294967295 then 0 else 3) else 25
def cut (v : Int) : Int := max (-1099511627776) (min v 1099511627776)
def valN (s : Sc) (n : Int) : Int := if valE s n = 0 then cut (near (n * s.mul) s.div + s.add) else 0

theorem half_pos (a b : Int) (ha : 0 ≤ a) (hb : 0 < b) : (2 * a + b) / (2 * b) = if b ≤ 2 * (a % b) then a / b + 1 else a / b := by
  have h1 := Int.emod_add_mul_ediv a b
  have h2 := Int.emod_nonneg a (by omega : b ≠ 0)
  have h3 := Int.emod_lt_of_pos a hb
  generalize a / b = q at *
  generalize a % b = r at *
  have e : 2 * b * q = 2 * (b * q) := Int.mul_assoc _ _ _
  split
  · exact ((Int.ediv_emod_unique (a := 2 * a + b) (b := 2 * b) (r := 2 * r + b - 2 * b) (q := q + 1) (by omega)).2 ⟨by rw [Int.mul_add, e]; omega, by omega, by omega⟩).1
  · exact ((Int.ediv_emod_unique (a := 2 * a + b) (b := 2 * b) (r := 2 * r + b) (q := q) (by omega)).2 ⟨by rw [e]; omega, by omega, by omega⟩).1
/-- The document's way to the nearest whole number. -/
theorem near_ref (a b : Int) (hb : 0 < b) : near a b = if b ≤ 2 * a.tmod b then a.tdiv b + 1 else if 2 * a.tmod b ≤ -b then a.tdiv b - 1 else a.tdiv b := by
  unfold near
  by_cases ha : a < 0
  · rw [if_pos ha, half_pos _ _ (by omega) hb]
    obtain ⟨n, rfl⟩ : ∃ n : Int, a = -n := ⟨-a, by omega⟩
    rw [Int.neg_neg, Int.neg_tmod, Int.neg_tdiv, Int.tmod_eq_emod_of_nonneg (by omega), Int.tdiv_eq_ediv_of_nonneg (by omega)]
    have h2 := Int.emod_nonneg n (by omega : b ≠ 0)
    generalize n / b = q at *
    generalize n % b = r at *
    split <;> split <;> (try split) <;> omega
  · rw [if_neg ha, half_pos _ _ (by omega) hb, Int.tmod_eq_emod_of_nonneg (by omega), Int.tdiv_eq_ediv_of_nonneg (by omega)]
    have h2 := Int.emod_nonneg a (by omega : b ≠ 0)
    generalize a / b = q at *
    generalize a % b = r at *
    split <;> (try split) <;> omega
/-- A value times Div is no farther from the number than a half of Div; at a half it is farther from 0. -/
theorem near_away (a b : Int) (hb : 0 < b) : -b ≤ 2 * (near a b * b - a) ∧ 2 * (near a b * b - a) ≤ b ∧ (2 * (near a b * b - a) = b → 0 ≤ a) ∧ (2 * (near a b * b - a) = -b → a ≤ 0) := by
  have key : ∀ n : Int, 0 ≤ n → -b < 2 * (((2 * n + b) / (2 * b)) * b - n) ∧ 2 * (((2 * n + b) / (2 * b)) * b - n) ≤ b := by
    intro n hn
    have h1 := Int.emod_add_mul_ediv (2 * n + b) (2 * b)
    have h2 := Int.emod_nonneg (2 * n + b) (by omega : 2 * b ≠ 0)
    have h3 := Int.emod_lt_of_pos (2 * n + b) (by omega : 0 < 2 * b)
    generalize (2 * n + b) / (2 * b) = q at *
    generalize (2 * n + b) % (2 * b) = r at *
    have e : 2 * b * q = 2 * (q * b) := by rw [Int.mul_assoc, Int.mul_comm b q]
    rw [e] at h1
    generalize q * b = t at *
    omega
  unfold near
  by_cases ha : a < 0
  · rw [if_pos ha]
    have := key (-a) (by omega)
    rw [Int.neg_mul]
    generalize (2 * -a + b) / (2 * b) * b = t at *
    omega
  · rw [if_neg ha]
    have := key a (by omega)
    generalize (2 * a + b) / (2 * b) * b = t at *
    omega
theorem near_neg (a b : Int) (hb : 0 < b) : near (-a) b = - near a b := by
  unfold near
  by_cases h0 : a = 0
  · subst h0
    have e : b / (2 * b) = 0 := Int.ediv_eq_zero_of_lt (by omega) (by omega)
    simp [e]
  · by_cases ha : a < 0
    · rw [if_neg (by omega), if_pos ha, Int.neg_neg]
    · rw [if_pos (by omega), if_neg ha, Int.neg_neg]
theorem near_mono (a a' b : Int) (hb : 0 < b) (h : a ≤ a') : near a b ≤ near a' b := by
  have pos : ∀ n : Int, 0 ≤ n → 0 ≤ (2 * n + b) / (2 * b) := fun n hn => Int.ediv_nonneg (by omega) (by omega)
  unfold near
  by_cases h1 : a < 0
  · by_cases h2 : a' < 0
    · rw [if_pos h1, if_pos h2]
      have := Int.ediv_le_ediv (by omega : 0 < 2 * b) (by omega : 2 * -a' + b ≤ 2 * -a + b)
      omega
    · rw [if_pos h1, if_neg h2]
      have p1 := pos (-a) (by omega)
      have p2 := pos a' (by omega)
      omega
  · rw [if_neg h1, if_neg (by omega)]
    exact Int.ediv_le_ediv (by omega : 0 < 2 * b) (by omega)
/-- What a right scale's product can be. -/
theorem prod_bound {n m : Int} (h1 : -2147483648 ≤ n ∧ n ≤ 4294967295) (h2 : -1000000 ≤ m ∧ m ≤ 1000000) : -4294967295000000 ≤ n * m ∧ n * m ≤ 4294967295000000 := by
  have a1 : n.natAbs ≤ 4294967295 := by omega
  have a2 : m.natAbs ≤ 1000000 := by omega
  have a3 := Nat.mul_le_mul a1 a2
  rw [← Int.natAbs_mul] at a3
  omega
theorem near_bound {a b : Int} (hb : 0 < b) (h : -4294967295000000 ≤ a ∧ a ≤ 4294967295000000) : -4294967295000000 ≤ near a b ∧ near a b ≤ 4294967295000000 := by
  have key : ∀ n : Int, 0 ≤ n → n ≤ 4294967295000000 → 0 ≤ (2 * n + b) / (2 * b) ∧ (2 * n + b) / (2 * b) ≤ 4294967295000000 := by
    intro n h0 hn
    refine ⟨Int.ediv_nonneg (by omega) (by omega), ?_⟩
    refine Int.lt_add_one_iff.1 (Int.ediv_lt_of_lt_mul (by omega) ?_)
    have : (4294967295000000 + 1) * (2 * 1) ≤ (4294967295000000 + 1) * (2 * b) := Int.mul_le_mul_of_nonneg_left (by omega) (by omega)
    by_cases hb1 : b = 1
    · subst hb1; omega
    · have h4 : (4294967295000000 + 1) * (2 * b) = 4294967295000000 * (2 * b) + 2 * b := by omega
      rw [h4]
      omega
  unfold near
  by_cases ha : a < 0
  · rw [if_pos ha]; have := key (-a) (by omega) (by omega); omega
  · rw [if_neg ha]; exact key a (by omega) (by omega) |> fun h => ⟨by omega, h.2⟩
end Go.Proofs.Ytcmbdhmhkfhjfaa
namespace Go.Proofs.Ytcmbdhmhkfhjfaa
open Go.RowKit
set_option linter.unusedVariables false

/-- The true distance of two numbers. -/
def distI (a b : Int) : Int := max a b - min a b
theorem distI_nonneg (a b : Int) : 0 ≤ distI a b := by unfold distI; omega
theorem distI_self (a : Int) : distI a a = 0 := by unfold distI; omega

/-- What is held, as plain data. -/
structure Hd where
  has : Bool
  v : Int
  t : Int
def Hd.zero : Hd := ⟨false, 0, 0⟩
abbrev Pt := Int × Int

def farB7 (d a b : Int) : Bool := decide (max d 0 < distI a b)
def dueB (q t y : Int) : Bool := decide (0 < q) && (decide (t ≤ y) && decide (q ≤ distI y t))
def toldB (d q : Int) (h : Hd) (p : Pt) : Bool := !h.has || (farB7 d p.1 h.v || dueB q h.t p.2)
def stepH (d q : Int) (h : Hd) (p : Pt) : Hd := bif toldB d q h p then ⟨true, p.1, p.2⟩ else h
def endH (d q : Int) (h : Hd) (l : List Pt) : Hd := l.foldl (stepH d q) h
def runP (d q : Int) : Hd → List Pt → List Pt
  | _, [] => []
  | h, p :: l => bif toldB d q h p then p :: runP d q (stepH d q h p) l else runP d q (stepH d q h p) l
def chkB (d q : Int) : Int := if 0 ≤ d ∧ d ≤ 1099511627776 ∧ 0 ≤ q ∧ q ≤ 1099511627776 then 0 else 26

theorem runP_append (d q : Int) (h : Hd) (a b : List Pt) : runP d q h (a ++ b) = runP d q h a ++ runP d q (endH d q h a) b := by
  induction a generalizing h with
  | nil => rfl
  | cons p a ih =>
    rw [List.cons_append, runP, runP, ih]
    have he : endH d q h (p :: a) = endH d q (stepH d q h p) a := rfl
    rw [he]
    cases toldB d q h p <;> rfl
theorem endH_append (d q : Int) (h : Hd) (a b : List Pt) : endH d q h (a ++ b) = endH d q (endH d q h a) b := List.foldl_append ..
theorem runP_one (d q : Int) (h : Hd) (p : Pt) : runP d q h [p] = bif toldB d q h p then [p] else [] := rfl
theorem runP_step (d q : Int) (h : Hd) (a : List Pt) (p : Pt) : runP d q h (a ++ [p]) = runP d q h a ++ bif toldB d q (endH d q h a) p then [p] else [] := by rw [runP_append, runP_one]
theorem endH_step (d q : Int) (h : Hd) (a : List Pt) (p : Pt) : endH d q h (a ++ [p]) = stepH d q (endH d q h a) p := by rw [endH_append]; rfl
theorem runP_sub (d q : Int) (h : Hd) (l : List Pt) : (runP d q h l).Sublist l := by
  induction l generalizing h with
  | nil => exact List.Sublist.slnil
  | cons p l ih =>
    rw [runP]
    cases toldB d q h p
    · exact (ih _).cons _
    · exact (ih _).cons_cons _
theorem runP_len (d q : Int) (h : Hd) (l : List Pt) : (runP d q h l).length ≤ l.length := (runP_sub d q h l).length_le

/-- Points as a row of numbers. -/
def flP (l : List Pt) : List Int := l.flatMap fun p => [p.1, p.2]
theorem flP_nil : flP [] = [] := rfl
theorem flP_cons (p : Pt) (l : List Pt) : flP (p :: l) = p.1 :: p.2 :: flP l := rfl
theorem flP_append (a b : List Pt) : flP (a ++ b) = flP a ++ flP b := by simp [flP]
theorem flP_len (l : List Pt) : (flP l).length = 2 * l.length := by
  induction l with
  | nil => rfl
  | cons p l ih => rw [flP_cons, List.length_cons, List.length_cons, List.length_cons, ih]; omega
/-- The k-th point. -/
def ptX (l : List Pt) (k : Nat) : Int := (l.getD k (0, 0)).1
def ptY (l : List Pt) (k : Nat) : Int := (l.getD k (0, 0)).2
theorem pt_eq (l : List Pt) (k : Nat) (h : k < l.length) : l[k] = (ptX l k, ptY l k) := by simp [ptX, ptY, List.getD_eq_getElem?_getD, List.getElem?_eq_getElem h]
theorem nth_cons_succ (x : Int) (l : List Int) (i : Nat) : nth (x :: l) (i + 1) = nth l i := rfl
theorem flP_x (l : List Pt) (k : Nat) : nth (flP l) (2 * k) = ptX l k := by
  induction l generalizing k with
  | nil => rfl
  | cons p l ih =>
    cases k with
    | zero => rfl
    | succ k =>
      rw [flP_cons, show 2 * (k + 1) = 2 * k + 1 + 1 by omega, nth_cons_succ, nth_cons_succ, ih]; rfl
theorem flP_y (l : List Pt) (k : Nat) : nth (flP l) (2 * k + 1) = ptY l k := by
  induction l generalizing k with
  | nil => rfl
  | cons p l ih =>
    cases k with
    | zero => rfl
    | succ k =>
      rw [flP_cons, show 2 * (k + 1) + 1 = 2 * k + 1 + 1 + 1 by omega, nth_cons_succ, nth_cons_succ, ih]; rfl
theorem flP_take (l : List Pt) (k : Nat) : (flP l).take (2 * k) = flP (l.take k) := by
  induction l generalizing k with
  | nil => simp [flP]
  | cons p l ih =>
    cases k with
    | zero => rfl
    | succ k =>
      rw [flP_cons, show 2 * (k + 1) = 2 * k + 1 + 1 by omega, List.take_succ_cons, List.take_succ_cons, ih]; rfl
theorem takeP_step (l : List Pt) (k : Nat) (h : k < l.length) : l.take (k + 1) = l.take k ++ [(ptX l k, ptY l k)] := by
  rw [List.take_succ_eq_append_getElem h, pt_eq l k h]
def Pt.Ok (p : Pt) : Prop := (-9223372036854775808 ≤ p.1 ∧ p.1 < 9223372036854775808) ∧ (-9223372036854775808 ≤ p.2 ∧ p.2 < 9223372036854775808)
theorem pt_ok {l : List Pt} (h : ∀ p ∈ l, Pt.Ok p) {k : Nat} (hk : k < l.length) : Pt.Ok (ptX l k, ptY l k) := by
  rw [← pt_eq l k hk]; exact h _ (List.getElem_mem hk)
/-- Every row of numbers, an even count of them, is a row of points. -/
theorem flP_of : ∀ (n : Nat) (xs : List Int), xs.length = 2 * n → ∃ l : List Pt, flP l = xs ∧ l.length = n
  | 0, xs, h => ⟨[], by rw [List.eq_nil_of_length_eq_zero (by omega : xs.length = 0)]; rfl, rfl⟩
  | n + 1, [], h => by simp at h
  | n + 1, [x], h => by simp at h; omega
  | n + 1, x :: y :: xs, h => by
    obtain ⟨l, h1, h2⟩ := flP_of n xs (by simp at h; omega)
    exact ⟨(x, y) :: l, by rw [flP_cons, h1], by simp [h2]⟩
theorem flP_mem {l : List Pt} {p : Pt} (h : p ∈ l) : p.1 ∈ flP l ∧ p.2 ∈ flP l := by
  simp only [flP, List.mem_flatMap]
  exact ⟨⟨p, h, by simp⟩, ⟨p, h, by simp⟩⟩
theorem flP_wf {l : List Pt} (h : ∀ p ∈ l, Pt.Ok p) : ∀ x ∈ flP l, (Lit.int .i64 x).wf = true := by
  intro x hx
  simp only [flP, List.mem_flatMap] at hx
  obtain ⟨p, hp, hx⟩ := hx
  have := h p hp
  simp only [Pt.Ok] at this
  simp only [List.mem_cons, List.not_mem_nil, or_false] at hx
  rcases hx with rfl | rfl <;> (simp [Lit.wf, IntKind.min, IntKind.max, IntKind.signed, IntKind.bits]; omega)
theorem flP_ok {l : List Pt} (h : ∀ x ∈ flP l, (Lit.int .i64 x).wf = true) : ∀ p ∈ l, Pt.Ok p := fun p hp => ⟨wf_i64 (h _ (flP_mem hp).1), wf_i64 (h _ (flP_mem hp).2)⟩
/-- What is held behind points that fit, fits. -/
theorem stepH_t {d q : Int} {h : Hd} {p : Pt} (ht : toldB d q h p = true) : stepH d q h p = ⟨true, p.1, p.2⟩ := by rw [stepH, ht]; rfl
theorem stepH_f {d q : Int} {h : Hd} {p : Pt} (ht : toldB d q h p = false) : stepH d q h p = h := by rw [stepH, ht]; rfl
def Hd.Ok (h : Hd) : Prop := Pt.Ok (h.v, h.t)
theorem stepH_ok {d q : Int} {h : Hd} {p : Pt} (hh : h.Ok) (hp : Pt.Ok p) : (stepH d q h p).Ok := by
  cases ht : toldB d q h p
  · rw [stepH_f ht]; exact hh
  · rw [stepH_t ht]; exact hp
theorem endH_ok {d q : Int} (l : List Pt) {h : Hd} (hh : h.Ok) (hl : ∀ p ∈ l, Pt.Ok p) : (endH d q h l).Ok := by
  induction l generalizing h with
  | nil => exact hh
  | cons p l ih => exact ih (stepH_ok hh (hl p (by simp))) (fun r hr => hl r (by simp [hr]))
theorem Hd.zero_ok : Hd.zero.Ok := by unfold Hd.Ok Hd.zero Pt.Ok; simp
end Go.Proofs.Ytcmbdhmhkfhjfaa
namespace Go.Proofs.Ytcmbdhmhkfhjfaa
open Go.RowKit
set_option linter.unusedVariables false

/-- Limits as plain data. -/
structure Lim where
  ul : Bool
  uh : Bool
  la : Bool
  lo : Int
  hi : Int
  hy : Int
/-- An alarm as plain data. -/
structure Alm where
  st : Int
  wt : Bool
deriving DecidableEq
def Lim.Ok (l : Lim) : Prop := (-9223372036854775808 ≤ l.lo ∧ l.lo < 9223372036854775808) ∧ (-9223372036854775808 ≤ l.hi ∧ l.hi < 9223372036854775808) ∧ (-9223372036854775808 ≤ l.hy ∧ l.hy < 9223372036854775808)
def Alm.Ok (a : Alm) : Prop := -9223372036854775808 ≤ a.st ∧ a.st < 9223372036854775808

def beyB (v : Int) : Bool := decide (v < -1099511627776) || decide (1099511627776 < v)
/-- Limits may be. -/
def okL (l : Lim) : Bool :=
  (decide (0 ≤ l.hy) && decide (l.hy ≤ 1099511627776)) && (!beyB l.lo && !beyB l.hi) && ((l.ul || decide (l.lo = 0)) && (l.uh || decide (l.hi = 0))) && (!(l.ul && l.uh) || decide (l.hy < l.hi - l.lo))
def chkL (l : Lim) : Int := bif okL l then 0 else 27
def lowB (l : Lim) (v : Int) : Bool := l.ul && decide (v ≤ l.lo)
def highB (l : Lim) (v : Int) : Bool := l.uh && decide (l.hi ≤ v)
/-- A value is back from a state. -/
def backB (l : Lim) (st v : Int) : Bool := decide (st = 1) && (!l.ul || decide (l.lo + l.hy < v)) || decide (st = 2) && (!l.uh || decide (v < l.hi - l.hy))
def isSt (st : Int) : Bool := decide (st = 0) || (decide (st = 1) || decide (st = 2))
/-- What a value makes of an alarm. -/
def stepA (l : Lim) (a : Alm) (v : Int) : Alm × Int :=
  bif !okL l || !isSt a.st then (a, 0)
  else bif lowB l v then bif decide (a.st = 1) then (a, 0) else (⟨1, true⟩, 1)
  else bif highB l v then bif decide (a.st = 2) then (a, 0) else (⟨2, true⟩, 2)
  else bif !backB l a.st v || (l.la && a.wt) then (a, 0) else (⟨0, a.wt⟩, 3)
def ackA (a : Alm) : Alm × Bool := bif a.wt then (⟨a.st, false⟩, true) else (a, false)

theorem okL_of {l : Lim} (h : okL l = true) : 0 ≤ l.hy ∧ l.hy ≤ 1099511627776 ∧ -1099511627776 ≤ l.lo ∧ l.lo ≤ 1099511627776 ∧ -1099511627776 ≤ l.hi ∧ l.hi ≤ 1099511627776 ∧ (l.ul = true ∨ l.lo = 0) ∧ (l.uh = true ∨ l.hi = 0) ∧ (l.ul = true → l.uh = true → l.hy < l.hi - l.lo) := by
  obtain ⟨ul, uh, la, lo, hi, hy⟩ := l
  simp only [okL, beyB, Bool.and_eq_true, Bool.or_eq_true, decide_eq_true_eq, Bool.not_eq_true', Bool.or_eq_false_iff, decide_eq_false_iff_not, Bool.and_eq_false_iff] at h ⊢
  obtain ⟨⟨⟨⟨h1, h2⟩, ⟨h3, h4⟩, h5, h6⟩, h7, h8⟩, h9⟩ := h
  refine ⟨h1, h2, by omega, by omega, by omega, by omega, h7, h8, ?_⟩
  rintro rfl rfl
  rcases h9 with (h | h) | h
  · cases h
  · cases h
  · exact h
theorem stepA_bad {l : Lim} {a : Alm} {v : Int} (h : okL l = false ∨ isSt a.st = false) : stepA l a v = (a, 0) := by
  unfold stepA
  rcases h with h | h <;> simp [h]
theorem stepA_low1 {l : Lim} {a : Alm} {v : Int} (h : okL l = true) (hs : a.st = 1) (hl : lowB l v = true) : stepA l a v = (a, 0) := by
  unfold stepA; simp [h, hs, hl, isSt]
theorem stepA_low {l : Lim} {a : Alm} {v : Int} (h : okL l = true) (hs : isSt a.st = true) (h1 : a.st ≠ 1) (hl : lowB l v = true) : stepA l a v = (⟨1, true⟩, 1) := by
  unfold stepA; simp [h, hs, hl, h1]
theorem stepA_high2 {l : Lim} {a : Alm} {v : Int} (h : okL l = true) (hs : a.st = 2) (hl : lowB l v = false) (hh : highB l v = true) : stepA l a v = (a, 0) := by
  unfold stepA; simp [h, hs, hl, hh, isSt]
theorem stepA_high {l : Lim} {a : Alm} {v : Int} (h : okL l = true) (hs : isSt a.st = true) (h2 : a.st ≠ 2) (hl : lowB l v = false) (hh : highB l v = true) : stepA l a v = (⟨2, true⟩, 2) := by
  unfold stepA; simp [h, hs, hl, hh, h2]
theorem stepA_stay {l : Lim} {a : Alm} {v : Int} (h : okL l = true) (hs : isSt a.st = true) (hl : lowB l v = false) (hh : highB l v = false) (hb : backB l a.st v = false ∨ l.la = true ∧ a.wt = true) : stepA l a v = (a, 0) := by
  unfold stepA
  rcases hb with hb | ⟨h1, h2⟩
  · simp [h, hs, hl, hh, hb]
  · simp [h, hs, hl, hh, h1, h2]
theorem stepA_back {l : Lim} {a : Alm} {v : Int} (h : okL l = true) (hs : isSt a.st = true) (hl : lowB l v = false) (hh : highB l v = false) (hb : backB l a.st v = true) (hw : l.la = false ∨ a.wt = false) : stepA l a v = (⟨0, a.wt⟩, 3) := by
  unfold stepA
  rcases hw with h1 | h1
  · simp [h, hs, hl, hh, hb, h1]
  · simp [h, hs, hl, hh, hb, h1]
end Go.Proofs.Ytcmbdhmhkfhjfaa
namespace Go.Proofs.Ytcmbdhmhkfhjfaa
open Go.RowKit
set_option linter.unusedVariables false

/-- A slice at A whose cells are the values vs, in blocks below B (nil let in). -/
def VRow (w : World) (B : Nat) (A : Option Addr) (vs : List Value) : Prop :=
  0 < vs.length → ∃ b o, A = some ⟨b, o, none⟩ ∧ b < B ∧ ∀ i v, vs[i]? = some v → w.cell? ⟨b, o + i, none⟩ = some v
theorem VRow.nil (w : World) (B : Nat) (A : Option Addr) : VRow w B A [] := fun h => absurd h (by simp)
theorem VRow.more {w : World} {B B' : Nat} {A : Option Addr} {vs : List Value} (h : VRow w B A vs) (hB : B ≤ B') : VRow w B' A vs := fun hn => by
  obtain ⟨b, o, e, hb, hc⟩ := h hn
  exact ⟨b, o, e, by omega, hc⟩
theorem VRow.below {w w' : World} {B : Nat} {A : Option Addr} {vs : List Value} (h : VRow w B A vs) (hb : Below B w w') : VRow w' B A vs := fun hn => by
  obtain ⟨b, o, e, hlt, hc⟩ := h hn
  exact ⟨b, o, e, hlt, fun i v hv => (hb.cell (p := ⟨b, o + i, none⟩) hlt).trans (hc i v hv)⟩
theorem VRow.alloc {w : World} {B : Nat} {A : Option Addr} {vs : List Value} (h : VRow w B A vs) (hB : B ≤ w.heap.size) (o : Obj) : VRow (w.alloc o) B A vs := h.below ((Below.refl _ _).alloc hB o)
theorem VRow.drewN {w : World} {B : Nat} {A : Option Addr} {vs : List Value} (h : VRow w B A vs) (n : Nat) : VRow (w.drewN n) B A vs := h
theorem VRow.of_block {w : World} {g : Nat} {t : TypeId} {fr : Nat × Nat} {cs : Array Value} (hg : w.heap[g]? = some (.cells cs t fr)) (vs : List Value) (hp : vs <+: cs.toList) : VRow w w.heap.size (some ⟨g, 0, none⟩) vs := fun hn => by
  refine ⟨g, 0, rfl, block_lt hg, fun i v hv => ?_⟩
  obtain ⟨r, hr⟩ := hp
  have hi : i < vs.length := (List.getElem?_eq_some_iff.1 hv).1
  rw [Nat.zero_add, cell_of_row w g i _ _ _ hg, ← Array.getElem?_toList, ← hr, List.getElem?_append_left hi, hv]
theorem VRow.new (w : World) (t : TypeId) (vs : List Value) : VRow (w.alloc (.cells vs.toArray t)) (w.alloc (.cells vs.toArray t)).heap.size (some ⟨w.heap.size, 0, none⟩) vs :=
  VRow.of_block (heap_alloc_new w _) vs (by simp)
theorem VRow.front {w : World} {B : Nat} {A : Option Addr} {vs ws : List Value} (h : VRow w B A vs) (hp : ws <+: vs) : VRow w B A ws := fun hn => by
  obtain ⟨r, rfl⟩ := hp
  obtain ⟨b, o, e, hb, hc⟩ := h (by rw [List.length_append]; omega)
  exact ⟨b, o, e, hb, fun i v hv => hc i v (by rw [List.getElem?_append_left (List.getElem?_eq_some_iff.1 hv).1]; exact hv)⟩
theorem VRow.of_own {w : World} {base size n : Nat} {e : TypeId} {v : Value} {xs : List Value} (h : w.ownsRow base e size v n xs) :
    ∃ A c, v = .slice A n c ∧ VRow w w.heap.size A xs ∧ n ≤ c ∧ c ≤ maxLen := by
  obtain ⟨hl, ⟨rfl, rfl⟩ | ⟨g, cap, cur, rfl, h1, h2, h3, h4, h5, h6⟩⟩ := h
  · have hx : xs = [] := List.eq_nil_of_length_eq_zero (by simpa using hl)
    subst hx
    exact ⟨none, 0, rfl, VRow.nil _ _ _, Nat.le_refl _, Nat.zero_le _⟩
  · exact ⟨_, cap, rfl, VRow.of_block h2 xs (by rw [← h6]; exact List.take_prefix _ _), h3, h4⟩

/-- The cells of a block that is known whole, as a range. -/
theorem rangeB {w : World} {g : Nat} {cs : List Value} {t : TypeId} (h : w.heap[g]? = some (.cells cs.toArray t (0, 0))) : w.rangeAt g 0 cs := fun j v hv => by
  rw [Nat.zero_add, cell_of_row w g j _ _ _ h, ← hv]; simp
theorem rangeBelow {w w' : World} {B b o : Nat} {cs : List Value} (h : w.rangeAt b o cs) (hb : Below B w w') (hlt : b < B) : w'.rangeAt b o cs := fun j v hv => (hb.cell (p := ⟨b, o + j, none⟩) hlt).trans (h j v hv)

section
variable {α : Type} {C : α → List Value} {k : Nat}
/-- The cells of a list of structs, one behind the other. -/
def flatV (C : α → List Value) (l : List α) : List Value := l.flatMap C
theorem flatV_nil : flatV C [] = [] := rfl
theorem flatV_cons (a : α) (l : List α) : flatV C (a :: l) = C a ++ flatV C l := rfl
theorem flatV_append (l m : List α) : flatV C (l ++ m) = flatV C l ++ flatV C m := by simp [flatV]
theorem flatV_one (a : α) : flatV C [a] = C a := by simp [flatV]
theorem flatV_take (l : List α) (n : Nat) : flatV C (l.take n) <+: flatV C l := ⟨flatV C (l.drop n), by rw [← flatV_append, List.take_append_drop]⟩
variable (hC : ∀ a, (C a).length = k)
include hC
theorem flatV_len (l : List α) : (flatV C l).length = l.length * k := by
  induction l with
  | nil => simp [flatV]
  | cons a l ih => rw [flatV_cons, List.length_append, ih, hC, List.length_cons, Nat.succ_mul]; omega
theorem flatV_get (l : List α) (i : Nat) (h : i < l.length) (j : Nat) (hj : j < k) : (flatV C l)[i * k + j]? = (C l[i])[j]? := by
  induction l generalizing i with
  | nil => simp at h
  | cons a l ih =>
    rw [flatV_cons]
    cases i with
    | zero => rw [Nat.zero_mul, Nat.zero_add, List.getElem?_append_left (by rw [hC]; exact hj)]; rfl
    | succ i =>
      rw [show (i + 1) * k + j = k + (i * k + j) by rw [Nat.succ_mul]; omega]
      rw [List.getElem?_append_right (by rw [hC]; omega), hC, Nat.add_sub_cancel_left]
      exact ih i (by simpa using h)
/-- The cells of one struct of a list in memory. -/
theorem VRow.elem {w : World} {B : Nat} {A : Option Addr} {l : List α} (h : VRow w B A (flatV C l)) (hk : 0 < k) {i : Nat} (hi : i < l.length) :
    ∃ b o, A = some ⟨b, o, none⟩ ∧ b < B ∧ ∀ j v, (C l[i])[j]? = some v → w.cell? ⟨b, o + i * k + j, none⟩ = some v := by
  have hpos : 0 < (flatV C l).length := by rw [flatV_len hC]; exact Nat.mul_pos (by omega) hk
  obtain ⟨b, o, e, hb, hc⟩ := h hpos
  refine ⟨b, o, e, hb, fun j v hv => ?_⟩
  have hj : j < k := by have := (List.getElem?_eq_some_iff.1 hv).1; rw [hC] at this; exact this
  rw [Nat.add_assoc]
  exact hc _ _ (by rw [flatV_get hC l i hi j hj]; exact hv)
theorem VRow.range {w : World} {B : Nat} {A : Option Addr} {l : List α} (h : VRow w B A (flatV C l)) (hk : 0 < k) {i : Nat} (hi : i < l.length) :
    ∃ b o, A = some ⟨b, o, none⟩ ∧ b < B ∧ w.rangeAt b (o + i * k) (C l[i]) := h.elem hC hk hi
end

/-- Stores of several values, one behind the other, into an array. -/
def setL (arr : Array Value) (p : Nat) : List Value → Array Value
  | [] => arr
  | v :: vs => setL (arr.setIfInBounds p v) (p + 1) vs
theorem setL_size (arr : Array Value) (p : Nat) (vs : List Value) : (setL arr p vs).size = arr.size := by
  induction vs generalizing arr p with
  | nil => rfl
  | cons v vs ih => rw [setL, ih]; simp
theorem setL_get (arr : Array Value) (p : Nat) (vs : List Value) (i : Nat) (h : i < p) : (setL arr p vs)[i]? = arr[i]? := by
  induction vs generalizing arr p with
  | nil => rfl
  | cons v vs ih => rw [setL, ih _ _ (by omega), Array.getElem?_setIfInBounds_ne (by omega)]
theorem setL_at (arr : Array Value) (p : Nat) (vs : List Value) (j : Nat) (v : Value) (hv : vs[j]? = some v) (h : p + j < arr.size) : (setL arr p vs)[p + j]? = some v := by
  induction vs generalizing arr p j with
  | nil => simp at hv
  | cons u vs ih =>
    rw [setL]
    cases j with
    | zero =>
      rw [setL_get _ _ _ _ (by omega)]
      simp only [List.getElem?_cons_zero, Option.some.injEq] at hv
      subst hv
      simp only [Nat.add_zero] at h ⊢
      simp [h]
    | succ j =>
      rw [show p + (j + 1) = p + 1 + j by omega]
      exact ih _ _ j (by simpa using hv) (by simp; omega)
/-- A list that is being laid down, struct by struct. -/
theorem setL_take (arr : Array Value) (p : Nat) (vs : List Value) (h : p + vs.length ≤ arr.size) : (setL arr p vs).toList.take (p + vs.length) = arr.toList.take p ++ vs := by
  refine List.ext_getElem? fun i => ?_
  by_cases h1 : i < p
  · rw [List.getElem?_take_of_lt (by omega), List.getElem?_append_left (by rw [List.length_take, Array.length_toList]; omega), List.getElem?_take_of_lt h1, Array.getElem?_toList, Array.getElem?_toList, setL_get _ _ _ _ h1]
  · by_cases h2 : i < p + vs.length
    · obtain ⟨j, rfl⟩ : ∃ j, i = p + j := ⟨i - p, by omega⟩
      have hj : j < vs.length := by omega
      rw [List.getElem?_take_of_lt h2, Array.getElem?_toList, setL_at _ _ _ j vs[j] (List.getElem?_eq_getElem hj) (by omega), List.getElem?_append_right (by rw [List.length_take, Array.length_toList]; omega), List.length_take, Array.length_toList, show p + j - min p arr.size = j by omega, List.getElem?_eq_getElem hj]
    · have e1 : (setL arr p vs).toList.length = arr.size := by rw [Array.length_toList, setL_size]
      have e2 : ((setL arr p vs).toList.take (p + vs.length)).length ≤ p + vs.length := List.length_take_le _ _
      have e3 : (arr.toList.take p ++ vs).length ≤ p + vs.length := by rw [List.length_append]; have := List.length_take_le p arr.toList; omega
      rw [List.getElem?_eq_none (by omega), List.getElem?_eq_none (by omega)]
end Go.Proofs.Ytcmbdhmhkfhjfaa
namespace Go.Proofs.Ytcmbdhmhkfhjfaa
open Go.RowKit
set_option linter.unusedVariables false

/-- A tag as plain data. -/
structure Tg where
  nm : ByteArray
  un : Int
  ki : Int
  ad : Int
  ev : Int
  we : Bool
  sg : Bool
  sw : Bool
  mu : Int
  di : Int
  aa : Int
  de : Int
  qu : Int
  ul : Bool
  uh : Bool
  la : Bool
  lo : Int
  hi : Int
  hy : Int
def Tg.Ok (t : Tg) : Prop := t.nm.size ≤ maxLen ∧ ((-9223372036854775808 ≤ t.un ∧ t.un < 9223372036854775808) ∧ (-9223372036854775808 ≤ t.ki ∧ t.ki < 9223372036854775808) ∧ (-9223372036854775808 ≤ t.ad ∧ t.ad < 9223372036854775808) ∧ (-9223372036854775808 ≤ t.ev ∧ t.ev < 9223372036854775808)) ∧ ((-9223372036854775808 ≤ t.mu ∧ t.mu < 9223372036854775808) ∧ (-9223372036854775808 ≤ t.di ∧ t.di < 9223372036854775808) ∧ (-9223372036854775808 ≤ t.aa ∧ t.aa < 9223372036854775808)) ∧ ((-9223372036854775808 ≤ t.de ∧ t.de < 9223372036854775808) ∧ (-9223372036854775808 ≤ t.qu ∧ t.qu < 9223372036854775808)) ∧ ((-9223372036854775808 ≤ t.lo ∧ t.lo < 9223372036854775808) ∧ (-9223372036854775808 ≤ t.hi ∧ t.hi < 9223372036854775808) ∧ (-9223372036854775808 ≤ t.hy ∧ t.hy < 9223372036854775808))
def Tg.sc (t : Tg) : Sc := ⟨t.we, t.sg, t.sw, t.mu, t.di, t.aa⟩
def Tg.li (t : Tg) : Lim := ⟨t.ul, t.uh, t.la, t.lo, t.hi, t.hy⟩
/-- A tag's cells, and a tag as a value. -/
def tgC : Tg → List Value | ⟨nm, un, ki, ad, ev, we, sg, sw, mu, di, aa, de, qu, ul, uh, la, lo, hi, hy⟩ => [.string nm, .int .i64 un, .int .i64 ki, .int .i64 ad, .int .i64 ev, .bool we, .bool sg, .bool sw, .int .i64 mu, .int .i64 di, .int .i64 aa, .int .i64 de, .int .i64 qu, .bool ul, .bool uh, .bool la, .int .i64 lo, .int .i64 hi, .int .i64 hy]
def tgV (t : Tg) : Value := .agg (tgC t).toArray
theorem tgC_len (t : Tg) : (tgC t).length = 19 := rfl

def widT (t : Tg) : Int := bif (decide (t.ki = 3) || decide (t.ki = 4)) && t.we then 2 else 1
theorem widT_le (t : Tg) : 1 ≤ widT t ∧ widT t ≤ 2 := by
  unfold widT; cases (decide (t.ki = 3) || decide (t.ki = 4)) && t.we <;> simp
/-- A bit's scale. -/
def bitS (t : Tg) : Bool := (!t.we && (!t.sg && !t.sw)) && (decide (t.mu = 1) && (decide (t.di = 1) && decide (t.aa = 0)))
/-- What is wrong with a tag. -/
def chkT (t : Tg) : Int :=
  bif !nameB (bys t.nm) then 8
  else bif decide (t.un < 1) || decide (t.un > 247) then 24
  else bif decide (t.ki < 1) || decide (t.ki > 4) then 28
  else bif decide (t.ad < 0) || decide (t.ad > 65536 - widT t) then 21
  else bif decide (t.ev < 1) || decide (t.ev > 1048576) then 3
  else bif !decide (t.sc.Ok) then 25
  else bif decide (t.ki ≤ 2) && !bitS t then 25
  else bif !decide (chkB t.de t.qu = 0) then 26
  else chkL t.li
theorem chkB_two (d q : Int) : chkB d q = 0 ∨ chkB d q = 26 := by unfold chkB; split <;> simp
theorem chkL_two (l : Lim) : chkL l = 0 ∨ chkL l = 27 := by unfold chkL; cases okL l <;> simp
/-- The ways through the document's Check. -/
theorem tag_cases (t : Tg) (P : Prop)
    (c1 : nameB (bys t.nm) = false → chkT t = 8 → P)
    (c2 : nameB (bys t.nm) = true → t.un < 1 → chkT t = 24 → P)
    (c3 : nameB (bys t.nm) = true → ¬ t.un < 1 → t.un > 247 → chkT t = 24 → P)
    (c4 : nameB (bys t.nm) = true → ¬ t.un < 1 → ¬ t.un > 247 → t.ki < 1 → chkT t = 28 → P)
    (c5 : nameB (bys t.nm) = true → ¬ t.un < 1 → ¬ t.un > 247 → ¬ t.ki < 1 → t.ki > 4 → chkT t = 28 → P)
    (c6 : nameB (bys t.nm) = true → ¬ t.un < 1 → ¬ t.un > 247 → ¬ t.ki < 1 → ¬ t.ki > 4 → t.ad < 0 → chkT t = 21 → P)
    (c7 : nameB (bys t.nm) = true → ¬ t.un < 1 → ¬ t.un > 247 → ¬ t.ki < 1 → ¬ t.ki > 4 → ¬ t.ad < 0 → t.ad > 65536 - widT t → chkT t = 21 → P)
    (c8 : nameB (bys t.nm) = true → ¬ t.un < 1 → ¬ t.un > 247 → ¬ t.ki < 1 → ¬ t.ki > 4 → ¬ t.ad < 0 → ¬ t.ad > 65536 - widT t → t.ev < 1 → chkT t = 3 → P)
    (c9 : nameB (bys t.nm) = true → ¬ t.un < 1 → ¬ t.un > 247 → ¬ t.ki < 1 → ¬ t.ki > 4 → ¬ t.ad < 0 → ¬ t.ad > 65536 - widT t → ¬ t.ev < 1 → t.ev > 1048576 → chkT t = 3 → P)
    (c10 : nameB (bys t.nm) = true → ¬ t.un < 1 → ¬ t.un > 247 → ¬ t.ki < 1 → ¬ t.ki > 4 → ¬ t.ad < 0 → ¬ t.ad > 65536 - widT t → ¬ t.ev < 1 → ¬ t.ev > 1048576 → chkS t.sc = 25 → chkT t = 25 → P)
    (c11 : nameB (bys t.nm) = true → ¬ t.un < 1 → ¬ t.un > 247 → ¬ t.ki < 1 → ¬ t.ki > 4 → ¬ t.ad < 0 → ¬ t.ad > 65536 - widT t → ¬ t.ev < 1 → ¬ t.ev > 1048576 → chkS t.sc = 0 → t.ki ≤ 2 → bitS t = false → chkT t = 25 → P)
    (c12 : nameB (bys t.nm) = true → ¬ t.un < 1 → ¬ t.un > 247 → ¬ t.ki < 1 → ¬ t.ki > 4 → ¬ t.ad < 0 → ¬ t.ad > 65536 - widT t → ¬ t.ev < 1 → ¬ t.ev > 1048576 → chkS t.sc = 0 → (¬ t.ki ≤ 2 ∨ bitS t = true) → chkB t.de t.qu = 26 → chkT t = 26 → P)
    (c13 : nameB (bys t.nm) = true → ¬ t.un < 1 → ¬ t.un > 247 → ¬ t.ki < 1 → ¬ t.ki > 4 → ¬ t.ad < 0 → ¬ t.ad > 65536 - widT t → ¬ t.ev < 1 → ¬ t.ev > 1048576 → chkS t.sc = 0 → (¬ t.ki ≤ 2 ∨ bitS t = true) → chkB t.de t.qu = 0 → chkT t = chkL t.li → P) : P := by
  unfold chkT at c1 c2 c3 c4 c5 c6 c7 c8 c9 c10 c11 c12 c13
  cases h1 : nameB (bys t.nm)
  · exact c1 h1 (by simp [h1])
  by_cases h2 : t.un < 1
  · exact c2 h1 h2 (by simp [h1, h2])
  by_cases h3 : t.un > 247
  · exact c3 h1 h2 h3 (by simp [h1, h2, h3])
  by_cases h4 : t.ki < 1
  · exact c4 h1 h2 h3 h4 (by simp [h1, h2, h3, h4])
  by_cases h5 : t.ki > 4
  · exact c5 h1 h2 h3 h4 h5 (by simp [h1, h2, h3, h4, h5])
  by_cases h6 : t.ad < 0
  · exact c6 h1 h2 h3 h4 h5 h6 (by simp [h1, h2, h3, h4, h5, h6])
  by_cases h7 : t.ad > 65536 - widT t
  · exact c7 h1 h2 h3 h4 h5 h6 h7 (by simp [h1, h2, h3, h4, h5, h6, h7])
  by_cases h8 : t.ev < 1
  · exact c8 h1 h2 h3 h4 h5 h6 h7 h8 (by simp [h1, h2, h3, h4, h5, h6, h7, h8])
  by_cases h9 : t.ev > 1048576
  · exact c9 h1 h2 h3 h4 h5 h6 h7 h8 h9 (by simp [h1, h2, h3, h4, h5, h6, h7, h8, h9])
  by_cases h10 : t.sc.Ok
  case neg => exact c10 h1 h2 h3 h4 h5 h6 h7 h8 h9 (chkS_no h10) (by simp [h1, h2, h3, h4, h5, h6, h7, h8, h9, h10])
  have hs := chkS_yes h10
  by_cases h11 : t.ki ≤ 2 ∧ bitS t = false
  · exact c11 h1 h2 h3 h4 h5 h6 h7 h8 h9 hs h11.1 h11.2 (by simp [h1, h2, h3, h4, h5, h6, h7, h8, h9, h10, h11])
  have h12 : (decide (t.ki ≤ 2) && !bitS t) = false := by
    by_cases h : t.ki ≤ 2
    · cases hb : bitS t
      · exact absurd ⟨h, hb⟩ h11
      · simp
    · simp [h]
  have h13 : ¬ t.ki ≤ 2 ∨ bitS t = true := by
    by_cases h : t.ki ≤ 2
    · cases hb : bitS t
      · exact absurd ⟨h, hb⟩ h11
      · exact .inr rfl
    · exact .inl h
  rcases chkB_two t.de t.qu with hb | hb
  · exact c13 h1 h2 h3 h4 h5 h6 h7 h8 h9 hs h13 hb (by simp only [h1, decide_eq_false h2, decide_eq_false h3, decide_eq_false h4, decide_eq_false h5, decide_eq_false h6, decide_eq_false h7, decide_eq_false h8, decide_eq_false h9, decide_eq_true h10, h12, hb]; rfl)
  · exact c12 h1 h2 h3 h4 h5 h6 h7 h8 h9 hs h13 hb (by simp only [h1, decide_eq_false h2, decide_eq_false h3, decide_eq_false h4, decide_eq_false h5, decide_eq_false h6, decide_eq_false h7, decide_eq_false h8, decide_eq_false h9, decide_eq_true h10, h12, hb]; rfl)
theorem bitS_no {t : Tg} (h : bitS t = false) : t.we = true ∨ t.sg = true ∨ t.sw = true ∨ t.mu ≠ 1 ∨ t.di ≠ 1 ∨ t.aa ≠ 0 := by
  unfold bitS at h
  simp only [Bool.and_eq_false_iff, Bool.not_eq_false', decide_eq_false_iff_not] at h
  rcases h with (h | h | h) | h | h | h
  · exact .inl h
  · exact .inr (.inl h)
  · exact .inr (.inr (.inl h))
  · exact .inr (.inr (.inr (.inl h)))
  · exact .inr (.inr (.inr (.inr (.inl h))))
  · exact .inr (.inr (.inr (.inr (.inr h))))
theorem bitS_yes {t : Tg} (h : bitS t = true) : t.we = false ∧ t.sg = false ∧ t.sw = false ∧ t.mu = 1 ∧ t.di = 1 ∧ t.aa = 0 := by
  unfold bitS at h
  simp only [Bool.and_eq_true, Bool.not_eq_true', decide_eq_true_eq] at h
  obtain ⟨⟨h1, h2, h3⟩, h4, h5, h6⟩ := h
  exact ⟨h1, h2, h3, h4, h5, h6⟩

/-- What is wrong with a tag behind another; with the tag at a place; with a table. -/
def badN (p t : Tg) : Int := bif t.nm.toList == p.nm.toList then 7 else bif Op.bytesLess t.nm.toList p.nm.toList then 29 else 0
def badT (p : Option Tg) (t : Tg) : Int := bif !decide (chkT t = 0) then chkT t else match p with | none => 0 | some p => badN p t
def ahead (l : List Tg) (i : Nat) : Option Tg := match i with | 0 => none | j + 1 => l[j]?
def badAt (l : List Tg) (i : Nat) : Int := match l[i]? with | none => 0 | some t => badT (ahead l i) t
def chkAll (l : List Tg) : Int × Int := if 64 < l.length then (34, 0) else match (List.range l.length).find? (fun i => !decide (badAt l i = 0)) with | some i => (badAt l i, (i : Int)) | none => (0, 0)
theorem chkAll_many {l : List Tg} (h : 64 < l.length) : chkAll l = (34, 0) := if_pos h
theorem chkAll_at {l : List Tg} (h : ¬ 64 < l.length) {k : Nat} {e : Int} (hk : k < l.length) (he : badAt l k = e) (hne : e ≠ 0) (hb : ∀ j, j < k → badAt l j = 0) : chkAll l = (e, (k : Int)) := by
  unfold chkAll
  rw [if_neg h]
  have : (List.range l.length).find? (fun i => !decide (badAt l i = 0)) = some k := by
    rw [List.find?_range_eq_some]
    refine ⟨by simp [he, hne], List.mem_range.2 hk, fun j hj => by simp [hb j hj]⟩
  rw [this]
  simp only [he]
theorem chkAll_none {l : List Tg} (h : ¬ 64 < l.length) (hb : ∀ j, j < l.length → badAt l j = 0) : chkAll l = (0, 0) := by
  unfold chkAll
  rw [if_neg h]
  have : (List.range l.length).find? (fun i => !decide (badAt l i = 0)) = none := by
    rw [List.find?_range_eq_none]
    exact fun j hj => by simp [hb j hj]
  rw [this]
theorem badAt_first {l : List Tg} (h : 0 < l.length) : badAt l 0 = chkT l[0] := by
  simp only [badAt, List.getElem?_eq_getElem h, ahead, badT]
  by_cases hc : chkT l[0] = 0 <;> simp [hc]
theorem badAt_chk {l : List Tg} {k : Nat} (h : k < l.length) (hc : chkT l[k] ≠ 0) : badAt l k = chkT l[k] := by
  simp only [badAt, List.getElem?_eq_getElem h, badT]
  simp [hc]
theorem badAt_next {l : List Tg} {k : Nat} (h : k + 1 < l.length) (hc : chkT l[k + 1] = 0) : badAt l (k + 1) = badN l[k] l[k + 1] := by
  have h0 : l[k]? = some l[k] := List.getElem?_eq_getElem (by omega)
  simp only [badAt, List.getElem?_eq_getElem h, ahead, h0, badT]
  simp [hc]
end Go.Proofs.Ytcmbdhmhkfhjfaa
namespace Go.Proofs.Ytcmbdhmhkfhjfaa
open Go.ChangeShapes Go.WideShapes Go.ChangeAt Go.RowKit Go.Deep
set_option linter.unusedVariables false
set_option maxRecDepth 100000

section
variable {H : Type} {enc : TypeId × Value → H} {W : World}

set_option maxHeartbeats 1000000 in
/-- The cells of a tag that can be read are a tag's. -/
theorem tag_cells {base : Nat} {spare : Nat → Bool} {held : Bool} {fuel : Nat} {cs : List Value} {x : DataW H × List MemPlace} (h : DataW.trod enc Try.prog W base spare held fuel 49 cs = some x) (hl : cs.length = 19) :
    ∃ t : Tg, cs = tgC t ∧ Tg.Ok t := by
  match cs, hl with
  | [c0, c1, c2, c3, c4, c5, c6, c7, c8, c9, c10, c11, c12, c13, c14, c15, c16, c17, c18], _ =>
  obtain ⟨ys, n, _, _, _, hyl, hf⟩ := DataW.trod_struct Try.underlying49 h
  have s1 : Try.prog.cellsOf 9 = 1 := by kernel_rfl
  have s2 : Try.prog.cellsOf 3 = 1 := by kernel_rfl
  have s3 : Try.prog.cellsOf 43 = 6 := by kernel_rfl
  have s4 : Try.prog.cellsOf 45 = 2 := by kernel_rfl
  have s5 : Try.prog.cellsOf 47 = 6 := by kernel_rfl
  have s6 : Try.prog.cellsOf 4 = 1 := by kernel_rfl
  match ys, hyl with
  | [y0, y1, y2, y3, y4, y5, y6, y7], _ =>
  have t0 : DataW.trod enc Try.prog W base spare held n 9 [c0] = some y0 := by simpa [s1, s2, s3, s4, s5] using hf 0 _ rfl
  have t1 : DataW.trod enc Try.prog W base spare held n 3 [c1] = some y1 := by simpa [s1, s2, s3, s4, s5] using hf 1 _ rfl
  have t2 : DataW.trod enc Try.prog W base spare held n 3 [c2] = some y2 := by simpa [s1, s2, s3, s4, s5] using hf 2 _ rfl
  have t3 : DataW.trod enc Try.prog W base spare held n 3 [c3] = some y3 := by simpa [s1, s2, s3, s4, s5] using hf 3 _ rfl
  have t4 : DataW.trod enc Try.prog W base spare held n 3 [c4] = some y4 := by simpa [s1, s2, s3, s4, s5] using hf 4 _ rfl
  have t5 : DataW.trod enc Try.prog W base spare held n 43 [c5, c6, c7, c8, c9, c10] = some y5 := by simpa [s1, s2, s3, s4, s5] using hf 5 _ rfl
  have t6 : DataW.trod enc Try.prog W base spare held n 45 [c11, c12] = some y6 := by simpa [s1, s2, s3, s4, s5] using hf 6 _ rfl
  have t7 : DataW.trod enc Try.prog W base spare held n 47 [c13, c14, c15, c16, c17, c18] = some y7 := by simpa [s1, s2, s3, s4, s5] using hf 7 _ rfl
  clear hf
  obtain ⟨zs5, n5, _, _, _, hz5, hg5⟩ := DataW.trod_struct Try.underlying43 t5
  match zs5, hz5 with
  | [z5_0, z5_1, z5_2, z5_3, z5_4, z5_5], _ =>
  have u5_0 : DataW.trod enc Try.prog W base spare held n5 4 [c5] = some z5_0 := by simpa [s2, s6] using hg5 0 _ rfl
  have u5_1 : DataW.trod enc Try.prog W base spare held n5 4 [c6] = some z5_1 := by simpa [s2, s6] using hg5 1 _ rfl
  have u5_2 : DataW.trod enc Try.prog W base spare held n5 4 [c7] = some z5_2 := by simpa [s2, s6] using hg5 2 _ rfl
  have u5_3 : DataW.trod enc Try.prog W base spare held n5 3 [c8] = some z5_3 := by simpa [s2, s6] using hg5 3 _ rfl
  have u5_4 : DataW.trod enc Try.prog W base spare held n5 3 [c9] = some z5_4 := by simpa [s2, s6] using hg5 4 _ rfl
  have u5_5 : DataW.trod enc Try.prog W base spare held n5 3 [c10] = some z5_5 := by simpa [s2, s6] using hg5 5 _ rfl
  obtain ⟨zs6, n6, _, _, _, hz6, hg6⟩ := DataW.trod_struct Try.underlying45 t6
  match zs6, hz6 with
  | [z6_0, z6_1], _ =>
  have u6_0 : DataW.trod enc Try.prog W base spare held n6 3 [c11] = some z6_0 := by simpa [s2, s6] using hg6 0 _ rfl
  have u6_1 : DataW.trod enc Try.prog W base spare held n6 3 [c12] = some z6_1 := by simpa [s2, s6] using hg6 1 _ rfl
  obtain ⟨zs7, n7, _, _, _, hz7, hg7⟩ := DataW.trod_struct Try.underlying47 t7
  match zs7, hz7 with
  | [z7_0, z7_1, z7_2, z7_3, z7_4, z7_5], _ =>
  have u7_0 : DataW.trod enc Try.prog W base spare held n7 4 [c13] = some z7_0 := by simpa [s2, s6] using hg7 0 _ rfl
  have u7_1 : DataW.trod enc Try.prog W base spare held n7 4 [c14] = some z7_1 := by simpa [s2, s6] using hg7 1 _ rfl
  have u7_2 : DataW.trod enc Try.prog W base spare held n7 4 [c15] = some z7_2 := by simpa [s2, s6] using hg7 2 _ rfl
  have u7_3 : DataW.trod enc Try.prog W base spare held n7 3 [c16] = some z7_3 := by simpa [s2, s6] using hg7 3 _ rfl
  have u7_4 : DataW.trod enc Try.prog W base spare held n7 3 [c17] = some z7_4 := by simpa [s2, s6] using hg7 4 _ rfl
  have u7_5 : DataW.trod enc Try.prog W base spare held n7 3 [c18] = some z7_5 := by simpa [s2, s6] using hg7 5 _ rfl
  obtain ⟨v0, e0, _, w0⟩ := DataW.trod_string Try.underlying9 t0
  injection e0 with e0
  subst e0
  obtain ⟨v1, e1, _, w1⟩ := DataW.trod_int Try.underlying3 t1
  injection e1 with e1
  subst e1
  obtain ⟨v2, e2, _, w2⟩ := DataW.trod_int Try.underlying3 t2
  injection e2 with e2
  subst e2
  obtain ⟨v3, e3, _, w3⟩ := DataW.trod_int Try.underlying3 t3
  injection e3 with e3
  subst e3
  obtain ⟨v4, e4, _, w4⟩ := DataW.trod_int Try.underlying3 t4
  injection e4 with e4
  subst e4
  obtain ⟨v5, e5, _⟩ := DataW.trod_bool Try.underlying4 u5_0
  injection e5 with e5
  subst e5
  obtain ⟨v6, e6, _⟩ := DataW.trod_bool Try.underlying4 u5_1
  injection e6 with e6
  subst e6
  obtain ⟨v7, e7, _⟩ := DataW.trod_bool Try.underlying4 u5_2
  injection e7 with e7
  subst e7
  obtain ⟨v8, e8, _, w8⟩ := DataW.trod_int Try.underlying3 u5_3
  injection e8 with e8
  subst e8
  obtain ⟨v9, e9, _, w9⟩ := DataW.trod_int Try.underlying3 u5_4
  injection e9 with e9
  subst e9
  obtain ⟨v10, e10, _, w10⟩ := DataW.trod_int Try.underlying3 u5_5
  injection e10 with e10
  subst e10
  obtain ⟨v11, e11, _, w11⟩ := DataW.trod_int Try.underlying3 u6_0
  injection e11 with e11
  subst e11
  obtain ⟨v12, e12, _, w12⟩ := DataW.trod_int Try.underlying3 u6_1
  injection e12 with e12
  subst e12
  obtain ⟨v13, e13, _⟩ := DataW.trod_bool Try.underlying4 u7_0
  injection e13 with e13
  subst e13
  obtain ⟨v14, e14, _⟩ := DataW.trod_bool Try.underlying4 u7_1
  injection e14 with e14
  subst e14
  obtain ⟨v15, e15, _⟩ := DataW.trod_bool Try.underlying4 u7_2
  injection e15 with e15
  subst e15
  obtain ⟨v16, e16, _, w16⟩ := DataW.trod_int Try.underlying3 u7_3
  injection e16 with e16
  subst e16
  obtain ⟨v17, e17, _, w17⟩ := DataW.trod_int Try.underlying3 u7_4
  injection e17 with e17
  subst e17
  obtain ⟨v18, e18, _, w18⟩ := DataW.trod_int Try.underlying3 u7_5
  injection e18 with e18
  subst e18
  exact ⟨⟨v0, v1, v2, v3, v4, v5, v6, v7, v8, v9, v10, v11, v12, v13, v14, v15, v16, v17, v18⟩, rfl, w0, ⟨wf_i64 w1, wf_i64 w2, wf_i64 w3, wf_i64 w4⟩, ⟨wf_i64 w8, wf_i64 w9, wf_i64 w10⟩, ⟨wf_i64 w11, wf_i64 w12⟩, wf_i64 w16, wf_i64 w17, wf_i64 w18⟩
/-- A tag, by value. -/
theorem tag_in {r : Reach} {b0 : Nat} {v : Value} {d : DataW H} {p : List MemPlace}
    (hv : Value.okWide Try.prog W r b0 49 v) (h : DataW.Trod enc Try.prog W 0 (fun _ => true) true 49 v d p) : ∃ t : Tg, v = tgV t ∧ Tg.Ok t := by
  obtain ⟨cells, rfl, hsz⟩ := okWide_struct Try.underlying49 hv
  have s0 : Try.prog.cellsOf 49 = 19 := by kernel_rfl
  obtain ⟨l⟩ := cells
  obtain ⟨fuel, hf⟩ := h
  obtain ⟨t, e, ok⟩ := tag_cells hf (hsz.trans s0)
  exact ⟨t, by rw [show l = tgC t from e]; rfl, ok⟩
/-- A list of tags. -/
theorem tags_in {a : Option Addr} {len cap : Nat} {d : DataW H} {p : List MemPlace}
    (h : DataW.Trod enc Try.prog W 0 (fun _ => true) true 36 (.slice a len cap) d p) (lt : ∀ x ∈ p, x.block < W.heap.size) :
    ∃ l : List Tg, VRow W W.heap.size a (flatV tgC l) ∧ l.length = len ∧ (∀ t ∈ l, Tg.Ok t) ∧ len ≤ cap ∧ (cap = 0 ∨ ∃ el sp, d = .slice el sp ∧ cap ≤ el.length + sp.length) := by
  have s0 : Try.prog.cellsOf 49 = 19 := by kernel_rfl
  obtain ⟨fuel, hf⟩ := h
  rcases open_slice Try.underlying36 hf with ⟨hcs, _⟩ | ⟨x, l, c, m, n, D, Pl, hcs, _, hl, hm, hmm, hx, hi⟩
  · injection hcs with hcs
    injection hcs with e1 e2 e3
    subst e1 e2 e3
    exact ⟨[], VRow.nil _ _ _, rfl, fun _ h => absurd h (by simp), Nat.le_refl _, .inl rfl⟩
  · injection hcs with hcs
    injection hcs with e1 e2 e3
    subst e1 e2 e3
    have hm2 : m = cap := by simpa using hmm
    have hcap : cap = 0 ∨ ∃ el sp, d = .slice el sp ∧ cap ≤ el.length + sp.length := by
      right
      simp only [Prod.mk.injEq] at hx
      exact ⟨_, _, hx.1, by simp; omega⟩
    rcases Nat.eq_zero_or_pos len with hz | hpos
    · subst hz; exact ⟨[], VRow.nil _ _ _, rfl, fun _ h => absurd h (by simp), by omega, hcap⟩
    have tagi : ∀ i, ∃ t : Tg, i < m → (∀ j v, (tgC t)[j]? = some v → W.cell? (x.add (i * 19 + j)) = some v) ∧ Tg.Ok t := by
      intro i
      by_cases him : i < m
      · obtain ⟨cs', hc, ht'⟩ := hi i him
        rw [s0] at hc
        obtain ⟨_, hcl, hat⟩ := World.cells?_some hc
        obtain ⟨t, e, ok⟩ := tag_cells ht' hcl
        refine ⟨t, fun _ => ⟨fun j v hv => ?_, ok⟩⟩
        have hj : j < 19 := by have := (List.getElem?_eq_some_iff.1 hv).1; rwa [tgC_len] at this
        rw [← Go.Deep.add_add, hat j hj, e, hv]
      · exact ⟨⟨⟨#[]⟩, 0, 0, 0, 0, false, false, false, 0, 0, 0, 0, 0, false, false, false, 0, 0, 0⟩, fun h => absurd h him⟩
    obtain ⟨T, hT⟩ := Classical.axiomOfChoice tagi
    obtain ⟨b, off, spot⟩ := x
    have c0 := (hT 0 (by omega)).1 0 _ rfl
    have hspot : spot = none := by simpa [Addr.add] using World.cell?_spot c0
    subst hspot
    simp only [Prod.mk.injEq] at hx
    have hb : b < W.heap.size := by
      have := lt (.cell b off) (by
        rw [hx.2]
        refine List.mem_append.2 (.inl (MemPlace.mem_row.2 ⟨0, ?_, by simp⟩))
        rw [s0]; omega)
      exact this
    refine ⟨(List.range len).map T, fun _ => ⟨b, off, rfl, hb, fun i v hv => ?_⟩, by simp, fun t ht => ?_, by omega, hcap⟩
    · have hil : i < ((List.range len).map T).length * 19 := by
        have := (List.getElem?_eq_some_iff.1 hv).1
        rwa [flatV_len tgC_len] at this
      have hlen : ((List.range len).map T).length = len := by simp
      have hi2 : i / 19 < ((List.range len).map T).length := by omega
      have hg := flatV_get tgC_len ((List.range len).map T) (i / 19) hi2 (i % 19) (Nat.mod_lt _ (by omega))
      rw [show i / 19 * 19 + i % 19 = i by omega, hv] at hg
      have hg2 : (tgC (T (i / 19)))[i % 19]? = some v := by rw [hg]; simp
      have := (hT (i / 19) (by omega)).1 (i % 19) v hg2
      rw [show i / 19 * 19 + i % 19 = i by omega] at this
      rw [← Go.WideShapes.add_plain]
      exact this
    · obtain ⟨i, hi', rfl⟩ := List.mem_map.1 ht
      exact (hT i (by have := List.mem_range.1 hi'; omega)).2
theorem reach_tags {ts : List TypeId} {ds : List (DataW H)} (hsz : (DataW.weightsEach Try.prog ts ds).all (· ≤ reachBytes) = true) (j : Nat) {d : DataW H} {cap : Nat} (ht : ts[j]? = some 36) (hd : ds[j]? = some d)
    (h : cap = 0 ∨ ∃ el sp, d = .slice el sp ∧ cap ≤ el.length + sp.length) : cap * 128 ≤ 140737488351232 := by
  rcases h with rfl | ⟨el, sp, rfl, hle⟩
  · omega
  · have := sized_slice hsz ht hd Try.underlying36
    rw [show Try.prog.bytesOf 49 = 128 by kernel_rfl] at this
    simp only [reachBytes] at this
    omega
end
end Go.Proofs.Ytcmbdhmhkfhjfaa
namespace Go.Proofs.Ytcmbdhmhkfhjfaa
open Go.RowKit
set_option linter.unusedVariables false

def liesB (v lo hi : Int) : Bool := decide (lo ≤ v ∧ v ≤ hi)
theorem liesB_eq {v lo hi : Int} (h : lo ≤ hi) : (v == max lo (min v hi)) = liesB v lo hi := by
  rw [liesB, Bool.eq_iff_iff, beq_iff_eq, decide_eq_true_eq]; omega
theorem chkS_eq (wd sg sw : Bool) (mu di ad : Int) : chkS (⟨wd, sg, sw, mu, di, ad⟩ : Sc) = if (!(mu == 0) && liesB mu (-1000000) 1000000 && liesB di 1 1000000 && liesB ad (-1099511627776) 1099511627776 && (!sw || wd)) = true then 0 else 25 := by
  unfold chkS Sc.Ok
  congr 1
  simp only [Bool.and_eq_true, Bool.not_eq_true', Bool.or_eq_true, liesB, decide_eq_true_eq, beq_eq_false_iff_ne, ne_eq, eq_iff_iff, and_assoc]
  cases sw <;> cases wd <;> simp

theorem bring_any (v lo hi : Int) (w : World) : Calls Try.prog 60 #[.int .i64 v, .int .i64 lo, .int .i64 hi] w fun e w' => e = .returned (.int .i64 (max lo (min v hi))) ∧ w' = w := by
  go_enter Try.func60, Try.ntmps60
  go_wp2
  all_goals (go_ret; refine ⟨?_, rfl⟩; show Ending.returned (Value.int .i64 _) = Ending.returned (Value.int .i64 _); congr 2; omega)
theorem lies_at {v lo hi : Int} {b : Bool} (hle : lo ≤ hi) (h : Hid (liesB v lo hi = b)) (w : World) : Calls Try.prog 58 #[.int .i64 v, .int .i64 lo, .int .i64 hi] w fun e w' => e = .returned (.bool b) ∧ w' = w := by
  have h2 := (liesB_eq hle).trans h.out
  have H2 := Lib.hid h2
  clear h2
  go_enter Try.func58, Try.ntmps58
  go_wp2_with (go_at_call 60; refine (bring_any _ _ _ _).mono ?_; rintro e w' ⟨rfl, rfl⟩)
  rw [H2.out]
  go_ret
  exact ⟨rfl, rfl⟩


set_option maxHeartbeats 1000000 in
theorem Check6_any (wd sg sw : Bool) (mu di ad : Int) (w : World) : Calls Try.prog 53 #[.agg #[.bool wd, .bool sg, .bool sw, .int .i64 mu, .int .i64 di, .int .i64 ad]] w fun e w' => e = .returned (.int .i64 (chkS (⟨wd, sg, sw, mu, di, ad⟩ : Sc))) ∧ Below w.heap.size w w' := by
  obtain ⟨c, hc⟩ : ∃ c, Hid (chkS (⟨wd, sg, sw, mu, di, ad⟩ : Sc) = c) := ⟨_, Lib.hid rfl⟩
  rw [hc.out]
  have hc2 := hc.out
  rw [chkS_eq] at hc2
  obtain ⟨b0, h0⟩ : ∃ b, Hid ((mu == 0) = b) := ⟨_, Lib.hid rfl⟩
  obtain ⟨b1, h1⟩ : ∃ b, Hid (liesB mu (-1000000) 1000000 = b) := ⟨_, Lib.hid rfl⟩
  obtain ⟨b2, h2⟩ : ∃ b, Hid (liesB di 1 1000000 = b) := ⟨_, Lib.hid rfl⟩
  obtain ⟨b3, h3⟩ : ∃ b, Hid (liesB ad (-1099511627776) 1099511627776 = b) := ⟨_, Lib.hid rfl⟩
  rw [h0.out, h1.out, h2.out, h3.out] at hc2
  have HC := Lib.hid hc2
  have t0 := h0.out
  have bel := bel_alloc w (.cells #[.bool wd, .bool sg, .bool sw, .int .i64 mu, .int .i64 di, .int .i64 ad] 43)
  clear hc2 hc h0
  cases b0
  case true =>
    have HC2 : Hid (c = 25) := Lib.hid (by rw [← HC.out]; rfl)
    go_enter Try.func53, Try.ntmps53
    go_wp2
    go_ret
    exact ⟨by rw [HC2.out]; rfl, bel⟩
  case false =>
  cases b1
  case false =>
    have HC2 : Hid (c = 25) := Lib.hid (by rw [← HC.out]; rfl)
    go_enter Try.func53, Try.ntmps53
    go_wp2_with (go_at_call 58; refine (lies_at (by omega) h1 _).mono ?_; rintro e w' ⟨rfl, rfl⟩)
    go_ret
    exact ⟨by rw [HC2.out]; rfl, bel⟩
  case true =>
  cases b2
  case false =>
    have HC2 : Hid (c = 25) := Lib.hid (by rw [← HC.out]; rfl)
    go_enter Try.func53, Try.ntmps53
    go_wp2_with (go_at_call 58; (with_reducible first | refine (lies_at (by omega) h1 _).mono ?_ | refine (lies_at (by omega) h2 _).mono ?_); rintro e w' ⟨rfl, rfl⟩)
    go_ret
    exact ⟨by rw [HC2.out]; rfl, bel⟩
  case true =>
  cases b3
  case false =>
    have HC2 : Hid (c = 25) := Lib.hid (by rw [← HC.out]; rfl)
    go_enter Try.func53, Try.ntmps53
    go_wp2_with (go_at_call 58; (with_reducible first | refine (lies_at (by omega) h1 _).mono ?_ | refine (lies_at (by omega) h2 _).mono ?_ | refine (lies_at (by omega) h3 _).mono ?_); rintro e w' ⟨rfl, rfl⟩)
    go_ret
    exact ⟨by rw [HC2.out]; rfl, bel⟩
  case true =>
  cases sw
  case false =>
    have HC2 : Hid (c = 0) := Lib.hid (by rw [← HC.out]; rfl)
    go_enter Try.func53, Try.ntmps53
    go_wp2_with (go_at_call 58; (with_reducible first | refine (lies_at (by omega) h1 _).mono ?_ | refine (lies_at (by omega) h2 _).mono ?_ | refine (lies_at (by omega) h3 _).mono ?_); rintro e w' ⟨rfl, rfl⟩)
    go_ret
    exact ⟨by rw [HC2.out]; rfl, bel⟩
  case true =>
  cases wd
  all_goals
    go_enter Try.func53, Try.ntmps53
    go_wp2_with (go_at_call 58; (with_reducible first | refine (lies_at (by omega) h1 _).mono ?_ | refine (lies_at (by omega) h2 _).mono ?_ | refine (lies_at (by omega) h3 _).mono ?_); rintro e w' ⟨rfl, rfl⟩)
    go_ret
    exact ⟨by rw [← HC.out]; rfl, bel⟩
end Go.Proofs.Ytcmbdhmhkfhjfaa
namespace Go.Proofs.Ytcmbdhmhkfhjfaa
open Go.RowKit
set_option linter.unusedVariables false

end Go.Proofs.Ytcmbdhmhkfhjfaa
namespace Go.Proofs.Ytcmbdhmhkfhjfaa
open Go.RowKit
set_option linter.unusedVariables false

theorem sub_uint (a b : Int) (ha : (-9223372036854775808 ≤ a ∧ a < 9223372036854775808)) (hb : (-9223372036854775808 ≤ b ∧ b < 9223372036854775808)) (h : b ≤ a) : IntKind.u64.wrap (IntKind.u64.wrap a - IntKind.u64.wrap b) = a - b := by
  simp only [IntKind.wrap_u64]; omega
theorem distI_hi {a b : Int} (h : b ≤ a) : distI a b = a - b := by unfold distI; omega
theorem distI_lo {a b : Int} (h : a ≤ b) : distI a b = b - a := by unfold distI; omega
theorem distI_lt {a b : Int} (ha : (-9223372036854775808 ≤ a ∧ a < 9223372036854775808)) (hb : (-9223372036854775808 ≤ b ∧ b < 9223372036854775808)) : distI a b < 18446744073709551616 := by unfold distI; omega

theorem farB_pos {d : Int} (a b : Int) (h : 0 ≤ d) : farB7 d a b = decide (d < distI a b) := by unfold farB7; rw [show max d 0 = d by omega]
theorem farB_neg {d : Int} (a b : Int) (h : d < 0) : farB7 d a b = decide (0 < distI a b) := by unfold farB7; rw [show max d 0 = 0 by omega]
theorem bel_three (w : World) (a b c : Obj) (n : Nat) : Below w.heap.size w ((((w.alloc a).alloc b).alloc c).drewN n) :=
  below_drewN (((bel_alloc w a).alloc (by simp) b).alloc (by simp; omega) c) n
end Go.Proofs.Ytcmbdhmhkfhjfaa
namespace Go.Proofs.Ytcmbdhmhkfhjfaa
open Go.RowKit
set_option linter.unusedVariables false

/-- Four boxes that a call has made, one behind the other, known whole, and what was there as it was. -/
def Four (w0 : World) (a b c d : Obj) (w : World) : Prop :=
  w.heap[w0.heap.size]? = some a ∧ w.heap[w0.heap.size + 1]? = some b ∧ w.heap[w0.heap.size + 1 + 1]? = some c ∧ w.heap[w0.heap.size + 1 + 1 + 1]? = some d ∧ w0.heap.size + 4 ≤ w.heap.size ∧ Below w0.heap.size w0 w
theorem Four.new (w : World) (a b c d : Obj) : Four w a b c d ((((w.alloc a).alloc b).alloc c).alloc d) := by
  have s1 : (w.alloc a).heap.size = w.heap.size + 1 := by simp
  have s2 : ((w.alloc a).alloc b).heap.size = w.heap.size + 1 + 1 := by simp
  have s3 : (((w.alloc a).alloc b).alloc c).heap.size = w.heap.size + 1 + 1 + 1 := by simp
  refine ⟨?_, ?_, ?_, ?_, by simp, (((bel_alloc w a).alloc (by simp) b).alloc (by simp; omega) c).alloc (by simp; omega) d⟩
  · exact (heap_alloc_old _ _ (by omega)).trans ((heap_alloc_old _ _ (by omega)).trans ((heap_alloc_old _ _ (by omega)).trans (heap_alloc_new _ _)))
  · rw [← s1]; exact (heap_alloc_old _ _ (by omega)).trans ((heap_alloc_old _ _ (by omega)).trans (heap_alloc_new _ _))
  · rw [← s2]; exact (heap_alloc_old _ _ (by omega)).trans (heap_alloc_new _ _)
  · rw [← s3]; exact heap_alloc_new _ _
theorem Four.below {w0 w w' : World} {a b c d : Obj} (h : Four w0 a b c d w) (hb : Below w.heap.size w w') : Four w0 a b c d w' := by
  obtain ⟨h1, h2, h3, h4, h5, h6⟩ := h
  exact ⟨(hb.block _ (by omega)).trans h1, (hb.block _ (by omega)).trans h2, (hb.block _ (by omega)).trans h3, (hb.block _ (by omega)).trans h4, by have := hb.size; omega, h6.trans (hb.mono (by omega))⟩
theorem Four.bel {w0 w : World} {a b c d : Obj} (h : Four w0 a b c d w) : Below w0.heap.size w0 w := h.2.2.2.2.2
/-- A store into the fourth box. -/
theorem Four.set {w0 w : World} {a b c : Obj} {cs : Array Value} {t : TypeId} (h : Four w0 a b c (.cells cs t (0, 0)) w) (i : Nat) (v : Value) : Four w0 a b c (.cells (cs.setIfInBounds i v) t (0, 0)) (w.setCell ⟨w0.heap.size + 1 + 1 + 1, i, none⟩ v) := by
  obtain ⟨h1, h2, h3, h4, h5, h6⟩ := h
  refine ⟨(Below.heap_setCell w _ v _ (by simp only [ne_eq]; omega)).trans h1, (Below.heap_setCell w _ v _ (by simp only [ne_eq]; omega)).trans h2, (Below.heap_setCell w _ v _ (by simp only [ne_eq]; omega)).trans h3, box_set h4 i v, by simpa [World.setCell] using h5, below_setCell h6 (by omega) i v⟩
theorem cells2 {w : World} {g : Nat} {a b : Value} {t : TypeId} (h : w.heap[g]? = some (.cells #[a, b] t (0, 0))) : w.cell? ⟨g, 0, none⟩ = some a ∧ w.cell? ⟨g, 1, none⟩ = some b := ⟨cell_of_row _ _ 0 _ _ _ h, cell_of_row _ _ 1 _ _ _ h⟩
theorem cells3b {w : World} {g : Nat} {a b c : Value} {t : TypeId} (h : w.heap[g]? = some (.cells #[a, b, c] t (0, 0))) : w.cell? ⟨g, 0, none⟩ = some a ∧ w.cell? ⟨g, 1, none⟩ = some b ∧ w.cell? ⟨g, 2, none⟩ = some c := ⟨cell_of_row _ _ 0 _ _ _ h, cell_of_row _ _ 1 _ _ _ h, cell_of_row _ _ 2 _ _ _ h⟩
theorem froz3 {w : World} {g : Nat} {a : Array Value} {t : TypeId} (h : w.heap[g]? = some (.cells a t (0, 0))) : w.frozen? ⟨g, 0, none⟩ = false ∧ w.frozen? ⟨g, 1, none⟩ = false ∧ w.frozen? ⟨g, 2, none⟩ = false := ⟨block_frozen _ _ 0 _ _ h, block_frozen _ _ 1 _ _ h, block_frozen _ _ 2 _ _ h⟩

/-- Three stores into one box. -/
def putH (w : World) (g : Nat) (a b c : Value) : World := ((w.setCell ⟨g, 0, none⟩ a).setCell ⟨g, 1, none⟩ b).setCell ⟨g, 2, none⟩ c
theorem Four.put {w0 w : World} {a b c : Obj} {v0 v1 v2 : Value} {t : TypeId} (h : Four w0 a b c (.cells #[v0, v1, v2] t (0, 0)) w) (x y z : Value) : Four w0 a b c (.cells #[x, y, z] t (0, 0)) (putH w (w0.heap.size + 1 + 1 + 1) x y z) := ((h.set 0 x).set 1 y).set 2 z

def heldV (h : Hd) : Value := .agg #[.bool h.has, .int .i64 h.v, .int .i64 h.t]
theorem bel_four (w : World) (a b c d : Obj) : Below w.heap.size w ((((w.alloc a).alloc b).alloc c).alloc d) := (Four.new w a b c d).bel

end Go.Proofs.Ytcmbdhmhkfhjfaa
namespace Go.Proofs.Ytcmbdhmhkfhjfaa
open Go.RowKit
set_option linter.unusedVariables false

theorem told_ne {d q : Int} {hs : Bool} {hv ht x y : Int} (h : toldB d q ⟨hs, hv, ht⟩ (x, y) = true) : hs = false ∨ x ≠ hv ∨ y ≠ ht := by
  unfold toldB at h
  simp only [Bool.or_eq_true, Bool.not_eq_true'] at h
  rcases h with h | h | h
  · exact .inl h
  · refine .inr (.inl fun e => ?_)
    subst e
    unfold farB7 at h
    rw [distI_self] at h
    simp at h; omega
  · refine .inr (.inr fun e => ?_)
    subst e
    unfold dueB at h
    rw [distI_self] at h
    simp at h; omega
theorem told_false {d q : Int} {hs : Bool} {hv ht x y : Int} (h : toldB d q ⟨hs, hv, ht⟩ (x, y) = false) : hs = true := by
  unfold toldB at h
  cases hs
  · simp at h
  · rfl

/-- What Step gives: what is held, and whether the point is told. -/
def stepV (d q : Int) (h : Hd) (p : Pt) : Value := .tuple #[heldV (stepH d q h p), .bool (toldB d q h p)]
end Go.Proofs.Ytcmbdhmhkfhjfaa
namespace Go.Proofs.Ytcmbdhmhkfhjfaa
open Go.RowKit
set_option linter.unusedVariables false

theorem chkB_ok {d q : Int} (h1 : ¬ d < 0) (h2 : ¬ d > 1099511627776) (h3 : ¬ q < 0) (h4 : ¬ q > 1099511627776) : chkB d q = 0 := by unfold chkB; rw [if_pos (by omega)]
theorem chkB_no {d q : Int} (h : d < 0 ∨ d > 1099511627776 ∨ q < 0 ∨ q > 1099511627776) : chkB d q = 26 := by unfold chkB; rw [if_neg (by omega)]
theorem chk_split (d q : Int) : (d < 0) ∨ (¬ d < 0 ∧ d > 1099511627776) ∨ (¬ d < 0 ∧ ¬ d > 1099511627776 ∧ q < 0) ∨ (¬ d < 0 ∧ ¬ d > 1099511627776 ∧ ¬ q < 0 ∧ q > 1099511627776) ∨ (¬ d < 0 ∧ ¬ d > 1099511627776 ∧ ¬ q < 0 ∧ ¬ q > 1099511627776) := by omega
theorem Check7_any (d q : Int) (w : World) : Calls Try.prog 84 #[.agg #[.int .i64 d, .int .i64 q]] w fun e w' => e = .returned (.int .i64 (chkB d q)) ∧ Below w.heap.size w w' := by
  rcases chk_split d q with h | ⟨h1, h⟩ | ⟨h1, h2, h⟩ | ⟨h1, h2, h3, h⟩ | ⟨h1, h2, h3, h4⟩
  case' inr.inr.inr.inr => have HC := Lib.hid (chkB_ok h1 h2 h3 h4)
  case' inr.inr.inr.inl => have HC := Lib.hid (chkB_no (d := d) (q := q) (.inr (.inr (.inr h))))
  case' inr.inr.inl => have HC := Lib.hid (chkB_no (d := d) (q := q) (.inr (.inr (.inl h))))
  case' inr.inl => have HC := Lib.hid (chkB_no (d := d) (q := q) (.inr (.inl h)))
  case' inl => have HC := Lib.hid (chkB_no (d := d) (q := q) (.inl h))
  all_goals
    rw [HC.out]
    go_enter Try.func84, Try.ntmps84
    go_wp2
    go_ret
    exact ⟨rfl, bel_alloc _ _⟩
/-- The document's Told, behind its first test. -/
theorem told_hs {d q hv ht x y : Int} : toldB d q ⟨true, hv, ht⟩ (x, y) = (farB7 d x hv || dueB q ht y) := rfl
theorem farB_le {d : Int} (a b : Int) (h : d ≤ 0) : farB7 d a b = decide (0 < distI a b) := by unfold farB7; rw [show max d 0 = 0 by omega]
/-- Three boxes. -/
def Three (w0 : World) (a b c : Obj) (w : World) : Prop := w.heap[w0.heap.size]? = some a ∧ w.heap[w0.heap.size + 1]? = some b ∧ w.heap[w0.heap.size + 1 + 1]? = some c ∧ Below w0.heap.size w0 w
theorem Three.new (w : World) (a b c : Obj) : Three w a b c (((w.alloc a).alloc b).alloc c) := by
  have s1 : (w.alloc a).heap.size = w.heap.size + 1 := by simp
  have s2 : ((w.alloc a).alloc b).heap.size = w.heap.size + 1 + 1 := by simp
  refine ⟨?_, ?_, ?_, ((bel_alloc w a).alloc (by simp) b).alloc (by simp; omega) c⟩
  · exact (heap_alloc_old _ _ (by omega)).trans ((heap_alloc_old _ _ (by omega)).trans (heap_alloc_new _ _))
  · rw [← s1]; exact (heap_alloc_old _ _ (by omega)).trans (heap_alloc_new _ _)
  · rw [← s2]; exact heap_alloc_new _ _

end Go.Proofs.Ytcmbdhmhkfhjfaa
namespace Go.Proofs.Ytcmbdhmhkfhjfaa
open Go.RowKit
set_option linter.unusedVariables false
theorem chk_cases (l : Lim) (P : Prop)
    (c1 : l.hy < 0 → chkL l = 27 → P)
    (c2 : ¬ l.hy < 0 → l.hy > 1099511627776 → chkL l = 27 → P)
    (c3 : ¬ l.hy < 0 → ¬ l.hy > 1099511627776 → beyB l.lo = true → chkL l = 27 → P)
    (c4 : ¬ l.hy < 0 → ¬ l.hy > 1099511627776 → beyB l.lo = false → beyB l.hi = true → chkL l = 27 → P)
    (c5 : ¬ l.hy < 0 → ¬ l.hy > 1099511627776 → beyB l.lo = false → beyB l.hi = false → l.ul = false → l.lo ≠ 0 → chkL l = 27 → P)
    (c6 : ¬ l.hy < 0 → ¬ l.hy > 1099511627776 → beyB l.lo = false → beyB l.hi = false → l.ul = false → l.lo = 0 → l.uh = false → l.hi ≠ 0 → chkL l = 27 → P)
    (c7 : ¬ l.hy < 0 → ¬ l.hy > 1099511627776 → beyB l.lo = false → beyB l.hi = false → l.ul = true → l.uh = false → l.hi ≠ 0 → chkL l = 27 → P)
    (c8 : ¬ l.hy < 0 → ¬ l.hy > 1099511627776 → beyB l.lo = false → beyB l.hi = false → l.ul = false → l.lo = 0 → l.uh = false → l.hi = 0 → chkL l = 0 → P)
    (c9 : ¬ l.hy < 0 → ¬ l.hy > 1099511627776 → beyB l.lo = false → beyB l.hi = false → l.ul = false → l.lo = 0 → l.uh = true → chkL l = 0 → P)
    (c10 : ¬ l.hy < 0 → ¬ l.hy > 1099511627776 → beyB l.lo = false → beyB l.hi = false → l.ul = true → l.uh = false → l.hi = 0 → chkL l = 0 → P)
    (c11 : ¬ l.hy < 0 → ¬ l.hy > 1099511627776 → beyB l.lo = false → beyB l.hi = false → l.ul = true → l.uh = true → l.hi - l.lo ≤ l.hy → chkL l = 27 → P)
    (c12 : ¬ l.hy < 0 → ¬ l.hy > 1099511627776 → beyB l.lo = false → beyB l.hi = false → l.ul = true → l.uh = true → ¬ l.hi - l.lo ≤ l.hy → chkL l = 0 → P) : P := by
  have bad : okL l = false → chkL l = 27 := fun h => by unfold chkL; rw [h]; rfl
  have good : okL l = true → chkL l = 0 := fun h => by unfold chkL; rw [h]; rfl
  by_cases h1 : l.hy < 0
  · exact c1 h1 (bad (by unfold okL; rw [decide_eq_false (show ¬ 0 ≤ l.hy by omega)]; simp))
  by_cases h2 : l.hy > 1099511627776
  · exact c2 h1 h2 (bad (by unfold okL; rw [decide_eq_false (show ¬ l.hy ≤ 1099511627776 by omega)]; simp))
  have e1 : decide (0 ≤ l.hy) = true := decide_eq_true (by omega)
  have e2 : decide (l.hy ≤ 1099511627776) = true := decide_eq_true (by omega)
  cases h3 : beyB l.lo
  case true => exact c3 h1 h2 h3 (bad (by unfold okL; rw [h3]; simp))
  cases h4 : beyB l.hi
  case true => exact c4 h1 h2 h3 h4 (bad (by unfold okL; rw [h4]; simp))
  cases h5 : l.ul <;> cases h6 : l.uh
  · by_cases h7 : l.lo = 0
    · by_cases h8 : l.hi = 0
      · exact c8 h1 h2 h3 h4 h5 h7 h6 h8 (good (by unfold okL; rw [h3, h4, h5, h6, e1, e2, h7, h8]; rfl))
      · exact c6 h1 h2 h3 h4 h5 h7 h6 h8 (bad (by unfold okL; rw [h6, decide_eq_false h8]; simp))
    · exact c5 h1 h2 h3 h4 h5 h7 (bad (by unfold okL; rw [h5, decide_eq_false h7]; simp))
  · by_cases h7 : l.lo = 0
    · exact c9 h1 h2 h3 h4 h5 h7 h6 (good (by unfold okL; rw [h3, h4, h5, h6, e1, e2, h7]; rfl))
    · exact c5 h1 h2 h3 h4 h5 h7 (bad (by unfold okL; rw [h5, decide_eq_false h7]; simp))
  · by_cases h8 : l.hi = 0
    · exact c10 h1 h2 h3 h4 h5 h6 h8 (good (by unfold okL; rw [h3, h4, h5, h6, e1, e2, h8]; rfl))
    · exact c7 h1 h2 h3 h4 h5 h6 h8 (bad (by unfold okL; rw [h6, decide_eq_false h8]; simp))
  · by_cases h9 : l.hi - l.lo ≤ l.hy
    · exact c11 h1 h2 h3 h4 h5 h6 h9 (bad (by unfold okL; rw [h5, h6, decide_eq_false (show ¬ l.hy < l.hi - l.lo by omega)]; simp))
    · exact c12 h1 h2 h3 h4 h5 h6 h9 (good (by unfold okL; rw [h3, h4, h5, h6, e1, e2, decide_eq_true (show l.hy < l.hi - l.lo by omega)]; rfl))
theorem bey_false {v : Int} (h : beyB v = false) : -1099511627776 ≤ v ∧ v ≤ 1099511627776 := by
  simp only [beyB, Bool.or_eq_false_iff, decide_eq_false_iff_not] at h; omega

end Go.Proofs.Ytcmbdhmhkfhjfaa
namespace Go.Proofs.Ytcmbdhmhkfhjfaa
open Go.RowKit
set_option linter.unusedVariables false

/-- A tag is loaded in one step: its nineteen loads stay folded. -/
def ldTag (v : Value) : Sem Value := Instr.loadAt 49 v
theorem ldTag_fold (v : Value) : Instr.loadAt 49 v = ldTag v := rfl
theorem size_tag : (Try.prog.info? 49).map (·.size) = some 19 := by kernel_rfl
theorem ldTag_run {w : World} {b o : Nat} {cs : List Value} (hl : cs.length = 19) (h : w.rangeAt b o cs) : (ldTag (.pointer (some ⟨b, o, none⟩))).run Try.prog w = .ok (.agg cs.toArray) w :=
  run_loadAt_mid w b o _ cs _ h Try.underlying49 rfl (by rw [hl]; exact size_tag)

/-- The cells of a tag's box. -/
theorem of19 {w : World} {g : Nat} (nm : ByteArray) (un ki ad ev : Int) (we sg sw : Bool) (mu di aa de qu : Int) (ul uh la : Bool) (lo hi hy : Int) {t : TypeId} (h : w.heap[g]? = some (.cells #[.string nm, .int .i64 un, .int .i64 ki, .int .i64 ad, .int .i64 ev, .bool we, .bool sg, .bool sw, .int .i64 mu, .int .i64 di, .int .i64 aa, .int .i64 de, .int .i64 qu, .bool ul, .bool uh, .bool la, .int .i64 lo, .int .i64 hi, .int .i64 hy] t (0, 0))) : w.cell? ⟨g, 0, none⟩ = some (.string nm) ∧ w.cell? ⟨g, 1, none⟩ = some (.int .i64 un) ∧ w.cell? ⟨g, 2, none⟩ = some (.int .i64 ki) ∧ w.cell? ⟨g, 3, none⟩ = some (.int .i64 ad) ∧ w.cell? ⟨g, 4, none⟩ = some (.int .i64 ev) ∧ w.cell? ⟨g, 5, none⟩ = some (.bool we) ∧ w.cell? ⟨g, 6, none⟩ = some (.bool sg) ∧ w.cell? ⟨g, 7, none⟩ = some (.bool sw) ∧ w.cell? ⟨g, 8, none⟩ = some (.int .i64 mu) ∧ w.cell? ⟨g, 9, none⟩ = some (.int .i64 di) ∧ w.cell? ⟨g, 10, none⟩ = some (.int .i64 aa) ∧ w.cell? ⟨g, 11, none⟩ = some (.int .i64 de) ∧ w.cell? ⟨g, 12, none⟩ = some (.int .i64 qu) ∧ w.cell? ⟨g, 13, none⟩ = some (.bool ul) ∧ w.cell? ⟨g, 14, none⟩ = some (.bool uh) ∧ w.cell? ⟨g, 15, none⟩ = some (.bool la) ∧ w.cell? ⟨g, 16, none⟩ = some (.int .i64 lo) ∧ w.cell? ⟨g, 17, none⟩ = some (.int .i64 hi) ∧ w.cell? ⟨g, 18, none⟩ = some (.int .i64 hy) :=
  ⟨cell_of_row _ _ 0 _ _ _ h, cell_of_row _ _ 1 _ _ _ h, cell_of_row _ _ 2 _ _ _ h, cell_of_row _ _ 3 _ _ _ h, cell_of_row _ _ 4 _ _ _ h, cell_of_row _ _ 5 _ _ _ h, cell_of_row _ _ 6 _ _ _ h, cell_of_row _ _ 7 _ _ _ h, cell_of_row _ _ 8 _ _ _ h, cell_of_row _ _ 9 _ _ _ h, cell_of_row _ _ 10 _ _ _ h, cell_of_row _ _ 11 _ _ _ h, cell_of_row _ _ 12 _ _ _ h, cell_of_row _ _ 13 _ _ _ h, cell_of_row _ _ 14 _ _ _ h, cell_of_row _ _ 15 _ _ _ h, cell_of_row _ _ 16 _ _ _ h, cell_of_row _ _ 17 _ _ _ h, cell_of_row _ _ 18 _ _ _ h⟩

end Go.Proofs.Ytcmbdhmhkfhjfaa
namespace Go.Proofs.Ytcmbdhmhkfhjfaa
open Go.RowKit
set_option linter.unusedVariables false

end Go.Proofs.Ytcmbdhmhkfhjfaa
namespace Go.Proofs.Ytcmbdhmhkfhjfaa
open Go.RowKit
set_option linter.unusedVariables false

end Go.Proofs.Ytcmbdhmhkfhjfaa
namespace Go.Proofs.Ytcmbdhmhkfhjfaa
open Go.RowKit
set_option linter.unusedVariables false

end Go.Proofs.Ytcmbdhmhkfhjfaa
namespace Go.Proofs.Ytcmbdhmhkfhjfaa
open Go.RowKit
set_option linter.unusedVariables false

end Go.Proofs.Ytcmbdhmhkfhjfaa
