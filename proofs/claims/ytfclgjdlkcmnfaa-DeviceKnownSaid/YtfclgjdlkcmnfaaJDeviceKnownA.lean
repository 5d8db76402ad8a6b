/-
  Texts of the proof of DeviceKnown, joined.
-/
import Derived.WalkKit
import Derived.WalkSpells
import Derived.WalkLawsBesides
import Derived.Outline
import Derived.Lib.Hide
import Derived.Deep.QuietTactic
import Derived.BigQuiet
import Derived.Deep.Draws
import Derived.ProofKit
import Derived.OpenShut
import Derived.ShutString
import Derived.ChangeOld
import Derived.SizedLaws
import Derived.Deep.Slices
import Derived.Deep.Fields
import Derived.ChangeSame
import Derived.Deep.AppendLies
import Derived.Deep.MidRow
import Derived.Test.YtfclgjdlkcmnfaaProg
import Derived.Test.YtfclgjdlkcmnfaaRows
import Derived.Laws.AppendOwn
import Derived.LoopTactic
namespace Go.Proofs.Ytfclgjdlkcmnfaa
open Go.RowKit

/-- The i-th number of a list, behind a name that the walk's simp does not open. -/
def nth (l : List Int) (i : Nat) : Int := l.getD i 0
theorem nth_eq (l : List Int) (i : Nat) (h : i < l.length) : nth l i = l[i] := by simp [nth, List.getD_eq_getElem?_getD, List.getElem?_eq_getElem h]
theorem nth_mem (l : List Int) (i : Nat) (h : i < l.length) : nth l i ∈ l := by rw [nth_eq l i h]; exact List.getElem_mem h
theorem nth_left (l m : List Int) (i : Nat) (h : i < l.length) : nth (l ++ m) i = nth l i := by
  rw [nth_eq _ _ h, nth_eq _ _ (by simp; omega)]; exact List.getElem_append_left h
theorem nth_right (l m : List Int) (i : Nat) : nth (l ++ m) (l.length + i) = nth m i := by
  simp [nth, List.getD_eq_getElem?_getD, List.getElem?_append_right]
theorem nth_replicate (n i : Nat) (v : Int) (h : i < n) : nth (List.replicate n v) i = v := by rw [nth_eq _ _ (by simpa using h)]; simp
theorem ext_nth (a b : List Int) (hl : a.length = b.length) (h : ∀ i, i < a.length → nth a i = nth b i) : a = b := by
  refine List.ext_getElem hl fun i h1 h2 => ?_
  rw [← nth_eq a i h1, ← nth_eq b i h2]; exact h i h1

/-- The cells of a row of integers. -/
def blk (k : IntKind) (l : List Int) : Array Value := (l.map (Value.int k)).toArray

theorem blk_size (k : IntKind) (l : List Int) : (blk k l).size = l.length := by simp [blk]
theorem blk_get (k : IntKind) (l : List Int) (i : Nat) (h : i < l.length) : (blk k l)[i]? = some (.int k (nth l i)) := by
  simp [blk, List.getElem?_eq_getElem h, nth_eq l i h]
theorem blk_set (k : IntKind) (l : List Int) (i : Nat) (v : Int) : (blk k l).setIfInBounds i (.int k v) = blk k (l.set i v) := by
  simp [blk, List.map_set]

/-- A slice that reads as the list xs of integers of kind k, in blocks below B. -/
def Row (k : IntKind) (w : World) (B : Nat) (A : Option Addr) (xs : List Int) : Prop :=
  (∀ x ∈ xs, (Lit.int k x).wf = true) ∧ (0 < xs.length → ∃ b o, A = some ⟨b, o, none⟩ ∧ b < B ∧ ∀ i, i < xs.length → w.cell? ⟨b, o + i, none⟩ = some (.int k (nth xs i)))

theorem Row.keep {k : IntKind} {w w' : World} {B : Nat} {A : Option Addr} {xs : List Int} (h : Row k w B A xs) (hk : ∀ b o, b < B → w'.cell? ⟨b, o, none⟩ = w.cell? ⟨b, o, none⟩) : Row k w' B A xs := by
  refine ⟨h.1, fun hn => ?_⟩
  obtain ⟨b, o, e, hb, hc⟩ := h.2 hn
  exact ⟨b, o, e, hb, fun i hi => (hk _ _ hb).trans (hc i hi)⟩
theorem Row.more {k : IntKind} {w : World} {B B' : Nat} {A : Option Addr} {xs : List Int} (h : Row k w B A xs) (hB : B ≤ B') : Row k w B' A xs := by
  refine ⟨h.1, fun hn => ?_⟩
  obtain ⟨b, o, e, hb, hc⟩ := h.2 hn
  exact ⟨b, o, e, by omega, hc⟩
theorem Row.below {k : IntKind} {w w' : World} {B : Nat} {A : Option Addr} {xs : List Int} (h : Row k w B A xs) (hb : Below B w w') : Row k w' B A xs :=
  h.keep fun b o hlt => hb.cell (p := ⟨b, o, none⟩) hlt
theorem Row.alloc {k : IntKind} {w : World} {B : Nat} {A : Option Addr} {xs : List Int} (h : Row k w B A xs) (hB : B ≤ w.heap.size) (o : Obj) : Row k (w.alloc o) B A xs :=
  h.below ((Below.refl _ _).alloc hB o)
theorem Row.drewN {k : IntKind} {w : World} {B : Nat} {A : Option Addr} {xs : List Int} (h : Row k w B A xs) (n : Nat) : Row k (w.drewN n) B A xs := h
theorem Row.nil (k : IntKind) (w : World) (B : Nat) (A : Option Addr) : Row k w B A [] := ⟨by simp, by simp⟩
/-- A row that lies at the head of a new block. -/
theorem Row.new (k : IntKind) (w : World) (t : TypeId) (l xs : List Int) (hw : ∀ x ∈ xs, (Lit.int k x).wf = true) (hp : xs <+: l) :
    Row k (w.alloc (.cells (blk k l) t)) (w.heap.size + 1) (some ⟨w.heap.size, 0, none⟩) xs := by
  obtain ⟨ys, rfl⟩ := hp
  refine ⟨hw, fun _ => ⟨_, _, rfl, Nat.lt_succ_self _, fun i hi => ?_⟩⟩
  rw [World.cell?_alloc_at _ _ _ _ rfl, Nat.zero_add, blk_get _ _ _ (by simp; omega), nth_left _ _ _ hi]
/-- A row at the head of a block that is known whole, whatever of it is frozen. -/
theorem Row.of_block {k : IntKind} {w : World} {g : Nat} {t : TypeId} {fr : Nat × Nat} {l : List Int} (hg : w.heap[g]? = some (.cells (blk k l) t fr)) (xs : List Int) (hw : ∀ x ∈ xs, (Lit.int k x).wf = true) (hp : xs <+: l) :
    Row k w (g + 1) (some ⟨g, 0, none⟩) xs := by
  obtain ⟨ys, rfl⟩ := hp
  refine ⟨hw, fun _ => ⟨_, _, rfl, Nat.lt_succ_self _, fun i hi => ?_⟩⟩
  rw [Nat.zero_add, cell_of_row w g i _ _ _ hg, blk_get _ _ _ (by simp; omega), nth_left _ _ _ hi]
/-- One cell of a row, for the walk. -/
theorem Row.at_ {k : IntKind} {w : World} {B : Nat} {A : Option Addr} {xs : List Int} (h : Row k w B A xs) {i : Nat} (hi : i < xs.length) :
    ∃ b o, A = some ⟨b, o, none⟩ ∧ b < B ∧ w.cell? ⟨b, o + i, none⟩ = some (.int k (nth xs i)) := by
  obtain ⟨b, o, e, hb, hc⟩ := h.2 (by omega)
  exact ⟨b, o, e, hb, hc i hi⟩
theorem Row.wf_at {k : IntKind} {w : World} {B : Nat} {A : Option Addr} {xs : List Int} (h : Row k w B A xs) {i : Nat} (hi : i < xs.length) : (Lit.int k (nth xs i)).wf = true := h.1 _ (nth_mem _ _ hi)

theorem wf_u8 {n : Int} (h : (Lit.int .u8 n).wf = true) : 0 ≤ n ∧ n < 256 := by
  simp [Lit.wf, IntKind.min, IntKind.max, IntKind.signed, IntKind.bits] at h; omega
theorem wf_u16 {n : Int} (h : (Lit.int .u16 n).wf = true) : 0 ≤ n ∧ n < 65536 := by
  simp [Lit.wf, IntKind.min, IntKind.max, IntKind.signed, IntKind.bits] at h; omega
theorem wf_u64 {n : Int} (h : (Lit.int .u64 n).wf = true) : 0 ≤ n ∧ n < 18446744073709551616 := by
  simp [Lit.wf, IntKind.min, IntKind.max, IntKind.signed, IntKind.bits] at h; omega
theorem wf_i64 {n : Int} (h : (Lit.int .i64 n).wf = true) : -9223372036854775808 ≤ n ∧ n < 9223372036854775808 := by
  simp [Lit.wf, IntKind.min, IntKind.max, IntKind.signed, IntKind.bits] at h; omega

theorem wf_append {k : IntKind} {xs ys : List Int} (h : ∀ x ∈ xs, (Lit.int k x).wf = true) (h' : ∀ x ∈ ys, (Lit.int k x).wf = true) : ∀ x ∈ xs ++ ys, (Lit.int k x).wf = true := fun x hx => (List.mem_append.1 hx).elim (h x) (h' x)
theorem take_step (xs : List Int) (k : Nat) (h : k < xs.length) : xs.take (k + 1) = xs.take k ++ [nth xs k] := by
  rw [List.take_succ_eq_append_getElem h, nth_eq xs k h]
/-- The k-th place of what is filled up to k is written. -/
theorem set_step (l : List Int) (m k : Nat) (v x : Int) (h : l.length = k) : (l ++ List.replicate (m + 1) v).set k x = l ++ [x] ++ List.replicate m v := by
  rw [List.set_append_right _ _ (by omega)]
  simp [h, List.replicate_succ]
theorem fill_cell (k : IntKind) (l : List Int) (m i : Nat) (v : Int) (h : l.length = i) (hm : 0 < m) : (blk k (l ++ List.replicate m v))[i]? = some (.int k v) := by
  rw [blk_get _ _ _ (by simp; omega)]
  subst h
  have := nth_right l (List.replicate m v) 0
  rw [Nat.add_zero] at this
  rw [this, nth_replicate _ _ _ hm]
end Go.Proofs.Ytfclgjdlkcmnfaa
namespace Go.Proofs.Ytfclgjdlkcmnfaa
open Go.ChangeShapes Go.WideShapes Go.ChangeAt Go.RowKit

theorem row_in {H : Type} {enc : TypeId × Value → H} {P : Program} {W : World} {t e : TypeId} {k : IntKind} {a : Option Addr} {len cap : Nat} {d : DataW H} {p : List MemPlace}
    (ht : P.underlying t = some (.slice e)) (he : P.underlying e = some (.int k)) (hc : P.cellsOf e = 1)
    (h : DataW.Trod enc P W 0 (fun _ => true) true t (.slice a len cap) d p) (lt : ∀ x ∈ p, x.block < W.heap.size) :
    ∃ xs, Row k W W.heap.size a xs ∧ xs.length = len ∧ len ≤ cap ∧ (cap = 0 ∨ ∃ el sp, d = .slice el sp ∧ cap ≤ el.length + sp.length) := by
  obtain ⟨fuel, hf⟩ := h
  rcases open_ints ht he hc hf with ⟨hcs, _⟩ | ⟨x, l, c, zs, hcs, _, hl, hm, hz, hx, hcell, hwz⟩
  · simp [Value.cells] at hcs
    obtain ⟨rfl, rfl, rfl⟩ := hcs
    exact ⟨[], Row.nil _ _ _ _, rfl, Nat.le_refl _, .inl rfl⟩
  · simp [Value.cells] at hcs
    obtain ⟨rfl, rfl, rfl⟩ := hcs
    simp only [if_true] at hz
    simp only [Prod.mk.injEq] at hx
    obtain ⟨rfl, rfl⟩ := hx
    refine ⟨zs.take len, ⟨fun v hv => hwz v (List.mem_of_mem_take hv), fun hn => ?_⟩, by simp; omega, hl, .inr ⟨_, _, rfl, by simp [lits]; omega⟩⟩
    have hpos : 0 < zs.length := by simp at hn; omega
    have hb := lt (.cell x.block x.off) (MemPlace.mem_row.2 ⟨0, hpos, by simp⟩)
    obtain ⟨b, off, rfl, hc'⟩ := ints_at hcell hpos
    refine ⟨b, off, rfl, hb, fun i hi => ?_⟩
    have hi' : i < len ∧ i < zs.length := by simp at hi; omega
    rw [hc' i hi'.2, nth, List.getD_eq_getElem?_getD, List.getD_eq_getElem?_getD, List.getElem?_take_of_lt hi'.1]

theorem reach_in {H : Type} {P : Program} {ts : List TypeId} {ds : List (DataW H)} (hsz : (DataW.weightsEach P ts ds).all (· ≤ reachBytes) = true) (j : Nat) {t e : TypeId} {d : DataW H} {cap : Nat} (ht : ts[j]? = some t) (hd : ds[j]? = some d)
    (hu : P.underlying t = some (.slice e)) (hb : 0 < P.bytesOf e) (h : cap = 0 ∨ ∃ el sp, d = .slice el sp ∧ cap ≤ el.length + sp.length) : cap ≤ 140737488351232 := by
  rcases h with rfl | ⟨el, sp, rfl, hle⟩
  · omega
  · have := sized_slice hsz ht hd hu
    have h2 : el.length + sp.length ≤ (el.length + sp.length) * P.bytesOf e := Nat.le_mul_of_pos_right _ hb
    simp only [reachBytes] at this
    omega
end Go.Proofs.Ytfclgjdlkcmnfaa
namespace Go.Proofs.Ytfclgjdlkcmnfaa
open Go.ChangeShapes Go.WideShapes Go.ChangeAt Go.RowKit Go.Deep
set_option linter.unusedVariables false

section
variable {H : Type} {enc : TypeId × Value → H} {P : Program} {W : World}
theorem slice_form {t e : TypeId} {fuel : Nat} {v : Value} {x : DataW H × List MemPlace} (ht : P.underlying t = some (.slice e)) (h : DataW.trod enc P W 0 (fun _ => true) true fuel t [v] = some x) : ∃ a l c, v = .slice a l c := by
  rcases open_slice ht h with ⟨h0, _⟩ | ⟨a, len, cap, m, n, D, Pl, hcs, _⟩
  · injection h0 with h0; exact ⟨_, _, _, h0⟩
  · injection hcs with hcs; exact ⟨_, _, _, hcs⟩
/-- A struct's fields take no more than the reach. -/
theorem reach_fields {ts : List TypeId} {ds : List (DataW H)} (hsz : (DataW.weightsEach P ts ds).all (· ≤ reachBytes) = true) (j : Nat) {t : TypeId} {fs : Array Field} {parts : List (DataW H)} (ht : ts[j]? = some t) (hd : ds[j]? = some (.agg parts))
    (hu : P.underlying t = some (.struct fs)) : (DataW.weightsEach P (fs.toList.map (·.type)) parts).all (· ≤ reachBytes) = true := by
  refine List.all_eq_true.2 fun x hx => ?_
  exact List.all_eq_true.1 hsz _ (DataW.weights_mem_each ht hd x (by simp only [DataW.weights, hu]; exact hx))
end
end Go.Proofs.Ytfclgjdlkcmnfaa
namespace Go.Proofs.Ytfclgjdlkcmnfaa
open Go.RowKit

/-- The slice v owns a row, in a block from base on, that holds the integers xs. -/
def Own (k : IntKind) (e : TypeId) (w : World) (base : Nat) (v : Value) (xs : List Int) : Prop := w.ownsRow base e 1 v xs.length (xs.map (Value.int k))

theorem Own.nil (k : IntKind) (e : TypeId) (w : World) (base : Nat) : Own k e w base (.slice none 0 0) [] := ⟨by simp, .inl ⟨rfl, rfl⟩⟩
theorem Own.alloc {k : IntKind} {e : TypeId} {w : World} {base : Nat} {v : Value} {xs : List Int} (h : Own k e w base v xs) (o : Obj) : Own k e (w.alloc o) base v xs := World.ownsRow.alloc h o
theorem Own.drewN {k : IntKind} {e : TypeId} {w : World} {base : Nat} {v : Value} {xs : List Int} (h : Own k e w base v xs) (n : Nat) : Own k e (w.drewN n) base v xs := h
theorem Own.block {k : IntKind} {e : TypeId} {w : World} {base : Nat} {v : Value} {xs : List Int} (h : Own k e w base v xs) : ∀ g, v.ownBlock = some g → base ≤ g ∧ g < w.heap.size := World.ownsRow.lt h
theorem Own.kept {k : IntKind} {e : TypeId} {w w' : World} {base : Nat} {v : Value} {xs : List Int} {row : Option Nat} (h : Own k e w base v xs) (hg : w.grownBy w' row) (hne : v.ownBlock = none ∨ v.ownBlock ≠ row) : Own k e w' base v xs := World.ownsRow.kept h hg hne
theorem Own.below {k : IntKind} {e : TypeId} {w w' : World} {base B : Nat} {v : Value} {xs : List Int} (h : Own k e w base v xs) (hb : Below B w w') (hB : w.heap.size ≤ B) : Own k e w' base v xs := by
  refine h.kept (row := none) ⟨hb.os, hb.tape, hb.output, hb.size, fun i hi _ => hb.block i (by omega)⟩ ?_
  cases hv : v.ownBlock with
  | none => exact .inl rfl
  | some g => exact .inr (by simp)
theorem Own.mono {k : IntKind} {e : TypeId} {w : World} {base base' : Nat} {v : Value} {xs : List Int} (h : Own k e w base v xs) (hb : base' ≤ base) : Own k e w base' v xs := by
  refine ⟨h.1, ?_⟩
  rcases h.2 with h0 | ⟨g, cap, cur, hv, h1, r⟩
  · exact .inl h0
  · exact .inr ⟨g, cap, cur, hv, by omega, r⟩
/-- What is owned is a slice that reads as its list. -/
theorem Own.row {k : IntKind} {e : TypeId} {w : World} {base : Nat} {v : Value} {xs : List Int} (h : Own k e w base v xs) (hw : ∀ x ∈ xs, (Lit.int k x).wf = true) :
    ∃ A c, v = .slice A xs.length c ∧ Row k w w.heap.size A xs ∧ xs.length ≤ c ∧ c ≤ maxLen := by
  rcases h.2 with ⟨rfl, h0⟩ | ⟨g, cap, cur, rfl, hb, hg, h1, h2, h3, h4⟩
  · have : xs = [] := List.eq_nil_of_length_eq_zero h0
    subst this
    exact ⟨none, 0, rfl, Row.nil _ _ _ _, by simp, by simp⟩
  · refine ⟨_, _, rfl, ⟨hw, fun _ => ⟨g, 0, rfl, ?_, fun i hi => ?_⟩⟩, h1, h2⟩
    · exact (Own.block (k := k) (e := e) (w := w) (base := base) (xs := xs) ⟨by simp, .inr ⟨g, cap, cur, rfl, hb, hg, h1, h2, h3, h4⟩⟩ g rfl).2
    · rw [Nat.zero_add, cell_of_row w g i cur e (0, 0) hg]
      have : (cur.toList.take (xs.length * 1))[i]? = (xs.map (Value.int k))[i]? := by rw [h4]
      rw [List.getElem?_take_of_lt (by omega)] at this
      rw [← Array.getElem?_toList, this, List.getElem?_map, List.getElem?_eq_getElem hi, nth_eq xs i hi]
      rfl

section
variable {P : Program}
theorem run_append_none (w : World) (t ty e : TypeId) (i : TypeInfo) (ht : P.underlying t = some (.slice e)) (hi : P.info? e = some i)
    (base : Nat) (v : Value) (n : Nat) (xs : List Value) (hown : w.ownsRow base e 1 v n xs) (c : Nat) : (Builtin.append_ #[t, t] ty #[v, .slice none 0 c]).run P w = .ok v w := by
  rcases hown.2 with ⟨rfl, rfl⟩ | ⟨g, cap, cur, rfl, _, _, hnc, _⟩
  · simp [Builtin.append_, run_underlying ht, sizeOf, typeInfo, hi, Builtin.lenOf, Builtin.firstCells]
  · simp [Builtin.append_, run_underlying ht, sizeOf, typeInfo, hi, Builtin.lenOf, Builtin.firstCells, hnc, storeCells]

/-- 'append(v, src...)': v owned, src whatever row of integers. -/
theorem wpList_append_row {ops : Array Oper} {rest : List Oper} {o : Oper} {a : Act} {Q : Exit → Act → World → Prop} (w : World) (hgd : o.guard = none) (s x : Operand) (t : TypeId)
    (ho : o.op = .call { callee := .builtin .append, args := #[s, x], argTypes := #[t, t] })
    (base : Nat) (k : IntKind) (e : TypeId) (bytes : Nat) (ht : P.underlying t = some (.slice e)) (hi : (P.info? e).map (fun i => (i.zero, i.size, i.bytes)) = some (some (.int k 0), 1, bytes))
    (v : Value) (xs : List Int) (hs : a.eval s = v) (hown : Own k e w base v xs)
    (B : Nat) (A : Option Addr) (m c : Nat) (ys : List Int) (hx : a.eval x = .slice A m c) (hr : Row k w B A ys) (hm : ys.length = m)
    (hbytes : (xs.length + m) * bytes ≤ 140737488355328) (h63 : xs.length + m ≤ maxLen) (hbase : base ≤ w.heap.size)
    (h : ∀ v' w', Own k e w' base v' (xs ++ ys) → w.grownBy w' v.ownBlock → wpList P ops Q rest (a.put o.dst v') w') : wpList P ops Q (o :: rest) a w := by
  obtain ⟨i, hi1, hz, hsz, hby⟩ := info_parts hi
  rcases Nat.eq_zero_or_pos m with h0 | h0
  · subst h0
    have hy : ys = [] := List.eq_nil_of_length_eq_zero hm
    subst hy
    cases A with
    | none =>
      refine wpList_plain hgd fun K hK => ?_
      have hrun := run_append_none (P := P) w t o.type e i ht hi1 base v _ _ hown c
      unfold Oper.wp
      simp [execOp, ho, resolve, invoke, builtin, hs, hx, hrun, Result.andThen]
      exact hK _ _ (h v w (by simpa using hown) (World.grownBy.refl _ _))
    | some ad =>
      refine wpList_append_own w hgd s x t ho base e i (.int k 0) 1 bytes ht hi1 hz hsz hby rfl (by omega) v _ _ hs hown ad 0 c [] hx (by simp) (by simp) (by simp) h63 hbytes hbase fun v' w' h1 h2 _ => h v' w' (by simpa [Own] using h1) h2
  · obtain ⟨b, of, rfl, _, hc⟩ := hr.2 (by omega)
    refine wpList_append_own w hgd s x t ho base e i (.int k 0) 1 bytes ht hi1 hz hsz hby rfl (by omega) v _ _ hs hown ⟨b, of, none⟩ m c (ys.map (Value.int k)) hx (by simp [hm]) ?_ (ints_oneCell k ys) h63 hbytes hbase fun v' w' h1 h2 _ => h v' w' (by simpa [Own, hm] using h1) h2
    intro j u hu
    rw [List.getElem?_map] at hu
    by_cases hj : j < ys.length
    · rw [List.getElem?_eq_getElem hj] at hu
      rw [Go.WideShapes.add_plain, hc j hj, nth_eq ys j hj]
      exact hu
    · rw [List.getElem?_eq_none (by omega)] at hu
      cases hu

/-- 'append(v, src...)' within the capacity: v owned, src whatever row of integers; the block stays. -/
theorem wpList_append_row_fits {ops : Array Oper} {rest : List Oper} {o : Oper} {a : Act} {Q : Exit → Act → World → Prop} (w : World) (hgd : o.guard = none) (s x : Operand) (t : TypeId)
    (ho : o.op = .call { callee := .builtin .append, args := #[s, x], argTypes := #[t, t] })
    (base : Nat) (k : IntKind) (e : TypeId) (bytes : Nat) (ht : P.underlying t = some (.slice e)) (hi : (P.info? e).map (fun i => (i.zero, i.size, i.bytes)) = some (some (.int k 0), 1, bytes))
    (g n cap : Nat) (xs : List Int) (hs : a.eval s = .slice (some ⟨g, 0, none⟩) n cap) (hn : xs.length = n) (hown : Own k e w base (.slice (some ⟨g, 0, none⟩) n cap) xs)
    (B : Nat) (A : Option Addr) (m c : Nat) (ys : List Int) (hx : a.eval x = .slice A m c) (hr : Row k w B A ys) (hm : ys.length = m) (hfit : n + m ≤ cap)
    (h : ∀ w', Own k e w' base (.slice (some ⟨g, 0, none⟩) (n + m) cap) (xs ++ ys) → w.grownBy w' (some g) → wpList P ops Q rest (a.put o.dst (.slice (some ⟨g, 0, none⟩) (n + m) cap)) w') : wpList P ops Q (o :: rest) a w := by
  obtain ⟨i, hi1, hz, hsz, hby⟩ := info_parts hi
  subst hn
  rcases Nat.eq_zero_or_pos m with h0 | h0
  · subst h0
    have hy : ys = [] := List.eq_nil_of_length_eq_zero hm
    subst hy
    cases A with
    | none =>
      refine wpList_plain hgd fun K hK => ?_
      have hrun := run_append_none (P := P) w t o.type e i ht hi1 base _ _ _ hown c
      unfold Oper.wp
      simp [execOp, ho, resolve, invoke, builtin, hs, hx, hrun, Result.andThen]
      exact hK _ _ (h w (by simpa using hown) (World.grownBy.refl _ _))
    | some ad =>
      refine wpList_append_fits w hgd s x t ho base e i 1 ht hi1 hsz g xs.length cap _ hs hown ad 0 c [] hx (by simp) (by simp) (by simp) hfit fun w' h1 h2 => h w' (by simpa [Own] using h1) h2
  · obtain ⟨b, of, rfl, _, hc⟩ := hr.2 (by omega)
    refine wpList_append_fits w hgd s x t ho base e i 1 ht hi1 hsz g xs.length cap _ hs hown ⟨b, of, none⟩ m c (ys.map (Value.int k)) hx (by simp [hm]) ?_ (ints_oneCell k ys) hfit fun w' h1 h2 => h w' (by simpa [Own, hm] using h1) h2
    intro j u hu
    rw [List.getElem?_map] at hu
    by_cases hj : j < ys.length
    · rw [List.getElem?_eq_getElem hj] at hu
      rw [Go.WideShapes.add_plain, hc j hj, nth_eq ys j hj]
      exact hu
    · rw [List.getElem?_eq_none (by omega)] at hu
      cases hu
end

/-- What 'make' of a length 0 lays is owned. -/
theorem Own.made (k : IntKind) (e : TypeId) (w : World) (l : List Int) (hm : l.length ≤ maxLen) : Own k e (w.alloc (.cells (blk k l) e)) w.heap.size (.slice (some ⟨w.heap.size, 0, none⟩) 0 l.length) [] :=
  ⟨rfl, .inr ⟨_, _, _, rfl, Nat.le_refl _, heap_alloc_new w _, by simp, hm, by simp [blk_size], by simp⟩⟩
/-- A row that fills its capacity is its block, whole. -/
theorem Own.full {k : IntKind} {e : TypeId} {w : World} {base g n : Nat} {xs : List Int} (h : Own k e w base (.slice (some ⟨g, 0, none⟩) n n) xs) : w.heap[g]? = some (.cells (blk k xs) e (0, 0)) := by
  rcases h.2 with ⟨h0, _⟩ | ⟨g', cap, cur, hv, hb, hg, h1, h2, h3, h4⟩
  · cases h0
  · injection hv with ha hn hc
    injection ha with ha
    injection ha with ha
    subst ha hn hc
    rw [hg]
    congr 2
    apply Array.toList_inj.1
    rw [List.take_of_length_le (by simp [h3])] at h4
    rw [h4]
    simp [blk]

theorem Below.own {k : IntKind} {e : TypeId} {w0 w w' : World} {base : Nat} {v : Value} {xs : List Int} (hb : Below base w0 w) (hB : base ≤ w.heap.size) (h : Own k e w base v xs) (hg : w.grownBy w' v.ownBlock) : Below base w0 w' :=
  hb.grown hg hB fun g e => (h.block g e).1
/-- One element's box, then the append that takes it. -/
theorem Below.own1 {k : IntKind} {e : TypeId} {w0 w w' : World} {base : Nat} {v : Value} {xs : List Int} {o : Obj} (hb : Below base w0 w) (hB : base ≤ w.heap.size) (h : Own k e w base v xs) (hg : (w.alloc o).grownBy w' v.ownBlock) : Below base w0 w' :=
  Below.own (hb.alloc hB o) (by simp; omega) (h.alloc o) hg
theorem Row.one (k : IntKind) (w : World) (t : TypeId) (x : Int) (h : (Lit.int k x).wf = true) : Row k (w.alloc (.cells #[.int k x] t)) (w.heap.size + 1) (some ⟨w.heap.size, 0, none⟩) [x] :=
  Row.new k w t [x] [x] (by simpa using h) (List.prefix_refl _)
end Go.Proofs.Ytfclgjdlkcmnfaa
namespace Go.Proofs.Ytfclgjdlkcmnfaa
open Go.RowKit
set_option linter.unusedVariables false

theorem block_setCell (w : World) (g i : Nat) (k : IntKind) (t : TypeId) (l : List Int) (v : Int) (h : w.heap[g]? = some (.cells (blk k l) t (0, 0))) :
    (w.setCell ⟨g, i, none⟩ (.int k v)).heap[g]? = some (.cells (blk k (l.set i v)) t (0, 0)) := by
  simp [World.setCell, Array.getElem?_modify, h, blk_set]
theorem block_frozen (w : World) (g i : Nat) (cs : Array Value) (t : TypeId) (h : w.heap[g]? = some (.cells cs t (0, 0))) : w.frozen? ⟨g, i, none⟩ = false := by simp [World.frozen?, h]
theorem grown_setCell {a w : World} {g : Nat} (h : a.grownBy w (some g)) (i : Nat) (u : Value) : a.grownBy (w.setCell ⟨g, i, none⟩ u) (some g) :=
  ⟨h.os, h.tape, h.output, by simpa [World.setCell] using h.size, fun k hk hne => (Below.heap_setCell w ⟨g, i, none⟩ u k (fun e => hne (by rw [e]))).trans (h.block k hk hne)⟩
theorem block_lt {w : World} {g : Nat} {o : Obj} (h : w.heap[g]? = some o) : g < w.heap.size := by
  rcases Nat.lt_or_ge g w.heap.size with hlt | hge
  · exact hlt
  · rw [Array.getElem?_eq_none hge] at h; cases h

end Go.Proofs.Ytfclgjdlkcmnfaa
namespace Go.Proofs.Ytfclgjdlkcmnfaa
open Go.RowKit
set_option linter.unusedVariables false


theorem wf_byte (n : Nat) (h : n < 256) : (Lit.int .u8 (n : Int)).wf = true := by
  simp [Lit.wf, IntKind.min, IntKind.max, IntKind.signed, IntKind.bits]; omega

theorem wrap_u8_nat (n : Nat) : IntKind.u8.wrap (n : Int) = ((n % 256 : Nat) : Int) := by rw [IntKind.wrap_u8]; omega
theorem bel_alloc (w : World) (o : Obj) : Below w.heap.size w (w.alloc o) := (Below.refl _ _).alloc (Nat.le_refl _) o


theorem nth_drop (xs : List Int) (i j : Nat) : nth (xs.drop i) j = nth xs (i + j) := by simp [nth, List.getD_eq_getElem?_getD]
theorem Row.drop {k : IntKind} {w : World} {B b o : Nat} {xs : List Int} (h : Row k w B (some ⟨b, o, none⟩) xs) (i : Nat) : Row k w B (some ⟨b, o + i, none⟩) (xs.drop i) := by
  refine ⟨fun x hx => h.1 x (List.mem_of_mem_drop hx), fun hn => ?_⟩
  have hl : i < xs.length := by rw [List.length_drop] at hn; omega
  obtain ⟨b', o', e, hb, hc⟩ := h.2 (by omega)
  injection e with e
  injection e with e1 e2
  subst e1 e2
  refine ⟨b, o + i, rfl, hb, fun j hj => ?_⟩
  rw [List.length_drop] at hj
  rw [Nat.add_assoc, hc (i + j) (by omega), nth_drop]


/-- A row of the call's own that is not empty: its block, its cells, and what a store makes of it. -/
theorem Own.cells {k : IntKind} {e : TypeId} {w : World} {base : Nat} {v : Value} {xs : List Int} (h : Own k e w base v xs) (hp : 0 < xs.length) :
    ∃ g cap, v = .slice (some ⟨g, 0, none⟩) xs.length cap ∧ base ≤ g ∧ g < w.heap.size ∧ xs.length ≤ cap ∧ (∀ i, i < xs.length → w.cell? ⟨g, i, none⟩ = some (.int k (nth xs i))) ∧ (∀ i, w.frozen? ⟨g, i, none⟩ = false)
      ∧ ∀ (w' : World) i x, w'.heap = w.heap → i < xs.length → Own k e (w'.setCell ⟨g, i, none⟩ (.int k x)) base v (xs.set i x) := by
  rcases h.2 with ⟨rfl, h0⟩ | ⟨g, cap, cur, rfl, hb, hg, h1, h2, h3, h4⟩
  · omega
  · refine ⟨g, cap, rfl, hb, block_lt hg, h1, fun i hi => ?_, fun i => block_frozen w g i _ _ hg, fun w' i x hw hi => ?_⟩
    · rw [cell_of_row w g i cur e (0, 0) hg]
      have : (cur.toList.take (xs.length * 1))[i]? = (xs.map (Value.int k))[i]? := by rw [h4]
      rw [List.getElem?_take_of_lt (by omega)] at this
      rw [← Array.getElem?_toList, this, List.getElem?_map, List.getElem?_eq_getElem hi, nth_eq xs i hi]
      rfl
    · unfold Own
      rw [List.length_set]
      refine ⟨by simp, .inr ⟨g, cap, cur.setIfInBounds i (.int k x), rfl, hb, ?_, h1, h2, by simpa using h3, ?_⟩⟩
      · simp [World.setCell, Array.getElem?_modify, hw, hg]
      · rw [Array.toList_setIfInBounds, List.take_set, h4, List.map_set]
theorem Own.laid {k : IntKind} {t : TypeId} {w : World} {base g : Nat} {l : List Int} {n : Nat} (hg : w.heap[g]? = some (.cells (blk k l) t (0, 0))) (hb : base ≤ g) (hl : l.length = n) (hm : n ≤ maxLen) : Own k t w base (.slice (some ⟨g, 0, none⟩) n n) l := by
  subst hl
  exact ⟨by simp, .inr ⟨g, _, _, rfl, hb, hg, Nat.le_refl _, hm, by simp [blk_size], by rw [Nat.mul_one, List.take_of_length_le (by simp [blk])]; simp [blk]⟩⟩
/-- A beginning of a row. -/
theorem Row.front {k : IntKind} {w : World} {B : Nat} {A : Option Addr} {xs : List Int} (h : Row k w B A xs) (m : Nat) : Row k w B A (xs.take m) := by
  refine ⟨fun x hx => h.1 x (List.mem_of_mem_take hx), fun hn => ?_⟩
  rw [List.length_take] at hn
  obtain ⟨b, o, e, hb, hc⟩ := h.2 (by omega)
  refine ⟨b, o, e, hb, fun i hi => ?_⟩
  rw [List.length_take] at hi
  rw [hc i (by omega), nth_eq _ _ (by omega), nth_eq _ _ (by rw [List.length_take]; omega), List.getElem_take]
end Go.Proofs.Ytfclgjdlkcmnfaa
namespace Go.Proofs.Ytfclgjdlkcmnfaa
open Go.RowKit
set_option linter.unusedVariables false

/-- A slice at A whose cells are the values vs, in blocks below B (nil let in). -/
def VRow (w : World) (B : Nat) (A : Option Addr) (vs : List Value) : Prop :=
  0 < vs.length → ∃ b o, A = some ⟨b, o, none⟩ ∧ b < B ∧ ∀ i v, vs[i]? = some v → w.cell? ⟨b, o + i, none⟩ = some v
theorem VRow.nil (w : World) (B : Nat) (A : Option Addr) : VRow w B A [] := fun h => absurd h (by simp)
theorem VRow.more {w : World} {B B' : Nat} {A : Option Addr} {vs : List Value} (h : VRow w B A vs) (hB : B ≤ B') : VRow w B' A vs := fun hn => by
  obtain ⟨b, o, e, hb, hc⟩ := h hn
  exact ⟨b, o, e, by omega, hc⟩
theorem VRow.below {w w' : World} {B : Nat} {A : Option Addr} {vs : List Value} (h : VRow w B A vs) (hb : Below B w w') : VRow w' B A vs := fun hn => by
  obtain ⟨b, o, e, hlt, hc⟩ := h hn
  exact ⟨b, o, e, hlt, fun i v hv => (hb.cell (p := ⟨b, o + i, none⟩) hlt).trans (hc i v hv)⟩
theorem VRow.alloc {w : World} {B : Nat} {A : Option Addr} {vs : List Value} (h : VRow w B A vs) (hB : B ≤ w.heap.size) (o : Obj) : VRow (w.alloc o) B A vs := h.below ((Below.refl _ _).alloc hB o)
theorem VRow.drewN {w : World} {B : Nat} {A : Option Addr} {vs : List Value} (h : VRow w B A vs) (n : Nat) : VRow (w.drewN n) B A vs := h
theorem VRow.of_block {w : World} {g : Nat} {t : TypeId} {fr : Nat × Nat} {cs : Array Value} (hg : w.heap[g]? = some (.cells cs t fr)) (vs : List Value) (hp : vs <+: cs.toList) : VRow w w.heap.size (some ⟨g, 0, none⟩) vs := fun hn => by
  refine ⟨g, 0, rfl, block_lt hg, fun i v hv => ?_⟩
  obtain ⟨r, hr⟩ := hp
  have hi : i < vs.length := (List.getElem?_eq_some_iff.1 hv).1
  rw [Nat.zero_add, cell_of_row w g i _ _ _ hg, ← Array.getElem?_toList, ← hr, List.getElem?_append_left hi, hv]
theorem VRow.new (w : World) (t : TypeId) (vs : List Value) : VRow (w.alloc (.cells vs.toArray t)) (w.alloc (.cells vs.toArray t)).heap.size (some ⟨w.heap.size, 0, none⟩) vs :=
  VRow.of_block (heap_alloc_new w _) vs (by simp)
theorem VRow.front {w : World} {B : Nat} {A : Option Addr} {vs ws : List Value} (h : VRow w B A vs) (hp : ws <+: vs) : VRow w B A ws := fun hn => by
  obtain ⟨r, rfl⟩ := hp
  obtain ⟨b, o, e, hb, hc⟩ := h (by rw [List.length_append]; omega)
  exact ⟨b, o, e, hb, fun i v hv => hc i v (by rw [List.getElem?_append_left (List.getElem?_eq_some_iff.1 hv).1]; exact hv)⟩
theorem VRow.of_own {w : World} {base size n : Nat} {e : TypeId} {v : Value} {xs : List Value} (h : w.ownsRow base e size v n xs) :
    ∃ A c, v = .slice A n c ∧ VRow w w.heap.size A xs ∧ n ≤ c ∧ c ≤ maxLen := by
  obtain ⟨hl, ⟨rfl, rfl⟩ | ⟨g, cap, cur, rfl, h1, h2, h3, h4, h5, h6⟩⟩ := h
  · have hx : xs = [] := List.eq_nil_of_length_eq_zero (by simpa using hl)
    subst hx
    exact ⟨none, 0, rfl, VRow.nil _ _ _, Nat.le_refl _, Nat.zero_le _⟩
  · exact ⟨_, cap, rfl, VRow.of_block h2 xs (by rw [← h6]; exact List.take_prefix _ _), h3, h4⟩

/-- The cells of a block that is known whole, as a range. -/
theorem rangeB {w : World} {g : Nat} {cs : List Value} {t : TypeId} (h : w.heap[g]? = some (.cells cs.toArray t (0, 0))) : w.rangeAt g 0 cs := fun j v hv => by
  rw [Nat.zero_add, cell_of_row w g j _ _ _ h, ← hv]; simp
theorem rangeBelow {w w' : World} {B b o : Nat} {cs : List Value} (h : w.rangeAt b o cs) (hb : Below B w w') (hlt : b < B) : w'.rangeAt b o cs := fun j v hv => (hb.cell (p := ⟨b, o + j, none⟩) hlt).trans (h j v hv)

section
variable {α : Type} {C : α → List Value} {k : Nat}
/-- The cells of a list of structs, one behind the other. -/
def flatV (C : α → List Value) (l : List α) : List Value := l.flatMap C
theorem flatV_nil : flatV C [] = [] := rfl
theorem flatV_cons (a : α) (l : List α) : flatV C (a :: l) = C a ++ flatV C l := rfl
theorem flatV_append (l m : List α) : flatV C (l ++ m) = flatV C l ++ flatV C m := by simp [flatV]
theorem flatV_one (a : α) : flatV C [a] = C a := by simp [flatV]
theorem flatV_take (l : List α) (n : Nat) : flatV C (l.take n) <+: flatV C l := ⟨flatV C (l.drop n), by rw [← flatV_append, List.take_append_drop]⟩
variable (hC : ∀ a, (C a).length = k)
include hC
theorem flatV_len (l : List α) : (flatV C l).length = l.length * k := by
  induction l with
  | nil => simp [flatV]
  | cons a l ih => rw [flatV_cons, List.length_append, ih, hC, List.length_cons, Nat.succ_mul]; omega
theorem flatV_get (l : List α) (i : Nat) (h : i < l.length) (j : Nat) (hj : j < k) : (flatV C l)[i * k + j]? = (C l[i])[j]? := by
  induction l generalizing i with
  | nil => simp at h
  | cons a l ih =>
    rw [flatV_cons]
    cases i with
    | zero => rw [Nat.zero_mul, Nat.zero_add, List.getElem?_append_left (by rw [hC]; exact hj)]; rfl
    | succ i =>
      rw [show (i + 1) * k + j = k + (i * k + j) by rw [Nat.succ_mul]; omega]
      rw [List.getElem?_append_right (by rw [hC]; omega), hC, Nat.add_sub_cancel_left]
      exact ih i (by simpa using h)
/-- The cells of one struct of a list in memory. -/
theorem VRow.elem {w : World} {B : Nat} {A : Option Addr} {l : List α} (h : VRow w B A (flatV C l)) (hk : 0 < k) {i : Nat} (hi : i < l.length) :
    ∃ b o, A = some ⟨b, o, none⟩ ∧ b < B ∧ ∀ j v, (C l[i])[j]? = some v → w.cell? ⟨b, o + i * k + j, none⟩ = some v := by
  have hpos : 0 < (flatV C l).length := by rw [flatV_len hC]; exact Nat.mul_pos (by omega) hk
  obtain ⟨b, o, e, hb, hc⟩ := h hpos
  refine ⟨b, o, e, hb, fun j v hv => ?_⟩
  have hj : j < k := by have := (List.getElem?_eq_some_iff.1 hv).1; rw [hC] at this; exact this
  rw [Nat.add_assoc]
  exact hc _ _ (by rw [flatV_get hC l i hi j hj]; exact hv)
theorem VRow.range {w : World} {B : Nat} {A : Option Addr} {l : List α} (h : VRow w B A (flatV C l)) (hk : 0 < k) {i : Nat} (hi : i < l.length) :
    ∃ b o, A = some ⟨b, o, none⟩ ∧ b < B ∧ w.rangeAt b (o + i * k) (C l[i]) := h.elem hC hk hi
end

/-- Stores of several values, one behind the other, into an array. -/
def setL (arr : Array Value) (p : Nat) : List Value → Array Value
  | [] => arr
  | v :: vs => setL (arr.setIfInBounds p v) (p + 1) vs
theorem setL_size (arr : Array Value) (p : Nat) (vs : List Value) : (setL arr p vs).size = arr.size := by
  induction vs generalizing arr p with
  | nil => rfl
  | cons v vs ih => rw [setL, ih]; simp
theorem setL_get (arr : Array Value) (p : Nat) (vs : List Value) (i : Nat) (h : i < p) : (setL arr p vs)[i]? = arr[i]? := by
  induction vs generalizing arr p with
  | nil => rfl
  | cons v vs ih => rw [setL, ih _ _ (by omega), Array.getElem?_setIfInBounds_ne (by omega)]
theorem setL_at (arr : Array Value) (p : Nat) (vs : List Value) (j : Nat) (v : Value) (hv : vs[j]? = some v) (h : p + j < arr.size) : (setL arr p vs)[p + j]? = some v := by
  induction vs generalizing arr p j with
  | nil => simp at hv
  | cons u vs ih =>
    rw [setL]
    cases j with
    | zero =>
      rw [setL_get _ _ _ _ (by omega)]
      simp only [List.getElem?_cons_zero, Option.some.injEq] at hv
      subst hv
      simp only [Nat.add_zero] at h ⊢
      simp [h]
    | succ j =>
      rw [show p + (j + 1) = p + 1 + j by omega]
      exact ih _ _ j (by simpa using hv) (by simp; omega)
/-- A list that is being laid down, struct by struct. -/
theorem setL_take (arr : Array Value) (p : Nat) (vs : List Value) (h : p + vs.length ≤ arr.size) : (setL arr p vs).toList.take (p + vs.length) = arr.toList.take p ++ vs := by
  refine List.ext_getElem? fun i => ?_
  by_cases h1 : i < p
  · rw [List.getElem?_take_of_lt (by omega), List.getElem?_append_left (by rw [List.length_take, Array.length_toList]; omega), List.getElem?_take_of_lt h1, Array.getElem?_toList, Array.getElem?_toList, setL_get _ _ _ _ h1]
  · by_cases h2 : i < p + vs.length
    · obtain ⟨j, rfl⟩ : ∃ j, i = p + j := ⟨i - p, by omega⟩
      have hj : j < vs.length := by omega
      rw [List.getElem?_take_of_lt h2, Array.getElem?_toList, setL_at _ _ _ j vs[j] (List.getElem?_eq_getElem hj) (by omega), List.getElem?_append_right (by rw [List.length_take, Array.length_toList]; omega), List.length_take, Array.length_toList, show p + j - min p arr.size = j by omega, List.getElem?_eq_getElem hj]
    · have e1 : (setL arr p vs).toList.length = arr.size := by rw [Array.length_toList, setL_size]
      have e2 : ((setL arr p vs).toList.take (p + vs.length)).length ≤ p + vs.length := List.length_take_le _ _
      have e3 : (arr.toList.take p ++ vs).length ≤ p + vs.length := by rw [List.length_append]; have := List.length_take_le p arr.toList; omega
      rw [List.getElem?_eq_none (by omega), List.getElem?_eq_none (by omega)]
end Go.Proofs.Ytfclgjdlkcmnfaa
namespace Go.Proofs.Ytfclgjdlkcmnfaa
open Go.ChangeShapes Go.WideShapes Go.ChangeAt Go.RowKit Go.Deep
set_option linter.unusedVariables false
set_option maxRecDepth 100000

/-- A call in memory, and the bytes that its Data has. -/
structure Opm where
  (ki : Int) (nm tn : ByteArray) (A : Option Addr) (n c : Nat) (N : Int) (bs : List Int)
def opC (m : Opm) : List Value := [.int .i64 m.ki, .string m.nm, .string m.tn, .slice m.A m.n m.c, .int .i64 m.N]
theorem opC_len (m : Opm) : (opC m).length = 5 := rfl
structure Opm.Ok (w : World) (B : Nat) (m : Opm) : Prop where
  row : Row .u8 w B m.A m.bs
  len : m.bs.length = m.n
  le : m.n ≤ m.c
  cap : m.c ≤ 140737488355328
  ki : -9223372036854775808 ≤ m.ki ∧ m.ki < 9223372036854775808
  N : -9223372036854775808 ≤ m.N ∧ m.N < 9223372036854775808

section
variable {H : Type} {enc : TypeId × Value → H} {W : World}
theorem weights_mem_op {P : Program} {e : TypeId} {ds : List (DataW H)} {d : DataW H} (hd : d ∈ ds) {n : Nat} (hn : n ∈ d.weights P e) : n ∈ DataW.weightsAll P e ds := by
  induction ds with
  | nil => cases hd
  | cons x xs ih =>
    simp only [DataW.weightsAll, List.mem_append]
    rcases List.mem_cons.1 hd with h | h
    · subst h; exact .inl hn
    · exact .inr (ih h)
set_option maxHeartbeats 1000000 in
/-- The cells of a call that can be read are a call's. -/
theorem op_cells {fuel : Nat} {cs : List Value} {x : DataW H × List MemPlace} (h : DataW.trod enc Try.prog W 0 (fun _ => true) true fuel 46 cs = some x) (hl : cs.length = 5) (lt : ∀ z ∈ x.2, z.block < W.heap.size) (hwt : ∀ n ∈ x.1.weights Try.prog 46, n ≤ reachBytes) :
    ∃ m : Opm, cs = opC m ∧ Opm.Ok W W.heap.size m := by
  obtain ⟨d, p⟩ := x
  match cs, hl with
  | [c0, c1, c2, c3, c4], _ =>
  obtain ⟨ys, n, _, hx, _, hyl, hf⟩ := DataW.trod_struct Try.underlying46 h
  have s1 : Try.prog.cellsOf 9 = 1 := by kernel_rfl
  have s2 : Try.prog.cellsOf 3 = 1 := by kernel_rfl
  have s3 : Try.prog.cellsOf 30 = 1 := by kernel_rfl
  match ys, hyl with
  | [y0, y1, y2, y3, y4], _ =>
  have t0 : DataW.trod enc Try.prog W 0 (fun _ => true) true n 3 [c0] = some y0 := by simpa [s1, s2, s3] using hf 0 _ rfl
  have t1 : DataW.trod enc Try.prog W 0 (fun _ => true) true n 9 [c1] = some y1 := by simpa [s1, s2, s3] using hf 1 _ rfl
  have t2 : DataW.trod enc Try.prog W 0 (fun _ => true) true n 9 [c2] = some y2 := by simpa [s1, s2, s3] using hf 2 _ rfl
  have t3 : DataW.trod enc Try.prog W 0 (fun _ => true) true n 30 [c3] = some y3 := by simpa [s1, s2, s3] using hf 3 _ rfl
  have t4 : DataW.trod enc Try.prog W 0 (fun _ => true) true n 3 [c4] = some y4 := by simpa [s1, s2, s3] using hf 4 _ rfl
  clear hf
  simp only [Prod.mk.injEq] at hx
  have hp : p = y0.2 ++ (y1.2 ++ (y2.2 ++ (y3.2 ++ y4.2))) := by simpa using hx.2
  have hd : d = .agg [y0.1, y1.1, y2.1, y3.1, y4.1] := by simpa using hx.1
  obtain ⟨v0, e0, _, w0⟩ := DataW.trod_int Try.underlying3 t0
  injection e0 with e0
  subst e0
  obtain ⟨v1, e1, _, w1⟩ := DataW.trod_string Try.underlying9 t1
  injection e1 with e1
  subst e1
  obtain ⟨v2, e2, _, w2⟩ := DataW.trod_string Try.underlying9 t2
  injection e2 with e2
  subst e2
  obtain ⟨A, m, c, rfl⟩ := slice_form Try.underlying30 t3
  obtain ⟨v4, e4, _, w4⟩ := DataW.trod_int Try.underlying3 t4
  injection e4 with e4
  subst e4
  obtain ⟨l, r3, hl3, hle, hcap⟩ := row_in Try.underlying30 Try.underlying5 (by kernel_rfl) (d := y3.1) (p := y3.2) ⟨n, t3⟩ (fun x hx => lt x (by show x ∈ p; rw [hp]; simp [hx]))
  refine ⟨⟨v0, v1, v2, A, m, c, v4, l⟩, rfl, r3, hl3, hle, ?_, wf_i64 w0, wf_i64 w4⟩
  rcases hcap with h0 | ⟨el, sp, hD, hle2⟩
  · show c ≤ _; omega
  · have hmem : (el.length + sp.length) * Try.prog.bytesOf 5 ∈ d.weights Try.prog 46 := by
      rw [hd]
      simp only [DataW.weights, Try.underlying46]
      refine DataW.weights_mem_each (j := 3) (t := 30) (d := y3.1) rfl rfl _ ?_
      rw [hD]
      simp [DataW.weights, Try.underlying30]
    have := hwt _ hmem
    rw [show Try.prog.bytesOf 5 = 1 by kernel_rfl] at this
    simp only [reachBytes] at this
    show c ≤ _
    omega
/-- A list of calls. -/
theorem ops_in {a : Option Addr} {len cap : Nat} {d : DataW H} {p : List MemPlace}
    (h : DataW.Trod enc Try.prog W 0 (fun _ => true) true 42 (.slice a len cap) d p) (lt : ∀ x ∈ p, x.block < W.heap.size) (hwt : ∀ n ∈ d.weights Try.prog 42, n ≤ reachBytes) :
    ∃ l : List Opm, VRow W W.heap.size a (flatV opC l) ∧ l.length = len ∧ (∀ m ∈ l, Opm.Ok W W.heap.size m) ∧ len ≤ cap ∧ (cap = 0 ∨ ∃ el sp, d = .slice el sp ∧ cap ≤ el.length + sp.length) := by
  have s0 : Try.prog.cellsOf 46 = 5 := by kernel_rfl
  obtain ⟨fuel, hf⟩ := h
  rcases open_slice Try.underlying42 hf with ⟨hcs, _⟩ | ⟨x, l, c, m, n, D, Pl, hcs, _, hl, hm, hmm, hx, hi⟩
  · injection hcs with hcs
    injection hcs with e1 e2 e3
    subst e1 e2 e3
    exact ⟨[], VRow.nil _ _ _, rfl, fun _ h => absurd h (by simp), Nat.le_refl _, .inl rfl⟩
  · injection hcs with hcs
    injection hcs with e1 e2 e3
    subst e1 e2 e3
    have hm2 : m = cap := by simpa using hmm
    have hcap : cap = 0 ∨ ∃ el sp, d = .slice el sp ∧ cap ≤ el.length + sp.length := by
      right
      simp only [Prod.mk.injEq] at hx
      exact ⟨_, _, hx.1, by simp; omega⟩
    rcases Nat.eq_zero_or_pos len with hz | hpos
    · subst hz; exact ⟨[], VRow.nil _ _ _, rfl, fun _ h => absurd h (by simp), by omega, hcap⟩
    simp only [Prod.mk.injEq] at hx
    have opi : ∀ i, ∃ t : Opm, i < len → (∀ j v, (opC t)[j]? = some v → W.cell? (x.add (i * 5 + j)) = some v) ∧ Opm.Ok W W.heap.size t := by
      intro i
      by_cases hil : i < len
      · obtain ⟨cs', hc, ht'⟩ := hi i (by omega)
        rw [s0] at hc
        obtain ⟨_, hcl, hat⟩ := World.cells?_some hc
        obtain ⟨t, e, ok⟩ := op_cells ht' hcl (fun z hz => lt z (by
          rw [hx.2]
          exact List.mem_append.2 (.inr (List.mem_flatMap.2 ⟨i, List.mem_range.2 (by omega), hz⟩)))) (fun q hq => hwt q (by
          rw [hx.1]
          simp only [DataW.weights, Try.underlying42]
          refine List.mem_cons_of_mem _ (List.mem_append.2 (.inl ?_))
          exact weights_mem_op (d := D i) (List.mem_map.2 ⟨i, List.mem_range.2 hil, rfl⟩) hq))
        refine ⟨t, fun _ => ⟨fun j v hv => ?_, ok⟩⟩
        have hj : j < 5 := by have := (List.getElem?_eq_some_iff.1 hv).1; rwa [opC_len] at this
        rw [← Go.Deep.add_add, hat j hj, e, hv]
      · exact ⟨⟨0, ⟨#[]⟩, ⟨#[]⟩, none, 0, 0, 0, []⟩, fun h => absurd h hil⟩
    obtain ⟨T, hT⟩ := Classical.axiomOfChoice opi
    obtain ⟨b, off, spot⟩ := x
    have c0 := (hT 0 (by omega)).1 0 _ rfl
    have hspot : spot = none := by simpa [Addr.add] using World.cell?_spot c0
    subst hspot
    have hb : b < W.heap.size := by
      have := lt (.cell b off) (by
        rw [hx.2]
        refine List.mem_append.2 (.inl (MemPlace.mem_row.2 ⟨0, ?_, by simp⟩))
        rw [s0]; omega)
      exact this
    refine ⟨(List.range len).map T, fun _ => ⟨b, off, rfl, hb, fun i v hv => ?_⟩, by simp, fun t ht => ?_, by omega, hcap⟩
    · have hil : i < ((List.range len).map T).length * 5 := by
        have := (List.getElem?_eq_some_iff.1 hv).1
        rwa [flatV_len opC_len] at this
      have hlen : ((List.range len).map T).length = len := by simp
      have hi2 : i / 5 < ((List.range len).map T).length := by omega
      have hg := flatV_get opC_len ((List.range len).map T) (i / 5) hi2 (i % 5) (Nat.mod_lt _ (by omega))
      rw [show i / 5 * 5 + i % 5 = i by omega, hv] at hg
      have hg2 : (opC (T (i / 5)))[i % 5]? = some v := by rw [hg]; simp
      have := (hT (i / 5) (by omega)).1 (i % 5) v hg2
      rw [show i / 5 * 5 + i % 5 = i by omega] at this
      rw [← Go.WideShapes.add_plain]
      exact this
    · obtain ⟨i, hi', rfl⟩ := List.mem_map.1 ht
      exact (hT i (by have := List.mem_range.1 hi'; omega)).2
theorem reach_ops {ts : List TypeId} {ds : List (DataW H)} (hsz : (DataW.weightsEach Try.prog ts ds).all (· ≤ reachBytes) = true) (j : Nat) {d : DataW H} {cap : Nat} (ht : ts[j]? = some 42) (hd : ds[j]? = some d)
    (h : cap = 0 ∨ ∃ el sp, d = .slice el sp ∧ cap ≤ el.length + sp.length) : cap * 72 ≤ 140737488351232 := by
  rcases h with rfl | ⟨el, sp, rfl, hle⟩
  · omega
  · have := sized_slice hsz ht hd Try.underlying42
    rw [show Try.prog.bytesOf 46 = 72 by kernel_rfl] at this
    simp only [reachBytes] at this
    omega
end
end Go.Proofs.Ytfclgjdlkcmnfaa
namespace Go.Proofs.Ytfclgjdlkcmnfaa
open Go.RowKit
set_option linter.unusedVariables false

/-- A file, and a device, as plain data. -/
structure Fl where
  (nm : ByteArray) (bs : List Int) (sy : Nat)
structure Dv where
  (room : Nat) (left : Int) (off : Bool) (fs : List Fl)
def sameN (a b : ByteArray) : Bool := a.toList == b.toList
def lessN (a b : ByteArray) : Bool := Op.bytesLess a.toList b.toList
def okN (s : ByteArray) : Bool := decide (0 < s.size) && decide (s.size ≤ 16)
theorem lessN_lt (x y : List UInt8) : Op.bytesLess x y = decide (x < y) := by
  induction x generalizing y with
  | nil => cases y <;> simp [Op.bytesLess]
  | cons a x ih =>
    cases y with
    | nil => simp [Op.bytesLess]
    | cons b y =>
      have e : decide (a :: x < b :: y) = (decide (a < b) || (decide (a = b) && decide (x < y))) := by
        rw [← Bool.decide_and, ← Bool.decide_or]
        exact decide_eq_decide.2 List.cons_lt_cons_iff
      rw [Op.bytesLess, ih, e]
      by_cases h1 : a < b
      · simp [h1]
      · by_cases h2 : a = b <;> simp [h1, h2]
theorem sameN_iff {a b : ByteArray} : sameN a b = true ↔ a = b := by
  unfold sameN
  rw [beq_iff_eq]
  constructor
  · intro h
    rw [ByteArray.toList_eq, ByteArray.toList_eq] at h
    apply ByteArray.ext
    exact Array.toList_inj.1 h
  · intro h; rw [h]
theorem sameN_refl (a : ByteArray) : sameN a a = true := sameN_iff.2 rfl
theorem sameN_comm (a b : ByteArray) : sameN a b = sameN b a := by
  rw [Bool.eq_iff_iff, sameN_iff, sameN_iff]; exact eq_comm
theorem lessN_iff {a b : ByteArray} : lessN a b = true ↔ a.toList < b.toList := by unfold lessN; rw [lessN_lt, decide_eq_true_iff]
theorem lessN_trans {a b c : ByteArray} (h : lessN a b = true) (h' : lessN b c = true) : lessN a c = true := lessN_iff.2 (List.lt_trans (lessN_iff.1 h) (lessN_iff.1 h'))
theorem lessN_irrefl (a : ByteArray) : lessN a a = false := by
  cases h : lessN a a
  · rfl
  · exact absurd (lessN_iff.1 h) (List.lt_irrefl _)
theorem lessN_tri {a b : ByteArray} (h : lessN a b = false) (h' : sameN a b = false) : lessN b a = true := by
  rcases Std.lt_trichotomy a.toList b.toList with h3 | h3 | h3
  · rw [lessN_iff.2 h3] at h; cases h
  · unfold sameN at h'
    rw [h3] at h'
    simp at h'
  · exact lessN_iff.2 h3
theorem lessN_not {a b : ByteArray} (h : lessN a b = true) : lessN b a = false ∧ sameN a b = false ∧ sameN b a = false := by
  have h1 : a ≠ b := fun e => by rw [e, lessN_irrefl] at h; cases h
  refine ⟨?_, ?_, ?_⟩
  · cases h2 : lessN b a
    · rfl
    · have := lessN_trans h h2; rw [lessN_irrefl] at this; cases this
  · cases h2 : sameN a b
    · rfl
    · exact absurd (sameN_iff.1 h2) h1
  · cases h2 : sameN b a
    · rfl
    · exact absurd (sameN_iff.1 h2).symm h1

/-- Where a file stands. -/
def findD (l : List Fl) (s : ByteArray) : Option Nat := l.findIdx? (fun f => sameN f.nm s)
def findZ (l : List Fl) (s : ByteArray) : Int := match findD l s with | some k => (k : Int) | none => -1
theorem findD_some {l : List Fl} {s : ByteArray} {k : Nat} (h : findD l s = some k) : ∃ hk : k < l.length, sameN l[k].nm s = true ∧ ∀ j (hj : j < k), sameN (l[j]'(by omega)).nm s = false := by
  unfold findD at h
  rw [List.findIdx?_eq_some_iff_getElem] at h
  obtain ⟨hk, h1, h2⟩ := h
  exact ⟨hk, h1, fun j hj => by simpa using h2 j hj⟩
theorem findD_none {l : List Fl} {s : ByteArray} : findD l s = none ↔ ∀ f ∈ l, sameN f.nm s = false := by
  unfold findD
  rw [List.findIdx?_eq_none_iff]
theorem findD_at {l : List Fl} {s : ByteArray} (k : Nat) (hk : k < l.length) (h1 : sameN l[k].nm s = true) (h2 : ∀ j (hj : j < k), sameN (l[j]'(by omega)).nm s = false) : findD l s = some k := by
  unfold findD
  rw [List.findIdx?_eq_some_iff_getElem]
  exact ⟨hk, h1, fun j hj => by rw [h2 j hj]; simp⟩
/-- A file is put in its place. -/
def insD : List Fl → Fl → List Fl
  | [], f => [f]
  | h :: t, f => bif lessN f.nm h.nm then f :: h :: t else h :: insD t f
def usedD (l : List Fl) : Nat := (l.map fun f => f.bs.length).sum
def spentD (d : Dv) : Dv := if 0 < d.left then { d with left := d.left - 1 } else d
/-- An operation is done, or the power fails by it. -/
def opD (d d' : Dv) : Dv × Int := if d.left = 0 then ({ d with off := true }, 10) else (d', 0)
def addF (l : List Fl) (s : ByteArray) (b : List Int) : List Fl := match findD l s with
  | some k => l.modify k (fun f => { f with bs := f.bs ++ b })
  | none => insD l ⟨s, b, 0⟩
def appD (d : Dv) (s : ByteArray) (b : List Int) : Dv × Int :=
  if okN s = false then (d, 8) else if d.off = true then (d, 10)
  else if (findD d.fs s = none ∧ d.fs.length = 64) ∨ (d.room : Int) - usedD d.fs < b.length then (d, 9)
  else opD d { spentD d with fs := addF d.fs s b }
def syncD (d : Dv) (s : ByteArray) : Dv × Int :=
  if d.off = true then (d, 10) else match findD d.fs s with
  | none => (d, 6)
  | some k => opD d { spentD d with fs := d.fs.modify k (fun f => { f with sy := f.bs.length }) }
def truncD (d : Dv) (s : ByteArray) (n : Int) : Dv × Int :=
  if d.off = true then (d, 10) else match findD d.fs s with
  | none => (d, 6)
  | some k => if n < 0 ∨ (((d.fs[k]?).map fun f => f.bs.length).getD 0 : Int) < n then (d, 3) else opD d { spentD d with fs := d.fs.modify k (fun f => { f with bs := f.bs.take n.toNat, sy := min f.sy n.toNat }) }
def outD (l : List Fl) (s : ByteArray) : List Fl := match findD l s with
  | some k => l.eraseIdx k
  | none => l
def renD (d : Dv) (s u : ByteArray) : Dv × Int :=
  if okN u = false then (d, 8) else if d.off = true then (d, 10) else match findD d.fs s with
  | none => (d, 6)
  | some k => opD d { spentD d with fs := match d.fs[k]? with
    | some f => insD (outD (d.fs.eraseIdx k) u) { f with nm := u }
    | none => d.fs }
def remD (d : Dv) (s : ByteArray) : Dv × Int :=
  if d.off = true then (d, 10) else match findD d.fs s with
  | none => (d, 6)
  | some k => opD d { spentD d with fs := d.fs.eraseIdx k }
def readE (d : Dv) (s : ByteArray) : Int := match findD d.fs s with | none => 6 | some _ => 0
def readL (d : Dv) (s : ByteArray) : List Int := match findD d.fs s with | none => [] | some k => ((d.fs[k]?).map fun f => f.bs).getD []
def namesD (d : Dv) : List ByteArray := d.fs.map fun f => f.nm
def armD (d : Dv) (n : Int) : Dv := { d with left := if n < 0 then -1 else n }
def wakeF (keep : Int) (f : Fl) : Fl := ⟨f.nm, f.bs.take (f.sy + min keep.toNat (f.bs.length - f.sy)), f.sy + min keep.toNat (f.bs.length - f.sy)⟩
def wakeD (d : Dv) (keep : Int) : Dv := { d with left := -1, off := false, fs := d.fs.map (wakeF keep) }
def newD (room : Nat) : Dv := ⟨room, -1, false, []⟩

/-- What holds of every device. -/
structure Fl.Ok (f : Fl) : Prop where
  nm : okN f.nm = true
  wf : ∀ x ∈ f.bs, (Lit.int .u8 x).wf = true
  sy : f.sy ≤ f.bs.length
structure Dv.Ok (d : Dv) : Prop where
  fl : ∀ f ∈ d.fs, Fl.Ok f
  up : d.fs.Pairwise (fun a b => lessN a.nm b.nm = true)
  us : usedD d.fs ≤ d.room
  rm : d.room ≤ 16777216
  ln : d.fs.length ≤ 64
  lf : -1 ≤ d.left
  li : d.left < 9223372036854775808

theorem used_nil : usedD [] = 0 := rfl
theorem used_cons (f : Fl) (l : List Fl) : usedD (f :: l) = f.bs.length + usedD l := by simp [usedD]
theorem used_append (l m : List Fl) : usedD (l ++ m) = usedD l + usedD m := by simp [usedD]
theorem used_mem {l : List Fl} {f : Fl} (h : f ∈ l) : f.bs.length ≤ usedD l := by
  induction l with
  | nil => cases h
  | cons g l ih =>
    rw [used_cons]
    rcases List.mem_cons.1 h with rfl | h
    · omega
    · have := ih h; omega
theorem used_ins (l : List Fl) (f : Fl) : usedD (insD l f) = usedD l + f.bs.length := by
  induction l with
  | nil => simp [insD, usedD]
  | cons g l ih =>
    unfold insD
    cases lessN f.nm g.nm
    · simp only [cond_false, used_cons, ih]; omega
    · simp only [cond_true, used_cons]; omega
theorem ins_len (l : List Fl) (f : Fl) : (insD l f).length = l.length + 1 := by
  induction l with
  | nil => rfl
  | cons g l ih =>
    unfold insD
    cases lessN f.nm g.nm
    · simp only [cond_false, List.length_cons, ih]
    · rfl
theorem ins_mem {l : List Fl} {f g : Fl} (h : g ∈ insD l f) : g = f ∨ g ∈ l := by
  induction l with
  | nil => simp [insD] at h; exact .inl h
  | cons a l ih =>
    unfold insD at h
    cases hl : lessN f.nm a.nm <;> rw [hl] at h
    · simp only [cond_false, List.mem_cons] at h ⊢
      rcases h with h | h
      · exact .inr (.inl h)
      · rcases ih h with h | h
        · exact .inl h
        · exact .inr (.inr h)
    · simp only [cond_true, List.mem_cons] at h ⊢
      exact h
theorem ins_up {l : List Fl} {f : Fl} (h : l.Pairwise (fun a b => lessN a.nm b.nm = true)) (hn : ∀ g ∈ l, sameN g.nm f.nm = false) : (insD l f).Pairwise (fun a b => lessN a.nm b.nm = true) := by
  induction l with
  | nil => simp [insD]
  | cons a l ih =>
    obtain ⟨h1, h2⟩ := List.pairwise_cons.1 h
    unfold insD
    cases hl : lessN f.nm a.nm
    · simp only [cond_false]
      refine List.pairwise_cons.2 ⟨fun b hb => ?_, ih h2 (fun g hg => hn g (by simp [hg]))⟩
      rcases ins_mem hb with rfl | hb
      · exact lessN_tri hl (by rw [sameN_comm]; exact hn a (by simp))
      · exact h1 b hb
    · simp only [cond_true]
      exact List.pairwise_cons.2 ⟨fun b hb => by
        rcases List.mem_cons.1 hb with rfl | hb
        · exact hl
        · exact lessN_trans hl (h1 b hb), h⟩
/-- Names are met once. -/
theorem up_unique {l : List Fl} (h : l.Pairwise (fun a b => lessN a.nm b.nm = true)) {i j : Nat} (hi : i < l.length) (hj : j < l.length) (he : sameN l[i].nm l[j].nm = true) : i = j := by
  rcases Nat.lt_trichotomy i j with h1 | h1 | h1
  · have := List.pairwise_iff_getElem.1 h i j hi hj h1
    rw [(lessN_not this).2.1] at he; cases he
  · exact h1
  · have := List.pairwise_iff_getElem.1 h j i hj hi h1
    rw [(lessN_not this).2.2] at he; cases he
theorem erase_up {l : List Fl} (h : l.Pairwise (fun a b => lessN a.nm b.nm = true)) (k : Nat) : (l.eraseIdx k).Pairwise (fun a b => lessN a.nm b.nm = true) := h.sublist (List.eraseIdx_sublist _ _)
theorem used_erase {l : List Fl} {k : Nat} (h : k < l.length) : usedD (l.eraseIdx k) + l[k].bs.length = usedD l := by
  induction l generalizing k with
  | nil => simp at h
  | cons a l ih =>
    cases k with
    | zero => simp [used_cons]; omega
    | succ k =>
      simp only [List.eraseIdx_cons_succ, used_cons, List.getElem_cons_succ]
      have := ih (k := k) (by simpa using h)
      omega
theorem used_erase_le (l : List Fl) (k : Nat) : usedD (l.eraseIdx k) ≤ usedD l := by
  by_cases h : k < l.length
  · have := used_erase h; omega
  · rw [List.eraseIdx_of_length_le (by omega)]; exact Nat.le_refl _
theorem used_modify {l : List Fl} {k : Nat} (h : k < l.length) (f : Fl → Fl) : usedD (l.modify k f) + l[k].bs.length = usedD l + (f l[k]).bs.length := by
  induction l generalizing k with
  | nil => simp at h
  | cons a l ih =>
    cases k with
    | zero => simp [used_cons]; omega
    | succ k =>
      simp only [List.modify_succ_cons, used_cons, List.getElem_cons_succ]
      have := ih (k := k) (by simpa using h)
      omega
theorem modify_mem {l : List Fl} {k : Nat} {f : Fl → Fl} {g : Fl} (h : g ∈ l.modify k f) : g ∈ l ∨ ∃ hk : k < l.length, g = f l[k] := by
  obtain ⟨i, hi, rfl⟩ := List.mem_iff_getElem.1 h
  rw [List.length_modify] at hi
  rw [List.getElem_modify]
  by_cases e : k = i
  · subst e; rw [if_pos rfl]; exact .inr ⟨hi, rfl⟩
  · rw [if_neg e]; exact .inl (List.getElem_mem _)
theorem modify_up {l : List Fl} (h : l.Pairwise (fun a b => lessN a.nm b.nm = true)) (k : Nat) (f : Fl → Fl) (hf : ∀ g, (f g).nm = g.nm) : (l.modify k f).Pairwise (fun a b => lessN a.nm b.nm = true) := by
  rw [List.pairwise_iff_getElem] at h ⊢
  intro i j hi hj hij
  rw [List.length_modify] at hi hj
  have := h i j hi hj hij
  rw [List.getElem_modify, List.getElem_modify]
  split <;> split <;> simpa [hf] using this
theorem map_up {l : List Fl} (h : l.Pairwise (fun a b => lessN a.nm b.nm = true)) (f : Fl → Fl) (hf : ∀ g, (f g).nm = g.nm) : (l.map f).Pairwise (fun a b => lessN a.nm b.nm = true) := by
  rw [List.pairwise_map]
  exact h.imp (fun {a b} hab => by rw [hf, hf]; exact hab)
theorem outD_none {l : List Fl} (h : l.Pairwise (fun a b => lessN a.nm b.nm = true)) (s : ByteArray) : ∀ g ∈ outD l s, sameN g.nm s = false := by
  unfold outD
  cases hf : findD l s with
  | none => exact findD_none.1 hf
  | some k =>
    obtain ⟨hk, h1, h2⟩ := findD_some hf
    intro g hg
    simp only at hg
    obtain ⟨i, hi, rfl⟩ := List.mem_iff_getElem.1 hg
    rw [List.getElem_eraseIdx]
    cases hs : sameN _ s
    · rfl
    exfalso
    split at hs
    · rename_i hlt
      rw [h2 i hlt] at hs; cases hs
    · rename_i hge
      rw [List.length_eraseIdx_of_lt hk] at hi
      have e1 := sameN_iff.1 hs
      have e2 := sameN_iff.1 h1
      have := up_unique h (i := i + 1) (j := k) (by omega) hk (sameN_iff.2 (e1.trans e2.symm))
      omega
theorem outD_up {l : List Fl} (h : l.Pairwise (fun a b => lessN a.nm b.nm = true)) (s : ByteArray) : (outD l s).Pairwise (fun a b => lessN a.nm b.nm = true) := by
  unfold outD
  cases findD l s with
  | none => exact h
  | some k => exact erase_up h k
theorem outD_used (l : List Fl) (s : ByteArray) : usedD (outD l s) ≤ usedD l := by
  unfold outD
  cases findD l s with
  | none => exact Nat.le_refl _
  | some k => exact used_erase_le l k
theorem outD_len (l : List Fl) (s : ByteArray) : (outD l s).length ≤ l.length := by
  unfold outD
  cases findD l s with
  | none => exact Nat.le_refl _
  | some k => exact List.length_eraseIdx_le _ _
theorem outD_mem {l : List Fl} {s : ByteArray} {g : Fl} (h : g ∈ outD l s) : g ∈ l := by
  unfold outD at h
  cases hf : findD l s with
  | none => rw [hf] at h; exact h
  | some k => rw [hf] at h; exact List.mem_of_mem_eraseIdx h

theorem spent_ok {d : Dv} (h : Dv.Ok d) {l : List Fl} (h1 : ∀ f ∈ l, Fl.Ok f) (h2 : l.Pairwise (fun a b => lessN a.nm b.nm = true)) (h3 : usedD l ≤ d.room) (h4 : l.length ≤ 64) : Dv.Ok (opD d { spentD d with fs := l }).1 := by
  unfold opD
  split
  · exact ⟨h.fl, h.up, h.us, h.rm, h.ln, h.lf, h.li⟩
  · unfold spentD
    split
    · rename_i hp
      refine ⟨h1, h2, h3, h.rm, h4, ?_, ?_⟩
      · show -1 ≤ d.left - 1; omega
      · have := h.li
        show d.left - 1 < 9223372036854775808; omega
    · exact ⟨h1, h2, h3, h.rm, h4, h.lf, h.li⟩
theorem app_ok {d : Dv} (h : Dv.Ok d) (s : ByteArray) (b : List Int) (hb : ∀ x ∈ b, (Lit.int .u8 x).wf = true) : Dv.Ok (appD d s b).1 := by
  unfold appD
  split
  · exact h
  rename_i hn
  split
  · exact h
  split
  · exact h
  rename_i hf
  have hu := h.us
  refine spent_ok h ?_ ?_ ?_ ?_
  · intro g hg
    unfold addF at hg
    cases hfd : findD d.fs s with
    | none =>
      rw [hfd] at hg
      rcases ins_mem hg with rfl | hg
      · exact ⟨by simpa using hn, hb, Nat.zero_le _⟩
      · exact h.fl g hg
    | some k =>
      rw [hfd] at hg
      rcases modify_mem hg with hg | ⟨hk, rfl⟩
      · exact h.fl g hg
      · have := h.fl _ (List.getElem_mem hk)
        exact ⟨this.nm, wf_append this.wf hb, by have := this.sy; simp only [List.length_append]; omega⟩
  · unfold addF
    cases hfd : findD d.fs s with
    | none => exact ins_up h.up (fun g hg => findD_none.1 hfd g hg)
    | some k => exact modify_up h.up k _ (fun g => rfl)
  · unfold addF
    cases hfd : findD d.fs s with
    | none => simp only [used_ins]; omega
    | some k =>
      obtain ⟨hk, _⟩ := findD_some hfd
      have := used_modify hk (fun f => { f with bs := f.bs ++ b })
      simp only [List.length_append] at this
      simp only
      omega
  · unfold addF
    cases hfd : findD d.fs s with
    | none =>
      have := h.ln
      simp only [ins_len]
      have : d.fs.length ≠ 64 := fun e => hf (.inl ⟨hfd, e⟩)
      omega
    | some k => simp only [List.length_modify]; exact h.ln
theorem sync_ok {d : Dv} (h : Dv.Ok d) (s : ByteArray) : Dv.Ok (syncD d s).1 := by
  unfold syncD
  split
  · exact h
  cases hfd : findD d.fs s with
  | none => exact h
  | some k =>
    obtain ⟨hk, _⟩ := findD_some hfd
    refine spent_ok h ?_ (modify_up h.up k _ (fun g => rfl)) ?_ (by rw [List.length_modify]; exact h.ln)
    · intro g hg
      rcases modify_mem hg with hg | ⟨hk, rfl⟩
      · exact h.fl g hg
      · have := h.fl _ (List.getElem_mem hk)
        exact ⟨this.nm, this.wf, Nat.le_refl _⟩
    · have := used_modify hk (fun f => { f with sy := f.bs.length })
      have := h.us
      simp only at *
      omega
theorem trunc_ok {d : Dv} (h : Dv.Ok d) (s : ByteArray) (n : Int) : Dv.Ok (truncD d s n).1 := by
  unfold truncD
  split
  · exact h
  cases hfd : findD d.fs s with
  | none => exact h
  | some k =>
    obtain ⟨hk, _⟩ := findD_some hfd
    simp only
    split
    · exact h
    refine spent_ok h ?_ (modify_up h.up k _ (fun g => rfl)) ?_ (by rw [List.length_modify]; exact h.ln)
    · intro g hg
      rcases modify_mem hg with hg | ⟨hk, rfl⟩
      · exact h.fl g hg
      · have := h.fl _ (List.getElem_mem hk)
        have h2 := this.sy
        exact ⟨this.nm, fun x hx => this.wf x (List.mem_of_mem_take hx), by simp only [List.length_take]; omega⟩
    · have := used_modify hk (fun f => { f with bs := f.bs.take n.toNat, sy := min f.sy n.toNat })
      have := h.us
      simp only [List.length_take] at *
      omega
theorem rem_ok {d : Dv} (h : Dv.Ok d) (s : ByteArray) : Dv.Ok (remD d s).1 := by
  unfold remD
  split
  · exact h
  cases hfd : findD d.fs s with
  | none => exact h
  | some k =>
    exact spent_ok h (fun g hg => h.fl g (List.mem_of_mem_eraseIdx hg)) (erase_up h.up k) (Nat.le_trans (used_erase_le _ _) h.us) (Nat.le_trans (List.length_eraseIdx_le _ _) h.ln)
theorem ren_ok {d : Dv} (h : Dv.Ok d) (s u : ByteArray) : Dv.Ok (renD d s u).1 := by
  unfold renD
  split
  · exact h
  rename_i hn
  split
  · exact h
  cases hfd : findD d.fs s with
  | none => exact h
  | some k =>
    obtain ⟨hk, _⟩ := findD_some hfd
    simp only [List.getElem?_eq_getElem hk]
    have hf := h.fl _ (List.getElem_mem hk)
    refine spent_ok h ?_ (ins_up (outD_up (erase_up h.up k) u) (fun g hg => outD_none (erase_up h.up k) u g hg)) ?_ ?_
    · intro g hg
      rcases ins_mem hg with rfl | hg
      · exact ⟨by simpa using hn, hf.wf, hf.sy⟩
      · exact h.fl g (List.mem_of_mem_eraseIdx (outD_mem hg))
    · rw [used_ins]
      have := outD_used (d.fs.eraseIdx k) u
      have := used_erase hk
      have := h.us
      simp only
      omega
    · rw [ins_len]
      have := outD_len (d.fs.eraseIdx k) u
      have := List.length_eraseIdx_of_lt hk
      have := h.ln
      omega
theorem arm_ok {d : Dv} (h : Dv.Ok d) (n : Int) (hn : n < 9223372036854775808) : Dv.Ok (armD d n) := by
  refine ⟨h.fl, h.up, h.us, h.rm, h.ln, ?_, ?_⟩
  · show -1 ≤ (if n < 0 then -1 else n : Int); split <;> omega
  · show (if n < 0 then -1 else n : Int) < 9223372036854775808; split <;> omega
theorem used_wake (l : List Fl) (keep : Int) : usedD (l.map (wakeF keep)) ≤ usedD l := by
  induction l with
  | nil => exact Nat.le_refl _
  | cons f l ih =>
    rw [List.map_cons, used_cons, used_cons]
    have : (wakeF keep f).bs.length ≤ f.bs.length := by unfold wakeF; simp only [List.length_take]; omega
    omega
theorem wakeF_ok {f : Fl} (h : Fl.Ok f) (keep : Int) : Fl.Ok (wakeF keep f) := by
  have h2 := h.sy
  exact ⟨h.nm, fun x hx => h.wf x (List.mem_of_mem_take hx), by unfold wakeF; simp only [List.length_take]; omega⟩
theorem wake_ok {d : Dv} (h : Dv.Ok d) (keep : Int) : Dv.Ok (wakeD d keep) := by
  refine ⟨fun g hg => ?_, map_up h.up _ (fun g => rfl), Nat.le_trans (used_wake _ _) h.us, h.rm, ?_, by show (-1 : Int) ≤ -1; omega, by show (-1 : Int) < _; omega⟩
  · obtain ⟨f, hf, rfl⟩ := List.mem_map.1 hg
    exact wakeF_ok (h.fl f hf) keep
  · show (d.fs.map (wakeF keep)).length ≤ 64
    rw [List.length_map]; exact h.ln
theorem new_ok (room : Nat) (h : room ≤ 16777216) : Dv.Ok (newD room) := ⟨fun f hf => absurd hf (by simp [newD]), by simp [newD], Nat.zero_le _, h, Nat.zero_le _, by show (-1 : Int) ≤ -1; omega, by show (-1 : Int) < _; omega⟩
end Go.Proofs.Ytfclgjdlkcmnfaa
namespace Go.Proofs.Ytfclgjdlkcmnfaa
open Go.RowKit

theorem info_u8 : (Try.prog.info? 5).map (fun i => (i.zero, i.size, i.bytes)) = some (some (.int .u8 0), 1, 1) := by kernel_rfl

theorem made_zero (z : Int) (n : Nat) : madeCells (Value.int .u8 z).cells (n * 1) = blk .u8 (List.replicate n z) := by
  apply Array.toList_inj.1
  rw [show (Value.int .u8 z).cells = #[Value.int .u8 z] from rfl, toList_madeCells_one, Nat.mul_one]
  simp [blk]

theorem make_u8 (n : Nat) (hn : n ≤ 140737488355328) (W : World) :
    (Instr.makeSlice 30 (.int .i64 (n : Int)) (.int .i64 (n : Int))).run Try.prog W = .ok (.slice (some ⟨W.heap.size, 0, none⟩) n n) (W.alloc (.cells (blk .u8 (List.replicate n 0)) 5)) := by
  obtain ⟨i, hi, hz, hs, hb⟩ := info_parts info_u8
  have h := run_make (P := Try.prog) W 30 5 i (.int .u8 0) Try.underlying30 hi hz .i64 .i64 n n (by omega) (by omega) (by rw [hb]; omega) (by omega)
  rw [h, hs, Int.toNat_natCast, made_zero]

def marks5 : List Int := [165, 165, 165, 165, 165]

/-- LentBytes: the same list in a new block, five marks behind it. -/
theorem lent_u8 (A : Option Addr) (n c : Nat) (xs : List Int) (w : World) (hr : Row .u8 w w.heap.size A xs) (hn : xs.length = n) (hb : n ≤ 140737488351232) : 
    Calls Try.prog 36 #[.slice A n c] w fun e w' => e = .returned (.slice (some ⟨w.heap.size, 0, none⟩) n (n+5)) ∧ w' = w.alloc (.cells (blk .u8 (xs ++ marks5)) 5) := by
  have hmk := make_u8 (n + 5) (by omega)
  rw [show ((n + 5 : Nat) : Int) = (n : Int) + 5 by omega] at hmk
  go_enter Try.func36, Try.ntmps36
  go_wp2
  go_loopw [4] (fun i wr => ∃ k : Nat, k ≤ n ∧ i = .int .i64 k ∧ wr = w.alloc (.cells (blk .u8 (xs.take k ++ List.replicate (n + 5 - k) 0)) 5)) (fun i _ => n - (intOf i).toNat)
  case atStart => exact ⟨0, by omega, rfl, by simp⟩
  case round =>
    obtain ⟨k, hk, rfl, rfl⟩ := hrel
    by_cases hlt : k < n
    · obtain ⟨b, o, rfl, hb1, hc1⟩ := hr.at_ (i := k) (by omega)
      have hc2 := fill_cell .u8 (xs.take k) (n + 5 - k) k 0 (by simp; omega) (by omega)
      have HS := Lib.hid (set_step (xs.take k) (n + 5 - (k + 1)) k 0 (nth xs k) (by simp; omega))
      go_wp2
      go_roundw
      case rel => exact ⟨k + 1, by omega, by go_num, by rw [blk_set, show n + 5 - k = (n + 5 - (k + 1)) + 1 by omega, HS.out, take_step xs k (by omega)]⟩
      case measure => simp [intOf]; omega
    · obtain rfl : k = n := by omega
      have hx : xs.take k = xs := List.take_of_length_le (by omega)
      rw [hx, show k + 5 - k = 5 by omega]
      clear hx hlt hk
      go_wp2
      go_loopw [5] (fun i wr => ∃ (j : Nat) (L : List Int), j ≤ 5 ∧ i = .int .i64 (k + j : Nat) ∧ Hid (L = xs ++ List.replicate j 165 ++ List.replicate (5 - j) 0) ∧ wr = w.alloc (.cells (blk .u8 L) 5)) (fun i _ => k + 5 - (intOf i).toNat)
      case atStart => exact ⟨0, _, by omega, rfl, Lib.hid (by simp), rfl⟩
      case round =>
        obtain ⟨j, L, hj, rfl, hL, rfl⟩ := hrel
        by_cases hlt : j < 5
        · have hc2 := fill_cell .u8 (xs ++ List.replicate j 165) (5 - j) (k + j) 0 (by simp; omega) (by omega)
          rw [← hL.out] at hc2
          have HS := Lib.hid (set_step (xs ++ List.replicate j 165) (5 - (j + 1)) (k + j) 0 165 (by simp; omega))
          go_wp2
          go_roundw
          case rel => exact ⟨j + 1, L.set (k + j) 165, by omega, by go_num, Lib.hid (by rw [hL.out, show 5 - j = (5 - (j + 1)) + 1 by omega, HS.out, List.replicate_succ', List.append_assoc xs]), by rw [blk_set]⟩
          case measure => simp [intOf]; omega
        · obtain rfl : j = 5 := by omega
          go_wp2
          go_ret
          exact ⟨rfl, by rw [hL.out]; simp [marks5, List.replicate]⟩

/-- SameBytes, where the lists are the same. -/
theorem same_yes_u8 (A A' : Option Addr) (n c c' : Nat) (xs : List Int) (w : World) (B B' : Nat) (hr : Row .u8 w B A xs) (hr' : Row .u8 w B' A' xs) (hn : xs.length = n) (hb : n ≤ 140737488355328) :
    Calls Try.prog 22 #[.slice A n c, .slice A' n c'] w fun e w' => e = .returned (.bool true) ∧ ∃ m, w' = w.drewN m := by
  go_enter Try.func22, Try.ntmps22
  go_wp2
  go_loopw [5] (fun i wr => ∃ k nq : Nat, k ≤ n ∧ i = .int .i64 k ∧ wr = w.drewN nq) (fun i _ => n - (intOf i).toNat)
  case atStart => exact ⟨0, 0, by omega, rfl, rfl⟩
  case round =>
    obtain ⟨k, nq, hk, rfl, rfl⟩ := hrel
    by_cases hlt : k < n
    · obtain ⟨b, o, rfl, hb1, hc1⟩ := hr.at_ (i := k) (by omega)
      obtain ⟨b', o', rfl, hb1', hc1'⟩ := hr'.at_ (i := k) (by omega)
      have hlt' : (k : Int) < (n : Int) := by omega
      go_wp2
      go_quiet (fail)
      go_wp2
      go_roundw
      case rel => exact ⟨k + 1, _, by omega, by go_num, rfl⟩
      case measure => simp [intOf]; omega
    · go_wp2
      go_ret
      exact ⟨rfl, nq, rfl⟩

/-- KeptBytes, where the list is in memory of its own with its five marks behind it. -/
theorem kept_u8 (A : Option Addr) (n c g : Nat) (xs : List Int) (w : World) (B : Nat) (hr : Row .u8 w B A xs) (hn : xs.length = n) (hb : n ≤ 140737488351232)
    (hg : w.heap[g]? = some (.cells (blk .u8 (xs ++ marks5)) 5 (0, 0))) :
    Calls Try.prog 38 #[.slice (some ⟨g, 0, none⟩) n (n + 5), .slice A n c] w fun e w' => e = .returned (.bool true) ∧ ∃ m, w' = w.drewN m := by
  have hcell : ∀ i, w.cell? ⟨g, i, none⟩ = (blk .u8 (xs ++ marks5))[i]? := fun i => cell_of_row w g i _ _ _ hg
  have hrow : Row .u8 w (g + 1) (some ⟨g, 0, none⟩) xs := by
    refine ⟨hr.1, fun _ => ⟨_, _, rfl, Nat.lt_succ_self _, fun i hi => ?_⟩⟩
    rw [Nat.zero_add, hcell, blk_get _ _ _ (by simp; omega), nth_left _ _ _ hi]
  have hmark : ∀ j, j < 5 → w.cell? ⟨g, n + j, none⟩ = some (.int .u8 165) := by
    intro j hj
    rw [hcell, blk_get _ _ _ (by simp [marks5]; omega), ← hn, nth_right]
    rcases j with _ | _ | _ | _ | _ | j <;> first | rfl | omega
  have HM := Lib.hid hmark
  clear hcell hmark hg
  go_enter Try.func38, Try.ntmps38
  go_wp2_with (go_at_call 22; refine (same_yes_u8 _ _ _ _ _ xs _ _ _ hrow hr hn (by omega)).mono ?_; rintro e w' ⟨rfl, m, rfl⟩)
  go_loop [6] (fun i => ∃ j : Nat, j ≤ 5 ∧ i = .int .i64 (n + j : Nat)) (fun i => n + 5 - (intOf i).toNat)
  case atStart => exact ⟨0, by omega, rfl⟩
  case round =>
    obtain ⟨j, hj, rfl⟩ := hrel
    by_cases hlt : j < 5
    · have hc := HM.out j hlt
      go_wp2
      go_round
      case rel => exact ⟨j + 1, by omega, by go_num⟩
      case measure => simp [intOf]; omega
    · go_wp2
      go_ret
      exact ⟨rfl, m, rfl⟩
end Go.Proofs.Ytfclgjdlkcmnfaa
namespace Go.Proofs.Ytfclgjdlkcmnfaa
open Go.RowKit
set_option linter.unusedVariables false
set_option maxRecDepth 100000

/-- What a call changes lies in F, or is new. -/
structure Frm (F : Nat → Prop) (w w' : World) : Prop where
  os : w'.os = w.os
  tape : w'.tape = w.tape
  output : w'.output = w.output
  size : w.heap.size ≤ w'.heap.size
  block : ∀ k, k < w.heap.size → ¬ F k → w'.heap[k]? = w.heap[k]?
theorem Frm.refl (F : Nat → Prop) (w : World) : Frm F w w := ⟨rfl, rfl, rfl, Nat.le_refl _, fun _ _ _ => rfl⟩
theorem Frm.mono {F G : Nat → Prop} {w w' : World} (h : Frm F w w') (hG : ∀ b, F b → G b) : Frm G w w' := ⟨h.os, h.tape, h.output, h.size, fun k hk hn => h.block k hk (fun hf => hn (hG k hf))⟩
theorem Frm.trans {F G : Nat → Prop} {a b c : World} (h : Frm F a b) (k : Frm G b c) (hG : ∀ i, G i → F i ∨ a.heap.size ≤ i) : Frm F a c :=
  ⟨k.os.trans h.os, k.tape.trans h.tape, k.output.trans h.output, Nat.le_trans h.size k.size, fun i hi hn => (k.block i (Nat.lt_of_lt_of_le hi h.size) (fun hg => (hG i hg).elim hn (fun hh => by omega))).trans (h.block i hi hn)⟩
theorem Frm.of_below {F : Nat → Prop} {w w' : World} (h : Below w.heap.size w w') : Frm F w w' := ⟨h.os, h.tape, h.output, h.size, fun k hk _ => h.block k hk⟩
theorem Frm.below {F : Nat → Prop} {B : Nat} {w0 w w' : World} (h : Frm F w w') (hb : Below B w0 w) (hB : B ≤ w.heap.size) (hF : ∀ i, F i → B ≤ i) : Below B w0 w' :=
  ⟨h.os.trans hb.os, h.tape.trans hb.tape, h.output.trans hb.output, Nat.le_trans hb.size h.size, fun k hk => (h.block k (by omega) (fun hf => by have := hF k hf; omega)).trans (hb.block k hk)⟩
theorem Frm.set {F : Nat → Prop} (w : World) (g i : Nat) (v : Value) (hg : F g) : Frm F w (w.setCell ⟨g, i, none⟩ v) :=
  ⟨rfl, rfl, rfl, by simp [World.setCell], fun k _ hn => Below.heap_setCell w _ _ k (fun e => hn (by rw [e]; exact hg))⟩
theorem Frm.row {F : Nat → Prop} {k : IntKind} {w w' : World} {A : Option Addr} {xs : List Int} (h : Frm F w w') (hr : Row k w w.heap.size A xs) (hn : ∀ a, A = some a → 0 < xs.length → ¬ F a.block) : Row k w' w'.heap.size A xs := by
  refine ⟨hr.1, fun hp => ?_⟩
  obtain ⟨b, o, e, hb, hc⟩ := hr.2 hp
  exact ⟨b, o, e, Nat.lt_of_lt_of_le hb h.size, fun i hi => (World.cell?_of_block (w := w) (a := ⟨b, o + i, none⟩) (h.block b hb (hn _ e hp))).trans (hc i hi)⟩

/-- A file of the document in memory. -/
structure Fm where
  (nm : ByteArray) (A : Option Addr) (n c : Nat) (sy : Int)
def fmC (m : Fm) : List Value := [.string m.nm, .slice m.A m.n m.c, .int .i64 m.sy]
theorem fmC_len (m : Fm) : (fmC m).length = 3 := rfl
theorem fmC_one (m : Fm) : ∀ u ∈ fmC m, u.oneCell' = true := by
  intro u hu
  simp only [fmC, List.mem_cons, List.mem_nil_iff, or_false] at hu
  rcases hu with rfl | rfl | rfl <;> rfl
theorem info_fm : (Try.prog.info? 77).map (fun i => (i.zero, i.size, i.bytes)) = some (some (.agg #[.string ⟨#[]⟩, .slice none 0 0, .int .i64 0]), 3, 48) := by kernel_rfl
/-- A list of files of the call's own. -/
def FmOwn (w : World) (base : Nat) (v : Value) (l : List Fm) : Prop := w.ownsRow base 77 3 v l.length (flatV fmC l)
theorem FmOwn.nil (w : World) (base : Nat) : FmOwn w base (.slice none 0 0) [] := World.ownsRow_nil w base _ 3
theorem FmOwn.row {w : World} {base : Nat} {v : Value} {l : List Fm} (h : FmOwn w base v l) : ∃ A c, v = .slice A l.length c ∧ VRow w w.heap.size A (flatV fmC l) ∧ l.length ≤ c ∧ c ≤ maxLen := VRow.of_own h
theorem FmOwn.alloc {w : World} {base : Nat} {v : Value} {l : List Fm} (h : FmOwn w base v l) (o : Obj) : FmOwn (w.alloc o) base v l := World.ownsRow.alloc h o
theorem FmOwn.frm {F : Nat → Prop} {w w' : World} {base : Nat} {v : Value} {l : List Fm} (h : FmOwn w base v l) (hf : Frm F w w') (hn : ∀ b, v.ownBlock = some b → ¬ F b) : FmOwn w' base v l := by
  refine ⟨h.1, ?_⟩
  rcases h.2 with h0 | ⟨g, cap, cur, hv, h1, h2, h3⟩
  · exact .inl h0
  · exact .inr ⟨g, cap, cur, hv, h1, (hf.block g (block_lt h2) (hn g (by rw [hv]; rfl))).trans h2, h3⟩
theorem FmOwn.mono {w : World} {base base' : Nat} {v : Value} {l : List Fm} (h : FmOwn w base v l) (hb : base' ≤ base) : FmOwn w base' v l := by
  refine ⟨h.1, ?_⟩
  rcases h.2 with h0 | ⟨g, cap, cur, hv, h1, r⟩
  · exact .inl h0
  · exact .inr ⟨g, cap, cur, hv, by omega, r⟩
theorem FmOwn.lt {w : World} {base : Nat} {v : Value} {l : List Fm} (h : FmOwn w base v l) : ∀ g, v.ownBlock = some g → base ≤ g ∧ g < w.heap.size := World.ownsRow.lt h
theorem fm_flat_one {l : List Fm} : ∀ u ∈ flatV fmC l, u.oneCell' = true := by
  intro u hu
  obtain ⟨t, ht, h⟩ := List.mem_flatMap.1 hu
  exact fmC_one t u h
theorem wpList_append_fm {ops : Array Oper} {rest : List Oper} {o : Oper} {a : Act} {Q : Exit → Act → World → Prop} (w : World) (hgd : o.guard = none) (s x : Operand)
    (ho : o.op = .call { callee := .builtin .append, args := #[s, x], argTypes := #[63, 63] })
    (base : Nat) (v : Value) (l : List Fm) (hs : a.eval s = v) (hown : FmOwn w base v l) (ad : Addr) (c : Nat) (t : Fm) (hx : a.eval x = .slice (some ad) 1 c)
    (hnews : ∀ j u, (fmC t)[j]? = some u → w.cell? (ad.add j) = some u) (hb : (l.length + 1) * 48 ≤ 140737488355328) (hbase : base ≤ w.heap.size)
    (h : ∀ v' w', FmOwn w' base v' (l ++ [t]) → w.grownBy w' v.ownBlock → wpList Try.prog ops Q rest (a.put o.dst v') w') : wpList Try.prog ops Q (o :: rest) a w := by
  obtain ⟨i, hi1, hz, hsz, hby⟩ := info_parts info_fm
  refine wpList_append_own w hgd s x 63 ho base 77 i _ 3 48 Try.underlying63 hi1 hz hsz hby rfl (by omega) v l.length (flatV fmC l) hs hown ad 1 c (fmC t) hx rfl hnews (fmC_one t) (by simp only [maxLen]; omega) (by omega) hbase fun v' w' h1 h2 _ => h v' w' ?_ h2
  unfold FmOwn
  rw [flatV_append, flatV_one, List.length_append]
  exact h1
/-- The cells of a file in a new box. -/
theorem box_fm (w : World) (t : Fm) : ∀ j u, (fmC t)[j]? = some u → (w.alloc (.cells (fmC t).toArray 77)).cell? ((⟨w.heap.size, 0, none⟩ : Addr).add j) = some u := by
  intro j u hu
  have := rangeB (heap_alloc_new w (.cells (fmC t).toArray 77)) j u hu
  rw [Go.WideShapes.add_plain]
  exact this
/-- The cells of one file of an owned list. -/
theorem FmOwn.elem {w : World} {base : Nat} {v : Value} {l : List Fm} (h : FmOwn w base v l) {i : Nat} (hi : i < l.length) :
    ∃ b cap, v = .slice (some ⟨b, 0, none⟩) l.length cap ∧ base ≤ b ∧ b < w.heap.size ∧ l.length ≤ cap ∧ cap ≤ maxLen ∧ w.cell? ⟨b, i * 3, none⟩ = some (.string l[i].nm) ∧ w.cell? ⟨b, i * 3 + 1, none⟩ = some (.slice l[i].A l[i].n l[i].c) ∧ w.cell? ⟨b, i * 3 + 2, none⟩ = some (.int .i64 l[i].sy)
      ∧ ∀ j, w.frozen? ⟨b, j, none⟩ = false := by
  rcases h.2 with ⟨_, h0⟩ | ⟨g, cap, cur, rfl, h1, h2, h3, h4, h5, h6⟩
  · omega
  · have key : ∀ j, j < 3 → w.cell? ⟨g, i * 3 + j, none⟩ = (fmC l[i])[j]? := fun j hj => by
      rw [cell_of_row w g (i * 3 + j) cur _ _ h2, ← Array.getElem?_toList, ← flatV_get fmC_len l i hi j hj, ← h6, List.getElem?_take_of_lt (by omega)]
    exact ⟨g, cap, rfl, h1, block_lt h2, h3, h4, key 0 (by omega), key 1 (by omega), key 2 (by omega), fun j => block_frozen w g j _ _ h2⟩
theorem flat_set (l : List Fm) (i : Nat) (hi : i < l.length) (m : Fm) (j : Nat) (v : Value) (hj : j < 3) (hm : fmC m = (fmC l[i]).set j v) : (flatV fmC l).set (i * 3 + j) v = flatV fmC (l.set i m) := by
  induction l generalizing i with
  | nil => simp at hi
  | cons a l ih =>
    cases i with
    | zero =>
      simp only [List.set_cons_zero, flatV_cons, Nat.zero_mul, Nat.zero_add]
      rw [List.set_append_left _ _ (by rw [fmC_len]; exact hj), hm]
      rfl
    | succ i =>
      simp only [List.set_cons_succ, flatV_cons]
      rw [show (i + 1) * 3 + j = 3 + (i * 3 + j) by omega, List.set_append_right _ _ (by rw [fmC_len]; omega), fmC_len, Nat.add_sub_cancel_left, ih i (by simpa using hi) (by simpa using hm)]
/-- A field of a file of an owned list is written. -/
theorem FmOwn.set {w : World} {base b n cap : Nat} {l : List Fm} (h : FmOwn w base (.slice (some ⟨b, 0, none⟩) n cap) l) (i : Nat) (hi : i < l.length) (m : Fm) (j : Nat) (v : Value) (hj : j < 3) (hm : fmC m = (fmC l[i]).set j v) :
    FmOwn (w.setCell ⟨b, i * 3 + j, none⟩ v) base (.slice (some ⟨b, 0, none⟩) n cap) (l.set i m) := by
  unfold FmOwn
  rw [← flat_set l i hi m j v hj hm, List.length_set]
  have hl := h.1
  rcases h.2 with ⟨h0, _⟩ | ⟨g, cap', cur, hv, h1, h2, h3, h4, h5, h6⟩
  · cases h0
  · injection hv with ha hn hc
    injection ha with ha
    injection ha with ha
    subst ha hn hc
    refine ⟨by rw [List.length_set]; exact hl, .inr ⟨b, cap, cur.setIfInBounds (i * 3 + j) v, rfl, h1, ?_, h3, h4, by simpa using h5, ?_⟩⟩
    · simp [World.setCell, Array.getElem?_modify, h2]
    · rw [Array.toList_setIfInBounds, List.take_set, h6]

/-- What a file in memory is. -/
structure FmIs (w : World) (m : Fm) (f : Fl) : Prop where
  nm : m.nm = f.nm
  sy : m.sy = (f.sy : Int)
  n : f.bs.length = m.n
  le : m.n ≤ m.c
  cap : m.c ≤ maxLen
  row : Row .u8 w w.heap.size m.A f.bs
/-- The document's device at block g. -/
structure RDx (w : World) (g : Nat) (fv : Value) (ms : List Fm) (d : Dv) : Prop where
  box : w.heap[g]? = some (.cells #[.int .i64 (d.room : Int), .int .i64 d.left, .bool d.off, fv] 65 (0, 0))
  own : FmOwn w 0 fv ms
  len : ms.length = d.fs.length
  is : ∀ i (h1 : i < ms.length) (h2 : i < d.fs.length), FmIs w ms[i] d.fs[i]
  sepF : fv.ownBlock ≠ some g
  sepB : ∀ m ∈ ms, ∀ a, m.A = some a → 0 < m.n → a.block ≠ g ∧ fv.ownBlock ≠ some a.block
/-- Its blocks. -/
def RG (g : Nat) (fv : Value) (ms : List Fm) (b : Nat) : Prop := b = g ∨ fv.ownBlock = some b ∨ ∃ m ∈ ms, ∃ a, m.A = some a ∧ a.block = b ∧ 0 < m.n
/-- The document's device at block g, all its blocks in G. -/
def RDv (w : World) (G : Nat → Prop) (g : Nat) (d : Dv) : Prop := ∃ fv ms, RDx w g fv ms d ∧ ∀ b, RG g fv ms b → G b
theorem RDx.lt {w : World} {g : Nat} {fv : Value} {ms : List Fm} {d : Dv} (h : RDx w g fv ms d) : ∀ b, RG g fv ms b → b < w.heap.size := by
  intro b hb
  rcases hb with rfl | hb | ⟨m, hm, a, ha, rfl, hn⟩
  · exact block_lt h.box
  · exact (h.own.lt b hb).2
  · obtain ⟨i, hi, rfl⟩ := List.mem_iff_getElem.1 hm
    have hi2 : i < d.fs.length := by rw [← h.len]; exact hi
    have := h.is i hi hi2
    obtain ⟨b, o, e, hlt, _⟩ := this.row.2 (by rw [this.n]; exact hn)
    rw [e] at ha
    injection ha with ha
    subst ha
    exact hlt
/-- What is done elsewhere leaves it. -/
theorem RDx.frm {F : Nat → Prop} {w w' : World} {g : Nat} {fv : Value} {ms : List Fm} {d : Dv} (h : RDx w g fv ms d) (hf : Frm F w w') (hn : ∀ b, RG g fv ms b → ¬ F b) : RDx w' g fv ms d := by
  refine ⟨(hf.block g (block_lt h.box) (hn g (.inl rfl))).trans h.box, h.own.frm hf (fun b hb => hn b (.inr (.inl hb))), h.len, fun i h1 h2 => ?_, h.sepF, h.sepB⟩
  have := h.is i h1 h2
  exact ⟨this.nm, this.sy, this.n, this.le, this.cap, hf.row this.row (fun a ha hp => hn a.block (.inr (.inr ⟨_, List.getElem_mem h1, a, ha, rfl, by rw [← this.n]; exact hp⟩)))⟩
theorem RDx.below {w w' : World} {g : Nat} {fv : Value} {ms : List Fm} {d : Dv} (h : RDx w g fv ms d) (hb : Below w.heap.size w w') : RDx w' g fv ms d := h.frm (F := fun _ => False) (Frm.of_below hb) (fun _ _ h => h)
theorem RDx.c4 {w : World} {g : Nat} {fv : Value} {ms : List Fm} {d : Dv} (h : RDx w g fv ms d) :
    w.cell? ⟨g, 0, none⟩ = some (.int .i64 (d.room : Int)) ∧ w.cell? ⟨g, 1, none⟩ = some (.int .i64 d.left) ∧ w.cell? ⟨g, 2, none⟩ = some (.bool d.off) ∧ w.cell? ⟨g, 3, none⟩ = some fv ∧ ∀ j, w.frozen? ⟨g, j, none⟩ = false :=
  ⟨cell_of_row w g 0 _ _ _ h.box, cell_of_row w g 1 _ _ _ h.box, cell_of_row w g 2 _ _ _ h.box, cell_of_row w g 3 _ _ _ h.box, fun j => block_frozen w g j _ _ h.box⟩
theorem RDx.slice {w : World} {g : Nat} {fv : Value} {ms : List Fm} {d : Dv} (h : RDx w g fv ms d) : ∃ A cap, fv = .slice A d.fs.length cap ∧ d.fs.length ≤ cap ∧ cap ≤ maxLen := by
  obtain ⟨A, c, e, _, h1, h2⟩ := h.own.row
  rw [h.len] at e h1
  exact ⟨A, c, e, h1, h2⟩
/-- A block that is another type's is no block of the device's. -/
theorem RDx.elem {w : World} {g : Nat} {fv : Value} {ms : List Fm} {d : Dv} (h : RDx w g fv ms d) {i : Nat} (hi : i < d.fs.length) :
    ∃ b cap m, ms[i]? = some m ∧ fv = .slice (some ⟨b, 0, none⟩) d.fs.length cap ∧ d.fs.length ≤ cap ∧ cap ≤ maxLen ∧ w.cell? ⟨b, i * 3, none⟩ = some (.string d.fs[i].nm) ∧ w.cell? ⟨b, i * 3 + 1, none⟩ = some (.slice m.A m.n m.c) ∧ w.cell? ⟨b, i * 3 + 2, none⟩ = some (.int .i64 (d.fs[i].sy : Int))
      ∧ (∀ j, w.frozen? ⟨b, j, none⟩ = false) ∧ FmIs w m d.fs[i] := by
  have hi1 : i < ms.length := by rw [h.len]; exact hi
  obtain ⟨b, cap, e, _, _, h3, h4, c0, c1, c2, hf⟩ := h.own.elem hi1
  have hm := h.is i hi1 hi
  rw [h.len] at e h3
  rw [hm.nm] at c0
  rw [hm.sy] at c2
  exact ⟨b, cap, ms[i], List.getElem?_eq_getElem hi1, e, h3, h4, c0, c1, c2, hf, hm⟩
theorem dv_box_set {w : World} {g : Nat} {cs : Array Value} {t : TypeId} (h : w.heap[g]? = some (.cells cs t (0, 0))) (i : Nat) (v : Value) : (w.setCell ⟨g, i, none⟩ v).heap[g]? = some (.cells (cs.setIfInBounds i v) t (0, 0)) := by
  simp [World.setCell, Array.getElem?_modify, h]
/-- A field of the device's own block is written: its files stay. -/
theorem RDx.field {w w' : World} {g : Nat} {fv : Value} {ms : List Fm} {d d' : Dv} (h : RDx w g fv ms d) (hf : Frm (fun b => b = g) w w') (hb : w'.heap[g]? = some (.cells #[.int .i64 (d'.room : Int), .int .i64 d'.left, .bool d'.off, fv] 65 (0, 0))) (he : d'.fs = d.fs) : RDx w' g fv ms d' := by
  refine ⟨hb, h.own.frm hf (fun b hb e => h.sepF (by rw [← e]; exact hb)), by rw [he]; exact h.len, fun i h1 h2 => ?_, h.sepF, h.sepB⟩
  have h3 : i < d.fs.length := by rw [← he]; exact h2
  have := h.is i h1 h3
  have e : d'.fs[i] = d.fs[i] := by simp only [he]
  rw [e]
  exact ⟨this.nm, this.sy, this.n, this.le, this.cap, hf.row this.row (fun a ha hp e => (h.sepB _ (List.getElem_mem h1) a ha (by rw [← this.n]; exact hp)).1 e)⟩
end Go.Proofs.Ytfclgjdlkcmnfaa
namespace Go.Proofs.Ytfclgjdlkcmnfaa
open Go.RowKit

/-- A call returns a new slice, its own, that holds xs; nothing that was there has turned. -/
def Makes (k : IntKind) (t : TypeId) (w : World) (xs : List Int) (e : Ending) (w' : World) : Prop := ∃ v, e = .returned v ∧ Own k t w' w.heap.size v xs ∧ Below w.heap.size w w'

/-- A call returns a slice that fills a new block, the first new one, with xs; nothing that was there has turned. -/
def Lays (k : IntKind) (t : TypeId) (w : World) (xs : List Int) (m : Nat) (e : Ending) (w' : World) : Prop :=
  e = .returned (.slice (some ⟨w.heap.size, 0, none⟩) m m) ∧ w'.heap[w.heap.size]? = some (.cells (blk k xs) t (0, 0)) ∧ Below w.heap.size w w'

set_option maxHeartbeats 400000 in
theorem copy_u8 (A : Option Addr) (n c : Nat) (xs : List Int) (w : World) (hr : Row .u8 w w.heap.size A xs) (hn : xs.length = n) (hb : n ≤ 140737488355328) : 
    Calls Try.prog 54 #[.slice A n c] w (Makes .u8 5 w xs) := by
  go_enter Try.func54, Try.ntmps54
  go_wp2
  go_loopw [3, 4] (fun v i wr => ∃ k : Nat, k ≤ n ∧ i = .int .i64 k ∧ Own .u8 5 wr w.heap.size v (xs.take k) ∧ Below w.heap.size w wr) (fun _ i _ => n - (intOf i).toNat)
  case atStart => exact ⟨0, by omega, rfl, Own.nil _ _ _ _, Below.refl _ _⟩
  case round =>
    obtain ⟨k, hk, rfl, hown, hbel⟩ := hrel
    by_cases hlt : k < n
    · obtain ⟨b, o, rfl, hb1, hc1⟩ := (hr.below hbel).at_ (i := k) (by omega)
      have hl : Hid ((xs.take k).length = k) := by show _ = _; simp; omega
      have hone := Row.one .u8 wr 5 (nth xs k) (hr.wf_at (by omega))
      have hsz := hbel.size
      have HT := Lib.hid (take_step xs k (by omega))
      go_wp2_with (at_builtin; refine wpList_append_row _ rfl _ _ 30 rfl w.heap.size .u8 5 1 Try.underlying30 info_u8 _ (xs.take k) rfl (hown.alloc _) _ _ 1 1 [nth xs k] rfl hone rfl (by rw [hl.out]; omega) (by rw [hl.out]; simp only [maxLen]; omega) (by simp; omega) ?_; intro v1 w1 hown1 hg1)
      have hbel1 := Below.own1 hbel hsz hown hg1
      rw [← HT.out] at hown1
      clear hone hc1 hg1 hown
      go_wp2
      go_roundw
      case rel => exact ⟨k + 1, by omega, by go_num, hown1, hbel1⟩
      case measure => simp [intOf]; omega
    · have hx : xs.take k = xs := List.take_of_length_le (by omega)
      rw [hx] at hown
      clear hx
      go_wp2
      go_ret
      exact ⟨_, rfl, hown, hbel⟩
end Go.Proofs.Ytfclgjdlkcmnfaa
namespace Go.Proofs.Ytfclgjdlkcmnfaa
open Go.RowKit
set_option linter.unusedVariables false

theorem below_drewN {B : Nat} {a w : World} (h : Below B a w) (n : Nat) : Below B a (w.drewN n) := ⟨h.os, h.tape, h.output, h.size, h.block⟩
/-- Block g is just the row l. (A name: so the walk does not rewrite by it.) -/
def Bk (w : World) (g : Nat) (l : List Int) : Prop := w.heap[g]? = some (.cells (blk .u8 l) 5 (0, 0))
theorem Bk.below {w w' : World} {g : Nat} {l : List Int} (h : Bk w g l) (hb : Below w.heap.size w w') : Bk w' g l := (hb.block g (block_lt h)).trans h
theorem Bk.lt {w : World} {g : Nat} {l : List Int} (h : Bk w g l) : g < w.heap.size := block_lt h
theorem Bk.drewN {w : World} {g : Nat} {l : List Int} (h : Bk w g l) (n : Nat) : Bk (w.drewN n) g l := h
theorem Bk.row {w : World} {g : Nat} {l : List Int} (h : Bk w g l) (xs : List Int) (hw : ∀ x ∈ xs, (Lit.int .u8 x).wf = true) (hp : xs <+: l) : Row .u8 w w.heap.size (some ⟨g, 0, none⟩) xs :=
  (Row.of_block h xs hw hp).more h.lt
/-- A slice that is nil, or the beginning of block g. -/
def Li (w : World) (A : Option Addr) (m g : Nat) (l r : List Int) : Prop := A = none ∧ m = 0 ∨ A = some ⟨g, 0, none⟩ ∧ Bk w g (l ++ r)
theorem Li.below {w w' : World} {A : Option Addr} {m g : Nat} {l r : List Int} (h : Li w A m g l r) (hb : Below w.heap.size w w') : Li w' A m g l r := by
  rcases h with h | ⟨h1, h2⟩
  · exact .inl h
  · exact .inr ⟨h1, h2.below hb⟩
theorem Li.row {w : World} {A : Option Addr} {m g : Nat} {l r : List Int} (h : Li w A m g l r) (hm : l.length = m) (hw : ∀ x ∈ l, (Lit.int .u8 x).wf = true) : Row .u8 w w.heap.size A l := by
  rcases h with ⟨h1, h2⟩ | ⟨h1, h2⟩
  · have : l = [] := List.eq_nil_of_length_eq_zero (by omega)
    subst this
    exact Row.nil _ _ _ _
  · subst h1
    exact h2.row l hw (List.prefix_append _ _)
theorem bel_drewN (w : World) (n : Nat) : Below w.heap.size w (w.drewN n) := ⟨rfl, rfl, rfl, Nat.le_refl _, fun _ _ => rfl⟩

/-- A call returns a pair: a list that is nil or fills the first new block, and a number. -/
def Gives (w : World) (l : List Int) (err : Int) (e : Ending) (w' : World) : Prop :=
  ∃ A m, e = .returned (.tuple #[.slice A m m, .int .i64 err]) ∧ l.length = m ∧ Li w' A m w.heap.size l [] ∧ Below w.heap.size w w'
/-- A call returns a pair: a list of its own, and a number. -/
def GivesOwn (w : World) (l : List Int) (err : Int) (e : Ending) (w' : World) : Prop :=
  ∃ v, e = .returned (.tuple #[v, .int .i64 err]) ∧ Own .u8 5 w' w.heap.size v l ∧ Below w.heap.size w w'
theorem Li.lt {w : World} {A : Option Addr} {m g : Nat} {l r : List Int} (h : Li w A m g l r) : A = none ∨ g < w.heap.size := by
  rcases h with ⟨h1, _⟩ | ⟨_, h2⟩
  · exact .inl h1
  · exact .inr h2.lt
end Go.Proofs.Ytfclgjdlkcmnfaa
namespace Go.Proofs.Ytfclgjdlkcmnfaa
open Go.RowKit
set_option linter.unusedVariables false

theorem below_drew {B : Nat} {a w : World} (h : Below B a w) : Below B a w.drew := ⟨h.os, h.tape, h.output, h.size, h.block⟩
/-- The cells of a block that is known whole, and what a store makes of it. -/
theorem box_set {w : World} {g : Nat} {cs : Array Value} {t : TypeId} (h : w.heap[g]? = some (.cells cs t (0, 0))) (i : Nat) (v : Value) : (w.setCell ⟨g, i, none⟩ v).heap[g]? = some (.cells (cs.setIfInBounds i v) t (0, 0)) := by
  simp [World.setCell, Array.getElem?_modify, h]
theorem below_setCell {B : Nat} {a w : World} {g : Nat} (h : Below B a w) (hg : B ≤ g) (i : Nat) (v : Value) : Below B a (w.setCell ⟨g, i, none⟩ v) :=
  ⟨h.os, h.tape, h.output, by simpa [World.setCell] using h.size, fun k hk => (Below.heap_setCell w ⟨g, i, none⟩ v k (by simp; omega)).trans (h.block k hk)⟩


theorem heap_alloc_two (w : World) (o o' : Obj) : ((w.alloc o).alloc o').heap[w.heap.size + 1]? = some o' := by
  have h := heap_alloc_new (w.alloc o) o'
  rw [show (w.alloc o).heap.size = w.heap.size + 1 by simp] at h
  exact h

/-- Block g is known whole, and what lies below it is as it was. -/
def Bx (w0 : World) (g : Nat) (o : Obj) (w : World) : Prop := w.heap[g]? = some o ∧ Below g w0 w
theorem Bx.new (w : World) (o : Obj) : Bx w w.heap.size o (w.alloc o) := ⟨heap_alloc_new w o, bel_alloc w o⟩
theorem Bx.lt {w0 w : World} {g : Nat} {o : Obj} (h : Bx w0 g o w) : g < w.heap.size := block_lt h.1
theorem Bx.below {w0 w w' : World} {g : Nat} {o : Obj} (h : Bx w0 g o w) (hb : Below w.heap.size w w') : Bx w0 g o w' :=
  ⟨(hb.block g h.lt).trans h.1, h.2.trans (hb.mono (Nat.le_of_lt h.lt))⟩
theorem Bx.below2 {w0 w w' : World} {g B : Nat} {o : Obj} (h : Bx w0 g o w) (hb : Below B w w') (hB : g < B) : Bx w0 g o w' :=
  ⟨(hb.block g hB).trans h.1, h.2.trans (hb.mono (Nat.le_of_lt hB))⟩
theorem Bx.drewN {w0 w : World} {g : Nat} {o : Obj} (h : Bx w0 g o w) (n : Nat) : Bx w0 g o (w.drewN n) := h.below (bel_drewN w n)
theorem Bx.drew {w0 w : World} {g : Nat} {o : Obj} (h : Bx w0 g o w) : Bx w0 g o w.drew := h.below ⟨rfl, rfl, rfl, Nat.le_refl _, fun _ _ => rfl⟩
theorem Bx.alloc {w0 w : World} {g : Nat} {o : Obj} (h : Bx w0 g o w) (o' : Obj) : Bx w0 g o (w.alloc o') := h.below (bel_alloc w o')
theorem Bx.grown {w0 w w' : World} {g : Nat} {o : Obj} {row : Option Nat} (h : Bx w0 g o w) (hg : w.grownBy w' row) (hr : ∀ k, row = some k → g < k) : Bx w0 g o w' :=
  ⟨(hg.block g h.lt (fun e => by have := hr g e.symm; omega)).trans h.1, h.2.grown hg (Nat.le_of_lt h.lt) (fun k e => by have := hr k e; omega)⟩
theorem Bx.six {w0 w : World} {g : Nat} {t : TypeId} {v0 v1 v2 v3 v4 v5 : Value} (h : Bx w0 g (.cells #[v0, v1, v2, v3, v4, v5] t (0, 0)) w) :
    w.cell? ⟨g, 0, none⟩ = some v0 ∧ w.cell? ⟨g, 1, none⟩ = some v1 ∧ w.cell? ⟨g, 2, none⟩ = some v2 ∧ w.cell? ⟨g, 3, none⟩ = some v3 ∧ w.cell? ⟨g, 4, none⟩ = some v4 ∧ w.cell? ⟨g, 5, none⟩ = some v5 :=
  ⟨cell_of_row _ _ 0 _ _ _ h.1, cell_of_row _ _ 1 _ _ _ h.1, cell_of_row _ _ 2 _ _ _ h.1, cell_of_row _ _ 3 _ _ _ h.1, cell_of_row _ _ 4 _ _ _ h.1, cell_of_row _ _ 5 _ _ _ h.1⟩
end Go.Proofs.Ytfclgjdlkcmnfaa
namespace Go.Proofs.Ytfclgjdlkcmnfaa
open Go.RowKit
set_option linter.unusedVariables false
set_option maxRecDepth 100000

theorem opC_one (m : Opm) : ∀ u ∈ opC m, u.oneCell' = true := by
  intro u hu
  simp only [opC, List.mem_cons, List.mem_nil_iff, or_false] at hu
  rcases hu with rfl | rfl | rfl | rfl | rfl <;> rfl
theorem info_op : (Try.prog.info? 46).map (fun i => (i.zero, i.size, i.bytes)) = some (some (.agg #[.int .i64 0, .string ⟨#[]⟩, .string ⟨#[]⟩, .slice none 0 0, .int .i64 0]), 5, 72) := by kernel_rfl
/-- A call whose bytes lie in a block of bytes. -/
def OpmK (w : World) (m : Opm) : Prop := Opm.Ok w w.heap.size m ∧ (0 < m.bs.length → ∃ b o c, m.A = some ⟨b, o, none⟩ ∧ w.heap[b]? = some (.cells c 5 (0, 0)))
/-- A list of calls of the call's own, and the bytes that each has. -/
def OpsOwn (w : World) (base : Nat) (v : Value) (l : List Opm) : Prop := w.ownsRow base 46 5 v l.length (flatV opC l) ∧ ∀ m ∈ l, OpmK w m
theorem OpsOwn.nil (w : World) (base : Nat) : OpsOwn w base (.slice none 0 0) [] := ⟨World.ownsRow_nil w base _ 5, fun m hm => absurd hm (by simp)⟩
theorem OpsOwn.row {w : World} {base : Nat} {v : Value} {l : List Opm} (h : OpsOwn w base v l) : ∃ A c, v = .slice A l.length c ∧ VRow w w.heap.size A (flatV opC l) ∧ l.length ≤ c ∧ c ≤ maxLen := VRow.of_own h.1
theorem Opm.Ok.below {w w' : World} {m : Opm} (h : Opm.Ok w w.heap.size m) (hb : Below w.heap.size w w') : Opm.Ok w' w'.heap.size m := ⟨(h.row.below hb).more hb.size, h.len, h.le, h.cap, h.ki, h.N⟩
theorem OpmK.below {w w' : World} {m : Opm} (h : OpmK w m) (hb : Below w.heap.size w w') : OpmK w' m := ⟨h.1.below hb, fun hp => by
  obtain ⟨b, o, c, h1, h2⟩ := h.2 hp
  exact ⟨b, o, c, h1, (hb.block b (block_lt h2)).trans h2⟩⟩
theorem own_blocks {w : World} {base : Nat} {v : Value} {l : List Opm} (h : OpsOwn w base v l) : ∀ g, v.ownBlock = some g → base ≤ g ∧ g < w.heap.size ∧ ∃ c, w.heap[g]? = some (.cells c 46 (0, 0)) := by
  intro g hg
  rcases h.1.2 with ⟨rfl, _⟩ | ⟨g', cap, cur, rfl, h1, h2, _⟩
  · cases hg
  · injection hg with hg
    subst hg
    exact ⟨h1, block_lt h2, _, h2⟩
theorem OpsOwn.below {w w' : World} {base : Nat} {v : Value} {l : List Opm} (h : OpsOwn w base v l) (hb : Below w.heap.size w w') : OpsOwn w' base v l := by
  refine ⟨⟨h.1.1, ?_⟩, fun m hm => (h.2 m hm).below hb⟩
  rcases h.1.2 with h0 | ⟨g, cap, cur, hv, h1, h2, h3⟩
  · exact .inl h0
  · exact .inr ⟨g, cap, cur, hv, h1, (hb.block g (block_lt h2)).trans h2, h3⟩
/-- 'append(v, calls...)'. -/
theorem run_append_ops {w : World} {base : Nat} {v : Value} {l : List Opm} (h : OpsOwn w base v l) (g m c : Nat) (news : List Opm) (hm : news.length = m) (hg : w.heap[g]? = some (.cells (flatV opC news).toArray 46 (0, 0))) (hok : ∀ p ∈ news, OpmK w p)
    (hb : l.length + m ≤ 100000) (hbase : base ≤ w.heap.size) :
    ∃ A' n' c' w', (∀ ty, (Builtin.append_ #[42, 42] ty #[v, .slice (some ⟨g, 0, none⟩) m c]).run Try.prog w = .ok (.slice A' n' c') w') ∧ OpsOwn w' base (.slice A' n' c') (l ++ news) ∧ Below base w w' := by
  obtain ⟨i, hi1, hz, hsz, hby⟩ := info_parts info_op
  have hnews : ∀ j u, (flatV opC news)[j]? = some u → w.cell? ((⟨g, 0, none⟩ : Addr).add j) = some u := by
    intro j u hu
    rw [Go.WideShapes.add_plain]
    have := rangeB hg j u (by simpa using hu)
    simpa using this
  have hone : ∀ u ∈ flatV opC news, u.oneCell' = true := fun u hu => by
    obtain ⟨t, ht, h⟩ := List.mem_flatMap.1 hu
    exact opC_one t u h
  obtain ⟨v', w', hrun, r1, r2, _⟩ := run_append_own (P := Try.prog) w base 42 0 46 i _ 5 72 Try.underlying42 hi1 hz hsz hby rfl (by omega) v l.length (flatV opC l) h.1 ⟨g, 0, none⟩ m c (flatV opC news)
    (by rw [flatV_len opC_len, hm]) hnews hone (by unfold maxLen; omega) (by omega) hbase
  have hbw : Below base w w' := Below.grown (Below.refl base w) r2 hbase (fun q e => (own_blocks h q e).1)
  have hrow : OpsOwn w' base v' (l ++ news) := by
    refine ⟨by rw [flatV_append, List.length_append, hm]; exact r1, fun p hp => ?_⟩
    have hp2 : OpmK w p := (List.mem_append.1 hp).elim (h.2 p) (hok p)
    have far : ∀ b c', w.heap[b]? = some (.cells c' 5 (0, 0)) → some b ≠ v.ownBlock := fun b c' hb' e => by
      obtain ⟨_, _, c2, hc2⟩ := own_blocks h b e.symm
      rw [hb'] at hc2
      injection hc2 with hc2
      injection hc2 with _ hc2
      exact absurd hc2 (by decide)
    refine ⟨⟨⟨hp2.1.row.1, fun hpos => ?_⟩, hp2.1.len, hp2.1.le, hp2.1.cap, hp2.1.ki, hp2.1.N⟩, fun hpos => ?_⟩
    · obtain ⟨b, o, e, hb', hc⟩ := hp2.1.row.2 hpos
      obtain ⟨b2, o2, c2, e2, h2⟩ := hp2.2 hpos
      rw [e] at e2
      injection e2 with e2
      injection e2 with e2
      subst e2
      exact ⟨b, o, e, Nat.lt_of_lt_of_le hb' r2.size, fun j hj => (World.cell?_of_block (w := w) (a := ⟨b, o + j, none⟩) (r2.block b hb' (far b _ h2))).trans (hc j hj)⟩
    · obtain ⟨b2, o2, c2, e2, h2⟩ := hp2.2 hpos
      exact ⟨b2, o2, c2, e2, (r2.block b2 (block_lt h2) (far b2 _ h2)).trans h2⟩
  obtain ⟨A', c', rfl, _⟩ := hrow.row
  exact ⟨_, _, _, w', fun ty => hrun, hrow, hbw⟩
/-- What holds of the calls that have been laid. -/
def OlTo (w1 wr : World) (v : Value) (m : Nat) : Prop := ∃ l, OpsOwn wr w1.heap.size v l ∧ l.length ≤ m ∧ Below w1.heap.size w1 wr
theorem OlTo.bel {w1 wr : World} {v : Value} {m : Nat} (h : OlTo w1 wr v m) : Below w1.heap.size w1 wr := by
  obtain ⟨_, _, _, h⟩ := h; exact h
theorem OlTo.alloc {w1 wr : World} {v : Value} {m : Nat} (h : OlTo w1 wr v m) (o : Obj) : OlTo w1 (wr.alloc o) v m := by
  obtain ⟨l, h1, h2, h3⟩ := h
  exact ⟨l, h1.below (bel_alloc wr o), h2, h3.alloc h3.size o⟩
theorem opmk_nil (w : World) (ki N : Int) (s t : ByteArray) (h : -9223372036854775808 ≤ ki ∧ ki < 9223372036854775808) (hN : -9223372036854775808 ≤ N ∧ N < 9223372036854775808) : OpmK w ⟨ki, s, t, none, 0, 0, N, []⟩ :=
  ⟨⟨Row.nil _ _ _ _, rfl, Nat.le_refl _, by show 0 ≤ _; omega, h, hN⟩, fun hp => absurd hp (by simp)⟩
theorem opmk_data {w : World} {b : Nat} {bs : List Int} (ki N : Int) (s t : ByteArray) (hb : w.heap[b]? = some (.cells (blk .u8 bs) 5 (0, 0))) (hw : ∀ x ∈ bs, (Lit.int .u8 x).wf = true) (n : Nat) (hl : bs.length = n) (hn : n ≤ 100)
    (h : -9223372036854775808 ≤ ki ∧ ki < 9223372036854775808) (hN : -9223372036854775808 ≤ N ∧ N < 9223372036854775808) : OpmK w ⟨ki, s, t, some ⟨b, 0, none⟩, n, n, N, bs⟩ :=
  ⟨⟨(Row.of_block hb bs hw (List.prefix_refl _)).more (block_lt hb), hl, Nat.le_refl _, by show n ≤ _; omega, h, hN⟩, fun _ => ⟨b, 0, _, rfl, hb⟩⟩
/-- An append of calls to those that have been laid. -/
theorem ol_app {w1 W : World} {v : Value} {m : Nat} (h : OlTo w1 W v m) (news : List Opm) (hok : ∀ p ∈ news, OpmK W p) (n : Nat) (hn : news.length = n) (hm : m + n ≤ 100000) :
    ∃ A' n' c' w', (∀ ty, (Builtin.append_ #[42, 42] ty #[v, .slice (some ⟨W.heap.size, 0, none⟩) n n]).run Try.prog (W.alloc (.cells (flatV opC news).toArray 46)) = .ok (.slice A' n' c') w') ∧ OlTo w1 w' (.slice A' n' c') (m + n) := by
  obtain ⟨l, h1, h2, h3⟩ := h
  have hb := bel_alloc W (.cells (flatV opC news).toArray 46)
  have h4 := h3.alloc h3.size (.cells (flatV opC news).toArray 46)
  obtain ⟨A', n', c', w', hrun, own, bel⟩ := run_append_ops (h1.below hb) W.heap.size n n news hn (heap_alloc_new W _) (fun p hp => (hok p hp).below hb) (by omega) h4.size
  exact ⟨A', n', c', w', hrun, l ++ news, own, by rw [List.length_append]; omega, h4.trans bel⟩
theorem ol_app_drew {w1 W : World} {v : Value} {m : Nat} (h : OlTo w1 W v m) (news : List Opm) (hok : ∀ p ∈ news, OpmK W p) (n : Nat) (hn : news.length = n) (hm : m + n ≤ 100000) :
    ∃ A' n' c' w', (∀ ty, (Builtin.append_ #[42, 42] ty #[v, .slice (some ⟨W.heap.size, 0, none⟩) n n]).run Try.prog (W.alloc (.cells (flatV opC news).toArray 46)).drew = .ok (.slice A' n' c') w') ∧ OlTo w1 w' (.slice A' n' c') (m + n) := by
  obtain ⟨l, h1, h2, h3⟩ := h
  have hb := below_drew (bel_alloc W (.cells (flatV opC news).toArray 46))
  have h4 := below_drew (h3.alloc h3.size (.cells (flatV opC news).toArray 46))
  obtain ⟨A', n', c', w', hrun, own, bel⟩ := run_append_ops (h1.below hb) W.heap.size n n news hn (heap_alloc_new W _) (fun p hp => (hok p hp).below hb) (by omega) h4.size
  exact ⟨A', n', c', w', hrun, l ++ news, own, by rw [List.length_append]; omega, h4.trans bel⟩
end Go.Proofs.Ytfclgjdlkcmnfaa
namespace Go.Proofs.Ytfclgjdlkcmnfaa
open Go.RowKit
set_option linter.unusedVariables false
set_option maxRecDepth 100000

theorem refNamed_any (s : ByteArray) (w : World) : Calls Try.prog 68 #[.string s] w fun e w' => e = .returned (.bool (okN s)) ∧ w = w' := by
  by_cases h1 : 0 < s.size
  · have HO : Hid (okN s = decide ((s.size : Int) ≤ 16)) := Lib.hid (by unfold okN; rw [decide_eq_true h1, Bool.true_and]; exact decide_eq_decide.2 (by omega))
    rw [HO.out]
    have h2 : (s.size : Int) > 0 := by omega
    go_enter Try.func68, Try.ntmps68
    go_wp2
    go_ret
    exact ⟨rfl, rfl⟩
  · have HO : Hid (okN s = false) := Lib.hid (by unfold okN; rw [decide_eq_false h1]; rfl)
    rw [HO.out]
    have h2 : ¬ (s.size : Int) > 0 := by omega
    go_enter Try.func68, Try.ntmps68
    go_wp2
    go_ret
    exact ⟨rfl, rfl⟩

theorem refFind_dv (g : Nat) (fv : Value) (ms : List Fm) (d : Dv) (s : ByteArray) (w : World) (h : RDx w g fv ms d) (hn : d.fs.length ≤ 1000) :
    Calls Try.prog 53 #[.pointer (some ⟨g, 0, none⟩), .string s] w fun e w' => e = .returned (.int .i64 (findZ d.fs s)) ∧ w = w' := by
  obtain ⟨c0, c1, c2, c3, cf⟩ := h.c4
  obtain ⟨A, cap, rfl, hle, hcm⟩ := h.slice
  obtain ⟨Z, hZ⟩ : ∃ Z, Hid (findZ d.fs s = Z) := ⟨_, Lib.hid rfl⟩
  obtain ⟨n, hn2⟩ : ∃ n, d.fs.length = n := ⟨_, rfl⟩
  have HN := Lib.hid hn2
  rw [hZ.out]
  rw [hn2] at c3 hle hn
  have H := Lib.hid h
  clear h hn2
  go_enter Try.func53, Try.ntmps53
  go_wp2
  go_loop [5] (fun i => ∃ k : Nat, k ≤ n ∧ i = .int .i64 k ∧ Hid (∀ j (hj : j < d.fs.length), j < k → sameN (d.fs[j]).nm s = false)) (fun i => n - (intOf i).toNat)
  case atStart => exact ⟨0, by omega, rfl, Lib.hid (fun j _ hj => absurd hj (by omega))⟩
  case round =>
    obtain ⟨k, hk, rfl, hall⟩ := hrel
    by_cases hlt : k < n
    · have hk2 : k < d.fs.length := by rw [HN.out]; exact hlt
      obtain ⟨b, cap', m, hm, e, _, _, e0, e1, e2, ef, hIs⟩ := H.out.elem hk2
      injection e with eA en ec
      subst eA ec
      cases hs : sameN (d.fs[k]).nm s
      · have hall2 : Hid (∀ j (hj : j < d.fs.length), j < k + 1 → sameN (d.fs[j]).nm s = false) := Lib.hid (fun j hj hjk => by
          rcases Nat.lt_or_ge j k with h | h
          · exact hall.out j hj h
          · obtain rfl : j = k := by omega
            exact hs)
        unfold sameN at hs
        clear hall hIs hm e1 e2 ef en
        generalize (d.fs[k]).nm = nk at *
        go_wp2
        go_round
        case rel => exact ⟨k + 1, by omega, by go_num, hall2⟩
        case measure => simp [intOf]; omega
      · have HZ : Hid (Z = (k : Int)) := Lib.hid (by
          rw [← hZ.out]
          unfold findZ
          rw [findD_at k hk2 hs (fun j hj => hall.out j (by omega) hj)])
        unfold sameN at hs
        clear hall hIs hm e1 e2 ef en
        generalize (d.fs[k]).nm = nk at *
        go_wp2
        go_ret
        exact ⟨by rw [HZ.out]; rfl, rfl⟩
    · obtain rfl : k = n := by omega
      have HZ : Hid (Z = -1) := Lib.hid (by
        rw [← hZ.out]
        unfold findZ
        rw [findD_none.2 (fun f hf => by
          obtain ⟨j, hj, rfl⟩ := List.mem_iff_getElem.1 hf
          exact hall.out j hj (by rw [← HN.out]; exact hj))])
      clear hall
      go_wp2
      go_ret
      exact ⟨by rw [HZ.out]; rfl, rfl⟩

theorem refUsed_dv (g : Nat) (fv : Value) (ms : List Fm) (d : Dv) (w : World) (h : RDx w g fv ms d) (hn : d.fs.length ≤ 1000) (hu : usedD d.fs ≤ 140737488355328) :
    Calls Try.prog 49 #[.pointer (some ⟨g, 0, none⟩)] w fun e w' => e = .returned (.int .i64 (usedD d.fs : Nat)) ∧ w = w' := by
  obtain ⟨c0, c1, c2, c3, cf⟩ := h.c4
  obtain ⟨A, cap, rfl, hle, hcm⟩ := h.slice
  obtain ⟨n, hn2⟩ : ∃ n, d.fs.length = n := ⟨_, rfl⟩
  have HN := Lib.hid hn2
  rw [hn2] at c3 hle hn
  have H := Lib.hid h
  have HU : ∀ k, usedD (d.fs.take k) ≤ usedD d.fs := fun k => by
    conv => rhs; rw [← List.take_append_drop k d.fs, used_append]
    omega
  have HT : Hid (∀ k (hk : k < d.fs.length), usedD (d.fs.take (k + 1)) = usedD (d.fs.take k) + (d.fs[k]).bs.length) := Lib.hid (fun k hk => by
    rw [List.take_succ_eq_append_getElem hk, used_append]; simp [usedD])
  have HW : Hid (d.fs.take n = d.fs) := Lib.hid (List.take_of_length_le (by omega))
  have HUU := Lib.hid HU
  clear h hn2 HU
  go_enter Try.func49, Try.ntmps49
  go_wp2
  go_loop [3, 4] (fun u i => ∃ k : Nat, k ≤ n ∧ i = .int .i64 k ∧ u = .int .i64 (usedD (d.fs.take k) : Nat)) (fun _ i => n - (intOf i).toNat)
  case atStart => exact ⟨0, by omega, rfl, rfl⟩
  case round =>
    obtain ⟨k, hk, rfl, rfl⟩ := hrel
    by_cases hlt : k < n
    · have hk2 : k < d.fs.length := by rw [HN.out]; exact hlt
      obtain ⟨b, cap', m, hm, e, _, _, e0, e1, e2, ef, hIs⟩ := H.out.elem hk2
      injection e with eA en ec
      subst eA ec
      have ht := HT.out k hk2
      have h1 := HUU.out k
      have h2 := HUU.out (k + 1)
      rw [hIs.n] at ht
      have HH : Hid (((usedD (d.fs.take (k + 1)) : Nat) : Int) = ((usedD (d.fs.take k) : Nat) : Int) + (m.n : Int)) := Lib.hid (by omega)
      have hmn : m.n ≤ 140737488355328 := by omega
      have h3 : usedD (d.fs.take k) ≤ 140737488355328 := by omega
      have h4 : usedD (d.fs.take k) + m.n ≤ 140737488355328 := by omega
      generalize usedD (d.fs.take k) = u at *
      clear hIs hm e0 e2 ef en ht h1 h2
      go_wp2
      go_round
      case rel => exact ⟨k + 1, by omega, by go_num, by rw [HH.out]⟩
      case measure => simp [intOf]; omega
    · obtain rfl : k = n := by omega
      rw [HW.out]
      go_wp2
      go_ret
      exact ⟨rfl, rfl⟩
theorem RDx.drewN {w : World} {g : Nat} {fv : Value} {ms : List Fm} {d : Dv} (h : RDx w g fv ms d) (n : Nat) : RDx (w.drewN n) g fv ms d := h.below (bel_drewN w n)
theorem refFree_dv (g : Nat) (fv : Value) (ms : List Fm) (d : Dv) (w : World) (h : RDx w g fv ms d) (ok : Dv.Ok d) :
    Calls Try.prog 50 #[.pointer (some ⟨g, 0, none⟩)] w fun e w' => e = .returned (.int .i64 ((d.room : Int) - usedD d.fs)) ∧ ∃ m, w' = w.drewN m := by
  obtain ⟨c0, c1, c2, c3, cf⟩ := h.c4
  have hu := ok.us
  have hr := ok.rm
  have HU : Hid (∀ W, RDx W g fv ms d → Calls Try.prog 49 #[.pointer (some ⟨g, 0, none⟩)] W fun e w' => e = .returned (.int .i64 (usedD d.fs : Nat)) ∧ w' = W) := Lib.hid (fun W hW => (refUsed_dv g fv ms d W hW (by have := ok.ln; omega) (by omega)).mono fun e w' h => ⟨h.1, h.2.symm⟩)
  have H := Lib.hid h
  clear h ok
  generalize usedD d.fs = u at *
  obtain ⟨r, hr2⟩ : ∃ r, d.room = r := ⟨_, rfl⟩
  rw [hr2] at c0 hu hr ⊢
  clear hr2
  have f1 : IntKind.i64.wrap ((r : Int) - (u : Int)) = (r : Int) - (u : Int) := by rw [IntKind.wrap_i64]; omega
  go_enter Try.func50, Try.ntmps50
  go_wp2_with fail
  go_quiet ((go_at_call 49; refine Calls.quiet_of_same (HU.out _ (H.out.drewN _))))
  go_wp2
  go_ret
  exact ⟨rfl, _, rfl⟩
theorem refDown_dv (g : Nat) (fv : Value) (ms : List Fm) (d : Dv) (w : World) (h : RDx w g fv ms d) :
    Calls Try.prog 51 #[.pointer (some ⟨g, 0, none⟩)] w fun e w' => e = .returned (.bool d.off) ∧ w = w' := by
  obtain ⟨c0, c1, c2, c3, cf⟩ := h.c4
  clear h
  go_enter Try.func51, Try.ntmps51
  go_wp2
  go_ret
  exact ⟨rfl, rfl⟩
end Go.Proofs.Ytfclgjdlkcmnfaa
namespace Go.Proofs.Ytfclgjdlkcmnfaa
open Go.RowKit
set_option linter.unusedVariables false
set_option maxRecDepth 100000

def doneB (d : Dv) : Bool := !decide (d.left = 0)
def doneD (d : Dv) : Dv := if d.left = 0 then { d with off := true } else spentD d
theorem spent_fs (d : Dv) : (spentD d).fs = d.fs := by unfold spentD; split <;> rfl
theorem done_fs (d : Dv) : (doneD d).fs = d.fs := by unfold doneD; split; · rfl
                                                     · exact spent_fs d
theorem refDone_dv (g : Nat) (fv : Value) (ms : List Fm) (d : Dv) (w : World) (h : RDx w g fv ms d) (hl : -1 ≤ d.left) (hi : d.left < 9223372036854775808) :
    Calls Try.prog 69 #[.pointer (some ⟨g, 0, none⟩)] w fun e w' => e = .returned (.bool (doneB d)) ∧ RDx w' g fv ms (doneD d) ∧ Frm (fun b => b = g) w w' := by
  obtain ⟨c0, c1, c2, c3, cf⟩ := h.c4
  by_cases h0 : d.left = 0
  · have HB : Hid (doneB d = false) := Lib.hid (by unfold doneB; rw [decide_eq_true h0]; rfl)
    have HD : Hid (doneD d = { d with off := true }) := Lib.hid (if_pos h0)
    rw [HB.out, HD.out]
    have H := Lib.hid (h.field (d' := { d with off := true }) (Frm.set (F := fun b => b = g) w g 2 (.bool true) rfl) (dv_box_set h.box 2 _) rfl)
    rw [h0] at c1
    clear h h0
    go_enter Try.func69, Try.ntmps69
    go_wp2
    go_ret
    exact ⟨rfl, H.out, Frm.set _ _ _ _ rfl⟩
  have HB : Hid (doneB d = true) := Lib.hid (by unfold doneB; rw [decide_eq_false h0]; rfl)
  by_cases h1 : 0 < d.left
  · have HD : Hid (doneD d = { d with left := d.left - 1 }) := Lib.hid (by unfold doneD spentD; rw [if_neg h0, if_pos h1])
    rw [HB.out, HD.out]
    have H := Lib.hid (h.field (d' := { d with left := d.left - 1 }) (Frm.set (F := fun b => b = g) w g 1 (.int .i64 (d.left - 1)) rfl) (dv_box_set h.box 1 _) rfl)
    have e1 : (d.left == 0) = false := beq_false_of_ne h0
    have e2 : d.left > 0 := h1
    have e3 : IntKind.i64.wrap (d.left - 1) = d.left - 1 := by rw [IntKind.wrap_i64]; omega
    clear h h0 h1
    generalize d.left = l at *
    go_enter Try.func69, Try.ntmps69
    go_wp2
    go_ret
    exact ⟨rfl, H.out, Frm.set _ _ _ _ rfl⟩
  · have HD : Hid (doneD d = d) := Lib.hid (by unfold doneD spentD; rw [if_neg h0, if_neg h1])
    rw [HB.out, HD.out]
    have H := Lib.hid h
    have e1 : (d.left == 0) = false := beq_false_of_ne h0
    have e2 : ¬ d.left > 0 := h1
    clear h h0 h1
    generalize d.left = l at *
    go_enter Try.func69, Try.ntmps69
    go_wp2
    go_ret
    exact ⟨rfl, H.out, Frm.refl _ _⟩

theorem refArm_dv (g : Nat) (fv : Value) (ms : List Fm) (d : Dv) (n : Int) (w : World) (h : RDx w g fv ms d) :
    Calls Try.prog 46 #[.pointer (some ⟨g, 0, none⟩), .int .i64 n] w fun e w' => e = .returned (.tuple #[]) ∧ RDx w' g fv ms (armD d n) ∧ Frm (fun b => b = g) w w' := by
  obtain ⟨c0, c1, c2, c3, cf⟩ := h.c4
  by_cases hn : n < 0
  · have HD : Hid (armD d n = { d with left := -1 }) := Lib.hid (by unfold armD; rw [if_pos hn])
    rw [HD.out]
    have f1 := Frm.set (F := fun b => b = g) w g 1 (.int .i64 n) rfl
    have H1 := h.field (d' := { d with left := n }) f1 (dv_box_set h.box 1 _) rfl
    have f2 := Frm.set (F := fun b => b = g) (w.setCell ⟨g, 1, none⟩ (.int .i64 n)) g 1 (.int .i64 (-1)) rfl
    have H := Lib.hid (H1.field (d' := { d with left := -1 }) f2 (dv_box_set H1.box 1 _) rfl)
    have F2 := f1.trans f2 (fun i hi => .inl hi)
    have cf2 := H1.c4.2.2.2.2
    clear h H1 f1 f2
    go_enter Try.func46, Try.ntmps46
    go_wp2
    go_end0
    exact ⟨rfl, H.out, F2⟩
  · have HD : Hid (armD d n = { d with left := n }) := Lib.hid (by unfold armD; rw [if_neg hn])
    rw [HD.out]
    have H := Lib.hid (h.field (d' := { d with left := n }) (Frm.set (F := fun b => b = g) w g 1 (.int .i64 n) rfl) (dv_box_set h.box 1 _) rfl)
    clear h
    go_enter Try.func46, Try.ntmps46
    go_wp2
    go_end0
    exact ⟨rfl, H.out, Frm.set _ _ _ _ rfl⟩

def thereE (d : Dv) (s : ByteArray) : Int := if d.off = true then 10 else match findD d.fs s with | none => 6 | some _ => 0
def thereK (d : Dv) (s : ByteArray) : Nat := if d.off = true then 0 else match findD d.fs s with | none => 0 | some k => k
theorem refThere_dv (g : Nat) (fv : Value) (ms : List Fm) (d : Dv) (s : ByteArray) (w : World) (h : RDx w g fv ms d) (hn : d.fs.length ≤ 1000) :
    Calls Try.prog 71 #[.pointer (some ⟨g, 0, none⟩), .string s] w fun e w' => e = .returned (.tuple #[.int .i64 (thereK d s : Nat), .int .i64 (thereE d s)]) ∧ w = w' := by
  obtain ⟨c0, c1, c2, c3, cf⟩ := h.c4
  have HF := Lib.hid (refFind_dv g fv ms d s w h hn)
  clear h
  by_cases ho : d.off = true
  · have HE : Hid (thereE d s = 10 ∧ thereK d s = 0) := Lib.hid ⟨if_pos ho, if_pos ho⟩
    rw [HE.out.1, HE.out.2]
    rw [ho] at c2
    clear ho
    go_enter Try.func71, Try.ntmps71
    go_wp2
    go_ret2
    exact ⟨rfl, rfl⟩
  · have ho2 : d.off = false := by cases hh : d.off; · rfl
                                   · exact absurd hh ho
    cases hf : findD d.fs s with
    | none =>
      have HE : Hid (thereE d s = 6 ∧ thereK d s = 0) := Lib.hid ⟨by unfold thereE; rw [if_neg ho, hf], by unfold thereK; rw [if_neg ho, hf]⟩
      have HZ : Hid (findZ d.fs s = -1) := Lib.hid (by unfold findZ; rw [hf])
      rw [HE.out.1, HE.out.2]
      rw [ho2] at c2
      clear ho ho2 hf
      go_enter Try.func71, Try.ntmps71
      go_wp2_with fail
      refine HF.out.mono ?_
      rintro e w' ⟨rfl, rfl⟩
      rw [HZ.out]
      go_wp2
      go_ret2
      exact ⟨rfl, rfl⟩
    | some k =>
      have HE : Hid (thereE d s = 0 ∧ thereK d s = k) := Lib.hid ⟨by unfold thereE; rw [if_neg ho, hf], by unfold thereK; rw [if_neg ho, hf]⟩
      have HZ : Hid (findZ d.fs s = (k : Int)) := Lib.hid (by unfold findZ; rw [hf])
      rw [HE.out.1, HE.out.2]
      rw [ho2] at c2
      clear ho ho2 hf
      go_enter Try.func71, Try.ntmps71
      go_wp2_with fail
      refine HF.out.mono ?_
      rintro e w' ⟨rfl, rfl⟩
      rw [HZ.out]
      go_wp2
      go_ret2
      exact ⟨rfl, rfl⟩
end Go.Proofs.Ytfclgjdlkcmnfaa
