/-
  Texts of the proof of PlanKnown, joined.
-/
import Derived.WalkKit
import Derived.WalkSpells
import Derived.WalkLawsBesides
import Derived.Outline
import Derived.Lib.Hide
import Derived.Deep.QuietTactic
import Derived.BigQuiet
import Derived.Deep.Draws
import Derived.ProofKit
import Derived.OpenShut
import Derived.ShutString
import Derived.ChangeOld
import Derived.SizedLaws
import Derived.Deep.AppendLies
import Derived.Test.YtcmbdhmhkfhjfaaGreatRows
import Derived.IntWalk
import Derived.Deep.MidRow
import Derived.Deep.RegionHeld3
namespace Go.Proofs.YtcmbdhmhkfhjfaaGreat
open Go.RowKit

def nth (l : List Int) (i : Nat) : Int := l.getD i 0
theorem nth_eq (l : List Int) (i : Nat) (h : i < l.length) : nth l i = l[i] := by simp [nth, List.getD_eq_getElem?_getD, List.getElem?_eq_getElem h]
theorem nth_mem (l : List Int) (i : Nat) (h : i < l.length) : nth l i ∈ l := by rw [nth_eq l i h]; exact List.getElem_mem h
theorem nth_left (l m : List Int) (i : Nat) (h : i < l.length) : nth (l ++ m) i = nth l i := by
  rw [nth_eq _ _ h, nth_eq _ _ (by simp; omega)]; exact List.getElem_append_left h
theorem nth_right (l m : List Int) (i : Nat) : nth (l ++ m) (l.length + i) = nth m i := by
  simp [nth, List.getD_eq_getElem?_getD, List.getElem?_append_right]
theorem nth_replicate (n i : Nat) (v : Int) (h : i < n) : nth (List.replicate n v) i = v := by rw [nth_eq _ _ (by simpa using h)]; simp
theorem ext_nth (a b : List Int) (hl : a.length = b.length) (h : ∀ i, i < a.length → nth a i = nth b i) : a = b := by
  refine List.ext_getElem hl fun i h1 h2 => ?_
  rw [← nth_eq a i h1, ← nth_eq b i h2]; exact h i h1

def blk (k : IntKind) (l : List Int) : Array Value := (l.map (Value.int k)).toArray

theorem blk_size (k : IntKind) (l : List Int) : (blk k l).size = l.length := by simp [blk]
theorem blk_get (k : IntKind) (l : List Int) (i : Nat) (h : i < l.length) : (blk k l)[i]? = some (.int k (nth l i)) := by
  simp [blk, List.getElem?_eq_getElem h, nth_eq l i h]
theorem blk_set (k : IntKind) (l : List Int) (i : Nat) (v : Int) : (blk k l).setIfInBounds i (.int k v) = blk k (l.set i v) := by
  simp [blk, List.map_set]

def Row (k : IntKind) (w : World) (B : Nat) (A : Option Addr) (xs : List Int) : Prop :=
  (∀ x ∈ xs, (Lit.int k x).wf = true) ∧ (0 < xs.length → ∃ b o, A = some ⟨b, o, none⟩ ∧ b < B ∧ ∀ i, i < xs.length → w.cell? ⟨b, o + i, none⟩ = some (.int k (nth xs i)))

theorem Row.keep {k : IntKind} {w w' : World} {B : Nat} {A : Option Addr} {xs : List Int} (h : Row k w B A xs) (hk : ∀ b o, b < B → w'.cell? ⟨b, o, none⟩ = w.cell? ⟨b, o, none⟩) : Row k w' B A xs := by
  refine ⟨h.1, fun hn => ?_⟩
  obtain ⟨b, o, e, hb, hc⟩ := h.2 hn
  exact ⟨b, o, e, hb, fun i hi => (hk _ _ hb).trans (hc i hi)⟩
theorem Row.more {k : IntKind} {w : World} {B B' : Nat} {A : Option Addr} {xs : List Int} (h : Row k w B A xs) (hB : B ≤ B') : Row k w B' A xs := by
  refine ⟨h.1, fun hn => ?_⟩
  obtain ⟨b, o, e, hb, hc⟩ := h.2 hn
  exact ⟨b, o, e, by omega, hc⟩
theorem Row.below {k : IntKind} {w w' : World} {B : Nat} {A : Option Addr} {xs : List Int} (h : Row k w B A xs) (hb : Below B w w') : Row k w' B A xs :=
  h.keep fun b o hlt => hb.cell (p := ⟨b, o, none⟩) hlt
theorem Row.alloc {k : IntKind} {w : World} {B : Nat} {A : Option Addr} {xs : List Int} (h : Row k w B A xs) (hB : B ≤ w.heap.size) (o : Obj) : Row k (w.alloc o) B A xs :=
  h.below ((Below.refl _ _).alloc hB o)
theorem Row.drewN {k : IntKind} {w : World} {B : Nat} {A : Option Addr} {xs : List Int} (h : Row k w B A xs) (n : Nat) : Row k (w.drewN n) B A xs := h
theorem Row.nil (k : IntKind) (w : World) (B : Nat) (A : Option Addr) : Row k w B A [] := ⟨by simp, by simp⟩
theorem Row.new (k : IntKind) (w : World) (t : TypeId) (l xs : List Int) (hw : ∀ x ∈ xs, (Lit.int k x).wf = true) (hp : xs <+: l) :
    Row k (w.alloc (.cells (blk k l) t)) (w.heap.size + 1) (some ⟨w.heap.size, 0, none⟩) xs := by
  obtain ⟨ys, rfl⟩ := hp
  refine ⟨hw, fun _ => ⟨_, _, rfl, Nat.lt_succ_self _, fun i hi => ?_⟩⟩
  rw [World.cell?_alloc_at _ _ _ _ rfl, Nat.zero_add, blk_get _ _ _ (by simp; omega), nth_left _ _ _ hi]
theorem Row.of_block {k : IntKind} {w : World} {g : Nat} {t : TypeId} {fr : Nat × Nat} {l : List Int} (hg : w.heap[g]? = some (.cells (blk k l) t fr)) (xs : List Int) (hw : ∀ x ∈ xs, (Lit.int k x).wf = true) (hp : xs <+: l) :
    Row k w (g + 1) (some ⟨g, 0, none⟩) xs := by
  obtain ⟨ys, rfl⟩ := hp
  refine ⟨hw, fun _ => ⟨_, _, rfl, Nat.lt_succ_self _, fun i hi => ?_⟩⟩
  rw [Nat.zero_add, cell_of_row w g i _ _ _ hg, blk_get _ _ _ (by simp; omega), nth_left _ _ _ hi]
theorem Row.at_ {k : IntKind} {w : World} {B : Nat} {A : Option Addr} {xs : List Int} (h : Row k w B A xs) {i : Nat} (hi : i < xs.length) :
    ∃ b o, A = some ⟨b, o, none⟩ ∧ b < B ∧ w.cell? ⟨b, o + i, none⟩ = some (.int k (nth xs i)) := by
  obtain ⟨b, o, e, hb, hc⟩ := h.2 (by omega)
  exact ⟨b, o, e, hb, hc i hi⟩
theorem Row.wf_at {k : IntKind} {w : World} {B : Nat} {A : Option Addr} {xs : List Int} (h : Row k w B A xs) {i : Nat} (hi : i < xs.length) : (Lit.int k (nth xs i)).wf = true := h.1 _ (nth_mem _ _ hi)

theorem wf_u8 {n : Int} (h : (Lit.int .u8 n).wf = true) : 0 ≤ n ∧ n < 256 := by
  simp [Lit.wf, IntKind.min, IntKind.max, IntKind.signed, IntKind.bits] at h; omega
theorem wf_u16 {n : Int} (h : (Lit.int .u16 n).wf = true) : 0 ≤ n ∧ n < 65536 := by
  simp [Lit.wf, IntKind.min, IntKind.max, IntKind.signed, IntKind.bits] at h; omega
theorem wf_i64 {n : Int} (h : (Lit.int .i64 n).wf = true) : -9223372036854775808 ≤ n ∧ n < 9223372036854775808 := by
  simp [Lit.wf, IntKind.min, IntKind.max, IntKind.signed, IntKind.bits] at h; omega

theorem wf_append {k : IntKind} {xs ys : List Int} (h : ∀ x ∈ xs, (Lit.int k x).wf = true) (h' : ∀ x ∈ ys, (Lit.int k x).wf = true) : ∀ x ∈ xs ++ ys, (Lit.int k x).wf = true := fun x hx => (List.mem_append.1 hx).elim (h x) (h' x)
theorem take_step (xs : List Int) (k : Nat) (h : k < xs.length) : xs.take (k + 1) = xs.take k ++ [nth xs k] := by
  rw [List.take_succ_eq_append_getElem h, nth_eq xs k h]
theorem set_step (l : List Int) (m k : Nat) (v x : Int) (h : l.length = k) : (l ++ List.replicate (m + 1) v).set k x = l ++ [x] ++ List.replicate m v := by
  rw [List.set_append_right _ _ (by omega)]
  simp [h, List.replicate_succ]
theorem fill_cell (k : IntKind) (l : List Int) (m i : Nat) (v : Int) (h : l.length = i) (hm : 0 < m) : (blk k (l ++ List.replicate m v))[i]? = some (.int k v) := by
  rw [blk_get _ _ _ (by simp; omega)]
  subst h
  have := nth_right l (List.replicate m v) 0
  rw [Nat.add_zero] at this
  rw [this, nth_replicate _ _ _ hm]
end Go.Proofs.YtcmbdhmhkfhjfaaGreat
namespace Go.Proofs.YtcmbdhmhkfhjfaaGreat
open Go.ChangeShapes Go.WideShapes Go.ChangeAt Go.RowKit

end Go.Proofs.YtcmbdhmhkfhjfaaGreat
namespace Go.Proofs.YtcmbdhmhkfhjfaaGreat
open Go.RowKit

def Own (k : IntKind) (e : TypeId) (w : World) (base : Nat) (v : Value) (xs : List Int) : Prop := w.ownsRow base e 1 v xs.length (xs.map (Value.int k))

theorem Own.nil (k : IntKind) (e : TypeId) (w : World) (base : Nat) : Own k e w base (.slice none 0 0) [] := ⟨by simp, .inl ⟨rfl, rfl⟩⟩
theorem Own.alloc {k : IntKind} {e : TypeId} {w : World} {base : Nat} {v : Value} {xs : List Int} (h : Own k e w base v xs) (o : Obj) : Own k e (w.alloc o) base v xs := World.ownsRow.alloc h o
theorem Own.drewN {k : IntKind} {e : TypeId} {w : World} {base : Nat} {v : Value} {xs : List Int} (h : Own k e w base v xs) (n : Nat) : Own k e (w.drewN n) base v xs := h
theorem Own.block {k : IntKind} {e : TypeId} {w : World} {base : Nat} {v : Value} {xs : List Int} (h : Own k e w base v xs) : ∀ g, v.ownBlock = some g → base ≤ g ∧ g < w.heap.size := World.ownsRow.lt h
theorem Own.kept {k : IntKind} {e : TypeId} {w w' : World} {base : Nat} {v : Value} {xs : List Int} {row : Option Nat} (h : Own k e w base v xs) (hg : w.grownBy w' row) (hne : v.ownBlock = none ∨ v.ownBlock ≠ row) : Own k e w' base v xs := World.ownsRow.kept h hg hne
theorem Own.below {k : IntKind} {e : TypeId} {w w' : World} {base B : Nat} {v : Value} {xs : List Int} (h : Own k e w base v xs) (hb : Below B w w') (hB : w.heap.size ≤ B) : Own k e w' base v xs := by
  refine h.kept (row := none) ⟨hb.os, hb.tape, hb.output, hb.size, fun i hi _ => hb.block i (by omega)⟩ ?_
  cases hv : v.ownBlock with
  | none => exact .inl rfl
  | some g => exact .inr (by simp)
theorem Own.mono {k : IntKind} {e : TypeId} {w : World} {base base' : Nat} {v : Value} {xs : List Int} (h : Own k e w base v xs) (hb : base' ≤ base) : Own k e w base' v xs := by
  refine ⟨h.1, ?_⟩
  rcases h.2 with h0 | ⟨g, cap, cur, hv, h1, r⟩
  · exact .inl h0
  · exact .inr ⟨g, cap, cur, hv, by omega, r⟩
theorem Own.row {k : IntKind} {e : TypeId} {w : World} {base : Nat} {v : Value} {xs : List Int} (h : Own k e w base v xs) (hw : ∀ x ∈ xs, (Lit.int k x).wf = true) :
    ∃ A c, v = .slice A xs.length c ∧ Row k w w.heap.size A xs ∧ xs.length ≤ c ∧ c ≤ maxLen := by
  rcases h.2 with ⟨rfl, h0⟩ | ⟨g, cap, cur, rfl, hb, hg, h1, h2, h3, h4⟩
  · have : xs = [] := List.eq_nil_of_length_eq_zero h0
    subst this
    exact ⟨none, 0, rfl, Row.nil _ _ _ _, by simp, by simp⟩
  · refine ⟨_, _, rfl, ⟨hw, fun _ => ⟨g, 0, rfl, ?_, fun i hi => ?_⟩⟩, h1, h2⟩
    · exact (Own.block (k := k) (e := e) (w := w) (base := base) (xs := xs) ⟨by simp, .inr ⟨g, cap, cur, rfl, hb, hg, h1, h2, h3, h4⟩⟩ g rfl).2
    · rw [Nat.zero_add, cell_of_row w g i cur e (0, 0) hg]
      have : (cur.toList.take (xs.length * 1))[i]? = (xs.map (Value.int k))[i]? := by rw [h4]
      rw [List.getElem?_take_of_lt (by omega)] at this
      rw [← Array.getElem?_toList, this, List.getElem?_map, List.getElem?_eq_getElem hi, nth_eq xs i hi]
      rfl

section
variable {P : Program}
theorem run_append_none (w : World) (t ty e : TypeId) (i : TypeInfo) (ht : P.underlying t = some (.slice e)) (hi : P.info? e = some i)
    (base : Nat) (v : Value) (n : Nat) (xs : List Value) (hown : w.ownsRow base e 1 v n xs) (c : Nat) : (Builtin.append_ #[t, t] ty #[v, .slice none 0 c]).run P w = .ok v w := by
  rcases hown.2 with ⟨rfl, rfl⟩ | ⟨g, cap, cur, rfl, _, _, hnc, _⟩
  · simp [Builtin.append_, run_underlying ht, sizeOf, typeInfo, hi, Builtin.lenOf, Builtin.firstCells]
  · simp [Builtin.append_, run_underlying ht, sizeOf, typeInfo, hi, Builtin.lenOf, Builtin.firstCells, hnc, storeCells]

theorem wpList_append_row {ops : Array Oper} {rest : List Oper} {o : Oper} {a : Act} {Q : Exit → Act → World → Prop} (w : World) (hgd : o.guard = none) (s x : Operand) (t : TypeId)
    (ho : o.op = .call { callee := .builtin .append, args := #[s, x], argTypes := #[t, t] })
    (base : Nat) (k : IntKind) (e : TypeId) (bytes : Nat) (ht : P.underlying t = some (.slice e)) (hi : (P.info? e).map (fun i => (i.zero, i.size, i.bytes)) = some (some (.int k 0), 1, bytes))
    (v : Value) (xs : List Int) (hs : a.eval s = v) (hown : Own k e w base v xs)
    (B : Nat) (A : Option Addr) (m c : Nat) (ys : List Int) (hx : a.eval x = .slice A m c) (hr : Row k w B A ys) (hm : ys.length = m)
    (hbytes : (xs.length + m) * bytes ≤ 140737488355328) (h63 : xs.length + m ≤ maxLen) (hbase : base ≤ w.heap.size)
    (h : ∀ v' w', Own k e w' base v' (xs ++ ys) → w.grownBy w' v.ownBlock → wpList P ops Q rest (a.put o.dst v') w') : wpList P ops Q (o :: rest) a w := by
  obtain ⟨i, hi1, hz, hsz, hby⟩ := info_parts hi
  rcases Nat.eq_zero_or_pos m with h0 | h0
  · subst h0
    have hy : ys = [] := List.eq_nil_of_length_eq_zero hm
    subst hy
    cases A with
    | none =>
      refine wpList_plain hgd fun K hK => ?_
      have hrun := run_append_none (P := P) w t o.type e i ht hi1 base v _ _ hown c
      unfold Oper.wp
      simp [execOp, ho, resolve, invoke, builtin, hs, hx, hrun, Result.andThen]
      exact hK _ _ (h v w (by simpa using hown) (World.grownBy.refl _ _))
    | some ad =>
      refine wpList_append_own w hgd s x t ho base e i (.int k 0) 1 bytes ht hi1 hz hsz hby rfl (by omega) v _ _ hs hown ad 0 c [] hx (by simp) (by simp) (by simp) h63 hbytes hbase fun v' w' h1 h2 _ => h v' w' (by simpa [Own] using h1) h2
  · obtain ⟨b, of, rfl, _, hc⟩ := hr.2 (by omega)
    refine wpList_append_own w hgd s x t ho base e i (.int k 0) 1 bytes ht hi1 hz hsz hby rfl (by omega) v _ _ hs hown ⟨b, of, none⟩ m c (ys.map (Value.int k)) hx (by simp [hm]) ?_ (ints_oneCell k ys) h63 hbytes hbase fun v' w' h1 h2 _ => h v' w' (by simpa [Own, hm] using h1) h2
    intro j u hu
    rw [List.getElem?_map] at hu
    by_cases hj : j < ys.length
    · rw [List.getElem?_eq_getElem hj] at hu
      rw [Go.WideShapes.add_plain, hc j hj, nth_eq ys j hj]
      exact hu
    · rw [List.getElem?_eq_none (by omega)] at hu
      cases hu

theorem wpList_append_row_fits {ops : Array Oper} {rest : List Oper} {o : Oper} {a : Act} {Q : Exit → Act → World → Prop} (w : World) (hgd : o.guard = none) (s x : Operand) (t : TypeId)
    (ho : o.op = .call { callee := .builtin .append, args := #[s, x], argTypes := #[t, t] })
    (base : Nat) (k : IntKind) (e : TypeId) (bytes : Nat) (ht : P.underlying t = some (.slice e)) (hi : (P.info? e).map (fun i => (i.zero, i.size, i.bytes)) = some (some (.int k 0), 1, bytes))
    (g n cap : Nat) (xs : List Int) (hs : a.eval s = .slice (some ⟨g, 0, none⟩) n cap) (hn : xs.length = n) (hown : Own k e w base (.slice (some ⟨g, 0, none⟩) n cap) xs)
    (B : Nat) (A : Option Addr) (m c : Nat) (ys : List Int) (hx : a.eval x = .slice A m c) (hr : Row k w B A ys) (hm : ys.length = m) (hfit : n + m ≤ cap)
    (h : ∀ w', Own k e w' base (.slice (some ⟨g, 0, none⟩) (n + m) cap) (xs ++ ys) → w.grownBy w' (some g) → wpList P ops Q rest (a.put o.dst (.slice (some ⟨g, 0, none⟩) (n + m) cap)) w') : wpList P ops Q (o :: rest) a w := by
  obtain ⟨i, hi1, hz, hsz, hby⟩ := info_parts hi
  subst hn
  rcases Nat.eq_zero_or_pos m with h0 | h0
  · subst h0
    have hy : ys = [] := List.eq_nil_of_length_eq_zero hm
    subst hy
    cases A with
    | none =>
      refine wpList_plain hgd fun K hK => ?_
      have hrun := run_append_none (P := P) w t o.type e i ht hi1 base _ _ _ hown c
      unfold Oper.wp
      simp [execOp, ho, resolve, invoke, builtin, hs, hx, hrun, Result.andThen]
      exact hK _ _ (h w (by simpa using hown) (World.grownBy.refl _ _))
    | some ad =>
      refine wpList_append_fits w hgd s x t ho base e i 1 ht hi1 hsz g xs.length cap _ hs hown ad 0 c [] hx (by simp) (by simp) (by simp) hfit fun w' h1 h2 => h w' (by simpa [Own] using h1) h2
  · obtain ⟨b, of, rfl, _, hc⟩ := hr.2 (by omega)
    refine wpList_append_fits w hgd s x t ho base e i 1 ht hi1 hsz g xs.length cap _ hs hown ⟨b, of, none⟩ m c (ys.map (Value.int k)) hx (by simp [hm]) ?_ (ints_oneCell k ys) hfit fun w' h1 h2 => h w' (by simpa [Own, hm] using h1) h2
    intro j u hu
    rw [List.getElem?_map] at hu
    by_cases hj : j < ys.length
    · rw [List.getElem?_eq_getElem hj] at hu
      rw [Go.WideShapes.add_plain, hc j hj, nth_eq ys j hj]
      exact hu
    · rw [List.getElem?_eq_none (by omega)] at hu
      cases hu
end

theorem Own.made (k : IntKind) (e : TypeId) (w : World) (l : List Int) (hm : l.length ≤ maxLen) : Own k e (w.alloc (.cells (blk k l) e)) w.heap.size (.slice (some ⟨w.heap.size, 0, none⟩) 0 l.length) [] :=
  ⟨rfl, .inr ⟨_, _, _, rfl, Nat.le_refl _, heap_alloc_new w _, by simp, hm, by simp [blk_size], by simp⟩⟩
theorem Own.full {k : IntKind} {e : TypeId} {w : World} {base g n : Nat} {xs : List Int} (h : Own k e w base (.slice (some ⟨g, 0, none⟩) n n) xs) : w.heap[g]? = some (.cells (blk k xs) e (0, 0)) := by
  rcases h.2 with ⟨h0, _⟩ | ⟨g', cap, cur, hv, hb, hg, h1, h2, h3, h4⟩
  · cases h0
  · injection hv with ha hn hc
    injection ha with ha
    injection ha with ha
    subst ha hn hc
    rw [hg]
    congr 2
    apply Array.toList_inj.1
    rw [List.take_of_length_le (by simp [h3])] at h4
    rw [h4]
    simp [blk]

theorem Below.own {k : IntKind} {e : TypeId} {w0 w w' : World} {base : Nat} {v : Value} {xs : List Int} (hb : Below base w0 w) (hB : base ≤ w.heap.size) (h : Own k e w base v xs) (hg : w.grownBy w' v.ownBlock) : Below base w0 w' :=
  hb.grown hg hB fun g e => (h.block g e).1
theorem Below.own1 {k : IntKind} {e : TypeId} {w0 w w' : World} {base : Nat} {v : Value} {xs : List Int} {o : Obj} (hb : Below base w0 w) (hB : base ≤ w.heap.size) (h : Own k e w base v xs) (hg : (w.alloc o).grownBy w' v.ownBlock) : Below base w0 w' :=
  Below.own (hb.alloc hB o) (by simp; omega) (h.alloc o) hg
theorem Row.one (k : IntKind) (w : World) (t : TypeId) (x : Int) (h : (Lit.int k x).wf = true) : Row k (w.alloc (.cells #[.int k x] t)) (w.heap.size + 1) (some ⟨w.heap.size, 0, none⟩) [x] :=
  Row.new k w t [x] [x] (by simpa using h) (List.prefix_refl _)
end Go.Proofs.YtcmbdhmhkfhjfaaGreat
namespace Go.Proofs.YtcmbdhmhkfhjfaaGreat
open Go.RowKit
set_option linter.unusedVariables false

theorem block_setCell (w : World) (g i : Nat) (k : IntKind) (t : TypeId) (l : List Int) (v : Int) (h : w.heap[g]? = some (.cells (blk k l) t (0, 0))) :
    (w.setCell ⟨g, i, none⟩ (.int k v)).heap[g]? = some (.cells (blk k (l.set i v)) t (0, 0)) := by
  simp [World.setCell, Array.getElem?_modify, h, blk_set]
theorem block_frozen (w : World) (g i : Nat) (cs : Array Value) (t : TypeId) (h : w.heap[g]? = some (.cells cs t (0, 0))) : w.frozen? ⟨g, i, none⟩ = false := by simp [World.frozen?, h]
theorem grown_setCell {a w : World} {g : Nat} (h : a.grownBy w (some g)) (i : Nat) (u : Value) : a.grownBy (w.setCell ⟨g, i, none⟩ u) (some g) :=
  ⟨h.os, h.tape, h.output, by simpa [World.setCell] using h.size, fun k hk hne => (Below.heap_setCell w ⟨g, i, none⟩ u k (fun e => hne (by rw [e]))).trans (h.block k hk hne)⟩
theorem block_lt {w : World} {g : Nat} {o : Obj} (h : w.heap[g]? = some o) : g < w.heap.size := by
  rcases Nat.lt_or_ge g w.heap.size with hlt | hge
  · exact hlt
  · rw [Array.getElem?_eq_none hge] at h; cases h

end Go.Proofs.YtcmbdhmhkfhjfaaGreat
namespace Go.Proofs.YtcmbdhmhkfhjfaaGreat
open Go.RowKit
set_option linter.unusedVariables false


theorem bel_alloc (w : World) (o : Obj) : Below w.heap.size w (w.alloc o) := (Below.refl _ _).alloc (Nat.le_refl _) o


theorem nth_drop (xs : List Int) (i j : Nat) : nth (xs.drop i) j = nth xs (i + j) := by simp [nth, List.getD_eq_getElem?_getD]
theorem Row.drop {k : IntKind} {w : World} {B b o : Nat} {xs : List Int} (h : Row k w B (some ⟨b, o, none⟩) xs) (i : Nat) : Row k w B (some ⟨b, o + i, none⟩) (xs.drop i) := by
  refine ⟨fun x hx => h.1 x (List.mem_of_mem_drop hx), fun hn => ?_⟩
  have hl : i < xs.length := by rw [List.length_drop] at hn; omega
  obtain ⟨b', o', e, hb, hc⟩ := h.2 (by omega)
  injection e with e
  injection e with e1 e2
  subst e1 e2
  refine ⟨b, o + i, rfl, hb, fun j hj => ?_⟩
  rw [List.length_drop] at hj
  rw [Nat.add_assoc, hc (i + j) (by omega), nth_drop]


theorem Own.cells {k : IntKind} {e : TypeId} {w : World} {base : Nat} {v : Value} {xs : List Int} (h : Own k e w base v xs) (hp : 0 < xs.length) :
    ∃ g cap, v = .slice (some ⟨g, 0, none⟩) xs.length cap ∧ base ≤ g ∧ g < w.heap.size ∧ xs.length ≤ cap ∧ (∀ i, i < xs.length → w.cell? ⟨g, i, none⟩ = some (.int k (nth xs i))) ∧ (∀ i, w.frozen? ⟨g, i, none⟩ = false)
      ∧ ∀ (w' : World) i x, w'.heap = w.heap → i < xs.length → Own k e (w'.setCell ⟨g, i, none⟩ (.int k x)) base v (xs.set i x) := by
  rcases h.2 with ⟨rfl, h0⟩ | ⟨g, cap, cur, rfl, hb, hg, h1, h2, h3, h4⟩
  · omega
  · refine ⟨g, cap, rfl, hb, block_lt hg, h1, fun i hi => ?_, fun i => block_frozen w g i _ _ hg, fun w' i x hw hi => ?_⟩
    · rw [cell_of_row w g i cur e (0, 0) hg]
      have : (cur.toList.take (xs.length * 1))[i]? = (xs.map (Value.int k))[i]? := by rw [h4]
      rw [List.getElem?_take_of_lt (by omega)] at this
      rw [← Array.getElem?_toList, this, List.getElem?_map, List.getElem?_eq_getElem hi, nth_eq xs i hi]
      rfl
    · unfold Own
      rw [List.length_set]
      refine ⟨by simp, .inr ⟨g, cap, cur.setIfInBounds i (.int k x), rfl, hb, ?_, h1, h2, by simpa using h3, ?_⟩⟩
      · simp [World.setCell, Array.getElem?_modify, hw, hg]
      · rw [Array.toList_setIfInBounds, List.take_set, h4, List.map_set]
theorem Own.laid {k : IntKind} {t : TypeId} {w : World} {base g : Nat} {l : List Int} {n : Nat} (hg : w.heap[g]? = some (.cells (blk k l) t (0, 0))) (hb : base ≤ g) (hl : l.length = n) (hm : n ≤ maxLen) : Own k t w base (.slice (some ⟨g, 0, none⟩) n n) l := by
  subst hl
  exact ⟨by simp, .inr ⟨g, _, _, rfl, hb, hg, Nat.le_refl _, hm, by simp [blk_size], by rw [Nat.mul_one, List.take_of_length_le (by simp [blk])]; simp [blk]⟩⟩
theorem Row.front {k : IntKind} {w : World} {B : Nat} {A : Option Addr} {xs : List Int} (h : Row k w B A xs) (m : Nat) : Row k w B A (xs.take m) := by
  refine ⟨fun x hx => h.1 x (List.mem_of_mem_take hx), fun hn => ?_⟩
  rw [List.length_take] at hn
  obtain ⟨b, o, e, hb, hc⟩ := h.2 (by omega)
  refine ⟨b, o, e, hb, fun i hi => ?_⟩
  rw [List.length_take] at hi
  rw [hc i (by omega), nth_eq _ _ (by omega), nth_eq _ _ (by rw [List.length_take]; omega), List.getElem_take]
end Go.Proofs.YtcmbdhmhkfhjfaaGreat
namespace Go.Proofs.YtcmbdhmhkfhjfaaGreat
open Go.RowKit

theorem made_zero (z : Int) (n : Nat) : madeCells (Value.int .u8 z).cells (n * 1) = blk .u8 (List.replicate n z) := by
  apply Array.toList_inj.1
  rw [show (Value.int .u8 z).cells = #[Value.int .u8 z] from rfl, toList_madeCells_one, Nat.mul_one]
  simp [blk]

def marks5 : List Int := [165, 165, 165, 165, 165]

end Go.Proofs.YtcmbdhmhkfhjfaaGreat
namespace Go.Proofs.YtcmbdhmhkfhjfaaGreat
open Go.RowKit

def Makes (k : IntKind) (t : TypeId) (w : World) (xs : List Int) (e : Ending) (w' : World) : Prop := ∃ v, e = .returned v ∧ Own k t w' w.heap.size v xs ∧ Below w.heap.size w w'

def Lays (k : IntKind) (t : TypeId) (w : World) (xs : List Int) (m : Nat) (e : Ending) (w' : World) : Prop :=
  e = .returned (.slice (some ⟨w.heap.size, 0, none⟩) m m) ∧ w'.heap[w.heap.size]? = some (.cells (blk k xs) t (0, 0)) ∧ Below w.heap.size w w'

end Go.Proofs.YtcmbdhmhkfhjfaaGreat
namespace Go.Proofs.YtcmbdhmhkfhjfaaGreat
open Go.RowKit
set_option linter.unusedVariables false

theorem below_drewN {B : Nat} {a w : World} (h : Below B a w) (n : Nat) : Below B a (w.drewN n) := ⟨h.os, h.tape, h.output, h.size, h.block⟩
def Bk (w : World) (g : Nat) (l : List Int) : Prop := w.heap[g]? = some (.cells (blk .u8 l) 5 (0, 0))
theorem Bk.below {w w' : World} {g : Nat} {l : List Int} (h : Bk w g l) (hb : Below w.heap.size w w') : Bk w' g l := (hb.block g (block_lt h)).trans h
theorem Bk.lt {w : World} {g : Nat} {l : List Int} (h : Bk w g l) : g < w.heap.size := block_lt h
theorem Bk.drewN {w : World} {g : Nat} {l : List Int} (h : Bk w g l) (n : Nat) : Bk (w.drewN n) g l := h
theorem Bk.row {w : World} {g : Nat} {l : List Int} (h : Bk w g l) (xs : List Int) (hw : ∀ x ∈ xs, (Lit.int .u8 x).wf = true) (hp : xs <+: l) : Row .u8 w w.heap.size (some ⟨g, 0, none⟩) xs :=
  (Row.of_block h xs hw hp).more h.lt
def Li (w : World) (A : Option Addr) (m g : Nat) (l r : List Int) : Prop := A = none ∧ m = 0 ∨ A = some ⟨g, 0, none⟩ ∧ Bk w g (l ++ r)
theorem Li.below {w w' : World} {A : Option Addr} {m g : Nat} {l r : List Int} (h : Li w A m g l r) (hb : Below w.heap.size w w') : Li w' A m g l r := by
  rcases h with h | ⟨h1, h2⟩
  · exact .inl h
  · exact .inr ⟨h1, h2.below hb⟩
theorem Li.row {w : World} {A : Option Addr} {m g : Nat} {l r : List Int} (h : Li w A m g l r) (hm : l.length = m) (hw : ∀ x ∈ l, (Lit.int .u8 x).wf = true) : Row .u8 w w.heap.size A l := by
  rcases h with ⟨h1, h2⟩ | ⟨h1, h2⟩
  · have : l = [] := List.eq_nil_of_length_eq_zero (by omega)
    subst this
    exact Row.nil _ _ _ _
  · subst h1
    exact h2.row l hw (List.prefix_append _ _)
theorem bel_drewN (w : World) (n : Nat) : Below w.heap.size w (w.drewN n) := ⟨rfl, rfl, rfl, Nat.le_refl _, fun _ _ => rfl⟩

def Gives (w : World) (l : List Int) (err : Int) (e : Ending) (w' : World) : Prop :=
  ∃ A m, e = .returned (.tuple #[.slice A m m, .int .i64 err]) ∧ l.length = m ∧ Li w' A m w.heap.size l [] ∧ Below w.heap.size w w'
def GivesOwn (w : World) (l : List Int) (err : Int) (e : Ending) (w' : World) : Prop :=
  ∃ v, e = .returned (.tuple #[v, .int .i64 err]) ∧ Own .u8 5 w' w.heap.size v l ∧ Below w.heap.size w w'
theorem Li.lt {w : World} {A : Option Addr} {m g : Nat} {l r : List Int} (h : Li w A m g l r) : A = none ∨ g < w.heap.size := by
  rcases h with ⟨h1, _⟩ | ⟨_, h2⟩
  · exact .inl h1
  · exact .inr h2.lt
end Go.Proofs.YtcmbdhmhkfhjfaaGreat
namespace Go.Proofs.YtcmbdhmhkfhjfaaGreat
open Go.RowKit
set_option linter.unusedVariables false

theorem below_drew {B : Nat} {a w : World} (h : Below B a w) : Below B a w.drew := ⟨h.os, h.tape, h.output, h.size, h.block⟩
theorem box_set {w : World} {g : Nat} {cs : Array Value} {t : TypeId} (h : w.heap[g]? = some (.cells cs t (0, 0))) (i : Nat) (v : Value) : (w.setCell ⟨g, i, none⟩ v).heap[g]? = some (.cells (cs.setIfInBounds i v) t (0, 0)) := by
  simp [World.setCell, Array.getElem?_modify, h]
theorem below_setCell {B : Nat} {a w : World} {g : Nat} (h : Below B a w) (hg : B ≤ g) (i : Nat) (v : Value) : Below B a (w.setCell ⟨g, i, none⟩ v) :=
  ⟨h.os, h.tape, h.output, by simpa [World.setCell] using h.size, fun k hk => (Below.heap_setCell w ⟨g, i, none⟩ v k (by simp; omega)).trans (h.block k hk)⟩


theorem heap_alloc_two (w : World) (o o' : Obj) : ((w.alloc o).alloc o').heap[w.heap.size + 1]? = some o' := by
  have h := heap_alloc_new (w.alloc o) o'
  rw [show (w.alloc o).heap.size = w.heap.size + 1 by simp] at h
  exact h

def Bx (w0 : World) (g : Nat) (o : Obj) (w : World) : Prop := w.heap[g]? = some o ∧ Below g w0 w
theorem Bx.new (w : World) (o : Obj) : Bx w w.heap.size o (w.alloc o) := ⟨heap_alloc_new w o, bel_alloc w o⟩
theorem Bx.lt {w0 w : World} {g : Nat} {o : Obj} (h : Bx w0 g o w) : g < w.heap.size := block_lt h.1
theorem Bx.below {w0 w w' : World} {g : Nat} {o : Obj} (h : Bx w0 g o w) (hb : Below w.heap.size w w') : Bx w0 g o w' :=
  ⟨(hb.block g h.lt).trans h.1, h.2.trans (hb.mono (Nat.le_of_lt h.lt))⟩
theorem Bx.below2 {w0 w w' : World} {g B : Nat} {o : Obj} (h : Bx w0 g o w) (hb : Below B w w') (hB : g < B) : Bx w0 g o w' :=
  ⟨(hb.block g hB).trans h.1, h.2.trans (hb.mono (Nat.le_of_lt hB))⟩
theorem Bx.drewN {w0 w : World} {g : Nat} {o : Obj} (h : Bx w0 g o w) (n : Nat) : Bx w0 g o (w.drewN n) := h.below (bel_drewN w n)
theorem Bx.drew {w0 w : World} {g : Nat} {o : Obj} (h : Bx w0 g o w) : Bx w0 g o w.drew := h.below ⟨rfl, rfl, rfl, Nat.le_refl _, fun _ _ => rfl⟩
theorem Bx.alloc {w0 w : World} {g : Nat} {o : Obj} (h : Bx w0 g o w) (o' : Obj) : Bx w0 g o (w.alloc o') := h.below (bel_alloc w o')
theorem Bx.six {w0 w : World} {g : Nat} {t : TypeId} {v0 v1 v2 v3 v4 v5 : Value} (h : Bx w0 g (.cells #[v0, v1, v2, v3, v4, v5] t (0, 0)) w) :
    w.cell? ⟨g, 0, none⟩ = some v0 ∧ w.cell? ⟨g, 1, none⟩ = some v1 ∧ w.cell? ⟨g, 2, none⟩ = some v2 ∧ w.cell? ⟨g, 3, none⟩ = some v3 ∧ w.cell? ⟨g, 4, none⟩ = some v4 ∧ w.cell? ⟨g, 5, none⟩ = some v5 :=
  ⟨cell_of_row _ _ 0 _ _ _ h.1, cell_of_row _ _ 1 _ _ _ h.1, cell_of_row _ _ 2 _ _ _ h.1, cell_of_row _ _ 3 _ _ _ h.1, cell_of_row _ _ 4 _ _ _ h.1, cell_of_row _ _ 5 _ _ _ h.1⟩
end Go.Proofs.YtcmbdhmhkfhjfaaGreat
namespace Go.Proofs.YtcmbdhmhkfhjfaaGreat
open Go.RowKit
set_option linter.unusedVariables false

theorem of6 {w : World} {g : Nat} {a b c d e f : Value} {t : TypeId} (h : w.heap[g]? = some (.cells #[a, b, c, d, e, f] t (0, 0))) : w.cell? ⟨g, 0, none⟩ = some a ∧ w.cell? ⟨g, 1, none⟩ = some b ∧ w.cell? ⟨g, 2, none⟩ = some c ∧ w.cell? ⟨g, 3, none⟩ = some d ∧ w.cell? ⟨g, 4, none⟩ = some e ∧ w.cell? ⟨g, 5, none⟩ = some f :=
  ⟨cell_of_row _ _ 0 _ _ _ h, cell_of_row _ _ 1 _ _ _ h, cell_of_row _ _ 2 _ _ _ h, cell_of_row _ _ 3 _ _ _ h, cell_of_row _ _ 4 _ _ _ h, cell_of_row _ _ 5 _ _ _ h⟩
def Box3 (w0 : World) (a b c : Obj) (w : World) : Prop :=
  w.heap[w0.heap.size]? = some a ∧ w.heap[w0.heap.size + 1]? = some b ∧ w.heap[w0.heap.size + 1 + 1]? = some c ∧ w0.heap.size + 3 ≤ w.heap.size ∧ Below w0.heap.size w0 w
theorem Box3.new (w : World) (a b c : Obj) : Box3 w a b c (((w.alloc a).alloc b).alloc c) := by
  have s1 : (w.alloc a).heap.size = w.heap.size + 1 := by simp
  have s2 : ((w.alloc a).alloc b).heap.size = w.heap.size + 1 + 1 := by simp
  refine ⟨?_, ?_, ?_, by simp, ((bel_alloc w a).alloc (by simp) b).alloc (by simp; omega) c⟩
  · exact (heap_alloc_old _ _ (by omega)).trans ((heap_alloc_old _ _ (by omega)).trans (heap_alloc_new _ _))
  · rw [← s1]; exact (heap_alloc_old _ _ (by omega)).trans (heap_alloc_new _ _)
  · rw [← s2]; exact heap_alloc_new _ _
theorem Box3.below {w0 w w' : World} {a b c : Obj} (h : Box3 w0 a b c w) (hb : Below w.heap.size w w') : Box3 w0 a b c w' := by
  obtain ⟨h1, h2, h3, h5, h6⟩ := h
  exact ⟨(hb.block _ (by omega)).trans h1, (hb.block _ (by omega)).trans h2, (hb.block _ (by omega)).trans h3, by have := hb.size; omega, h6.trans (hb.mono (by omega))⟩
theorem Box3.bel {w0 w : World} {a b c : Obj} (h : Box3 w0 a b c w) : Below w0.heap.size w0 w := h.2.2.2.2
theorem Box3.drewN {w0 w : World} {a b c : Obj} (h : Box3 w0 a b c w) (n : Nat) : Box3 w0 a b c (w.drewN n) := h.below (bel_drewN w n)
theorem Box3.alloc {w0 w : World} {a b c : Obj} (h : Box3 w0 a b c w) (o : Obj) : Box3 w0 a b c (w.alloc o) := h.below (bel_alloc w o)
theorem Box3.set {w0 w : World} {a b : Obj} {cs : Array Value} {t : TypeId} (h : Box3 w0 a b (.cells cs t (0, 0)) w) (i : Nat) (v : Value) : Box3 w0 a b (.cells (cs.setIfInBounds i v) t (0, 0)) (w.setCell ⟨w0.heap.size + 1 + 1, i, none⟩ v) := by
  obtain ⟨h1, h2, h3, h5, h6⟩ := h
  refine ⟨(Below.heap_setCell w _ v _ (by simp only [ne_eq]; omega)).trans h1, (Below.heap_setCell w _ v _ (by simp only [ne_eq]; omega)).trans h2, box_set h3 i v, by simpa [World.setCell] using h5, below_setCell h6 (by omega) i v⟩
def put2 (w : World) (g : Nat) (a b : Value) : World := (w.setCell ⟨g, 0, none⟩ a).setCell ⟨g, 1, none⟩ b
theorem Box3.put {w0 w : World} {a b : Obj} {v0 v1 : Value} {t : TypeId} (h : Box3 w0 a b (.cells #[v0, v1] t (0, 0)) w) (x y : Value) : Box3 w0 a b (.cells #[x, y] t (0, 0)) (put2 w (w0.heap.size + 1 + 1) x y) := (h.set 0 x).set 1 y
theorem balB {a w : World} (h : Below a.heap.size a w) (o : Obj) : Below a.heap.size a (w.alloc o) := h.alloc h.size o
theorem keepB {w w' : World} {g : Nat} {o : Obj} (hb : Below w.heap.size w w') (h : w.heap[g]? = some o) : w'.heap[g]? = some o := (hb.block g (block_lt h)).trans h
theorem two_fst (w : World) (a b : Obj) : ((w.alloc a).alloc b).heap[w.heap.size]? = some a := (heap_alloc_old _ _ (by simp)).trans (heap_alloc_new w a)
end Go.Proofs.YtcmbdhmhkfhjfaaGreat
namespace Go.Proofs.YtcmbdhmhkfhjfaaGreat
open Go.RowKit
set_option linter.unusedVariables false

theorem cellB {w w' : World} {b o : Nat} {v : Value} (hb : Below w.heap.size w w') (hlt : b < w.heap.size) (h : w.cell? ⟨b, o, none⟩ = some v) : w'.cell? ⟨b, o, none⟩ = some v := (hb.cell (p := ⟨b, o, none⟩) hlt).trans h
end Go.Proofs.YtcmbdhmhkfhjfaaGreat
namespace Go.Proofs.YtcmbdhmhkfhjfaaGreat
open Go.RowKit
set_option linter.unusedVariables false

def letB (c : Int) : Bool := (decide (97 ≤ c) && decide (c ≤ 122)) || (decide (65 ≤ c) && decide (c ≤ 90))
def chB (c : Int) : Bool := letB c || (decide (48 ≤ c) && decide (c ≤ 57)) || decide (c = 95) || decide (c = 46) || decide (c = 45)
def bys (s : ByteArray) : List Int := s.data.toList.map fun c => (c.toNat : Int)
theorem bys_len (s : ByteArray) : (bys s).length = s.size := by simp [bys]
theorem bys_get (s : ByteArray) (k : Nat) (h : k < s.size) : nth (bys s) k = (s[k].toNat : Int) := by
  rw [nth_eq _ _ (by rw [bys_len]; exact h)]
  simp only [bys, List.getElem_map, Array.getElem_toList]
  rfl
theorem bys_bound (s : ByteArray) (k : Nat) (h : k < s.size) : 0 ≤ nth (bys s) k ∧ nth (bys s) k ≤ 255 := by
  rw [bys_get s k h]
  have := s[k].toNat_lt
  omega
def nameB (l : List Int) : Bool := decide (1 ≤ l.length) && decide (l.length ≤ 16) && letB (nth l 0) && l.all chB
theorem letter_cases (c : Int) (P : Prop) (a : 97 ≤ c → c ≤ 122 → letB c = true → P) (b : 97 ≤ c → ¬ c ≤ 122 → letB c = false → P) (d : ¬ 97 ≤ c → 65 ≤ c → c ≤ 90 → letB c = true → P)
    (e : ¬ 97 ≤ c → 65 ≤ c → ¬ c ≤ 90 → letB c = false → P) (f : ¬ 97 ≤ c → ¬ 65 ≤ c → letB c = false → P) : P := by
  by_cases h1 : 97 ≤ c
  · by_cases h2 : c ≤ 122
    · exact a h1 h2 (by simp [letB, h1, h2])
    · exact b h1 h2 (by
        have : ¬ c ≤ 90 := by omega
        simp [letB, h1, h2, this])
  · by_cases h3 : 65 ≤ c
    · by_cases h4 : c ≤ 90
      · exact d h1 h3 h4 (by simp [letB, h3, h4])
      · exact e h1 h3 h4 (by simp [letB, h1, h4])
    · exact f h1 h3 (by simp [letB, h1, h3])
theorem refLetter_any (c : Int) (w : World) : Calls Tryz.prog 112 #[.int .u8 c] w fun e w' => e = .returned (.bool (letB c)) ∧ w' = w := by
  refine letter_cases c _ ?_ ?_ ?_ ?_ ?_
  · intro h1 h2 h
    rw [h]
    go_enter Tryz.func112, Tryz.ntmps112
    go_wp2
    go_ret
    exact ⟨rfl, rfl⟩
  · intro h1 h2 h
    have h3 : ¬ c ≤ 90 := by omega
    have h4 : 65 ≤ c := by omega
    rw [h]
    go_enter Tryz.func112, Tryz.ntmps112
    go_wp2
    go_ret
    exact ⟨rfl, rfl⟩
  · intro h1 h2 h3 h
    rw [h]
    go_enter Tryz.func112, Tryz.ntmps112
    go_wp2
    go_ret
    exact ⟨rfl, rfl⟩
  · intro h1 h2 h3 h
    rw [h]
    go_enter Tryz.func112, Tryz.ntmps112
    go_wp2
    go_ret
    exact ⟨rfl, rfl⟩
  · intro h1 h2 h
    rw [h]
    go_enter Tryz.func112, Tryz.ntmps112
    go_wp2
    go_ret
    exact ⟨rfl, rfl⟩

theorem chB_letter {c : Int} (h : letB c = true) : chB c = true := by unfold chB; rw [h]; rfl
theorem ch_cases (c : Int) (P : Prop) (a : letB c = true → chB c = true → P) (b : letB c = false → ¬ c < 48 → ¬ c > 57 → chB c = true → P)
    (x : letB c = false → c = 95 → chB c = true → P) (y : letB c = false → c = 46 → chB c = true → P) (z : letB c = false → c = 45 → chB c = true → P)
    (d : letB c = false → c < 48 → c ≠ 95 → c ≠ 46 → c ≠ 45 → chB c = false → P) (e : letB c = false → ¬ c < 48 → c > 57 → c ≠ 95 → c ≠ 46 → c ≠ 45 → chB c = false → P) : P := by
  cases h : letB c
  case true => exact a h (chB_letter h)
  by_cases h1 : c = 95
  · exact x h h1 (by subst h1; rfl)
  by_cases h2 : c = 46
  · exact y h h2 (by subst h2; rfl)
  by_cases h3 : c = 45
  · exact z h h3 (by subst h3; rfl)
  by_cases h4 : c < 48
  · exact d h h4 h1 h2 h3 (by
      have : ¬ 48 ≤ c := by omega
      simp [chB, h, h1, h2, h3, this])
  · by_cases h5 : c > 57
    · exact e h h4 h5 h1 h2 h3 (by
        have : ¬ c ≤ 57 := by omega
        simp [chB, h, h1, h2, h3, this])
    · exact b h h4 h5 (by
        have : 48 ≤ c := by omega
        have : c ≤ 57 := by omega
        simp [chB, *])
theorem nameB_bad {l : List Int} (k : Nat) (hk : k < l.length) (h : chB (nth l k) = false) : nameB l = false := by
  unfold nameB
  have : l.all chB = false := by
    rw [List.all_eq_false]
    exact ⟨nth l k, nth_mem l k hk, by simp [h]⟩
  rw [this, Bool.and_false]
theorem nameB_good {l : List Int} (h1 : 1 ≤ l.length) (h2 : l.length ≤ 16) (h3 : letB (nth l 0) = true) (h : ∀ i, i < l.length → chB (nth l i) = true) : nameB l = true := by
  unfold nameB
  have : l.all chB = true := by
    rw [List.all_eq_true]
    intro x hx
    obtain ⟨i, hi, rfl⟩ := List.mem_iff_getElem.1 hx
    rw [← nth_eq l i hi]
    exact h i hi
  rw [this, h3, decide_eq_true h1, decide_eq_true h2]; rfl
theorem nameB_len {l : List Int} (h : l.length < 1 ∨ 16 < l.length) : nameB l = false := by
  unfold nameB
  rcases h with h | h
  · rw [decide_eq_false (show ¬ 1 ≤ l.length by omega)]; rfl
  · rw [decide_eq_false (show ¬ l.length ≤ 16 by omega), Bool.and_false]; rfl
theorem nameB_first {l : List Int} (h : letB (nth l 0) = false) : nameB l = false := by
  unfold nameB; rw [h, Bool.and_false]; rfl

set_option maxHeartbeats 1000000 in
theorem refName_any (s : ByteArray) (w : World) (hs : s.size ≤ maxLen) : Calls Tryz.prog 87 #[.string s] w fun e w' => e = .returned (.bool (nameB (bys s))) ∧ w' = w := by
  unfold maxLen at hs
  have hl := bys_len s
  by_cases h1 : s.size < 1
  · have HN := Lib.hid (nameB_len (l := bys s) (.inl (by omega)))
    rw [HN.out]
    have h1' : (s.size : Int) < 1 := by omega
    clear hl
    go_enter Tryz.func87, Tryz.ntmps87
    go_wp2
    go_ret
    exact ⟨rfl, rfl⟩
  by_cases h2 : 16 < s.size
  · have HN := Lib.hid (nameB_len (l := bys s) (.inr (by omega)))
    rw [HN.out]
    have h1' : ¬ (s.size : Int) < 1 := by omega
    have h2' : (s.size : Int) > 16 := by omega
    clear hl
    go_enter Tryz.func87, Tryz.ntmps87
    go_wp2
    go_ret
    exact ⟨rfl, rfl⟩
  have h1' : ¬ (s.size : Int) < 1 := by omega
  have h2' : ¬ (s.size : Int) > 16 := by omega
  have h0 : 0 < s.size := by omega
  have hb0 := bys_get s 0 h0
  cases h3 : letB (nth (bys s) 0) with
  | false =>
    have HN := Lib.hid (nameB_first h3)
    rw [HN.out]
    rw [hb0] at h3
    clear hl hb0
    go_enter Tryz.func87, Tryz.ntmps87
    go_wp2_with fail
    refine (refLetter_any _ _).mono ?_
    rintro e w' ⟨rfl, rfl⟩
    rw [h3]
    go_wp2
    go_ret
    exact ⟨rfl, rfl⟩
  | true =>
    have H3 := Lib.hid h3
    rw [hb0] at h3
    clear hb0
    go_enter Tryz.func87, Tryz.ntmps87
    go_wp2_with fail
    refine (refLetter_any _ _).mono ?_
    rintro e w' ⟨rfl, rfl⟩
    rw [h3]
    clear h3
    go_wp2
    go_loop [3] (fun i => ∃ k : Nat, k ≤ s.size ∧ i = .int .i64 k ∧ Hid (∀ j, j < k → chB (nth (bys s) j) = true)) (fun i => s.size - (intOf i).toNat)
    case atStart => exact ⟨0, by omega, rfl, Lib.hid (fun j hj => absurd hj (by omega))⟩
    case round =>
      obtain ⟨k, hk, rfl, hall⟩ := hrel
      by_cases hlt : k < s.size
      · have hb := bys_get s k hlt
        obtain ⟨x, hx⟩ : ∃ x : Int, (s[k].toNat : Int) = x := ⟨_, rfl⟩
        rw [hx] at hb
        refine ch_cases x _ ?_ ?_ ?_ ?_ ?_ ?_ ?_
        · intro C1 C9
          have hall2 : Hid (∀ j, j < k + 1 → chB (nth (bys s) j) = true) := Lib.hid (fun j hj => by
            rcases Nat.lt_or_ge j k with h | h
            · exact hall.out j h
            · obtain rfl : j = k := by omega
              rw [hb]; exact C9)
          clear C9 hb hall
          go_wp2_with fail
          refine (refLetter_any _ _).mono ?_
          rintro e w' ⟨rfl, rfl⟩
          rw [C1]
          go_wp2
          go_round
          case rel => exact ⟨k + 1, by omega, by go_num, hall2⟩
          case measure => simp [intOf]; omega
        · intro C1 C2 C3 C9
          have hall2 : Hid (∀ j, j < k + 1 → chB (nth (bys s) j) = true) := Lib.hid (fun j hj => by
            rcases Nat.lt_or_ge j k with h | h
            · exact hall.out j h
            · obtain rfl : j = k := by omega
              rw [hb]; exact C9)
          clear C9 hb hall
          go_wp2_with fail
          refine (refLetter_any _ _).mono ?_
          rintro e w' ⟨rfl, rfl⟩
          rw [C1]
          go_wp2
          go_round
          case rel => exact ⟨k + 1, by omega, by go_num, hall2⟩
          case measure => simp [intOf]; omega
        · intro C1 C2 C9
          have hall2 : Hid (∀ j, j < k + 1 → chB (nth (bys s) j) = true) := Lib.hid (fun j hj => by
            rcases Nat.lt_or_ge j k with h | h
            · exact hall.out j h
            · obtain rfl : j = k := by omega
              rw [hb]; exact C9)
          clear C9 hb hall
          subst C2
          go_wp2_with fail
          refine (refLetter_any _ _).mono ?_
          rintro e w' ⟨rfl, rfl⟩
          rw [C1]
          go_wp2
          go_round
          case rel => exact ⟨k + 1, by omega, by go_num, hall2⟩
          case measure => simp [intOf]; omega
        · intro C1 C2 C9
          have hall2 : Hid (∀ j, j < k + 1 → chB (nth (bys s) j) = true) := Lib.hid (fun j hj => by
            rcases Nat.lt_or_ge j k with h | h
            · exact hall.out j h
            · obtain rfl : j = k := by omega
              rw [hb]; exact C9)
          clear C9 hb hall
          subst C2
          go_wp2_with fail
          refine (refLetter_any _ _).mono ?_
          rintro e w' ⟨rfl, rfl⟩
          rw [C1]
          go_wp2
          go_round
          case rel => exact ⟨k + 1, by omega, by go_num, hall2⟩
          case measure => simp [intOf]; omega
        · intro C1 C2 C9
          have hall2 : Hid (∀ j, j < k + 1 → chB (nth (bys s) j) = true) := Lib.hid (fun j hj => by
            rcases Nat.lt_or_ge j k with h | h
            · exact hall.out j h
            · obtain rfl : j = k := by omega
              rw [hb]; exact C9)
          clear C9 hb hall
          subst C2
          go_wp2_with fail
          refine (refLetter_any _ _).mono ?_
          rintro e w' ⟨rfl, rfl⟩
          rw [C1]
          go_wp2
          go_round
          case rel => exact ⟨k + 1, by omega, by go_num, hall2⟩
          case measure => simp [intOf]; omega
        · intro C1 C2 C5 C6 C7 C9
          have HN : Hid (nameB (bys s) = false) := Lib.hid (nameB_bad k (by omega) (by rw [hb]; exact C9))
          have e1 : (x == 95) = false := beq_false_of_ne C5
          have e2 : (x == 46) = false := beq_false_of_ne C6
          have e3 : (x == 45) = false := beq_false_of_ne C7
          have e4 : (x != 95) = true := by simp [C5]
          have e5 : (x != 46) = true := by simp [C6]
          have e6 : (x != 45) = true := by simp [C7]
          clear C9 hb
          go_wp2_with fail
          refine (refLetter_any _ _).mono ?_
          rintro e w' ⟨rfl, rfl⟩
          rw [C1]
          go_wp2
          go_ret
          exact ⟨by rw [HN.out]; rfl, rfl⟩
        · intro C1 C2 C3 C5 C6 C7 C9
          have HN : Hid (nameB (bys s) = false) := Lib.hid (nameB_bad k (by omega) (by rw [hb]; exact C9))
          have e1 : (x == 95) = false := beq_false_of_ne C5
          have e2 : (x == 46) = false := beq_false_of_ne C6
          have e3 : (x == 45) = false := beq_false_of_ne C7
          have e4 : (x != 95) = true := by simp [C5]
          have e5 : (x != 46) = true := by simp [C6]
          have e6 : (x != 45) = true := by simp [C7]
          clear C9 hb
          go_wp2_with fail
          refine (refLetter_any _ _).mono ?_
          rintro e w' ⟨rfl, rfl⟩
          rw [C1]
          go_wp2
          go_ret
          exact ⟨by rw [HN.out]; rfl, rfl⟩
      · obtain rfl : k = s.size := by omega
        have HN : Hid (nameB (bys s) = true) := Lib.hid (nameB_good (by omega) (by omega) H3.out (fun i hi => hall.out i (by omega)))
        clear hall
        go_wp2
        go_ret
        exact ⟨by rw [HN.out]; rfl, rfl⟩
end Go.Proofs.YtcmbdhmhkfhjfaaGreat
namespace Go.Proofs.YtcmbdhmhkfhjfaaGreat
open Go.RowKit
set_option linter.unusedVariables false

structure Sc where
  wide : Bool
  signed : Bool
  swap : Bool
  mul : Int
  div : Int
  add : Int
def Sc.fits (s : Sc) : Prop := (-9223372036854775808 ≤ s.mul ∧ s.mul < 9223372036854775808) ∧ (-9223372036854775808 ≤ s.div ∧ s.div < 9223372036854775808) ∧ (-9223372036854775808 ≤ s.add ∧ s.add < 9223372036854775808)
def Sc.Ok (s : Sc) : Prop := s.mul ≠ 0 ∧ (-1000000 ≤ s.mul ∧ s.mul ≤ 1000000) ∧ (1 ≤ s.div ∧ s.div ≤ 1000000) ∧ (-1099511627776 ≤ s.add ∧ s.add ≤ 1099511627776) ∧ (s.swap = true → s.wide = true)
instance (s : Sc) : Decidable s.Ok := by unfold Sc.Ok; infer_instance
def chkS (s : Sc) : Int := if s.Ok then 0 else 25
theorem chkS_yes {s : Sc} (h : s.Ok) : chkS s = 0 := if_pos h
theorem chkS_no {s : Sc} (h : ¬ s.Ok) : chkS s = 25 := if_neg h

def many6 (s : Sc) : Int := if s.wide then 4294967296 else 65536
def lowS (s : Sc) : Int := if s.signed then -(many6 s / 2) else 0
def cntS (s : Sc) : Nat := if s.wide then 2 else 1
def baseS (s : Sc) (xs : List Int) : Int := if s.wide then (if s.swap then nth xs 1 * 65536 + nth xs 0 else nth xs 0 * 65536 + nth xs 1) else nth xs 0
def signS (s : Sc) (n : Int) : Int := if lowS s + many6 s - 1 < n then n - many6 s else n
def rawE (s : Sc) (xs : List Int) : Int := if s.Ok then (if xs.length = cntS s then 0 else 22) else 25
def rawN (s : Sc) (xs : List Int) : Int := if rawE s xs = 0 then signS s (baseS s xs) else 0
def wordsE6 (s : Sc) (n : Int) : Int := if s.Ok then (if lowS s ≤ n ∧ n ≤ lowS s + many6 s - 1 then 0 else 3) else 25
def layS (s : Sc) (n : Int) : List Int := if s.wide then (if s.swap then [n % 65536, n / 65536 % 65536] else [n / 65536 % 65536, n % 65536]) else [n % 65536]
def wordsS (s : Sc) (n : Int) : List Int := if wordsE6 s n = 0 then layS s n else []

def near (a b : Int) : Int := if a < 0 then -((2 * -a + b) / (2 * b)) else (2 * a + b) / (2 * b)
def valE (s : Sc) (n : Int) : Int := if s.Ok then (if -2147483648 ≤ n ∧ n ≤ 4294967295 then 0 else 3) else 25
def cut (v : Int) : Int := max (-1099511627776) (min v 1099511627776)
def valN (s : Sc) (n : Int) : Int := if valE s n = 0 then cut (near (n * s.mul) s.div + s.add) else 0

theorem half_pos (a b : Int) (ha : 0 ≤ a) (hb : 0 < b) : (2 * a + b) / (2 * b) = if b ≤ 2 * (a % b) then a / b + 1 else a / b := by
  have h1 := Int.emod_add_mul_ediv a b
  have h2 := Int.emod_nonneg a (by omega : b ≠ 0)
  have h3 := Int.emod_lt_of_pos a hb
  generalize a / b = q at *
  generalize a % b = r at *
  have e : 2 * b * q = 2 * (b * q) := Int.mul_assoc _ _ _
  split
  · exact ((Int.ediv_emod_unique (a := 2 * a + b) (b := 2 * b) (r := 2 * r + b - 2 * b) (q := q + 1) (by omega)).2 ⟨by rw [Int.mul_add, e]; omega, by omega, by omega⟩).1
  · exact ((Int.ediv_emod_unique (a := 2 * a + b) (b := 2 * b) (r := 2 * r + b) (q := q) (by omega)).2 ⟨by rw [e]; omega, by omega, by omega⟩).1
theorem near_ref (a b : Int) (hb : 0 < b) : near a b = if b ≤ 2 * a.tmod b then a.tdiv b + 1 else if 2 * a.tmod b ≤ -b then a.tdiv b - 1 else a.tdiv b := by
  unfold near
  by_cases ha : a < 0
  · rw [if_pos ha, half_pos _ _ (by omega) hb]
    obtain ⟨n, rfl⟩ : ∃ n : Int, a = -n := ⟨-a, by omega⟩
    rw [Int.neg_neg, Int.neg_tmod, Int.neg_tdiv, Int.tmod_eq_emod_of_nonneg (by omega), Int.tdiv_eq_ediv_of_nonneg (by omega)]
    have h2 := Int.emod_nonneg n (by omega : b ≠ 0)
    generalize n / b = q at *
    generalize n % b = r at *
    split <;> split <;> (try split) <;> omega
  · rw [if_neg ha, half_pos _ _ (by omega) hb, Int.tmod_eq_emod_of_nonneg (by omega), Int.tdiv_eq_ediv_of_nonneg (by omega)]
    have h2 := Int.emod_nonneg a (by omega : b ≠ 0)
    generalize a / b = q at *
    generalize a % b = r at *
    split <;> (try split) <;> omega
theorem near_neg (a b : Int) (hb : 0 < b) : near (-a) b = - near a b := by
  unfold near
  by_cases h0 : a = 0
  · subst h0
    have e : b / (2 * b) = 0 := Int.ediv_eq_zero_of_lt (by omega) (by omega)
    simp [e]
  · by_cases ha : a < 0
    · rw [if_neg (by omega), if_pos ha, Int.neg_neg]
    · rw [if_pos (by omega), if_neg ha, Int.neg_neg]
theorem prod_bound {n m : Int} (h1 : -2147483648 ≤ n ∧ n ≤ 4294967295) (h2 : -1000000 ≤ m ∧ m ≤ 1000000) : -4294967295000000 ≤ n * m ∧ n * m ≤ 4294967295000000 := by
  have a1 : n.natAbs ≤ 4294967295 := by omega
  have a2 : m.natAbs ≤ 1000000 := by omega
  have a3 := Nat.mul_le_mul a1 a2
  rw [← Int.natAbs_mul] at a3
  omega
theorem near_bound {a b : Int} (hb : 0 < b) (h : -4294967295000000 ≤ a ∧ a ≤ 4294967295000000) : -4294967295000000 ≤ near a b ∧ near a b ≤ 4294967295000000 := by
  have key : ∀ n : Int, 0 ≤ n → n ≤ 4294967295000000 → 0 ≤ (2 * n + b) / (2 * b) ∧ (2 * n + b) / (2 * b) ≤ 4294967295000000 := by
    intro n h0 hn
    refine ⟨Int.ediv_nonneg (by omega) (by omega), ?_⟩
    refine Int.lt_add_one_iff.1 (Int.ediv_lt_of_lt_mul (by omega) ?_)
    have : (4294967295000000 + 1) * (2 * 1) ≤ (4294967295000000 + 1) * (2 * b) := Int.mul_le_mul_of_nonneg_left (by omega) (by omega)
    by_cases hb1 : b = 1
    · subst hb1; omega
    · have h4 : (4294967295000000 + 1) * (2 * b) = 4294967295000000 * (2 * b) + 2 * b := by omega
      rw [h4]
      omega
  unfold near
  by_cases ha : a < 0
  · rw [if_pos ha]; have := key (-a) (by omega) (by omega); omega
  · rw [if_neg ha]; exact key a (by omega) (by omega) |> fun h => ⟨by omega, h.2⟩
end Go.Proofs.YtcmbdhmhkfhjfaaGreat
namespace Go.Proofs.YtcmbdhmhkfhjfaaGreat
open Go.RowKit
set_option linter.unusedVariables false

def distI (a b : Int) : Int := max a b - min a b
structure Hd where
  has : Bool
  v : Int
  t : Int
def Hd.zero : Hd := ⟨false, 0, 0⟩
abbrev Pt := Int × Int

def farB7 (d a b : Int) : Bool := decide (max d 0 < distI a b)
def dueB (q t y : Int) : Bool := decide (0 < q) && (decide (t ≤ y) && decide (q ≤ distI y t))
def toldB (d q : Int) (h : Hd) (p : Pt) : Bool := !h.has || (farB7 d p.1 h.v || dueB q h.t p.2)
def stepH (d q : Int) (h : Hd) (p : Pt) : Hd := bif toldB d q h p then ⟨true, p.1, p.2⟩ else h
def endH (d q : Int) (h : Hd) (l : List Pt) : Hd := l.foldl (stepH d q) h
def runP (d q : Int) : Hd → List Pt → List Pt
  | _, [] => []
  | h, p :: l => bif toldB d q h p then p :: runP d q (stepH d q h p) l else runP d q (stepH d q h p) l
def chkB (d q : Int) : Int := if 0 ≤ d ∧ d ≤ 1099511627776 ∧ 0 ≤ q ∧ q ≤ 1099511627776 then 0 else 26

def flP (l : List Pt) : List Int := l.flatMap fun p => [p.1, p.2]
def ptX (l : List Pt) (k : Nat) : Int := (l.getD k (0, 0)).1
def ptY (l : List Pt) (k : Nat) : Int := (l.getD k (0, 0)).2
def Pt.Ok (p : Pt) : Prop := (-9223372036854775808 ≤ p.1 ∧ p.1 < 9223372036854775808) ∧ (-9223372036854775808 ≤ p.2 ∧ p.2 < 9223372036854775808)
def Hd.Ok (h : Hd) : Prop := Pt.Ok (h.v, h.t)
end Go.Proofs.YtcmbdhmhkfhjfaaGreat
namespace Go.Proofs.YtcmbdhmhkfhjfaaGreat
open Go.RowKit
set_option linter.unusedVariables false

structure Lim where
  ul : Bool
  uh : Bool
  la : Bool
  lo : Int
  hi : Int
  hy : Int
structure Alm where
  st : Int
  wt : Bool
deriving DecidableEq
def Lim.Ok (l : Lim) : Prop := (-9223372036854775808 ≤ l.lo ∧ l.lo < 9223372036854775808) ∧ (-9223372036854775808 ≤ l.hi ∧ l.hi < 9223372036854775808) ∧ (-9223372036854775808 ≤ l.hy ∧ l.hy < 9223372036854775808)
def Alm.Ok (a : Alm) : Prop := -9223372036854775808 ≤ a.st ∧ a.st < 9223372036854775808

def beyB (v : Int) : Bool := decide (v < -1099511627776) || decide (1099511627776 < v)
def okL (l : Lim) : Bool :=
  (decide (0 ≤ l.hy) && decide (l.hy ≤ 1099511627776)) && (!beyB l.lo && !beyB l.hi) && ((l.ul || decide (l.lo = 0)) && (l.uh || decide (l.hi = 0))) && (!(l.ul && l.uh) || decide (l.hy < l.hi - l.lo))
def chkL (l : Lim) : Int := bif okL l then 0 else 27
def lowB (l : Lim) (v : Int) : Bool := l.ul && decide (v ≤ l.lo)
def highB (l : Lim) (v : Int) : Bool := l.uh && decide (l.hi ≤ v)
def backB (l : Lim) (st v : Int) : Bool := decide (st = 1) && (!l.ul || decide (l.lo + l.hy < v)) || decide (st = 2) && (!l.uh || decide (v < l.hi - l.hy))
def isSt (st : Int) : Bool := decide (st = 0) || (decide (st = 1) || decide (st = 2))
def stepA (l : Lim) (a : Alm) (v : Int) : Alm × Int :=
  bif !okL l || !isSt a.st then (a, 0)
  else bif lowB l v then bif decide (a.st = 1) then (a, 0) else (⟨1, true⟩, 1)
  else bif highB l v then bif decide (a.st = 2) then (a, 0) else (⟨2, true⟩, 2)
  else bif !backB l a.st v || (l.la && a.wt) then (a, 0) else (⟨0, a.wt⟩, 3)
def ackA (a : Alm) : Alm × Bool := bif a.wt then (⟨a.st, false⟩, true) else (a, false)

end Go.Proofs.YtcmbdhmhkfhjfaaGreat
namespace Go.Proofs.YtcmbdhmhkfhjfaaGreat
open Go.RowKit
set_option linter.unusedVariables false

def VRow (w : World) (B : Nat) (A : Option Addr) (vs : List Value) : Prop :=
  0 < vs.length → ∃ b o, A = some ⟨b, o, none⟩ ∧ b < B ∧ ∀ i v, vs[i]? = some v → w.cell? ⟨b, o + i, none⟩ = some v
theorem VRow.nil (w : World) (B : Nat) (A : Option Addr) : VRow w B A [] := fun h => absurd h (by simp)
theorem VRow.more {w : World} {B B' : Nat} {A : Option Addr} {vs : List Value} (h : VRow w B A vs) (hB : B ≤ B') : VRow w B' A vs := fun hn => by
  obtain ⟨b, o, e, hb, hc⟩ := h hn
  exact ⟨b, o, e, by omega, hc⟩
theorem VRow.below {w w' : World} {B : Nat} {A : Option Addr} {vs : List Value} (h : VRow w B A vs) (hb : Below B w w') : VRow w' B A vs := fun hn => by
  obtain ⟨b, o, e, hlt, hc⟩ := h hn
  exact ⟨b, o, e, hlt, fun i v hv => (hb.cell (p := ⟨b, o + i, none⟩) hlt).trans (hc i v hv)⟩
theorem VRow.alloc {w : World} {B : Nat} {A : Option Addr} {vs : List Value} (h : VRow w B A vs) (hB : B ≤ w.heap.size) (o : Obj) : VRow (w.alloc o) B A vs := h.below ((Below.refl _ _).alloc hB o)
theorem VRow.drewN {w : World} {B : Nat} {A : Option Addr} {vs : List Value} (h : VRow w B A vs) (n : Nat) : VRow (w.drewN n) B A vs := h
theorem VRow.of_block {w : World} {g : Nat} {t : TypeId} {fr : Nat × Nat} {cs : Array Value} (hg : w.heap[g]? = some (.cells cs t fr)) (vs : List Value) (hp : vs <+: cs.toList) : VRow w w.heap.size (some ⟨g, 0, none⟩) vs := fun hn => by
  refine ⟨g, 0, rfl, block_lt hg, fun i v hv => ?_⟩
  obtain ⟨r, hr⟩ := hp
  have hi : i < vs.length := (List.getElem?_eq_some_iff.1 hv).1
  rw [Nat.zero_add, cell_of_row w g i _ _ _ hg, ← Array.getElem?_toList, ← hr, List.getElem?_append_left hi, hv]
theorem VRow.new (w : World) (t : TypeId) (vs : List Value) : VRow (w.alloc (.cells vs.toArray t)) (w.alloc (.cells vs.toArray t)).heap.size (some ⟨w.heap.size, 0, none⟩) vs :=
  VRow.of_block (heap_alloc_new w _) vs (by simp)
theorem VRow.front {w : World} {B : Nat} {A : Option Addr} {vs ws : List Value} (h : VRow w B A vs) (hp : ws <+: vs) : VRow w B A ws := fun hn => by
  obtain ⟨r, rfl⟩ := hp
  obtain ⟨b, o, e, hb, hc⟩ := h (by rw [List.length_append]; omega)
  exact ⟨b, o, e, hb, fun i v hv => hc i v (by rw [List.getElem?_append_left (List.getElem?_eq_some_iff.1 hv).1]; exact hv)⟩
theorem VRow.of_own {w : World} {base size n : Nat} {e : TypeId} {v : Value} {xs : List Value} (h : w.ownsRow base e size v n xs) :
    ∃ A c, v = .slice A n c ∧ VRow w w.heap.size A xs ∧ n ≤ c ∧ c ≤ maxLen := by
  obtain ⟨hl, ⟨rfl, rfl⟩ | ⟨g, cap, cur, rfl, h1, h2, h3, h4, h5, h6⟩⟩ := h
  · have hx : xs = [] := List.eq_nil_of_length_eq_zero (by simpa using hl)
    subst hx
    exact ⟨none, 0, rfl, VRow.nil _ _ _, Nat.le_refl _, Nat.zero_le _⟩
  · exact ⟨_, cap, rfl, VRow.of_block h2 xs (by rw [← h6]; exact List.take_prefix _ _), h3, h4⟩

theorem rangeB {w : World} {g : Nat} {cs : List Value} {t : TypeId} (h : w.heap[g]? = some (.cells cs.toArray t (0, 0))) : w.rangeAt g 0 cs := fun j v hv => by
  rw [Nat.zero_add, cell_of_row w g j _ _ _ h, ← hv]; simp
section
variable {α : Type} {C : α → List Value} {k : Nat}
def flatV (C : α → List Value) (l : List α) : List Value := l.flatMap C
theorem flatV_cons (a : α) (l : List α) : flatV C (a :: l) = C a ++ flatV C l := rfl
theorem flatV_append (l m : List α) : flatV C (l ++ m) = flatV C l ++ flatV C m := by simp [flatV]
theorem flatV_one (a : α) : flatV C [a] = C a := by simp [flatV]
variable (hC : ∀ a, (C a).length = k)
include hC
theorem flatV_len (l : List α) : (flatV C l).length = l.length * k := by
  induction l with
  | nil => simp [flatV]
  | cons a l ih => rw [flatV_cons, List.length_append, ih, hC, List.length_cons, Nat.succ_mul]; omega
theorem flatV_get (l : List α) (i : Nat) (h : i < l.length) (j : Nat) (hj : j < k) : (flatV C l)[i * k + j]? = (C l[i])[j]? := by
  induction l generalizing i with
  | nil => simp at h
  | cons a l ih =>
    rw [flatV_cons]
    cases i with
    | zero => rw [Nat.zero_mul, Nat.zero_add, List.getElem?_append_left (by rw [hC]; exact hj)]; rfl
    | succ i =>
      rw [show (i + 1) * k + j = k + (i * k + j) by rw [Nat.succ_mul]; omega]
      rw [List.getElem?_append_right (by rw [hC]; omega), hC, Nat.add_sub_cancel_left]
      exact ih i (by simpa using h)
theorem VRow.elem {w : World} {B : Nat} {A : Option Addr} {l : List α} (h : VRow w B A (flatV C l)) (hk : 0 < k) {i : Nat} (hi : i < l.length) :
    ∃ b o, A = some ⟨b, o, none⟩ ∧ b < B ∧ ∀ j v, (C l[i])[j]? = some v → w.cell? ⟨b, o + i * k + j, none⟩ = some v := by
  have hpos : 0 < (flatV C l).length := by rw [flatV_len hC]; exact Nat.mul_pos (by omega) hk
  obtain ⟨b, o, e, hb, hc⟩ := h hpos
  refine ⟨b, o, e, hb, fun j v hv => ?_⟩
  have hj : j < k := by have := (List.getElem?_eq_some_iff.1 hv).1; rw [hC] at this; exact this
  rw [Nat.add_assoc]
  exact hc _ _ (by rw [flatV_get hC l i hi j hj]; exact hv)
theorem VRow.range {w : World} {B : Nat} {A : Option Addr} {l : List α} (h : VRow w B A (flatV C l)) (hk : 0 < k) {i : Nat} (hi : i < l.length) :
    ∃ b o, A = some ⟨b, o, none⟩ ∧ b < B ∧ w.rangeAt b (o + i * k) (C l[i]) := h.elem hC hk hi
end

def setL (arr : Array Value) (p : Nat) : List Value → Array Value
  | [] => arr
  | v :: vs => setL (arr.setIfInBounds p v) (p + 1) vs
theorem setL_size (arr : Array Value) (p : Nat) (vs : List Value) : (setL arr p vs).size = arr.size := by
  induction vs generalizing arr p with
  | nil => rfl
  | cons v vs ih => rw [setL, ih]; simp
theorem setL_get (arr : Array Value) (p : Nat) (vs : List Value) (i : Nat) (h : i < p) : (setL arr p vs)[i]? = arr[i]? := by
  induction vs generalizing arr p with
  | nil => rfl
  | cons v vs ih => rw [setL, ih _ _ (by omega), Array.getElem?_setIfInBounds_ne (by omega)]
theorem setL_at (arr : Array Value) (p : Nat) (vs : List Value) (j : Nat) (v : Value) (hv : vs[j]? = some v) (h : p + j < arr.size) : (setL arr p vs)[p + j]? = some v := by
  induction vs generalizing arr p j with
  | nil => simp at hv
  | cons u vs ih =>
    rw [setL]
    cases j with
    | zero =>
      rw [setL_get _ _ _ _ (by omega)]
      simp only [List.getElem?_cons_zero, Option.some.injEq] at hv
      subst hv
      simp only [Nat.add_zero] at h ⊢
      simp [h]
    | succ j =>
      rw [show p + (j + 1) = p + 1 + j by omega]
      exact ih _ _ j (by simpa using hv) (by simp; omega)
end Go.Proofs.YtcmbdhmhkfhjfaaGreat
namespace Go.Proofs.YtcmbdhmhkfhjfaaGreat
open Go.RowKit
set_option linter.unusedVariables false

structure Tg where
  nm : ByteArray
  un : Int
  ki : Int
  ad : Int
  ev : Int
  we : Bool
  sg : Bool
  sw : Bool
  mu : Int
  di : Int
  aa : Int
  de : Int
  qu : Int
  ul : Bool
  uh : Bool
  la : Bool
  lo : Int
  hi : Int
  hy : Int
def Tg.Ok (t : Tg) : Prop := t.nm.size ≤ maxLen ∧ ((-9223372036854775808 ≤ t.un ∧ t.un < 9223372036854775808) ∧ (-9223372036854775808 ≤ t.ki ∧ t.ki < 9223372036854775808) ∧ (-9223372036854775808 ≤ t.ad ∧ t.ad < 9223372036854775808) ∧ (-9223372036854775808 ≤ t.ev ∧ t.ev < 9223372036854775808)) ∧ ((-9223372036854775808 ≤ t.mu ∧ t.mu < 9223372036854775808) ∧ (-9223372036854775808 ≤ t.di ∧ t.di < 9223372036854775808) ∧ (-9223372036854775808 ≤ t.aa ∧ t.aa < 9223372036854775808)) ∧ ((-9223372036854775808 ≤ t.de ∧ t.de < 9223372036854775808) ∧ (-9223372036854775808 ≤ t.qu ∧ t.qu < 9223372036854775808)) ∧ ((-9223372036854775808 ≤ t.lo ∧ t.lo < 9223372036854775808) ∧ (-9223372036854775808 ≤ t.hi ∧ t.hi < 9223372036854775808) ∧ (-9223372036854775808 ≤ t.hy ∧ t.hy < 9223372036854775808))
def Tg.sc (t : Tg) : Sc := ⟨t.we, t.sg, t.sw, t.mu, t.di, t.aa⟩
def Tg.li (t : Tg) : Lim := ⟨t.ul, t.uh, t.la, t.lo, t.hi, t.hy⟩
def tgC : Tg → List Value | ⟨nm, un, ki, ad, ev, we, sg, sw, mu, di, aa, de, qu, ul, uh, la, lo, hi, hy⟩ => [.string nm, .int .i64 un, .int .i64 ki, .int .i64 ad, .int .i64 ev, .bool we, .bool sg, .bool sw, .int .i64 mu, .int .i64 di, .int .i64 aa, .int .i64 de, .int .i64 qu, .bool ul, .bool uh, .bool la, .int .i64 lo, .int .i64 hi, .int .i64 hy]
def tgV (t : Tg) : Value := .agg (tgC t).toArray
theorem tgC_len (t : Tg) : (tgC t).length = 19 := rfl

def widT (t : Tg) : Int := bif (decide (t.ki = 3) || decide (t.ki = 4)) && t.we then 2 else 1
theorem widT_le (t : Tg) : 1 ≤ widT t ∧ widT t ≤ 2 := by
  unfold widT; cases (decide (t.ki = 3) || decide (t.ki = 4)) && t.we <;> simp
def bitS (t : Tg) : Bool := (!t.we && (!t.sg && !t.sw)) && (decide (t.mu = 1) && (decide (t.di = 1) && decide (t.aa = 0)))
def chkT (t : Tg) : Int :=
  bif !nameB (bys t.nm) then 8
  else bif decide (t.un < 1) || decide (t.un > 247) then 24
  else bif decide (t.ki < 1) || decide (t.ki > 4) then 28
  else bif decide (t.ad < 0) || decide (t.ad > 65536 - widT t) then 21
  else bif decide (t.ev < 1) || decide (t.ev > 1048576) then 3
  else bif !decide (t.sc.Ok) then 25
  else bif decide (t.ki ≤ 2) && !bitS t then 25
  else bif !decide (chkB t.de t.qu = 0) then 26
  else chkL t.li
theorem chkB_two (d q : Int) : chkB d q = 0 ∨ chkB d q = 26 := by unfold chkB; split <;> simp
theorem tag_cases (t : Tg) (P : Prop)
    (c1 : nameB (bys t.nm) = false → chkT t = 8 → P)
    (c2 : nameB (bys t.nm) = true → t.un < 1 → chkT t = 24 → P)
    (c3 : nameB (bys t.nm) = true → ¬ t.un < 1 → t.un > 247 → chkT t = 24 → P)
    (c4 : nameB (bys t.nm) = true → ¬ t.un < 1 → ¬ t.un > 247 → t.ki < 1 → chkT t = 28 → P)
    (c5 : nameB (bys t.nm) = true → ¬ t.un < 1 → ¬ t.un > 247 → ¬ t.ki < 1 → t.ki > 4 → chkT t = 28 → P)
    (c6 : nameB (bys t.nm) = true → ¬ t.un < 1 → ¬ t.un > 247 → ¬ t.ki < 1 → ¬ t.ki > 4 → t.ad < 0 → chkT t = 21 → P)
    (c7 : nameB (bys t.nm) = true → ¬ t.un < 1 → ¬ t.un > 247 → ¬ t.ki < 1 → ¬ t.ki > 4 → ¬ t.ad < 0 → t.ad > 65536 - widT t → chkT t = 21 → P)
    (c8 : nameB (bys t.nm) = true → ¬ t.un < 1 → ¬ t.un > 247 → ¬ t.ki < 1 → ¬ t.ki > 4 → ¬ t.ad < 0 → ¬ t.ad > 65536 - widT t → t.ev < 1 → chkT t = 3 → P)
    (c9 : nameB (bys t.nm) = true → ¬ t.un < 1 → ¬ t.un > 247 → ¬ t.ki < 1 → ¬ t.ki > 4 → ¬ t.ad < 0 → ¬ t.ad > 65536 - widT t → ¬ t.ev < 1 → t.ev > 1048576 → chkT t = 3 → P)
    (c10 : nameB (bys t.nm) = true → ¬ t.un < 1 → ¬ t.un > 247 → ¬ t.ki < 1 → ¬ t.ki > 4 → ¬ t.ad < 0 → ¬ t.ad > 65536 - widT t → ¬ t.ev < 1 → ¬ t.ev > 1048576 → chkS t.sc = 25 → chkT t = 25 → P)
    (c11 : nameB (bys t.nm) = true → ¬ t.un < 1 → ¬ t.un > 247 → ¬ t.ki < 1 → ¬ t.ki > 4 → ¬ t.ad < 0 → ¬ t.ad > 65536 - widT t → ¬ t.ev < 1 → ¬ t.ev > 1048576 → chkS t.sc = 0 → t.ki ≤ 2 → bitS t = false → chkT t = 25 → P)
    (c12 : nameB (bys t.nm) = true → ¬ t.un < 1 → ¬ t.un > 247 → ¬ t.ki < 1 → ¬ t.ki > 4 → ¬ t.ad < 0 → ¬ t.ad > 65536 - widT t → ¬ t.ev < 1 → ¬ t.ev > 1048576 → chkS t.sc = 0 → (¬ t.ki ≤ 2 ∨ bitS t = true) → chkB t.de t.qu = 26 → chkT t = 26 → P)
    (c13 : nameB (bys t.nm) = true → ¬ t.un < 1 → ¬ t.un > 247 → ¬ t.ki < 1 → ¬ t.ki > 4 → ¬ t.ad < 0 → ¬ t.ad > 65536 - widT t → ¬ t.ev < 1 → ¬ t.ev > 1048576 → chkS t.sc = 0 → (¬ t.ki ≤ 2 ∨ bitS t = true) → chkB t.de t.qu = 0 → chkT t = chkL t.li → P) : P := by
  unfold chkT at c1 c2 c3 c4 c5 c6 c7 c8 c9 c10 c11 c12 c13
  cases h1 : nameB (bys t.nm)
  · exact c1 h1 (by simp [h1])
  by_cases h2 : t.un < 1
  · exact c2 h1 h2 (by simp [h1, h2])
  by_cases h3 : t.un > 247
  · exact c3 h1 h2 h3 (by simp [h1, h2, h3])
  by_cases h4 : t.ki < 1
  · exact c4 h1 h2 h3 h4 (by simp [h1, h2, h3, h4])
  by_cases h5 : t.ki > 4
  · exact c5 h1 h2 h3 h4 h5 (by simp [h1, h2, h3, h4, h5])
  by_cases h6 : t.ad < 0
  · exact c6 h1 h2 h3 h4 h5 h6 (by simp [h1, h2, h3, h4, h5, h6])
  by_cases h7 : t.ad > 65536 - widT t
  · exact c7 h1 h2 h3 h4 h5 h6 h7 (by simp [h1, h2, h3, h4, h5, h6, h7])
  by_cases h8 : t.ev < 1
  · exact c8 h1 h2 h3 h4 h5 h6 h7 h8 (by simp [h1, h2, h3, h4, h5, h6, h7, h8])
  by_cases h9 : t.ev > 1048576
  · exact c9 h1 h2 h3 h4 h5 h6 h7 h8 h9 (by simp [h1, h2, h3, h4, h5, h6, h7, h8, h9])
  by_cases h10 : t.sc.Ok
  case neg => exact c10 h1 h2 h3 h4 h5 h6 h7 h8 h9 (chkS_no h10) (by simp [h1, h2, h3, h4, h5, h6, h7, h8, h9, h10])
  have hs := chkS_yes h10
  by_cases h11 : t.ki ≤ 2 ∧ bitS t = false
  · exact c11 h1 h2 h3 h4 h5 h6 h7 h8 h9 hs h11.1 h11.2 (by simp [h1, h2, h3, h4, h5, h6, h7, h8, h9, h10, h11])
  have h12 : (decide (t.ki ≤ 2) && !bitS t) = false := by
    by_cases h : t.ki ≤ 2
    · cases hb : bitS t
      · exact absurd ⟨h, hb⟩ h11
      · simp
    · simp [h]
  have h13 : ¬ t.ki ≤ 2 ∨ bitS t = true := by
    by_cases h : t.ki ≤ 2
    · cases hb : bitS t
      · exact absurd ⟨h, hb⟩ h11
      · exact .inr rfl
    · exact .inl h
  rcases chkB_two t.de t.qu with hb | hb
  · exact c13 h1 h2 h3 h4 h5 h6 h7 h8 h9 hs h13 hb (by simp only [h1, decide_eq_false h2, decide_eq_false h3, decide_eq_false h4, decide_eq_false h5, decide_eq_false h6, decide_eq_false h7, decide_eq_false h8, decide_eq_false h9, decide_eq_true h10, h12, hb]; rfl)
  · exact c12 h1 h2 h3 h4 h5 h6 h7 h8 h9 hs h13 hb (by simp only [h1, decide_eq_false h2, decide_eq_false h3, decide_eq_false h4, decide_eq_false h5, decide_eq_false h6, decide_eq_false h7, decide_eq_false h8, decide_eq_false h9, decide_eq_true h10, h12, hb]; rfl)
theorem bitS_no {t : Tg} (h : bitS t = false) : t.we = true ∨ t.sg = true ∨ t.sw = true ∨ t.mu ≠ 1 ∨ t.di ≠ 1 ∨ t.aa ≠ 0 := by
  unfold bitS at h
  simp only [Bool.and_eq_false_iff, Bool.not_eq_false', decide_eq_false_iff_not] at h
  rcases h with (h | h | h) | h | h | h
  · exact .inl h
  · exact .inr (.inl h)
  · exact .inr (.inr (.inl h))
  · exact .inr (.inr (.inr (.inl h)))
  · exact .inr (.inr (.inr (.inr (.inl h))))
  · exact .inr (.inr (.inr (.inr (.inr h))))
theorem bitS_yes {t : Tg} (h : bitS t = true) : t.we = false ∧ t.sg = false ∧ t.sw = false ∧ t.mu = 1 ∧ t.di = 1 ∧ t.aa = 0 := by
  unfold bitS at h
  simp only [Bool.and_eq_true, Bool.not_eq_true', decide_eq_true_eq] at h
  obtain ⟨⟨h1, h2, h3⟩, h4, h5, h6⟩ := h
  exact ⟨h1, h2, h3, h4, h5, h6⟩

def badN (p t : Tg) : Int := bif t.nm.toList == p.nm.toList then 7 else bif Op.bytesLess t.nm.toList p.nm.toList then 29 else 0
def badT (p : Option Tg) (t : Tg) : Int := bif !decide (chkT t = 0) then chkT t else match p with | none => 0 | some p => badN p t
def ahead (l : List Tg) (i : Nat) : Option Tg := match i with | 0 => none | j + 1 => l[j]?
def badAt (l : List Tg) (i : Nat) : Int := match l[i]? with | none => 0 | some t => badT (ahead l i) t
def chkAll (l : List Tg) : Int × Int := if 64 < l.length then (34, 0) else match (List.range l.length).find? (fun i => !decide (badAt l i = 0)) with | some i => (badAt l i, (i : Int)) | none => (0, 0)
theorem chkAll_many {l : List Tg} (h : 64 < l.length) : chkAll l = (34, 0) := if_pos h
theorem chkAll_at {l : List Tg} (h : ¬ 64 < l.length) {k : Nat} {e : Int} (hk : k < l.length) (he : badAt l k = e) (hne : e ≠ 0) (hb : ∀ j, j < k → badAt l j = 0) : chkAll l = (e, (k : Int)) := by
  unfold chkAll
  rw [if_neg h]
  have : (List.range l.length).find? (fun i => !decide (badAt l i = 0)) = some k := by
    rw [List.find?_range_eq_some]
    refine ⟨by simp [he, hne], List.mem_range.2 hk, fun j hj => by simp [hb j hj]⟩
  rw [this]
  simp only [he]
theorem chkAll_none {l : List Tg} (h : ¬ 64 < l.length) (hb : ∀ j, j < l.length → badAt l j = 0) : chkAll l = (0, 0) := by
  unfold chkAll
  rw [if_neg h]
  have : (List.range l.length).find? (fun i => !decide (badAt l i = 0)) = none := by
    rw [List.find?_range_eq_none]
    exact fun j hj => by simp [hb j hj]
  rw [this]
theorem badAt_first {l : List Tg} (h : 0 < l.length) : badAt l 0 = chkT l[0] := by
  simp only [badAt, List.getElem?_eq_getElem h, ahead, badT]
  by_cases hc : chkT l[0] = 0 <;> simp [hc]
theorem badAt_chk {l : List Tg} {k : Nat} (h : k < l.length) (hc : chkT l[k] ≠ 0) : badAt l k = chkT l[k] := by
  simp only [badAt, List.getElem?_eq_getElem h, badT]
  simp [hc]
theorem badAt_next {l : List Tg} {k : Nat} (h : k + 1 < l.length) (hc : chkT l[k + 1] = 0) : badAt l (k + 1) = badN l[k] l[k + 1] := by
  have h0 : l[k]? = some l[k] := List.getElem?_eq_getElem (by omega)
  simp only [badAt, List.getElem?_eq_getElem h, ahead, h0, badT]
  simp [hc]
end Go.Proofs.YtcmbdhmhkfhjfaaGreat
namespace Go.Proofs.YtcmbdhmhkfhjfaaGreat
open Go.RowKit
set_option linter.unusedVariables false

def liesB (v lo hi : Int) : Bool := decide (lo ≤ v ∧ v ≤ hi)
theorem liesB_eq {v lo hi : Int} (h : lo ≤ hi) : (v == max lo (min v hi)) = liesB v lo hi := by
  rw [liesB, Bool.eq_iff_iff, beq_iff_eq, decide_eq_true_eq]; omega
theorem chkS_eq (wd sg sw : Bool) (mu di ad : Int) : chkS (⟨wd, sg, sw, mu, di, ad⟩ : Sc) = if (!(mu == 0) && liesB mu (-1000000) 1000000 && liesB di 1 1000000 && liesB ad (-1099511627776) 1099511627776 && (!sw || wd)) = true then 0 else 25 := by
  unfold chkS Sc.Ok
  congr 1
  simp only [Bool.and_eq_true, Bool.not_eq_true', Bool.or_eq_true, liesB, decide_eq_true_eq, beq_eq_false_iff_ne, ne_eq, eq_iff_iff, and_assoc]
  cases sw <;> cases wd <;> simp

theorem bring_any (v lo hi : Int) (w : World) : Calls Tryz.prog 86 #[.int .i64 v, .int .i64 lo, .int .i64 hi] w fun e w' => e = .returned (.int .i64 (max lo (min v hi))) ∧ w' = w := by
  go_enter Tryz.func86, Tryz.ntmps86
  go_wp2
  all_goals (go_ret; refine ⟨?_, rfl⟩; show Ending.returned (Value.int .i64 _) = Ending.returned (Value.int .i64 _); congr 2; omega)
theorem lies_at {v lo hi : Int} {b : Bool} (hle : lo ≤ hi) (h : Hid (liesB v lo hi = b)) (w : World) : Calls Tryz.prog 84 #[.int .i64 v, .int .i64 lo, .int .i64 hi] w fun e w' => e = .returned (.bool b) ∧ w' = w := by
  have h2 := (liesB_eq hle).trans h.out
  have H2 := Lib.hid h2
  clear h2
  go_enter Tryz.func84, Tryz.ntmps84
  go_wp2_with (go_at_call 86; refine (bring_any _ _ _ _).mono ?_; rintro e w' ⟨rfl, rfl⟩)
  rw [H2.out]
  go_ret
  exact ⟨rfl, rfl⟩


set_option maxHeartbeats 1000000 in
theorem Check6_any (wd sg sw : Bool) (mu di ad : Int) (w : World) : Calls Tryz.prog 79 #[.agg #[.bool wd, .bool sg, .bool sw, .int .i64 mu, .int .i64 di, .int .i64 ad]] w fun e w' => e = .returned (.int .i64 (chkS (⟨wd, sg, sw, mu, di, ad⟩ : Sc))) ∧ Below w.heap.size w w' := by
  obtain ⟨c, hc⟩ : ∃ c, Hid (chkS (⟨wd, sg, sw, mu, di, ad⟩ : Sc) = c) := ⟨_, Lib.hid rfl⟩
  rw [hc.out]
  have hc2 := hc.out
  rw [chkS_eq] at hc2
  obtain ⟨b0, h0⟩ : ∃ b, Hid ((mu == 0) = b) := ⟨_, Lib.hid rfl⟩
  obtain ⟨b1, h1⟩ : ∃ b, Hid (liesB mu (-1000000) 1000000 = b) := ⟨_, Lib.hid rfl⟩
  obtain ⟨b2, h2⟩ : ∃ b, Hid (liesB di 1 1000000 = b) := ⟨_, Lib.hid rfl⟩
  obtain ⟨b3, h3⟩ : ∃ b, Hid (liesB ad (-1099511627776) 1099511627776 = b) := ⟨_, Lib.hid rfl⟩
  rw [h0.out, h1.out, h2.out, h3.out] at hc2
  have HC := Lib.hid hc2
  have t0 := h0.out
  have bel := bel_alloc w (.cells #[.bool wd, .bool sg, .bool sw, .int .i64 mu, .int .i64 di, .int .i64 ad] 45)
  clear hc2 hc h0
  cases b0
  case true =>
    have HC2 : Hid (c = 25) := Lib.hid (by rw [← HC.out]; rfl)
    go_enter Tryz.func79, Tryz.ntmps79
    go_wp2
    go_ret
    exact ⟨by rw [HC2.out]; rfl, bel⟩
  case false =>
  cases b1
  case false =>
    have HC2 : Hid (c = 25) := Lib.hid (by rw [← HC.out]; rfl)
    go_enter Tryz.func79, Tryz.ntmps79
    go_wp2_with (go_at_call 84; refine (lies_at (by omega) h1 _).mono ?_; rintro e w' ⟨rfl, rfl⟩)
    go_ret
    exact ⟨by rw [HC2.out]; rfl, bel⟩
  case true =>
  cases b2
  case false =>
    have HC2 : Hid (c = 25) := Lib.hid (by rw [← HC.out]; rfl)
    go_enter Tryz.func79, Tryz.ntmps79
    go_wp2_with (go_at_call 84; (with_reducible first | refine (lies_at (by omega) h1 _).mono ?_ | refine (lies_at (by omega) h2 _).mono ?_); rintro e w' ⟨rfl, rfl⟩)
    go_ret
    exact ⟨by rw [HC2.out]; rfl, bel⟩
  case true =>
  cases b3
  case false =>
    have HC2 : Hid (c = 25) := Lib.hid (by rw [← HC.out]; rfl)
    go_enter Tryz.func79, Tryz.ntmps79
    go_wp2_with (go_at_call 84; (with_reducible first | refine (lies_at (by omega) h1 _).mono ?_ | refine (lies_at (by omega) h2 _).mono ?_ | refine (lies_at (by omega) h3 _).mono ?_); rintro e w' ⟨rfl, rfl⟩)
    go_ret
    exact ⟨by rw [HC2.out]; rfl, bel⟩
  case true =>
  cases sw
  case false =>
    have HC2 : Hid (c = 0) := Lib.hid (by rw [← HC.out]; rfl)
    go_enter Tryz.func79, Tryz.ntmps79
    go_wp2_with (go_at_call 84; (with_reducible first | refine (lies_at (by omega) h1 _).mono ?_ | refine (lies_at (by omega) h2 _).mono ?_ | refine (lies_at (by omega) h3 _).mono ?_); rintro e w' ⟨rfl, rfl⟩)
    go_ret
    exact ⟨by rw [HC2.out]; rfl, bel⟩
  case true =>
  cases wd
  all_goals
    go_enter Tryz.func79, Tryz.ntmps79
    go_wp2_with (go_at_call 84; (with_reducible first | refine (lies_at (by omega) h1 _).mono ?_ | refine (lies_at (by omega) h2 _).mono ?_ | refine (lies_at (by omega) h3 _).mono ?_); rintro e w' ⟨rfl, rfl⟩)
    go_ret
    exact ⟨by rw [← HC.out]; rfl, bel⟩
end Go.Proofs.YtcmbdhmhkfhjfaaGreat
namespace Go.Proofs.YtcmbdhmhkfhjfaaGreat
open Go.RowKit
set_option linter.unusedVariables false

theorem Many_any (wd sg sw : Bool) (mu di ad : Int) (w : World) : Calls Tryz.prog 96 #[.agg #[.bool wd, .bool sg, .bool sw, .int .i64 mu, .int .i64 di, .int .i64 ad]] w fun e w' => e = .returned (.int .i64 (many6 (⟨wd, sg, sw, mu, di, ad⟩ : Sc))) ∧ Below w.heap.size w w' := by
  have bel := bel_alloc w (.cells #[.bool wd, .bool sg, .bool sw, .int .i64 mu, .int .i64 di, .int .i64 ad] 45)
  cases wd
  all_goals
    go_enter Tryz.func96, Tryz.ntmps96
    go_wp2
    go_ret
    exact ⟨rfl, bel⟩

set_option maxHeartbeats 1000000 in
theorem refCheck6_any (wd sg sw : Bool) (mu di ad : Int) (w : World) : Calls Tryz.prog 88 #[.agg #[.bool wd, .bool sg, .bool sw, .int .i64 mu, .int .i64 di, .int .i64 ad]] w fun e w' => e = .returned (.int .i64 (chkS (⟨wd, sg, sw, mu, di, ad⟩ : Sc))) ∧ Below w.heap.size w w' := by
  obtain ⟨c, hc⟩ : ∃ c, Hid (chkS (⟨wd, sg, sw, mu, di, ad⟩ : Sc) = c) := ⟨_, Lib.hid rfl⟩
  rw [hc.out]
  have bel := bel_alloc w (.cells #[.bool wd, .bool sg, .bool sw, .int .i64 mu, .int .i64 di, .int .i64 ad] 45)
  have no : ¬ Sc.Ok (⟨wd, sg, sw, mu, di, ad⟩ : Sc) → Hid (c = 25) := fun h => Lib.hid (by rw [← hc.out]; exact chkS_no h)
  by_cases g0 : mu = 0
  · have HC := no (fun h => h.1 g0)
    have t0 : (mu == 0) = true := beq_iff_eq.2 g0
    clear no hc g0
    go_enter Tryz.func88, Tryz.ntmps88
    go_wp2
    go_ret
    exact ⟨by rw [HC.out]; rfl, bel⟩
  have t0 : (mu == 0) = false := beq_false_of_ne g0
  by_cases g1 : mu < -1000000
  · have HC := no (fun h => by have := h.2.1.1; simp only at this; omega)
    clear no hc g0
    go_enter Tryz.func88, Tryz.ntmps88
    go_wp2
    go_ret
    exact ⟨by rw [HC.out]; rfl, bel⟩
  by_cases g2 : 1000000 < mu
  · have HC := no (fun h => by have := h.2.1.2; simp only at this; omega)
    clear no hc g0
    go_enter Tryz.func88, Tryz.ntmps88
    go_wp2
    go_ret
    exact ⟨by rw [HC.out]; rfl, bel⟩
  by_cases g3 : di < 1
  · have HC := no (fun h => by have := h.2.2.1.1; simp only at this; omega)
    clear no hc g0
    go_enter Tryz.func88, Tryz.ntmps88
    go_wp2
    go_ret
    exact ⟨by rw [HC.out]; rfl, bel⟩
  by_cases g4 : 1000000 < di
  · have HC := no (fun h => by have := h.2.2.1.2; simp only at this; omega)
    clear no hc g0
    go_enter Tryz.func88, Tryz.ntmps88
    go_wp2
    go_ret
    exact ⟨by rw [HC.out]; rfl, bel⟩
  by_cases g5 : ad < -1099511627776
  · have HC := no (fun h => by have := h.2.2.2.1.1; simp only at this; omega)
    clear no hc g0
    go_enter Tryz.func88, Tryz.ntmps88
    go_wp2
    go_ret
    exact ⟨by rw [HC.out]; rfl, bel⟩
  by_cases g6 : 1099511627776 < ad
  · have HC := no (fun h => by have := h.2.2.2.1.2; simp only at this; omega)
    clear no hc g0
    go_enter Tryz.func88, Tryz.ntmps88
    go_wp2
    go_ret
    exact ⟨by rw [HC.out]; rfl, bel⟩
  have yes : (sw = true → wd = true) → Hid (c = 0) := fun h => Lib.hid (by rw [← hc.out]; exact chkS_yes ⟨g0, ⟨by simp only; omega, by simp only; omega⟩, ⟨by simp only; omega, by simp only; omega⟩, ⟨by simp only; omega, by simp only; omega⟩, h⟩)
  cases sw
  · have HC := yes (fun h => by cases h)
    clear no yes hc g0
    go_enter Tryz.func88, Tryz.ntmps88
    go_wp2
    go_ret
    exact ⟨by rw [HC.out]; rfl, bel⟩
  cases wd
  · have HC := no (fun h => by have := h.2.2.2.2; simp at this)
    clear no yes hc g0
    go_enter Tryz.func88, Tryz.ntmps88
    go_wp2
    go_ret
    exact ⟨by rw [HC.out]; rfl, bel⟩
  · have HC := yes (fun h => rfl)
    clear no yes hc g0
    go_enter Tryz.func88, Tryz.ntmps88
    go_wp2
    go_ret
    exact ⟨by rw [HC.out]; rfl, bel⟩
end Go.Proofs.YtcmbdhmhkfhjfaaGreat
namespace Go.Proofs.YtcmbdhmhkfhjfaaGreat
open Go.RowKit
set_option linter.unusedVariables false

end Go.Proofs.YtcmbdhmhkfhjfaaGreat
namespace Go.Proofs.YtcmbdhmhkfhjfaaGreat
open Go.RowKit
set_option linter.unusedVariables false

def Four (w0 : World) (a b c d : Obj) (w : World) : Prop :=
  w.heap[w0.heap.size]? = some a ∧ w.heap[w0.heap.size + 1]? = some b ∧ w.heap[w0.heap.size + 1 + 1]? = some c ∧ w.heap[w0.heap.size + 1 + 1 + 1]? = some d ∧ w0.heap.size + 4 ≤ w.heap.size ∧ Below w0.heap.size w0 w
theorem Four.new (w : World) (a b c d : Obj) : Four w a b c d ((((w.alloc a).alloc b).alloc c).alloc d) := by
  have s1 : (w.alloc a).heap.size = w.heap.size + 1 := by simp
  have s2 : ((w.alloc a).alloc b).heap.size = w.heap.size + 1 + 1 := by simp
  have s3 : (((w.alloc a).alloc b).alloc c).heap.size = w.heap.size + 1 + 1 + 1 := by simp
  refine ⟨?_, ?_, ?_, ?_, by simp, (((bel_alloc w a).alloc (by simp) b).alloc (by simp; omega) c).alloc (by simp; omega) d⟩
  · exact (heap_alloc_old _ _ (by omega)).trans ((heap_alloc_old _ _ (by omega)).trans ((heap_alloc_old _ _ (by omega)).trans (heap_alloc_new _ _)))
  · rw [← s1]; exact (heap_alloc_old _ _ (by omega)).trans ((heap_alloc_old _ _ (by omega)).trans (heap_alloc_new _ _))
  · rw [← s2]; exact (heap_alloc_old _ _ (by omega)).trans (heap_alloc_new _ _)
  · rw [← s3]; exact heap_alloc_new _ _
theorem Four.below {w0 w w' : World} {a b c d : Obj} (h : Four w0 a b c d w) (hb : Below w.heap.size w w') : Four w0 a b c d w' := by
  obtain ⟨h1, h2, h3, h4, h5, h6⟩ := h
  exact ⟨(hb.block _ (by omega)).trans h1, (hb.block _ (by omega)).trans h2, (hb.block _ (by omega)).trans h3, (hb.block _ (by omega)).trans h4, by have := hb.size; omega, h6.trans (hb.mono (by omega))⟩
theorem Four.bel {w0 w : World} {a b c d : Obj} (h : Four w0 a b c d w) : Below w0.heap.size w0 w := h.2.2.2.2.2
theorem Four.set {w0 w : World} {a b c : Obj} {cs : Array Value} {t : TypeId} (h : Four w0 a b c (.cells cs t (0, 0)) w) (i : Nat) (v : Value) : Four w0 a b c (.cells (cs.setIfInBounds i v) t (0, 0)) (w.setCell ⟨w0.heap.size + 1 + 1 + 1, i, none⟩ v) := by
  obtain ⟨h1, h2, h3, h4, h5, h6⟩ := h
  refine ⟨(Below.heap_setCell w _ v _ (by simp only [ne_eq]; omega)).trans h1, (Below.heap_setCell w _ v _ (by simp only [ne_eq]; omega)).trans h2, (Below.heap_setCell w _ v _ (by simp only [ne_eq]; omega)).trans h3, box_set h4 i v, by simpa [World.setCell] using h5, below_setCell h6 (by omega) i v⟩
def putH (w : World) (g : Nat) (a b c : Value) : World := ((w.setCell ⟨g, 0, none⟩ a).setCell ⟨g, 1, none⟩ b).setCell ⟨g, 2, none⟩ c
theorem Four.put {w0 w : World} {a b c : Obj} {v0 v1 v2 : Value} {t : TypeId} (h : Four w0 a b c (.cells #[v0, v1, v2] t (0, 0)) w) (x y z : Value) : Four w0 a b c (.cells #[x, y, z] t (0, 0)) (putH w (w0.heap.size + 1 + 1 + 1) x y z) := ((h.set 0 x).set 1 y).set 2 z

def heldV (h : Hd) : Value := .agg #[.bool h.has, .int .i64 h.v, .int .i64 h.t]
end Go.Proofs.YtcmbdhmhkfhjfaaGreat
namespace Go.Proofs.YtcmbdhmhkfhjfaaGreat
open Go.RowKit
set_option linter.unusedVariables false

def stepV (d q : Int) (h : Hd) (p : Pt) : Value := .tuple #[heldV (stepH d q h p), .bool (toldB d q h p)]
end Go.Proofs.YtcmbdhmhkfhjfaaGreat
namespace Go.Proofs.YtcmbdhmhkfhjfaaGreat
open Go.RowKit
set_option linter.unusedVariables false

theorem chkB_ok {d q : Int} (h1 : ¬ d < 0) (h2 : ¬ d > 1099511627776) (h3 : ¬ q < 0) (h4 : ¬ q > 1099511627776) : chkB d q = 0 := by unfold chkB; rw [if_pos (by omega)]
theorem chkB_no {d q : Int} (h : d < 0 ∨ d > 1099511627776 ∨ q < 0 ∨ q > 1099511627776) : chkB d q = 26 := by unfold chkB; rw [if_neg (by omega)]
theorem chk_split (d q : Int) : (d < 0) ∨ (¬ d < 0 ∧ d > 1099511627776) ∨ (¬ d < 0 ∧ ¬ d > 1099511627776 ∧ q < 0) ∨ (¬ d < 0 ∧ ¬ d > 1099511627776 ∧ ¬ q < 0 ∧ q > 1099511627776) ∨ (¬ d < 0 ∧ ¬ d > 1099511627776 ∧ ¬ q < 0 ∧ ¬ q > 1099511627776) := by omega
theorem Check7_any (d q : Int) (w : World) : Calls Tryz.prog 130 #[.agg #[.int .i64 d, .int .i64 q]] w fun e w' => e = .returned (.int .i64 (chkB d q)) ∧ Below w.heap.size w w' := by
  rcases chk_split d q with h | ⟨h1, h⟩ | ⟨h1, h2, h⟩ | ⟨h1, h2, h3, h⟩ | ⟨h1, h2, h3, h4⟩
  case' inr.inr.inr.inr => have HC := Lib.hid (chkB_ok h1 h2 h3 h4)
  case' inr.inr.inr.inl => have HC := Lib.hid (chkB_no (d := d) (q := q) (.inr (.inr (.inr h))))
  case' inr.inr.inl => have HC := Lib.hid (chkB_no (d := d) (q := q) (.inr (.inr (.inl h))))
  case' inr.inl => have HC := Lib.hid (chkB_no (d := d) (q := q) (.inr (.inl h)))
  case' inl => have HC := Lib.hid (chkB_no (d := d) (q := q) (.inl h))
  all_goals
    rw [HC.out]
    go_enter Tryz.func130, Tryz.ntmps130
    go_wp2
    go_ret
    exact ⟨rfl, bel_alloc _ _⟩
theorem refCheck7_any (d q : Int) (w : World) : Calls Tryz.prog 89 #[.agg #[.int .i64 d, .int .i64 q]] w fun e w' => e = .returned (.int .i64 (chkB d q)) ∧ Below w.heap.size w w' := by
  rcases chk_split d q with h | ⟨h1, h⟩ | ⟨h1, h2, h⟩ | ⟨h1, h2, h3, h⟩ | ⟨h1, h2, h3, h4⟩
  case' inr.inr.inr.inr => have HC := Lib.hid (chkB_ok h1 h2 h3 h4)
  case' inr.inr.inr.inl => have HC := Lib.hid (chkB_no (d := d) (q := q) (.inr (.inr (.inr h))))
  case' inr.inr.inl => have HC := Lib.hid (chkB_no (d := d) (q := q) (.inr (.inr (.inl h))))
  case' inr.inl => have HC := Lib.hid (chkB_no (d := d) (q := q) (.inr (.inl h)))
  case' inl => have HC := Lib.hid (chkB_no (d := d) (q := q) (.inl h))
  all_goals
    rw [HC.out]
    go_enter Tryz.func89, Tryz.ntmps89
    go_wp2
    go_ret
    exact ⟨rfl, bel_alloc _ _⟩

def Three (w0 : World) (a b c : Obj) (w : World) : Prop := w.heap[w0.heap.size]? = some a ∧ w.heap[w0.heap.size + 1]? = some b ∧ w.heap[w0.heap.size + 1 + 1]? = some c ∧ Below w0.heap.size w0 w
theorem Three.new (w : World) (a b c : Obj) : Three w a b c (((w.alloc a).alloc b).alloc c) := by
  have s1 : (w.alloc a).heap.size = w.heap.size + 1 := by simp
  have s2 : ((w.alloc a).alloc b).heap.size = w.heap.size + 1 + 1 := by simp
  refine ⟨?_, ?_, ?_, ((bel_alloc w a).alloc (by simp) b).alloc (by simp; omega) c⟩
  · exact (heap_alloc_old _ _ (by omega)).trans ((heap_alloc_old _ _ (by omega)).trans (heap_alloc_new _ _))
  · rw [← s1]; exact (heap_alloc_old _ _ (by omega)).trans (heap_alloc_new _ _)
  · rw [← s2]; exact heap_alloc_new _ _

end Go.Proofs.YtcmbdhmhkfhjfaaGreat
namespace Go.Proofs.YtcmbdhmhkfhjfaaGreat
open Go.RowKit
set_option linter.unusedVariables false

theorem refBeyond_any (v : Int) (w : World) : Calls Tryz.prog 113 #[.int .i64 v] w fun e w' => e = .returned (.bool (beyB v)) ∧ w' = w := by
  by_cases h : v < -1099511627776
  · have HB : Hid (beyB v = true) := Lib.hid (by unfold beyB; simp [h])
    rw [HB.out]
    go_enter Tryz.func113, Tryz.ntmps113
    go_wp2
    go_ret
    exact ⟨rfl, rfl⟩
  · have HB : Hid (beyB v = decide (v > 1099511627776)) := Lib.hid (by unfold beyB; simp [h])
    rw [HB.out]
    go_enter Tryz.func113, Tryz.ntmps113
    go_wp2
    go_ret
    exact ⟨rfl, rfl⟩

theorem chk_cases (l : Lim) (P : Prop)
    (c1 : l.hy < 0 → chkL l = 27 → P)
    (c2 : ¬ l.hy < 0 → l.hy > 1099511627776 → chkL l = 27 → P)
    (c3 : ¬ l.hy < 0 → ¬ l.hy > 1099511627776 → beyB l.lo = true → chkL l = 27 → P)
    (c4 : ¬ l.hy < 0 → ¬ l.hy > 1099511627776 → beyB l.lo = false → beyB l.hi = true → chkL l = 27 → P)
    (c5 : ¬ l.hy < 0 → ¬ l.hy > 1099511627776 → beyB l.lo = false → beyB l.hi = false → l.ul = false → l.lo ≠ 0 → chkL l = 27 → P)
    (c6 : ¬ l.hy < 0 → ¬ l.hy > 1099511627776 → beyB l.lo = false → beyB l.hi = false → l.ul = false → l.lo = 0 → l.uh = false → l.hi ≠ 0 → chkL l = 27 → P)
    (c7 : ¬ l.hy < 0 → ¬ l.hy > 1099511627776 → beyB l.lo = false → beyB l.hi = false → l.ul = true → l.uh = false → l.hi ≠ 0 → chkL l = 27 → P)
    (c8 : ¬ l.hy < 0 → ¬ l.hy > 1099511627776 → beyB l.lo = false → beyB l.hi = false → l.ul = false → l.lo = 0 → l.uh = false → l.hi = 0 → chkL l = 0 → P)
    (c9 : ¬ l.hy < 0 → ¬ l.hy > 1099511627776 → beyB l.lo = false → beyB l.hi = false → l.ul = false → l.lo = 0 → l.uh = true → chkL l = 0 → P)
    (c10 : ¬ l.hy < 0 → ¬ l.hy > 1099511627776 → beyB l.lo = false → beyB l.hi = false → l.ul = true → l.uh = false → l.hi = 0 → chkL l = 0 → P)
    (c11 : ¬ l.hy < 0 → ¬ l.hy > 1099511627776 → beyB l.lo = false → beyB l.hi = false → l.ul = true → l.uh = true → l.hi - l.lo ≤ l.hy → chkL l = 27 → P)
    (c12 : ¬ l.hy < 0 → ¬ l.hy > 1099511627776 → beyB l.lo = false → beyB l.hi = false → l.ul = true → l.uh = true → ¬ l.hi - l.lo ≤ l.hy → chkL l = 0 → P) : P := by
  have bad : okL l = false → chkL l = 27 := fun h => by unfold chkL; rw [h]; rfl
  have good : okL l = true → chkL l = 0 := fun h => by unfold chkL; rw [h]; rfl
  by_cases h1 : l.hy < 0
  · exact c1 h1 (bad (by unfold okL; rw [decide_eq_false (show ¬ 0 ≤ l.hy by omega)]; simp))
  by_cases h2 : l.hy > 1099511627776
  · exact c2 h1 h2 (bad (by unfold okL; rw [decide_eq_false (show ¬ l.hy ≤ 1099511627776 by omega)]; simp))
  have e1 : decide (0 ≤ l.hy) = true := decide_eq_true (by omega)
  have e2 : decide (l.hy ≤ 1099511627776) = true := decide_eq_true (by omega)
  cases h3 : beyB l.lo
  case true => exact c3 h1 h2 h3 (bad (by unfold okL; rw [h3]; simp))
  cases h4 : beyB l.hi
  case true => exact c4 h1 h2 h3 h4 (bad (by unfold okL; rw [h4]; simp))
  cases h5 : l.ul <;> cases h6 : l.uh
  · by_cases h7 : l.lo = 0
    · by_cases h8 : l.hi = 0
      · exact c8 h1 h2 h3 h4 h5 h7 h6 h8 (good (by unfold okL; rw [h3, h4, h5, h6, e1, e2, h7, h8]; rfl))
      · exact c6 h1 h2 h3 h4 h5 h7 h6 h8 (bad (by unfold okL; rw [h6, decide_eq_false h8]; simp))
    · exact c5 h1 h2 h3 h4 h5 h7 (bad (by unfold okL; rw [h5, decide_eq_false h7]; simp))
  · by_cases h7 : l.lo = 0
    · exact c9 h1 h2 h3 h4 h5 h7 h6 (good (by unfold okL; rw [h3, h4, h5, h6, e1, e2, h7]; rfl))
    · exact c5 h1 h2 h3 h4 h5 h7 (bad (by unfold okL; rw [h5, decide_eq_false h7]; simp))
  · by_cases h8 : l.hi = 0
    · exact c10 h1 h2 h3 h4 h5 h6 h8 (good (by unfold okL; rw [h3, h4, h5, h6, e1, e2, h8]; rfl))
    · exact c7 h1 h2 h3 h4 h5 h6 h8 (bad (by unfold okL; rw [h6, decide_eq_false h8]; simp))
  · by_cases h9 : l.hi - l.lo ≤ l.hy
    · exact c11 h1 h2 h3 h4 h5 h6 h9 (bad (by unfold okL; rw [h5, h6, decide_eq_false (show ¬ l.hy < l.hi - l.lo by omega)]; simp))
    · exact c12 h1 h2 h3 h4 h5 h6 h9 (good (by unfold okL; rw [h3, h4, h5, h6, e1, e2, decide_eq_true (show l.hy < l.hi - l.lo by omega)]; rfl))
theorem bey_false {v : Int} (h : beyB v = false) : -1099511627776 ≤ v ∧ v ≤ 1099511627776 := by
  simp only [beyB, Bool.or_eq_false_iff, decide_eq_false_iff_not] at h; omega

set_option maxHeartbeats 4000000 in
theorem refCheck8_any (ul uh la : Bool) (lo hi hy : Int) (w : World) : Calls Tryz.prog 90 #[.agg #[.bool ul, .bool uh, .bool la, .int .i64 lo, .int .i64 hi, .int .i64 hy]] w fun e w' => e = .returned (.int .i64 (chkL ⟨ul, uh, la, lo, hi, hy⟩)) ∧ Below w.heap.size w w' := by
  have bel := bel_alloc w (.cells #[.bool ul, .bool uh, .bool la, .int .i64 lo, .int .i64 hi, .int .i64 hy] 49)
  refine chk_cases ⟨ul, uh, la, lo, hi, hy⟩ _ ?_ ?_ ?_ ?_ ?_ ?_ ?_ ?_ ?_ ?_ ?_ ?_ <;> simp only
  · intro h1 HC
    rw [HC]
    clear HC
    go_enter Tryz.func90, Tryz.ntmps90
    go_wp2
    go_ret
    exact ⟨rfl, bel⟩
  · intro h1 h2 HC
    rw [HC]
    clear HC
    go_enter Tryz.func90, Tryz.ntmps90
    go_wp2
    go_ret
    exact ⟨rfl, bel⟩
  · intro h1 h2 h3 HC
    rw [HC]
    clear HC
    go_enter Tryz.func90, Tryz.ntmps90
    go_wp2_with fail
    refine (refBeyond_any lo _).mono ?_
    rintro e w' ⟨rfl, rfl⟩
    rw [h3]
    go_wp2
    go_ret
    exact ⟨rfl, bel⟩
  · intro h1 h2 h3 h4 HC
    rw [HC]
    clear HC
    go_enter Tryz.func90, Tryz.ntmps90
    go_wp2_with fail
    refine (refBeyond_any lo _).mono ?_
    rintro e w' ⟨rfl, rfl⟩
    rw [h3]
    go_wp2_with fail
    refine (refBeyond_any hi _).mono ?_
    rintro e w' ⟨rfl, rfl⟩
    rw [h4]
    go_wp2
    go_ret
    exact ⟨rfl, bel⟩
  · intro h1 h2 h3 h4 h5 h6 HC
    rw [HC]
    clear HC
    subst h5
    go_enter Tryz.func90, Tryz.ntmps90
    go_wp2_with fail
    refine (refBeyond_any lo _).mono ?_
    rintro e w' ⟨rfl, rfl⟩
    rw [h3]
    go_wp2_with fail
    refine (refBeyond_any hi _).mono ?_
    rintro e w' ⟨rfl, rfl⟩
    rw [h4]
    go_wp2
    go_ret
    exact ⟨rfl, bel⟩
  · intro h1 h2 h3 h4 h5 h6 h7 h8 HC
    rw [HC]
    clear HC
    subst h5 h6 h7
    go_enter Tryz.func90, Tryz.ntmps90
    go_wp2_with fail
    refine (refBeyond_any 0 _).mono ?_
    rintro e w' ⟨rfl, rfl⟩
    rw [h3]
    go_wp2_with fail
    refine (refBeyond_any hi _).mono ?_
    rintro e w' ⟨rfl, rfl⟩
    rw [h4]
    go_wp2
    go_ret
    exact ⟨rfl, bel⟩
  · intro h1 h2 h3 h4 h5 h6 h7 HC
    rw [HC]
    clear HC
    subst h5 h6
    go_enter Tryz.func90, Tryz.ntmps90
    go_wp2_with fail
    refine (refBeyond_any lo _).mono ?_
    rintro e w' ⟨rfl, rfl⟩
    rw [h3]
    go_wp2_with fail
    refine (refBeyond_any hi _).mono ?_
    rintro e w' ⟨rfl, rfl⟩
    rw [h4]
    go_wp2
    go_ret
    exact ⟨rfl, bel⟩
  · intro h1 h2 h3 h4 h5 h6 h7 h8 HC
    rw [HC]
    clear HC
    subst h5 h6 h7 h8
    go_enter Tryz.func90, Tryz.ntmps90
    go_wp2_with fail
    refine (refBeyond_any 0 _).mono ?_
    rintro e w' ⟨rfl, rfl⟩
    rw [h3]
    go_wp2_with fail
    refine (refBeyond_any 0 _).mono ?_
    rintro e w' ⟨rfl, rfl⟩
    rw [h4]
    go_wp2
    go_ret
    exact ⟨rfl, bel⟩
  · intro h1 h2 h3 h4 h5 h6 h7 HC
    rw [HC]
    clear HC
    subst h5 h6 h7
    go_enter Tryz.func90, Tryz.ntmps90
    go_wp2_with fail
    refine (refBeyond_any 0 _).mono ?_
    rintro e w' ⟨rfl, rfl⟩
    rw [h3]
    go_wp2_with fail
    refine (refBeyond_any hi _).mono ?_
    rintro e w' ⟨rfl, rfl⟩
    rw [h4]
    go_wp2
    go_ret
    exact ⟨rfl, bel⟩
  · intro h1 h2 h3 h4 h5 h6 h7 HC
    rw [HC]
    clear HC
    subst h5 h6 h7
    go_enter Tryz.func90, Tryz.ntmps90
    go_wp2_with fail
    refine (refBeyond_any lo _).mono ?_
    rintro e w' ⟨rfl, rfl⟩
    rw [h3]
    go_wp2_with fail
    refine (refBeyond_any 0 _).mono ?_
    rintro e w' ⟨rfl, rfl⟩
    rw [h4]
    go_wp2
    go_ret
    exact ⟨rfl, bel⟩
  · intro h1 h2 h3 h4 h5 h6 h9 HC
    rw [HC]
    clear HC
    subst h5 h6
    have hw : IntKind.i64.wrap (hi - lo) = hi - lo := by
      have := bey_false h3
      have := bey_false h4
      rw [IntKind.wrap_i64]; omega
    go_enter Tryz.func90, Tryz.ntmps90
    go_wp2_with fail
    refine (refBeyond_any lo _).mono ?_
    rintro e w' ⟨rfl, rfl⟩
    rw [h3]
    go_wp2_with fail
    refine (refBeyond_any hi _).mono ?_
    rintro e w' ⟨rfl, rfl⟩
    rw [h4]
    go_wp2
    go_ret
    exact ⟨rfl, bel⟩
  · intro h1 h2 h3 h4 h5 h6 h9 HC
    rw [HC]
    clear HC
    subst h5 h6
    have hw : IntKind.i64.wrap (hi - lo) = hi - lo := by
      have := bey_false h3
      have := bey_false h4
      rw [IntKind.wrap_i64]; omega
    go_enter Tryz.func90, Tryz.ntmps90
    go_wp2_with fail
    refine (refBeyond_any lo _).mono ?_
    rintro e w' ⟨rfl, rfl⟩
    rw [h3]
    go_wp2_with fail
    refine (refBeyond_any hi _).mono ?_
    rintro e w' ⟨rfl, rfl⟩
    rw [h4]
    go_wp2
    go_ret
    exact ⟨rfl, bel⟩

end Go.Proofs.YtcmbdhmhkfhjfaaGreat
