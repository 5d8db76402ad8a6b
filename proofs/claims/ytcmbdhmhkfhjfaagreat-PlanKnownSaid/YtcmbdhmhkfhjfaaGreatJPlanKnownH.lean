/-
  Texts of the proof of PlanKnown, joined.
-/
import Derived.Test.YtcmbdhmhkfhjfaaGreatJPlanKnownG
import Derived.Test.YtcmbdhmhkfhjfaaGreatJPlanKnownC
import Derived.Test.YtcmbdhmhkfhjfaaGreatJPlanKnownD
import Derived.Test.YtcmbdhmhkfhjfaaGreatJPlanKnownA
import Derived.StillTailTactics
import Derived.IntWalk
import Derived.Deep.RegionHeld3
import Derived.Deep.AppendLies
import Derived.Test.YtcmbdhmhkfhjfaaGreatJPlanKnownF
import Derived.Laws.StructEq
namespace Go.Proofs.YtcmbdhmhkfhjfaaGreat
open Go.RowKit
set_option linter.unusedVariables false

theorem info_words : (Tryz.prog.info? 27).map (fun i => (i.zero, i.size, i.bytes)) = some (some (.slice none 0 0), 1, 24) := by kernel_rfl

def WOwn (w : World) (base : Nat) (v : Value) (fs : List (List Int)) : Prop :=
  ∃ L : List (List Int × Value), L.map Prod.fst = fs ∧ w.ownsRow base 27 1 v L.length (L.map Prod.snd) ∧ ∀ p ∈ L, Own .u16 58 w base p.2 p.1
theorem WOwn.nil (w : World) (base : Nat) : WOwn w base (.slice none 0 0) [] := ⟨[], rfl, World.ownsRow_nil _ _ _ _, fun p hp => by cases hp⟩
theorem Own.keep {k : IntKind} {e : TypeId} {w w' : World} {base : Nat} {v : Value} {xs : List Int} {row : Option Nat} (h : Own k e w base v xs) (hg : w.grownBy w' row) (hr : v.ownBlock = none ∨ v.ownBlock ≠ row) : Own k e w' base v xs := World.ownsRow.kept h hg hr
theorem rowW_below {w w' : World} {base B n : Nat} {v : Value} {xs : List Value} (h : w.ownsRow base 27 1 v n xs) (hb : Below B w w') (hB : w.heap.size ≤ B) : w'.ownsRow base 27 1 v n xs := by
  refine h.kept (row := none) ⟨hb.os, hb.tape, hb.output, hb.size, fun i hi _ => hb.block i (by omega)⟩ ?_
  cases hv : v.ownBlock with
  | none => exact .inl rfl
  | some g => exact .inr (by simp)
theorem WOwn.below {w w' : World} {base B : Nat} {v : Value} {fs : List (List Int)} (h : WOwn w base v fs) (hb : Below B w w') (hB : w.heap.size ≤ B) : WOwn w' base v fs := by
  obtain ⟨L, h1, h2, h3⟩ := h
  exact ⟨L, h1, rowW_below h2 hb hB, fun p hp => (h3 p hp).below hb hB⟩
theorem WOwn.block {w : World} {base : Nat} {v : Value} {fs : List (List Int)} (h : WOwn w base v fs) : ∀ g, v.ownBlock = some g → base ≤ g ∧ g < w.heap.size := by
  obtain ⟨L, h1, h2, h3⟩ := h
  exact World.ownsRow.lt h2
theorem WOwn.set {w : World} {base : Nat} {v : Value} {fs : List (List Int)} (h : WOwn w base v fs) {g : Nat} (hg : g < base) (i : Nat) (u : Value) : WOwn (w.setCell ⟨g, i, none⟩ u) base v fs := by
  obtain ⟨L, h1, h2, h3⟩ := h
  exact ⟨L, h1, h2.kept (grown_setCell (World.grownBy.refl _ _) i u) (.inr fun hv => by have := (World.ownsRow.lt h2 g hv).1; omega), fun p hp => (h3 p hp).set hg i u⟩
theorem words_far {w : World} {base base' : Nat} {v u : Value} {n : Nat} {xs : List Value} {ys : List Int} (h : w.ownsRow base 27 1 v n xs) (k : Own .u16 58 w base' u ys) : u.ownBlock = none ∨ u.ownBlock ≠ v.ownBlock := by
  rcases k.2 with ⟨rfl, _⟩ | ⟨g, cap, cur0, rfl, _, hg, _⟩
  · exact .inl rfl
  · refine .inr fun e => ?_
    rcases h.2 with ⟨rfl, _⟩ | ⟨g', cap', cur, rfl, _, hg', _⟩
    · cases e
    · have e : some g = some g' := e
      injection e with e
      subst e
      rw [hg] at hg'
      injection hg' with hg'
      injection hg' with _ ht
      exact absurd ht (by decide)
theorem WOwn.len {w : World} {base : Nat} {v : Value} {fs : List (List Int)} (h : WOwn w base v fs) : ∃ A c, v = .slice A fs.length c ∧ fs.length ≤ c := by
  obtain ⟨L, rfl, h2, h3⟩ := h
  rw [List.length_map]
  rcases h2.2 with ⟨rfl, h0⟩ | ⟨g, cap, cur, rfl, _, _, h4, _⟩
  · rw [h0]; exact ⟨none, 0, rfl, Nat.le_refl _⟩
  · exact ⟨_, cap, rfl, h4⟩
theorem WOwn.frow {w : World} {base : Nat} {A : Option Addr} {n c : Nat} {fs : List (List Int)} (h : WOwn w base (.slice A n c) fs) (hw : ∀ xs ∈ fs, ∀ x ∈ xs, (Lit.int .u16 x).wf = true) : FRow w w.heap.size A fs := by
  obtain ⟨L, rfl, h2, h3⟩ := h
  intro h0
  rw [List.length_map] at h0
  rcases h2.2 with ⟨e, h9⟩ | ⟨g, cap, cur, e, hb, hg, h4, h5, h6, h7⟩
  · omega
  · injection e with e1 e2 e3
    subst e1 e2 e3
    refine ⟨g, 0, rfl, block_lt hg, fun i hi => ?_⟩
    rw [List.length_map] at hi
    have hown := h3 _ (List.getElem_mem hi)
    have hfst : nthF (L.map Prod.fst) i = (L[i]).1 := by simp [nthF, List.getD_eq_getElem?_getD, List.getElem?_eq_getElem hi]
    obtain ⟨Ai, ci, hv, hrow, hle, _⟩ := hown.row (hw _ (List.mem_map.2 ⟨_, List.getElem_mem hi, rfl⟩))
    refine ⟨Ai, ci, ?_, by rw [hfst]; exact hrow, by rw [hfst]; exact hle⟩
    rw [Nat.zero_add, cell_of_row w g i cur _ _ hg, hfst, ← hv, ← Array.getElem?_toList]
    have : (cur.toList.take (L.length * 1))[i]? = (L.map Prod.snd)[i]? := by rw [h7]
    rw [List.getElem?_take_of_lt (by omega)] at this
    rw [this, List.getElem?_map, List.getElem?_eq_getElem hi]
    rfl

section
variable {P : Program}
theorem wpList_append_words {ops : Array Oper} {rest : List Oper} {o : Oper} {a : Act} {Q : Exit → Act → World → Prop} (w : World) (hgd : o.guard = none) (s x : Operand) (t : TypeId)
    (ho : o.op = .call { callee := .builtin .append, args := #[s, x], argTypes := #[t, t] }) (base : Nat) (ht : P.underlying t = some (.slice 27)) (hi : (P.info? 27).map (fun i => (i.zero, i.size, i.bytes)) = some (some (.slice none 0 0), 1, 24))
    (v : Value) (fs : List (List Int)) (hs : a.eval s = v) (hown : WOwn w base v fs) (ad : Addr) (c : Nat) (xs : List Int) (A : Option Addr) (m cc : Nat) (hx : a.eval x = .slice (some ad) 1 c)
    (hk : Own .u16 58 w base (.slice A m cc) xs) (hnews : ∀ j u, [Value.slice A m cc][j]? = some u → w.cell? (ad.add j) = some u) (hb : fs.length ≤ 1000000) (hbase : base ≤ w.heap.size)
    (h : ∀ v' w', WOwn w' base v' (fs ++ [xs]) → w.grownBy w' v.ownBlock → wpList P ops Q rest (a.put o.dst v') w') : wpList P ops Q (o :: rest) a w := by
  obtain ⟨i, hi1, hz, hsz, hby⟩ := info_parts hi
  obtain ⟨L, rfl, h2, h3⟩ := hown
  rw [List.length_map] at hb
  refine wpList_append_own w hgd s x t ho base 27 i _ 1 24 ht hi1 hz hsz hby rfl (by omega) v L.length (L.map Prod.snd) hs h2 ad 1 c [.slice A m cc] hx rfl hnews (by simp [Value.oneCell']) (by simp only [maxLen]; omega) (by omega) hbase fun v' w' h4 h5 _ => h v' w' ?_ h5
  refine ⟨L ++ [(xs, .slice A m cc)], by simp, ?_, fun p hp => ?_⟩
  · rw [List.map_append, List.length_append]
    exact h4
  · rcases List.mem_append.1 hp with hp | hp
    · exact (h3 p hp).keep h5 (words_far h2 (h3 p hp))
    · simp only [List.mem_singleton] at hp
      subst hp
      exact hk.keep h5 (words_far h2 hk)
end
theorem box_words (w : World) (t : TypeId) (x : Value) : ∀ j u, [x][j]? = some u → (w.alloc (.cells #[x] t)).cell? ((⟨w.heap.size, 0, none⟩ : Addr).add j) = some u := by
  intro j u hu
  rw [Go.WideShapes.add_plain, Nat.zero_add, World.cell?_alloc_at _ _ _ _ rfl]
  simpa using hu
theorem TB.set1 {w0 w : World} {B : Nat} {o2 : Obj} {cs : Array Value} {t : TypeId} (h : TB w0 B (.cells cs t (0, 0)) o2 w) (i : Nat) (v : Value) : TB w0 B (.cells (cs.setIfInBounds i v) t (0, 0)) o2 (w.setCell ⟨B, i, none⟩ v) :=
  ⟨box_set h.ret i v, (Below.heap_setCell w ⟨B, i, none⟩ v (B + 1) (by simp)).trans h.box, below_setCell h.bel (Nat.le_refl _) i v⟩
theorem TB.r4 {w0 w : World} {B : Nat} {o2 : Obj} {t : TypeId} {v0 v1 v2 v3 : Value} (h : TB w0 B (.cells #[v0, v1, v2, v3] t (0, 0)) o2 w) :
    w.cell? ⟨B, 0, none⟩ = some v0 ∧ w.cell? ⟨B, 1, none⟩ = some v1 ∧ w.cell? ⟨B, 2, none⟩ = some v2 ∧ w.cell? ⟨B, 3, none⟩ = some v3 ∧ ∀ i, w.frozen? ⟨B, i, none⟩ = false :=
  ⟨cell_of_row w B 0 _ _ _ h.ret, cell_of_row w B 1 _ _ _ h.ret, cell_of_row w B 2 _ _ _ h.ret, cell_of_row w B 3 _ _ _ h.ret, fun i => block_frozen w B i _ _ h.ret⟩
theorem Own.put4 {k : IntKind} {e : TypeId} {w : World} {base : Nat} {v : Value} {xs : List Int} (h : Own k e w base v xs) {g : Nat} (hg : g < base) (v0 v1 v2 v3 : Value) : Own k e (put4 w g v0 v1 v2 v3) base v xs :=
  (((h.set hg 0 v0).set hg 1 v1).set hg 2 v2).set hg 3 v3
theorem L.Own.put4 {k : Unit} {e : TypeId} {w : World} {base : Nat} {v : Value} {xs : List Bool} (h : L.Own k e w base v xs) {g : Nat} (hg : g < base) (v0 v1 v2 v3 : Value) : L.Own k e (put4 w g v0 v1 v2 v3) base v xs :=
  (((h.set hg 0 v0).set hg 1 v1).set hg 2 v2).set hg 3 v3
theorem WOwn.put4 {w : World} {base : Nat} {v : Value} {fs : List (List Int)} (h : WOwn w base v fs) {g : Nat} (hg : g < base) (v0 v1 v2 v3 : Value) : WOwn (put4 w g v0 v1 v2 v3) base v fs :=
  (((h.set hg 0 v0).set hg 1 v1).set hg 2 v2).set hg 3 v3
theorem takeF_step (fs : List (List Int)) (k : Nat) (h : k < fs.length) : fs.take (k + 1) = fs.take k ++ [nthF fs k] := by
  rw [List.take_succ_eq_append_getElem h]
  simp [nthF, List.getD_eq_getElem?_getD, List.getElem?_eq_getElem h]
theorem FRow.wf {w : World} {B : Nat} {A : Option Addr} {fs : List (List Int)} (h : FRow w B A fs) : ∀ xs ∈ fs, ∀ x ∈ xs, (Lit.int .u16 x).wf = true := by
  intro xs hxs
  obtain ⟨i, hi, rfl⟩ := List.mem_iff_getElem.1 hxs
  obtain ⟨b, o, _, _, hc⟩ := h (by omega)
  obtain ⟨Ai, ci, _, h2, _⟩ := hc i hi
  have : nthF fs i = fs[i] := by simp [nthF, List.getD_eq_getElem?_getD, List.getElem?_eq_getElem hi]
  rw [this] at h2
  exact h2.1

theorem farW {w : World} {base base' : Nat} {v u : Value} {fs : List (List Int)} {ys : List Int} (k : Own .u16 58 w base' u ys) (h : WOwn w base v fs) : u.ownBlock = none ∨ u.ownBlock ≠ v.ownBlock := by
  obtain ⟨L, _, h2, _⟩ := h
  exact words_far h2 k
theorem farB {w : World} {base base' : Nat} {v u : Value} {fs : List (List Int)} {ys : List Bool} (k : L.Own () 4 w base' u ys) (h : WOwn w base v fs) : u.ownBlock = none ∨ u.ownBlock ≠ v.ownBlock := by
  obtain ⟨L, _, h2, _⟩ := h
  rcases k.2 with ⟨rfl, _⟩ | ⟨g, cap, cur0, rfl, _, hg, _⟩
  · exact .inl rfl
  · refine .inr fun e => ?_
    rcases h2.2 with ⟨rfl, _⟩ | ⟨g', cap', cur, rfl, _, hg', _⟩
    · cases e
    · have e : some g = some g' := e
      injection e with e
      subst e
      rw [hg] at hg'
      injection hg' with hg'
      injection hg' with _ ht
      exact absurd ht (by decide)
theorem L.Own.view3 {k : Unit} {e : TypeId} {w : World} {base : Nat} {v : Value} {xs : List Bool} (h : L.Own k e w base v xs) : ∃ A n c, v = .slice A n c ∧ L.Row k w w.heap.size A xs ∧ xs.length = n := by
  obtain ⟨A, c, e, hr, _⟩ := h.row (fun _ _ => rfl)
  exact ⟨A, _, c, e, hr, rfl⟩
theorem Own.view3 {k : IntKind} {e : TypeId} {w : World} {base : Nat} {v : Value} {xs : List Int} (h : Own k e w base v xs) (hw : ∀ x ∈ xs, (Lit.int k x).wf = true) : ∃ A n c, v = .slice A n c ∧ Row k w w.heap.size A xs ∧ xs.length = n := by
  obtain ⟨A, c, e, hr, _⟩ := h.row hw
  exact ⟨A, _, c, e, hr, rfl⟩
end Go.Proofs.YtcmbdhmhkfhjfaaGreat
namespace Go.Proofs.YtcmbdhmhkfhjfaaGreat.W
open Go.RowKit
set_option linter.unusedVariables false
structure Parts (w : World) (B gl m : Nat) (A : Nat → Option Addr) (n c : Nat → Nat) (l r : Nat → List Int) : Prop where
  at_ : ∀ k, k < m → w.cell? ⟨gl, k, none⟩ = some (.slice (A k) (n k) (c k))
  size : ∀ k, k < m → n k ≤ c k ∧ c k ≤ 70368744177664 ∧ (l k).length = c k
  wf : ∀ k, k < m → ∀ x ∈ l k, (Lit.int .u16 x).wf = true
  lies : ∀ k, k < m → (A k = none ∧ n k = 0 ∧ c k = 0) ∨ ∃ g, A k = some ⟨g, 0, none⟩ ∧ B ≤ g ∧ g ≠ gl ∧ w.heap[g]? = some (.cells (blk .u16 (l k ++ r k)) 58 (0, 0))
  apart : ∀ i k, i < m → k < m → i ≠ k → ∀ g, A i = some ⟨g, 0, none⟩ → A k ≠ some ⟨g, 0, none⟩
  gl_lt : gl < w.heap.size

theorem Parts.row {w : World} {B gl m : Nat} {A : Nat → Option Addr} {n c : Nat → Nat} {l r : Nat → List Int} (h : Parts w B gl m A n c l r) {k : Nat} (hk : k < m) :
    Row .u16 w w.heap.size (A k) ((l k).take (n k)) ∧ ((l k).take (n k)).length = n k := by
  have hs := h.size k hk
  refine ⟨?_, by simp; omega⟩
  rcases h.lies k hk with ⟨ha, hn, hc⟩ | ⟨g, ha, _, _, hg⟩
  · rw [hn, List.take_zero]; exact Row.nil _ _ _ _
  · rw [ha]
    exact (Row.of_block hg _ (fun x hx => h.wf k hk x (List.mem_of_mem_take hx)) ((List.take_prefix _ _).trans (List.prefix_append _ _))).more (block_lt hg)
theorem Parts.below {w w' : World} {B gl m : Nat} {A : Nat → Option Addr} {n c : Nat → Nat} {l r : Nat → List Int} (h : Parts w B gl m A n c l r) (hb : Below w.heap.size w w') : Parts w' B gl m A n c l r where
  at_ := fun k hk => (hb.cell (p := ⟨gl, k, none⟩) h.gl_lt).trans (h.at_ k hk)
  size := h.size
  wf := h.wf
  lies := fun k hk => by
    rcases h.lies k hk with h0 | ⟨g, ha, hB, hne, hg⟩
    · exact .inl h0
    · exact .inr ⟨g, ha, hB, hne, (hb.block g (block_lt hg)).trans hg⟩
  apart := h.apart
  gl_lt := Nat.lt_of_lt_of_le h.gl_lt hb.size
theorem Parts.spoil {w w' : World} {B gl m : Nat} {A : Nat → Option Addr} {n c : Nat → Nat} {l r : Nat → List Int} (h : Parts w B gl m A n c l r) {i g : Nat} (hi : i < m) (ha : A i = some ⟨g, 0, none⟩)
    (hg : w'.heap[g]? = some (.cells (blk .u16 (spoil16 (c i) (l i) ++ r i)) 58 (0, 0))) (hgr : w.grownBy w' (some g)) : Parts w' B gl m A n c (fun k => if k = i then spoil16 (c i) (l i) else l k) r where
  at_ := fun k hk => by
    rcases h.lies i hi with ⟨h0, _⟩ | ⟨g', ha', _, hne, _⟩
    · rw [ha] at h0; cases h0
    · rw [ha] at ha'
      injection ha' with ha'
      injection ha' with ha'
      subst ha'
      exact (World.cell?_of_block (hgr.block gl h.gl_lt (fun e => hne (by injection e with e; exact e.symm)))).trans (h.at_ k hk)
  size := fun k hk => by
    have := h.size k hk
    refine ⟨this.1, this.2.1, ?_⟩
    split
    · rename_i e; subst e; rw [spoil16_length]; exact this.2.2
    · exact this.2.2
  wf := fun k hk => by
    show ∀ x ∈ (if k = i then spoil16 (c i) (l i) else l k), _
    split
    · exact spoil16_wf _ _ (h.wf i hi)
    · exact h.wf k hk
  lies := fun k hk => by
    by_cases e : k = i
    · subst e
      rcases h.lies k hi with ⟨h0, _⟩ | ⟨g', ha', hB, hne, _⟩
      · rw [ha] at h0; cases h0
      · rw [ha] at ha'
        injection ha' with ha'
        injection ha' with ha'
        subst ha'
        exact .inr ⟨g, ha, hB, hne, by rw [if_pos rfl]; exact hg⟩
    · rcases h.lies k hk with h0 | ⟨g', ha', hB, hne, hg'⟩
      · exact .inl h0
      · refine .inr ⟨g', ha', hB, hne, ?_⟩
        rw [if_neg e, hgr.block g' (block_lt hg') (fun e' => ?_)]
        · exact hg'
        · injection e' with e'
          subst e'
          exact h.apart k i hk hi e _ ha' ha
  apart := h.apart
  gl_lt := Nat.lt_of_lt_of_le h.gl_lt hgr.size

structure Ent where
  a : Option Nat
  n : Nat
  c : Nat
  l : List Int
  r : List Int
def Ent.none_ : Ent := ⟨none, 0, 0, [], []⟩
def Ent.adr (e : Ent) : Option Addr := e.a.map fun g => ⟨g, 0, none⟩
def Ent.val (e : Ent) : Value := .slice e.adr e.n e.c
structure Ent.Ok (w : World) (B : Nat) (e : Ent) : Prop where
  size : e.n ≤ e.c ∧ e.c ≤ 70368744177664 ∧ e.l.length = e.c
  wf : ∀ x ∈ e.l, (Lit.int .u16 x).wf = true
  lies : (e.a = none ∧ e.n = 0 ∧ e.c = 0) ∨ ∃ g, e.a = some g ∧ B ≤ g ∧ w.heap[g]? = some (.cells (blk .u16 (e.l ++ e.r)) 58 (0, 0))
def Ent.Far (e e' : Ent) : Prop := ∀ g, e.a = some g → e'.a ≠ some g
theorem Ent.adr_some {e : Ent} {g : Nat} (h : e.adr = some ⟨g, 0, none⟩) : e.a = some g := by
  unfold Ent.adr at h
  cases ha : e.a with
  | none => rw [ha] at h; cases h
  | some q => rw [ha] at h; simp at h; rw [h]

theorem parts_of_list (w : World) (B : Nat) (L : List Ent) (t : TypeId) (hok : ∀ e ∈ L, e.Ok w B) (hfar : L.Pairwise Ent.Far) :
    Parts (w.alloc (.cells (L.map Ent.val).toArray t)) B w.heap.size L.length (fun k => (L.getD k Ent.none_).adr) (fun k => (L.getD k Ent.none_).n) (fun k => (L.getD k Ent.none_).c) (fun k => (L.getD k Ent.none_).l) (fun k => (L.getD k Ent.none_).r) where
  at_ := fun k hk => by
    rw [World.cell?_alloc_at _ _ _ _ rfl]
    simp [List.getElem?_eq_getElem hk, List.getD_eq_getElem?_getD, Ent.val]
  size := fun k hk => by
    simp only [List.getD_eq_getElem?_getD, List.getElem?_eq_getElem hk, Option.getD_some]
    exact (hok _ (List.getElem_mem hk)).size
  wf := fun k hk => by
    simp only [List.getD_eq_getElem?_getD, List.getElem?_eq_getElem hk, Option.getD_some]
    exact (hok _ (List.getElem_mem hk)).wf
  lies := fun k hk => by
    simp only [List.getD_eq_getElem?_getD, List.getElem?_eq_getElem hk, Option.getD_some]
    rcases (hok _ (List.getElem_mem hk)).lies with ⟨h1, h2⟩ | ⟨g, h1, h2, h3⟩
    · exact .inl ⟨by rw [Ent.adr, h1]; rfl, h2⟩
    · have := block_lt h3
      exact .inr ⟨g, by rw [Ent.adr, h1]; rfl, h2, by omega, (Below.heap_alloc w _ g this).trans h3⟩
  apart := fun i k hi hk hne g h1 h2 => by
    simp only [List.getD_eq_getElem?_getD, List.getElem?_eq_getElem hi, List.getElem?_eq_getElem hk, Option.getD_some] at h1 h2
    have h1 := Ent.adr_some h1
    have h2 := Ent.adr_some h2
    rcases Nat.lt_or_gt_of_ne hne with h | h
    · exact List.pairwise_iff_getElem.1 hfar i k hi hk h g h1 h2
    · exact List.pairwise_iff_getElem.1 hfar k i hk hi h g h2 h1
  gl_lt := by simp

end Go.Proofs.YtcmbdhmhkfhjfaaGreat.W
namespace Go.Proofs.YtcmbdhmhkfhjfaaGreat.W
open Go.RowKit
set_option linter.unusedVariables false
theorem Li.ent {w : World} {A : Option Addr} {m g B : Nat} {l r : List Int} (h : Li w A m g l r) (hm : l.length = m) (hw : ∀ x ∈ l, (Lit.int .u16 x).wf = true) (hB : B ≤ g) (hmm : m ≤ 70368744173568) :
    ∃ E : Ent, E.val = .slice A m m ∧ E.Ok w B ∧ (E.a = none ∨ E.a = some g) ∧ (A = none → E.a = none) := by
  rcases h with ⟨h1, h2⟩ | ⟨h1, h2⟩
  · subst h1 h2
    exact ⟨⟨none, 0, 0, l, r⟩, rfl, ⟨⟨Nat.le_refl _, by show 0 ≤ _; omega, hm⟩, hw, .inl ⟨rfl, rfl, rfl⟩⟩, .inl rfl, fun _ => rfl⟩
  · subst h1
    exact ⟨⟨some g, m, m, l, r⟩, rfl, ⟨⟨Nat.le_refl _, by show m ≤ _; omega, hm⟩, hw, .inr ⟨g, rfl, hB, h2⟩⟩, .inr rfl, fun h => by cases h⟩

end Go.Proofs.YtcmbdhmhkfhjfaaGreat.W
namespace Go.Proofs.YtcmbdhmhkfhjfaaGreat
open Go.RowKit
set_option linter.unusedVariables false
def MakesW (w : World) (xs : List Int) (e : Ending) (w' : World) : Prop := ∃ v, e = .returned (.tuple #[v, .int .i64 0]) ∧ Own .u16 58 w' w.heap.size v xs ∧ Below w.heap.size w w'
end Go.Proofs.YtcmbdhmhkfhjfaaGreat
namespace Go.Proofs.YtcmbdhmhkfhjfaaGreat
open Go.RowKit
set_option linter.unusedVariables false

def TB3 (w0 : World) (B : Nat) (o1 o2 o3 : Obj) (w : World) : Prop := TB w0 B o1 o2 w ∧ w.heap[B + 2]? = some o3
section
variable {w0 w w' : World} {B : Nat} {o1 o2 o3 : Obj}
theorem TB3.new (w : World) (c1 c2 c3 : Array Value) (t u v : TypeId) : TB3 w w.heap.size (.cells c1 t (0, 0)) (.cells c2 u (0, 0)) (.cells c3 v (0, 0)) (((w.alloc (.cells c1 t)).alloc (.cells c2 u)).alloc (.cells c3 v)) :=
  ⟨(TB.new2 w c1 c2 t u).alloc _, heap_new_at _ _ (by simp)⟩
theorem TB3.bel (h : TB3 w0 B o1 o2 o3 w) : Below B w0 w := h.1.bel
theorem TB3.lt (h : TB3 w0 B o1 o2 o3 w) : B + 2 < w.heap.size := block_lt h.2
theorem TB3.below (h : TB3 w0 B o1 o2 o3 w) (hb : Below w.heap.size w w') : TB3 w0 B o1 o2 o3 w' := ⟨h.1.below hb, (hb.block _ (block_lt h.2)).trans h.2⟩
theorem TB3.alloc (h : TB3 w0 B o1 o2 o3 w) (o : Obj) : TB3 w0 B o1 o2 o3 (w.alloc o) := h.below (bel_alloc w o)
theorem TB3.grown {row : Option Nat} (h : TB3 w0 B o1 o2 o3 w) (hg : w.grownBy w' row) (hr : ∀ g, row = some g → B + 3 ≤ g) : TB3 w0 B o1 o2 o3 w' :=
  ⟨h.1.grown hg (fun g e => by have := hr g e; omega), (hg.block (B + 2) h.lt (fun e => by have := hr _ e.symm; omega)).trans h.2⟩
theorem TB3.set {cs : Array Value} {t : TypeId} (h : TB3 w0 B o1 o2 (.cells cs t (0, 0)) w) (i : Nat) (v : Value) : TB3 w0 B o1 o2 (.cells (cs.setIfInBounds i v) t (0, 0)) (w.setCell ⟨B + 2, i, none⟩ v) :=
  ⟨h.1.far (by omega) i v, box_set h.2 i v⟩
theorem TB3.c4 {t : TypeId} {v0 v1 v2 v3 : Value} (h : TB3 w0 B o1 o2 (.cells #[v0, v1, v2, v3] t (0, 0)) w) :
    w.cell? ⟨B + 2, 0, none⟩ = some v0 ∧ w.cell? ⟨B + 2, 1, none⟩ = some v1 ∧ w.cell? ⟨B + 2, 2, none⟩ = some v2 ∧ w.cell? ⟨B + 2, 3, none⟩ = some v3 ∧ ∀ i, w.frozen? ⟨B + 2, i, none⟩ = false :=
  ⟨cell_of_row w _ 0 _ _ _ h.2, cell_of_row w _ 1 _ _ _ h.2, cell_of_row w _ 2 _ _ _ h.2, cell_of_row w _ 3 _ _ _ h.2, fun i => block_frozen w _ i _ _ h.2⟩
end
theorem ownsRow_stays {w w' : World} {base n size : Nat} {t : TypeId} {v : Value} {xs : List Value} (h : w.ownsRow base t size v n xs) (hk : ∀ j, base ≤ j → j < w.heap.size → w'.heap[j]? = w.heap[j]?) : w'.ownsRow base t size v n xs := by
  rcases h with ⟨h0, h1 | ⟨g, cap, cur, hv, hb, hg, h2⟩⟩
  · exact ⟨h0, .inl h1⟩
  · exact ⟨h0, .inr ⟨g, cap, cur, hv, hb, (hk g hb (block_lt hg)).trans hg, h2⟩⟩
theorem Own.stays {k : IntKind} {e : TypeId} {w w' : World} {base : Nat} {v : Value} {xs : List Int} (h : Own k e w base v xs) (hk : ∀ j, base ≤ j → j < w.heap.size → w'.heap[j]? = w.heap[j]?) : Own k e w' base v xs := ownsRow_stays h hk
theorem L.Own.stays {k : Unit} {e : TypeId} {w w' : World} {base : Nat} {v : Value} {xs : List Bool} (h : L.Own k e w base v xs) (hk : ∀ j, base ≤ j → j < w.heap.size → w'.heap[j]? = w.heap[j]?) : L.Own k e w' base v xs := ownsRow_stays h hk
theorem WOwn.stays {w w' : World} {base : Nat} {v : Value} {fs : List (List Int)} (h : WOwn w base v fs) (hk : ∀ j, base ≤ j → j < w.heap.size → w'.heap[j]? = w.heap[j]?) : WOwn w' base v fs := by
  obtain ⟨L, h1, h2, h3⟩ := h
  exact ⟨L, h1, ownsRow_stays h2 hk, fun p hp => (h3 p hp).stays hk⟩
def OneR (w : World) (r : Rep) (e : Ending) (w' : World) : Prop :=
  ∃ (Bo Bs Bf : Option Addr) (mo ms mf eo es ef : Nat), e = .returned (.agg #[.int .i64 r.x, .slice Bo mo eo, .slice Bs ms es, .slice Bf mf ef]) ∧ (∀ w2 : World, (∀ j, w.heap.size ≤ j → j < w'.heap.size → w2.heap[j]? = w'.heap[j]?) → Repd w2 w2.heap.size r Bo Bs Bf mo ms mf) ∧ Below w.heap.size w w'
end Go.Proofs.YtcmbdhmhkfhjfaaGreat
namespace Go.Proofs.YtcmbdhmhkfhjfaaGreat
open Go.RowKit
set_option linter.unusedVariables false
set_option maxRecDepth 100000
attribute [local go_sem ↓] ldTag_fold stTag_fold bxTag_fold
attribute [local go_sem] bxTag_run

def inP (t : Tg) (un ki ad ct : Int) : Bool := decide (t.un = un ∧ t.ki = ki ∧ ad ≤ t.ad ∧ t.ad + widT t ≤ ad + ct)
theorem inP_iff {t : Tg} {un ki ad ct : Int} : inP t un ki ad ct = true ↔ t.un = un ∧ t.ki = ki ∧ ad ≤ t.ad ∧ t.ad + widT t ≤ ad + ct := decide_eq_true_iff
theorem inP_no {t : Tg} {un ki ad ct : Int} (h : ¬ (t.un = un ∧ t.ki = ki ∧ ad ≤ t.ad ∧ t.ad + widT t ≤ ad + ct)) : inP t un ki ad ct = false := decide_eq_false h

set_option maxHeartbeats 2000000 in
theorem refWithin_any (pu pk pa pc pe : Int) (Pt : Option Addr) (pn pm : Nat) (t : Tg) (w : World) (hpa : 0 ≤ pa ∧ pa ≤ 65536) (hpc : 0 ≤ pc ∧ pc ≤ 65536) (hta : 0 ≤ t.ad ∧ t.ad ≤ 65536) :
    Calls Tryz.prog 31 #[tgV t, .agg #[.int .i64 pu, .int .i64 pk, .int .i64 pa, .int .i64 pc, .int .i64 pe, .slice Pt pn pm]] w fun e w' => e = .returned (.bool (inP t pu pk pa pc)) ∧ Below w.heap.size w w' := by
  have hx0 := two_fst w (.cells (tgC t).toArray 51) (.cells #[.int .i64 pu, .int .i64 pk, .int .i64 pa, .int .i64 pc, .int .i64 pe, .slice Pt pn pm] 25)
  have hx1 := heap_alloc_two w (.cells (tgC t).toArray 51) (.cells #[.int .i64 pu, .int .i64 pk, .int .i64 pa, .int .i64 pc, .int .i64 pe, .slice Pt pn pm] 25)
  have bel0 := (bel_alloc w (.cells (tgC t).toArray 51)).alloc (by simp) (.cells #[.int .i64 pu, .int .i64 pk, .int .i64 pa, .int .i64 pc, .int .i64 pe, .slice Pt pn pm] 25)
  obtain ⟨a0, a1, a2, a3, a4⟩ := tgBox hx0
  obtain ⟨p0, p1, p2, p3, p4, p5⟩ := of6 hx1
  by_cases h1 : t.un = pu
  case neg =>
    have HB : Hid (inP t pu pk pa pc = false) := Lib.hid (inP_no (fun h => h1 h.1))
    have f1 : (t.un == pu) = false := beq_false_of_ne h1
    have g1 : (t.un != pu) = true := by simpa using h1
    have g2 : decide (t.un = pu) = false := decide_eq_false h1
    clear h1
    go_enter Tryz.func31, Tryz.ntmps31
    go_wp2
    go_quiet (fail)
    go_wp2
    go_ret
    exact ⟨by rw [HB.out]; rfl, below_drewN bel0 _⟩
  have f1 : (t.un == pu) = true := by simp [h1]
  by_cases h2 : t.ki = pk
  case neg =>
    have HB : Hid (inP t pu pk pa pc = false) := Lib.hid (inP_no (fun h => h2 h.2.1))
    have f2 : (t.ki == pk) = false := beq_false_of_ne h2
    have g2 : decide (t.ki = pk) = false := decide_eq_false h2
    clear h1 h2
    go_enter Tryz.func31, Tryz.ntmps31
    go_wp2
    go_quiet (fail)
    go_wp2
    go_ret
    exact ⟨by rw [HB.out]; rfl, below_drewN bel0 _⟩
  have f2 : (t.ki == pk) = true := by simp [h2]
  by_cases h3 : t.ad ≥ pa
  case neg =>
    have HB : Hid (inP t pu pk pa pc = false) := Lib.hid (inP_no (fun h => h3 h.2.2.1))
    have g3 : decide (t.ad ≥ pa) = false := decide_eq_false h3
    have g3' : decide (pa ≤ t.ad) = false := decide_eq_false h3
    clear h1 h2
    go_enter Tryz.func31, Tryz.ntmps31
    go_wp2
    go_quiet (fail)
    go_wp2
    go_ret
    exact ⟨by rw [HB.out]; rfl, below_drewN bel0 _⟩
  have hw := widT_le t
  have hwr1 : IntKind.i64.wrap (t.ad + widT t) = t.ad + widT t := by rw [IntKind.wrap_i64]; omega
  have hwr4 : IntKind.i64.wrap (pa + pc) = pa + pc := by rw [IntKind.wrap_i64]; omega
  have HB : Hid (inP t pu pk pa pc = decide (t.ad + widT t ≤ pa + pc)) := Lib.hid (by
    unfold inP
    by_cases h4 : t.ad + widT t ≤ pa + pc
    · rw [decide_eq_true h4, decide_eq_true ⟨h1, h2, h3, h4⟩]
    · rw [decide_eq_false h4, decide_eq_false (fun h => h4 h.2.2.2)])
  have HW : Hid (∀ W : World, Calls Tryz.prog 61 #[tgV t] W fun e w' => e = .returned (.int .i64 (widT t)) ∧ Below W.heap.size W w') := Lib.hid fun W => refWidth_t t W
  generalize widT t = wd at *
  clear h1 h2
  go_enter Tryz.func31, Tryz.ntmps31
  go_wp2
  clear a0 a1 a2 a3 a4 p0 p1 p2 p3 p4 p5
  have HK : Hid (∀ w9 : World, Below ((w.alloc (.cells (tgC t).toArray 51)).alloc (.cells #[.int .i64 pu, .int .i64 pk, .int .i64 pa, .int .i64 pc, .int .i64 pe, .slice Pt pn pm] 25)).heap.size ((w.alloc (.cells (tgC t).toArray 51)).alloc (.cells #[.int .i64 pu, .int .i64 pk, .int .i64 pa, .int .i64 pc, .int .i64 pe, .slice Pt pn pm] 25)) w9 → (Below ((w.alloc (.cells (tgC t).toArray 51)).alloc (.cells #[.int .i64 pu, .int .i64 pk, .int .i64 pa, .int .i64 pc, .int .i64 pe, .slice Pt pn pm] 25)).heap.size ((w.alloc (.cells (tgC t).toArray 51)).alloc (.cells #[.int .i64 pu, .int .i64 pk, .int .i64 pa, .int .i64 pc, .int .i64 pe, .slice Pt pn pm] 25)) w9 ∧ (w9.cell? ⟨w.heap.size, 1, none⟩ = some (.int .i64 t.un) ∧ w9.cell? ⟨w.heap.size, 2, none⟩ = some (.int .i64 t.ki) ∧ w9.cell? ⟨w.heap.size, 3, none⟩ = some (.int .i64 t.ad)) ∧ (ldTag (.pointer (some ⟨w.heap.size, 0, none⟩))).run Tryz.prog w9 = .ok (tgV t) w9 ∧ (w9.cell? ⟨w.heap.size + 1, 0, none⟩ = some (.int .i64 pu) ∧ w9.cell? ⟨w.heap.size + 1, 1, none⟩ = some (.int .i64 pk) ∧ w9.cell? ⟨w.heap.size + 1, 2, none⟩ = some (.int .i64 pa) ∧ w9.cell? ⟨w.heap.size + 1, 3, none⟩ = some (.int .i64 pc)))) := Lib.hid fun w9 hw => ⟨hw, ⟨(tgBox (keepB hw hx0)).2.1, (tgBox (keepB hw hx0)).2.2.1, (tgBox (keepB hw hx0)).2.2.2.1⟩, tgBox_ld (keepB hw hx0), ⟨(of6 (keepB hw hx1)).1, (of6 (keepB hw hx1)).2.1, (of6 (keepB hw hx1)).2.2.1, (of6 (keepB hw hx1)).2.2.2.1⟩⟩
  generalize (w.alloc (.cells (tgC t).toArray 51)).alloc (.cells #[.int .i64 pu, .int .i64 pk, .int .i64 pa, .int .i64 pc, .int .i64 pe, .slice Pt pn pm] 25) = w0 at *
  have belh : ∀ w9 : World, (Below w0.heap.size w0 w9 ∧ (w9.cell? ⟨w.heap.size, 1, none⟩ = some (.int .i64 t.un) ∧ w9.cell? ⟨w.heap.size, 2, none⟩ = some (.int .i64 t.ki) ∧ w9.cell? ⟨w.heap.size, 3, none⟩ = some (.int .i64 t.ad)) ∧ (ldTag (.pointer (some ⟨w.heap.size, 0, none⟩))).run Tryz.prog w9 = .ok (tgV t) w9 ∧ (w9.cell? ⟨w.heap.size + 1, 0, none⟩ = some (.int .i64 pu) ∧ w9.cell? ⟨w.heap.size + 1, 1, none⟩ = some (.int .i64 pk) ∧ w9.cell? ⟨w.heap.size + 1, 2, none⟩ = some (.int .i64 pa) ∧ w9.cell? ⟨w.heap.size + 1, 3, none⟩ = some (.int .i64 pc))) → Below w0.heap.size w0 w9 := fun w9 h => h.1
  go_region_held3 (fun w9 => Below w0.heap.size w0 w9 ∧ (w9.cell? ⟨w.heap.size, 1, none⟩ = some (.int .i64 t.un) ∧ w9.cell? ⟨w.heap.size, 2, none⟩ = some (.int .i64 t.ki) ∧ w9.cell? ⟨w.heap.size, 3, none⟩ = some (.int .i64 t.ad)) ∧ (ldTag (.pointer (some ⟨w.heap.size, 0, none⟩))).run Tryz.prog w9 = .ok (tgV t) w9 ∧ (w9.cell? ⟨w.heap.size + 1, 0, none⟩ = some (.int .i64 pu) ∧ w9.cell? ⟨w.heap.size + 1, 1, none⟩ = some (.int .i64 pk) ∧ w9.cell? ⟨w.heap.size + 1, 2, none⟩ = some (.int .i64 pa) ∧ w9.cell? ⟨w.heap.size + 1, 3, none⟩ = some (.int .i64 pc)))
    ((refine HK.out _ ?_
      repeat' (first
        | with_reducible exact Below.refl _ _
        | with_reducible exact bel5
        | with_reducible exact belh _ (by assumption)
        | with_reducible apply below_drew
        | with_reducible apply below_drewN
        | fail)))
    (first
      | (go_at_call 61; refine (HW.out _).mono ?_; rintro e w5 ⟨rfl, b5⟩; have bel5 : Below w0.heap.size w0 w5 := Below.trans (belh _ (by assumption)) (b5.mono (Below.size (belh _ (by assumption)))))
      | fail)
  have BEL := Lib.hid (bel0.trans (bel5.mono bel0.size))
  clear HK belh bel5 hx0 hx1 bel0 HW
  go_wp2
  go_ret
  exact ⟨by rw [HB.out]; try rfl, BEL.out⟩
end Go.Proofs.YtcmbdhmhkfhjfaaGreat
namespace Go.Proofs.YtcmbdhmhkfhjfaaGreat
open Go.RowKit
set_option linter.unusedVariables false
set_option maxRecDepth 100000
attribute [local go_sem ↓] ldTag_fold stTag_fold bxTag_fold
attribute [local go_sem] bxTag_run

def bitK (k : Int) : Bool := decide (k = 1 ∨ k = 2)
theorem bitK_yes {k : Int} (h : k = 1 ∨ k = 2) : bitK k = true := decide_eq_true h
theorem bitK_no {k : Int} (h : ¬ (k = 1 ∨ k = 2)) : bitK k = false := decide_eq_false h
theorem bits_any (k : Int) (w : World) : Calls Tryz.prog 52 #[.int .i64 k] w fun e w' => e = .returned (.bool (bitK k)) ∧ w' = w := by
  by_cases h1 : k = 1
  · subst h1
    rw [show bitK 1 = true from rfl]
    go_enter Tryz.func52, Tryz.ntmps52
    go_wp2
    go_ret
    exact ⟨rfl, rfl⟩
  · have e1 : (k == 1) = false := beq_false_of_ne h1
    by_cases h2 : k = 2
    · subst h2
      rw [show bitK 2 = true from rfl]
      go_enter Tryz.func52, Tryz.ntmps52
      go_wp2
      go_ret
      exact ⟨rfl, rfl⟩
    · have e2 : (k == 2) = false := beq_false_of_ne h2
      rw [bitK_no (by omega)]
      go_enter Tryz.func52, Tryz.ntmps52
      go_wp2
      go_ret
      exact ⟨rfl, rfl⟩
theorem most_any (k : Int) (w : World) : Calls Tryz.prog 75 #[.int .i64 k] w fun e w' => e = .returned (.int .i64 (mostK k)) ∧ w' = w := by
  have hb := bits_any k w
  by_cases h : k = 1 ∨ k = 2
  · rw [bitK_yes h] at hb
    rw [show mostK k = 2000 from if_pos h]
    clear h
    go_enter Tryz.func75, Tryz.ntmps75
    go_wp2_with (go_at_call 52; refine hb.mono ?_; rintro e w' ⟨rfl, rfl⟩)
    go_ret
    exact ⟨rfl, rfl⟩
  · rw [bitK_no h] at hb
    rw [show mostK k = 125 from if_neg h]
    clear h
    go_enter Tryz.func75, Tryz.ntmps75
    go_wp2_with (go_at_call 52; refine hb.mono ?_; rintro e w' ⟨rfl, rfl⟩)
    go_ret
    exact ⟨rfl, rfl⟩
theorem bitValue_any (b : Bool) (w : World) : Calls Tryz.prog 53 #[.bool b] w fun e w' => e = .returned (.int .i64 (if b then 1 else 0)) ∧ w' = w := by
  cases b <;> (go_enter Tryz.func53, Tryz.ntmps53; go_wp2; go_ret; exact ⟨rfl, rfl⟩)

def bankB (t : Tg) (pu pk : Int) : Bool := decide (t.un = pu ∧ t.ki = pk)
theorem bankB_no {t : Tg} {pu pk : Int} (h : ¬ (t.un = pu ∧ t.ki = pk)) : bankB t pu pk = false := decide_eq_false h
theorem bankB_yes {t : Tg} {pu pk : Int} (h1 : t.un = pu) (h2 : t.ki = pk) : bankB t pu pk = true := decide_eq_true ⟨h1, h2⟩
theorem inBank_any (pu pk pa pc pe : Int) (Pt : Option Addr) (pn pm : Nat) (t : Tg) (w : World) : Calls Tryz.prog 51 #[tgV t, .agg #[.int .i64 pu, .int .i64 pk, .int .i64 pa, .int .i64 pc, .int .i64 pe, .slice Pt pn pm]] w fun e w' => e = .returned (.bool (bankB t pu pk)) ∧ Below w.heap.size w w' := by
  have hx0 := two_fst w (.cells (tgC t).toArray 51) (.cells #[.int .i64 pu, .int .i64 pk, .int .i64 pa, .int .i64 pc, .int .i64 pe, .slice Pt pn pm] 25)
  have hx1 := heap_alloc_two w (.cells (tgC t).toArray 51) (.cells #[.int .i64 pu, .int .i64 pk, .int .i64 pa, .int .i64 pc, .int .i64 pe, .slice Pt pn pm] 25)
  have bel0 := (bel_alloc w (.cells (tgC t).toArray 51)).alloc (by simp) (.cells #[.int .i64 pu, .int .i64 pk, .int .i64 pa, .int .i64 pc, .int .i64 pe, .slice Pt pn pm] 25)
  obtain ⟨a0, a1, a2, a3, a4⟩ := tgBox hx0
  obtain ⟨p0, p1, p2, p3, p4, p5⟩ := of6 hx1
  clear hx0 hx1 a0 a3 a4 p2 p3 p4 p5
  by_cases h1 : t.un = pu
  · by_cases h2 : t.ki = pk
    · rw [bankB_yes h1 h2]
      have f1 : (t.un == pu) = true := by simp [h1]
      have f2 : (t.ki == pk) = true := by simp [h2]
      clear h1 h2
      go_enter Tryz.func51, Tryz.ntmps51
      go_wp2
      go_ret
      exact ⟨rfl, bel0⟩
    · rw [bankB_no (fun h => h2 h.2)]
      have f1 : (t.un == pu) = true := by simp [h1]
      have f2 : (t.ki == pk) = false := beq_false_of_ne h2
      clear h1 h2
      go_enter Tryz.func51, Tryz.ntmps51
      go_wp2
      go_ret
      exact ⟨rfl, bel0⟩
  · rw [bankB_no (fun h => h1 h.1)]
    have f1 : (t.un == pu) = false := beq_false_of_ne h1
    clear h1
    go_enter Tryz.func51, Tryz.ntmps51
    go_wp2
    go_ret
    exact ⟨rfl, bel0⟩
end Go.Proofs.YtcmbdhmhkfhjfaaGreat
namespace Go.Proofs.YtcmbdhmhkfhjfaaGreat
open Go.RowKit
set_option linter.unusedVariables false
set_option maxRecDepth 100000
attribute [local go_sem ↓] ldTag_fold stTag_fold bxTag_fold
attribute [local go_sem] bxTag_run

def ldSc (v : Value) : Sem Value := Instr.loadAt 45 v
theorem ldSc_fold (v : Value) : Instr.loadAt 45 v = ldSc v := rfl
def scC (t : Tg) : List Value := [.bool t.we, .bool t.sg, .bool t.sw, .int .i64 t.mu, .int .i64 t.di, .int .i64 t.aa]
theorem size_sc : (Tryz.prog.info? 45).map (·.size) = some 6 := by kernel_rfl
theorem ldSc_run {w : World} {g : Nat} {t : Tg} {T : TypeId} (h : w.heap[g]? = some (.cells (tgC t).toArray T (0, 0))) : (ldSc (.pointer (some ⟨g, 5, none⟩))).run Tryz.prog w = .ok (.agg #[.bool t.we, .bool t.sg, .bool t.sw, .int .i64 t.mu, .int .i64 t.di, .int .i64 t.aa]) w := by
  refine run_loadAt_mid w g 5 _ (scC t) _ (fun j v hv => ?_) Tryz.underlying45 rfl size_sc
  have hr := rangeB h
  have hj : j < 6 := (List.getElem?_eq_some_iff.1 hv).1
  rw [← hr (5 + j) v (by obtain ⟨nm, un, ki, ad, ev, we, sg, sw, mu, di, aa, de, qu, ul, uh, la, lo, hi, hy⟩ := t; rcases j with _ | _ | _ | _ | _ | _ | j <;> first | exact hv | omega)]
  rw [Nat.zero_add]
attribute [local go_sem ↓] ldSc_fold

def valT (t : Tg) (pa : Int) (on : List Bool) (set : List Int) : Int :=
  if t.ki = 1 ∨ t.ki = 2 then (if L.nth on (t.ad - pa).toNat = true then 1 else 0) else valN t.sc (rawN t.sc ((set.drop (t.ad - pa).toNat).take (widT t).toNat))

set_option maxHeartbeats 2000000 in
theorem refValue10_bits (pu pk pa pc pe : Int) (Pt : Option Addr) (pn pm : Nat) (x : Int) (Bo Bs Bf : Option Addr) (mo ms mf eo es ef : Nat) (on : List Bool) (t : Tg) (k : Nat) (w : World) (hr : L.Row () w w.heap.size Bo on) (hm : on.length = mo) (hk : t.ad - pa = k) (hlt : k < on.length) (hki : t.ki = 1 ∨ t.ki = 2) (hb : mo ≤ 4611686018427387904) :
    Calls Tryz.prog 32 #[tgV t, .agg #[.int .i64 pu, .int .i64 pk, .int .i64 pa, .int .i64 pc, .int .i64 pe, .slice Pt pn pm], .agg #[.int .i64 x, .slice Bo mo eo, .slice Bs ms es, .slice Bf mf ef]] w fun e w' => e = .returned (.int .i64 (if L.nth on k = true then 1 else 0)) ∧ Below w.heap.size w w' := by
  have t3 := Box3.new w (.cells (tgC t).toArray 51) (.cells #[.int .i64 pu, .int .i64 pk, .int .i64 pa, .int .i64 pc, .int .i64 pe, .slice Pt pn pm] 25) (.cells #[.int .i64 x, .slice Bo mo eo, .slice Bs ms es, .slice Bf mf ef] 30)
  obtain ⟨b, o, rfl, hb1, hc1⟩ := (hr.below t3.bel).at_ hlt
  obtain ⟨a0, a1, a2, a3, a4⟩ := tgBox t3.1
  obtain ⟨p0, p1, p2, p3, p4, p5⟩ := of6 t3.2.1
  have r1 := cell_of_row _ _ 1 _ _ _ t3.2.2.1
  have bel := t3.bel
  have hwr : IntKind.i64.wrap (t.ad - pa) = k := by rw [IntKind.wrap_i64]; omega
  have hkm : (k : Int) < mo := by omega
  have hk0 : (0 : Int) ≤ k := by omega
  generalize L.nth on k = v at *
  clear t3 hr hlt hm hk
  have hk1 : ((t.ki == 1) = true) ∨ ((t.ki == 1) = false ∧ (t.ki == 2) = true) := by
    rcases hki with h | h
    · exact .inl (by simp [h])
    · exact .inr (by simp [h])
  clear hki
  rcases hk1 with hk1 | ⟨hk1, hk2⟩
  · cases v
    · go_enter Tryz.func32, Tryz.ntmps32
      go_wp2
      go_ret
      exact ⟨rfl, bel⟩
    · go_enter Tryz.func32, Tryz.ntmps32
      go_wp2
      go_ret
      exact ⟨rfl, bel⟩
  · cases v
    · go_enter Tryz.func32, Tryz.ntmps32
      go_wp2
      go_ret
      exact ⟨rfl, bel⟩
    · go_enter Tryz.func32, Tryz.ntmps32
      go_wp2
      go_ret
      exact ⟨rfl, bel⟩

theorem refRaw_t (t : Tg) (A : Option Addr) (n c : Nat) (xs : List Int) (w : World) (hr : Row .u16 w w.heap.size A xs) (hn : xs.length = n) (hb : n ≤ 1000000) : Calls Tryz.prog 62 #[.agg #[.bool t.we, .bool t.sg, .bool t.sw, .int .i64 t.mu, .int .i64 t.di, .int .i64 t.aa], .slice A n c] w fun e w' => e = .returned (.tuple #[.int .i64 (rawN t.sc xs), .int .i64 (rawE t.sc xs)]) ∧ Below w.heap.size w w' :=
  refRaw_any t.we t.sg t.sw t.mu t.di t.aa A n c xs w hr hn hb
theorem refValue_t (t : Tg) (n : Int) (w : World) : Calls Tryz.prog 63 #[.agg #[.bool t.we, .bool t.sg, .bool t.sw, .int .i64 t.mu, .int .i64 t.di, .int .i64 t.aa], .int .i64 n] w fun e w' => e = .returned (.tuple #[.int .i64 (valN t.sc n), .int .i64 (valE t.sc n)]) ∧ Below w.heap.size w w' :=
  refValue_any t.we t.sg t.sw t.mu t.di t.aa n w
theorem Row.piece {k : IntKind} {w : World} {B b o : Nat} {xs : List Int} (h : Row k w B (some ⟨b, o, none⟩) xs) (i m : Nat) : Row k w B (some ⟨b, o + i, none⟩) ((xs.drop i).take m) := (h.drop i).front m
set_option maxHeartbeats 4000000 in
theorem refValue10_words (pu pk pa pc pe : Int) (Pt : Option Addr) (pn pm : Nat) (x : Int) (Bo Bs Bf : Option Addr) (mo ms mf eo es ef : Nat) (set : List Int) (t : Tg) (k m : Nat) (w : World) (hr : Row .u16 w w.heap.size Bs set) (hm : set.length = ms) (hk : t.ad - pa = k) (hwd : widT t = m) (hlt : k + m ≤ set.length) (hms : ms ≤ es) (h1 : t.ki ≠ 1) (h2 : t.ki ≠ 2) (hb : es ≤ 9223372036854775807) :
    Calls Tryz.prog 32 #[tgV t, .agg #[.int .i64 pu, .int .i64 pk, .int .i64 pa, .int .i64 pc, .int .i64 pe, .slice Pt pn pm], .agg #[.int .i64 x, .slice Bo mo eo, .slice Bs ms es, .slice Bf mf ef]] w fun e w' => e = .returned (.int .i64 (valN t.sc (rawN t.sc ((set.drop k).take m)))) ∧ Below w.heap.size w w' := by
  have hm12 := widT_le t
  have t3 := Box3.new w (.cells (tgC t).toArray 51) (.cells #[.int .i64 pu, .int .i64 pk, .int .i64 pa, .int .i64 pc, .int .i64 pe, .slice Pt pn pm] 25) (.cells #[.int .i64 x, .slice Bo mo eo, .slice Bs ms es, .slice Bf mf ef] 30)
  have HR := Lib.hid ((hr.below t3.bel).more t3.bel.size)
  obtain ⟨b, o, rfl, hb1, hc1⟩ := hr.at_ (i := k) (by omega)
  obtain ⟨a0, a1, a2, a3, a4⟩ := tgBox t3.1
  obtain ⟨p0, p1, p2, p3, p4, p5⟩ := of6 t3.2.1
  have hwr : IntKind.i64.wrap (t.ad - pa) = k := by rw [IntKind.wrap_i64]; omega
  have hwr2 : IntKind.i64.wrap ((k : Int) + (m : Int)) = (k : Int) + m := by rw [IntKind.wrap_i64]; omega
  have f1 : (t.ki == 1) = false := beq_false_of_ne h1
  have f2 : (t.ki == 2) = false := beq_false_of_ne h2
  have HW : Hid (∀ W : World, Calls Tryz.prog 61 #[tgV t] W fun e w' => e = .returned (.int .i64 (m : Int)) ∧ Below W.heap.size W w') := Lib.hid fun W => by rw [← hwd]; exact refWidth_t t W
  have HL : Hid (((set.drop k).take m).length = m) := Lib.hid (by rw [List.length_take, List.length_drop]; omega)
  have hkm : (k : Int) + m ≤ es := by omega
  have hk0 : (0 : Int) ≤ k := by omega
  have hm1 : (1 : Int) ≤ m := by omega
  have hkm2 : (k : Int) ≤ (k : Int) + m := by omega
  have hkm3 : (0 : Int) ≤ (k : Int) + m := by omega
  have hkm4 : ((k : Int) + m).toNat = k + m := by omega
  have hke : (k : Int) ≤ es := by omega
  have hke2 : ¬ es = k := by omega
  have hm2 : m ≤ 2 := by omega
  have hkes : k < es := by omega
  have hkmn : k + m ≤ es := by omega
  clear hr hc1 hb1 hm hk hwd hlt hms hm12 h1 h2
  have t3' := Lib.hid t3
  clear t3
  go_enter Tryz.func32, Tryz.ntmps32
  go_wp2
  clear a0 a1 a2 a3 a4 p0 p1 p2 p3 p4 p5
  generalize ((w.alloc (.cells (tgC t).toArray 51)).alloc (.cells #[.int .i64 pu, .int .i64 pk, .int .i64 pa, .int .i64 pc, .int .i64 pe, .slice Pt pn pm] 25)).alloc (.cells #[.int .i64 x, .slice Bo mo eo, .slice (some ⟨b, o, none⟩) ms es, .slice Bf mf ef] 30) = w0 at *
  have HK : Hid (∀ w9 : World, Below w0.heap.size w0 w9 → (Below w0.heap.size w0 w9 ∧ (ldSc (.pointer (some ⟨w.heap.size, 5, none⟩))).run Tryz.prog w9 = .ok (.agg #[.bool t.we, .bool t.sg, .bool t.sw, .int .i64 t.mu, .int .i64 t.di, .int .i64 t.aa]) w9 ∧ (ldTag (.pointer (some ⟨w.heap.size, 0, none⟩))).run Tryz.prog w9 = .ok (tgV t) w9 ∧ w9.cell? ⟨w.heap.size + 1 + 1, 2, none⟩ = some (.slice (some ⟨b, o, none⟩) ms es))) := Lib.hid fun w9 hw => ⟨hw, ldSc_run (keepB hw t3'.out.1), tgBox_ld (keepB hw t3'.out.1), cell_of_row _ _ 2 _ _ _ (keepB hw t3'.out.2.2.1)⟩
  have belh : ∀ w9 : World, (Below w0.heap.size w0 w9 ∧ (ldSc (.pointer (some ⟨w.heap.size, 5, none⟩))).run Tryz.prog w9 = .ok (.agg #[.bool t.we, .bool t.sg, .bool t.sw, .int .i64 t.mu, .int .i64 t.di, .int .i64 t.aa]) w9 ∧ (ldTag (.pointer (some ⟨w.heap.size, 0, none⟩))).run Tryz.prog w9 = .ok (tgV t) w9 ∧ w9.cell? ⟨w.heap.size + 1 + 1, 2, none⟩ = some (.slice (some ⟨b, o, none⟩) ms es)) → Below w0.heap.size w0 w9 := fun w9 h => h.1
  go_region_held3 (fun w9 => Below w0.heap.size w0 w9 ∧ (ldSc (.pointer (some ⟨w.heap.size, 5, none⟩))).run Tryz.prog w9 = .ok (.agg #[.bool t.we, .bool t.sg, .bool t.sw, .int .i64 t.mu, .int .i64 t.di, .int .i64 t.aa]) w9 ∧ (ldTag (.pointer (some ⟨w.heap.size, 0, none⟩))).run Tryz.prog w9 = .ok (tgV t) w9 ∧ w9.cell? ⟨w.heap.size + 1 + 1, 2, none⟩ = some (.slice (some ⟨b, o, none⟩) ms es))
    ((refine HK.out _ ?_
      repeat' (first
        | with_reducible exact Below.refl _ _
        | with_reducible exact bel7
        | with_reducible exact bel6
        | with_reducible exact bel5
        | with_reducible exact belh _ (by assumption)
        | with_reducible apply below_drew
        | with_reducible apply below_drewN
        | fail)))
    (first
      | (go_at_call 61; refine (HW.out _).mono ?_; rintro e w5 ⟨rfl, b5⟩; have bel5 : Below w0.heap.size w0 w5 := Below.trans (belh _ (by assumption)) (b5.mono (Below.size (belh _ (by assumption)))))
      | (go_at_call 24; have bh := belh _ (by assumption); refine (W.copy_u16 _ m _ ((set.drop k).take m) _ (((HR.out.below bh).more bh.size).piece k m) HL.out (by omega)).mono ?_; rintro e w6 ⟨v6, rfl, o6, b6⟩; have bel6 : Below w0.heap.size w0 w6 := Below.trans bh (b6.mono bh.size); obtain ⟨A6, c6, rfl, r6, _, _⟩ := o6.row (((HR.out.piece k m)).1); rw [HL.out])
      | (go_at_call 62; refine (refRaw_t t A6 m c6 _ _ (by assumption) HL.out (by omega)).mono ?_; rintro e w7 ⟨rfl, b7⟩; have bel7 : Below w0.heap.size w0 w7 := Below.trans (belh _ (by assumption)) (b7.mono (Below.size (belh _ (by assumption)))))
      | fail)
  have h7 := keepB bel7 t3'.out.1
  have hsc := ldSc_run h7
  have BEL := Lib.hid (t3'.out.bel.trans (bel7.mono t3'.out.bel.size))
  go_wp2_with fail
  refine (refValue_t t _ _).mono ?_
  rintro e w8 ⟨rfl, b8⟩
  go_wp2
  go_ret
  exact ⟨rfl, BEL.out.trans (b8.mono BEL.out.size)⟩
end Go.Proofs.YtcmbdhmhkfhjfaaGreat
namespace Go.Proofs.YtcmbdhmhkfhjfaaGreat
open Go.RowKit
set_option linter.unusedVariables false

set_option maxHeartbeats 4000000 in
set_option maxRecDepth 100000 in
theorem refRp_bits (q : Req) (r : Rep) (Ao As Ap Bo Bs Bf : Option Addr) (lo ls lp co cs cp mo ms mf eo es ef : Nat) (w : World) (h : Asked w w.heap.size q Ao As Ap lo ls lp) (hr : Repd w w.heap.size r Bo Bs Bf mo ms mf) (hb : lp ≤ 100000) (hk : chkQ q = 0) (hx : r.x = 0) (hc : q.c = 1 ∨ q.c = 2) :
    Calls Tryz.prog 30 #[.agg #[.int .i64 q.c, .int .i64 q.a, .int .i64 q.n, .slice Ao lo co, .slice As ls cs, .slice Ap lp cp], .agg #[.int .i64 r.x, .slice Bo mo eo, .slice Bs ms es, .slice Bf mf ef]] w fun e w' => e = .returned (.int .i64 (chkR q r)) ∧ Below w.heap.size w w' := by
  have tb := TB.new2 w #[.int .i64 q.c, .int .i64 q.a, .int .i64 q.n, .slice Ao lo co, .slice As ls cs, .slice Ap lp cp] #[.int .i64 r.x, .slice Bo mo eo, .slice Bs ms es, .slice Bf mf ef] 68 30
  have hsz : w.heap.size ≤ ((w.alloc (.cells #[.int .i64 q.c, .int .i64 q.a, .int .i64 q.n, .slice Ao lo co, .slice As ls cs, .slice Ap lp cp] 68)).alloc (.cells #[.int .i64 r.x, .slice Bo mo eo, .slice Bs ms es, .slice Bf mf ef] 30)).heap.size := tb.bel.size
  have H0 := Lib.hid h
  have HR0 := Lib.hid hr
  have H := Lib.hid ((h.below tb.bel).more hsz)
  obtain ⟨E, hE⟩ : ∃ E, Hid (chkR q r = E) := ⟨_, Lib.hid rfl⟩
  rw [hE.out]
  have HMO := Lib.hid hr.mo
  have HMS := Lib.hid hr.ms
  have HMF := Lib.hid hr.mf
  have HC := Lib.hid (refCheck_any q Ao As Ap lo ls lp co cs cp _ H.out)
  rw [chkQ_of H.out, hk] at HC
  have HB : Hid (clB q.c = true) := Lib.hid (decide_eq_true hc)
  have HW : Hid (clW q.c = false) := Lib.hid (decide_eq_false (by omega))
  have HF : Hid (clF q.c = false) := Lib.hid (decide_eq_false (by omega))
  have HS : Hid (strayB q.c mo ms mf = anyB 0 ms mf) := Lib.hid (by unfold strayB; rw [if_pos hc, if_neg (show ¬ (q.c = 3 ∨ q.c = 4) by omega), if_neg (show ¬ (q.c = 20) by omega)])
  have HM2 : Hid (manyB q r = decide ((mo : Int) = q.n)) := Lib.hid (by unfold manyB; rw [if_pos hc, HMO.out])
  have HE : Hid (E = if strayB q.c mo ms mf = true then 23 else if manyB q r = false then 22 else 0) := Lib.hid (by
    rw [← hE.out]; unfold chkR; rw [if_neg (show ¬ chkQ q ≠ 0 by rw [hk]; simp), if_neg (show ¬ r.x ≠ 0 by simp [hx]), HMO.out, HMS.out, HMF.out])
  have u1 : (r.x != 0) = false := by simp [hx]
  have u2 : (r.x == 0) = true := by simp [hx]
  clear h hr hk hx hE H hc
  by_cases g1 : 0 < mo
  · have g1' : (0 : Int) < (mo : Int) := by omega
    by_cases g2 : 0 < ms
    · have g2' : (0 : Int) < (ms : Int) := by omega
      by_cases g3 : 0 < mf
      · have g3' : (0 : Int) < (mf : Int) := by omega
        have hl : Hid (E = 23) := Lib.hid (by rw [HE.out, HS.out, if_pos (by simp [anyB]; omega)])
        clear HE HS
        go_enter Tryz.func30, Tryz.ntmps30
        go_wp2_with fail
        refine HC.out.mono ?_
        rintro e w1 ⟨rfl, b1⟩
        have tb := tb.below b1
        clear b1
        obtain ⟨d0, d1, d2, d3, d4⟩ := tb.c4; obtain ⟨r0, r1, r2, r3, r4, r5, r6⟩ := tb.r6
        go_wp2_with (first | (go_at_call 58; refine (refKindBits_any q.c q.a q.n Ao As Ap lo co ls cs lp cp _).mono ?_; rintro e w9 ⟨rfl, b9⟩; rw [HB.out]; have tb := tb.below b9; obtain ⟨d0, d1, d2, d3, d4⟩ := tb.c4; obtain ⟨r0, r1, r2, r3, r4, r5, r6⟩ := tb.r6) | (go_at_call 59; refine (refWords_kind q.c q.a q.n Ao As Ap lo co ls cs lp cp _).mono ?_; rintro e w9 ⟨rfl, b9⟩; rw [HW.out]; have tb := tb.below b9; obtain ⟨d0, d1, d2, d3, d4⟩ := tb.c4; obtain ⟨r0, r1, r2, r3, r4, r5, r6⟩ := tb.r6) | (go_at_call 60; refine (refFiles_kind q.c q.a q.n Ao As Ap lo co ls cs lp cp _).mono ?_; rintro e w9 ⟨rfl, b9⟩; rw [HF.out]; have tb := tb.below b9; obtain ⟨d0, d1, d2, d3, d4⟩ := tb.c4; obtain ⟨r0, r1, r2, r3, r4, r5, r6⟩ := tb.r6))
        go_ret
        exact ⟨by rw [hl.out]; rfl, tb.bel⟩
      · have g3' : ¬ (0 : Int) < (mf : Int) := by omega
        have hl : Hid (E = 23) := Lib.hid (by rw [HE.out, HS.out, if_pos (by simp [anyB]; omega)])
        clear HE HS
        go_enter Tryz.func30, Tryz.ntmps30
        go_wp2_with fail
        refine HC.out.mono ?_
        rintro e w1 ⟨rfl, b1⟩
        have tb := tb.below b1
        clear b1
        obtain ⟨d0, d1, d2, d3, d4⟩ := tb.c4; obtain ⟨r0, r1, r2, r3, r4, r5, r6⟩ := tb.r6
        go_wp2_with (first | (go_at_call 58; refine (refKindBits_any q.c q.a q.n Ao As Ap lo co ls cs lp cp _).mono ?_; rintro e w9 ⟨rfl, b9⟩; rw [HB.out]; have tb := tb.below b9; obtain ⟨d0, d1, d2, d3, d4⟩ := tb.c4; obtain ⟨r0, r1, r2, r3, r4, r5, r6⟩ := tb.r6) | (go_at_call 59; refine (refWords_kind q.c q.a q.n Ao As Ap lo co ls cs lp cp _).mono ?_; rintro e w9 ⟨rfl, b9⟩; rw [HW.out]; have tb := tb.below b9; obtain ⟨d0, d1, d2, d3, d4⟩ := tb.c4; obtain ⟨r0, r1, r2, r3, r4, r5, r6⟩ := tb.r6) | (go_at_call 60; refine (refFiles_kind q.c q.a q.n Ao As Ap lo co ls cs lp cp _).mono ?_; rintro e w9 ⟨rfl, b9⟩; rw [HF.out]; have tb := tb.below b9; obtain ⟨d0, d1, d2, d3, d4⟩ := tb.c4; obtain ⟨r0, r1, r2, r3, r4, r5, r6⟩ := tb.r6))
        go_ret
        exact ⟨by rw [hl.out]; rfl, tb.bel⟩
    · have g2' : ¬ (0 : Int) < (ms : Int) := by omega
      by_cases g3 : 0 < mf
      · have g3' : (0 : Int) < (mf : Int) := by omega
        have hl : Hid (E = 23) := Lib.hid (by rw [HE.out, HS.out, if_pos (by simp [anyB]; omega)])
        clear HE HS
        go_enter Tryz.func30, Tryz.ntmps30
        go_wp2_with fail
        refine HC.out.mono ?_
        rintro e w1 ⟨rfl, b1⟩
        have tb := tb.below b1
        clear b1
        obtain ⟨d0, d1, d2, d3, d4⟩ := tb.c4; obtain ⟨r0, r1, r2, r3, r4, r5, r6⟩ := tb.r6
        go_wp2_with (first | (go_at_call 58; refine (refKindBits_any q.c q.a q.n Ao As Ap lo co ls cs lp cp _).mono ?_; rintro e w9 ⟨rfl, b9⟩; rw [HB.out]; have tb := tb.below b9; obtain ⟨d0, d1, d2, d3, d4⟩ := tb.c4; obtain ⟨r0, r1, r2, r3, r4, r5, r6⟩ := tb.r6) | (go_at_call 59; refine (refWords_kind q.c q.a q.n Ao As Ap lo co ls cs lp cp _).mono ?_; rintro e w9 ⟨rfl, b9⟩; rw [HW.out]; have tb := tb.below b9; obtain ⟨d0, d1, d2, d3, d4⟩ := tb.c4; obtain ⟨r0, r1, r2, r3, r4, r5, r6⟩ := tb.r6) | (go_at_call 60; refine (refFiles_kind q.c q.a q.n Ao As Ap lo co ls cs lp cp _).mono ?_; rintro e w9 ⟨rfl, b9⟩; rw [HF.out]; have tb := tb.below b9; obtain ⟨d0, d1, d2, d3, d4⟩ := tb.c4; obtain ⟨r0, r1, r2, r3, r4, r5, r6⟩ := tb.r6))
        go_ret
        exact ⟨by rw [hl.out]; rfl, tb.bel⟩
      · have g3' : ¬ (0 : Int) < (mf : Int) := by omega
        have HEM : Hid (E = if manyB q r = false then 22 else 0) := Lib.hid (by rw [HE.out, HS.out, if_neg (by simp [anyB]; try omega)])
        by_cases he : (mo : Int) = q.n
        · have u3 : ((mo : Int) != q.n) = false := by simp [he]
          have u4 : ((mo : Int) == q.n) = true := by simp [he]
          have HN : Hid (manyB q r = true) := Lib.hid (by rw [HM2.out]; exact decide_eq_true he)
          clear he HE HS
          go_enter Tryz.func30, Tryz.ntmps30
          go_wp2_with fail
          refine HC.out.mono ?_
          rintro e w1 ⟨rfl, b1⟩
          have tb := tb.below b1
          clear b1
          obtain ⟨d0, d1, d2, d3, d4⟩ := tb.c4; obtain ⟨r0, r1, r2, r3, r4, r5, r6⟩ := tb.r6
          go_wp2_with (first | (go_at_call 58; refine (refKindBits_any q.c q.a q.n Ao As Ap lo co ls cs lp cp _).mono ?_; rintro e w9 ⟨rfl, b9⟩; rw [HB.out]; have tb := tb.below b9; obtain ⟨d0, d1, d2, d3, d4⟩ := tb.c4; obtain ⟨r0, r1, r2, r3, r4, r5, r6⟩ := tb.r6) | (go_at_call 59; refine (refWords_kind q.c q.a q.n Ao As Ap lo co ls cs lp cp _).mono ?_; rintro e w9 ⟨rfl, b9⟩; rw [HW.out]; have tb := tb.below b9; obtain ⟨d0, d1, d2, d3, d4⟩ := tb.c4; obtain ⟨r0, r1, r2, r3, r4, r5, r6⟩ := tb.r6) | (go_at_call 60; refine (refFiles_kind q.c q.a q.n Ao As Ap lo co ls cs lp cp _).mono ?_; rintro e w9 ⟨rfl, b9⟩; rw [HF.out]; have tb := tb.below b9; obtain ⟨d0, d1, d2, d3, d4⟩ := tb.c4; obtain ⟨r0, r1, r2, r3, r4, r5, r6⟩ := tb.r6))
          go_loopw [6] (fun i wr => ∃ k : Nat, k ≤ mf ∧ i = .int .i64 k ∧ TB w w.heap.size (.cells #[.int .i64 q.c, .int .i64 q.a, .int .i64 q.n, .slice Ao lo co, .slice As ls cs, .slice Ap lp cp] 68 (0, 0)) (.cells #[.int .i64 r.x, .slice Bo mo eo, .slice Bs ms es, .slice Bf mf ef] 30 (0, 0)) wr ∧ Hid (∀ j, j < k → ((nthF r.fs j).length : Int) = nth q.fl (3 * j + 2))) (fun i _ => mf - (intOf i).toNat)
          case atStart => exact ⟨0, by omega, rfl, tb, Lib.hid (fun j h => by omega)⟩
          case round =>
            clear d0 d1 d2 d3 d4 r0 r1 r2 r3 r4 r5 r6 tb
            obtain ⟨k, hk, rfl, tb, hs⟩ := hrel
            by_cases hlt : k < mf
            · exact absurd hlt (by omega)
            · obtain rfl : k = mf := by omega
              have hl : Hid (E = 0) := Lib.hid (by rw [HEM.out, HN.out]; rfl)
              obtain ⟨d0, d1, d2, d3, d4⟩ := tb.c4; obtain ⟨r0, r1, r2, r3, r4, r5, r6⟩ := tb.r6
              go_wp2
              go_ret
              exact ⟨by rw [hl.out]; rfl, tb.bel⟩
        · have u3 : ((mo : Int) != q.n) = true := by simpa using he
          have u4 : ((mo : Int) == q.n) = false := beq_false_of_ne he
          have HN : Hid (manyB q r = false) := Lib.hid (by rw [HM2.out]; exact decide_eq_false he)
          clear he
          have hl : Hid (E = 22) := Lib.hid (by rw [HEM.out, HN.out]; rfl)
          clear HE HS
          go_enter Tryz.func30, Tryz.ntmps30
          go_wp2_with fail
          refine HC.out.mono ?_
          rintro e w1 ⟨rfl, b1⟩
          have tb := tb.below b1
          clear b1
          obtain ⟨d0, d1, d2, d3, d4⟩ := tb.c4; obtain ⟨r0, r1, r2, r3, r4, r5, r6⟩ := tb.r6
          go_wp2_with (first | (go_at_call 58; refine (refKindBits_any q.c q.a q.n Ao As Ap lo co ls cs lp cp _).mono ?_; rintro e w9 ⟨rfl, b9⟩; rw [HB.out]; have tb := tb.below b9; obtain ⟨d0, d1, d2, d3, d4⟩ := tb.c4; obtain ⟨r0, r1, r2, r3, r4, r5, r6⟩ := tb.r6) | (go_at_call 59; refine (refWords_kind q.c q.a q.n Ao As Ap lo co ls cs lp cp _).mono ?_; rintro e w9 ⟨rfl, b9⟩; rw [HW.out]; have tb := tb.below b9; obtain ⟨d0, d1, d2, d3, d4⟩ := tb.c4; obtain ⟨r0, r1, r2, r3, r4, r5, r6⟩ := tb.r6) | (go_at_call 60; refine (refFiles_kind q.c q.a q.n Ao As Ap lo co ls cs lp cp _).mono ?_; rintro e w9 ⟨rfl, b9⟩; rw [HF.out]; have tb := tb.below b9; obtain ⟨d0, d1, d2, d3, d4⟩ := tb.c4; obtain ⟨r0, r1, r2, r3, r4, r5, r6⟩ := tb.r6))
          go_ret
          exact ⟨by rw [hl.out]; rfl, tb.bel⟩
  · have g1' : ¬ (0 : Int) < (mo : Int) := by omega
    by_cases g2 : 0 < ms
    · have g2' : (0 : Int) < (ms : Int) := by omega
      by_cases g3 : 0 < mf
      · have g3' : (0 : Int) < (mf : Int) := by omega
        have hl : Hid (E = 23) := Lib.hid (by rw [HE.out, HS.out, if_pos (by simp [anyB]; omega)])
        clear HE HS
        go_enter Tryz.func30, Tryz.ntmps30
        go_wp2_with fail
        refine HC.out.mono ?_
        rintro e w1 ⟨rfl, b1⟩
        have tb := tb.below b1
        clear b1
        obtain ⟨d0, d1, d2, d3, d4⟩ := tb.c4; obtain ⟨r0, r1, r2, r3, r4, r5, r6⟩ := tb.r6
        go_wp2_with (first | (go_at_call 58; refine (refKindBits_any q.c q.a q.n Ao As Ap lo co ls cs lp cp _).mono ?_; rintro e w9 ⟨rfl, b9⟩; rw [HB.out]; have tb := tb.below b9; obtain ⟨d0, d1, d2, d3, d4⟩ := tb.c4; obtain ⟨r0, r1, r2, r3, r4, r5, r6⟩ := tb.r6) | (go_at_call 59; refine (refWords_kind q.c q.a q.n Ao As Ap lo co ls cs lp cp _).mono ?_; rintro e w9 ⟨rfl, b9⟩; rw [HW.out]; have tb := tb.below b9; obtain ⟨d0, d1, d2, d3, d4⟩ := tb.c4; obtain ⟨r0, r1, r2, r3, r4, r5, r6⟩ := tb.r6) | (go_at_call 60; refine (refFiles_kind q.c q.a q.n Ao As Ap lo co ls cs lp cp _).mono ?_; rintro e w9 ⟨rfl, b9⟩; rw [HF.out]; have tb := tb.below b9; obtain ⟨d0, d1, d2, d3, d4⟩ := tb.c4; obtain ⟨r0, r1, r2, r3, r4, r5, r6⟩ := tb.r6))
        go_ret
        exact ⟨by rw [hl.out]; rfl, tb.bel⟩
      · have g3' : ¬ (0 : Int) < (mf : Int) := by omega
        have hl : Hid (E = 23) := Lib.hid (by rw [HE.out, HS.out, if_pos (by simp [anyB]; omega)])
        clear HE HS
        go_enter Tryz.func30, Tryz.ntmps30
        go_wp2_with fail
        refine HC.out.mono ?_
        rintro e w1 ⟨rfl, b1⟩
        have tb := tb.below b1
        clear b1
        obtain ⟨d0, d1, d2, d3, d4⟩ := tb.c4; obtain ⟨r0, r1, r2, r3, r4, r5, r6⟩ := tb.r6
        go_wp2_with (first | (go_at_call 58; refine (refKindBits_any q.c q.a q.n Ao As Ap lo co ls cs lp cp _).mono ?_; rintro e w9 ⟨rfl, b9⟩; rw [HB.out]; have tb := tb.below b9; obtain ⟨d0, d1, d2, d3, d4⟩ := tb.c4; obtain ⟨r0, r1, r2, r3, r4, r5, r6⟩ := tb.r6) | (go_at_call 59; refine (refWords_kind q.c q.a q.n Ao As Ap lo co ls cs lp cp _).mono ?_; rintro e w9 ⟨rfl, b9⟩; rw [HW.out]; have tb := tb.below b9; obtain ⟨d0, d1, d2, d3, d4⟩ := tb.c4; obtain ⟨r0, r1, r2, r3, r4, r5, r6⟩ := tb.r6) | (go_at_call 60; refine (refFiles_kind q.c q.a q.n Ao As Ap lo co ls cs lp cp _).mono ?_; rintro e w9 ⟨rfl, b9⟩; rw [HF.out]; have tb := tb.below b9; obtain ⟨d0, d1, d2, d3, d4⟩ := tb.c4; obtain ⟨r0, r1, r2, r3, r4, r5, r6⟩ := tb.r6))
        go_ret
        exact ⟨by rw [hl.out]; rfl, tb.bel⟩
    · have g2' : ¬ (0 : Int) < (ms : Int) := by omega
      by_cases g3 : 0 < mf
      · have g3' : (0 : Int) < (mf : Int) := by omega
        have hl : Hid (E = 23) := Lib.hid (by rw [HE.out, HS.out, if_pos (by simp [anyB]; omega)])
        clear HE HS
        go_enter Tryz.func30, Tryz.ntmps30
        go_wp2_with fail
        refine HC.out.mono ?_
        rintro e w1 ⟨rfl, b1⟩
        have tb := tb.below b1
        clear b1
        obtain ⟨d0, d1, d2, d3, d4⟩ := tb.c4; obtain ⟨r0, r1, r2, r3, r4, r5, r6⟩ := tb.r6
        go_wp2_with (first | (go_at_call 58; refine (refKindBits_any q.c q.a q.n Ao As Ap lo co ls cs lp cp _).mono ?_; rintro e w9 ⟨rfl, b9⟩; rw [HB.out]; have tb := tb.below b9; obtain ⟨d0, d1, d2, d3, d4⟩ := tb.c4; obtain ⟨r0, r1, r2, r3, r4, r5, r6⟩ := tb.r6) | (go_at_call 59; refine (refWords_kind q.c q.a q.n Ao As Ap lo co ls cs lp cp _).mono ?_; rintro e w9 ⟨rfl, b9⟩; rw [HW.out]; have tb := tb.below b9; obtain ⟨d0, d1, d2, d3, d4⟩ := tb.c4; obtain ⟨r0, r1, r2, r3, r4, r5, r6⟩ := tb.r6) | (go_at_call 60; refine (refFiles_kind q.c q.a q.n Ao As Ap lo co ls cs lp cp _).mono ?_; rintro e w9 ⟨rfl, b9⟩; rw [HF.out]; have tb := tb.below b9; obtain ⟨d0, d1, d2, d3, d4⟩ := tb.c4; obtain ⟨r0, r1, r2, r3, r4, r5, r6⟩ := tb.r6))
        go_ret
        exact ⟨by rw [hl.out]; rfl, tb.bel⟩
      · have g3' : ¬ (0 : Int) < (mf : Int) := by omega
        have HEM : Hid (E = if manyB q r = false then 22 else 0) := Lib.hid (by rw [HE.out, HS.out, if_neg (by simp [anyB]; try omega)])
        by_cases he : (mo : Int) = q.n
        · have u3 : ((mo : Int) != q.n) = false := by simp [he]
          have u4 : ((mo : Int) == q.n) = true := by simp [he]
          have HN : Hid (manyB q r = true) := Lib.hid (by rw [HM2.out]; exact decide_eq_true he)
          clear he HE HS
          go_enter Tryz.func30, Tryz.ntmps30
          go_wp2_with fail
          refine HC.out.mono ?_
          rintro e w1 ⟨rfl, b1⟩
          have tb := tb.below b1
          clear b1
          obtain ⟨d0, d1, d2, d3, d4⟩ := tb.c4; obtain ⟨r0, r1, r2, r3, r4, r5, r6⟩ := tb.r6
          go_wp2_with (first | (go_at_call 58; refine (refKindBits_any q.c q.a q.n Ao As Ap lo co ls cs lp cp _).mono ?_; rintro e w9 ⟨rfl, b9⟩; rw [HB.out]; have tb := tb.below b9; obtain ⟨d0, d1, d2, d3, d4⟩ := tb.c4; obtain ⟨r0, r1, r2, r3, r4, r5, r6⟩ := tb.r6) | (go_at_call 59; refine (refWords_kind q.c q.a q.n Ao As Ap lo co ls cs lp cp _).mono ?_; rintro e w9 ⟨rfl, b9⟩; rw [HW.out]; have tb := tb.below b9; obtain ⟨d0, d1, d2, d3, d4⟩ := tb.c4; obtain ⟨r0, r1, r2, r3, r4, r5, r6⟩ := tb.r6) | (go_at_call 60; refine (refFiles_kind q.c q.a q.n Ao As Ap lo co ls cs lp cp _).mono ?_; rintro e w9 ⟨rfl, b9⟩; rw [HF.out]; have tb := tb.below b9; obtain ⟨d0, d1, d2, d3, d4⟩ := tb.c4; obtain ⟨r0, r1, r2, r3, r4, r5, r6⟩ := tb.r6))
          go_loopw [6] (fun i wr => ∃ k : Nat, k ≤ mf ∧ i = .int .i64 k ∧ TB w w.heap.size (.cells #[.int .i64 q.c, .int .i64 q.a, .int .i64 q.n, .slice Ao lo co, .slice As ls cs, .slice Ap lp cp] 68 (0, 0)) (.cells #[.int .i64 r.x, .slice Bo mo eo, .slice Bs ms es, .slice Bf mf ef] 30 (0, 0)) wr ∧ Hid (∀ j, j < k → ((nthF r.fs j).length : Int) = nth q.fl (3 * j + 2))) (fun i _ => mf - (intOf i).toNat)
          case atStart => exact ⟨0, by omega, rfl, tb, Lib.hid (fun j h => by omega)⟩
          case round =>
            clear d0 d1 d2 d3 d4 r0 r1 r2 r3 r4 r5 r6 tb
            obtain ⟨k, hk, rfl, tb, hs⟩ := hrel
            by_cases hlt : k < mf
            · exact absurd hlt (by omega)
            · obtain rfl : k = mf := by omega
              have hl : Hid (E = 0) := Lib.hid (by rw [HEM.out, HN.out]; rfl)
              obtain ⟨d0, d1, d2, d3, d4⟩ := tb.c4; obtain ⟨r0, r1, r2, r3, r4, r5, r6⟩ := tb.r6
              go_wp2
              go_ret
              exact ⟨by rw [hl.out]; rfl, tb.bel⟩
        · have u3 : ((mo : Int) != q.n) = true := by simpa using he
          have u4 : ((mo : Int) == q.n) = false := beq_false_of_ne he
          have HN : Hid (manyB q r = false) := Lib.hid (by rw [HM2.out]; exact decide_eq_false he)
          clear he
          have hl : Hid (E = 22) := Lib.hid (by rw [HEM.out, HN.out]; rfl)
          clear HE HS
          go_enter Tryz.func30, Tryz.ntmps30
          go_wp2_with fail
          refine HC.out.mono ?_
          rintro e w1 ⟨rfl, b1⟩
          have tb := tb.below b1
          clear b1
          obtain ⟨d0, d1, d2, d3, d4⟩ := tb.c4; obtain ⟨r0, r1, r2, r3, r4, r5, r6⟩ := tb.r6
          go_wp2_with (first | (go_at_call 58; refine (refKindBits_any q.c q.a q.n Ao As Ap lo co ls cs lp cp _).mono ?_; rintro e w9 ⟨rfl, b9⟩; rw [HB.out]; have tb := tb.below b9; obtain ⟨d0, d1, d2, d3, d4⟩ := tb.c4; obtain ⟨r0, r1, r2, r3, r4, r5, r6⟩ := tb.r6) | (go_at_call 59; refine (refWords_kind q.c q.a q.n Ao As Ap lo co ls cs lp cp _).mono ?_; rintro e w9 ⟨rfl, b9⟩; rw [HW.out]; have tb := tb.below b9; obtain ⟨d0, d1, d2, d3, d4⟩ := tb.c4; obtain ⟨r0, r1, r2, r3, r4, r5, r6⟩ := tb.r6) | (go_at_call 60; refine (refFiles_kind q.c q.a q.n Ao As Ap lo co ls cs lp cp _).mono ?_; rintro e w9 ⟨rfl, b9⟩; rw [HF.out]; have tb := tb.below b9; obtain ⟨d0, d1, d2, d3, d4⟩ := tb.c4; obtain ⟨r0, r1, r2, r3, r4, r5, r6⟩ := tb.r6))
          go_ret
          exact ⟨by rw [hl.out]; rfl, tb.bel⟩
end Go.Proofs.YtcmbdhmhkfhjfaaGreat
namespace Go.Proofs.YtcmbdhmhkfhjfaaGreat
open Go.RowKit
set_option linter.unusedVariables false

set_option maxHeartbeats 4000000 in
set_option maxRecDepth 100000 in
theorem refRp_words (q : Req) (r : Rep) (Ao As Ap Bo Bs Bf : Option Addr) (lo ls lp co cs cp mo ms mf eo es ef : Nat) (w : World) (h : Asked w w.heap.size q Ao As Ap lo ls lp) (hr : Repd w w.heap.size r Bo Bs Bf mo ms mf) (hb : lp ≤ 100000) (hk : chkQ q = 0) (hx : r.x = 0) (hc : q.c = 3 ∨ q.c = 4) :
    Calls Tryz.prog 30 #[.agg #[.int .i64 q.c, .int .i64 q.a, .int .i64 q.n, .slice Ao lo co, .slice As ls cs, .slice Ap lp cp], .agg #[.int .i64 r.x, .slice Bo mo eo, .slice Bs ms es, .slice Bf mf ef]] w fun e w' => e = .returned (.int .i64 (chkR q r)) ∧ Below w.heap.size w w' := by
  have tb := TB.new2 w #[.int .i64 q.c, .int .i64 q.a, .int .i64 q.n, .slice Ao lo co, .slice As ls cs, .slice Ap lp cp] #[.int .i64 r.x, .slice Bo mo eo, .slice Bs ms es, .slice Bf mf ef] 68 30
  have hsz : w.heap.size ≤ ((w.alloc (.cells #[.int .i64 q.c, .int .i64 q.a, .int .i64 q.n, .slice Ao lo co, .slice As ls cs, .slice Ap lp cp] 68)).alloc (.cells #[.int .i64 r.x, .slice Bo mo eo, .slice Bs ms es, .slice Bf mf ef] 30)).heap.size := tb.bel.size
  have H0 := Lib.hid h
  have HR0 := Lib.hid hr
  have H := Lib.hid ((h.below tb.bel).more hsz)
  obtain ⟨E, hE⟩ : ∃ E, Hid (chkR q r = E) := ⟨_, Lib.hid rfl⟩
  rw [hE.out]
  have HMO := Lib.hid hr.mo
  have HMS := Lib.hid hr.ms
  have HMF := Lib.hid hr.mf
  have HC := Lib.hid (refCheck_any q Ao As Ap lo ls lp co cs cp _ H.out)
  rw [chkQ_of H.out, hk] at HC
  have HB : Hid (clB q.c = false) := Lib.hid (decide_eq_false (by omega))
  have HW : Hid (clW q.c = true) := Lib.hid (decide_eq_true hc)
  have HF : Hid (clF q.c = false) := Lib.hid (decide_eq_false (by omega))
  have HS : Hid (strayB q.c mo ms mf = anyB mo 0 mf) := Lib.hid (by unfold strayB; rw [if_neg (show ¬ (q.c = 1 ∨ q.c = 2) by omega), if_pos hc, if_neg (show ¬ (q.c = 20) by omega)])
  have HM2 : Hid (manyB q r = decide ((ms : Int) = q.n)) := Lib.hid (by unfold manyB; rw [if_neg (show ¬ (q.c = 1 ∨ q.c = 2) by omega), if_pos hc, HMS.out])
  have HE : Hid (E = if strayB q.c mo ms mf = true then 23 else if manyB q r = false then 22 else 0) := Lib.hid (by
    rw [← hE.out]; unfold chkR; rw [if_neg (show ¬ chkQ q ≠ 0 by rw [hk]; simp), if_neg (show ¬ r.x ≠ 0 by simp [hx]), HMO.out, HMS.out, HMF.out])
  have u1 : (r.x != 0) = false := by simp [hx]
  have u2 : (r.x == 0) = true := by simp [hx]
  clear h hr hk hx hE H hc
  by_cases g1 : 0 < mo
  · have g1' : (0 : Int) < (mo : Int) := by omega
    by_cases g2 : 0 < ms
    · have g2' : (0 : Int) < (ms : Int) := by omega
      by_cases g3 : 0 < mf
      · have g3' : (0 : Int) < (mf : Int) := by omega
        have hl : Hid (E = 23) := Lib.hid (by rw [HE.out, HS.out, if_pos (by simp [anyB]; omega)])
        clear HE HS
        go_enter Tryz.func30, Tryz.ntmps30
        go_wp2_with fail
        refine HC.out.mono ?_
        rintro e w1 ⟨rfl, b1⟩
        have tb := tb.below b1
        clear b1
        obtain ⟨d0, d1, d2, d3, d4⟩ := tb.c4; obtain ⟨r0, r1, r2, r3, r4, r5, r6⟩ := tb.r6
        go_wp2_with (first | (go_at_call 58; refine (refKindBits_any q.c q.a q.n Ao As Ap lo co ls cs lp cp _).mono ?_; rintro e w9 ⟨rfl, b9⟩; rw [HB.out]; have tb := tb.below b9; obtain ⟨d0, d1, d2, d3, d4⟩ := tb.c4; obtain ⟨r0, r1, r2, r3, r4, r5, r6⟩ := tb.r6) | (go_at_call 59; refine (refWords_kind q.c q.a q.n Ao As Ap lo co ls cs lp cp _).mono ?_; rintro e w9 ⟨rfl, b9⟩; rw [HW.out]; have tb := tb.below b9; obtain ⟨d0, d1, d2, d3, d4⟩ := tb.c4; obtain ⟨r0, r1, r2, r3, r4, r5, r6⟩ := tb.r6) | (go_at_call 60; refine (refFiles_kind q.c q.a q.n Ao As Ap lo co ls cs lp cp _).mono ?_; rintro e w9 ⟨rfl, b9⟩; rw [HF.out]; have tb := tb.below b9; obtain ⟨d0, d1, d2, d3, d4⟩ := tb.c4; obtain ⟨r0, r1, r2, r3, r4, r5, r6⟩ := tb.r6))
        go_ret
        exact ⟨by rw [hl.out]; rfl, tb.bel⟩
      · have g3' : ¬ (0 : Int) < (mf : Int) := by omega
        have hl : Hid (E = 23) := Lib.hid (by rw [HE.out, HS.out, if_pos (by simp [anyB]; omega)])
        clear HE HS
        go_enter Tryz.func30, Tryz.ntmps30
        go_wp2_with fail
        refine HC.out.mono ?_
        rintro e w1 ⟨rfl, b1⟩
        have tb := tb.below b1
        clear b1
        obtain ⟨d0, d1, d2, d3, d4⟩ := tb.c4; obtain ⟨r0, r1, r2, r3, r4, r5, r6⟩ := tb.r6
        go_wp2_with (first | (go_at_call 58; refine (refKindBits_any q.c q.a q.n Ao As Ap lo co ls cs lp cp _).mono ?_; rintro e w9 ⟨rfl, b9⟩; rw [HB.out]; have tb := tb.below b9; obtain ⟨d0, d1, d2, d3, d4⟩ := tb.c4; obtain ⟨r0, r1, r2, r3, r4, r5, r6⟩ := tb.r6) | (go_at_call 59; refine (refWords_kind q.c q.a q.n Ao As Ap lo co ls cs lp cp _).mono ?_; rintro e w9 ⟨rfl, b9⟩; rw [HW.out]; have tb := tb.below b9; obtain ⟨d0, d1, d2, d3, d4⟩ := tb.c4; obtain ⟨r0, r1, r2, r3, r4, r5, r6⟩ := tb.r6) | (go_at_call 60; refine (refFiles_kind q.c q.a q.n Ao As Ap lo co ls cs lp cp _).mono ?_; rintro e w9 ⟨rfl, b9⟩; rw [HF.out]; have tb := tb.below b9; obtain ⟨d0, d1, d2, d3, d4⟩ := tb.c4; obtain ⟨r0, r1, r2, r3, r4, r5, r6⟩ := tb.r6))
        go_ret
        exact ⟨by rw [hl.out]; rfl, tb.bel⟩
    · have g2' : ¬ (0 : Int) < (ms : Int) := by omega
      by_cases g3 : 0 < mf
      · have g3' : (0 : Int) < (mf : Int) := by omega
        have hl : Hid (E = 23) := Lib.hid (by rw [HE.out, HS.out, if_pos (by simp [anyB]; omega)])
        clear HE HS
        go_enter Tryz.func30, Tryz.ntmps30
        go_wp2_with fail
        refine HC.out.mono ?_
        rintro e w1 ⟨rfl, b1⟩
        have tb := tb.below b1
        clear b1
        obtain ⟨d0, d1, d2, d3, d4⟩ := tb.c4; obtain ⟨r0, r1, r2, r3, r4, r5, r6⟩ := tb.r6
        go_wp2_with (first | (go_at_call 58; refine (refKindBits_any q.c q.a q.n Ao As Ap lo co ls cs lp cp _).mono ?_; rintro e w9 ⟨rfl, b9⟩; rw [HB.out]; have tb := tb.below b9; obtain ⟨d0, d1, d2, d3, d4⟩ := tb.c4; obtain ⟨r0, r1, r2, r3, r4, r5, r6⟩ := tb.r6) | (go_at_call 59; refine (refWords_kind q.c q.a q.n Ao As Ap lo co ls cs lp cp _).mono ?_; rintro e w9 ⟨rfl, b9⟩; rw [HW.out]; have tb := tb.below b9; obtain ⟨d0, d1, d2, d3, d4⟩ := tb.c4; obtain ⟨r0, r1, r2, r3, r4, r5, r6⟩ := tb.r6) | (go_at_call 60; refine (refFiles_kind q.c q.a q.n Ao As Ap lo co ls cs lp cp _).mono ?_; rintro e w9 ⟨rfl, b9⟩; rw [HF.out]; have tb := tb.below b9; obtain ⟨d0, d1, d2, d3, d4⟩ := tb.c4; obtain ⟨r0, r1, r2, r3, r4, r5, r6⟩ := tb.r6))
        go_ret
        exact ⟨by rw [hl.out]; rfl, tb.bel⟩
      · have g3' : ¬ (0 : Int) < (mf : Int) := by omega
        have hl : Hid (E = 23) := Lib.hid (by rw [HE.out, HS.out, if_pos (by simp [anyB]; omega)])
        clear HE HS
        go_enter Tryz.func30, Tryz.ntmps30
        go_wp2_with fail
        refine HC.out.mono ?_
        rintro e w1 ⟨rfl, b1⟩
        have tb := tb.below b1
        clear b1
        obtain ⟨d0, d1, d2, d3, d4⟩ := tb.c4; obtain ⟨r0, r1, r2, r3, r4, r5, r6⟩ := tb.r6
        go_wp2_with (first | (go_at_call 58; refine (refKindBits_any q.c q.a q.n Ao As Ap lo co ls cs lp cp _).mono ?_; rintro e w9 ⟨rfl, b9⟩; rw [HB.out]; have tb := tb.below b9; obtain ⟨d0, d1, d2, d3, d4⟩ := tb.c4; obtain ⟨r0, r1, r2, r3, r4, r5, r6⟩ := tb.r6) | (go_at_call 59; refine (refWords_kind q.c q.a q.n Ao As Ap lo co ls cs lp cp _).mono ?_; rintro e w9 ⟨rfl, b9⟩; rw [HW.out]; have tb := tb.below b9; obtain ⟨d0, d1, d2, d3, d4⟩ := tb.c4; obtain ⟨r0, r1, r2, r3, r4, r5, r6⟩ := tb.r6) | (go_at_call 60; refine (refFiles_kind q.c q.a q.n Ao As Ap lo co ls cs lp cp _).mono ?_; rintro e w9 ⟨rfl, b9⟩; rw [HF.out]; have tb := tb.below b9; obtain ⟨d0, d1, d2, d3, d4⟩ := tb.c4; obtain ⟨r0, r1, r2, r3, r4, r5, r6⟩ := tb.r6))
        go_ret
        exact ⟨by rw [hl.out]; rfl, tb.bel⟩
  · have g1' : ¬ (0 : Int) < (mo : Int) := by omega
    by_cases g2 : 0 < ms
    · have g2' : (0 : Int) < (ms : Int) := by omega
      by_cases g3 : 0 < mf
      · have g3' : (0 : Int) < (mf : Int) := by omega
        have hl : Hid (E = 23) := Lib.hid (by rw [HE.out, HS.out, if_pos (by simp [anyB]; omega)])
        clear HE HS
        go_enter Tryz.func30, Tryz.ntmps30
        go_wp2_with fail
        refine HC.out.mono ?_
        rintro e w1 ⟨rfl, b1⟩
        have tb := tb.below b1
        clear b1
        obtain ⟨d0, d1, d2, d3, d4⟩ := tb.c4; obtain ⟨r0, r1, r2, r3, r4, r5, r6⟩ := tb.r6
        go_wp2_with (first | (go_at_call 58; refine (refKindBits_any q.c q.a q.n Ao As Ap lo co ls cs lp cp _).mono ?_; rintro e w9 ⟨rfl, b9⟩; rw [HB.out]; have tb := tb.below b9; obtain ⟨d0, d1, d2, d3, d4⟩ := tb.c4; obtain ⟨r0, r1, r2, r3, r4, r5, r6⟩ := tb.r6) | (go_at_call 59; refine (refWords_kind q.c q.a q.n Ao As Ap lo co ls cs lp cp _).mono ?_; rintro e w9 ⟨rfl, b9⟩; rw [HW.out]; have tb := tb.below b9; obtain ⟨d0, d1, d2, d3, d4⟩ := tb.c4; obtain ⟨r0, r1, r2, r3, r4, r5, r6⟩ := tb.r6) | (go_at_call 60; refine (refFiles_kind q.c q.a q.n Ao As Ap lo co ls cs lp cp _).mono ?_; rintro e w9 ⟨rfl, b9⟩; rw [HF.out]; have tb := tb.below b9; obtain ⟨d0, d1, d2, d3, d4⟩ := tb.c4; obtain ⟨r0, r1, r2, r3, r4, r5, r6⟩ := tb.r6))
        go_ret
        exact ⟨by rw [hl.out]; rfl, tb.bel⟩
      · have g3' : ¬ (0 : Int) < (mf : Int) := by omega
        have HEM : Hid (E = if manyB q r = false then 22 else 0) := Lib.hid (by rw [HE.out, HS.out, if_neg (by simp [anyB]; try omega)])
        by_cases he : (ms : Int) = q.n
        · have u3 : ((ms : Int) != q.n) = false := by simp [he]
          have u4 : ((ms : Int) == q.n) = true := by simp [he]
          have HN : Hid (manyB q r = true) := Lib.hid (by rw [HM2.out]; exact decide_eq_true he)
          clear he HE HS
          go_enter Tryz.func30, Tryz.ntmps30
          go_wp2_with fail
          refine HC.out.mono ?_
          rintro e w1 ⟨rfl, b1⟩
          have tb := tb.below b1
          clear b1
          obtain ⟨d0, d1, d2, d3, d4⟩ := tb.c4; obtain ⟨r0, r1, r2, r3, r4, r5, r6⟩ := tb.r6
          go_wp2_with (first | (go_at_call 58; refine (refKindBits_any q.c q.a q.n Ao As Ap lo co ls cs lp cp _).mono ?_; rintro e w9 ⟨rfl, b9⟩; rw [HB.out]; have tb := tb.below b9; obtain ⟨d0, d1, d2, d3, d4⟩ := tb.c4; obtain ⟨r0, r1, r2, r3, r4, r5, r6⟩ := tb.r6) | (go_at_call 59; refine (refWords_kind q.c q.a q.n Ao As Ap lo co ls cs lp cp _).mono ?_; rintro e w9 ⟨rfl, b9⟩; rw [HW.out]; have tb := tb.below b9; obtain ⟨d0, d1, d2, d3, d4⟩ := tb.c4; obtain ⟨r0, r1, r2, r3, r4, r5, r6⟩ := tb.r6) | (go_at_call 60; refine (refFiles_kind q.c q.a q.n Ao As Ap lo co ls cs lp cp _).mono ?_; rintro e w9 ⟨rfl, b9⟩; rw [HF.out]; have tb := tb.below b9; obtain ⟨d0, d1, d2, d3, d4⟩ := tb.c4; obtain ⟨r0, r1, r2, r3, r4, r5, r6⟩ := tb.r6))
          go_loopw [6] (fun i wr => ∃ k : Nat, k ≤ mf ∧ i = .int .i64 k ∧ TB w w.heap.size (.cells #[.int .i64 q.c, .int .i64 q.a, .int .i64 q.n, .slice Ao lo co, .slice As ls cs, .slice Ap lp cp] 68 (0, 0)) (.cells #[.int .i64 r.x, .slice Bo mo eo, .slice Bs ms es, .slice Bf mf ef] 30 (0, 0)) wr ∧ Hid (∀ j, j < k → ((nthF r.fs j).length : Int) = nth q.fl (3 * j + 2))) (fun i _ => mf - (intOf i).toNat)
          case atStart => exact ⟨0, by omega, rfl, tb, Lib.hid (fun j h => by omega)⟩
          case round =>
            clear d0 d1 d2 d3 d4 r0 r1 r2 r3 r4 r5 r6 tb
            obtain ⟨k, hk, rfl, tb, hs⟩ := hrel
            by_cases hlt : k < mf
            · exact absurd hlt (by omega)
            · obtain rfl : k = mf := by omega
              have hl : Hid (E = 0) := Lib.hid (by rw [HEM.out, HN.out]; rfl)
              obtain ⟨d0, d1, d2, d3, d4⟩ := tb.c4; obtain ⟨r0, r1, r2, r3, r4, r5, r6⟩ := tb.r6
              go_wp2
              go_ret
              exact ⟨by rw [hl.out]; rfl, tb.bel⟩
        · have u3 : ((ms : Int) != q.n) = true := by simpa using he
          have u4 : ((ms : Int) == q.n) = false := beq_false_of_ne he
          have HN : Hid (manyB q r = false) := Lib.hid (by rw [HM2.out]; exact decide_eq_false he)
          clear he
          have hl : Hid (E = 22) := Lib.hid (by rw [HEM.out, HN.out]; rfl)
          clear HE HS
          go_enter Tryz.func30, Tryz.ntmps30
          go_wp2_with fail
          refine HC.out.mono ?_
          rintro e w1 ⟨rfl, b1⟩
          have tb := tb.below b1
          clear b1
          obtain ⟨d0, d1, d2, d3, d4⟩ := tb.c4; obtain ⟨r0, r1, r2, r3, r4, r5, r6⟩ := tb.r6
          go_wp2_with (first | (go_at_call 58; refine (refKindBits_any q.c q.a q.n Ao As Ap lo co ls cs lp cp _).mono ?_; rintro e w9 ⟨rfl, b9⟩; rw [HB.out]; have tb := tb.below b9; obtain ⟨d0, d1, d2, d3, d4⟩ := tb.c4; obtain ⟨r0, r1, r2, r3, r4, r5, r6⟩ := tb.r6) | (go_at_call 59; refine (refWords_kind q.c q.a q.n Ao As Ap lo co ls cs lp cp _).mono ?_; rintro e w9 ⟨rfl, b9⟩; rw [HW.out]; have tb := tb.below b9; obtain ⟨d0, d1, d2, d3, d4⟩ := tb.c4; obtain ⟨r0, r1, r2, r3, r4, r5, r6⟩ := tb.r6) | (go_at_call 60; refine (refFiles_kind q.c q.a q.n Ao As Ap lo co ls cs lp cp _).mono ?_; rintro e w9 ⟨rfl, b9⟩; rw [HF.out]; have tb := tb.below b9; obtain ⟨d0, d1, d2, d3, d4⟩ := tb.c4; obtain ⟨r0, r1, r2, r3, r4, r5, r6⟩ := tb.r6))
          go_ret
          exact ⟨by rw [hl.out]; rfl, tb.bel⟩
    · have g2' : ¬ (0 : Int) < (ms : Int) := by omega
      by_cases g3 : 0 < mf
      · have g3' : (0 : Int) < (mf : Int) := by omega
        have hl : Hid (E = 23) := Lib.hid (by rw [HE.out, HS.out, if_pos (by simp [anyB]; omega)])
        clear HE HS
        go_enter Tryz.func30, Tryz.ntmps30
        go_wp2_with fail
        refine HC.out.mono ?_
        rintro e w1 ⟨rfl, b1⟩
        have tb := tb.below b1
        clear b1
        obtain ⟨d0, d1, d2, d3, d4⟩ := tb.c4; obtain ⟨r0, r1, r2, r3, r4, r5, r6⟩ := tb.r6
        go_wp2_with (first | (go_at_call 58; refine (refKindBits_any q.c q.a q.n Ao As Ap lo co ls cs lp cp _).mono ?_; rintro e w9 ⟨rfl, b9⟩; rw [HB.out]; have tb := tb.below b9; obtain ⟨d0, d1, d2, d3, d4⟩ := tb.c4; obtain ⟨r0, r1, r2, r3, r4, r5, r6⟩ := tb.r6) | (go_at_call 59; refine (refWords_kind q.c q.a q.n Ao As Ap lo co ls cs lp cp _).mono ?_; rintro e w9 ⟨rfl, b9⟩; rw [HW.out]; have tb := tb.below b9; obtain ⟨d0, d1, d2, d3, d4⟩ := tb.c4; obtain ⟨r0, r1, r2, r3, r4, r5, r6⟩ := tb.r6) | (go_at_call 60; refine (refFiles_kind q.c q.a q.n Ao As Ap lo co ls cs lp cp _).mono ?_; rintro e w9 ⟨rfl, b9⟩; rw [HF.out]; have tb := tb.below b9; obtain ⟨d0, d1, d2, d3, d4⟩ := tb.c4; obtain ⟨r0, r1, r2, r3, r4, r5, r6⟩ := tb.r6))
        go_ret
        exact ⟨by rw [hl.out]; rfl, tb.bel⟩
      · have g3' : ¬ (0 : Int) < (mf : Int) := by omega
        have HEM : Hid (E = if manyB q r = false then 22 else 0) := Lib.hid (by rw [HE.out, HS.out, if_neg (by simp [anyB]; try omega)])
        by_cases he : (ms : Int) = q.n
        · have u3 : ((ms : Int) != q.n) = false := by simp [he]
          have u4 : ((ms : Int) == q.n) = true := by simp [he]
          have HN : Hid (manyB q r = true) := Lib.hid (by rw [HM2.out]; exact decide_eq_true he)
          clear he HE HS
          go_enter Tryz.func30, Tryz.ntmps30
          go_wp2_with fail
          refine HC.out.mono ?_
          rintro e w1 ⟨rfl, b1⟩
          have tb := tb.below b1
          clear b1
          obtain ⟨d0, d1, d2, d3, d4⟩ := tb.c4; obtain ⟨r0, r1, r2, r3, r4, r5, r6⟩ := tb.r6
          go_wp2_with (first | (go_at_call 58; refine (refKindBits_any q.c q.a q.n Ao As Ap lo co ls cs lp cp _).mono ?_; rintro e w9 ⟨rfl, b9⟩; rw [HB.out]; have tb := tb.below b9; obtain ⟨d0, d1, d2, d3, d4⟩ := tb.c4; obtain ⟨r0, r1, r2, r3, r4, r5, r6⟩ := tb.r6) | (go_at_call 59; refine (refWords_kind q.c q.a q.n Ao As Ap lo co ls cs lp cp _).mono ?_; rintro e w9 ⟨rfl, b9⟩; rw [HW.out]; have tb := tb.below b9; obtain ⟨d0, d1, d2, d3, d4⟩ := tb.c4; obtain ⟨r0, r1, r2, r3, r4, r5, r6⟩ := tb.r6) | (go_at_call 60; refine (refFiles_kind q.c q.a q.n Ao As Ap lo co ls cs lp cp _).mono ?_; rintro e w9 ⟨rfl, b9⟩; rw [HF.out]; have tb := tb.below b9; obtain ⟨d0, d1, d2, d3, d4⟩ := tb.c4; obtain ⟨r0, r1, r2, r3, r4, r5, r6⟩ := tb.r6))
          go_loopw [6] (fun i wr => ∃ k : Nat, k ≤ mf ∧ i = .int .i64 k ∧ TB w w.heap.size (.cells #[.int .i64 q.c, .int .i64 q.a, .int .i64 q.n, .slice Ao lo co, .slice As ls cs, .slice Ap lp cp] 68 (0, 0)) (.cells #[.int .i64 r.x, .slice Bo mo eo, .slice Bs ms es, .slice Bf mf ef] 30 (0, 0)) wr ∧ Hid (∀ j, j < k → ((nthF r.fs j).length : Int) = nth q.fl (3 * j + 2))) (fun i _ => mf - (intOf i).toNat)
          case atStart => exact ⟨0, by omega, rfl, tb, Lib.hid (fun j h => by omega)⟩
          case round =>
            clear d0 d1 d2 d3 d4 r0 r1 r2 r3 r4 r5 r6 tb
            obtain ⟨k, hk, rfl, tb, hs⟩ := hrel
            by_cases hlt : k < mf
            · exact absurd hlt (by omega)
            · obtain rfl : k = mf := by omega
              have hl : Hid (E = 0) := Lib.hid (by rw [HEM.out, HN.out]; rfl)
              obtain ⟨d0, d1, d2, d3, d4⟩ := tb.c4; obtain ⟨r0, r1, r2, r3, r4, r5, r6⟩ := tb.r6
              go_wp2
              go_ret
              exact ⟨by rw [hl.out]; rfl, tb.bel⟩
        · have u3 : ((ms : Int) != q.n) = true := by simpa using he
          have u4 : ((ms : Int) == q.n) = false := beq_false_of_ne he
          have HN : Hid (manyB q r = false) := Lib.hid (by rw [HM2.out]; exact decide_eq_false he)
          clear he
          have hl : Hid (E = 22) := Lib.hid (by rw [HEM.out, HN.out]; rfl)
          clear HE HS
          go_enter Tryz.func30, Tryz.ntmps30
          go_wp2_with fail
          refine HC.out.mono ?_
          rintro e w1 ⟨rfl, b1⟩
          have tb := tb.below b1
          clear b1
          obtain ⟨d0, d1, d2, d3, d4⟩ := tb.c4; obtain ⟨r0, r1, r2, r3, r4, r5, r6⟩ := tb.r6
          go_wp2_with (first | (go_at_call 58; refine (refKindBits_any q.c q.a q.n Ao As Ap lo co ls cs lp cp _).mono ?_; rintro e w9 ⟨rfl, b9⟩; rw [HB.out]; have tb := tb.below b9; obtain ⟨d0, d1, d2, d3, d4⟩ := tb.c4; obtain ⟨r0, r1, r2, r3, r4, r5, r6⟩ := tb.r6) | (go_at_call 59; refine (refWords_kind q.c q.a q.n Ao As Ap lo co ls cs lp cp _).mono ?_; rintro e w9 ⟨rfl, b9⟩; rw [HW.out]; have tb := tb.below b9; obtain ⟨d0, d1, d2, d3, d4⟩ := tb.c4; obtain ⟨r0, r1, r2, r3, r4, r5, r6⟩ := tb.r6) | (go_at_call 60; refine (refFiles_kind q.c q.a q.n Ao As Ap lo co ls cs lp cp _).mono ?_; rintro e w9 ⟨rfl, b9⟩; rw [HF.out]; have tb := tb.below b9; obtain ⟨d0, d1, d2, d3, d4⟩ := tb.c4; obtain ⟨r0, r1, r2, r3, r4, r5, r6⟩ := tb.r6))
          go_ret
          exact ⟨by rw [hl.out]; rfl, tb.bel⟩
end Go.Proofs.YtcmbdhmhkfhjfaaGreat
namespace Go.Proofs.YtcmbdhmhkfhjfaaGreat
open Go.RowKit
set_option linter.unusedVariables false

set_option maxHeartbeats 4000000 in
set_option maxRecDepth 100000 in
theorem refRp_files (q : Req) (r : Rep) (Ao As Ap Bo Bs Bf : Option Addr) (lo ls lp co cs cp mo ms mf eo es ef : Nat) (w : World) (h : Asked w w.heap.size q Ao As Ap lo ls lp) (hr : Repd w w.heap.size r Bo Bs Bf mo ms mf) (hb : lp ≤ 100000) (hk : chkQ q = 0) (hx : r.x = 0) (hc : q.c = 20) :
    Calls Tryz.prog 30 #[.agg #[.int .i64 q.c, .int .i64 q.a, .int .i64 q.n, .slice Ao lo co, .slice As ls cs, .slice Ap lp cp], .agg #[.int .i64 r.x, .slice Bo mo eo, .slice Bs ms es, .slice Bf mf ef]] w fun e w' => e = .returned (.int .i64 (chkR q r)) ∧ Below w.heap.size w w' := by
  have tb := TB.new2 w #[.int .i64 q.c, .int .i64 q.a, .int .i64 q.n, .slice Ao lo co, .slice As ls cs, .slice Ap lp cp] #[.int .i64 r.x, .slice Bo mo eo, .slice Bs ms es, .slice Bf mf ef] 68 30
  have hsz : w.heap.size ≤ ((w.alloc (.cells #[.int .i64 q.c, .int .i64 q.a, .int .i64 q.n, .slice Ao lo co, .slice As ls cs, .slice Ap lp cp] 68)).alloc (.cells #[.int .i64 r.x, .slice Bo mo eo, .slice Bs ms es, .slice Bf mf ef] 30)).heap.size := tb.bel.size
  have H0 := Lib.hid h
  have HR0 := Lib.hid hr
  have H := Lib.hid ((h.below tb.bel).more hsz)
  obtain ⟨E, hE⟩ : ∃ E, Hid (chkR q r = E) := ⟨_, Lib.hid rfl⟩
  rw [hE.out]
  have HMO := Lib.hid hr.mo
  have HMS := Lib.hid hr.ms
  have HMF := Lib.hid hr.mf
  have HC := Lib.hid (refCheck_any q Ao As Ap lo ls lp co cs cp _ H.out)
  rw [chkQ_of H.out, hk] at HC
  have HB : Hid (clB q.c = false) := Lib.hid (decide_eq_false (by omega))
  have HW : Hid (clW q.c = false) := Lib.hid (decide_eq_false (by omega))
  have HF : Hid (clF q.c = true) := Lib.hid (decide_eq_true hc)
  have HS : Hid (strayB q.c mo ms mf = anyB mo ms 0) := Lib.hid (by unfold strayB; rw [if_neg (show ¬ (q.c = 1 ∨ q.c = 2) by omega), if_neg (show ¬ (q.c = 3 ∨ q.c = 4) by omega), if_pos hc])
  have HM2 : Hid (manyB q r = fitsB q.fl r.fs) := Lib.hid (by unfold manyB; rw [if_neg (show ¬ (q.c = 1 ∨ q.c = 2) by omega), if_neg (show ¬ (q.c = 3 ∨ q.c = 4) by omega), if_pos hc])
  have HE : Hid (E = if strayB q.c mo ms mf = true then 23 else if manyB q r = false then 22 else 0) := Lib.hid (by
    rw [← hE.out]; unfold chkR; rw [if_neg (show ¬ chkQ q ≠ 0 by rw [hk]; simp), if_neg (show ¬ r.x ≠ 0 by simp [hx]), HMO.out, HMS.out, HMF.out])
  have u1 : (r.x != 0) = false := by simp [hx]
  have u2 : (r.x == 0) = true := by simp [hx]
  clear h hr hk hx hE H hc
  by_cases g1 : 0 < mo
  · have g1' : (0 : Int) < (mo : Int) := by omega
    by_cases g2 : 0 < ms
    · have g2' : (0 : Int) < (ms : Int) := by omega
      by_cases g3 : 0 < mf
      · have g3' : (0 : Int) < (mf : Int) := by omega
        have hl : Hid (E = 23) := Lib.hid (by rw [HE.out, HS.out, if_pos (by simp [anyB]; omega)])
        clear HE HS
        go_enter Tryz.func30, Tryz.ntmps30
        go_wp2_with fail
        refine HC.out.mono ?_
        rintro e w1 ⟨rfl, b1⟩
        have tb := tb.below b1
        clear b1
        obtain ⟨d0, d1, d2, d3, d4⟩ := tb.c4; obtain ⟨r0, r1, r2, r3, r4, r5, r6⟩ := tb.r6
        go_wp2_with (first | (go_at_call 58; refine (refKindBits_any q.c q.a q.n Ao As Ap lo co ls cs lp cp _).mono ?_; rintro e w9 ⟨rfl, b9⟩; rw [HB.out]; have tb := tb.below b9; obtain ⟨d0, d1, d2, d3, d4⟩ := tb.c4; obtain ⟨r0, r1, r2, r3, r4, r5, r6⟩ := tb.r6) | (go_at_call 59; refine (refWords_kind q.c q.a q.n Ao As Ap lo co ls cs lp cp _).mono ?_; rintro e w9 ⟨rfl, b9⟩; rw [HW.out]; have tb := tb.below b9; obtain ⟨d0, d1, d2, d3, d4⟩ := tb.c4; obtain ⟨r0, r1, r2, r3, r4, r5, r6⟩ := tb.r6) | (go_at_call 60; refine (refFiles_kind q.c q.a q.n Ao As Ap lo co ls cs lp cp _).mono ?_; rintro e w9 ⟨rfl, b9⟩; rw [HF.out]; have tb := tb.below b9; obtain ⟨d0, d1, d2, d3, d4⟩ := tb.c4; obtain ⟨r0, r1, r2, r3, r4, r5, r6⟩ := tb.r6))
        go_ret
        exact ⟨by rw [hl.out]; rfl, tb.bel⟩
      · have g3' : ¬ (0 : Int) < (mf : Int) := by omega
        have hl : Hid (E = 23) := Lib.hid (by rw [HE.out, HS.out, if_pos (by simp [anyB]; omega)])
        clear HE HS
        go_enter Tryz.func30, Tryz.ntmps30
        go_wp2_with fail
        refine HC.out.mono ?_
        rintro e w1 ⟨rfl, b1⟩
        have tb := tb.below b1
        clear b1
        obtain ⟨d0, d1, d2, d3, d4⟩ := tb.c4; obtain ⟨r0, r1, r2, r3, r4, r5, r6⟩ := tb.r6
        go_wp2_with (first | (go_at_call 58; refine (refKindBits_any q.c q.a q.n Ao As Ap lo co ls cs lp cp _).mono ?_; rintro e w9 ⟨rfl, b9⟩; rw [HB.out]; have tb := tb.below b9; obtain ⟨d0, d1, d2, d3, d4⟩ := tb.c4; obtain ⟨r0, r1, r2, r3, r4, r5, r6⟩ := tb.r6) | (go_at_call 59; refine (refWords_kind q.c q.a q.n Ao As Ap lo co ls cs lp cp _).mono ?_; rintro e w9 ⟨rfl, b9⟩; rw [HW.out]; have tb := tb.below b9; obtain ⟨d0, d1, d2, d3, d4⟩ := tb.c4; obtain ⟨r0, r1, r2, r3, r4, r5, r6⟩ := tb.r6) | (go_at_call 60; refine (refFiles_kind q.c q.a q.n Ao As Ap lo co ls cs lp cp _).mono ?_; rintro e w9 ⟨rfl, b9⟩; rw [HF.out]; have tb := tb.below b9; obtain ⟨d0, d1, d2, d3, d4⟩ := tb.c4; obtain ⟨r0, r1, r2, r3, r4, r5, r6⟩ := tb.r6))
        go_ret
        exact ⟨by rw [hl.out]; rfl, tb.bel⟩
    · have g2' : ¬ (0 : Int) < (ms : Int) := by omega
      by_cases g3 : 0 < mf
      · have g3' : (0 : Int) < (mf : Int) := by omega
        have hl : Hid (E = 23) := Lib.hid (by rw [HE.out, HS.out, if_pos (by simp [anyB]; omega)])
        clear HE HS
        go_enter Tryz.func30, Tryz.ntmps30
        go_wp2_with fail
        refine HC.out.mono ?_
        rintro e w1 ⟨rfl, b1⟩
        have tb := tb.below b1
        clear b1
        obtain ⟨d0, d1, d2, d3, d4⟩ := tb.c4; obtain ⟨r0, r1, r2, r3, r4, r5, r6⟩ := tb.r6
        go_wp2_with (first | (go_at_call 58; refine (refKindBits_any q.c q.a q.n Ao As Ap lo co ls cs lp cp _).mono ?_; rintro e w9 ⟨rfl, b9⟩; rw [HB.out]; have tb := tb.below b9; obtain ⟨d0, d1, d2, d3, d4⟩ := tb.c4; obtain ⟨r0, r1, r2, r3, r4, r5, r6⟩ := tb.r6) | (go_at_call 59; refine (refWords_kind q.c q.a q.n Ao As Ap lo co ls cs lp cp _).mono ?_; rintro e w9 ⟨rfl, b9⟩; rw [HW.out]; have tb := tb.below b9; obtain ⟨d0, d1, d2, d3, d4⟩ := tb.c4; obtain ⟨r0, r1, r2, r3, r4, r5, r6⟩ := tb.r6) | (go_at_call 60; refine (refFiles_kind q.c q.a q.n Ao As Ap lo co ls cs lp cp _).mono ?_; rintro e w9 ⟨rfl, b9⟩; rw [HF.out]; have tb := tb.below b9; obtain ⟨d0, d1, d2, d3, d4⟩ := tb.c4; obtain ⟨r0, r1, r2, r3, r4, r5, r6⟩ := tb.r6))
        go_ret
        exact ⟨by rw [hl.out]; rfl, tb.bel⟩
      · have g3' : ¬ (0 : Int) < (mf : Int) := by omega
        have hl : Hid (E = 23) := Lib.hid (by rw [HE.out, HS.out, if_pos (by simp [anyB]; omega)])
        clear HE HS
        go_enter Tryz.func30, Tryz.ntmps30
        go_wp2_with fail
        refine HC.out.mono ?_
        rintro e w1 ⟨rfl, b1⟩
        have tb := tb.below b1
        clear b1
        obtain ⟨d0, d1, d2, d3, d4⟩ := tb.c4; obtain ⟨r0, r1, r2, r3, r4, r5, r6⟩ := tb.r6
        go_wp2_with (first | (go_at_call 58; refine (refKindBits_any q.c q.a q.n Ao As Ap lo co ls cs lp cp _).mono ?_; rintro e w9 ⟨rfl, b9⟩; rw [HB.out]; have tb := tb.below b9; obtain ⟨d0, d1, d2, d3, d4⟩ := tb.c4; obtain ⟨r0, r1, r2, r3, r4, r5, r6⟩ := tb.r6) | (go_at_call 59; refine (refWords_kind q.c q.a q.n Ao As Ap lo co ls cs lp cp _).mono ?_; rintro e w9 ⟨rfl, b9⟩; rw [HW.out]; have tb := tb.below b9; obtain ⟨d0, d1, d2, d3, d4⟩ := tb.c4; obtain ⟨r0, r1, r2, r3, r4, r5, r6⟩ := tb.r6) | (go_at_call 60; refine (refFiles_kind q.c q.a q.n Ao As Ap lo co ls cs lp cp _).mono ?_; rintro e w9 ⟨rfl, b9⟩; rw [HF.out]; have tb := tb.below b9; obtain ⟨d0, d1, d2, d3, d4⟩ := tb.c4; obtain ⟨r0, r1, r2, r3, r4, r5, r6⟩ := tb.r6))
        go_ret
        exact ⟨by rw [hl.out]; rfl, tb.bel⟩
  · have g1' : ¬ (0 : Int) < (mo : Int) := by omega
    by_cases g2 : 0 < ms
    · have g2' : (0 : Int) < (ms : Int) := by omega
      by_cases g3 : 0 < mf
      · have g3' : (0 : Int) < (mf : Int) := by omega
        have hl : Hid (E = 23) := Lib.hid (by rw [HE.out, HS.out, if_pos (by simp [anyB]; omega)])
        clear HE HS
        go_enter Tryz.func30, Tryz.ntmps30
        go_wp2_with fail
        refine HC.out.mono ?_
        rintro e w1 ⟨rfl, b1⟩
        have tb := tb.below b1
        clear b1
        obtain ⟨d0, d1, d2, d3, d4⟩ := tb.c4; obtain ⟨r0, r1, r2, r3, r4, r5, r6⟩ := tb.r6
        go_wp2_with (first | (go_at_call 58; refine (refKindBits_any q.c q.a q.n Ao As Ap lo co ls cs lp cp _).mono ?_; rintro e w9 ⟨rfl, b9⟩; rw [HB.out]; have tb := tb.below b9; obtain ⟨d0, d1, d2, d3, d4⟩ := tb.c4; obtain ⟨r0, r1, r2, r3, r4, r5, r6⟩ := tb.r6) | (go_at_call 59; refine (refWords_kind q.c q.a q.n Ao As Ap lo co ls cs lp cp _).mono ?_; rintro e w9 ⟨rfl, b9⟩; rw [HW.out]; have tb := tb.below b9; obtain ⟨d0, d1, d2, d3, d4⟩ := tb.c4; obtain ⟨r0, r1, r2, r3, r4, r5, r6⟩ := tb.r6) | (go_at_call 60; refine (refFiles_kind q.c q.a q.n Ao As Ap lo co ls cs lp cp _).mono ?_; rintro e w9 ⟨rfl, b9⟩; rw [HF.out]; have tb := tb.below b9; obtain ⟨d0, d1, d2, d3, d4⟩ := tb.c4; obtain ⟨r0, r1, r2, r3, r4, r5, r6⟩ := tb.r6))
        go_ret
        exact ⟨by rw [hl.out]; rfl, tb.bel⟩
      · have g3' : ¬ (0 : Int) < (mf : Int) := by omega
        have hl : Hid (E = 23) := Lib.hid (by rw [HE.out, HS.out, if_pos (by simp [anyB]; omega)])
        clear HE HS
        go_enter Tryz.func30, Tryz.ntmps30
        go_wp2_with fail
        refine HC.out.mono ?_
        rintro e w1 ⟨rfl, b1⟩
        have tb := tb.below b1
        clear b1
        obtain ⟨d0, d1, d2, d3, d4⟩ := tb.c4; obtain ⟨r0, r1, r2, r3, r4, r5, r6⟩ := tb.r6
        go_wp2_with (first | (go_at_call 58; refine (refKindBits_any q.c q.a q.n Ao As Ap lo co ls cs lp cp _).mono ?_; rintro e w9 ⟨rfl, b9⟩; rw [HB.out]; have tb := tb.below b9; obtain ⟨d0, d1, d2, d3, d4⟩ := tb.c4; obtain ⟨r0, r1, r2, r3, r4, r5, r6⟩ := tb.r6) | (go_at_call 59; refine (refWords_kind q.c q.a q.n Ao As Ap lo co ls cs lp cp _).mono ?_; rintro e w9 ⟨rfl, b9⟩; rw [HW.out]; have tb := tb.below b9; obtain ⟨d0, d1, d2, d3, d4⟩ := tb.c4; obtain ⟨r0, r1, r2, r3, r4, r5, r6⟩ := tb.r6) | (go_at_call 60; refine (refFiles_kind q.c q.a q.n Ao As Ap lo co ls cs lp cp _).mono ?_; rintro e w9 ⟨rfl, b9⟩; rw [HF.out]; have tb := tb.below b9; obtain ⟨d0, d1, d2, d3, d4⟩ := tb.c4; obtain ⟨r0, r1, r2, r3, r4, r5, r6⟩ := tb.r6))
        go_ret
        exact ⟨by rw [hl.out]; rfl, tb.bel⟩
    · have g2' : ¬ (0 : Int) < (ms : Int) := by omega
      by_cases g3 : 0 < mf
      · have g3' : (0 : Int) < (mf : Int) := by omega
        have HEM : Hid (E = if manyB q r = false then 22 else 0) := Lib.hid (by rw [HE.out, HS.out, if_neg (by simp [anyB]; try omega)])
        by_cases he : mf = lp
        · have u3 : ((mf : Int) != (lp : Int)) = false := by simp [he]
          have u4 : ((mf : Int) == (lp : Int)) = true := by simp [he]
          have HLE := Lib.hid he
          clear HE HS he
          go_enter Tryz.func30, Tryz.ntmps30
          go_wp2_with fail
          refine HC.out.mono ?_
          rintro e w1 ⟨rfl, b1⟩
          have tb := tb.below b1
          clear b1
          obtain ⟨d0, d1, d2, d3, d4⟩ := tb.c4; obtain ⟨r0, r1, r2, r3, r4, r5, r6⟩ := tb.r6
          go_wp2_with (first | (go_at_call 58; refine (refKindBits_any q.c q.a q.n Ao As Ap lo co ls cs lp cp _).mono ?_; rintro e w9 ⟨rfl, b9⟩; rw [HB.out]; have tb := tb.below b9; obtain ⟨d0, d1, d2, d3, d4⟩ := tb.c4; obtain ⟨r0, r1, r2, r3, r4, r5, r6⟩ := tb.r6) | (go_at_call 59; refine (refWords_kind q.c q.a q.n Ao As Ap lo co ls cs lp cp _).mono ?_; rintro e w9 ⟨rfl, b9⟩; rw [HW.out]; have tb := tb.below b9; obtain ⟨d0, d1, d2, d3, d4⟩ := tb.c4; obtain ⟨r0, r1, r2, r3, r4, r5, r6⟩ := tb.r6) | (go_at_call 60; refine (refFiles_kind q.c q.a q.n Ao As Ap lo co ls cs lp cp _).mono ?_; rintro e w9 ⟨rfl, b9⟩; rw [HF.out]; have tb := tb.below b9; obtain ⟨d0, d1, d2, d3, d4⟩ := tb.c4; obtain ⟨r0, r1, r2, r3, r4, r5, r6⟩ := tb.r6))
          go_loopw [6] (fun i wr => ∃ k : Nat, k ≤ mf ∧ i = .int .i64 k ∧ TB w w.heap.size (.cells #[.int .i64 q.c, .int .i64 q.a, .int .i64 q.n, .slice Ao lo co, .slice As ls cs, .slice Ap lp cp] 68 (0, 0)) (.cells #[.int .i64 r.x, .slice Bo mo eo, .slice Bs ms es, .slice Bf mf ef] 30 (0, 0)) wr ∧ Hid (∀ j, j < k → ((nthF r.fs j).length : Int) = nth q.fl (3 * j + 2))) (fun i _ => mf - (intOf i).toNat)
          case atStart => exact ⟨0, by omega, rfl, tb, Lib.hid (fun j h => by omega)⟩
          case round =>
            clear d0 d1 d2 d3 d4 r0 r1 r2 r3 r4 r5 r6 tb
            obtain ⟨k, hk, rfl, tb, hs⟩ := hrel
            by_cases hlt : k < mf
            · obtain ⟨d0, d1, d2, d3, d4⟩ := tb.c4; obtain ⟨r0, r1, r2, r3, r4, r5, r6⟩ := tb.r6
              go_wp2_with fail
              have hltp : (k : Int) < (lp : Int) := by have := HLE.out; omega
              obtain ⟨b, o, hAp, hb1, hc1, hc2, hc3⟩ := H0.out.fl.three (k := k) (by have := H0.out.lp; have := HLE.out; omega)
              obtain ⟨bf, of, hBf, hb2, hcf⟩ := HR0.out.fs (by have := HMF.out; omega)
              obtain ⟨Ai, ci, hci, _, _⟩ := hcf k (by have := HMF.out; omega)
              have hcf2 := (tb.bel.cell (p := ⟨bf, of + k, none⟩) hb2).trans hci
              have hcp2 := (tb.bel.cell (p := ⟨b, o + k * 3 + 2, none⟩) hb1).trans hc3
              subst hAp hBf
              obtain ⟨p, hpp⟩ : ∃ p, Hid (nth q.fl (3 * k + 2) = p) := ⟨_, Lib.hid rfl⟩
              obtain ⟨z, hzz⟩ : ∃ z, Hid ((nthF r.fs k).length = z) := ⟨_, Lib.hid rfl⟩
              rw [hpp.out] at hcp2
              rw [hzz.out] at hcf2
              clear hci hcf hc1 hc2 hc3
              by_cases he : (z : Int) = p
              · have u3 : ((z : Int) != p) = false := by simp [he]
                have u4 : ((z : Int) == p) = true := by simp [he]
                have HEQ := Lib.hid he
                clear he
                go_quiet (fail)
                have tbq := tb.below (bel_drewN wr nq)
                clear tb d0 d1 d2 d3 d4 r0 r1 r2 r3 r4 r5 r6 hcf2 hcp2
                go_wp2
                go_roundw
                case rel => exact ⟨k + 1, by omega, by go_num, tbq, Lib.hid (fun j hj => by
                  rcases Nat.lt_succ_iff_lt_or_eq.1 hj with h | h
                  · exact hs.out j h
                  · subst h; rw [hzz.out, hpp.out]; exact HEQ.out)⟩
                case measure => simp [intOf]; omega
              · have u3 : ((z : Int) != p) = true := by simpa using he
                have u4 : ((z : Int) == p) = false := beq_false_of_ne he
                have hl : Hid (E = 22) := Lib.hid (by rw [HEM.out, HM2.out, fitsB_no (i := k) (by rw [HMF.out]; exact hlt) (by rw [hzz.out, hpp.out]; exact he)]; rfl)
                clear he
                go_quiet (fail)
                have tbq := tb.below (bel_drewN wr nq)
                go_wp2
                go_ret
                exact ⟨by rw [hl.out]; rfl, tbq.bel⟩
            · obtain rfl : k = mf := by omega
              have hl : Hid (E = 0) := Lib.hid (by rw [HEM.out, HM2.out, fitsB_yes (by rw [H0.out.lp, HMF.out, HLE.out]) (fun i hi => hs.out i (by rw [← HMF.out]; exact hi))]; rfl)
              obtain ⟨d0, d1, d2, d3, d4⟩ := tb.c4; obtain ⟨r0, r1, r2, r3, r4, r5, r6⟩ := tb.r6
              go_wp2
              go_ret
              exact ⟨by rw [hl.out]; rfl, tb.bel⟩
        · have u3 : ((mf : Int) != (lp : Int)) = true := by simp; omega
          have u4 : ((mf : Int) == (lp : Int)) = false := beq_false_of_ne (by omega)
          have HN : Hid (manyB q r = false) := Lib.hid (by rw [HM2.out]; exact fitsB_len (by rw [H0.out.lp, HMF.out]; omega))
          clear he
          have hl : Hid (E = 22) := Lib.hid (by rw [HEM.out, HN.out]; rfl)
          clear HE HS
          go_enter Tryz.func30, Tryz.ntmps30
          go_wp2_with fail
          refine HC.out.mono ?_
          rintro e w1 ⟨rfl, b1⟩
          have tb := tb.below b1
          clear b1
          obtain ⟨d0, d1, d2, d3, d4⟩ := tb.c4; obtain ⟨r0, r1, r2, r3, r4, r5, r6⟩ := tb.r6
          go_wp2_with (first | (go_at_call 58; refine (refKindBits_any q.c q.a q.n Ao As Ap lo co ls cs lp cp _).mono ?_; rintro e w9 ⟨rfl, b9⟩; rw [HB.out]; have tb := tb.below b9; obtain ⟨d0, d1, d2, d3, d4⟩ := tb.c4; obtain ⟨r0, r1, r2, r3, r4, r5, r6⟩ := tb.r6) | (go_at_call 59; refine (refWords_kind q.c q.a q.n Ao As Ap lo co ls cs lp cp _).mono ?_; rintro e w9 ⟨rfl, b9⟩; rw [HW.out]; have tb := tb.below b9; obtain ⟨d0, d1, d2, d3, d4⟩ := tb.c4; obtain ⟨r0, r1, r2, r3, r4, r5, r6⟩ := tb.r6) | (go_at_call 60; refine (refFiles_kind q.c q.a q.n Ao As Ap lo co ls cs lp cp _).mono ?_; rintro e w9 ⟨rfl, b9⟩; rw [HF.out]; have tb := tb.below b9; obtain ⟨d0, d1, d2, d3, d4⟩ := tb.c4; obtain ⟨r0, r1, r2, r3, r4, r5, r6⟩ := tb.r6))
          go_ret
          exact ⟨by rw [hl.out]; rfl, tb.bel⟩
      · have g3' : ¬ (0 : Int) < (mf : Int) := by omega
        have HEM : Hid (E = if manyB q r = false then 22 else 0) := Lib.hid (by rw [HE.out, HS.out, if_neg (by simp [anyB]; try omega)])
        by_cases he : mf = lp
        · have u3 : ((mf : Int) != (lp : Int)) = false := by simp [he]
          have u4 : ((mf : Int) == (lp : Int)) = true := by simp [he]
          have HLE := Lib.hid he
          clear HE HS he
          go_enter Tryz.func30, Tryz.ntmps30
          go_wp2_with fail
          refine HC.out.mono ?_
          rintro e w1 ⟨rfl, b1⟩
          have tb := tb.below b1
          clear b1
          obtain ⟨d0, d1, d2, d3, d4⟩ := tb.c4; obtain ⟨r0, r1, r2, r3, r4, r5, r6⟩ := tb.r6
          go_wp2_with (first | (go_at_call 58; refine (refKindBits_any q.c q.a q.n Ao As Ap lo co ls cs lp cp _).mono ?_; rintro e w9 ⟨rfl, b9⟩; rw [HB.out]; have tb := tb.below b9; obtain ⟨d0, d1, d2, d3, d4⟩ := tb.c4; obtain ⟨r0, r1, r2, r3, r4, r5, r6⟩ := tb.r6) | (go_at_call 59; refine (refWords_kind q.c q.a q.n Ao As Ap lo co ls cs lp cp _).mono ?_; rintro e w9 ⟨rfl, b9⟩; rw [HW.out]; have tb := tb.below b9; obtain ⟨d0, d1, d2, d3, d4⟩ := tb.c4; obtain ⟨r0, r1, r2, r3, r4, r5, r6⟩ := tb.r6) | (go_at_call 60; refine (refFiles_kind q.c q.a q.n Ao As Ap lo co ls cs lp cp _).mono ?_; rintro e w9 ⟨rfl, b9⟩; rw [HF.out]; have tb := tb.below b9; obtain ⟨d0, d1, d2, d3, d4⟩ := tb.c4; obtain ⟨r0, r1, r2, r3, r4, r5, r6⟩ := tb.r6))
          go_loopw [6] (fun i wr => ∃ k : Nat, k ≤ mf ∧ i = .int .i64 k ∧ TB w w.heap.size (.cells #[.int .i64 q.c, .int .i64 q.a, .int .i64 q.n, .slice Ao lo co, .slice As ls cs, .slice Ap lp cp] 68 (0, 0)) (.cells #[.int .i64 r.x, .slice Bo mo eo, .slice Bs ms es, .slice Bf mf ef] 30 (0, 0)) wr ∧ Hid (∀ j, j < k → ((nthF r.fs j).length : Int) = nth q.fl (3 * j + 2))) (fun i _ => mf - (intOf i).toNat)
          case atStart => exact ⟨0, by omega, rfl, tb, Lib.hid (fun j h => by omega)⟩
          case round =>
            clear d0 d1 d2 d3 d4 r0 r1 r2 r3 r4 r5 r6 tb
            obtain ⟨k, hk, rfl, tb, hs⟩ := hrel
            by_cases hlt : k < mf
            · exact absurd hlt (by omega)
            · obtain rfl : k = mf := by omega
              have hl : Hid (E = 0) := Lib.hid (by rw [HEM.out, HM2.out, fitsB_yes (by rw [H0.out.lp, HMF.out, HLE.out]) (fun i hi => hs.out i (by rw [← HMF.out]; exact hi))]; rfl)
              obtain ⟨d0, d1, d2, d3, d4⟩ := tb.c4; obtain ⟨r0, r1, r2, r3, r4, r5, r6⟩ := tb.r6
              go_wp2
              go_ret
              exact ⟨by rw [hl.out]; rfl, tb.bel⟩
        · have u3 : ((mf : Int) != (lp : Int)) = true := by simp; omega
          have u4 : ((mf : Int) == (lp : Int)) = false := beq_false_of_ne (by omega)
          have HN : Hid (manyB q r = false) := Lib.hid (by rw [HM2.out]; exact fitsB_len (by rw [H0.out.lp, HMF.out]; omega))
          clear he
          have hl : Hid (E = 22) := Lib.hid (by rw [HEM.out, HN.out]; rfl)
          clear HE HS
          go_enter Tryz.func30, Tryz.ntmps30
          go_wp2_with fail
          refine HC.out.mono ?_
          rintro e w1 ⟨rfl, b1⟩
          have tb := tb.below b1
          clear b1
          obtain ⟨d0, d1, d2, d3, d4⟩ := tb.c4; obtain ⟨r0, r1, r2, r3, r4, r5, r6⟩ := tb.r6
          go_wp2_with (first | (go_at_call 58; refine (refKindBits_any q.c q.a q.n Ao As Ap lo co ls cs lp cp _).mono ?_; rintro e w9 ⟨rfl, b9⟩; rw [HB.out]; have tb := tb.below b9; obtain ⟨d0, d1, d2, d3, d4⟩ := tb.c4; obtain ⟨r0, r1, r2, r3, r4, r5, r6⟩ := tb.r6) | (go_at_call 59; refine (refWords_kind q.c q.a q.n Ao As Ap lo co ls cs lp cp _).mono ?_; rintro e w9 ⟨rfl, b9⟩; rw [HW.out]; have tb := tb.below b9; obtain ⟨d0, d1, d2, d3, d4⟩ := tb.c4; obtain ⟨r0, r1, r2, r3, r4, r5, r6⟩ := tb.r6) | (go_at_call 60; refine (refFiles_kind q.c q.a q.n Ao As Ap lo co ls cs lp cp _).mono ?_; rintro e w9 ⟨rfl, b9⟩; rw [HF.out]; have tb := tb.below b9; obtain ⟨d0, d1, d2, d3, d4⟩ := tb.c4; obtain ⟨r0, r1, r2, r3, r4, r5, r6⟩ := tb.r6))
          go_ret
          exact ⟨by rw [hl.out]; rfl, tb.bel⟩
end Go.Proofs.YtcmbdhmhkfhjfaaGreat
