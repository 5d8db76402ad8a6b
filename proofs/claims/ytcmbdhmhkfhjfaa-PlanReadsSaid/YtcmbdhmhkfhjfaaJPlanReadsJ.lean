/-
  The statement PlanReads of outstationlaw10 holds: for every input that can be read, the call returns true, and each argument reads as it did. No condition of its own.
-/
import Derived.Test.YtcmbdhmhkfhjfaaJPlanReadsI
import Derived.Test.YtcmbdhmhkfhjfaaJPlanReadsF
import Derived.Test.YtcmbdhmhkfhjfaaJPlanReadsB
import Derived.Test.YtcmbdhmhkfhjfaaJPlanReadsE
import Derived.BigQuiet
import Derived.Test.YtcmbdhmhkfhjfaaRows
import Derived.Test.YtcmbdhmhkfhjfaaJPlanReadsA
namespace Go.Proofs.Ytcmbdhmhkfhjfaa.I
open Go.RowKit
set_option linter.unusedVariables false
/-- Rows that lie inside blocks of their own, each known whole (or nil), their slices in the array of block gl. -/
structure PartsK (w : World) (B gl m : Nat) (A : Nat → Option Addr) (n c : Nat → Nat) (p l r : Nat → List Int) : Prop where
  at_ : ∀ k, k < m → w.cell? ⟨gl, k, none⟩ = some (.slice (A k) (n k) (c k))
  size : ∀ k, k < m → n k ≤ c k ∧ (c k ≤ 9223372036854775807 ∧ n k ≤ 17592186044416) ∧ (l k).length = c k
  wf : ∀ k, k < m → ∀ x ∈ l k, (Lit.int .i64 x).wf = true
  lies : ∀ k, k < m → (A k = none ∧ n k = 0 ∧ c k = 0) ∨ ∃ g, A k = some ⟨g, (p k).length, none⟩ ∧ B ≤ g ∧ g ≠ gl ∧ w.heap[g]? = some (.cells (blk .i64 (p k ++ l k ++ r k)) 3 (0, 0))
  apart : ∀ i k, i < m → k < m → i ≠ k → ∀ g o q, A i = some ⟨g, o, none⟩ → A k ≠ some ⟨g, q, none⟩
  gl_lt : gl < w.heap.size

theorem PartsK.row {w : World} {B gl m : Nat} {A : Nat → Option Addr} {n c : Nat → Nat} {p l r : Nat → List Int} (h : PartsK w B gl m A n c p l r) {k : Nat} (hk : k < m) :
    Row .i64 w w.heap.size (A k) ((l k).take (n k)) ∧ ((l k).take (n k)).length = n k := by
  have hs := h.size k hk
  refine ⟨?_, by simp; omega⟩
  rcases h.lies k hk with ⟨ha, hn, hc⟩ | ⟨g, ha, _, _, hg⟩
  · rw [hn, List.take_zero]; exact Row.nil _ _ _ _
  · rw [ha]
    exact (Row.inside hg _ (fun x hx => h.wf k hk x (List.mem_of_mem_take hx)) (List.take_prefix _ _)).more (block_lt hg)
/-- A step that leaves all old blocks leaves the parts. -/
theorem PartsK.below {w w' : World} {B gl m : Nat} {A : Nat → Option Addr} {n c : Nat → Nat} {p l r : Nat → List Int} (h : PartsK w B gl m A n c p l r) (hb : Below w.heap.size w w') : PartsK w' B gl m A n c p l r where
  at_ := fun k hk => (hb.cell (p := ⟨gl, k, none⟩) h.gl_lt).trans (h.at_ k hk)
  size := h.size
  wf := h.wf
  lies := fun k hk => by
    rcases h.lies k hk with h0 | ⟨g, ha, hB, hne, hg⟩
    · exact .inl h0
    · exact .inr ⟨g, ha, hB, hne, (hb.block g (block_lt hg)).trans hg⟩
  apart := h.apart
  gl_lt := Nat.lt_of_lt_of_le h.gl_lt hb.size
/-- One part is written over. -/
theorem PartsK.spoil {w w' : World} {B gl m : Nat} {A : Nat → Option Addr} {n c : Nat → Nat} {p l r : Nat → List Int} (h : PartsK w B gl m A n c p l r) {i g : Nat} (hi : i < m) (ha : A i = some ⟨g, (p i).length, none⟩)
    (hg : w'.heap[g]? = some (.cells (blk .i64 (p i ++ spoilI (c i) (l i) ++ r i)) 3 (0, 0))) (hgr : w.grownBy w' (some g)) : PartsK w' B gl m A n c p (fun k => if k = i then spoilI (c i) (l i) else l k) r where
  at_ := fun k hk => by
    rcases h.lies i hi with ⟨h0, _⟩ | ⟨g', ha', _, hne, _⟩
    · rw [ha] at h0; cases h0
    · rw [ha] at ha'
      injection ha' with ha'
      injection ha' with ha'
      subst ha'
      exact (World.cell?_of_block (hgr.block gl h.gl_lt (fun e => hne (by injection e with e; exact e.symm)))).trans (h.at_ k hk)
  size := fun k hk => by
    have := h.size k hk
    refine ⟨this.1, this.2.1, ?_⟩
    split
    · rename_i e; subst e; rw [spoilI_length]; exact this.2.2
    · exact this.2.2
  wf := fun k hk => by
    show ∀ x ∈ (if k = i then spoilI (c i) (l i) else l k), _
    split
    · exact spoilI_wf _ _ (h.wf i hi)
    · exact h.wf k hk
  lies := fun k hk => by
    by_cases e : k = i
    · subst e
      rcases h.lies k hi with ⟨h0, _⟩ | ⟨g', ha', hB, hne, _⟩
      · rw [ha] at h0; cases h0
      · rw [ha] at ha'
        injection ha' with ha'
        injection ha' with ha'
        subst ha'
        exact .inr ⟨g, ha, hB, hne, by rw [if_pos rfl]; exact hg⟩
    · rcases h.lies k hk with h0 | ⟨g', ha', hB, hne, hg'⟩
      · exact .inl h0
      · refine .inr ⟨g', ha', hB, hne, ?_⟩
        rw [if_neg e, hgr.block g' (block_lt hg') (fun e' => ?_)]
        · exact hg'
        · injection e' with e'
          subst e'
          exact h.apart k i hk hi e _ _ _ ha' ha
  apart := h.apart
  gl_lt := Nat.lt_of_lt_of_le h.gl_lt hgr.size

/-- A slice that is handed to ApartInts: nil, or the beginning of a block that is known whole. -/
structure EntK where
  a : Option Nat
  p : List Int
  n : Nat
  c : Nat
  l : List Int
  r : List Int
def EntK.none_ : EntK := ⟨none, [], 0, 0, [], []⟩
def EntK.adr (e : EntK) : Option Addr := e.a.map fun g => ⟨g, e.p.length, none⟩
def EntK.val (e : EntK) : Value := .slice e.adr e.n e.c
structure EntK.Ok (w : World) (B : Nat) (e : EntK) : Prop where
  size : e.n ≤ e.c ∧ (e.c ≤ 9223372036854775807 ∧ e.n ≤ 17592186044416) ∧ e.l.length = e.c
  wf : ∀ x ∈ e.l, (Lit.int .i64 x).wf = true
  lies : (e.a = none ∧ e.n = 0 ∧ e.c = 0) ∨ ∃ g, e.a = some g ∧ B ≤ g ∧ w.heap[g]? = some (.cells (blk .i64 (e.p ++ e.l ++ e.r)) 3 (0, 0))
def EntK.Far (e e' : EntK) : Prop := ∀ g, e.a = some g → e'.a ≠ some g
theorem EntK.adr_some {e : EntK} {g o : Nat} (h : e.adr = some ⟨g, o, none⟩) : e.a = some g := by
  unfold EntK.adr at h
  cases ha : e.a with
  | none => rw [ha] at h; cases h
  | some q => rw [ha] at h; simp at h; rw [h.1]

theorem partsK_of_list (w : World) (B : Nat) (L : List EntK) (t : TypeId) (hok : ∀ e ∈ L, e.Ok w B) (hfar : L.Pairwise EntK.Far) :
    PartsK (w.alloc (.cells (L.map EntK.val).toArray t)) B w.heap.size L.length (fun k => (L.getD k EntK.none_).adr) (fun k => (L.getD k EntK.none_).n) (fun k => (L.getD k EntK.none_).c) (fun k => (L.getD k EntK.none_).p) (fun k => (L.getD k EntK.none_).l) (fun k => (L.getD k EntK.none_).r) where
  at_ := fun k hk => by
    rw [World.cell?_alloc_at _ _ _ _ rfl]
    simp [List.getElem?_eq_getElem hk, List.getD_eq_getElem?_getD, EntK.val]
  size := fun k hk => by
    simp only [List.getD_eq_getElem?_getD, List.getElem?_eq_getElem hk, Option.getD_some]
    exact (hok _ (List.getElem_mem hk)).size
  wf := fun k hk => by
    simp only [List.getD_eq_getElem?_getD, List.getElem?_eq_getElem hk, Option.getD_some]
    exact (hok _ (List.getElem_mem hk)).wf
  lies := fun k hk => by
    simp only [List.getD_eq_getElem?_getD, List.getElem?_eq_getElem hk, Option.getD_some]
    rcases (hok _ (List.getElem_mem hk)).lies with ⟨h1, h2⟩ | ⟨g, h1, h2, h3⟩
    · exact .inl ⟨by rw [EntK.adr, h1]; rfl, h2⟩
    · have := block_lt h3
      exact .inr ⟨g, by rw [EntK.adr, h1]; rfl, h2, by omega, (Below.heap_alloc w _ g this).trans h3⟩
  apart := fun i k hi hk hne g o q h1 h2 => by
    simp only [List.getD_eq_getElem?_getD, List.getElem?_eq_getElem hi, List.getElem?_eq_getElem hk, Option.getD_some] at h1 h2
    have h1 := EntK.adr_some h1
    have h2 := EntK.adr_some h2
    rcases Nat.lt_or_gt_of_ne hne with h | h
    · exact List.pairwise_iff_getElem.1 hfar i k hi hk h g h1 h2
    · exact List.pairwise_iff_getElem.1 hfar k i hk hi h g h2 h1
  gl_lt := by simp

end Go.Proofs.Ytcmbdhmhkfhjfaa.I
namespace Go.Proofs.Ytcmbdhmhkfhjfaa
open Go.RowKit
set_option linter.unusedVariables false
/-- A list of the call's own, as an entry. -/
theorem KOwn.entKI {w : World} {base B : Nat} {v : Value} {xs : List Int} (h : KOwn .i64 3 w base v xs) (hw : ∀ x ∈ xs, (Lit.int .i64 x).wf = true) (hm : xs.length ≤ 17592186044416) (hB : B ≤ base) :
    ∃ E : I.EntK, E.val = v ∧ E.Ok w B ∧ ∀ g, E.a = some g → base ≤ g ∧ v.ownBlock = some g := by
  rcases h with ⟨rfl, rfl⟩ | ⟨g, n, cap, r, rfl, h2, h3, h4, h5, h6, h7, h8⟩
  · exact ⟨⟨none, [], 0, 0, [], []⟩, rfl, ⟨⟨Nat.le_refl _, ⟨by show 0 ≤ _; omega, by show 0 ≤ _; omega⟩, rfl⟩, by simp, .inl ⟨rfl, rfl, rfl⟩⟩, fun g h => by cases h⟩
  · simp only [maxLen] at h6
    refine ⟨⟨some g, [], n, cap, xs ++ r, []⟩, rfl, ⟨⟨h5, ⟨h6, by show n ≤ _; omega⟩, by show (xs ++ r).length = cap; rw [List.length_append]; exact h7⟩, wf_append hw h8, .inr ⟨g, rfl, by omega, by rw [List.append_nil, List.nil_append]; exact h4⟩⟩, fun g' e => ?_⟩
    have e : some g = some g' := e
    injection e with e
    subst e
    exact ⟨h2, rfl⟩
/-- Only some blocks were written; others may be new. -/
structure Only (w w' : World) (S : Nat → Prop) : Prop where
  os : w'.os = w.os
  tape : w'.tape = w.tape
  output : w'.output = w.output
  size : w.heap.size ≤ w'.heap.size
  block : ∀ b, b < w.heap.size → ¬ S b → w'.heap[b]? = w.heap[b]?
theorem Only.refl (w : World) (S : Nat → Prop) : Only w w S := ⟨rfl, rfl, rfl, Nat.le_refl _, fun _ _ _ => rfl⟩
theorem Only.below {w w' w2 : World} {S : Nat → Prop} (h : Only w w' S) (hb : Below w'.heap.size w' w2) : Only w w2 S :=
  ⟨hb.os.trans h.os, hb.tape.trans h.tape, hb.output.trans h.output, Nat.le_trans h.size hb.size, fun b hlt hS => (hb.block b (Nat.lt_of_lt_of_le hlt h.size)).trans (h.block b hlt hS)⟩
theorem Only.grown {w w' w2 : World} {S T : Nat → Prop} {v : Option Nat} (h : Only w w' S) (hg : w'.grownBy w2 v) (hST : ∀ b, S b → T b) (hv : ∀ g, v = some g → T g) : Only w w2 T :=
  ⟨hg.os.trans h.os, hg.tape.trans h.tape, hg.output.trans h.output, Nat.le_trans h.size hg.size, fun b hlt hT => (hg.block b (Nat.lt_of_lt_of_le hlt h.size) (fun e => hT (hv b e.symm))).trans (h.block b hlt (fun hs => hT (hST b hs)))⟩
theorem Only.bel {w w' : World} {S : Nat → Prop} {B : Nat} (h : Only w w' S) (hB : B ≤ w.heap.size) (hS : ∀ b, S b → B ≤ b) : Below B w w' :=
  ⟨h.os, h.tape, h.output, h.size, fun b hb => h.block b (by omega) (fun hs => by have := hS b hs; omega)⟩
theorem Only.kown {k : IntKind} {e : TypeId} {w w' : World} {S : Nat → Prop} {base : Nat} {v : Value} {xs : List Int} (h : Only w w' S) (hk : KOwn k e w base v xs) (hS : ∀ g, v.ownBlock = some g → ¬ S g) : KOwn k e w' base v xs := by
  rcases hk with h0 | ⟨g, n, cap, r, rfl, h2, h3, h4, h5⟩
  · exact .inl h0
  · exact .inr ⟨g, n, cap, r, rfl, h2, h3, (h.block g (block_lt h4) (hS g rfl)).trans h4, h5⟩
end Go.Proofs.Ytcmbdhmhkfhjfaa
namespace Go.Proofs.Ytcmbdhmhkfhjfaa
open Go.RowKit
set_option linter.unusedVariables false
set_option maxRecDepth 100000

theorem PlOwn.only {w w' : World} {S : Nat → Prop} {base : Nat} {v : Value} {ps : List Pol} (hp : PlOwn w base v ps) (h : Only w w' S) (hS : ∀ b, S b → b < base) : PlOwn w' base v ps := by
  obtain ⟨L, h1, h2, h3, h4⟩ := hp
  refine ⟨L, h1, ⟨h2.1, ?_⟩, fun p hp => h.kown (h3 p hp) (fun g e hs => by have := (h3 p hp).block g e; have := hS g hs; omega), h4⟩
  rcases h2.2 with h0 | ⟨g, cap, cur, hv, hb, hg, r⟩
  · exact .inl h0
  · exact .inr ⟨g, cap, cur, hv, hb, (h.block g (block_lt hg) (fun hs => by have := hS g hs; omega)).trans hg, r⟩
/-- The blocks of the first Tags of a list of polls. -/
def BlkOf (L : List (Pol × Value)) (k b : Nat) : Prop := ∃ j, ∃ h : j < L.length, j < k ∧ L[j].2.ownBlock = some b
/-- A list of polls of which the first Tags were written over. -/
structure Worn (w5 wr : World) (base : Nat) (v : Value) (L : List (Pol × Value)) (k : Nat) : Prop where
  row : w5.ownsRow base 24 6 v L.length (flatV pcell L)
  each : ∀ p ∈ L, KOwn .i64 3 w5 base p.2 p.1.tg
  far : L.Pairwise (fun a b => FarV a.2 b.2)
  only : Only w5 wr (BlkOf L k)
theorem Worn.at_ {w5 wr : World} {base : Nat} {v : Value} {L : List (Pol × Value)} {k i : Nat} (h : Worn w5 wr base v L k) (hk : k ≤ i) (hi : i < L.length) :
    ∃ g c A m cc, v = .slice (some ⟨g, 0, none⟩) L.length c ∧ g < wr.heap.size ∧ (wr.cell? ⟨g, i * 6, none⟩ = some (.int .i64 L[i].1.un) ∧ wr.cell? ⟨g, i * 6 + 1, none⟩ = some (.int .i64 L[i].1.ki) ∧ wr.cell? ⟨g, i * 6 + 2, none⟩ = some (.int .i64 L[i].1.ad) ∧ wr.cell? ⟨g, i * 6 + 3, none⟩ = some (.int .i64 L[i].1.ct) ∧ wr.cell? ⟨g, i * 6 + 4, none⟩ = some (.int .i64 L[i].1.ev) ∧ wr.cell? ⟨g, i * 6 + 5, none⟩ = some (.slice A m cc)) ∧ L[i].2 = .slice A m cc ∧ KOwn .i64 3 wr base (.slice A m cc) L[i].1.tg := by
  have hkw := h.each _ (List.getElem_mem hi)
  have hkr : KOwn .i64 3 wr base L[i].2 L[i].1.tg := h.only.kown hkw (fun g e hs => by
    obtain ⟨j, hj, hjk, e2⟩ := hs
    have hf := List.pairwise_iff_getElem.1 h.far j i hj hi (by omega)
    rcases hf with hf | hf
    · rw [hf] at e2; cases e2
    · rw [e, e2] at hf; exact hf rfl)
  rcases h.row.2 with ⟨e0, h0⟩ | ⟨g, cap, cur, hv, hb, hg, h5, h6, h7, h8⟩
  · omega
  · have hlg := block_lt hg
    have hgS : ¬ BlkOf L k g := by
      rintro ⟨j, hj, hjk, e2⟩
      have hf := pol_far h.row (h.each _ (List.getElem_mem hj))
      rw [hv] at hf
      rcases hf with hf | hf
      · rw [hf] at e2; cases e2
      · rw [e2] at hf; exact hf rfl
    have hgr := (h.only.block g hlg hgS).trans hg
    obtain ⟨A, m, cc, hs⟩ := hkw.sl
    have hcell : ∀ j, j < 6 → wr.cell? ⟨g, i * 6 + j, none⟩ = (pcell L[i])[j]? := by
      intro j hj
      rw [cell_of_row wr g _ cur _ _ hgr, ← flatV_get pcell_len L i hi j hj, ← h8, List.getElem?_take_of_lt (by omega), Array.getElem?_toList]
    have c0 := hcell 0 (by omega)
    have c1 := hcell 1 (by omega)
    have c2 := hcell 2 (by omega)
    have c3 := hcell 3 (by omega)
    have c4 := hcell 4 (by omega)
    have c5 := hcell 5 (by omega)
    refine ⟨g, cap, A, m, cc, hv, by have := h.only.size; omega, ⟨?_, ?_, ?_, ?_, ?_, ?_⟩, hs, by rw [← hs]; exact hkr⟩
    · rw [Nat.add_zero] at c0; rw [c0]; simp [pcell]
    · rw [c1]; simp [pcell]
    · rw [c2]; simp [pcell]
    · rw [c3]; simp [pcell]
    · rw [c4]; simp [pcell]
    · rw [c5]; simp [pcell, hs]
theorem Worn.below {w5 wr w2 : World} {base : Nat} {v : Value} {L : List (Pol × Value)} {k : Nat} (h : Worn w5 wr base v L k) (hb : Below wr.heap.size wr w2) : Worn w5 w2 base v L k := ⟨h.row, h.each, h.far, h.only.below hb⟩
theorem Worn.next {w5 wr w2 : World} {base : Nat} {v : Value} {L : List (Pol × Value)} {k : Nat} (h : Worn w5 wr base v L k) (hk : k < L.length) {A : Option Addr} {m cc : Nat} (hs : L[k].2 = .slice A m cc) (hg : wr.grownBy w2 (Value.slice A m cc).ownBlock) : Worn w5 w2 base v L (k + 1) :=
  ⟨h.row, h.each, h.far, h.only.grown hg (fun b ⟨j, hj, hjk, e⟩ => ⟨j, hj, by omega, e⟩) (fun g e => ⟨k, hk, by omega, by rw [hs]; exact e⟩)⟩
theorem Worn.lowS {w5 wr : World} {base : Nat} {v : Value} {L : List (Pol × Value)} {k : Nat} (h : Worn w5 wr base v L k) : ∀ b, BlkOf L k b → base ≤ b ∧ b < w5.heap.size := by
  rintro b ⟨j, hj, _, e⟩
  exact (h.each _ (List.getElem_mem hj)).block b e
theorem plan_wf {l : List Tg} : ∀ p ∈ planL l, ∀ x ∈ p.tg, (Lit.int .i64 x).wf = true := by
  intro p hp x hx
  by_cases h : (chkAll l).1 = 0
  · have hi := plan_inv h
    obtain ⟨k, rfl, hk, _⟩ := (hi.each p hp).all x hx
    have := (tag_tab h).1
    exact wf_small (by omega) (by omega)
  · rw [plan_bad h] at hp; cases hp
theorem plan_tgs {l : List Tg} : (planL l).length ≤ 64 ∧ ∀ p ∈ planL l, p.tg.length ≤ 64 := by
  by_cases h : (chkAll l).1 = 0
  · have hi := plan_inv h
    have hl := (tag_tab h).1
    have hf := congrArg List.length hi.flat
    rw [List.length_map, ordT_len, List.length_flatMap] at hf
    have key : ∀ ps : List Pol, (∀ p ∈ ps, 1 ≤ p.tg.length) → ps.length ≤ (ps.map fun p => p.tg.length).sum ∧ ∀ p ∈ ps, p.tg.length ≤ (ps.map fun p => p.tg.length).sum := by
      intro ps
      induction ps with
      | nil => intro _; exact ⟨Nat.le_refl _, fun p hp => (by cases hp)⟩
      | cons q ps ih =>
        intro h1
        obtain ⟨i1, i2⟩ := ih (fun p hp => h1 p (List.mem_cons_of_mem _ hp))
        have := h1 q List.mem_cons_self
        simp only [List.map_cons, List.sum_cons, List.length_cons]
        refine ⟨by omega, fun p hp => ?_⟩
        rcases List.mem_cons.1 hp with rfl | hp
        · omega
        · have := i2 p hp; omega
    have hne : ∀ p ∈ planL l, 1 ≤ p.tg.length := fun p hp => by
      obtain ⟨k, e, _⟩ := (hi.each p hp).hd
      cases ht : p.tg with
      | nil => rw [ht] at e; cases e
      | cons a t => simp
    obtain ⟨k1, k2⟩ := key _ hne
    exact ⟨by omega, fun p hp => by have := k2 p hp; omega⟩
  · rw [plan_bad h]; exact ⟨Nat.zero_le _, fun p hp => (by cases hp)⟩

end Go.Proofs.Ytcmbdhmhkfhjfaa
namespace Go.Proofs.Ytcmbdhmhkfhjfaa
open Go.RowKit
set_option linter.unusedVariables false

def seenC (n : Nat) (d : List Int) : List Int := (List.range n).map fun j : Nat => ((d.count (j : Int) : Nat) : Int)
theorem seenC_len (n : Nat) (d : List Int) : (seenC n d).length = n := by simp [seenC]
theorem seenC_nil (n : Nat) : seenC n [] = List.replicate n 0 := by
  apply List.ext_getElem (by simp [seenC])
  intro i h1 h2
  simp [seenC]
theorem seenC_nth {n : Nat} (d : List Int) {j : Nat} (h : j < n) : nth (seenC n d) j = ((d.count (j : Int) : Nat) : Int) := by
  rw [nth_eq _ _ (by rw [seenC_len]; exact h)]
  simp [seenC]
theorem seenC_set {n : Nat} (d : List Int) {q : Nat} (h : q < n) : (seenC n d).set q (((d.count (q : Int) : Nat) : Int) + 1) = seenC n (d ++ [(q : Int)]) := by
  apply List.ext_getElem (by simp [seenC])
  intro i h1 h2
  rw [List.getElem_set]
  simp only [seenC, List.getElem_map, List.getElem_range, List.count_append, List.count_singleton]
  by_cases e : q = i
  · subst e; simp
  · rw [if_neg e]
    have : ¬ (q : Int) = (i : Int) := by omega
    simp [this]
theorem seenC_wf {n : Nat} (d : List Int) (hd : d.length ≤ 1000000) : ∀ x ∈ seenC n d, (Lit.int .i64 x).wf = true := by
  intro x hx
  obtain ⟨j, _, rfl⟩ := List.mem_map.1 hx
  have := List.count_le_length (a := (j : Int)) (l := d)
  simp [Lit.wf, IntKind.min, IntKind.max, IntKind.signed, IntKind.bits]; omega
theorem seenC_one {l : List Tg} {n : Nat} (hn : l.length = n) {j : Nat} (h : j < n) : nth (seenC n (intL (ordT l))) j = 1 := by
  rw [seenC_nth _ h]
  have hnd : (ordT l).Nodup := (ordT_perm l).nodup_iff.2 List.nodup_range
  have hm : j ∈ ordT l := (ordT_perm l).mem_iff.2 (List.mem_range.2 (by omega))
  have hc : (intL (ordT l)).count (j : Int) = (ordT l).count j := by
    unfold intL
    generalize ordT l = o
    induction o with
    | nil => rfl
    | cons x xs ih =>
      rw [List.map_cons, List.count_cons, List.count_cons, ih]
      by_cases e : x = j
      · subst e; simp
      · have : ¬ (x : Int) = (j : Int) := by omega
        simp [e, this]
  have h1 : (ordT l).count j = 1 := by
    have ha := List.nodup_iff_count.1 hnd j
    have hb := List.count_pos_iff.2 hm
    omega
  rw [hc, h1]; rfl
end Go.Proofs.Ytcmbdhmhkfhjfaa
namespace Go.Proofs.Ytcmbdhmhkfhjfaa
open Go.RowKit
set_option linter.unusedVariables false
set_option maxRecDepth 100000

/-- The word at an address. -/
def wordR (row : List Int) (a : Int) : Int := nth row (a.toNat % row.length)
theorem wordR_wf {row : List Int} (h : ∀ x ∈ row, (Lit.int .u16 x).wf = true) (h1 : 1 ≤ row.length) (a : Int) : (Lit.int .u16 (wordR row a)).wf = true := by
  unfold wordR
  have hl : a.toNat % row.length < row.length := Nat.mod_lt _ (by omega)
  rw [nth_eq _ _ hl]
  exact h _ (List.getElem_mem hl)
def wordsR (row : List Int) (a : Int) (n : Nat) : List Int := (List.range n).map fun i : Nat => wordR row (a + i)
theorem wordsR_len (row : List Int) (a : Int) (n : Nat) : (wordsR row a n).length = n := by simp [wordsR]
theorem wordsR_succ (row : List Int) (a : Int) (n : Nat) : wordsR row a (n + 1) = wordsR row a n ++ [wordR row (a + n)] := by simp [wordsR, List.range_succ]
theorem wordsR_nth (row : List Int) (a : Int) {n k : Nat} (h : k < n) : nth (wordsR row a n) k = wordR row (a + k) := by
  rw [nth_eq _ _ (by rw [wordsR_len]; exact h)]
  simp [wordsR]
theorem wordsR_wf {row : List Int} (h : ∀ x ∈ row, (Lit.int .u16 x).wf = true) (h1 : 1 ≤ row.length) (a : Int) (n : Nat) : ∀ x ∈ wordsR row a n, (Lit.int .u16 x).wf = true := by
  intro x hx
  obtain ⟨i, _, rfl⟩ := List.mem_map.1 hx
  exact wordR_wf h h1 _
theorem wordsR_piece (row : List Int) (a : Int) {n k m : Nat} (h : k + m ≤ n) : ((wordsR row a n).drop k).take m = wordsR row (a + k) m := by
  apply List.ext_getElem (by simp [wordsR]; omega)
  intro i h1 h2
  simp [wordsR, Int.add_assoc]
def oddW (x : Int) : Bool := x.tmod 2 == 1
def bitsR (row : List Int) (a : Int) (n : Nat) : List Bool := (List.range n).map fun i : Nat => oddW (wordR row (a + i))
theorem bitsR_len (row : List Int) (a : Int) (n : Nat) : (bitsR row a n).length = n := by simp [bitsR]
theorem bitsR_succ (row : List Int) (a : Int) (n : Nat) : bitsR row a (n + 1) = bitsR row a n ++ [oddW (wordR row (a + n))] := by simp [bitsR, List.range_succ]
theorem bitsR_nth (row : List Int) (a : Int) {n k : Nat} (h : k < n) : L.nth (bitsR row a n) k = oddW (wordR row (a + k)) := by
  rw [L.nth_eq _ _ (by rw [bitsR_len]; exact h)]
  simp [bitsR]
/-- The answer. -/
def ansR (row : List Int) (k a : Int) (n : Nat) : Rep := if k = 1 ∨ k = 2 then ⟨0, bitsR row a n, [], []⟩ else ⟨0, [], wordsR row a n, []⟩
theorem ansR_x (row : List Int) (k a : Int) (n : Nat) : (ansR row k a n).x = 0 := by unfold ansR; split <;> rfl
/-- What a tag's own words mean. -/
def ownT (t : Tg) (row : List Int) : Int := if t.ki = 1 ∨ t.ki = 2 then (wordR row t.ad).tmod 2 else valN t.sc (rawN t.sc (wordsR row t.ad (widT t).toNat))
theorem u16_range {x : Int} (h : (Lit.int .u16 x).wf = true) : 0 ≤ x ∧ x ≤ 65535 := by
  simp [Lit.wf, IntKind.min, IntKind.max, IntKind.signed, IntKind.bits] at h; omega
theorem odd_val {x : Int} (h : 0 ≤ x) : (if oddW x = true then (1 : Int) else 0) = x.tmod 2 := by
  unfold oddW
  rw [Int.tmod_eq_emod_of_nonneg h]
  have : x % 2 = 0 ∨ x % 2 = 1 := by omega
  rcases this with e | e
  · rw [e]; rfl
  · rw [e]; rfl
theorem ans_says {row : List Int} (hw : ∀ x ∈ row, (Lit.int .u16 x).wf = true) (h1 : 1 ≤ row.length) {t : Tg} {pu pk pa pc : Int} {n : Nat} (hn : pc = n) (hin : inP t pu pk pa pc = true) (h0 : 0 ≤ pa) : valT t pa (ansR row pk pa n).on (ansR row pk pa n).set = ownT t row := by
  obtain ⟨i1, i2, i3, i4⟩ := inP_iff.1 hin
  have hwd := widT_le t
  obtain ⟨k, hk⟩ : ∃ k : Nat, t.ad - pa = k := ⟨(t.ad - pa).toNat, by omega⟩
  have hta : t.ad = pa + k := by omega
  unfold valT ownT
  rw [hk, Int.toNat_natCast]
  by_cases hb : t.ki = 1 ∨ t.ki = 2
  · have ha : ansR row pk pa n = ⟨0, bitsR row pa n, [], []⟩ := if_pos (by rw [← i2]; exact hb)
    rw [ha, if_pos hb, if_pos hb]
    show (if L.nth (bitsR row pa n) k = true then (1 : Int) else 0) = _
    rw [bitsR_nth _ _ (by omega), ← hta]
    exact odd_val (u16_range (wordR_wf hw h1 _)).1
  · have ha : ansR row pk pa n = ⟨0, [], wordsR row pa n, []⟩ := if_neg (by rw [← i2]; exact hb)
    rw [ha, if_neg hb, if_neg hb]
    show valN t.sc (rawN t.sc (((wordsR row pa n).drop k).take (widT t).toNat)) = _
    rw [wordsR_piece _ _ (by omega), ← hta]
theorem ans_chk {row : List Int} {k a c : Int} {n : Nat} (h : askE k a c = 0) (hn : c = n) : chkR (reqK k a c) (ansR row k a n) = 0 := by
  obtain ⟨⟨k1, k2⟩, ⟨a1, a2⟩, ⟨c1, c2⟩, ac⟩ := askE_zero h
  have hq : chkQ (reqK k a c) = 0 := by
    unfold askE at h
    rwa [if_neg (by omega)] at h
  unfold chkR
  rw [if_neg (by rw [hq]; simp), if_neg (by rw [ansR_x]; simp)]
  have hk : k = 1 ∨ k = 2 ∨ k = 3 ∨ k = 4 := by omega
  have hs : strayB (reqK k a c).c (ansR row k a n).on.length (ansR row k a n).set.length (ansR row k a n).fs.length = false := by
    rcases hk with rfl | rfl | rfl | rfl <;> simp [strayB, anyB, reqK, ansR]
  have hm : manyB (reqK k a c) (ansR row k a n) = true := by
    rcases hk with rfl | rfl | rfl | rfl <;> simp [manyB, reqK, ansR, bitsR_len, wordsR_len, hn]
  rw [hs, hm]
  simp
end Go.Proofs.Ytcmbdhmhkfhjfaa
namespace Go.Proofs.Ytcmbdhmhkfhjfaa
open Go.RowKit
set_option linter.unusedVariables false
set_option maxRecDepth 100000
attribute [local go_sem ↓] ldTag_fold stTag_fold bxTag_fold ldSc_fold
attribute [local go_sem] bxTag_run

set_option maxHeartbeats 2000000 in
theorem own10_any (t : Tg) (A : Option Addr) (n c : Nat) (row : List Int) (w : World) (hr : Row .u16 w w.heap.size A row) (hn : row.length = n) (h1 : 1 ≤ n) (hnb : n ≤ 4611686018427387904) (hta : 0 ≤ t.ad ∧ t.ad ≤ 65536) :
    Calls Try.prog 16 #[tgV t, .slice A n c] w fun e w' => e = .returned (.int .i64 (ownT t row)) ∧ Below w.heap.size w w' := by
  have hx := heap_alloc_new w (.cells (tgC t).toArray 49)
  have bel0 := bel_alloc w (.cells (tgC t).toArray 49)
  have hz : (w.alloc (.cells (tgC t).toArray 49)).heap.size = w.heap.size + 1 := by simp
  have HR := Lib.hid hr
  have HN := Lib.hid hn
  have HW : Hid (∀ W : World, Calls Try.prog 13 #[tgV t] W fun e w' => e = .returned (.int .i64 (widT t)) ∧ Below W.heap.size W w') := Lib.hid fun W => width_t t W
  obtain ⟨m, hm⟩ : ∃ m : Nat, widT t = m := ⟨(widT t).toNat, by have := widT_le t; omega⟩
  have hm12 := widT_le t
  have HOT : Hid (ownT t row = if t.ki = 1 ∨ t.ki = 2 then (wordR row t.ad).tmod 2 else valN t.sc (rawN t.sc (wordsR row t.ad m))) := Lib.hid (by unfold ownT; rw [hm, Int.toNat_natCast])
  rw [hm] at HW hm12
  clear hr hn hm
  generalize ownT t row = res at *
  go_enter Try.func16, Try.ntmps16
  go_wp2
  generalize hw0 : w.alloc (.cells (tgC t).toArray 49) = w0 at *
  have BEL0 := Lib.hid bel0
  have HX := Lib.hid hx
  have HZ := Lib.hid hz
  clear hw0 bel0 hx hz
  go_loopw [5, 6] (fun v i wr => ∃ k : Nat, k ≤ m ∧ i = .int .i64 k ∧ Own .u16 66 wr (w.heap.size + 1) v (wordsR row t.ad k) ∧ Hid (Below w0.heap.size w0 wr)) (fun _ i _ => m - (intOf i).toNat)
  case atStart => exact ⟨0, by omega, rfl, Own.nil _ _ _ _, Lib.hid (Below.refl _ _)⟩
  case round =>
    obtain ⟨k, hk, rfl, hown, hbel⟩ := hrel
    have hxr := keepB hbel.out HX.out
    have hld := tgBox_ld hxr
    have hszr := hbel.out.size
    have hz0 := HZ.out
    go_wp2_with fail
    refine (HW.out _).mono ?_
    rintro e w1 ⟨rfl, b1⟩
    have hown1 := hown.below b1 (Nat.le_refl _)
    have hbel1 := Lib.hid (hbel.out.trans (b1.mono hszr))
    have hxr1 := keepB b1 hxr
    obtain ⟨a0, a1, a2, a3, a4⟩ := tgBox hxr1
    have hbs : w.heap.size + 1 ≤ w1.heap.size := by have := b1.size; omega
    clear b1 hown hbel hxr hld hz0
    by_cases hlt : k < m
    · have hj : (t.ad + (k : Int)).toNat % row.length < row.length := Nat.mod_lt _ (by have := HN.out; omega)
      have hrow1 := (HR.out.below (BEL0.out.trans (hbel1.out.mono BEL0.out.size)))
      obtain ⟨b, o, rfl, hb1, hc1⟩ := hrow1.at_ hj
      have hwf := wordR_wf HR.out.1 (by have := HN.out; omega) (t.ad + k)
      obtain ⟨j, hje⟩ : ∃ j, (t.ad + (k : Int)).toNat % row.length = j := ⟨_, rfl⟩
      have hwd : wordR row (t.ad + k) = nth row j := by unfold wordR; rw [hje]
      rw [hje] at hj hc1
      rw [← hwd] at hc1
      have HS : Hid (wordsR row t.ad (k + 1) = wordsR row t.ad k ++ [wordR row (t.ad + k)]) := Lib.hid (wordsR_succ row t.ad k)
      have HL : Hid ((wordsR row t.ad k).length = k) := Lib.hid (wordsR_len _ _ _)
      have hone := Row.one .u16 w1 66 (wordR row (t.ad + k)) hwf
      have hjn : j < n := by have := HN.out; omega
      have hrm : (t.ad + (k : Int)).tmod (n : Int) = (j : Int) := by
        rw [Int.tmod_eq_emod_of_nonneg (by omega), ← hje, HN.out]
        have : ((t.ad + (k : Int)).toNat : Int) = t.ad + k := by omega
        rw [← this]
        rfl
      have hwr1 : IntKind.i64.wrap (t.ad + (k : Int)) = t.ad + k := by rw [IntKind.wrap_i64]; omega
      have hwr2 : IntKind.i64.wrap (j : Int) = j := by rw [IntKind.wrap_i64]; omega
      have hj0 : (0 : Int) ≤ j := by omega
      have hjn' : (j : Int) < n := by omega
      have hn0 : ¬ (n : Int) = 0 := by omega
      have hn1 : ((n : Int) == 0) = false := beq_false_of_ne hn0
      have hkm : (k : Int) < m := by omega
      generalize wordR row (t.ad + k) = x at *
      clear hje hj hrow1 hwd
      go_wp2_with (at_builtin; refine wpList_append_row _ rfl _ _ 26 rfl (w.heap.size + 1) .u16 66 2 Try.underlying26 W.info_u16 _ (wordsR row t.ad k) rfl (hown1.alloc _) _ _ 1 1 [x] rfl hone rfl (by rw [HL.out]; omega) (by rw [HL.out]; simp only [maxLen]; omega) (by simp; omega) ?_; intro v2 w2 own2 g2)
      rw [← HS.out] at own2
      have hbel2 := Lib.hid ((hbel1.out.alloc (by have := hbel1.out.size; omega) (.cells #[.int .u16 x] 66)).grown g2 (by have := hbel1.out.size; have := World.size_alloc w1 (.cells #[.int .u16 x] 66); omega) (fun g e => by have := (hown1.block g e).1; have := HZ.out; omega))
      have hz2 : IntKind.i64.wrap ((k : Int) + 1) = (k : Int) + 1 := by rw [IntKind.wrap_i64]; omega
      clear g2 hown1 hone a0 a1 a2 a3 a4 hxr1
      go_wp2
      go_roundw
      case rel => exact ⟨k + 1, by omega, by go_num, own2, hbel2⟩
      case measure => simp [intOf]; omega
    · obtain rfl : k = m := by omega
      have BELF := Lib.hid (BEL0.out.trans (hbel1.out.mono BEL0.out.size))
      have HWF := wordsR_wf HR.out.1 (by have := HN.out; omega) t.ad k
      obtain ⟨Av, cv, rfl, rowv, _, _⟩ := hown1.row HWF
      have HLW : Hid ((wordsR row t.ad k).length = k) := Lib.hid (wordsR_len _ _ _)
      rw [HLW.out]
      by_cases hki : t.ki = 1 ∨ t.ki = 2
      · have hres : Hid (res = (wordR row t.ad).tmod 2) := Lib.hid (by rw [HOT.out, if_pos hki])
        obtain ⟨b, o, rfl, hb1, hc1⟩ := rowv.at_ (i := 0) (by rw [HLW.out]; omega)
        rw [wordsR_nth _ _ (by omega), show t.ad + ((0 : Nat) : Int) = t.ad by omega, Nat.add_zero] at hc1
        have hxb := u16_range (wordR_wf HR.out.1 (by have := HN.out; omega) t.ad)
        generalize wordR row t.ad = x at *
        have hk1 : ((t.ki == 1) = true) ∨ ((t.ki == 1) = false ∧ (t.ki == 2) = true) := by
          rcases hki with h | h
          · exact .inl (by simp [h])
          · exact .inr (by simp [h])
        have hmod : 0 ≤ x.tmod 2 ∧ x.tmod 2 ≤ 1 := by rw [Int.tmod_eq_emod_of_nonneg hxb.1]; omega
        have hw1 : IntKind.u16.wrap (x.tmod 2) = x.tmod 2 := by rw [IntKind.wrap_u16]; omega
        have hw2 : IntKind.i64.wrap (x.tmod 2) = x.tmod 2 := by rw [IntKind.wrap_i64]; omega
        have hk0 : (0 : Int) < k := by omega
        rcases hk1 with e1 | ⟨e1, e2⟩
        · go_wp2
          go_ret
          exact ⟨by rw [hres.out, Int.tmod_eq_emod_of_nonneg hxb.1]; rfl, BELF.out⟩
        · go_wp2
          go_ret
          exact ⟨by rw [hres.out, Int.tmod_eq_emod_of_nonneg hxb.1]; rfl, BELF.out⟩
      · have hres : Hid (res = valN t.sc (rawN t.sc (wordsR row t.ad k))) := Lib.hid (by rw [HOT.out, if_neg hki])
        have e1 : (t.ki == 1) = false := beq_false_of_ne (fun h => hki (.inl h))
        have e2 : (t.ki == 2) = false := beq_false_of_ne (fun h => hki (.inr h))
        have hsc := ldSc_run hxr1
        go_wp2_with fail
        refine (raw_t t Av k cv (wordsR row t.ad k) _ rowv HLW.out (by omega)).mono ?_
        rintro e w2 ⟨rfl, b2⟩
        have hsc2 := ldSc_run (keepB b2 hxr1)
        have BELG := Lib.hid (BELF.out.trans (b2.mono BELF.out.size))
        clear b2 hsc
        go_wp2_with fail
        refine (value_t t _ _).mono ?_
        rintro e w3 ⟨rfl, b3⟩
        go_wp2
        go_ret
        exact ⟨by rw [hres.out]; rfl, BELG.out.trans (b3.mono BELG.out.size)⟩
end Go.Proofs.Ytcmbdhmhkfhjfaa
namespace Go.Proofs.Ytcmbdhmhkfhjfaa
open Go.RowKit
set_option linter.unusedVariables false
set_option maxRecDepth 100000

def zRep : Obj := .cells #[.int .i64 0, .slice none 0 0, .slice none 0 0, .slice none 0 0] 56 (0, 0)
/-- The boxes of answer: the request, the result, the answer as it grows. -/
structure AnsH (w w' : World) (k ad ct : Int) (o : Obj) : Prop where
  bel : Below w.heap.size w w'
  sz : w.heap.size + 3 ≤ w'.heap.size
  b0 : w'.heap[w.heap.size]? = some (.cells #[.int .i64 k, .int .i64 ad, .int .i64 ct, .slice none 0 0, .slice none 0 0, .slice none 0 0] 29 (0, 0))
  b1 : w'.heap[w.heap.size + 1]? = some zRep
  b2 : w'.heap[w.heap.size + 2]? = some o
theorem AnsH.below {w w' w2 : World} {k ad ct : Int} {o : Obj} (h : AnsH w w' k ad ct o) (hb : Below w'.heap.size w' w2) : AnsH w w2 k ad ct o := by
  have := h.sz
  exact ⟨h.bel.trans (hb.mono (by omega)), Nat.le_trans h.sz hb.size, keepB hb h.b0, keepB hb h.b1, keepB hb h.b2⟩
theorem AnsH.alloc {w w' : World} {k ad ct : Int} {o : Obj} (h : AnsH w w' k ad ct o) (q : Obj) : AnsH w (w'.alloc q) k ad ct o := h.below (bel_alloc w' q)
theorem AnsH.grown {w w' w2 : World} {k ad ct : Int} {o : Obj} (h : AnsH w w' k ad ct o) {v : Option Nat} (hg : w'.grownBy w2 v) (hv : ∀ g, v = some g → w.heap.size + 3 ≤ g) : AnsH w w2 k ad ct o := by
  have := h.sz
  exact ⟨h.bel.grown hg (by omega) (fun g e => by have := hv _ e; omega), Nat.le_trans h.sz hg.size, (hg.block _ (by omega) (fun e => by have := hv _ e.symm; omega)).trans h.b0, (hg.block _ (by omega) (fun e => by have := hv _ e.symm; omega)).trans h.b1, (hg.block _ (by omega) (fun e => by have := hv _ e.symm; omega)).trans h.b2⟩
theorem AnsH.set {w w' : World} {k ad ct : Int} {cs : Array Value} {T : TypeId} (h : AnsH w w' k ad ct (.cells cs T (0, 0))) (i : Nat) (v : Value) : AnsH w (w'.setCell ⟨w.heap.size + 2, i, none⟩ v) k ad ct (.cells (cs.setIfInBounds i v) T (0, 0)) := by
  refine ⟨below_setCell h.bel (by omega) i v, by have := h.sz; simpa [World.setCell] using this, (Below.heap_setCell _ _ _ _ (by intro e; simp only at e; omega)).trans h.b0, (Below.heap_setCell _ _ _ _ (by intro e; simp only at e; omega)).trans h.b1, ?_⟩
  have := h.b2
  simp [World.setCell, Array.getElem?_modify, this]
theorem AnsH.new (w : World) (k ad ct : Int) : AnsH w (((w.alloc (.cells #[.int .i64 k, .int .i64 ad, .int .i64 ct, .slice none 0 0, .slice none 0 0, .slice none 0 0] 29)).alloc zRep).alloc zRep) k ad ct zRep := by
  have t := Box3.new w (.cells #[.int .i64 k, .int .i64 ad, .int .i64 ct, .slice none 0 0, .slice none 0 0, .slice none 0 0] 29) zRep zRep
  exact ⟨t.bel, by simp, t.1, t.2.1, t.2.2.1⟩
theorem AnsH.askc {w w' : World} {k ad ct : Int} {o : Obj} (h : AnsH w w' k ad ct o) : w'.cell? ⟨w.heap.size, 0, none⟩ = some (.int .i64 k) ∧ w'.cell? ⟨w.heap.size, 1, none⟩ = some (.int .i64 ad) ∧ w'.cell? ⟨w.heap.size, 2, none⟩ = some (.int .i64 ct) := ⟨(of6 h.b0).1, (of6 h.b0).2.1, (of6 h.b0).2.2.1⟩
theorem four_of {w : World} {g : Nat} {a b c d : Value} {t : TypeId} (h : w.heap[g]? = some (.cells #[a, b, c, d] t (0, 0))) : w.cell? ⟨g, 0, none⟩ = some a ∧ w.cell? ⟨g, 1, none⟩ = some b ∧ w.cell? ⟨g, 2, none⟩ = some c ∧ w.cell? ⟨g, 3, none⟩ = some d :=
  ⟨cell_of_row _ _ 0 _ _ _ h, cell_of_row _ _ 1 _ _ _ h, cell_of_row _ _ 2 _ _ _ h, cell_of_row _ _ 3 _ _ _ h⟩
theorem Own.sl {k : IntKind} {e : TypeId} {w : World} {base : Nat} {v : Value} {xs : List Int} (h : Own k e w base v xs) : ∃ A n c, v = .slice A n c := by
  rcases h.2 with ⟨rfl, _⟩ | ⟨g, cap, cur, rfl, _⟩
  · exact ⟨_, _, _, rfl⟩
  · exact ⟨_, _, _, rfl⟩
theorem OwnL.sl {e : TypeId} {w : World} {base : Nat} {v : Value} {xs : List Bool} (h : L.Own () e w base v xs) : ∃ A n c, v = .slice A n c := by
  rcases h.2 with ⟨rfl, _⟩ | ⟨g, cap, cur, rfl, _⟩
  · exact ⟨_, _, _, rfl⟩
  · exact ⟨_, _, _, rfl⟩
theorem Own.setNot {k : IntKind} {e : TypeId} {w : World} {base : Nat} {v : Value} {xs : List Int} (h : Own k e w base v xs) {g : Nat} (hg : g < base) (i : Nat) (u : Value) : Own k e (w.setCell ⟨g, i, none⟩ u) base v xs := h.set hg i u
/-- What answer leaves. -/
def Answered (w : World) (r : Rep) (e : Ending) (w' : World) : Prop := ∃ Bo Bs mo ms eo es, e = .returned (.agg #[.int .i64 0, .slice Bo mo eo, .slice Bs ms es, .slice none 0 0]) ∧ Repd w' w'.heap.size r Bo Bs none mo ms 0 ∧ Below w.heap.size w w' ∧ ms ≤ es ∧ es ≤ 9223372036854775807
set_option maxHeartbeats 4000000 in
theorem answerW_any (k ad : Int) (cn : Nat) (A : Option Addr) (n c : Nat) (row : List Int) (w : World) (hr : Row .u16 w w.heap.size A row) (hn : row.length = n) (h1 : 1 ≤ n) (hnb : n ≤ 4611686018427387904) (hcn : cn ≤ 2000) (had : 0 ≤ ad ∧ ad ≤ 65535) (hk : ¬ (k = 1 ∨ k = 2)) :
    Calls Try.prog 15 #[.agg #[.int .i64 k, .int .i64 ad, .int .i64 (cn : Int), .slice none 0 0, .slice none 0 0, .slice none 0 0], .slice A n c] w (Answered w (ansR row k ad cn)) := by
  have HA : Hid (ansR row k ad cn = ⟨0, [], wordsR row ad cn, []⟩) := Lib.hid (if_neg hk)
  rw [HA.out]
  have HR := Lib.hid hr
  have HN := Lib.hid hn
  have e1 : (k == 1) = false := beq_false_of_ne (fun h => hk (.inl h))
  have e2 : (k == 2) = false := beq_false_of_ne (fun h => hk (.inr h))
  have v0 := Lib.hid (AnsH.new w k ad cn)
  clear hr hn hk
  go_enter Try.func15, Try.ntmps15
  go_wp2
  go_loopw [6] (fun i wr => ∃ j : Nat, ∃ v : Value, j ≤ cn ∧ i = .int .i64 j ∧ Own .u16 66 wr (w.heap.size + 3) v (wordsR row ad j) ∧ Hid (AnsH w wr k ad cn (.cells #[.int .i64 0, .slice none 0 0, v, .slice none 0 0] 56 (0, 0)))) (fun i _ => cn - (intOf i).toNat)
  case atStart => exact ⟨0, .slice none 0 0, by omega, rfl, Own.nil _ _ _ _, v0⟩
  case round =>
    obtain ⟨j, v, hj, rfl, hown, hv⟩ := hrel
    obtain ⟨q0, q1, q2⟩ := hv.out.askc
    obtain ⟨r0, r1, r2, r3⟩ := four_of hv.out.b2
    have hsz := hv.out.sz
    by_cases hlt : j < cn
    · have hi : (ad + (j : Int)).toNat % row.length < row.length := Nat.mod_lt _ (by have := HN.out; omega)
      obtain ⟨b, o, rfl, hb1, hc1⟩ := (HR.out.below hv.out.bel).at_ hi
      have hwf := wordR_wf HR.out.1 (by have := HN.out; omega) (ad + j)
      obtain ⟨i, hie⟩ : ∃ i, (ad + (j : Int)).toNat % row.length = i := ⟨_, rfl⟩
      have hwd : wordR row (ad + j) = nth row i := by unfold wordR; rw [hie]
      rw [hie] at hi hc1
      rw [← hwd] at hc1
      have HS : Hid (wordsR row ad (j + 1) = wordsR row ad j ++ [wordR row (ad + j)]) := Lib.hid (wordsR_succ row ad j)
      have HL : Hid ((wordsR row ad j).length = j) := Lib.hid (wordsR_len _ _ _)
      have hone := Row.one .u16 wr 66 (wordR row (ad + j)) hwf
      have hin : i < n := by have := HN.out; omega
      have hrm : (ad + (j : Int)).tmod (n : Int) = (i : Int) := by
        rw [Int.tmod_eq_emod_of_nonneg (by omega), ← hie, HN.out]
        have : ((ad + (j : Int)).toNat : Int) = ad + j := by omega
        rw [← this]
        rfl
      have hwr1 : IntKind.i64.wrap (ad + (j : Int)) = ad + j := by rw [IntKind.wrap_i64]; omega
      have hwr2 : IntKind.i64.wrap (i : Int) = i := by rw [IntKind.wrap_i64]; omega
      have hwr3 : IntKind.i64.wrap ((j : Int) + 1) = (j : Int) + 1 := by rw [IntKind.wrap_i64]; omega
      have hi0 : (0 : Int) ≤ i := by omega
      have hin' : (i : Int) < n := by omega
      have hn0 : ¬ (n : Int) = 0 := by omega
      have hn1 : ((n : Int) == 0) = false := beq_false_of_ne hn0
      have hjc : (j : Int) < cn := by omega
      generalize wordR row (ad + j) = x at *
      clear hie hi hwd
      go_wp2_with (at_builtin; refine wpList_append_row _ rfl _ _ 26 rfl (w.heap.size + 3) .u16 66 2 Try.underlying26 W.info_u16 _ (wordsR row ad j) rfl (hown.alloc _) _ _ 1 1 [x] rfl hone rfl (by rw [HL.out]; omega) (by rw [HL.out]; simp only [maxLen]; omega) (by simp; omega) ?_; intro v2 w2 own2 g2; obtain ⟨A2, n2, c2, rfl⟩ := own2.sl; have a2 := (hv.out.alloc (.cells #[.int .u16 x] 66)).grown g2 (fun g e => (hown.block g e).1); obtain ⟨s0, s1, s2, s3⟩ := four_of a2.b2; have f2 := block_frozen _ _ 2 _ _ a2.b2)
      rw [← HS.out] at own2
      have own3 := own2.setNot (g := w.heap.size + 2) (by omega) 2 (.slice A2 n2 c2)
      have a3 := Lib.hid (a2.set 2 (.slice A2 n2 c2))
      clear own2 a2 g2 hone r0 r1 r2 r3 q0 q1 q2 s0 s1 s2 s3 f2 hv hown
      go_wp2
      go_roundw
      case rel => exact ⟨j + 1, .slice A2 n2 c2, by omega, by go_num, own3, a3⟩
      case measure => simp [intOf]; omega
    · obtain rfl : j = cn := by omega
      have HWF := wordsR_wf HR.out.1 (by have := HN.out; omega) ad j
      obtain ⟨Av, cv, rfl, rowv, hle, hmx⟩ := hown.row HWF
      obtain ⟨s0, s1, s2, s3⟩ := four_of hv.out.b1
      have hfz := fun i => block_frozen _ _ i _ _ hv.out.b1
      have HLW : Hid ((wordsR row ad j).length = j) := Lib.hid (wordsR_len _ _ _)
      rw [HLW.out] at hle hown r2
      have hv2 := hv.out
      have hown' := Lib.hid hown
      have P5 := Lib.hid (put4_heap (g := w.heap.size + 1) hv.out.b1 (.int .i64 0) (.slice none 0 0) (.slice Av j cv) (.slice none 0 0))
      have B5 := Lib.hid (below_put4 hv.out.bel (g := w.heap.size + 1) (by omega) (.int .i64 0) (.slice none 0 0) (.slice Av j cv) (.slice none 0 0))
      have O5 := Lib.hid (hown'.out.put4 (g := w.heap.size + 1) (by omega) (.int .i64 0) (.slice none 0 0) (.slice Av j cv) (.slice none 0 0))
      simp only [maxLen] at hmx
      clear hown rowv hv
      (try rw [HLW.out])
      go_wp2
      (try simp only [Exit.inBlock, Exit.then])
      show bodyPost _ _ _ _ _ (put4 wr (w.heap.size + 1) (.int .i64 0) (.slice none 0 0) (.slice Av j cv) (.slice none 0 0))
      generalize put4 wr (w.heap.size + 1) (.int .i64 0) (.slice none 0 0) (.slice Av j cv) (.slice none 0 0) = w6 at *
      clear r0 r1 r2 r3 q0 q1 q2 s0 s1 s2 s3 hfz
      have c0 := cell_of_row w6 (w.heap.size + 1) 0 _ _ _ P5.out
      have c1' := cell_of_row w6 (w.heap.size + 1) 1 _ _ _ P5.out
      have c2 := cell_of_row w6 (w.heap.size + 1) 2 _ _ _ P5.out
      have c3' := cell_of_row w6 (w.heap.size + 1) 3 _ _ _ P5.out
      refine bodyPost_ret (v := .agg #[.int .i64 0, (.slice none 0 0), (.slice Av j cv), .slice none 0 0]) (by simp [results, Try.results15, go_sem, *]) rfl ?_
      obtain ⟨A9, c9, e9, row9, _, _⟩ := O5.out.row HWF
      injection e9 with x1 x2 x3
      subst x1
      exact ⟨none, Av, 0, j, 0, cv, rfl, ⟨L.Row.nil _ _ _ _, row9, FRow.nil _ _ _, rfl, HLW.out, rfl⟩, B5.out, hle, hmx⟩
set_option maxHeartbeats 4000000 in
theorem answerB_any (k ad : Int) (cn : Nat) (A : Option Addr) (n c : Nat) (row : List Int) (w : World) (hr : Row .u16 w w.heap.size A row) (hn : row.length = n) (h1 : 1 ≤ n) (hnb : n ≤ 4611686018427387904) (hcn : cn ≤ 2000) (had : 0 ≤ ad ∧ ad ≤ 65535) (hk : k = 1 ∨ k = 2) :
    Calls Try.prog 15 #[.agg #[.int .i64 k, .int .i64 ad, .int .i64 (cn : Int), .slice none 0 0, .slice none 0 0, .slice none 0 0], .slice A n c] w (Answered w (ansR row k ad cn)) := by
  have HA : Hid (ansR row k ad cn = ⟨0, bitsR row ad cn, [], []⟩) := Lib.hid (if_pos hk)
  rw [HA.out]
  have HR := Lib.hid hr
  have HN := Lib.hid hn
  have hk1 : ((k == 1) = true) ∨ ((k == 1) = false ∧ (k == 2) = true) := by
    rcases hk with h | h
    · exact .inl (by simp [h])
    · exact .inr (by simp [h])
  have v0 := Lib.hid (AnsH.new w k ad cn)
  clear hr hn hk
  go_enter Try.func15, Try.ntmps15
  go_wp2
  go_loopw [6] (fun i wr => ∃ j : Nat, ∃ v : Value, j ≤ cn ∧ i = .int .i64 j ∧ L.Own () 4 wr (w.heap.size + 3) v (bitsR row ad j) ∧ Hid (AnsH w wr k ad cn (.cells #[.int .i64 0, v, .slice none 0 0, .slice none 0 0] 56 (0, 0)))) (fun i _ => cn - (intOf i).toNat)
  case atStart => exact ⟨0, .slice none 0 0, by omega, rfl, L.Own.nil _ _ _ _, v0⟩
  case round =>
    obtain ⟨j, v, hj, rfl, hown, hv⟩ := hrel
    obtain ⟨q0, q1, q2⟩ := hv.out.askc
    obtain ⟨r0, r1, r2, r3⟩ := four_of hv.out.b2
    have hsz := hv.out.sz
    by_cases hlt : j < cn
    · have hi : (ad + (j : Int)).toNat % row.length < row.length := Nat.mod_lt _ (by have := HN.out; omega)
      obtain ⟨b, o, rfl, hb1, hc1⟩ := (HR.out.below hv.out.bel).at_ hi
      have hwf := wordR_wf HR.out.1 (by have := HN.out; omega) (ad + j)
      obtain ⟨i, hie⟩ : ∃ i, (ad + (j : Int)).toNat % row.length = i := ⟨_, rfl⟩
      have hwd : wordR row (ad + j) = nth row i := by unfold wordR; rw [hie]
      rw [hie] at hi hc1
      rw [← hwd] at hc1
      have HS : Hid (bitsR row ad (j + 1) = bitsR row ad j ++ [oddW (wordR row (ad + j))]) := Lib.hid (bitsR_succ row ad j)
      have HL : Hid ((bitsR row ad j).length = j) := Lib.hid (bitsR_len _ _ _)
      have hxb := u16_range hwf
      have hone := L.Row.one () wr 4 (oddW (wordR row (ad + j))) rfl
      have hin : i < n := by have := HN.out; omega
      have hrm : (ad + (j : Int)).tmod (n : Int) = (i : Int) := by
        rw [Int.tmod_eq_emod_of_nonneg (by omega), ← hie, HN.out]
        have : ((ad + (j : Int)).toNat : Int) = ad + j := by omega
        rw [← this]
        rfl
      have hwr1 : IntKind.i64.wrap (ad + (j : Int)) = ad + j := by rw [IntKind.wrap_i64]; omega
      have hwr2 : IntKind.i64.wrap (i : Int) = i := by rw [IntKind.wrap_i64]; omega
      have hwr3 : IntKind.i64.wrap ((j : Int) + 1) = (j : Int) + 1 := by rw [IntKind.wrap_i64]; omega
      have hi0 : (0 : Int) ≤ i := by omega
      have hin' : (i : Int) < n := by omega
      have hn0 : ¬ (n : Int) = 0 := by omega
      have hn1 : ((n : Int) == 0) = false := beq_false_of_ne hn0
      have hjc : (j : Int) < cn := by omega
      generalize wordR row (ad + j) = x at *
      obtain ⟨y, hy⟩ : ∃ y, oddW x = y := ⟨_, rfl⟩
      have ho1 : (x.tmod 2 == 1) = y := hy
      have ho2 : (x % 2 == 1) = y := by rw [← ho1, Int.tmod_eq_emod_of_nonneg hxb.1]
      have hw0 : IntKind.u16.wrap (x.tmod 2) = x.tmod 2 := by rw [IntKind.wrap_u16, Int.tmod_eq_emod_of_nonneg hxb.1]; omega
      have hw1 : IntKind.u16.wrap (x % 2) = x % 2 := by rw [IntKind.wrap_u16]; omega
      rw [hy] at HS hone
      clear hy
      clear hie hi hwd
      rcases hk1 with e1 | ⟨e1, e2⟩
      all_goals
        go_wp2_with (at_builtin; refine L.wpList_append_row _ rfl _ _ 25 rfl (w.heap.size + 3) () 4 1 Try.underlying25 L.info_bool _ (bitsR row ad j) rfl (hown.alloc _) _ _ 1 1 [y] rfl hone rfl (by rw [HL.out]; omega) (by rw [HL.out]; simp only [maxLen]; omega) (by simp; omega) ?_; intro v2 w2 own2 g2; obtain ⟨A2, n2, c2, rfl⟩ := OwnL.sl own2; have a2 := (hv.out.alloc (.cells #[.bool y] 4)).grown g2 (fun g e => (hown.block g e).1); obtain ⟨s0, s1, s2, s3⟩ := four_of a2.b2; have f2 := block_frozen _ _ 1 _ _ a2.b2)
        rw [← HS.out] at own2
        have own3 := own2.set (g := w.heap.size + 2) (by omega) 1 (.slice A2 n2 c2)
        have a3 := Lib.hid (a2.set 1 (.slice A2 n2 c2))
        clear own2 a2 g2 hone r0 r1 r2 r3 q0 q1 q2 s0 s1 s2 s3 f2 hv hown
        go_wp2
        go_roundw
        case rel => exact ⟨j + 1, .slice A2 n2 c2, by omega, by go_num, own3, a3⟩
        case measure => simp [intOf]; omega
    · obtain rfl : j = cn := by omega
      obtain ⟨Av, cv, rfl, rowv, hle, hmx⟩ := hown.row (fun _ _ => rfl)
      obtain ⟨s0, s1, s2, s3⟩ := four_of hv.out.b1
      have hfz := fun i => block_frozen _ _ i _ _ hv.out.b1
      have HLW : Hid ((bitsR row ad j).length = j) := Lib.hid (bitsR_len _ _ _)
      rw [HLW.out] at hle hown r1
      have hv2 := hv.out
      have hown' := Lib.hid hown
      have P5 := Lib.hid (put4_heap (g := w.heap.size + 1) hv.out.b1 (.int .i64 0) (.slice Av j cv) (.slice none 0 0) (.slice none 0 0))
      have B5 := Lib.hid (below_put4 hv.out.bel (g := w.heap.size + 1) (by omega) (.int .i64 0) (.slice Av j cv) (.slice none 0 0) (.slice none 0 0))
      have O5 := Lib.hid (hown'.out.put4 (g := w.heap.size + 1) (by omega) (.int .i64 0) (.slice Av j cv) (.slice none 0 0) (.slice none 0 0))
      simp only [maxLen] at hmx
      clear hown rowv hv
      (try rw [HLW.out])
      go_wp2
      (try simp only [Exit.inBlock, Exit.then])
      show bodyPost _ _ _ _ _ (put4 wr (w.heap.size + 1) (.int .i64 0) (.slice Av j cv) (.slice none 0 0) (.slice none 0 0))
      generalize put4 wr (w.heap.size + 1) (.int .i64 0) (.slice Av j cv) (.slice none 0 0) (.slice none 0 0) = w6 at *
      clear r0 r1 r2 r3 q0 q1 q2 s0 s1 s2 s3 hfz
      have c0 := cell_of_row w6 (w.heap.size + 1) 0 _ _ _ P5.out
      have c1' := cell_of_row w6 (w.heap.size + 1) 1 _ _ _ P5.out
      have c2 := cell_of_row w6 (w.heap.size + 1) 2 _ _ _ P5.out
      have c3' := cell_of_row w6 (w.heap.size + 1) 3 _ _ _ P5.out
      refine bodyPost_ret (v := .agg #[.int .i64 0, (.slice Av j cv), (.slice none 0 0), .slice none 0 0]) (by simp [results, Try.results15, go_sem, *]) rfl ?_
      obtain ⟨A9, c9, e9, row9, _, _⟩ := O5.out.row (fun _ _ => rfl)
      injection e9 with x1 x2 x3
      subst x1
      exact ⟨Av, none, j, 0, cv, 0, rfl, ⟨row9, Row.nil _ _ _ _, FRow.nil _ _ _, HLW.out, rfl, rfl⟩, B5.out, Nat.le_refl _, by omega⟩
theorem answer_any (k ad : Int) (cn : Nat) (A : Option Addr) (n c : Nat) (row : List Int) (w : World) (hr : Row .u16 w w.heap.size A row) (hn : row.length = n) (h1 : 1 ≤ n) (hnb : n ≤ 4611686018427387904) (hcn : cn ≤ 2000) (had : 0 ≤ ad ∧ ad ≤ 65535) :
    Calls Try.prog 15 #[.agg #[.int .i64 k, .int .i64 ad, .int .i64 (cn : Int), .slice none 0 0, .slice none 0 0, .slice none 0 0], .slice A n c] w (Answered w (ansR row k ad cn)) := by
  by_cases hk : k = 1 ∨ k = 2
  · exact answerB_any k ad cn A n c row w hr hn h1 hnb hcn had hk
  · exact answerW_any k ad cn A n c row w hr hn h1 hnb hcn had hk
end Go.Proofs.Ytcmbdhmhkfhjfaa
namespace Go.Proofs.Ytcmbdhmhkfhjfaa
open Go.RowKit
set_option linter.unusedVariables false
set_option maxRecDepth 100000
attribute [local go_sem ↓] ldTag_fold stTag_fold bxTag_fold
attribute [local go_sem] bxTag_run

theorem PlRow.get3 {w : World} {v : Value} {ps : List Pol} (h : PlRow w v ps) {i : Nat} {p : Pol} (hp : ps[i]? = some p) : ∃ g c A cc, v = .slice (some ⟨g, 0, none⟩) ps.length c ∧ g < w.heap.size ∧ (w.cell? ⟨g, i * 6, none⟩ = some (.int .i64 p.un) ∧ w.cell? ⟨g, i * 6 + 1, none⟩ = some (.int .i64 p.ki) ∧ w.cell? ⟨g, i * 6 + 2, none⟩ = some (.int .i64 p.ad) ∧ w.cell? ⟨g, i * 6 + 3, none⟩ = some (.int .i64 p.ct) ∧ w.cell? ⟨g, i * 6 + 4, none⟩ = some (.int .i64 p.ev) ∧ w.cell? ⟨g, i * 6 + 5, none⟩ = some (.slice A p.tg.length cc)) ∧ Row .i64 w w.heap.size A p.tg := by
  obtain ⟨hi, rfl⟩ := List.getElem?_eq_some_iff.1 hp
  exact h.2 i hi
/-- What a poll's answer says of its tags. -/
theorem reads_poll {l : List Tg} {a : Pol} {row : List Int} (hg : PGood l a) (hc : (chkAll l).1 = 0) (hw : ∀ x ∈ row, (Lit.int .u16 x).wf = true) (h1 : 1 ≤ row.length) {cn : Nat} (hcn : a.ct = cn) :
    valsE l a (ansR row a.ki a.ad cn) = 0 ∧ (valsL l a (ansR row a.ki a.ad cn)).length = a.tg.length ∧ ∀ j (hj : j < a.tg.length), ∃ q : Nat, nth a.tg j = (q : Int) ∧ q < l.length ∧ nth (valsL l a (ansR row a.ki a.ad cn)) j = ownT (tgAt l q) row := by
  have hin : ∀ j, j < a.tg.length → ∃ q : Nat, nth a.tg j = (q : Int) ∧ q < l.length ∧ inP (tgAt l q) a.un a.ki a.ad a.ct = true := fun j hj => by
    obtain ⟨q, e, hq, t1, t2, t3, t4, t5⟩ := hg.all (nth a.tg j) (nth_mem _ _ hj)
    exact ⟨q, e, hq, inP_iff.2 ⟨t1, t3, t4, t5⟩⟩
  have hE : valsE l a (ansR row a.ki a.ad cn) = 0 := valsE_good hc (good_ask hg) (ans_chk (good_ask hg) hcn) (ansR_x _ _ _ _) (fun j hj => by
    obtain ⟨q, e, hq, hi⟩ := hin j hj
    unfold okP
    rw [e, decide_eq_true (show (0 : Int) ≤ q by omega), decide_eq_true (show (q : Int) < (l.length : Int) by omega), Int.toNat_natCast, hi]
    rfl)
  refine ⟨hE, by rw [valsL_good hE, valsM_len], fun j hj => ?_⟩
  obtain ⟨q, e, hq, hi⟩ := hin j hj
  refine ⟨q, e, hq, ?_⟩
  rw [valsL_good hE, valsM_nth _ _ _ _ hj, e, Int.toNat_natCast]
  exact ans_says hw h1 hcn hi hg.ad.1
set_option maxHeartbeats 8000000 in
theorem walk_PlanReads (A : Option Addr) (n c : Nat) (l : List Tg) (Ar : Option Addr) (nr cr : Nat) (row : List Int) (w : World) (hr : VRow w w.heap.size A (flatV tgC l)) (hn : l.length = n) (hnb : n ≤ 4611686018427387904) (hok : ∀ t ∈ l, Tg.Ok t)
    (hrow : Row .u16 w w.heap.size Ar row) (hnr : row.length = nr) (hrb : nr ≤ 4611686018427387904) :
    Calls Try.prog 6 #[.slice A n c, .slice Ar nr cr] w fun e w' => e = .returned (.bool true) ∧ Below w.heap.size w w' := by
  by_cases hbig : 4096 < n
  · have hb1 : (4096 : Int) < n := by omega
    go_enter Try.func6, Try.ntmps6
    go_wp2_with fail
    refine (works10_yes _).mono ?_
    rintro e w5 ⟨rfl, b5⟩
    go_wp2
    go_ret
    exact ⟨rfl, b5⟩
  have hb1 : ¬ (4096 : Int) < n := by omega
  by_cases hnr0 : nr = 0
  · subst hnr0
    go_enter Try.func6, Try.ntmps6
    go_wp2_with fail
    refine (works10_yes _).mono ?_
    rintro e w5 ⟨rfl, b5⟩
    go_wp2
    go_ret
    exact ⟨rfl, b5⟩
  have hb2 : ((nr : Int) == 0) = false := beq_false_of_ne (by omega)
  have hb3 : ¬ (nr : Int) = 0 := by omega
  have h1r : 1 ≤ nr := by omega
  have hn' := Lib.hid hn
  have HR := Lib.hid hr
  have HOK := Lib.hid hok
  have HRW := Lib.hid hrow
  have HNR := Lib.hid hnr
  obtain ⟨E, hE⟩ : ∃ E, (chkAll l).1 = E := ⟨_, rfl⟩
  by_cases h0 : E = 0
  case neg =>
    obtain ⟨f1, f2⟩ := fold_ne h0
    have HPL : Hid (Calls Try.prog 11 #[.slice A n c] w (GivesP w [] E)) := Lib.hid (by
      have h := Plan10_any A n c l w hr hn hnb hok
      rw [plan_bad (by rw [hE]; exact h0), hE] at h
      exact h)
    clear hr hn hE h0 hrow hnr hok
    go_enter Try.func6, Try.ntmps6
    go_wp2_with fail
    refine HPL.out.mono ?_
    rintro e w1 ⟨v1, rfl, own1, b1⟩
    obtain ⟨A1, c1, rfl, _⟩ := own1.len
    clear own1 HPL
    have hl0 : ((([] : List Pol).length : Int) == 0) = true := by simp
    go_wp2_with fail
    refine (works10_yes _).mono ?_
    rintro e w3 ⟨rfl, b3⟩
    have bel3 := b1.trans (b3.mono b1.size)
    clear b1 b3
    go_wp2
    go_ret
    exact ⟨rfl, bel3⟩
  subst h0
  obtain ⟨P, hP⟩ : ∃ P, planL l = P := ⟨_, rfl⟩
  obtain ⟨hP1, hP2⟩ := plan_tgs (l := l)
  have HPL : Hid (Calls Try.prog 11 #[.slice A n c] w (GivesP w P 0)) := Lib.hid (by
    have h := Plan10_any A n c l w hr hn hnb hok
    rw [hP, hE] at h
    exact h)
  have HPW := Lib.hid (plan_wf (l := l))
  have hinv := plan_inv hE
  rw [hP] at hP1 hP2 HPW hinv
  have HP2 := Lib.hid hP2
  have HINV := Lib.hid hinv
  have HTB := Lib.hid (tag_tab hE).1
  have HCK : Hid ((chkAll l).1 = 0) := Lib.hid hE
  have hn64 : n ≤ 64 := by have := HTB.out; omega
  have HTOT : Hid ((P.flatMap Pol.tg).length = n) := Lib.hid (by rw [hinv.flat, List.length_map, ordT_len]; exact hn)
  clear hr hn hP2 hP hE hinv hrow hnr hok
  go_enter Try.func6, Try.ntmps6
  go_wp2_with fail
  refine HPL.out.mono ?_
  rintro e w1 ⟨v1, rfl, own1, b1⟩
  have PR := Lib.hid (own1.prow HPW.out)
  obtain ⟨A1, c1, rfl, _⟩ := own1.len
  obtain ⟨np, hnp⟩ : ∃ np, P.length = np := ⟨_, rfl⟩
  have hnp' := Lib.hid hnp
  rw [hnp] at hP1 ⊢
  clear hnp own1 HPL
  have PR3 : Hid (PlRow w1 (.slice A1 np c1) P) := Lib.hid (by rw [← hnp'.out]; exact PR.out)
  clear PR
  have BEL1 := Lib.hid b1
  clear b1
  go_wp2
  go_loopw [7, 8] (fun s i wr => ∃ k z : Nat, k ≤ np ∧ i = .int .i64 k ∧ s = .int .i64 z ∧ Hid (((P.take k).flatMap Pol.tg).length = z) ∧ z ≤ 64 ∧ Hid (Below w1.heap.size w1 wr)) (fun _ i _ => np - (intOf i).toNat)
  case atStart => exact ⟨0, 0, by omega, rfl, rfl, Lib.hid (by rw [List.take_zero]; rfl), by omega, Lib.hid (Below.refl _ _)⟩
  case round =>
    obtain ⟨k, z, hk, rfl, rfl, hz, hz64, hbel⟩ := hrel
    by_cases hlt : k < np
    · have hkp : k < P.length := by have := hnp'.out; omega
      obtain ⟨a, hpa, ham⟩ : ∃ a, P[k]? = some a ∧ a ∈ P := ⟨_, List.getElem?_eq_getElem hkp, List.getElem_mem hkp⟩
      have hga := HINV.out.each a ham
      obtain ⟨g, cg, At, ca, e1, hg1, ha, hra⟩ := (PR3.out).get3 hpa
      injection e1 with i1 i2 i3
      subst i1 i3
      have HGA := Lib.hid hga
      have HRA := Lib.hid hra
      have hwx := HP2.out _ ham
      have haA := hga.ad
      have haC := hga.ct
      have hmK : mostK a.ki ≤ 2000 := by unfold mostK; split <;> omega
      have HAK := Lib.hid (good_ask hga)
      have HNXT : Hid (((P.take (k + 1)).flatMap Pol.tg).length = z + a.tg.length ∧ z + a.tg.length ≤ 64) := Lib.hid (by
        obtain ⟨hk', rfl⟩ := List.getElem?_eq_some_iff.1 hpa
        have hl : ((P.take (k + 1)).flatMap Pol.tg).length = z + (P[k]).tg.length := by
          rw [List.take_succ_eq_append_getElem hk', List.flatMap_append, List.length_append, hz.out]
          simp
        have hle : ((P.take (k + 1)).flatMap Pol.tg).length ≤ (P.flatMap Pol.tg).length := by
          have := congrArg List.length (congrArg (List.flatMap Pol.tg) (List.take_append_drop (k + 1) P))
          rw [List.flatMap_append, List.length_append] at this
          omega
        refine ⟨hl, ?_⟩
        rw [← hl]
        have := HTOT.out
        omega)
      obtain ⟨cn, hcn⟩ : ∃ cn : Nat, a.ct = cn := ⟨a.ct.toNat, by omega⟩
      have HRD := Lib.hid (reads_poll hga HCK.out HRW.out.1 (by have := HNR.out; omega) hcn)
      have HPQ : Hid (∀ W : World, Below w1.heap.size w1 W → (W.cell? ⟨g, k * 6, none⟩ = some (.int .i64 a.un) ∧ W.cell? ⟨g, k * 6 + 1, none⟩ = some (.int .i64 a.ki) ∧ W.cell? ⟨g, k * 6 + 2, none⟩ = some (.int .i64 a.ad) ∧ W.cell? ⟨g, k * 6 + 3, none⟩ = some (.int .i64 a.ct) ∧ W.cell? ⟨g, k * 6 + 4, none⟩ = some (.int .i64 a.ev) ∧ W.cell? ⟨g, k * 6 + 5, none⟩ = some (.slice At a.tg.length ca))) := Lib.hid fun W hb => ⟨cellB hb hg1 ha.1, cellB hb hg1 ha.2.1, cellB hb hg1 ha.2.2.1, cellB hb hg1 ha.2.2.2.1, cellB hb hg1 ha.2.2.2.2.1, cellB hb hg1 ha.2.2.2.2.2⟩
      obtain ⟨tl, htlE⟩ : ∃ tl, a.tg.length = tl := ⟨_, rfl⟩
      have HTL := Lib.hid htlE
      rw [htlE] at hwx HPQ HNXT
      clear htlE hpa ham hga hra ha i2
      have HAS : Hid (∀ W : World, Calls Try.prog 7 #[.agg #[.int .i64 a.un, .int .i64 a.ki, .int .i64 a.ad, .int .i64 a.ct, .int .i64 a.ev, .slice At tl ca]] W fun e w' => e = .returned (.tuple #[.agg #[.int .i64 a.ki, .int .i64 a.ad, .int .i64 a.ct, .slice none 0 0, .slice none 0 0, .slice none 0 0], .int .i64 0]) ∧ Below W.heap.size W w') := Lib.hid fun W => by
        have h := Ask10_any a.un a.ki a.ad a.ct a.ev At tl ca W
        have n1 : ∀ x, askN a.ki a.ad a.ct x = x := fun x => by unfold askN; rw [HAK.out]; rfl
        unfold AskedK at h
        rw [n1, n1, n1, HAK.out] at h
        exact h
      obtain ⟨V, hV⟩ : ∃ V, valsL l a (ansR row a.ki a.ad cn) = V := ⟨_, rfl⟩
      have HVW : Hid (∀ x ∈ V, (Lit.int .i64 x).wf = true) := Lib.hid (by rw [← hV]; exact valsL_wf _ _ _)
      have HANS : Hid (∀ W : World, Below w1.heap.size w1 W → Calls Try.prog 15 #[.agg #[.int .i64 a.ki, .int .i64 a.ad, .int .i64 a.ct, .slice none 0 0, .slice none 0 0, .slice none 0 0], .slice Ar nr cr] W (Answered W (ansR row a.ki a.ad cn))) := Lib.hid fun W hb => by
        have hbw := BEL1.out.trans (hb.mono BEL1.out.size)
        rw [hcn]
        exact answer_any a.ki a.ad cn Ar nr cr row W ((HRW.out.below hbw).more hbw.size) HNR.out h1r hrb (by omega) (by omega)
      have HVAL : Hid (∀ (Bo Bs : Option Addr) (mo ms eo es : Nat) (W : World), Below w1.heap.size w1 W → Repd W W.heap.size (ansR row a.ki a.ad cn) Bo Bs none mo ms 0 → ms ≤ es → es ≤ 9223372036854775807 → Calls Try.prog 14 #[.slice A n c, .agg #[.int .i64 a.un, .int .i64 a.ki, .int .i64 a.ad, .int .i64 a.ct, .int .i64 a.ev, .slice At tl ca], .agg #[.int .i64 0, .slice Bo mo eo, .slice Bs ms es, .slice none 0 0]] W (GivesI W V 0)) := Lib.hid fun Bo Bs mo ms eo es W hb hrep h1 h2 => by
        have hbw := BEL1.out.trans (hb.mono BEL1.out.size)
        have h := Values10_any A n c l a.un a.ki a.ad a.ct a.ev At tl ca a.tg Bo Bs none mo ms 0 eo es 0 (ansR row a.ki a.ad cn) W ((HR.out.below hbw).more hbw.size) hn'.out hnb HOK.out ((HRA.out.below hb).more hb.size) HTL.out (by omega) hrep h1 h2 (by rw [ansR_x]; rfl)
        rw [ansR_x] at h
        have hE := HRD.out.1
        have h3 : valsE l ⟨a.un, a.ki, a.ad, a.ct, a.ev, a.tg⟩ (ansR row a.ki a.ad cn) = 0 := hE
        have h4 : valsL l ⟨a.un, a.ki, a.ad, a.ct, a.ev, a.tg⟩ (ansR row a.ki a.ad cn) = V := hV
        rw [h3, h4] at h
        exact h
      have n1 : (k : Int) < (np : Int) := by omega
      have n5 : (0 : Int) ≤ (k : Int) := by omega
      have n6 : IntKind.i64.wrap ((k : Int) + 1) = (k : Int) + 1 := by rw [IntKind.wrap_i64]; omega
      have HVN : Hid (V.length = tl ∧ ∀ j, j < tl → ∃ q : Nat, nth a.tg j = (q : Int) ∧ q < l.length ∧ nth V j = ownT (tgAt l q) row) := Lib.hid (by
        obtain ⟨_, r2, r3⟩ := HRD.out
        rw [hV] at r2 r3
        rw [← HTL.out]
        exact ⟨r2, r3⟩)
      clear hV hcn
      obtain ⟨a0, a1, a2, a3, a4, a5⟩ := HPQ.out wr hbel.out
      go_wp2_with fail
      refine (HAS.out _).mono ?_
      rintro e w5 ⟨rfl, b5⟩
      have bel5 := hbel.out.trans (b5.mono hbel.out.size)
      clear a0 a1 a2 a3 a4 a5 b5
      have hxq := heap_alloc_new w5 (.cells #[.int .i64 a.ki, .int .i64 a.ad, .int .i64 a.ct, .slice none 0 0, .slice none 0 0, .slice none 0 0] 29)
      obtain ⟨q0, q1, q2, q3, q4, q5⟩ := of6 hxq
      have bel6 := Lib.hid (bel5.alloc bel5.size (.cells #[.int .i64 a.ki, .int .i64 a.ad, .int .i64 a.ct, .slice none 0 0, .slice none 0 0, .slice none 0 0] 29))
      have z1 : ¬ a.ct < 1 := by omega
      have z2 : ¬ a.ct > 2000 := by omega
      have z3 : ¬ a.ad < 0 := by omega
      have z4 : ¬ a.ad > 65535 := by omega
      have z5 : decide (a.ct < 1) = false := decide_eq_false z1
      have z6 : decide (2000 < a.ct) = false := decide_eq_false z2
      have z7 : decide (a.ad < 0) = false := decide_eq_false z3
      have z8 : decide (65535 < a.ad) = false := decide_eq_false z4
      have HXQ := Lib.hid hxq
      clear bel5 hxq
      go_wp2
      generalize hW6 : w5.alloc (.cells #[.int .i64 a.ki, .int .i64 a.ad, .int .i64 a.ct, .slice none 0 0, .slice none 0 0, .slice none 0 0] 29) = w6 at *
      clear hW6 z1 z2 z3 z4 z5 z6 z7 z8
      have HK : Hid (∀ W : World, Below w6.heap.size w6 W → (Below w6.heap.size w6 W ∧ (W.cell? ⟨w5.heap.size, 0, none⟩ = some (.int .i64 a.ki) ∧ W.cell? ⟨w5.heap.size, 1, none⟩ = some (.int .i64 a.ad) ∧ W.cell? ⟨w5.heap.size, 2, none⟩ = some (.int .i64 a.ct) ∧ W.cell? ⟨w5.heap.size, 3, none⟩ = some (.slice none 0 0) ∧ W.cell? ⟨w5.heap.size, 4, none⟩ = some (.slice none 0 0) ∧ W.cell? ⟨w5.heap.size, 5, none⟩ = some (.slice none 0 0)) ∧ (W.cell? ⟨g, k * 6, none⟩ = some (.int .i64 a.un) ∧ W.cell? ⟨g, k * 6 + 1, none⟩ = some (.int .i64 a.ki) ∧ W.cell? ⟨g, k * 6 + 2, none⟩ = some (.int .i64 a.ad) ∧ W.cell? ⟨g, k * 6 + 3, none⟩ = some (.int .i64 a.ct) ∧ W.cell? ⟨g, k * 6 + 4, none⟩ = some (.int .i64 a.ev) ∧ W.cell? ⟨g, k * 6 + 5, none⟩ = some (.slice At tl ca)))) := Lib.hid fun W hb => ⟨hb, of6 (keepB hb HXQ.out), HPQ.out W (bel6.out.trans (hb.mono bel6.out.size))⟩
      have belh : ∀ W : World, (Below w6.heap.size w6 W ∧ (W.cell? ⟨w5.heap.size, 0, none⟩ = some (.int .i64 a.ki) ∧ W.cell? ⟨w5.heap.size, 1, none⟩ = some (.int .i64 a.ad) ∧ W.cell? ⟨w5.heap.size, 2, none⟩ = some (.int .i64 a.ct) ∧ W.cell? ⟨w5.heap.size, 3, none⟩ = some (.slice none 0 0) ∧ W.cell? ⟨w5.heap.size, 4, none⟩ = some (.slice none 0 0) ∧ W.cell? ⟨w5.heap.size, 5, none⟩ = some (.slice none 0 0)) ∧ (W.cell? ⟨g, k * 6, none⟩ = some (.int .i64 a.un) ∧ W.cell? ⟨g, k * 6 + 1, none⟩ = some (.int .i64 a.ki) ∧ W.cell? ⟨g, k * 6 + 2, none⟩ = some (.int .i64 a.ad) ∧ W.cell? ⟨g, k * 6 + 3, none⟩ = some (.int .i64 a.ct) ∧ W.cell? ⟨g, k * 6 + 4, none⟩ = some (.int .i64 a.ev) ∧ W.cell? ⟨g, k * 6 + 5, none⟩ = some (.slice At tl ca))) → Below w6.heap.size w6 W := fun W h => h.1
      clear q0 q1 q2 q3 q4 q5
      go_region_held3 (fun W => Below w6.heap.size w6 W ∧ (W.cell? ⟨w5.heap.size, 0, none⟩ = some (.int .i64 a.ki) ∧ W.cell? ⟨w5.heap.size, 1, none⟩ = some (.int .i64 a.ad) ∧ W.cell? ⟨w5.heap.size, 2, none⟩ = some (.int .i64 a.ct) ∧ W.cell? ⟨w5.heap.size, 3, none⟩ = some (.slice none 0 0) ∧ W.cell? ⟨w5.heap.size, 4, none⟩ = some (.slice none 0 0) ∧ W.cell? ⟨w5.heap.size, 5, none⟩ = some (.slice none 0 0)) ∧ (W.cell? ⟨g, k * 6, none⟩ = some (.int .i64 a.un) ∧ W.cell? ⟨g, k * 6 + 1, none⟩ = some (.int .i64 a.ki) ∧ W.cell? ⟨g, k * 6 + 2, none⟩ = some (.int .i64 a.ad) ∧ W.cell? ⟨g, k * 6 + 3, none⟩ = some (.int .i64 a.ct) ∧ W.cell? ⟨g, k * 6 + 4, none⟩ = some (.int .i64 a.ev) ∧ W.cell? ⟨g, k * 6 + 5, none⟩ = some (.slice At tl ca)))
        ((refine HK.out _ ?_
          repeat' (first
            | with_reducible exact Below.refl _ _
            | with_reducible exact bel8
            | with_reducible exact bel7
            | with_reducible exact belh _ (by assumption)
            | with_reducible apply below_drew
            | with_reducible apply below_drewN
            | fail)))
        (first
          | (go_at_call 15; have bh := belh _ (by assumption); refine (HANS.out _ (bel6.out.trans (bh.mono bel6.out.size))).mono ?_; rintro e w7 ⟨Bo, Bs, mo, ms, eo, es, rfl, rep7, b7, hle7, hmx7⟩; have bel7 : Below w6.heap.size w6 w7 := Below.trans bh (b7.mono bh.size))
          | (go_at_call 14; have bh := belh _ (by assumption); refine (HVAL.out Bo Bs mo ms eo es _ (bel6.out.trans (bh.mono bel6.out.size)) (by first | exact rep7 | exact Repd.below rep7 (below_drew (Below.refl _ _)) | exact Repd.below rep7 (below_drewN (Below.refl _ _) _)) hle7 hmx7).mono ?_; rintro e w8 ⟨v8, rfl, own8, b8⟩; have bel8 : Below w6.heap.size w6 w8 := Below.trans bh (b8.mono bh.size))
          | fail)
      have BEL8 := Lib.hid (bel6.out.trans (bel8.mono bel6.out.size))
      obtain ⟨Av, cv, rfl, rowV, _, _⟩ := own8.row HVW.out
      have HRV := Lib.hid rowV
      rw [HVN.out.1]
      obtain ⟨a0, a1, a2, a3, a4, a5⟩ := HPQ.out w8 BEL8.out
      have y1 : ((tl : Int) != (tl : Int)) = false := by simp
      clear HK belh bel7 rep7 b7 own8 b8 rowV bel8 bel6 HXQ
      go_wp2
      go_loopw [7, 13] (fun s i wr => ∃ j : Nat, j ≤ tl ∧ i = .int .i64 j ∧ s = .int .i64 ((z + j : Nat) : Int) ∧ Hid (Below w8.heap.size w8 wr)) (fun _ i _ => tl - (intOf i).toNat)
      case atStart => exact ⟨0, by omega, rfl, rfl, Lib.hid (Below.refl _ _)⟩
      case round =>
        clear a0 a1 a2 a3 a4 a5
        obtain ⟨j, hj, rfl, rfl, hbel2⟩ := hrel
        have hbw1 := Lib.hid (BEL8.out.trans (hbel2.out.mono BEL8.out.size))
        obtain ⟨a0, a1, a2, a3, a4, a5⟩ := HPQ.out wr hbw1.out
        by_cases hjt : j < tl
        · obtain ⟨q, hq, hql, hqv⟩ := HVN.out.2 j hjt
          obtain ⟨bt, ot, rfl, hbt, hct⟩ := (HRA.out.below hbw1.out).at_ (i := j) (by rw [HTL.out]; exact hjt)
          rw [hq] at hct
          obtain ⟨bv, ov, rfl, hbv, hcv⟩ := (HRV.out.below hbel2.out).at_ (i := j) (by rw [HVN.out.1]; exact hjt)
          obtain ⟨u, hu⟩ : ∃ u, nth V j = u := ⟨_, rfl⟩
          rw [hu] at hcv hqv
          have m1 : (j : Int) < (tl : Int) := by omega
          have m2 : (0 : Int) ≤ (j : Int) := by omega
          have m3 : IntKind.i64.wrap ((j : Int) + 1) = (j : Int) + 1 := by rw [IntKind.wrap_i64]; omega
          have m4 : IntKind.i64.wrap (((z + j : Nat) : Int) + 1) = ((z + j : Nat) : Int) + 1 := by rw [IntKind.wrap_i64]; omega
          have m5 : IntKind.i64.wrap ((z : Int) + (j : Int) + 1) = (z : Int) + (j : Int) + 1 := by rw [IntKind.wrap_i64]; omega
          have hqn : q < n := by have := hn'.out; omega
          have o1 : (q : Int) < (n : Int) := by omega
          have o2 : (0 : Int) ≤ (q : Int) := by omega
          have o3 : decide ((q : Int) < 0) = false := decide_eq_false (by omega)
          have o4 : decide ((n : Int) ≤ (q : Int)) = false := decide_eq_false (by omega)
          have o5 : decide (n ≤ q) = false := decide_eq_false (by omega)
          have o6 : (u != u) = false := by simp
          have hbwl := Lib.hid (BEL1.out.trans (hbw1.out.mono BEL1.out.size))
          obtain ⟨bl, ol, hAl, hbl, hld0⟩ := (HR.out.below hbwl.out).five hql
          subst hAl
          have HLD : Hid (∀ W : World, Below w.heap.size w W → (ldTag (.pointer (some ⟨bl, ol + q * 19, none⟩))).run Try.prog W = .ok (tgV (tgAt l q)) W) := Lib.hid (fun W hb => by
            obtain ⟨b9, o9, e9, _, h9⟩ := (HR.out.below hb).five hql
            injection e9 with e9
            injection e9 with e9 e9'
            subst e9 e9'
            exact h9)
          have HTT := Lib.hid (tag_right HCK.out hql)
          have hta := (chkT_zero HTT.out).2.2.2.1
          have hwd := widT_le (tgAt l q)
          have HOWN : Hid (∀ W : World, Below w.heap.size w W → Calls Try.prog 16 #[tgV (tgAt l q), .slice Ar nr cr] W fun e w' => e = .returned (.int .i64 u) ∧ Below W.heap.size W w') := Lib.hid fun W hb => by
            rw [hqv]
            exact own10_any (tgAt l q) Ar nr cr row W ((HRW.out.below hb).more hb.size) HNR.out h1r hrb (by omega)
          generalize tgAt l q = t at *
          have hbvs : bv < wr.heap.size := by have := hbel2.out.size; omega
          have HK : Hid (∀ W : World, Below wr.heap.size wr W → (Below wr.heap.size wr W ∧ (ldTag (.pointer (some ⟨bl, ol + q * 19, none⟩))).run Try.prog W = .ok (tgV t) W ∧ W.cell? ⟨bv, ov + j, none⟩ = some (.int .i64 u))) := Lib.hid fun W hb => ⟨hb, HLD.out W (hbwl.out.trans (hb.mono hbwl.out.size)), cellB hb hbvs hcv⟩
          have belh : ∀ W : World, (Below wr.heap.size wr W ∧ (ldTag (.pointer (some ⟨bl, ol + q * 19, none⟩))).run Try.prog W = .ok (tgV t) W ∧ W.cell? ⟨bv, ov + j, none⟩ = some (.int .i64 u)) → Below wr.heap.size wr W := fun W h => h.1
          clear hld0 hq hu hqv
          go_wp2
          clear a0 a1 a2 a3 a4 a5 hct
          go_region_held3 (fun W => Below wr.heap.size wr W ∧ (ldTag (.pointer (some ⟨bl, ol + q * 19, none⟩))).run Try.prog W = .ok (tgV t) W ∧ W.cell? ⟨bv, ov + j, none⟩ = some (.int .i64 u))
            ((refine HK.out _ ?_
              repeat' (first
                | with_reducible exact Below.refl _ _
                | with_reducible exact bel5
                | with_reducible exact belh _ (by assumption)
                | with_reducible apply below_drew
                | with_reducible apply below_drewN
                | fail)))
            (first
              | (go_at_call 16; have bh := belh _ (by assumption); refine (HOWN.out _ (hbwl.out.trans (bh.mono hbwl.out.size))).mono ?_; rintro e w9 ⟨rfl, b9⟩; have bel5 : Below wr.heap.size wr w9 := Below.trans bh (b9.mono bh.size))
              | fail)
          have hbel9 := Lib.hid (hbel2.out.trans (bel5.mono hbel2.out.size))
          clear HK belh bel5 b9 hcv
          go_wp2
          go_roundw
          case rel => exact ⟨j + 1, by omega, by go_num, by go_num, hbel9⟩
          case measure => simp [intOf]; omega
        · obtain rfl : j = tl := by omega
          go_wp2
          go_roundw
          case rel => exact ⟨k + 1, z + j, by omega, by go_num, rfl, Lib.hid HNXT.out.1, HNXT.out.2, hbw1⟩
          case measure => simp [intOf]; omega
    · obtain rfl : k = np := by omega
      have hzn : Hid (z = n) := Lib.hid (by
        have h := hz.out
        rw [List.take_of_length_le (by have := hnp'.out; omega), HTOT.out] at h
        exact h.symm)
      have hzz : ((z : Int) == (n : Int)) = true := by rw [hzn.out]; simp
      have BELW := Lib.hid (BEL1.out.trans (hbel.out.mono BEL1.out.size))
      go_wp2_with fail
      refine (works10_yes _).mono ?_
      rintro e w9 ⟨rfl, b9⟩
      have bel9 := BELW.out.trans (b9.mono BELW.out.size)
      go_wp2
      go_ret
      exact ⟨rfl, bel9⟩
end Go.Proofs.Ytcmbdhmhkfhjfaa
namespace Go.Proofs.Ytcmbdhmhkfhjfaa.planReads
open Go.ChangeShapes Go.WideShapes Go.ChangeAt Go.RowKit
open Go.ChangeMaps (open_string shut_string)
set_option linter.unusedVariables false

theorem own : ownKnob Try.prog.godebug = none := by kernel_rfl
theorem laidOut : laidOutB Try.prog = true := by kernel_rfl

set_option maxRecDepth 100000 in
theorem lifted (os : Os) (started : os.Started) (H : Type) (enc : TypeId × Value → H) :
    ReturnsInHanded {} Try.checked os 6 .any (Rows.planReadsSpec.pre6 enc Try.prog Try.f6 Rows.planReadsRow.domain false) (Rows.planReadsSpec.post enc Try.prog Try.f6 false true false false) := by
  refine returnsInHanded_of_change_sized (C := Try.checked) own started (by kernel_rfl) Try.func6
    (ChangeSpec.witness6 (enc := enc) (C := Try.checked) false ⟨#[], #[.slice none 0 0, .slice none 0 0], []⟩ 8 (by kernel_rfl) (by kernel_rfl) (by kernel_rfl) (by kernel_rfl)) ?_
  intro W base args ds gs before hval0 hW hcnd hsz0 _
  have hsz : (DataW.weightsEach Try.prog (Try.f6.params.toList ++ Rows.planReadsSpec.plain.varTypes Try.prog) (ds ++ gs)).all (· ≤ reachBytes) = true := hsz0
  clear hsz0
  have hval : ∀ (j : Nat) t v, Try.f6.params[j]? = some t → args[j]? = some v → Value.okWide Try.prog W .any base t v := hval0
  have hW' := hW
  obtain ⟨p, q, hA0, hV, rfl, hfz, hnd⟩ := hW
  have hA : DataW.TrodAll enc Try.prog W 0 (fun _ => true) true Try.f6.params.toList args.toList ds p := hA0
  rw [Try.params6] at hA hval hsz
  obtain ⟨v0, vs0, d0, ds0, p0, q0, hargs, rfl, rfl, h0, r0⟩ := trodAll_cons hA
  obtain ⟨v1, vs1, d1, ds1, p1, q1, rfl, rfl, rfl, h1, r1⟩ := trodAll_cons r0
  obtain ⟨rfl, rfl, rfl⟩ := trodAll_nil r1
  obtain rfl : args = #[v0, v1] := by cases args; simp_all
  obtain ⟨rfl, rfl⟩ := trodVars_none hV
  obtain ⟨a0, l0, c0, rfl⟩ := okWide_slice Try.underlying36 (hval 0 36 v0 rfl rfl)
  have k0 := h0
  have lt0 : ∀ x ∈ p0, x.block < W.heap.size := by obtain ⟨m, hm⟩ := k0; exact DataW.trod_lt m _ _ _ hm
  obtain ⟨x0, w0, n0, o0, s0, r0d⟩ := tags_in h0 lt0
  have m0 := reach_tags hsz 0 rfl rfl r0d
  obtain ⟨a1, l1, c1, rfl⟩ := okWide_slice Try.underlying26 (hval 1 26 v1 rfl rfl)
  have k1 := h1
  have lt1 : ∀ x ∈ p1, x.block < W.heap.size := by obtain ⟨m, hm⟩ := k1; exact DataW.trod_lt m _ _ _ hm
  obtain ⟨x1, w1, n1, s1, r1d⟩ := row_in Try.underlying26 Try.underlying66 (by kernel_rfl) h1 lt1
  have m1 := reach_in hsz 1 rfl rfl Try.underlying26 (of_decide_eq_true (by kernel_rfl)) r1d
  clear hA0 hval0
  refine (walk_PlanReads a0 l0 c0 x0 a1 l1 c1 x1 W w0 n0 (by omega) o0 w1 n1 (by omega)).mono fun e W' ⟨he, bel⟩ => ?_
  subst he
  exact ⟨_, rfl, _, _, _, [], _, [], hW', trodAll_mk1 (shut_bool Try.underlying4 _), (trodAll_cons_mk (Below.trod laidOut (by kernel_rfl) (of_decide_eq_true (by kernel_rfl)) k0 bel lt0) (trodAll_cons_mk (Below.trod laidOut (by kernel_rfl) (of_decide_eq_true (by kernel_rfl)) k1 bel lt1) trodAll_mk0)), rfl, bel.frame _, fun h => by cases h⟩

theorem over : Rows.planReadsRow.holds Try.pinned (OpenSpec.ofChange Rows.planReadsSpec) :=
  OpenClaim.holds_of_wide 6 Try.f6 rfl rfl rfl rfl rfl rfl rfl ⟨rfl, rfl, rfl, rfl, rfl⟩ rfl rfl rfl rfl rfl (by kernel_rfl) Try.func6 (by kernel_rfl)
    (of_decide_eq_true (by kernel_rfl)) (by unfold Func.isWrapper; first | (rw [if_pos (by decide +kernel)]; kernel_rfl) | (rw [if_neg (by decide +kernel)]; exact ⟨rfl, rfl⟩))
    (fun os started H enc _ => lifted os started H enc)

theorem proved : Rows.PlanReadsSaid := over
#print axioms proved
end Go.Proofs.Ytcmbdhmhkfhjfaa.planReads
