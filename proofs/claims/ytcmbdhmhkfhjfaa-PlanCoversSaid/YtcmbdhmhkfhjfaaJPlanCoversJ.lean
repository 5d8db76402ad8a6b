/-
  The statement PlanCovers of outstationlaw10 holds: for every input that can be read, the call returns true, and each argument reads as it did. No condition of its own.
-/
import Derived.Test.YtcmbdhmhkfhjfaaJPlanCoversI
import Derived.Test.YtcmbdhmhkfhjfaaJPlanCoversF
import Derived.BigQuiet
import Derived.Test.YtcmbdhmhkfhjfaaRows
import Derived.Test.YtcmbdhmhkfhjfaaJPlanCoversA
namespace Go.Proofs.Ytcmbdhmhkfhjfaa.I
open Go.RowKit
set_option linter.unusedVariables false
/-- Rows that lie inside blocks of their own, each known whole (or nil), their slices in the array of block gl. -/
structure PartsK (w : World) (B gl m : Nat) (A : Nat → Option Addr) (n c : Nat → Nat) (p l r : Nat → List Int) : Prop where
  at_ : ∀ k, k < m → w.cell? ⟨gl, k, none⟩ = some (.slice (A k) (n k) (c k))
  size : ∀ k, k < m → n k ≤ c k ∧ (c k ≤ 9223372036854775807 ∧ n k ≤ 17592186044416) ∧ (l k).length = c k
  wf : ∀ k, k < m → ∀ x ∈ l k, (Lit.int .i64 x).wf = true
  lies : ∀ k, k < m → (A k = none ∧ n k = 0 ∧ c k = 0) ∨ ∃ g, A k = some ⟨g, (p k).length, none⟩ ∧ B ≤ g ∧ g ≠ gl ∧ w.heap[g]? = some (.cells (blk .i64 (p k ++ l k ++ r k)) 3 (0, 0))
  apart : ∀ i k, i < m → k < m → i ≠ k → ∀ g o q, A i = some ⟨g, o, none⟩ → A k ≠ some ⟨g, q, none⟩
  gl_lt : gl < w.heap.size

theorem PartsK.row {w : World} {B gl m : Nat} {A : Nat → Option Addr} {n c : Nat → Nat} {p l r : Nat → List Int} (h : PartsK w B gl m A n c p l r) {k : Nat} (hk : k < m) :
    Row .i64 w w.heap.size (A k) ((l k).take (n k)) ∧ ((l k).take (n k)).length = n k := by
  have hs := h.size k hk
  refine ⟨?_, by simp; omega⟩
  rcases h.lies k hk with ⟨ha, hn, hc⟩ | ⟨g, ha, _, _, hg⟩
  · rw [hn, List.take_zero]; exact Row.nil _ _ _ _
  · rw [ha]
    exact (Row.inside hg _ (fun x hx => h.wf k hk x (List.mem_of_mem_take hx)) (List.take_prefix _ _)).more (block_lt hg)
/-- A step that leaves all old blocks leaves the parts. -/
theorem PartsK.below {w w' : World} {B gl m : Nat} {A : Nat → Option Addr} {n c : Nat → Nat} {p l r : Nat → List Int} (h : PartsK w B gl m A n c p l r) (hb : Below w.heap.size w w') : PartsK w' B gl m A n c p l r where
  at_ := fun k hk => (hb.cell (p := ⟨gl, k, none⟩) h.gl_lt).trans (h.at_ k hk)
  size := h.size
  wf := h.wf
  lies := fun k hk => by
    rcases h.lies k hk with h0 | ⟨g, ha, hB, hne, hg⟩
    · exact .inl h0
    · exact .inr ⟨g, ha, hB, hne, (hb.block g (block_lt hg)).trans hg⟩
  apart := h.apart
  gl_lt := Nat.lt_of_lt_of_le h.gl_lt hb.size
/-- One part is written over. -/
theorem PartsK.spoil {w w' : World} {B gl m : Nat} {A : Nat → Option Addr} {n c : Nat → Nat} {p l r : Nat → List Int} (h : PartsK w B gl m A n c p l r) {i g : Nat} (hi : i < m) (ha : A i = some ⟨g, (p i).length, none⟩)
    (hg : w'.heap[g]? = some (.cells (blk .i64 (p i ++ spoilI (c i) (l i) ++ r i)) 3 (0, 0))) (hgr : w.grownBy w' (some g)) : PartsK w' B gl m A n c p (fun k => if k = i then spoilI (c i) (l i) else l k) r where
  at_ := fun k hk => by
    rcases h.lies i hi with ⟨h0, _⟩ | ⟨g', ha', _, hne, _⟩
    · rw [ha] at h0; cases h0
    · rw [ha] at ha'
      injection ha' with ha'
      injection ha' with ha'
      subst ha'
      exact (World.cell?_of_block (hgr.block gl h.gl_lt (fun e => hne (by injection e with e; exact e.symm)))).trans (h.at_ k hk)
  size := fun k hk => by
    have := h.size k hk
    refine ⟨this.1, this.2.1, ?_⟩
    split
    · rename_i e; subst e; rw [spoilI_length]; exact this.2.2
    · exact this.2.2
  wf := fun k hk => by
    show ∀ x ∈ (if k = i then spoilI (c i) (l i) else l k), _
    split
    · exact spoilI_wf _ _ (h.wf i hi)
    · exact h.wf k hk
  lies := fun k hk => by
    by_cases e : k = i
    · subst e
      rcases h.lies k hi with ⟨h0, _⟩ | ⟨g', ha', hB, hne, _⟩
      · rw [ha] at h0; cases h0
      · rw [ha] at ha'
        injection ha' with ha'
        injection ha' with ha'
        subst ha'
        exact .inr ⟨g, ha, hB, hne, by rw [if_pos rfl]; exact hg⟩
    · rcases h.lies k hk with h0 | ⟨g', ha', hB, hne, hg'⟩
      · exact .inl h0
      · refine .inr ⟨g', ha', hB, hne, ?_⟩
        rw [if_neg e, hgr.block g' (block_lt hg') (fun e' => ?_)]
        · exact hg'
        · injection e' with e'
          subst e'
          exact h.apart k i hk hi e _ _ _ ha' ha
  apart := h.apart
  gl_lt := Nat.lt_of_lt_of_le h.gl_lt hgr.size

/-- A slice that is handed to ApartInts: nil, or the beginning of a block that is known whole. -/
structure EntK where
  a : Option Nat
  p : List Int
  n : Nat
  c : Nat
  l : List Int
  r : List Int
def EntK.none_ : EntK := ⟨none, [], 0, 0, [], []⟩
def EntK.adr (e : EntK) : Option Addr := e.a.map fun g => ⟨g, e.p.length, none⟩
def EntK.val (e : EntK) : Value := .slice e.adr e.n e.c
structure EntK.Ok (w : World) (B : Nat) (e : EntK) : Prop where
  size : e.n ≤ e.c ∧ (e.c ≤ 9223372036854775807 ∧ e.n ≤ 17592186044416) ∧ e.l.length = e.c
  wf : ∀ x ∈ e.l, (Lit.int .i64 x).wf = true
  lies : (e.a = none ∧ e.n = 0 ∧ e.c = 0) ∨ ∃ g, e.a = some g ∧ B ≤ g ∧ w.heap[g]? = some (.cells (blk .i64 (e.p ++ e.l ++ e.r)) 3 (0, 0))
def EntK.Far (e e' : EntK) : Prop := ∀ g, e.a = some g → e'.a ≠ some g
theorem EntK.adr_some {e : EntK} {g o : Nat} (h : e.adr = some ⟨g, o, none⟩) : e.a = some g := by
  unfold EntK.adr at h
  cases ha : e.a with
  | none => rw [ha] at h; cases h
  | some q => rw [ha] at h; simp at h; rw [h.1]

theorem partsK_of_list (w : World) (B : Nat) (L : List EntK) (t : TypeId) (hok : ∀ e ∈ L, e.Ok w B) (hfar : L.Pairwise EntK.Far) :
    PartsK (w.alloc (.cells (L.map EntK.val).toArray t)) B w.heap.size L.length (fun k => (L.getD k EntK.none_).adr) (fun k => (L.getD k EntK.none_).n) (fun k => (L.getD k EntK.none_).c) (fun k => (L.getD k EntK.none_).p) (fun k => (L.getD k EntK.none_).l) (fun k => (L.getD k EntK.none_).r) where
  at_ := fun k hk => by
    rw [World.cell?_alloc_at _ _ _ _ rfl]
    simp [List.getElem?_eq_getElem hk, List.getD_eq_getElem?_getD, EntK.val]
  size := fun k hk => by
    simp only [List.getD_eq_getElem?_getD, List.getElem?_eq_getElem hk, Option.getD_some]
    exact (hok _ (List.getElem_mem hk)).size
  wf := fun k hk => by
    simp only [List.getD_eq_getElem?_getD, List.getElem?_eq_getElem hk, Option.getD_some]
    exact (hok _ (List.getElem_mem hk)).wf
  lies := fun k hk => by
    simp only [List.getD_eq_getElem?_getD, List.getElem?_eq_getElem hk, Option.getD_some]
    rcases (hok _ (List.getElem_mem hk)).lies with ⟨h1, h2⟩ | ⟨g, h1, h2, h3⟩
    · exact .inl ⟨by rw [EntK.adr, h1]; rfl, h2⟩
    · have := block_lt h3
      exact .inr ⟨g, by rw [EntK.adr, h1]; rfl, h2, by omega, (Below.heap_alloc w _ g this).trans h3⟩
  apart := fun i k hi hk hne g o q h1 h2 => by
    simp only [List.getD_eq_getElem?_getD, List.getElem?_eq_getElem hi, List.getElem?_eq_getElem hk, Option.getD_some] at h1 h2
    have h1 := EntK.adr_some h1
    have h2 := EntK.adr_some h2
    rcases Nat.lt_or_gt_of_ne hne with h | h
    · exact List.pairwise_iff_getElem.1 hfar i k hi hk h g h1 h2
    · exact List.pairwise_iff_getElem.1 hfar k i hk hi h g h2 h1
  gl_lt := by simp

end Go.Proofs.Ytcmbdhmhkfhjfaa.I
namespace Go.Proofs.Ytcmbdhmhkfhjfaa
open Go.RowKit
set_option linter.unusedVariables false
/-- A list of the call's own, as an entry. -/
theorem KOwn.entKI {w : World} {base B : Nat} {v : Value} {xs : List Int} (h : KOwn .i64 3 w base v xs) (hw : ∀ x ∈ xs, (Lit.int .i64 x).wf = true) (hm : xs.length ≤ 17592186044416) (hB : B ≤ base) :
    ∃ E : I.EntK, E.val = v ∧ E.Ok w B ∧ ∀ g, E.a = some g → base ≤ g ∧ v.ownBlock = some g := by
  rcases h with ⟨rfl, rfl⟩ | ⟨g, n, cap, r, rfl, h2, h3, h4, h5, h6, h7, h8⟩
  · exact ⟨⟨none, [], 0, 0, [], []⟩, rfl, ⟨⟨Nat.le_refl _, ⟨by show 0 ≤ _; omega, by show 0 ≤ _; omega⟩, rfl⟩, by simp, .inl ⟨rfl, rfl, rfl⟩⟩, fun g h => by cases h⟩
  · simp only [maxLen] at h6
    refine ⟨⟨some g, [], n, cap, xs ++ r, []⟩, rfl, ⟨⟨h5, ⟨h6, by show n ≤ _; omega⟩, by show (xs ++ r).length = cap; rw [List.length_append]; exact h7⟩, wf_append hw h8, .inr ⟨g, rfl, by omega, by rw [List.append_nil, List.nil_append]; exact h4⟩⟩, fun g' e => ?_⟩
    have e : some g = some g' := e
    injection e with e
    subst e
    exact ⟨h2, rfl⟩
/-- Only some blocks were written; others may be new. -/
structure Only (w w' : World) (S : Nat → Prop) : Prop where
  os : w'.os = w.os
  tape : w'.tape = w.tape
  output : w'.output = w.output
  size : w.heap.size ≤ w'.heap.size
  block : ∀ b, b < w.heap.size → ¬ S b → w'.heap[b]? = w.heap[b]?
theorem Only.refl (w : World) (S : Nat → Prop) : Only w w S := ⟨rfl, rfl, rfl, Nat.le_refl _, fun _ _ _ => rfl⟩
theorem Only.below {w w' w2 : World} {S : Nat → Prop} (h : Only w w' S) (hb : Below w'.heap.size w' w2) : Only w w2 S :=
  ⟨hb.os.trans h.os, hb.tape.trans h.tape, hb.output.trans h.output, Nat.le_trans h.size hb.size, fun b hlt hS => (hb.block b (Nat.lt_of_lt_of_le hlt h.size)).trans (h.block b hlt hS)⟩
theorem Only.grown {w w' w2 : World} {S T : Nat → Prop} {v : Option Nat} (h : Only w w' S) (hg : w'.grownBy w2 v) (hST : ∀ b, S b → T b) (hv : ∀ g, v = some g → T g) : Only w w2 T :=
  ⟨hg.os.trans h.os, hg.tape.trans h.tape, hg.output.trans h.output, Nat.le_trans h.size hg.size, fun b hlt hT => (hg.block b (Nat.lt_of_lt_of_le hlt h.size) (fun e => hT (hv b e.symm))).trans (h.block b hlt (fun hs => hT (hST b hs)))⟩
theorem Only.bel {w w' : World} {S : Nat → Prop} {B : Nat} (h : Only w w' S) (hB : B ≤ w.heap.size) (hS : ∀ b, S b → B ≤ b) : Below B w w' :=
  ⟨h.os, h.tape, h.output, h.size, fun b hb => h.block b (by omega) (fun hs => by have := hS b hs; omega)⟩
theorem Only.kown {k : IntKind} {e : TypeId} {w w' : World} {S : Nat → Prop} {base : Nat} {v : Value} {xs : List Int} (h : Only w w' S) (hk : KOwn k e w base v xs) (hS : ∀ g, v.ownBlock = some g → ¬ S g) : KOwn k e w' base v xs := by
  rcases hk with h0 | ⟨g, n, cap, r, rfl, h2, h3, h4, h5⟩
  · exact .inl h0
  · exact .inr ⟨g, n, cap, r, rfl, h2, h3, (h.block g (block_lt h4) (hS g rfl)).trans h4, h5⟩
end Go.Proofs.Ytcmbdhmhkfhjfaa
namespace Go.Proofs.Ytcmbdhmhkfhjfaa
open Go.RowKit
set_option linter.unusedVariables false
set_option maxRecDepth 100000

theorem PlOwn.only {w w' : World} {S : Nat → Prop} {base : Nat} {v : Value} {ps : List Pol} (hp : PlOwn w base v ps) (h : Only w w' S) (hS : ∀ b, S b → b < base) : PlOwn w' base v ps := by
  obtain ⟨L, h1, h2, h3, h4⟩ := hp
  refine ⟨L, h1, ⟨h2.1, ?_⟩, fun p hp => h.kown (h3 p hp) (fun g e hs => by have := (h3 p hp).block g e; have := hS g hs; omega), h4⟩
  rcases h2.2 with h0 | ⟨g, cap, cur, hv, hb, hg, r⟩
  · exact .inl h0
  · exact .inr ⟨g, cap, cur, hv, hb, (h.block g (block_lt hg) (fun hs => by have := hS g hs; omega)).trans hg, r⟩
/-- The blocks of the first Tags of a list of polls. -/
def BlkOf (L : List (Pol × Value)) (k b : Nat) : Prop := ∃ j, ∃ h : j < L.length, j < k ∧ L[j].2.ownBlock = some b
/-- A list of polls of which the first Tags were written over. -/
structure Worn (w5 wr : World) (base : Nat) (v : Value) (L : List (Pol × Value)) (k : Nat) : Prop where
  row : w5.ownsRow base 24 6 v L.length (flatV pcell L)
  each : ∀ p ∈ L, KOwn .i64 3 w5 base p.2 p.1.tg
  far : L.Pairwise (fun a b => FarV a.2 b.2)
  only : Only w5 wr (BlkOf L k)
theorem Worn.at_ {w5 wr : World} {base : Nat} {v : Value} {L : List (Pol × Value)} {k i : Nat} (h : Worn w5 wr base v L k) (hk : k ≤ i) (hi : i < L.length) :
    ∃ g c A m cc, v = .slice (some ⟨g, 0, none⟩) L.length c ∧ g < wr.heap.size ∧ (wr.cell? ⟨g, i * 6, none⟩ = some (.int .i64 L[i].1.un) ∧ wr.cell? ⟨g, i * 6 + 1, none⟩ = some (.int .i64 L[i].1.ki) ∧ wr.cell? ⟨g, i * 6 + 2, none⟩ = some (.int .i64 L[i].1.ad) ∧ wr.cell? ⟨g, i * 6 + 3, none⟩ = some (.int .i64 L[i].1.ct) ∧ wr.cell? ⟨g, i * 6 + 4, none⟩ = some (.int .i64 L[i].1.ev) ∧ wr.cell? ⟨g, i * 6 + 5, none⟩ = some (.slice A m cc)) ∧ L[i].2 = .slice A m cc ∧ KOwn .i64 3 wr base (.slice A m cc) L[i].1.tg := by
  have hkw := h.each _ (List.getElem_mem hi)
  have hkr : KOwn .i64 3 wr base L[i].2 L[i].1.tg := h.only.kown hkw (fun g e hs => by
    obtain ⟨j, hj, hjk, e2⟩ := hs
    have hf := List.pairwise_iff_getElem.1 h.far j i hj hi (by omega)
    rcases hf with hf | hf
    · rw [hf] at e2; cases e2
    · rw [e, e2] at hf; exact hf rfl)
  rcases h.row.2 with ⟨e0, h0⟩ | ⟨g, cap, cur, hv, hb, hg, h5, h6, h7, h8⟩
  · omega
  · have hlg := block_lt hg
    have hgS : ¬ BlkOf L k g := by
      rintro ⟨j, hj, hjk, e2⟩
      have hf := pol_far h.row (h.each _ (List.getElem_mem hj))
      rw [hv] at hf
      rcases hf with hf | hf
      · rw [hf] at e2; cases e2
      · rw [e2] at hf; exact hf rfl
    have hgr := (h.only.block g hlg hgS).trans hg
    obtain ⟨A, m, cc, hs⟩ := hkw.sl
    have hcell : ∀ j, j < 6 → wr.cell? ⟨g, i * 6 + j, none⟩ = (pcell L[i])[j]? := by
      intro j hj
      rw [cell_of_row wr g _ cur _ _ hgr, ← flatV_get pcell_len L i hi j hj, ← h8, List.getElem?_take_of_lt (by omega), Array.getElem?_toList]
    have c0 := hcell 0 (by omega)
    have c1 := hcell 1 (by omega)
    have c2 := hcell 2 (by omega)
    have c3 := hcell 3 (by omega)
    have c4 := hcell 4 (by omega)
    have c5 := hcell 5 (by omega)
    refine ⟨g, cap, A, m, cc, hv, by have := h.only.size; omega, ⟨?_, ?_, ?_, ?_, ?_, ?_⟩, hs, by rw [← hs]; exact hkr⟩
    · rw [Nat.add_zero] at c0; rw [c0]; simp [pcell]
    · rw [c1]; simp [pcell]
    · rw [c2]; simp [pcell]
    · rw [c3]; simp [pcell]
    · rw [c4]; simp [pcell]
    · rw [c5]; simp [pcell, hs]
theorem Worn.below {w5 wr w2 : World} {base : Nat} {v : Value} {L : List (Pol × Value)} {k : Nat} (h : Worn w5 wr base v L k) (hb : Below wr.heap.size wr w2) : Worn w5 w2 base v L k := ⟨h.row, h.each, h.far, h.only.below hb⟩
theorem Worn.next {w5 wr w2 : World} {base : Nat} {v : Value} {L : List (Pol × Value)} {k : Nat} (h : Worn w5 wr base v L k) (hk : k < L.length) {A : Option Addr} {m cc : Nat} (hs : L[k].2 = .slice A m cc) (hg : wr.grownBy w2 (Value.slice A m cc).ownBlock) : Worn w5 w2 base v L (k + 1) :=
  ⟨h.row, h.each, h.far, h.only.grown hg (fun b ⟨j, hj, hjk, e⟩ => ⟨j, hj, by omega, e⟩) (fun g e => ⟨k, hk, by omega, by rw [hs]; exact e⟩)⟩
theorem Worn.lowS {w5 wr : World} {base : Nat} {v : Value} {L : List (Pol × Value)} {k : Nat} (h : Worn w5 wr base v L k) : ∀ b, BlkOf L k b → base ≤ b ∧ b < w5.heap.size := by
  rintro b ⟨j, hj, _, e⟩
  exact (h.each _ (List.getElem_mem hj)).block b e
theorem plan_wf {l : List Tg} : ∀ p ∈ planL l, ∀ x ∈ p.tg, (Lit.int .i64 x).wf = true := by
  intro p hp x hx
  by_cases h : (chkAll l).1 = 0
  · have hi := plan_inv h
    obtain ⟨k, rfl, hk, _⟩ := (hi.each p hp).all x hx
    have := (tag_tab h).1
    exact wf_small (by omega) (by omega)
  · rw [plan_bad h] at hp; cases hp
theorem plan_tgs {l : List Tg} : (planL l).length ≤ 64 ∧ ∀ p ∈ planL l, p.tg.length ≤ 64 := by
  by_cases h : (chkAll l).1 = 0
  · have hi := plan_inv h
    have hl := (tag_tab h).1
    have hf := congrArg List.length hi.flat
    rw [List.length_map, ordT_len, List.length_flatMap] at hf
    have key : ∀ ps : List Pol, (∀ p ∈ ps, 1 ≤ p.tg.length) → ps.length ≤ (ps.map fun p => p.tg.length).sum ∧ ∀ p ∈ ps, p.tg.length ≤ (ps.map fun p => p.tg.length).sum := by
      intro ps
      induction ps with
      | nil => intro _; exact ⟨Nat.le_refl _, fun p hp => (by cases hp)⟩
      | cons q ps ih =>
        intro h1
        obtain ⟨i1, i2⟩ := ih (fun p hp => h1 p (List.mem_cons_of_mem _ hp))
        have := h1 q List.mem_cons_self
        simp only [List.map_cons, List.sum_cons, List.length_cons]
        refine ⟨by omega, fun p hp => ?_⟩
        rcases List.mem_cons.1 hp with rfl | hp
        · omega
        · have := i2 p hp; omega
    have hne : ∀ p ∈ planL l, 1 ≤ p.tg.length := fun p hp => by
      obtain ⟨k, e, _⟩ := (hi.each p hp).hd
      cases ht : p.tg with
      | nil => rw [ht] at e; cases e
      | cons a t => simp
    obtain ⟨k1, k2⟩ := key _ hne
    exact ⟨by omega, fun p hp => by have := k2 p hp; omega⟩
  · rw [plan_bad h]; exact ⟨Nat.zero_le _, fun p hp => (by cases hp)⟩

end Go.Proofs.Ytcmbdhmhkfhjfaa
namespace Go.Proofs.Ytcmbdhmhkfhjfaa
open Go.RowKit
set_option linter.unusedVariables false

def seenC (n : Nat) (d : List Int) : List Int := (List.range n).map fun j : Nat => ((d.count (j : Int) : Nat) : Int)
theorem seenC_len (n : Nat) (d : List Int) : (seenC n d).length = n := by simp [seenC]
theorem seenC_nil (n : Nat) : seenC n [] = List.replicate n 0 := by
  apply List.ext_getElem (by simp [seenC])
  intro i h1 h2
  simp [seenC]
theorem seenC_nth {n : Nat} (d : List Int) {j : Nat} (h : j < n) : nth (seenC n d) j = ((d.count (j : Int) : Nat) : Int) := by
  rw [nth_eq _ _ (by rw [seenC_len]; exact h)]
  simp [seenC]
theorem seenC_set {n : Nat} (d : List Int) {q : Nat} (h : q < n) : (seenC n d).set q (((d.count (q : Int) : Nat) : Int) + 1) = seenC n (d ++ [(q : Int)]) := by
  apply List.ext_getElem (by simp [seenC])
  intro i h1 h2
  rw [List.getElem_set]
  simp only [seenC, List.getElem_map, List.getElem_range, List.count_append, List.count_singleton]
  by_cases e : q = i
  · subst e; simp
  · rw [if_neg e]
    have : ¬ (q : Int) = (i : Int) := by omega
    simp [this]
theorem seenC_wf {n : Nat} (d : List Int) (hd : d.length ≤ 1000000) : ∀ x ∈ seenC n d, (Lit.int .i64 x).wf = true := by
  intro x hx
  obtain ⟨j, _, rfl⟩ := List.mem_map.1 hx
  have := List.count_le_length (a := (j : Int)) (l := d)
  simp [Lit.wf, IntKind.min, IntKind.max, IntKind.signed, IntKind.bits]; omega
theorem seenC_one {l : List Tg} {n : Nat} (hn : l.length = n) {j : Nat} (h : j < n) : nth (seenC n (intL (ordT l))) j = 1 := by
  rw [seenC_nth _ h]
  have hnd : (ordT l).Nodup := (ordT_perm l).nodup_iff.2 List.nodup_range
  have hm : j ∈ ordT l := (ordT_perm l).mem_iff.2 (List.mem_range.2 (by omega))
  have hc : (intL (ordT l)).count (j : Int) = (ordT l).count j := by
    unfold intL
    generalize ordT l = o
    induction o with
    | nil => rfl
    | cons x xs ih =>
      rw [List.map_cons, List.count_cons, List.count_cons, ih]
      by_cases e : x = j
      · subst e; simp
      · have : ¬ (x : Int) = (j : Int) := by omega
        simp [e, this]
  have h1 : (ordT l).count j = 1 := by
    have ha := List.nodup_iff_count.1 hnd j
    have hb := List.count_pos_iff.2 hm
    omega
  rw [hc, h1]; rfl
end Go.Proofs.Ytcmbdhmhkfhjfaa
namespace Go.Proofs.Ytcmbdhmhkfhjfaa
open Go.RowKit
set_option linter.unusedVariables false
set_option maxRecDepth 100000
attribute [local go_sem ↓] ldTag_fold stTag_fold bxTag_fold
attribute [local go_sem] bxTag_run

theorem PlRow.get2 {w : World} {v : Value} {ps : List Pol} (h : PlRow w v ps) {i : Nat} {p : Pol} (hp : ps[i]? = some p) : ∃ g c A cc, v = .slice (some ⟨g, 0, none⟩) ps.length c ∧ g < w.heap.size ∧ (w.cell? ⟨g, i * 6, none⟩ = some (.int .i64 p.un) ∧ w.cell? ⟨g, i * 6 + 1, none⟩ = some (.int .i64 p.ki) ∧ w.cell? ⟨g, i * 6 + 2, none⟩ = some (.int .i64 p.ad) ∧ w.cell? ⟨g, i * 6 + 3, none⟩ = some (.int .i64 p.ct) ∧ w.cell? ⟨g, i * 6 + 4, none⟩ = some (.int .i64 p.ev) ∧ w.cell? ⟨g, i * 6 + 5, none⟩ = some (.slice A p.tg.length cc)) ∧ Row .i64 w w.heap.size A p.tg := by
  obtain ⟨hi, rfl⟩ := List.getElem?_eq_some_iff.1 hp
  exact h.2 i hi
/-- What is seen in a table's polls, up to a poll, and of this one up to a tag. -/
def upto (P : List Pol) (k j : Nat) : List Int := (P.take k).flatMap Pol.tg ++ ((P[k]?.map Pol.tg).getD []).take j
theorem upto_zero (P : List Pol) (k : Nat) : upto P k 0 = (P.take k).flatMap Pol.tg := by simp [upto]
theorem upto_step {P : List Pol} {k j : Nat} {p : Pol} (hp : P[k]? = some p) (hj : j < p.tg.length) : upto P k (j + 1) = upto P k j ++ [nth p.tg j] := by
  unfold upto
  rw [hp]
  show _ ++ p.tg.take (j + 1) = (_ ++ p.tg.take j) ++ _
  rw [take_step _ _ hj, List.append_assoc]
theorem upto_end {P : List Pol} {k : Nat} {p : Pol} (hp : P[k]? = some p) {j : Nat} (hj : j = p.tg.length) : upto P k j = (P.take (k + 1)).flatMap Pol.tg := by
  subst hj
  obtain ⟨hk, rfl⟩ := List.getElem?_eq_some_iff.1 hp
  unfold upto
  rw [hp, List.take_succ_eq_append_getElem hk, List.flatMap_append]
  show _ ++ (P[k]).tg.take (P[k]).tg.length = _
  rw [List.take_length]
  simp
set_option maxHeartbeats 8000000 in
theorem walk_PlanCovers (A : Option Addr) (n c : Nat) (l : List Tg) (w : World) (hr : VRow w w.heap.size A (flatV tgC l)) (hn : l.length = n) (hnb : n ≤ 4611686018427387904) (hok : ∀ t ∈ l, Tg.Ok t) :
    Calls Try.prog 4 #[.slice A n c] w fun e w' => e = .returned (.bool true) ∧ Below w.heap.size w w' := by
  by_cases hbig : 4096 < n
  · have hb1 : (4096 : Int) < n := by omega
    go_enter Try.func4, Try.ntmps4
    go_wp2_with fail
    refine (works10_yes _).mono ?_
    rintro e w5 ⟨rfl, b5⟩
    go_wp2
    go_ret
    exact ⟨rfl, b5⟩
  have hb1 : ¬ (4096 : Int) < n := by omega
  have hn' := Lib.hid hn
  have HR := Lib.hid hr
  obtain ⟨E, hE⟩ : ∃ E, (chkAll l).1 = E := ⟨_, rfl⟩
  obtain ⟨E2, hE2⟩ : ∃ E2, (chkAll l).2 = E2 := ⟨_, rfl⟩
  have HCA : Hid (∀ W : World, Below w.heap.size w W → Calls Try.prog 12 #[.slice A n c] W fun e w' => e = .returned (.tuple #[.int .i64 E, .int .i64 E2]) ∧ Below W.heap.size W w') := Lib.hid fun W hW => by
    have h := CheckAll9_any A n c l W ((hr.below hW).more hW.size) hn hnb hok
    rw [hE, hE2] at h
    exact h
  by_cases h0 : E = 0
  case neg =>
    obtain ⟨f1, f2⟩ := fold_ne h0
    have hee : (E == E) = true := by simp
    have HPL : Hid (Calls Try.prog 11 #[.slice A n c] w (GivesP w [] E)) := Lib.hid (by
      have h := Plan10_any A n c l w hr hn hnb hok
      rw [plan_bad (by rw [hE]; exact h0), hE] at h
      exact h)
    clear hr hn hE hE2 h0
    go_enter Try.func4, Try.ntmps4
    go_wp2_with fail
    refine HPL.out.mono ?_
    rintro e w1 ⟨v1, rfl, own1, b1⟩
    obtain ⟨A1, c1, rfl, _⟩ := own1.len
    clear own1 HPL
    go_wp2_with fail
    refine (HCA.out _ b1).mono ?_
    rintro e w2 ⟨rfl, b2⟩
    have bel2 := b1.trans (b2.mono b1.size)
    clear b1 b2
    have hl0 : ((([] : List Pol).length : Int) == 0) = true := by simp
    go_wp2_with fail
    refine (works10_yes _).mono ?_
    rintro e w3 ⟨rfl, b3⟩
    have bel3 := bel2.trans (b3.mono bel2.size)
    clear bel2 b3
    go_wp2
    go_ret
    exact ⟨rfl, bel3⟩
  subst h0
  obtain ⟨P, hP⟩ : ∃ P, planL l = P := ⟨_, rfl⟩
  obtain ⟨hP1, hP2⟩ := plan_tgs (l := l)
  have HPL : Hid (Calls Try.prog 11 #[.slice A n c] w (GivesP w P 0)) := Lib.hid (by
    have h := Plan10_any A n c l w hr hn hnb hok
    rw [hP, hE] at h
    exact h)
  have HPW := Lib.hid (plan_wf (l := l))
  have hinv := plan_inv hE
  rw [hP] at hP1 hP2 HPW hinv
  have HP2 := Lib.hid hP2
  have HINV := Lib.hid hinv
  have HTB := Lib.hid (tag_tab hE).1
  have HCK : Hid ((chkAll l).1 = 0) := Lib.hid hE
  have hn64 : n ≤ 64 := by have := HTB.out; omega
  have hmk := I.make_i64 n (by omega)
  clear hr hn hP2 hP hE hE2 hinv
  go_enter Try.func4, Try.ntmps4
  go_wp2_with fail
  refine HPL.out.mono ?_
  rintro e w1 ⟨v1, rfl, own1, b1⟩
  have PR := Lib.hid (own1.prow HPW.out)
  obtain ⟨A1, c1, rfl, _⟩ := own1.len
  obtain ⟨np, hnp⟩ : ∃ np, P.length = np := ⟨_, rfl⟩
  have hnp' := Lib.hid hnp
  rw [hnp] at hP1 ⊢
  clear hnp own1 HPL
  have PR2 : Hid (PlRow w1 (.slice A1 np c1) P) := Lib.hid (by rw [← hnp'.out]; exact PR.out)
  clear PR
  go_wp2_with fail
  refine (HCA.out _ b1).mono ?_
  rintro e w2 ⟨rfl, b2⟩
  have BEL2 := Lib.hid (b1.trans (b2.mono b1.size))
  have PR3 := Lib.hid (PR2.out.below b2)
  clear b1 b2 PR2 HCA
  have hx0 := heap_alloc_new w2 (.cells (blk .i64 (List.replicate n 0)) 3)
  have bel0 := Lib.hid (bel_alloc w2 (.cells (blk .i64 (List.replicate n 0)) 3))
  have hx0' : Hid ((w2.alloc (.cells (blk .i64 (List.replicate n 0)) 3)).heap[w2.heap.size]? = some (.cells (blk .i64 (seenC n ((P.take 0).flatMap Pol.tg))) 3 (0, 0))) := Lib.hid (by rw [List.take_zero, List.flatMap_nil, seenC_nil]; exact hx0)
  clear hx0
  go_wp2
  go_loopw [8] (fun i wr => ∃ k : Nat, k ≤ np ∧ i = .int .i64 k ∧ Hid (wr.heap[w2.heap.size]? = some (.cells (blk .i64 (seenC n ((P.take k).flatMap Pol.tg))) 3 (0, 0))) ∧ Hid (Below w2.heap.size w2 wr)) (fun i _ => np - (intOf i).toNat)
  case atStart => exact ⟨0, by omega, rfl, hx0', bel0⟩
  case round =>
    clear hx0' bel0 hmk
    obtain ⟨k, hk, rfl, hsn, hbel⟩ := hrel
    by_cases hlt : k < np
    · have hkp : k < P.length := by have := hnp'.out; omega
      obtain ⟨a, hpa, ham⟩ : ∃ a, P[k]? = some a ∧ a ∈ P := ⟨_, List.getElem?_eq_getElem hkp, List.getElem_mem hkp⟩
      have hga := HINV.out.each a ham
      obtain ⟨g, cg, At, ca, e1, hg1, ha, hra⟩ := (PR3.out).get2 hpa
      injection e1 with i1 i2 i3
      subst i1 i3
      have HPA := Lib.hid hpa
      have HGA := Lib.hid hga
      have HRA := Lib.hid hra
      have hwx := HP2.out _ ham
      have haA := hga.ad
      have haC := hga.ct
      have hmK : mostK a.ki ≤ 2000 := by unfold mostK; split <;> omega
      obtain ⟨hd0, hd1, hd2⟩ := hga.hd
      have htl : 1 ≤ a.tg.length := by
        cases h : a.tg with
        | nil => rw [h] at hd1; cases hd1
        | cons x r => simp
      have HAK := Lib.hid (good_ask hga)
      have HPQ : Hid (∀ W : World, Below w2.heap.size w2 W → (W.cell? ⟨g, k * 6, none⟩ = some (.int .i64 a.un) ∧ W.cell? ⟨g, k * 6 + 1, none⟩ = some (.int .i64 a.ki) ∧ W.cell? ⟨g, k * 6 + 2, none⟩ = some (.int .i64 a.ad) ∧ W.cell? ⟨g, k * 6 + 3, none⟩ = some (.int .i64 a.ct) ∧ W.cell? ⟨g, k * 6 + 4, none⟩ = some (.int .i64 a.ev) ∧ W.cell? ⟨g, k * 6 + 5, none⟩ = some (.slice At a.tg.length ca))) := Lib.hid fun W hb => ⟨cellB hb hg1 ha.1, cellB hb hg1 ha.2.1, cellB hb hg1 ha.2.2.1, cellB hb hg1 ha.2.2.2.1, cellB hb hg1 ha.2.2.2.2.1, cellB hb hg1 ha.2.2.2.2.2⟩
      obtain ⟨tl, htlE⟩ : ∃ tl, a.tg.length = tl := ⟨_, rfl⟩
      have HTL := Lib.hid htlE
      rw [htlE] at htl hwx HPQ
      clear htlE hpa ham hga hra hd1 hd2 ha i2
      have HAS : Hid (∀ W : World, Calls Try.prog 7 #[.agg #[.int .i64 a.un, .int .i64 a.ki, .int .i64 a.ad, .int .i64 a.ct, .int .i64 a.ev, .slice At tl ca]] W fun e w' => e = .returned (.tuple #[.agg #[.int .i64 a.ki, .int .i64 a.ad, .int .i64 a.ct, .slice none 0 0, .slice none 0 0, .slice none 0 0], .int .i64 0]) ∧ Below W.heap.size W w') := Lib.hid fun W => by
        have h := Ask10_any a.un a.ki a.ad a.ct a.ev At tl ca W
        have n1 : ∀ x, askN a.ki a.ad a.ct x = x := fun x => by unfold askN; rw [HAK.out]; rfl
        unfold AskedK at h
        rw [n1, n1, n1, HAK.out] at h
        exact h
      have n1 : (k : Int) < (np : Int) := by omega
      have n5 : (0 : Int) ≤ (k : Int) := by omega
      have n6 : IntKind.i64.wrap ((k : Int) + 1) = (k : Int) + 1 := by rw [IntKind.wrap_i64]; omega
      obtain ⟨a0, a1, a2, a3, a4, a5⟩ := HPQ.out wr hbel.out
      go_wp2_with fail
      refine (HAS.out _).mono ?_
      rintro e w5 ⟨rfl, b5⟩
      have bel5 := hbel.out.trans (b5.mono hbel.out.size)
      have hsn5 := keepB b5 hsn.out
      clear a0 a1 a2 a3 a4 a5 b5
      have hxq := heap_alloc_new w5 (.cells #[.int .i64 a.ki, .int .i64 a.ad, .int .i64 a.ct, .slice none 0 0, .slice none 0 0, .slice none 0 0] 29)
      obtain ⟨q0, q1, q2, q3, q4, q5⟩ := of6 hxq
      have bel6 := Lib.hid (bel5.alloc bel5.size (.cells #[.int .i64 a.ki, .int .i64 a.ad, .int .i64 a.ct, .slice none 0 0, .slice none 0 0, .slice none 0 0] 29))
      have hsn6 := Lib.hid ((heap_alloc_old w5 (.cells #[.int .i64 a.ki, .int .i64 a.ad, .int .i64 a.ct, .slice none 0 0, .slice none 0 0, .slice none 0 0] 29) (block_lt hsn5)).trans hsn5)
      obtain ⟨a0, a1, a2, a3, a4, a5⟩ := HPQ.out _ bel6.out
      have z1 : (a.ki != a.ki) = false := by simp
      have z2 : (a.ad != a.ad) = false := by simp
      have z3 : (a.ct != a.ct) = false := by simp
      have z4 : ((tl : Int) == 0) = false := beq_false_of_ne (by omega)
      clear bel5 hsn5 hxq
      go_wp2
      generalize hW6 : w5.alloc (.cells #[.int .i64 a.ki, .int .i64 a.ad, .int .i64 a.ct, .slice none 0 0, .slice none 0 0, .slice none 0 0] 29) = w6 at *
      go_quiet (fail)
      have bel7 := Lib.hid (below_drewN bel6.out nq)
      have hsn7 : Hid ((w6.drewN nq).heap[w2.heap.size]? = some (.cells (blk .i64 (seenC n (upto P k 0))) 3 (0, 0))) := Lib.hid (by rw [upto_zero]; exact hsn6.out)
      clear q0 q1 q2 q3 q4 q5 a0 a1 a2 a3 a4 a5 z1 z2 z3 z4 bel6 hsn6
      generalize w6.drewN nq = w7 at *
      clear hW6
      go_wp2
      go_loopw [11] (fun i wr => ∃ j : Nat, j ≤ tl ∧ i = .int .i64 j ∧ Hid (wr.heap[w2.heap.size]? = some (.cells (blk .i64 (seenC n (upto P k j))) 3 (0, 0))) ∧ Hid (Below w2.heap.size w2 wr)) (fun i _ => tl - (intOf i).toNat)
      case atStart => exact ⟨0, by omega, rfl, hsn7, bel7⟩
      case round =>
        clear hsn7 bel7
        obtain ⟨j, hj, rfl, hsnc, hbelc⟩ := hrel
        obtain ⟨a0, a1, a2, a3, a4, a5⟩ := HPQ.out wr hbelc.out
        by_cases hjt : j < tl
        · have hjl : j < a.tg.length := by rw [HTL.out]; exact hjt
          obtain ⟨bt, ot, rfl, hbt, hct⟩ := (HRA.out.below hbelc.out).at_ hjl
          obtain ⟨q, hq, hql, t1, t2, t3, t4, t5⟩ := HGA.out.all (nth a.tg j) (nth_mem _ _ hjl)
          have HUP := Lib.hid (upto_step HPA.out hjl)
          rw [hq] at hct HUP
          clear hq
          have m1 : (j : Int) < (tl : Int) := by omega
          have m2 : (0 : Int) ≤ (j : Int) := by omega
          have m3 : IntKind.i64.wrap ((j : Int) + 1) = (j : Int) + 1 := by rw [IntKind.wrap_i64]; omega
          have hqn : q < n := by have := hn'.out; omega
          have o1 : (q : Int) < (n : Int) := by omega
          have o2 : (0 : Int) ≤ (q : Int) := by omega
          have o3 : decide ((q : Int) < 0) = false := decide_eq_false (by omega)
          have o4 : decide ((n : Int) ≤ (q : Int)) = false := decide_eq_false (by omega)
          have o5 : decide (n ≤ q) = false := decide_eq_false (by omega)
          obtain ⟨bl, ol, hAl, hbl, hld0⟩ := (HR.out.below (BEL2.out.trans (hbelc.out.mono BEL2.out.size))).five hql
          subst hAl
          have HTT := Lib.hid (tag_right HCK.out hql)
          have hta := (chkT_zero HTT.out).2.2.2.1
          have hwd := widT_le (tgAt l q)
          generalize tgAt l q = t at *
          have hst := made_tag wr t
          have hx := heap_alloc_new wr (.cells (tgC t).toArray 49)
          have belz := hbelc.out.alloc hbelc.out.size (.cells (tgC t).toArray 49)
          have hsz := (heap_alloc_old wr (.cells (tgC t).toArray 49) (block_lt hsnc.out)).trans hsnc.out
          obtain ⟨sq, hsq⟩ : ∃ s : Int, nth (seenC n (upto P k j)) q = s := ⟨_, rfl⟩
          have hcs : (wr.alloc (.cells (tgC t).toArray 49)).cell? ⟨w2.heap.size, q, none⟩ = some (.int .i64 sq) := by
            rw [cell_of_row _ _ q _ _ _ hsz, blk_get _ _ _ (by rw [seenC_len]; exact hqn), hsq]
          have hfz := block_frozen _ _ q _ _ hsz
          rw [seenC_nth _ hqn] at hsq
          have hsb : 0 ≤ sq ∧ sq ≤ 1000000 := by
            have h1 : (upto P k j).length ≤ 100000 := by
              have hpl : ((P.take k).flatMap Pol.tg).length ≤ (P.flatMap Pol.tg).length := by
                have := congrArg List.length (congrArg (List.flatMap Pol.tg) (List.take_append_drop k P))
                rw [List.flatMap_append, List.length_append] at this
                omega
              have h2 := congrArg List.length HINV.out.flat
              rw [List.length_map, ordT_len] at h2
              have h3 : (((P[k]?.map Pol.tg).getD []).take j).length ≤ j := List.length_take_le _ _
              have := hn'.out
              unfold upto
              rw [List.length_append]
              omega
            have h2 := List.count_le_length (a := (q : Int)) (l := upto P k j)
            omega
          have hsw : IntKind.i64.wrap (sq + 1) = sq + 1 := by rw [IntKind.wrap_i64]; omega
          have hset := block_setCell _ w2.heap.size q .i64 3 _ (sq + 1) hsz
          rw [← hsq, seenC_set _ hqn, ← HUP.out, hsq] at hset
          have belz2 := Lib.hid (below_setCell belz (Nat.le_refl _) q (.int .i64 (sq + 1)))
          have hxz : ((wr.alloc (.cells (tgC t).toArray 49)).setCell ⟨w2.heap.size, q, none⟩ (.int .i64 (sq + 1))).heap[wr.heap.size]? = some (.cells (tgC t).toArray 49 (0, 0)) := (Below.heap_setCell _ _ _ _ (by have := block_lt hsnc.out; intro e; simp only at e; omega)).trans hx
          have hgw : g < w2.heap.size := hg1
          clear hsq hsz hx belz
          go_wp2
          generalize hWZ : (wr.alloc (.cells (tgC t).toArray 49)).setCell ⟨w2.heap.size, q, none⟩ (.int .i64 (sq + 1)) = wz at *
          have HW : Hid (∀ W : World, Calls Try.prog 13 #[tgV t] W fun e w' => e = .returned (.int .i64 (widT t)) ∧ Below W.heap.size W w') := Lib.hid fun W => width_t t W
          have y1 : (t.un != a.un) = false := by simp [t1]
          have y2 : (t.ki != a.ki) = false := by simp [t3]
          have y3 : (t.ev != a.ev) = false := by simp [t2]
          have y4 : decide (t.ad < a.ad) = false := decide_eq_false (by omega)
          have y5 : IntKind.i64.wrap (t.ad + widT t) = t.ad + widT t := by rw [IntKind.wrap_i64]; omega
          have y6 : IntKind.i64.wrap (a.ad + a.ct) = a.ad + a.ct := by rw [IntKind.wrap_i64]; omega
          have y7 : decide (t.ad + widT t > a.ad + a.ct) = false := decide_eq_false (by omega)
          have y8 : decide (a.ad + a.ct < t.ad + widT t) = false := decide_eq_false (by omega)
          generalize widT t = wd at *
          have HPZ : Hid (∀ W : World, Below wz.heap.size wz W → (Below wz.heap.size wz W ∧ (W.cell? ⟨wr.heap.size, 1, none⟩ = some (.int .i64 t.un) ∧ W.cell? ⟨wr.heap.size, 2, none⟩ = some (.int .i64 t.ki) ∧ W.cell? ⟨wr.heap.size, 3, none⟩ = some (.int .i64 t.ad) ∧ W.cell? ⟨wr.heap.size, 4, none⟩ = some (.int .i64 t.ev)) ∧ (ldTag (.pointer (some ⟨wr.heap.size, 0, none⟩))).run Try.prog W = .ok (tgV t) W ∧ (W.cell? ⟨g, k * 6, none⟩ = some (.int .i64 a.un) ∧ W.cell? ⟨g, k * 6 + 1, none⟩ = some (.int .i64 a.ki) ∧ W.cell? ⟨g, k * 6 + 2, none⟩ = some (.int .i64 a.ad) ∧ W.cell? ⟨g, k * 6 + 3, none⟩ = some (.int .i64 a.ct) ∧ W.cell? ⟨g, k * 6 + 4, none⟩ = some (.int .i64 a.ev) ∧ W.cell? ⟨g, k * 6 + 5, none⟩ = some (.slice (some ⟨bt, ot, none⟩) tl ca)))) := Lib.hid fun W hb => ⟨hb, (tgBox (keepB hb hxz)).2, tgBox_ld (keepB hb hxz), HPQ.out W (belz2.out.trans (hb.mono belz2.out.size))⟩
          have belh : ∀ W : World, (Below wz.heap.size wz W ∧ (W.cell? ⟨wr.heap.size, 1, none⟩ = some (.int .i64 t.un) ∧ W.cell? ⟨wr.heap.size, 2, none⟩ = some (.int .i64 t.ki) ∧ W.cell? ⟨wr.heap.size, 3, none⟩ = some (.int .i64 t.ad) ∧ W.cell? ⟨wr.heap.size, 4, none⟩ = some (.int .i64 t.ev)) ∧ (ldTag (.pointer (some ⟨wr.heap.size, 0, none⟩))).run Try.prog W = .ok (tgV t) W ∧ (W.cell? ⟨g, k * 6, none⟩ = some (.int .i64 a.un) ∧ W.cell? ⟨g, k * 6 + 1, none⟩ = some (.int .i64 a.ki) ∧ W.cell? ⟨g, k * 6 + 2, none⟩ = some (.int .i64 a.ad) ∧ W.cell? ⟨g, k * 6 + 3, none⟩ = some (.int .i64 a.ct) ∧ W.cell? ⟨g, k * 6 + 4, none⟩ = some (.int .i64 a.ev) ∧ W.cell? ⟨g, k * 6 + 5, none⟩ = some (.slice (some ⟨bt, ot, none⟩) tl ca))) → Below wz.heap.size wz W := fun W h => h.1
          clear a0 a1 a2 a3 a4 a5 hst hcs hfz t1 t2 t3 t4 t5 hld0
          go_region_held3 (fun W => Below wz.heap.size wz W ∧ (W.cell? ⟨wr.heap.size, 1, none⟩ = some (.int .i64 t.un) ∧ W.cell? ⟨wr.heap.size, 2, none⟩ = some (.int .i64 t.ki) ∧ W.cell? ⟨wr.heap.size, 3, none⟩ = some (.int .i64 t.ad) ∧ W.cell? ⟨wr.heap.size, 4, none⟩ = some (.int .i64 t.ev)) ∧ (ldTag (.pointer (some ⟨wr.heap.size, 0, none⟩))).run Try.prog W = .ok (tgV t) W ∧ (W.cell? ⟨g, k * 6, none⟩ = some (.int .i64 a.un) ∧ W.cell? ⟨g, k * 6 + 1, none⟩ = some (.int .i64 a.ki) ∧ W.cell? ⟨g, k * 6 + 2, none⟩ = some (.int .i64 a.ad) ∧ W.cell? ⟨g, k * 6 + 3, none⟩ = some (.int .i64 a.ct) ∧ W.cell? ⟨g, k * 6 + 4, none⟩ = some (.int .i64 a.ev) ∧ W.cell? ⟨g, k * 6 + 5, none⟩ = some (.slice (some ⟨bt, ot, none⟩) tl ca)))
            ((refine HPZ.out _ ?_
              repeat' (first
                | with_reducible exact Below.refl _ _
                | with_reducible exact bel5
                | with_reducible exact belh _ (by assumption)
                | with_reducible apply below_drew
                | with_reducible apply below_drewN
                | fail)))
            (first
              | (go_at_call 13; have bh := belh _ (by assumption); refine (HW.out _).mono ?_; rintro e w5 ⟨rfl, b5⟩; have bel5 : Below wz.heap.size wz w5 := Below.trans bh (b5.mono bh.size))
              | fail)
          have bel9 := Lib.hid (belz2.out.trans (bel5.mono belz2.out.size))
          have hsn9 := Lib.hid (keepB bel5 hset)
          clear HPZ belh bel5 b5 hset hxz
          go_wp2
          go_roundw
          case rel => exact ⟨j + 1, by omega, by go_num, hsn9, bel9⟩
          case measure => simp [intOf]; omega
        · obtain rfl : j = tl := by omega
          have hsn8 : Hid (wr.heap[w2.heap.size]? = some (.cells (blk .i64 (seenC n ((P.take (k + 1)).flatMap Pol.tg))) 3 (0, 0))) := Lib.hid (by rw [← upto_end HPA.out HTL.out.symm]; exact hsnc.out)
          go_wp2
          go_roundw
          case rel => exact ⟨k + 1, by omega, by go_num, hsn8, hbelc⟩
          case measure => simp [intOf]; omega
    · obtain rfl : k = np := by omega
      have hfl : Hid (wr.heap[w2.heap.size]? = some (.cells (blk .i64 (seenC n (intL (ordT l)))) 3 (0, 0))) := Lib.hid (by
        have h := hsn.out
        rw [List.take_of_length_le (by have := hnp'.out; omega), HINV.out.flat] at h
        exact h)
      have BELW := Lib.hid (BEL2.out.trans (hbel.out.mono BEL2.out.size))
      have HONE : Hid (∀ j, j < n → nth (seenC n (intL (ordT l))) j = 1) := Lib.hid (fun j hj => seenC_one hn'.out hj)
      have HLS : Hid ((seenC n (intL (ordT l))).length = n) := Lib.hid (seenC_len _ _)
      clear hsn hbel
      generalize seenC n (intL (ordT l)) = sn at *
      generalize hwx : wr = wx at *
      clear hwx
      go_wp2
      go_loopw [14] (fun i wr => ∃ j : Nat, j ≤ n ∧ i = .int .i64 j ∧ wr = wx) (fun i _ => n - (intOf i).toNat)
      case atStart => exact ⟨0, by omega, rfl, rfl⟩
      case round =>
        obtain ⟨j, hj, rfl, rfl⟩ := hrel
        by_cases hjt : j < n
        · have hcl : wr.cell? ⟨w2.heap.size, j, none⟩ = some (.int .i64 1) := by
            rw [cell_of_row _ _ j _ _ _ hfl.out, blk_get _ _ _ (by rw [HLS.out]; exact hjt), HONE.out j hjt]
          have m1 : (j : Int) < (n : Int) := by omega
          have m2 : (0 : Int) ≤ (j : Int) := by omega
          have m3 : IntKind.i64.wrap ((j : Int) + 1) = (j : Int) + 1 := by rw [IntKind.wrap_i64]; omega
          go_wp2
          go_roundw
          case rel => exact ⟨j + 1, by omega, by go_num, by first | rfl | trivial⟩
          case measure => simp [intOf]; omega
        · obtain rfl : j = n := by omega
          go_wp2_with fail
          refine (works10_yes _).mono ?_
          rintro e w9 ⟨rfl, b9⟩
          have bel9 := BELW.out.trans (b9.mono BELW.out.size)
          go_wp2
          go_ret
          exact ⟨rfl, bel9⟩
end Go.Proofs.Ytcmbdhmhkfhjfaa
namespace Go.Proofs.Ytcmbdhmhkfhjfaa.planCovers
open Go.ChangeShapes Go.WideShapes Go.ChangeAt Go.RowKit
open Go.ChangeMaps (open_string shut_string)
set_option linter.unusedVariables false

theorem own : ownKnob Try.prog.godebug = none := by kernel_rfl
theorem laidOut : laidOutB Try.prog = true := by kernel_rfl

set_option maxRecDepth 100000 in
theorem lifted (os : Os) (started : os.Started) (H : Type) (enc : TypeId × Value → H) :
    ReturnsInHanded {} Try.checked os 4 .any (Rows.planCoversSpec.pre6 enc Try.prog Try.f4 Rows.planCoversRow.domain false) (Rows.planCoversSpec.post enc Try.prog Try.f4 false true false false) := by
  refine returnsInHanded_of_change_sized (C := Try.checked) own started (by kernel_rfl) Try.func4
    (ChangeSpec.witness6 (enc := enc) (C := Try.checked) false ⟨#[], #[.slice none 0 0], []⟩ 8 (by kernel_rfl) (by kernel_rfl) (by kernel_rfl) (by kernel_rfl)) ?_
  intro W base args ds gs before hval0 hW hcnd hsz0 _
  have hsz : (DataW.weightsEach Try.prog (Try.f4.params.toList ++ Rows.planCoversSpec.plain.varTypes Try.prog) (ds ++ gs)).all (· ≤ reachBytes) = true := hsz0
  clear hsz0
  have hval : ∀ (j : Nat) t v, Try.f4.params[j]? = some t → args[j]? = some v → Value.okWide Try.prog W .any base t v := hval0
  have hW' := hW
  obtain ⟨p, q, hA0, hV, rfl, hfz, hnd⟩ := hW
  have hA : DataW.TrodAll enc Try.prog W 0 (fun _ => true) true Try.f4.params.toList args.toList ds p := hA0
  rw [Try.params4] at hA hval hsz
  obtain ⟨v0, vs0, d0, ds0, p0, q0, hargs, rfl, rfl, h0, r0⟩ := trodAll_cons hA
  obtain ⟨rfl, rfl, rfl⟩ := trodAll_nil r0
  obtain rfl : args = #[v0] := by cases args; simp_all
  obtain ⟨rfl, rfl⟩ := trodVars_none hV
  obtain ⟨a0, l0, c0, rfl⟩ := okWide_slice Try.underlying36 (hval 0 36 v0 rfl rfl)
  have k0 := h0
  have lt0 : ∀ x ∈ p0, x.block < W.heap.size := by obtain ⟨m, hm⟩ := k0; exact DataW.trod_lt m _ _ _ hm
  obtain ⟨x0, w0, n0, o0, s0, r0d⟩ := tags_in h0 lt0
  have m0 := reach_tags hsz 0 rfl rfl r0d
  clear hA0 hval0
  refine (walk_PlanCovers a0 l0 c0 x0 W w0 n0 (by omega) o0).mono fun e W' ⟨he, bel⟩ => ?_
  subst he
  exact ⟨_, rfl, _, _, _, [], _, [], hW', trodAll_mk1 (shut_bool Try.underlying4 _), (trodAll_cons_mk (Below.trod laidOut (by kernel_rfl) (of_decide_eq_true (by kernel_rfl)) k0 bel lt0) trodAll_mk0), rfl, bel.frame _, fun h => by cases h⟩

theorem over : Rows.planCoversRow.holds Try.pinned (OpenSpec.ofChange Rows.planCoversSpec) :=
  OpenClaim.holds_of_wide 4 Try.f4 rfl rfl rfl rfl rfl rfl rfl ⟨rfl, rfl, rfl, rfl, rfl⟩ rfl rfl rfl rfl rfl (by kernel_rfl) Try.func4 (by kernel_rfl)
    (of_decide_eq_true (by kernel_rfl)) (by unfold Func.isWrapper; first | (rw [if_pos (by decide +kernel)]; kernel_rfl) | (rw [if_neg (by decide +kernel)]; exact ⟨rfl, rfl⟩))
    (fun os started H enc _ => lifted os started H enc)

theorem proved : Rows.PlanCoversSaid := over
#print axioms proved
end Go.Proofs.Ytcmbdhmhkfhjfaa.planCovers
