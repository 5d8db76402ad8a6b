/-
  The statement PlanFew of outstationlaw10 holds: for every input that can be read, the call returns true, and each argument reads as it did. No condition of its own.
-/
import Derived.Test.YtcmbdhmhkfhjfaaJPlanFewI
import Derived.Test.YtcmbdhmhkfhjfaaJPlanFewF
import Derived.Test.YtcmbdhmhkfhjfaaRows
import Derived.Test.YtcmbdhmhkfhjfaaJPlanFewA
namespace Go.Proofs.Ytcmbdhmhkfhjfaa.I
open Go.RowKit
set_option linter.unusedVariables false
/-- Rows that lie inside blocks of their own, each known whole (or nil), their slices in the array of block gl. -/
structure PartsK (w : World) (B gl m : Nat) (A : Nat → Option Addr) (n c : Nat → Nat) (p l r : Nat → List Int) : Prop where
  at_ : ∀ k, k < m → w.cell? ⟨gl, k, none⟩ = some (.slice (A k) (n k) (c k))
  size : ∀ k, k < m → n k ≤ c k ∧ (c k ≤ 9223372036854775807 ∧ n k ≤ 17592186044416) ∧ (l k).length = c k
  wf : ∀ k, k < m → ∀ x ∈ l k, (Lit.int .i64 x).wf = true
  lies : ∀ k, k < m → (A k = none ∧ n k = 0 ∧ c k = 0) ∨ ∃ g, A k = some ⟨g, (p k).length, none⟩ ∧ B ≤ g ∧ g ≠ gl ∧ w.heap[g]? = some (.cells (blk .i64 (p k ++ l k ++ r k)) 3 (0, 0))
  apart : ∀ i k, i < m → k < m → i ≠ k → ∀ g o q, A i = some ⟨g, o, none⟩ → A k ≠ some ⟨g, q, none⟩
  gl_lt : gl < w.heap.size

theorem PartsK.row {w : World} {B gl m : Nat} {A : Nat → Option Addr} {n c : Nat → Nat} {p l r : Nat → List Int} (h : PartsK w B gl m A n c p l r) {k : Nat} (hk : k < m) :
    Row .i64 w w.heap.size (A k) ((l k).take (n k)) ∧ ((l k).take (n k)).length = n k := by
  have hs := h.size k hk
  refine ⟨?_, by simp; omega⟩
  rcases h.lies k hk with ⟨ha, hn, hc⟩ | ⟨g, ha, _, _, hg⟩
  · rw [hn, List.take_zero]; exact Row.nil _ _ _ _
  · rw [ha]
    exact (Row.inside hg _ (fun x hx => h.wf k hk x (List.mem_of_mem_take hx)) (List.take_prefix _ _)).more (block_lt hg)
/-- A step that leaves all old blocks leaves the parts. -/
theorem PartsK.below {w w' : World} {B gl m : Nat} {A : Nat → Option Addr} {n c : Nat → Nat} {p l r : Nat → List Int} (h : PartsK w B gl m A n c p l r) (hb : Below w.heap.size w w') : PartsK w' B gl m A n c p l r where
  at_ := fun k hk => (hb.cell (p := ⟨gl, k, none⟩) h.gl_lt).trans (h.at_ k hk)
  size := h.size
  wf := h.wf
  lies := fun k hk => by
    rcases h.lies k hk with h0 | ⟨g, ha, hB, hne, hg⟩
    · exact .inl h0
    · exact .inr ⟨g, ha, hB, hne, (hb.block g (block_lt hg)).trans hg⟩
  apart := h.apart
  gl_lt := Nat.lt_of_lt_of_le h.gl_lt hb.size
/-- One part is written over. -/
theorem PartsK.spoil {w w' : World} {B gl m : Nat} {A : Nat → Option Addr} {n c : Nat → Nat} {p l r : Nat → List Int} (h : PartsK w B gl m A n c p l r) {i g : Nat} (hi : i < m) (ha : A i = some ⟨g, (p i).length, none⟩)
    (hg : w'.heap[g]? = some (.cells (blk .i64 (p i ++ spoilI (c i) (l i) ++ r i)) 3 (0, 0))) (hgr : w.grownBy w' (some g)) : PartsK w' B gl m A n c p (fun k => if k = i then spoilI (c i) (l i) else l k) r where
  at_ := fun k hk => by
    rcases h.lies i hi with ⟨h0, _⟩ | ⟨g', ha', _, hne, _⟩
    · rw [ha] at h0; cases h0
    · rw [ha] at ha'
      injection ha' with ha'
      injection ha' with ha'
      subst ha'
      exact (World.cell?_of_block (hgr.block gl h.gl_lt (fun e => hne (by injection e with e; exact e.symm)))).trans (h.at_ k hk)
  size := fun k hk => by
    have := h.size k hk
    refine ⟨this.1, this.2.1, ?_⟩
    split
    · rename_i e; subst e; rw [spoilI_length]; exact this.2.2
    · exact this.2.2
  wf := fun k hk => by
    show ∀ x ∈ (if k = i then spoilI (c i) (l i) else l k), _
    split
    · exact spoilI_wf _ _ (h.wf i hi)
    · exact h.wf k hk
  lies := fun k hk => by
    by_cases e : k = i
    · subst e
      rcases h.lies k hi with ⟨h0, _⟩ | ⟨g', ha', hB, hne, _⟩
      · rw [ha] at h0; cases h0
      · rw [ha] at ha'
        injection ha' with ha'
        injection ha' with ha'
        subst ha'
        exact .inr ⟨g, ha, hB, hne, by rw [if_pos rfl]; exact hg⟩
    · rcases h.lies k hk with h0 | ⟨g', ha', hB, hne, hg'⟩
      · exact .inl h0
      · refine .inr ⟨g', ha', hB, hne, ?_⟩
        rw [if_neg e, hgr.block g' (block_lt hg') (fun e' => ?_)]
        · exact hg'
        · injection e' with e'
          subst e'
          exact h.apart k i hk hi e _ _ _ ha' ha
  apart := h.apart
  gl_lt := Nat.lt_of_lt_of_le h.gl_lt hgr.size

/-- A slice that is handed to ApartInts: nil, or the beginning of a block that is known whole. -/
structure EntK where
  a : Option Nat
  p : List Int
  n : Nat
  c : Nat
  l : List Int
  r : List Int
def EntK.none_ : EntK := ⟨none, [], 0, 0, [], []⟩
def EntK.adr (e : EntK) : Option Addr := e.a.map fun g => ⟨g, e.p.length, none⟩
def EntK.val (e : EntK) : Value := .slice e.adr e.n e.c
structure EntK.Ok (w : World) (B : Nat) (e : EntK) : Prop where
  size : e.n ≤ e.c ∧ (e.c ≤ 9223372036854775807 ∧ e.n ≤ 17592186044416) ∧ e.l.length = e.c
  wf : ∀ x ∈ e.l, (Lit.int .i64 x).wf = true
  lies : (e.a = none ∧ e.n = 0 ∧ e.c = 0) ∨ ∃ g, e.a = some g ∧ B ≤ g ∧ w.heap[g]? = some (.cells (blk .i64 (e.p ++ e.l ++ e.r)) 3 (0, 0))
def EntK.Far (e e' : EntK) : Prop := ∀ g, e.a = some g → e'.a ≠ some g
theorem EntK.adr_some {e : EntK} {g o : Nat} (h : e.adr = some ⟨g, o, none⟩) : e.a = some g := by
  unfold EntK.adr at h
  cases ha : e.a with
  | none => rw [ha] at h; cases h
  | some q => rw [ha] at h; simp at h; rw [h.1]

theorem partsK_of_list (w : World) (B : Nat) (L : List EntK) (t : TypeId) (hok : ∀ e ∈ L, e.Ok w B) (hfar : L.Pairwise EntK.Far) :
    PartsK (w.alloc (.cells (L.map EntK.val).toArray t)) B w.heap.size L.length (fun k => (L.getD k EntK.none_).adr) (fun k => (L.getD k EntK.none_).n) (fun k => (L.getD k EntK.none_).c) (fun k => (L.getD k EntK.none_).p) (fun k => (L.getD k EntK.none_).l) (fun k => (L.getD k EntK.none_).r) where
  at_ := fun k hk => by
    rw [World.cell?_alloc_at _ _ _ _ rfl]
    simp [List.getElem?_eq_getElem hk, List.getD_eq_getElem?_getD, EntK.val]
  size := fun k hk => by
    simp only [List.getD_eq_getElem?_getD, List.getElem?_eq_getElem hk, Option.getD_some]
    exact (hok _ (List.getElem_mem hk)).size
  wf := fun k hk => by
    simp only [List.getD_eq_getElem?_getD, List.getElem?_eq_getElem hk, Option.getD_some]
    exact (hok _ (List.getElem_mem hk)).wf
  lies := fun k hk => by
    simp only [List.getD_eq_getElem?_getD, List.getElem?_eq_getElem hk, Option.getD_some]
    rcases (hok _ (List.getElem_mem hk)).lies with ⟨h1, h2⟩ | ⟨g, h1, h2, h3⟩
    · exact .inl ⟨by rw [EntK.adr, h1]; rfl, h2⟩
    · have := block_lt h3
      exact .inr ⟨g, by rw [EntK.adr, h1]; rfl, h2, by omega, (Below.heap_alloc w _ g this).trans h3⟩
  apart := fun i k hi hk hne g o q h1 h2 => by
    simp only [List.getD_eq_getElem?_getD, List.getElem?_eq_getElem hi, List.getElem?_eq_getElem hk, Option.getD_some] at h1 h2
    have h1 := EntK.adr_some h1
    have h2 := EntK.adr_some h2
    rcases Nat.lt_or_gt_of_ne hne with h | h
    · exact List.pairwise_iff_getElem.1 hfar i k hi hk h g h1 h2
    · exact List.pairwise_iff_getElem.1 hfar k i hk hi h g h2 h1
  gl_lt := by simp

end Go.Proofs.Ytcmbdhmhkfhjfaa.I
namespace Go.Proofs.Ytcmbdhmhkfhjfaa
open Go.RowKit
set_option linter.unusedVariables false
/-- A list of the call's own, as an entry. -/
theorem KOwn.entKI {w : World} {base B : Nat} {v : Value} {xs : List Int} (h : KOwn .i64 3 w base v xs) (hw : ∀ x ∈ xs, (Lit.int .i64 x).wf = true) (hm : xs.length ≤ 17592186044416) (hB : B ≤ base) :
    ∃ E : I.EntK, E.val = v ∧ E.Ok w B ∧ ∀ g, E.a = some g → base ≤ g ∧ v.ownBlock = some g := by
  rcases h with ⟨rfl, rfl⟩ | ⟨g, n, cap, r, rfl, h2, h3, h4, h5, h6, h7, h8⟩
  · exact ⟨⟨none, [], 0, 0, [], []⟩, rfl, ⟨⟨Nat.le_refl _, ⟨by show 0 ≤ _; omega, by show 0 ≤ _; omega⟩, rfl⟩, by simp, .inl ⟨rfl, rfl, rfl⟩⟩, fun g h => by cases h⟩
  · simp only [maxLen] at h6
    refine ⟨⟨some g, [], n, cap, xs ++ r, []⟩, rfl, ⟨⟨h5, ⟨h6, by show n ≤ _; omega⟩, by show (xs ++ r).length = cap; rw [List.length_append]; exact h7⟩, wf_append hw h8, .inr ⟨g, rfl, by omega, by rw [List.append_nil, List.nil_append]; exact h4⟩⟩, fun g' e => ?_⟩
    have e : some g = some g' := e
    injection e with e
    subst e
    exact ⟨h2, rfl⟩
/-- Only some blocks were written; others may be new. -/
structure Only (w w' : World) (S : Nat → Prop) : Prop where
  os : w'.os = w.os
  tape : w'.tape = w.tape
  output : w'.output = w.output
  size : w.heap.size ≤ w'.heap.size
  block : ∀ b, b < w.heap.size → ¬ S b → w'.heap[b]? = w.heap[b]?
theorem Only.refl (w : World) (S : Nat → Prop) : Only w w S := ⟨rfl, rfl, rfl, Nat.le_refl _, fun _ _ _ => rfl⟩
theorem Only.below {w w' w2 : World} {S : Nat → Prop} (h : Only w w' S) (hb : Below w'.heap.size w' w2) : Only w w2 S :=
  ⟨hb.os.trans h.os, hb.tape.trans h.tape, hb.output.trans h.output, Nat.le_trans h.size hb.size, fun b hlt hS => (hb.block b (Nat.lt_of_lt_of_le hlt h.size)).trans (h.block b hlt hS)⟩
theorem Only.grown {w w' w2 : World} {S T : Nat → Prop} {v : Option Nat} (h : Only w w' S) (hg : w'.grownBy w2 v) (hST : ∀ b, S b → T b) (hv : ∀ g, v = some g → T g) : Only w w2 T :=
  ⟨hg.os.trans h.os, hg.tape.trans h.tape, hg.output.trans h.output, Nat.le_trans h.size hg.size, fun b hlt hT => (hg.block b (Nat.lt_of_lt_of_le hlt h.size) (fun e => hT (hv b e.symm))).trans (h.block b hlt (fun hs => hT (hST b hs)))⟩
theorem Only.bel {w w' : World} {S : Nat → Prop} {B : Nat} (h : Only w w' S) (hB : B ≤ w.heap.size) (hS : ∀ b, S b → B ≤ b) : Below B w w' :=
  ⟨h.os, h.tape, h.output, h.size, fun b hb => h.block b (by omega) (fun hs => by have := hS b hs; omega)⟩
theorem Only.kown {k : IntKind} {e : TypeId} {w w' : World} {S : Nat → Prop} {base : Nat} {v : Value} {xs : List Int} (h : Only w w' S) (hk : KOwn k e w base v xs) (hS : ∀ g, v.ownBlock = some g → ¬ S g) : KOwn k e w' base v xs := by
  rcases hk with h0 | ⟨g, n, cap, r, rfl, h2, h3, h4, h5⟩
  · exact .inl h0
  · exact .inr ⟨g, n, cap, r, rfl, h2, h3, (h.block g (block_lt h4) (hS g rfl)).trans h4, h5⟩
end Go.Proofs.Ytcmbdhmhkfhjfaa
namespace Go.Proofs.Ytcmbdhmhkfhjfaa
open Go.RowKit
set_option linter.unusedVariables false
set_option maxRecDepth 100000

theorem PlOwn.only {w w' : World} {S : Nat → Prop} {base : Nat} {v : Value} {ps : List Pol} (hp : PlOwn w base v ps) (h : Only w w' S) (hS : ∀ b, S b → b < base) : PlOwn w' base v ps := by
  obtain ⟨L, h1, h2, h3, h4⟩ := hp
  refine ⟨L, h1, ⟨h2.1, ?_⟩, fun p hp => h.kown (h3 p hp) (fun g e hs => by have := (h3 p hp).block g e; have := hS g hs; omega), h4⟩
  rcases h2.2 with h0 | ⟨g, cap, cur, hv, hb, hg, r⟩
  · exact .inl h0
  · exact .inr ⟨g, cap, cur, hv, hb, (h.block g (block_lt hg) (fun hs => by have := hS g hs; omega)).trans hg, r⟩
/-- The blocks of the first Tags of a list of polls. -/
def BlkOf (L : List (Pol × Value)) (k b : Nat) : Prop := ∃ j, ∃ h : j < L.length, j < k ∧ L[j].2.ownBlock = some b
/-- A list of polls of which the first Tags were written over. -/
structure Worn (w5 wr : World) (base : Nat) (v : Value) (L : List (Pol × Value)) (k : Nat) : Prop where
  row : w5.ownsRow base 24 6 v L.length (flatV pcell L)
  each : ∀ p ∈ L, KOwn .i64 3 w5 base p.2 p.1.tg
  far : L.Pairwise (fun a b => FarV a.2 b.2)
  only : Only w5 wr (BlkOf L k)
theorem Worn.at_ {w5 wr : World} {base : Nat} {v : Value} {L : List (Pol × Value)} {k i : Nat} (h : Worn w5 wr base v L k) (hk : k ≤ i) (hi : i < L.length) :
    ∃ g c A m cc, v = .slice (some ⟨g, 0, none⟩) L.length c ∧ g < wr.heap.size ∧ (wr.cell? ⟨g, i * 6, none⟩ = some (.int .i64 L[i].1.un) ∧ wr.cell? ⟨g, i * 6 + 1, none⟩ = some (.int .i64 L[i].1.ki) ∧ wr.cell? ⟨g, i * 6 + 2, none⟩ = some (.int .i64 L[i].1.ad) ∧ wr.cell? ⟨g, i * 6 + 3, none⟩ = some (.int .i64 L[i].1.ct) ∧ wr.cell? ⟨g, i * 6 + 4, none⟩ = some (.int .i64 L[i].1.ev) ∧ wr.cell? ⟨g, i * 6 + 5, none⟩ = some (.slice A m cc)) ∧ L[i].2 = .slice A m cc ∧ KOwn .i64 3 wr base (.slice A m cc) L[i].1.tg := by
  have hkw := h.each _ (List.getElem_mem hi)
  have hkr : KOwn .i64 3 wr base L[i].2 L[i].1.tg := h.only.kown hkw (fun g e hs => by
    obtain ⟨j, hj, hjk, e2⟩ := hs
    have hf := List.pairwise_iff_getElem.1 h.far j i hj hi (by omega)
    rcases hf with hf | hf
    · rw [hf] at e2; cases e2
    · rw [e, e2] at hf; exact hf rfl)
  rcases h.row.2 with ⟨e0, h0⟩ | ⟨g, cap, cur, hv, hb, hg, h5, h6, h7, h8⟩
  · omega
  · have hlg := block_lt hg
    have hgS : ¬ BlkOf L k g := by
      rintro ⟨j, hj, hjk, e2⟩
      have hf := pol_far h.row (h.each _ (List.getElem_mem hj))
      rw [hv] at hf
      rcases hf with hf | hf
      · rw [hf] at e2; cases e2
      · rw [e2] at hf; exact hf rfl
    have hgr := (h.only.block g hlg hgS).trans hg
    obtain ⟨A, m, cc, hs⟩ := hkw.sl
    have hcell : ∀ j, j < 6 → wr.cell? ⟨g, i * 6 + j, none⟩ = (pcell L[i])[j]? := by
      intro j hj
      rw [cell_of_row wr g _ cur _ _ hgr, ← flatV_get pcell_len L i hi j hj, ← h8, List.getElem?_take_of_lt (by omega), Array.getElem?_toList]
    have c0 := hcell 0 (by omega)
    have c1 := hcell 1 (by omega)
    have c2 := hcell 2 (by omega)
    have c3 := hcell 3 (by omega)
    have c4 := hcell 4 (by omega)
    have c5 := hcell 5 (by omega)
    refine ⟨g, cap, A, m, cc, hv, by have := h.only.size; omega, ⟨?_, ?_, ?_, ?_, ?_, ?_⟩, hs, by rw [← hs]; exact hkr⟩
    · rw [Nat.add_zero] at c0; rw [c0]; simp [pcell]
    · rw [c1]; simp [pcell]
    · rw [c2]; simp [pcell]
    · rw [c3]; simp [pcell]
    · rw [c4]; simp [pcell]
    · rw [c5]; simp [pcell, hs]
theorem Worn.below {w5 wr w2 : World} {base : Nat} {v : Value} {L : List (Pol × Value)} {k : Nat} (h : Worn w5 wr base v L k) (hb : Below wr.heap.size wr w2) : Worn w5 w2 base v L k := ⟨h.row, h.each, h.far, h.only.below hb⟩
theorem Worn.next {w5 wr w2 : World} {base : Nat} {v : Value} {L : List (Pol × Value)} {k : Nat} (h : Worn w5 wr base v L k) (hk : k < L.length) {A : Option Addr} {m cc : Nat} (hs : L[k].2 = .slice A m cc) (hg : wr.grownBy w2 (Value.slice A m cc).ownBlock) : Worn w5 w2 base v L (k + 1) :=
  ⟨h.row, h.each, h.far, h.only.grown hg (fun b ⟨j, hj, hjk, e⟩ => ⟨j, hj, by omega, e⟩) (fun g e => ⟨k, hk, by omega, by rw [hs]; exact e⟩)⟩
theorem Worn.lowS {w5 wr : World} {base : Nat} {v : Value} {L : List (Pol × Value)} {k : Nat} (h : Worn w5 wr base v L k) : ∀ b, BlkOf L k b → base ≤ b ∧ b < w5.heap.size := by
  rintro b ⟨j, hj, _, e⟩
  exact (h.each _ (List.getElem_mem hj)).block b e
theorem plan_wf {l : List Tg} : ∀ p ∈ planL l, ∀ x ∈ p.tg, (Lit.int .i64 x).wf = true := by
  intro p hp x hx
  by_cases h : (chkAll l).1 = 0
  · have hi := plan_inv h
    obtain ⟨k, rfl, hk, _⟩ := (hi.each p hp).all x hx
    have := (tag_tab h).1
    exact wf_small (by omega) (by omega)
  · rw [plan_bad h] at hp; cases hp
theorem plan_tgs {l : List Tg} : (planL l).length ≤ 64 ∧ ∀ p ∈ planL l, p.tg.length ≤ 64 := by
  by_cases h : (chkAll l).1 = 0
  · have hi := plan_inv h
    have hl := (tag_tab h).1
    have hf := congrArg List.length hi.flat
    rw [List.length_map, ordT_len, List.length_flatMap] at hf
    have key : ∀ ps : List Pol, (∀ p ∈ ps, 1 ≤ p.tg.length) → ps.length ≤ (ps.map fun p => p.tg.length).sum ∧ ∀ p ∈ ps, p.tg.length ≤ (ps.map fun p => p.tg.length).sum := by
      intro ps
      induction ps with
      | nil => intro _; exact ⟨Nat.le_refl _, fun p hp => (by cases hp)⟩
      | cons q ps ih =>
        intro h1
        obtain ⟨i1, i2⟩ := ih (fun p hp => h1 p (List.mem_cons_of_mem _ hp))
        have := h1 q List.mem_cons_self
        simp only [List.map_cons, List.sum_cons, List.length_cons]
        refine ⟨by omega, fun p hp => ?_⟩
        rcases List.mem_cons.1 hp with rfl | hp
        · omega
        · have := i2 p hp; omega
    have hne : ∀ p ∈ planL l, 1 ≤ p.tg.length := fun p hp => by
      obtain ⟨k, e, _⟩ := (hi.each p hp).hd
      cases ht : p.tg with
      | nil => rw [ht] at e; cases e
      | cons a t => simp
    obtain ⟨k1, k2⟩ := key _ hne
    exact ⟨by omega, fun p hp => by have := k2 p hp; omega⟩
  · rw [plan_bad h]; exact ⟨Nat.zero_le _, fun p hp => (by cases hp)⟩

end Go.Proofs.Ytcmbdhmhkfhjfaa
namespace Go.Proofs.Ytcmbdhmhkfhjfaa
open Go.RowKit
set_option linter.unusedVariables false
set_option maxRecDepth 100000
attribute [local go_sem ↓] ldTag_fold stTag_fold bxTag_fold
attribute [local go_sem] bxTag_run

theorem Width9_t (t : Tg) (w : World) : Calls Try.prog 13 #[tgV t] w fun e w' => e = .returned (.int .i64 (widT t)) ∧ Below w.heap.size w w' := by
  obtain ⟨nm, un, ki, ad, ev, we, sg, sw, mu, di, aa, de, qu, ul, uh, la, lo, hi, hy⟩ := t
  exact Width9_any nm un ki ad ev we sg sw mu di aa de qu ul uh la lo hi hy w
/-- The head of a poll that stands behind another: it could not join. -/
theorem few_head {l : List Tg} {a b : Pol} (ha : PGood l a) (hb : PGood l b) (h : PFar l a b) :
    ∃ k : Nat, b.tg.head? = some (k : Int) ∧ k < l.length ∧ (a.un = b.un → a.ev = b.ev → a.ki = b.ki → b.ad ≤ a.ad + a.ct + 8 → ¬ b.ad + widT (tgAt l k) - a.ad ≤ mostK a.ki) := by
  obtain ⟨_, k, e, hk, hj⟩ := h
  obtain ⟨k', e', hk', t1, t2, t3, t4⟩ := hb.hd
  have : k = k' := by rw [e] at e'; injection e' with e'; omega
  subst this
  refine ⟨k, e, hk, fun h1 h2 h3 h4 h5 => ?_⟩
  have hy : joinB a (tgAt l k) = true := by
    refine decide_eq_true ⟨by omega, by omega, by omega, by omega, ?_⟩
    have hc := ha.ct
    rw [t3, ← h3]
    unfold cntJ
    split <;> omega
  rw [hj] at hy; cases hy
theorem key_cases {a b : Pol} (h : keyLe a b) (Q : Prop) (c1 : a.un < b.un → Q) (c2 : a.un = b.un → a.ev < b.ev → Q) (c3 : a.un = b.un → a.ev = b.ev → a.ki < b.ki → Q) (c4 : a.un = b.un → a.ev = b.ev → a.ki = b.ki → a.ad ≤ b.ad → Q) : Q := by
  rcases h with h | ⟨h, h2 | ⟨h2, h3 | ⟨h3, h4⟩⟩⟩
  · exact c1 h
  · exact c2 h h2
  · exact c3 h h2 h3
  · exact c4 h h2 h3 h4

theorem PlRow.get {w : World} {v : Value} {ps : List Pol} (h : PlRow w v ps) {i : Nat} {p : Pol} (hp : ps[i]? = some p) : ∃ g c A cc, v = .slice (some ⟨g, 0, none⟩) ps.length c ∧ g < w.heap.size ∧ (w.cell? ⟨g, i * 6, none⟩ = some (.int .i64 p.un) ∧ w.cell? ⟨g, i * 6 + 1, none⟩ = some (.int .i64 p.ki) ∧ w.cell? ⟨g, i * 6 + 2, none⟩ = some (.int .i64 p.ad) ∧ w.cell? ⟨g, i * 6 + 3, none⟩ = some (.int .i64 p.ct) ∧ w.cell? ⟨g, i * 6 + 4, none⟩ = some (.int .i64 p.ev) ∧ w.cell? ⟨g, i * 6 + 5, none⟩ = some (.slice A p.tg.length cc)) ∧ Row .i64 w w.heap.size A p.tg := by
  obtain ⟨hi, rfl⟩ := List.getElem?_eq_some_iff.1 hp
  exact h.2 i hi
set_option maxHeartbeats 8000000 in
theorem walk_PlanFew (A : Option Addr) (n c : Nat) (l : List Tg) (w : World) (hr : VRow w w.heap.size A (flatV tgC l)) (hn : l.length = n) (hnb : n ≤ 4611686018427387904) (hok : ∀ t ∈ l, Tg.Ok t) :
    Calls Try.prog 5 #[.slice A n c] w fun e w' => e = .returned (.bool true) ∧ Below w.heap.size w w' := by
  by_cases hbig : 4096 < n
  · have hb1 : (4096 : Int) < n := by omega
    go_enter Try.func5, Try.ntmps5
    go_wp2_with fail
    refine (works10_yes _).mono ?_
    rintro e w5 ⟨rfl, b5⟩
    go_wp2
    go_ret
    exact ⟨rfl, b5⟩
  have hb1 : ¬ (4096 : Int) < n := by omega
  have hn' := Lib.hid hn
  have HR := Lib.hid hr
  obtain ⟨P, hP⟩ : ∃ P, planL l = P := ⟨_, rfl⟩
  obtain ⟨hP1, hP2⟩ := plan_tgs (l := l)
  have HPL : Hid (Calls Try.prog 11 #[.slice A n c] w (GivesP w P (chkAll l).1)) := Lib.hid (by rw [← hP]; exact Plan10_any A n c l w hr hn hnb hok)
  have HNX : Hid (∀ i (h : i + 1 < P.length), PGood l P[i] ∧ PGood l P[i + 1] ∧ PFar l P[i] P[i + 1]) := Lib.hid (fun i h => by
    subst hP
    by_cases hc : (chkAll l).1 = 0
    · have hi := plan_inv hc
      exact ⟨hi.each _ (List.getElem_mem _), hi.each _ (List.getElem_mem _), hi.next i h⟩
    · have hl := congrArg List.length (plan_bad hc)
      simp at hl
      rw [hl] at h
      simp at h)
  have HPW := Lib.hid (plan_wf (l := l))
  rw [hP] at hP1 hP2 HPW
  have HP2 := Lib.hid hP2
  clear hr hn hP2 hP
  generalize (chkAll l).1 = E at *
  go_enter Try.func5, Try.ntmps5
  go_wp2_with fail
  refine HPL.out.mono ?_
  rintro e w1 ⟨v1, rfl, own1, b1⟩
  have PR := Lib.hid (own1.prow HPW.out)
  have BEL1 := Lib.hid b1
  obtain ⟨A1, c1, rfl, _⟩ := own1.len
  obtain ⟨np, hnp⟩ : ∃ np, P.length = np := ⟨_, rfl⟩
  have hnp' := Lib.hid hnp
  rw [hnp] at hP1 ⊢
  clear hnp own1 b1 HPL
  have PR2 : Hid (PlRow w1 (.slice A1 np c1) P) := Lib.hid (by rw [← hnp'.out]; exact PR.out)
  clear PR
  go_wp2
  go_loopw [5] (fun i wr => ∃ k : Nat, (k = 0 ∨ k + 1 ≤ np) ∧ i = .int .i64 ((k : Int) + 1) ∧ Hid (Below w1.heap.size w1 wr)) (fun i _ => np + 1 - (intOf i).toNat)
  case atStart => exact ⟨0, .inl rfl, rfl, Lib.hid (Below.refl _ _)⟩
  case round =>
    obtain ⟨k, hk, rfl, hbel⟩ := hrel
    by_cases hlt : k + 1 < np
    · have hkp : k + 1 < P.length := by have := hnp'.out; omega
      obtain ⟨a, b, hpa, hpb, hbm, hga, hgb, hfar⟩ : ∃ a b, P[k]? = some a ∧ P[k + 1]? = some b ∧ b ∈ P ∧ PGood l a ∧ PGood l b ∧ PFar l a b :=
        ⟨_, _, List.getElem?_eq_getElem (by omega), List.getElem?_eq_getElem hkp, List.getElem_mem hkp, HNX.out k hkp⟩
      have hkey := hfar.1
      obtain ⟨kk, hhd, hkl, hfew⟩ := few_head hga hgb hfar
      obtain ⟨g, cg, At, ca, e1, hg1, ha, hra⟩ := (PR2.out.below hbel.out).get hpa
      obtain ⟨g', cg', Bt, cb, e2, hg2, hb, hrb⟩ := (PR2.out.below hbel.out).get hpb
      injection e1 with i1 i2 i3
      injection e2 with j1 j2 j3
      rw [i1] at j1
      injection j1 with j1
      injection j1 with j1
      subst j1 i1 i3
      have hwx := HP2.out _ hbm
      have haA := hga.ad
      have haC := hga.ct
      have haK := hga.ki
      have hbA := hgb.ad
      have hbC := hgb.ct
      have hmK : mostK a.ki ≤ 2000 := by unfold mostK; split <;> omega
      clear hpa hpb hbm hfar hga i2 j2 j3
      obtain ⟨rest, htg⟩ : ∃ rest, b.tg = (kk : Int) :: rest := by
        cases h : b.tg with
        | nil => rw [h] at hhd; cases hhd
        | cons x r => rw [h] at hhd; injection hhd with hhd; exact ⟨r, by rw [hhd]⟩
      have htl : 1 ≤ b.tg.length := by rw [htg]; simp
      obtain ⟨bt, ot, rfl, hbt, hct⟩ := hrb.at_ (i := 0) (by omega)
      rw [htg] at hct
      simp only [Nat.add_zero, show nth ((kk : Int) :: rest) 0 = (kk : Int) from rfl] at hct
      have hkn : kk < n := by have := hn'.out; omega
      obtain ⟨tl, htlE⟩ : ∃ tl, b.tg.length = tl := ⟨_, rfl⟩
      rw [htlE] at htl hb hwx
      clear htlE
      have hwr1 : IntKind.i64.wrap ((k : Int) + 1 - 1) = (k : Int) := by rw [IntKind.wrap_i64]; omega
      have hwr2 : IntKind.i64.wrap ((k : Int) + 1 + 1) = (k : Int) + 1 + 1 := by rw [IntKind.wrap_i64]; omega
      have n1 : (k : Int) + 1 < (np : Int) := by omega
      have n2 : (0 : Int) ≤ (k : Int) + 1 := by omega
      have n3 : (k : Int) < (np : Int) := by omega
      have n4 : ((k : Int) + 1).toNat = k + 1 := by omega
      have n5 : (0 : Int) ≤ (k : Int) := by omega
      obtain ⟨bl, ol, hAl, hbl, hld0⟩ := (HR.out.below (BEL1.out.trans (hbel.out.mono BEL1.out.size))).five hkl
      subst hAl
      have HLD : Hid (∀ w9 : World, Below w.heap.size w w9 → (ldTag (.pointer (some ⟨bl, ol + kk * 19, none⟩))).run Try.prog w9 = .ok (tgV (tgAt l kk)) w9) := Lib.hid (fun w9 hb => by
        obtain ⟨b9, o9, e9, _, h9⟩ := (HR.out.below hb).five hkl
        injection e9 with e9
        injection e9 with e9 e9'
        subst e9 e9'
        exact h9)
      obtain ⟨a0, a1, a2, a3, a4, a5⟩ := ha
      have hb' : _ := hb
      obtain ⟨b0, b1, b2, b3, b4, b5⟩ := hb
      have bA := bel_alloc wr (.cells #[.int .i64 a.un, .int .i64 a.ki, .int .i64 a.ad, .int .i64 a.ct, .int .i64 a.ev, .slice At a.tg.length ca] 24)
      have b0 := cellB bA hg2 b0
      have b1 := cellB bA hg2 b1
      have b2 := cellB bA hg2 b2
      have b3 := cellB bA hg2 b3
      have b4 := cellB bA hg2 b4
      have b5 := cellB bA hg2 b5
      obtain ⟨w2, hw2⟩ : ∃ w2, w2 = (wr.alloc (.cells #[.int .i64 a.un, .int .i64 a.ki, .int .i64 a.ad, .int .i64 a.ct, .int .i64 a.ev, .slice At a.tg.length ca] 24)).alloc (.cells #[.int .i64 b.un, .int .i64 b.ki, .int .i64 b.ad, .int .i64 b.ct, .int .i64 b.ev, .slice (some ⟨bt, ot, none⟩) tl cb] 24) := ⟨_, rfl⟩
      have xa : w2.heap[wr.heap.size]? = some (.cells #[.int .i64 a.un, .int .i64 a.ki, .int .i64 a.ad, .int .i64 a.ct, .int .i64 a.ev, .slice At a.tg.length ca] 24) := by rw [hw2]; exact two_fst wr (.cells #[.int .i64 a.un, .int .i64 a.ki, .int .i64 a.ad, .int .i64 a.ct, .int .i64 a.ev, .slice At a.tg.length ca] 24) (.cells #[.int .i64 b.un, .int .i64 b.ki, .int .i64 b.ad, .int .i64 b.ct, .int .i64 b.ev, .slice (some ⟨bt, ot, none⟩) tl cb] 24)
      have xb : w2.heap[wr.heap.size + 1]? = some (.cells #[.int .i64 b.un, .int .i64 b.ki, .int .i64 b.ad, .int .i64 b.ct, .int .i64 b.ev, .slice (some ⟨bt, ot, none⟩) tl cb] 24) := by rw [hw2]; exact heap_alloc_two wr (.cells #[.int .i64 a.un, .int .i64 a.ki, .int .i64 a.ad, .int .i64 a.ct, .int .i64 a.ev, .slice At a.tg.length ca] 24) (.cells #[.int .i64 b.un, .int .i64 b.ki, .int .i64 b.ad, .int .i64 b.ct, .int .i64 b.ev, .slice (some ⟨bt, ot, none⟩) tl cb] 24)
      have bel2 : Below wr.heap.size wr w2 := by rw [hw2]; exact bA.alloc (by simp) (.cells #[.int .i64 b.un, .int .i64 b.ki, .int .i64 b.ad, .int .i64 b.ct, .int .i64 b.ev, .slice (some ⟨bt, ot, none⟩) tl cb] 24)
      have hct2 := cellB bel2 hbt hct
      have BEL2 := Lib.hid (hbel.out.trans (bel2.mono hbel.out.size))
      obtain ⟨p0, p1, p2, p3, p4, p5⟩ := of6 xa
      obtain ⟨q0, q1, q2, q3, q4, q5⟩ := of6 xb
      have hkn' : (kk : Int) < n := by omega
      have hkn0 : (0 : Int) ≤ kk := by omega
      have dkn : ¬ (kk : Int) ≥ n := by omega
      have dkz : ¬ (kk : Int) < 0 := by omega
      have htl1 : (0 : Int) < tl := by omega
      have htl0 : 0 < tl := by omega
      have htl2 : (tl == 0) = false := beq_false_of_ne (by omega)
      have htl3 : ((tl : Int) == 0) = false := beq_false_of_ne (by omega)
      have dk2 : decide (n ≤ kk) = false := decide_eq_false (by omega)
      have dk3 : decide ((n : Int) ≤ (kk : Int)) = false := decide_eq_false (by omega)
      have dk4 : decide ((kk : Int) < 0) = false := decide_eq_false (by omega)
      have HXA := Lib.hid xa
      have HXB := Lib.hid xb
      have HCT := Lib.hid hct2
      clear xa xb hb' bA hrb hra hld0 htg hct
      rw [hw2] at p0 p1 p2 p3 p4 p5 q0 q1 q2 q3 q4 q5 hct2
      have hw2' := Lib.hid hw2
      clear hw2
      refine key_cases hkey _ ?_ ?_ ?_ ?_
      · intro h1
        have f1 : ¬ b.un < a.un := by omega
        have f2 : (a.un == b.un) = false := beq_false_of_ne (by omega)
        have f3 : (a.un != b.un) = true := by simp; omega
        go_wp2
        rw [← hw2'.out]
        go_roundw
        case rel => exact ⟨k + 1, .inr (by omega), by go_num, BEL2⟩
        case measure => simp [intOf]; omega
      · intro h1 h2
        have f1 : ¬ b.un < a.un := by omega
        have f2 : (a.un == b.un) = true := by simp [h1]
        have f3 : (a.un != b.un) = false := by simp [h1]
        have f4 : ¬ b.ev < a.ev := by omega
        have f5 : (a.ev == b.ev) = false := beq_false_of_ne (by omega)
        have f6 : (a.ev != b.ev) = true := by simp; omega
        clear h1
        go_wp2
        rw [← hw2'.out]
        go_roundw
        case rel => exact ⟨k + 1, .inr (by omega), by go_num, BEL2⟩
        case measure => simp [intOf]; omega
      · intro h1 h2 h3
        have f1 : ¬ b.un < a.un := by omega
        have f2 : (a.un == b.un) = true := by simp [h1]
        have f3 : (a.un != b.un) = false := by simp [h1]
        have f4 : ¬ b.ev < a.ev := by omega
        have f5 : (a.ev == b.ev) = true := by simp [h2]
        have f6 : (a.ev != b.ev) = false := by simp [h2]
        have f7 : ¬ b.ki < a.ki := by omega
        have f8 : (a.ki == b.ki) = false := beq_false_of_ne (by omega)
        have f9 : (a.ki != b.ki) = true := by simp; omega
        clear h1 h2
        go_wp2
        rw [← hw2'.out]
        go_roundw
        case rel => exact ⟨k + 1, .inr (by omega), by go_num, BEL2⟩
        case measure => simp [intOf]; omega
      · intro h1 h2 h3 h4
        have f1 : ¬ b.un < a.un := by omega
        have f2 : (a.un == b.un) = true := by simp [h1]
        have f3 : (a.un != b.un) = false := by simp [h1]
        have f4 : ¬ b.ev < a.ev := by omega
        have f5 : (a.ev == b.ev) = true := by simp [h2]
        have f6 : (a.ev != b.ev) = false := by simp [h2]
        have f7 : ¬ b.ki < a.ki := by omega
        have f8 : (a.ki == b.ki) = true := by simp [h3]
        have f9 : (a.ki != b.ki) = false := by simp [h3]
        have f10 : ¬ b.ad < a.ad := by omega
        have hfew2 := hfew h1 h2 h3
        clear h1 h2 h3 hfew
        have hwd := widT_le (tgAt l kk)
        have hwrA : IntKind.i64.wrap (a.ad + a.ct) = a.ad + a.ct := by rw [IntKind.wrap_i64]; omega
        have hwrB : IntKind.i64.wrap (a.ad + a.ct + 8) = a.ad + a.ct + 8 := by rw [IntKind.wrap_i64]; omega
        have hwrC : IntKind.i64.wrap (b.ad + widT (tgAt l kk)) = b.ad + widT (tgAt l kk) := by rw [IntKind.wrap_i64]; omega
        have hwrD : IntKind.i64.wrap (b.ad + widT (tgAt l kk) - a.ad) = b.ad + widT (tgAt l kk) - a.ad := by rw [IntKind.wrap_i64]; omega
        obtain ⟨mo, hm⟩ : ∃ mo, mostK a.ki = mo := ⟨_, rfl⟩
        have hmo : ((a.ki == 1) = true ∧ mo = 2000) ∨ ((a.ki == 1) = false ∧ (a.ki == 2) = true ∧ mo = 2000) ∨ ((a.ki == 1) = false ∧ (a.ki == 2) = false ∧ mo = 125) := by
          rw [← hm]
          unfold mostK
          by_cases h1 : a.ki = 1
          · exact .inl ⟨by simp [h1], if_pos (.inl h1)⟩
          · by_cases h2 : a.ki = 2
            · exact .inr (.inl ⟨beq_false_of_ne h1, by simp [h2], if_pos (.inr h2)⟩)
            · exact .inr (.inr ⟨beq_false_of_ne h1, beq_false_of_ne h2, if_neg (by omega)⟩)
        rw [hm] at hfew2
        have HW : Hid (∀ W : World, Calls Try.prog 13 #[tgV (tgAt l kk)] W fun e w' => e = .returned (.int .i64 (widT (tgAt l kk))) ∧ Below W.heap.size W w') := Lib.hid fun W => Width9_t (tgAt l kk) W
        have HK0 : Hid (∀ w9 : World, Below w2.heap.size w2 w9 → (Below w2.heap.size w2 w9 ∧ (w9.cell? ⟨wr.heap.size, 2, none⟩ = some (.int .i64 a.ad) ∧ w9.cell? ⟨wr.heap.size, 3, none⟩ = some (.int .i64 a.ct)) ∧ (w9.cell? ⟨wr.heap.size + 1, 2, none⟩ = some (.int .i64 b.ad) ∧ w9.cell? ⟨wr.heap.size + 1, 5, none⟩ = some (.slice (some ⟨bt, ot, none⟩) tl cb)) ∧ w9.cell? ⟨bt, ot, none⟩ = some (.int .i64 (kk : Int)) ∧ (ldTag (.pointer (some ⟨bl, ol + kk * 19, none⟩))).run Try.prog w9 = .ok (tgV (tgAt l kk)) w9)) := Lib.hid fun w9 hw => ⟨hw, ⟨(of6 (keepB hw HXA.out)).2.2.1, (of6 (keepB hw HXA.out)).2.2.2.1⟩, ⟨(of6 (keepB hw HXB.out)).2.2.1, (of6 (keepB hw HXB.out)).2.2.2.2.2⟩, cellB hw (by have := BEL2.out.size; have := bel2.size; omega) HCT.out, HLD.out _ (BEL1.out.trans ((BEL2.out.trans (hw.mono BEL2.out.size)).mono BEL1.out.size))⟩
        by_cases hcd : b.ad ≤ a.ad + a.ct + 8
        case neg =>
          have dcd : decide (b.ad ≤ a.ad + a.ct + 8) = false := decide_eq_false hcd
          clear hcd hfew2
          rcases hmo with ⟨hk1, rfl⟩ | ⟨hk1, hk2, rfl⟩ | ⟨hk1, hk2, rfl⟩
          all_goals
            go_wp2
            rw [← hw2'.out] at p0 p1 p2 p3 p4 p5 q0 q1 q2 q3 q4 q5 hct2 ⊢
            go_quiet (fail)
            have BEL3 := Lib.hid (below_drewN BEL2.out nq)
            go_wp2
            go_roundw
            case rel => exact ⟨k + 1, .inr (by omega), by go_num, BEL3⟩
            case measure => simp [intOf]; omega
        have hno := hfew2 hcd
        generalize widT (tgAt l kk) = wd at *
        rcases hmo with ⟨hk1, rfl⟩ | ⟨hk1, hk2, rfl⟩ | ⟨hk1, hk2, rfl⟩
        all_goals
          go_wp2
          rw [← hw2'.out]
          clear p0 p1 p2 p3 p4 p5 q0 q1 q2 q3 q4 q5 hct2 a0 a1 a2 a3 a4 a5 b0 b1 b2 b3 b4 b5
          have belh : ∀ w9 : World, (Below w2.heap.size w2 w9 ∧ (w9.cell? ⟨wr.heap.size, 2, none⟩ = some (.int .i64 a.ad) ∧ w9.cell? ⟨wr.heap.size, 3, none⟩ = some (.int .i64 a.ct)) ∧ (w9.cell? ⟨wr.heap.size + 1, 2, none⟩ = some (.int .i64 b.ad) ∧ w9.cell? ⟨wr.heap.size + 1, 5, none⟩ = some (.slice (some ⟨bt, ot, none⟩) tl cb)) ∧ w9.cell? ⟨bt, ot, none⟩ = some (.int .i64 (kk : Int)) ∧ (ldTag (.pointer (some ⟨bl, ol + kk * 19, none⟩))).run Try.prog w9 = .ok (tgV (tgAt l kk)) w9) → Below w2.heap.size w2 w9 := fun w9 h => h.1
          go_region_held3 (fun w9 => Below w2.heap.size w2 w9 ∧ (w9.cell? ⟨wr.heap.size, 2, none⟩ = some (.int .i64 a.ad) ∧ w9.cell? ⟨wr.heap.size, 3, none⟩ = some (.int .i64 a.ct)) ∧ (w9.cell? ⟨wr.heap.size + 1, 2, none⟩ = some (.int .i64 b.ad) ∧ w9.cell? ⟨wr.heap.size + 1, 5, none⟩ = some (.slice (some ⟨bt, ot, none⟩) tl cb)) ∧ w9.cell? ⟨bt, ot, none⟩ = some (.int .i64 (kk : Int)) ∧ (ldTag (.pointer (some ⟨bl, ol + kk * 19, none⟩))).run Try.prog w9 = .ok (tgV (tgAt l kk)) w9)
            ((refine HK0.out _ ?_
              repeat' (first
                | with_reducible exact Below.refl _ _
                | with_reducible exact bel5
                | with_reducible exact belh _ (by assumption)
                | with_reducible apply below_drew
                | with_reducible apply below_drewN
                | fail)))
            (first
              | (go_at_call 13; have bh := belh _ (by assumption); refine (HW.out _).mono ?_; rintro e w5 ⟨rfl, b5⟩; have bel5 : Below w2.heap.size w2 w5 := Below.trans bh (b5.mono bh.size))
              | fail)
          have BEL3 := Lib.hid (BEL2.out.trans (bel5.mono BEL2.out.size))
          clear belh bel5
          go_wp2
          go_roundw
          case rel => exact ⟨k + 1, .inr (by omega), by go_num, BEL3⟩
          case measure => simp [intOf]; omega
    · have hlt' : ¬ (k : Int) + 1 < (np : Int) := by omega
      have BEL2 := Lib.hid (BEL1.out.trans (hbel.out.mono BEL1.out.size))
      go_wp2_with fail
      refine (works10_yes _).mono ?_
      rintro e w5 ⟨rfl, b5⟩
      go_wp2
      go_ret
      exact ⟨rfl, BEL2.out.trans (b5.mono BEL2.out.size)⟩
end Go.Proofs.Ytcmbdhmhkfhjfaa
namespace Go.Proofs.Ytcmbdhmhkfhjfaa.planFew
open Go.ChangeShapes Go.WideShapes Go.ChangeAt Go.RowKit
open Go.ChangeMaps (open_string shut_string)
set_option linter.unusedVariables false

theorem own : ownKnob Try.prog.godebug = none := by kernel_rfl
theorem laidOut : laidOutB Try.prog = true := by kernel_rfl

set_option maxRecDepth 100000 in
theorem lifted (os : Os) (started : os.Started) (H : Type) (enc : TypeId × Value → H) :
    ReturnsInHanded {} Try.checked os 5 .any (Rows.planFewSpec.pre6 enc Try.prog Try.f5 Rows.planFewRow.domain false) (Rows.planFewSpec.post enc Try.prog Try.f5 false true false false) := by
  refine returnsInHanded_of_change_sized (C := Try.checked) own started (by kernel_rfl) Try.func5
    (ChangeSpec.witness6 (enc := enc) (C := Try.checked) false ⟨#[], #[.slice none 0 0], []⟩ 8 (by kernel_rfl) (by kernel_rfl) (by kernel_rfl) (by kernel_rfl)) ?_
  intro W base args ds gs before hval0 hW hcnd hsz0 _
  have hsz : (DataW.weightsEach Try.prog (Try.f5.params.toList ++ Rows.planFewSpec.plain.varTypes Try.prog) (ds ++ gs)).all (· ≤ reachBytes) = true := hsz0
  clear hsz0
  have hval : ∀ (j : Nat) t v, Try.f5.params[j]? = some t → args[j]? = some v → Value.okWide Try.prog W .any base t v := hval0
  have hW' := hW
  obtain ⟨p, q, hA0, hV, rfl, hfz, hnd⟩ := hW
  have hA : DataW.TrodAll enc Try.prog W 0 (fun _ => true) true Try.f5.params.toList args.toList ds p := hA0
  rw [Try.params5] at hA hval hsz
  obtain ⟨v0, vs0, d0, ds0, p0, q0, hargs, rfl, rfl, h0, r0⟩ := trodAll_cons hA
  obtain ⟨rfl, rfl, rfl⟩ := trodAll_nil r0
  obtain rfl : args = #[v0] := by cases args; simp_all
  obtain ⟨rfl, rfl⟩ := trodVars_none hV
  obtain ⟨a0, l0, c0, rfl⟩ := okWide_slice Try.underlying36 (hval 0 36 v0 rfl rfl)
  have k0 := h0
  have lt0 : ∀ x ∈ p0, x.block < W.heap.size := by obtain ⟨m, hm⟩ := k0; exact DataW.trod_lt m _ _ _ hm
  obtain ⟨x0, w0, n0, o0, s0, r0d⟩ := tags_in h0 lt0
  have m0 := reach_tags hsz 0 rfl rfl r0d
  clear hA0 hval0
  refine (walk_PlanFew a0 l0 c0 x0 W w0 n0 (by omega) o0).mono fun e W' ⟨he, bel⟩ => ?_
  subst he
  exact ⟨_, rfl, _, _, _, [], _, [], hW', trodAll_mk1 (shut_bool Try.underlying4 _), (trodAll_cons_mk (Below.trod laidOut (by kernel_rfl) (of_decide_eq_true (by kernel_rfl)) k0 bel lt0) trodAll_mk0), rfl, bel.frame _, fun h => by cases h⟩

theorem over : Rows.planFewRow.holds Try.pinned (OpenSpec.ofChange Rows.planFewSpec) :=
  OpenClaim.holds_of_wide 5 Try.f5 rfl rfl rfl rfl rfl rfl rfl ⟨rfl, rfl, rfl, rfl, rfl⟩ rfl rfl rfl rfl rfl (by kernel_rfl) Try.func5 (by kernel_rfl)
    (of_decide_eq_true (by kernel_rfl)) (by unfold Func.isWrapper; first | (rw [if_pos (by decide +kernel)]; kernel_rfl) | (rw [if_neg (by decide +kernel)]; exact ⟨rfl, rfl⟩))
    (fun os started H enc _ => lifted os started H enc)

theorem proved : Rows.PlanFewSaid := over
#print axioms proved
end Go.Proofs.Ytcmbdhmhkfhjfaa.planFew
