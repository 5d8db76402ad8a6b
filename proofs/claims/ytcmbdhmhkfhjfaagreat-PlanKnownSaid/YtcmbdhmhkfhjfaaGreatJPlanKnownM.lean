/-
  Texts of the proof of PlanKnown, joined.
-/
import Derived.Test.YtcmbdhmhkfhjfaaGreatJPlanKnownL
import Derived.Test.YtcmbdhmhkfhjfaaGreatJPlanKnownI
import Derived.BigQuiet
import Derived.Test.YtcmbdhmhkfhjfaaGreatJPlanKnownH
namespace Go.Proofs.YtcmbdhmhkfhjfaaGreat.I
open Go.RowKit
set_option linter.unusedVariables false
theorem spoilO_at (p l r : List Int) (k : Nat) (hk : k < l.length) : nth (p ++ spoilI k l ++ r) (p.length + k) = nth l k := by
  rw [nth_left _ _ _ (by rw [List.length_append, spoilI_length]; omega), nth_right, spoilI_at k l hk]
theorem spoilO_set (p l r : List Int) (k : Nat) (hk : k < l.length) : (p ++ spoilI k l ++ r).set (p.length + k) (bits .xor .i64 (nth l k) 77) = p ++ spoilI (k + 1) l ++ r := by
  rw [List.set_append_left _ _ (by rw [List.length_append, spoilI_length]; omega), List.set_append_right _ _ (by omega), Nat.add_sub_cancel_left, spoilI_set k l hk]

theorem Row.inside {k : IntKind} {w : World} {g : Nat} {t : TypeId} {fr : Nat × Nat} {p l r : List Int} (hg : w.heap[g]? = some (.cells (blk k (p ++ l ++ r)) t fr)) (xs : List Int) (hw : ∀ x ∈ xs, (Lit.int k x).wf = true) (hp : xs <+: l) :
    Row k w (g + 1) (some ⟨g, p.length, none⟩) xs := by
  obtain ⟨ys, rfl⟩ := hp
  refine ⟨hw, fun _ => ⟨_, _, rfl, Nat.lt_succ_self _, fun i hi => ?_⟩⟩
  rw [cell_of_row w g _ _ _ _ hg, blk_get _ _ _ (by simp; omega), nth_left _ _ _ (by simp; omega), nth_right, nth_left _ _ _ hi]
structure PartsO (w : World) (B gl m : Nat) (A : Nat → Option Addr) (n c : Nat → Nat) (p l r : Nat → List Int) : Prop where
  at_ : ∀ k, k < m → w.cell? ⟨gl, k, none⟩ = some (.slice (A k) (n k) (c k))
  size : ∀ k, k < m → n k ≤ c k ∧ c k ≤ 17592186044416 ∧ (l k).length = c k
  wf : ∀ k, k < m → ∀ x ∈ l k, (Lit.int .i64 x).wf = true
  lies : ∀ k, k < m → (A k = none ∧ n k = 0 ∧ c k = 0) ∨ ∃ g, A k = some ⟨g, (p k).length, none⟩ ∧ B ≤ g ∧ g ≠ gl ∧ w.heap[g]? = some (.cells (blk .i64 (p k ++ l k ++ r k)) 3 (0, 0))
  apart : ∀ i k, i < m → k < m → i ≠ k → ∀ g o q, A i = some ⟨g, o, none⟩ → A k ≠ some ⟨g, q, none⟩
  gl_lt : gl < w.heap.size

theorem PartsO.row {w : World} {B gl m : Nat} {A : Nat → Option Addr} {n c : Nat → Nat} {p l r : Nat → List Int} (h : PartsO w B gl m A n c p l r) {k : Nat} (hk : k < m) :
    Row .i64 w w.heap.size (A k) ((l k).take (n k)) ∧ ((l k).take (n k)).length = n k := by
  have hs := h.size k hk
  refine ⟨?_, by simp; omega⟩
  rcases h.lies k hk with ⟨ha, hn, hc⟩ | ⟨g, ha, _, _, hg⟩
  · rw [hn, List.take_zero]; exact Row.nil _ _ _ _
  · rw [ha]
    exact (Row.inside hg _ (fun x hx => h.wf k hk x (List.mem_of_mem_take hx)) (List.take_prefix _ _)).more (block_lt hg)
theorem PartsO.below {w w' : World} {B gl m : Nat} {A : Nat → Option Addr} {n c : Nat → Nat} {p l r : Nat → List Int} (h : PartsO w B gl m A n c p l r) (hb : Below w.heap.size w w') : PartsO w' B gl m A n c p l r where
  at_ := fun k hk => (hb.cell (p := ⟨gl, k, none⟩) h.gl_lt).trans (h.at_ k hk)
  size := h.size
  wf := h.wf
  lies := fun k hk => by
    rcases h.lies k hk with h0 | ⟨g, ha, hB, hne, hg⟩
    · exact .inl h0
    · exact .inr ⟨g, ha, hB, hne, (hb.block g (block_lt hg)).trans hg⟩
  apart := h.apart
  gl_lt := Nat.lt_of_lt_of_le h.gl_lt hb.size
theorem PartsO.spoil {w w' : World} {B gl m : Nat} {A : Nat → Option Addr} {n c : Nat → Nat} {p l r : Nat → List Int} (h : PartsO w B gl m A n c p l r) {i g : Nat} (hi : i < m) (ha : A i = some ⟨g, (p i).length, none⟩)
    (hg : w'.heap[g]? = some (.cells (blk .i64 (p i ++ spoilI (c i) (l i) ++ r i)) 3 (0, 0))) (hgr : w.grownBy w' (some g)) : PartsO w' B gl m A n c p (fun k => if k = i then spoilI (c i) (l i) else l k) r where
  at_ := fun k hk => by
    rcases h.lies i hi with ⟨h0, _⟩ | ⟨g', ha', _, hne, _⟩
    · rw [ha] at h0; cases h0
    · rw [ha] at ha'
      injection ha' with ha'
      injection ha' with ha'
      subst ha'
      exact (World.cell?_of_block (hgr.block gl h.gl_lt (fun e => hne (by injection e with e; exact e.symm)))).trans (h.at_ k hk)
  size := fun k hk => by
    have := h.size k hk
    refine ⟨this.1, this.2.1, ?_⟩
    split
    · rename_i e; subst e; rw [spoilI_length]; exact this.2.2
    · exact this.2.2
  wf := fun k hk => by
    show ∀ x ∈ (if k = i then spoilI (c i) (l i) else l k), _
    split
    · exact spoilI_wf _ _ (h.wf i hi)
    · exact h.wf k hk
  lies := fun k hk => by
    by_cases e : k = i
    · subst e
      rcases h.lies k hi with ⟨h0, _⟩ | ⟨g', ha', hB, hne, _⟩
      · rw [ha] at h0; cases h0
      · rw [ha] at ha'
        injection ha' with ha'
        injection ha' with ha'
        subst ha'
        exact .inr ⟨g, ha, hB, hne, by rw [if_pos rfl]; exact hg⟩
    · rcases h.lies k hk with h0 | ⟨g', ha', hB, hne, hg'⟩
      · exact .inl h0
      · refine .inr ⟨g', ha', hB, hne, ?_⟩
        rw [if_neg e, hgr.block g' (block_lt hg') (fun e' => ?_)]
        · exact hg'
        · injection e' with e'
          subst e'
          exact h.apart k i hk hi e _ _ _ ha' ha
  apart := h.apart
  gl_lt := Nat.lt_of_lt_of_le h.gl_lt hgr.size

structure EntO where
  a : Option Nat
  p : List Int
  n : Nat
  c : Nat
  l : List Int
  r : List Int
def EntO.none_ : EntO := ⟨none, [], 0, 0, [], []⟩
def EntO.adr (e : EntO) : Option Addr := e.a.map fun g => ⟨g, e.p.length, none⟩
def EntO.val (e : EntO) : Value := .slice e.adr e.n e.c
structure EntO.Ok (w : World) (B : Nat) (e : EntO) : Prop where
  size : e.n ≤ e.c ∧ e.c ≤ 17592186044416 ∧ e.l.length = e.c
  wf : ∀ x ∈ e.l, (Lit.int .i64 x).wf = true
  lies : (e.a = none ∧ e.n = 0 ∧ e.c = 0) ∨ ∃ g, e.a = some g ∧ B ≤ g ∧ w.heap[g]? = some (.cells (blk .i64 (e.p ++ e.l ++ e.r)) 3 (0, 0))
def EntO.Far (e e' : EntO) : Prop := ∀ g, e.a = some g → e'.a ≠ some g
theorem EntO.adr_some {e : EntO} {g o : Nat} (h : e.adr = some ⟨g, o, none⟩) : e.a = some g := by
  unfold EntO.adr at h
  cases ha : e.a with
  | none => rw [ha] at h; cases h
  | some q => rw [ha] at h; simp at h; rw [h.1]

end Go.Proofs.YtcmbdhmhkfhjfaaGreat.I
namespace Go.Proofs.YtcmbdhmhkfhjfaaGreat.I
open Go.RowKit
set_option linter.unusedVariables false
set_option maxHeartbeats 400000 in
theorem spoilK_i64 (g o n c : Nat) (p l r : List Int) (w : World) (hg : w.heap[g]? = some (.cells (blk .i64 (p ++ l ++ r)) 3 (0, 0))) (hp : p.length = o) (hl : l.length = c) (hn : n ≤ c) (hc : c ≤ 9223372036854775807) :
    Calls Tryz.prog 34 #[.slice (some ⟨g, o, none⟩) n c] w fun e w' => e = .returned (.tuple #[]) ∧ w'.heap[g]? = some (.cells (blk .i64 (p ++ spoilI c l ++ r)) 3 (0, 0)) ∧ w.grownBy w' (some g) ∧ w'.heap.size = w.heap.size := by
  have hl' := Lib.hid hl
  have hp' := Lib.hid hp
  clear hl hp
  go_enter Tryz.func34, Tryz.ntmps34
  go_wp2
  go_loopw [3] (fun i wr => ∃ k : Nat, k ≤ c ∧ i = .int .i64 k ∧ Hid (wr.heap[g]? = some (.cells (blk .i64 (p ++ spoilI k l ++ r)) 3 (0, 0))) ∧ w.grownBy wr (some g) ∧ Hid (wr.heap.size = w.heap.size)) (fun i _ => c - (intOf i).toNat)
  case atStart => exact ⟨0, by omega, rfl, Lib.hid (by rw [spoilI_zero]; exact hg), World.grownBy.refl _ _, Lib.hid rfl⟩
  case round =>
    obtain ⟨k, hk, rfl, hb, hgr, hsz⟩ := hrel
    by_cases hlt : k < c
    · have hc1 : wr.cell? ⟨g, o + k, none⟩ = some (.int .i64 (nth l k)) := by
        rw [cell_of_row wr g (o + k) _ _ _ hb.out, blk_get _ _ _ (by rw [List.length_append, List.length_append, spoilI_length, hl'.out, hp'.out]; omega), ← hp'.out, spoilO_at p l r k (by have := hl'.out; omega)]
      have hfz := block_frozen wr g (o + k) _ _ hb.out
      have hnew := Lib.hid (block_setCell wr g (o + k) .i64 3 _ (bits .xor .i64 (nth l k) 77) hb.out)
      rw [show (p ++ spoilI k l ++ r).set (o + k) (bits .xor .i64 (nth l k) 77) = p ++ spoilI (k + 1) l ++ r by rw [← hp'.out]; exact spoilO_set p l r k (by have := hl'.out; omega)] at hnew
      have hgr2 := grown_setCell hgr (o + k) (.int .i64 (bits .xor .i64 (nth l k) 77))
      have hsz2 : Hid ((wr.setCell ⟨g, o + k, none⟩ (.int .i64 (bits .xor .i64 (nth l k) 77))).heap.size = w.heap.size) := by
        show _ = _
        rw [← hsz.out]; simp [World.setCell]
      go_wp2
      go_roundw
      case rel => exact ⟨k + 1, by omega, by go_num, hnew, hgr2, hsz2⟩
      case measure => simp [intOf]; omega
    · obtain rfl : k = c := by omega
      go_wp2
      go_end0
      exact ⟨rfl, hb.out, hgr, hsz.out⟩
structure PartsK (w : World) (B gl m : Nat) (A : Nat → Option Addr) (n c : Nat → Nat) (p l r : Nat → List Int) : Prop where
  at_ : ∀ k, k < m → w.cell? ⟨gl, k, none⟩ = some (.slice (A k) (n k) (c k))
  size : ∀ k, k < m → n k ≤ c k ∧ (c k ≤ 9223372036854775807 ∧ n k ≤ 17592186044416) ∧ (l k).length = c k
  wf : ∀ k, k < m → ∀ x ∈ l k, (Lit.int .i64 x).wf = true
  lies : ∀ k, k < m → (A k = none ∧ n k = 0 ∧ c k = 0) ∨ ∃ g, A k = some ⟨g, (p k).length, none⟩ ∧ B ≤ g ∧ g ≠ gl ∧ w.heap[g]? = some (.cells (blk .i64 (p k ++ l k ++ r k)) 3 (0, 0))
  apart : ∀ i k, i < m → k < m → i ≠ k → ∀ g o q, A i = some ⟨g, o, none⟩ → A k ≠ some ⟨g, q, none⟩
  gl_lt : gl < w.heap.size

theorem PartsK.row {w : World} {B gl m : Nat} {A : Nat → Option Addr} {n c : Nat → Nat} {p l r : Nat → List Int} (h : PartsK w B gl m A n c p l r) {k : Nat} (hk : k < m) :
    Row .i64 w w.heap.size (A k) ((l k).take (n k)) ∧ ((l k).take (n k)).length = n k := by
  have hs := h.size k hk
  refine ⟨?_, by simp; omega⟩
  rcases h.lies k hk with ⟨ha, hn, hc⟩ | ⟨g, ha, _, _, hg⟩
  · rw [hn, List.take_zero]; exact Row.nil _ _ _ _
  · rw [ha]
    exact (Row.inside hg _ (fun x hx => h.wf k hk x (List.mem_of_mem_take hx)) (List.take_prefix _ _)).more (block_lt hg)
theorem PartsK.below {w w' : World} {B gl m : Nat} {A : Nat → Option Addr} {n c : Nat → Nat} {p l r : Nat → List Int} (h : PartsK w B gl m A n c p l r) (hb : Below w.heap.size w w') : PartsK w' B gl m A n c p l r where
  at_ := fun k hk => (hb.cell (p := ⟨gl, k, none⟩) h.gl_lt).trans (h.at_ k hk)
  size := h.size
  wf := h.wf
  lies := fun k hk => by
    rcases h.lies k hk with h0 | ⟨g, ha, hB, hne, hg⟩
    · exact .inl h0
    · exact .inr ⟨g, ha, hB, hne, (hb.block g (block_lt hg)).trans hg⟩
  apart := h.apart
  gl_lt := Nat.lt_of_lt_of_le h.gl_lt hb.size
theorem PartsK.spoil {w w' : World} {B gl m : Nat} {A : Nat → Option Addr} {n c : Nat → Nat} {p l r : Nat → List Int} (h : PartsK w B gl m A n c p l r) {i g : Nat} (hi : i < m) (ha : A i = some ⟨g, (p i).length, none⟩)
    (hg : w'.heap[g]? = some (.cells (blk .i64 (p i ++ spoilI (c i) (l i) ++ r i)) 3 (0, 0))) (hgr : w.grownBy w' (some g)) : PartsK w' B gl m A n c p (fun k => if k = i then spoilI (c i) (l i) else l k) r where
  at_ := fun k hk => by
    rcases h.lies i hi with ⟨h0, _⟩ | ⟨g', ha', _, hne, _⟩
    · rw [ha] at h0; cases h0
    · rw [ha] at ha'
      injection ha' with ha'
      injection ha' with ha'
      subst ha'
      exact (World.cell?_of_block (hgr.block gl h.gl_lt (fun e => hne (by injection e with e; exact e.symm)))).trans (h.at_ k hk)
  size := fun k hk => by
    have := h.size k hk
    refine ⟨this.1, this.2.1, ?_⟩
    split
    · rename_i e; subst e; rw [spoilI_length]; exact this.2.2
    · exact this.2.2
  wf := fun k hk => by
    show ∀ x ∈ (if k = i then spoilI (c i) (l i) else l k), _
    split
    · exact spoilI_wf _ _ (h.wf i hi)
    · exact h.wf k hk
  lies := fun k hk => by
    by_cases e : k = i
    · subst e
      rcases h.lies k hi with ⟨h0, _⟩ | ⟨g', ha', hB, hne, _⟩
      · rw [ha] at h0; cases h0
      · rw [ha] at ha'
        injection ha' with ha'
        injection ha' with ha'
        subst ha'
        exact .inr ⟨g, ha, hB, hne, by rw [if_pos rfl]; exact hg⟩
    · rcases h.lies k hk with h0 | ⟨g', ha', hB, hne, hg'⟩
      · exact .inl h0
      · refine .inr ⟨g', ha', hB, hne, ?_⟩
        rw [if_neg e, hgr.block g' (block_lt hg') (fun e' => ?_)]
        · exact hg'
        · injection e' with e'
          subst e'
          exact h.apart k i hk hi e _ _ _ ha' ha
  apart := h.apart
  gl_lt := Nat.lt_of_lt_of_le h.gl_lt hgr.size

structure EntK where
  a : Option Nat
  p : List Int
  n : Nat
  c : Nat
  l : List Int
  r : List Int
def EntK.none_ : EntK := ⟨none, [], 0, 0, [], []⟩
def EntK.adr (e : EntK) : Option Addr := e.a.map fun g => ⟨g, e.p.length, none⟩
def EntK.val (e : EntK) : Value := .slice e.adr e.n e.c
structure EntK.Ok (w : World) (B : Nat) (e : EntK) : Prop where
  size : e.n ≤ e.c ∧ (e.c ≤ 9223372036854775807 ∧ e.n ≤ 17592186044416) ∧ e.l.length = e.c
  wf : ∀ x ∈ e.l, (Lit.int .i64 x).wf = true
  lies : (e.a = none ∧ e.n = 0 ∧ e.c = 0) ∨ ∃ g, e.a = some g ∧ B ≤ g ∧ w.heap[g]? = some (.cells (blk .i64 (e.p ++ e.l ++ e.r)) 3 (0, 0))
def EntK.Far (e e' : EntK) : Prop := ∀ g, e.a = some g → e'.a ≠ some g
theorem EntK.adr_some {e : EntK} {g o : Nat} (h : e.adr = some ⟨g, o, none⟩) : e.a = some g := by
  unfold EntK.adr at h
  cases ha : e.a with
  | none => rw [ha] at h; cases h
  | some q => rw [ha] at h; simp at h; rw [h.1]

theorem partsK_of_list (w : World) (B : Nat) (L : List EntK) (t : TypeId) (hok : ∀ e ∈ L, e.Ok w B) (hfar : L.Pairwise EntK.Far) :
    PartsK (w.alloc (.cells (L.map EntK.val).toArray t)) B w.heap.size L.length (fun k => (L.getD k EntK.none_).adr) (fun k => (L.getD k EntK.none_).n) (fun k => (L.getD k EntK.none_).c) (fun k => (L.getD k EntK.none_).p) (fun k => (L.getD k EntK.none_).l) (fun k => (L.getD k EntK.none_).r) where
  at_ := fun k hk => by
    rw [World.cell?_alloc_at _ _ _ _ rfl]
    simp [List.getElem?_eq_getElem hk, List.getD_eq_getElem?_getD, EntK.val]
  size := fun k hk => by
    simp only [List.getD_eq_getElem?_getD, List.getElem?_eq_getElem hk, Option.getD_some]
    exact (hok _ (List.getElem_mem hk)).size
  wf := fun k hk => by
    simp only [List.getD_eq_getElem?_getD, List.getElem?_eq_getElem hk, Option.getD_some]
    exact (hok _ (List.getElem_mem hk)).wf
  lies := fun k hk => by
    simp only [List.getD_eq_getElem?_getD, List.getElem?_eq_getElem hk, Option.getD_some]
    rcases (hok _ (List.getElem_mem hk)).lies with ⟨h1, h2⟩ | ⟨g, h1, h2, h3⟩
    · exact .inl ⟨by rw [EntK.adr, h1]; rfl, h2⟩
    · have := block_lt h3
      exact .inr ⟨g, by rw [EntK.adr, h1]; rfl, h2, by omega, (Below.heap_alloc w _ g this).trans h3⟩
  apart := fun i k hi hk hne g o q h1 h2 => by
    simp only [List.getD_eq_getElem?_getD, List.getElem?_eq_getElem hi, List.getElem?_eq_getElem hk, Option.getD_some] at h1 h2
    have h1 := EntK.adr_some h1
    have h2 := EntK.adr_some h2
    rcases Nat.lt_or_gt_of_ne hne with h | h
    · exact List.pairwise_iff_getElem.1 hfar i k hi hk h g h1 h2
    · exact List.pairwise_iff_getElem.1 hfar k i hk hi h g h2 h1
  gl_lt := by simp

end Go.Proofs.YtcmbdhmhkfhjfaaGreat.I
namespace Go.Proofs.YtcmbdhmhkfhjfaaGreat
open Go.RowKit
set_option linter.unusedVariables false

theorem spoil_kownI (v : Value) (base : Nat) (xs : List Int) (w : World) (h : KOwn .i64 3 w base v xs) :
    Calls Tryz.prog 34 #[v] w fun e w' => e = .returned (.tuple #[]) ∧ w.grownBy w' v.ownBlock ∧ w'.heap.size = w.heap.size := by
  rcases h with ⟨rfl, rfl⟩ | ⟨g, n, cap, r, rfl, h2, h3, h4, h5, h6, h7, h8⟩
  · exact (I.spoil_nil w).mono fun e w' ⟨he, hw⟩ => by subst hw; exact ⟨he, World.grownBy.refl _ _, rfl⟩
  · simp only [maxLen] at h6
    exact (I.spoilK_i64 g 0 n cap [] (xs ++ r) [] w (by rw [List.nil_append, List.append_nil]; exact h4) rfl (by rw [List.length_append]; exact h7) h5 h6).mono fun e w' ⟨he, _, hg, hz⟩ => ⟨he, hg, hz⟩
theorem KOwn.entKI {w : World} {base B : Nat} {v : Value} {xs : List Int} (h : KOwn .i64 3 w base v xs) (hw : ∀ x ∈ xs, (Lit.int .i64 x).wf = true) (hm : xs.length ≤ 17592186044416) (hB : B ≤ base) :
    ∃ E : I.EntK, E.val = v ∧ E.Ok w B ∧ ∀ g, E.a = some g → base ≤ g ∧ v.ownBlock = some g := by
  rcases h with ⟨rfl, rfl⟩ | ⟨g, n, cap, r, rfl, h2, h3, h4, h5, h6, h7, h8⟩
  · exact ⟨⟨none, [], 0, 0, [], []⟩, rfl, ⟨⟨Nat.le_refl _, ⟨by show 0 ≤ _; omega, by show 0 ≤ _; omega⟩, rfl⟩, by simp, .inl ⟨rfl, rfl, rfl⟩⟩, fun g h => by cases h⟩
  · simp only [maxLen] at h6
    refine ⟨⟨some g, [], n, cap, xs ++ r, []⟩, rfl, ⟨⟨h5, ⟨h6, by show n ≤ _; omega⟩, by show (xs ++ r).length = cap; rw [List.length_append]; exact h7⟩, wf_append hw h8, .inr ⟨g, rfl, by omega, by rw [List.append_nil, List.nil_append]; exact h4⟩⟩, fun g' e => ?_⟩
    have e : some g = some g' := e
    injection e with e
    subst e
    exact ⟨h2, rfl⟩
structure Only (w w' : World) (S : Nat → Prop) : Prop where
  os : w'.os = w.os
  tape : w'.tape = w.tape
  output : w'.output = w.output
  size : w.heap.size ≤ w'.heap.size
  block : ∀ b, b < w.heap.size → ¬ S b → w'.heap[b]? = w.heap[b]?
theorem Only.refl (w : World) (S : Nat → Prop) : Only w w S := ⟨rfl, rfl, rfl, Nat.le_refl _, fun _ _ _ => rfl⟩
theorem Only.below {w w' w2 : World} {S : Nat → Prop} (h : Only w w' S) (hb : Below w'.heap.size w' w2) : Only w w2 S :=
  ⟨hb.os.trans h.os, hb.tape.trans h.tape, hb.output.trans h.output, Nat.le_trans h.size hb.size, fun b hlt hS => (hb.block b (Nat.lt_of_lt_of_le hlt h.size)).trans (h.block b hlt hS)⟩
theorem Only.grown {w w' w2 : World} {S T : Nat → Prop} {v : Option Nat} (h : Only w w' S) (hg : w'.grownBy w2 v) (hST : ∀ b, S b → T b) (hv : ∀ g, v = some g → T g) : Only w w2 T :=
  ⟨hg.os.trans h.os, hg.tape.trans h.tape, hg.output.trans h.output, Nat.le_trans h.size hg.size, fun b hlt hT => (hg.block b (Nat.lt_of_lt_of_le hlt h.size) (fun e => hT (hv b e.symm))).trans (h.block b hlt (fun hs => hT (hST b hs)))⟩
theorem Only.bel {w w' : World} {S : Nat → Prop} {B : Nat} (h : Only w w' S) (hB : B ≤ w.heap.size) (hS : ∀ b, S b → B ≤ b) : Below B w w' :=
  ⟨h.os, h.tape, h.output, h.size, fun b hb => h.block b (by omega) (fun hs => by have := hS b hs; omega)⟩
theorem Only.kown {k : IntKind} {e : TypeId} {w w' : World} {S : Nat → Prop} {base : Nat} {v : Value} {xs : List Int} (h : Only w w' S) (hk : KOwn k e w base v xs) (hS : ∀ g, v.ownBlock = some g → ¬ S g) : KOwn k e w' base v xs := by
  rcases hk with h0 | ⟨g, n, cap, r, rfl, h2, h3, h4, h5⟩
  · exact .inl h0
  · exact .inr ⟨g, n, cap, r, rfl, h2, h3, (h.block g (block_lt h4) (hS g rfl)).trans h4, h5⟩
end Go.Proofs.YtcmbdhmhkfhjfaaGreat
namespace Go.Proofs.YtcmbdhmhkfhjfaaGreat
open Go.RowKit
set_option linter.unusedVariables false
set_option maxRecDepth 100000

theorem PlOwn.only {w w' : World} {S : Nat → Prop} {base : Nat} {v : Value} {ps : List Pol} (hp : PlOwn w base v ps) (h : Only w w' S) (hS : ∀ b, S b → b < base) : PlOwn w' base v ps := by
  obtain ⟨L, h1, h2, h3, h4⟩ := hp
  refine ⟨L, h1, ⟨h2.1, ?_⟩, fun p hp => h.kown (h3 p hp) (fun g e hs => by have := (h3 p hp).block g e; have := hS g hs; omega), h4⟩
  rcases h2.2 with h0 | ⟨g, cap, cur, hv, hb, hg, r⟩
  · exact .inl h0
  · exact .inr ⟨g, cap, cur, hv, hb, (h.block g (block_lt hg) (fun hs => by have := hS g hs; omega)).trans hg, r⟩
def BlkOf (L : List (Pol × Value)) (k b : Nat) : Prop := ∃ j, ∃ h : j < L.length, j < k ∧ L[j].2.ownBlock = some b
structure Worn (w5 wr : World) (base : Nat) (v : Value) (L : List (Pol × Value)) (k : Nat) : Prop where
  row : w5.ownsRow base 25 6 v L.length (flatV pcell L)
  each : ∀ p ∈ L, KOwn .i64 3 w5 base p.2 p.1.tg
  far : L.Pairwise (fun a b => FarV a.2 b.2)
  only : Only w5 wr (BlkOf L k)
theorem Worn.at_ {w5 wr : World} {base : Nat} {v : Value} {L : List (Pol × Value)} {k i : Nat} (h : Worn w5 wr base v L k) (hk : k ≤ i) (hi : i < L.length) :
    ∃ g c A m cc, v = .slice (some ⟨g, 0, none⟩) L.length c ∧ g < wr.heap.size ∧ (wr.cell? ⟨g, i * 6, none⟩ = some (.int .i64 L[i].1.un) ∧ wr.cell? ⟨g, i * 6 + 1, none⟩ = some (.int .i64 L[i].1.ki) ∧ wr.cell? ⟨g, i * 6 + 2, none⟩ = some (.int .i64 L[i].1.ad) ∧ wr.cell? ⟨g, i * 6 + 3, none⟩ = some (.int .i64 L[i].1.ct) ∧ wr.cell? ⟨g, i * 6 + 4, none⟩ = some (.int .i64 L[i].1.ev) ∧ wr.cell? ⟨g, i * 6 + 5, none⟩ = some (.slice A m cc)) ∧ L[i].2 = .slice A m cc ∧ KOwn .i64 3 wr base (.slice A m cc) L[i].1.tg := by
  have hkw := h.each _ (List.getElem_mem hi)
  have hkr : KOwn .i64 3 wr base L[i].2 L[i].1.tg := h.only.kown hkw (fun g e hs => by
    obtain ⟨j, hj, hjk, e2⟩ := hs
    have hf := List.pairwise_iff_getElem.1 h.far j i hj hi (by omega)
    rcases hf with hf | hf
    · rw [hf] at e2; cases e2
    · rw [e, e2] at hf; exact hf rfl)
  rcases h.row.2 with ⟨e0, h0⟩ | ⟨g, cap, cur, hv, hb, hg, h5, h6, h7, h8⟩
  · omega
  · have hlg := block_lt hg
    have hgS : ¬ BlkOf L k g := by
      rintro ⟨j, hj, hjk, e2⟩
      have hf := pol_far h.row (h.each _ (List.getElem_mem hj))
      rw [hv] at hf
      rcases hf with hf | hf
      · rw [hf] at e2; cases e2
      · rw [e2] at hf; exact hf rfl
    have hgr := (h.only.block g hlg hgS).trans hg
    obtain ⟨A, m, cc, hs⟩ := hkw.sl
    have hcell : ∀ j, j < 6 → wr.cell? ⟨g, i * 6 + j, none⟩ = (pcell L[i])[j]? := by
      intro j hj
      rw [cell_of_row wr g _ cur _ _ hgr, ← flatV_get pcell_len L i hi j hj, ← h8, List.getElem?_take_of_lt (by omega), Array.getElem?_toList]
    have c0 := hcell 0 (by omega)
    have c1 := hcell 1 (by omega)
    have c2 := hcell 2 (by omega)
    have c3 := hcell 3 (by omega)
    have c4 := hcell 4 (by omega)
    have c5 := hcell 5 (by omega)
    refine ⟨g, cap, A, m, cc, hv, by have := h.only.size; omega, ⟨?_, ?_, ?_, ?_, ?_, ?_⟩, hs, by rw [← hs]; exact hkr⟩
    · rw [Nat.add_zero] at c0; rw [c0]; simp [pcell]
    · rw [c1]; simp [pcell]
    · rw [c2]; simp [pcell]
    · rw [c3]; simp [pcell]
    · rw [c4]; simp [pcell]
    · rw [c5]; simp [pcell, hs]
theorem Worn.below {w5 wr w2 : World} {base : Nat} {v : Value} {L : List (Pol × Value)} {k : Nat} (h : Worn w5 wr base v L k) (hb : Below wr.heap.size wr w2) : Worn w5 w2 base v L k := ⟨h.row, h.each, h.far, h.only.below hb⟩
theorem Worn.next {w5 wr w2 : World} {base : Nat} {v : Value} {L : List (Pol × Value)} {k : Nat} (h : Worn w5 wr base v L k) (hk : k < L.length) {A : Option Addr} {m cc : Nat} (hs : L[k].2 = .slice A m cc) (hg : wr.grownBy w2 (Value.slice A m cc).ownBlock) : Worn w5 w2 base v L (k + 1) :=
  ⟨h.row, h.each, h.far, h.only.grown hg (fun b ⟨j, hj, hjk, e⟩ => ⟨j, hj, by omega, e⟩) (fun g e => ⟨k, hk, by omega, by rw [hs]; exact e⟩)⟩
theorem Worn.lowS {w5 wr : World} {base : Nat} {v : Value} {L : List (Pol × Value)} {k : Nat} (h : Worn w5 wr base v L k) : ∀ b, BlkOf L k b → base ≤ b ∧ b < w5.heap.size := by
  rintro b ⟨j, hj, _, e⟩
  exact (h.each _ (List.getElem_mem hj)).block b e
theorem plan_wf {l : List Tg} : ∀ p ∈ planL l, ∀ x ∈ p.tg, (Lit.int .i64 x).wf = true := by
  intro p hp x hx
  by_cases h : (chkAll l).1 = 0
  · have hi := plan_inv h
    obtain ⟨k, rfl, hk, _⟩ := (hi.each p hp).all x hx
    have := (tag_tab h).1
    exact wf_small (by omega) (by omega)
  · rw [plan_bad h] at hp; cases hp
theorem plan_tgs {l : List Tg} : (planL l).length ≤ 64 ∧ ∀ p ∈ planL l, p.tg.length ≤ 64 := by
  by_cases h : (chkAll l).1 = 0
  · have hi := plan_inv h
    have hl := (tag_tab h).1
    have hf := congrArg List.length hi.flat
    rw [List.length_map, ordT_len, List.length_flatMap] at hf
    have key : ∀ ps : List Pol, (∀ p ∈ ps, 1 ≤ p.tg.length) → ps.length ≤ (ps.map fun p => p.tg.length).sum ∧ ∀ p ∈ ps, p.tg.length ≤ (ps.map fun p => p.tg.length).sum := by
      intro ps
      induction ps with
      | nil => intro _; exact ⟨Nat.le_refl _, fun p hp => (by cases hp)⟩
      | cons q ps ih =>
        intro h1
        obtain ⟨i1, i2⟩ := ih (fun p hp => h1 p (List.mem_cons_of_mem _ hp))
        have := h1 q List.mem_cons_self
        simp only [List.map_cons, List.sum_cons, List.length_cons]
        refine ⟨by omega, fun p hp => ?_⟩
        rcases List.mem_cons.1 hp with rfl | hp
        · omega
        · have := i2 p hp; omega
    have hne : ∀ p ∈ planL l, 1 ≤ p.tg.length := fun p hp => by
      obtain ⟨k, e, _⟩ := (hi.each p hp).hd
      cases ht : p.tg with
      | nil => rw [ht] at e; cases e
      | cons a t => simp
    obtain ⟨k1, k2⟩ := key _ hne
    exact ⟨by omega, fun p hp => by have := k2 p hp; omega⟩
  · rw [plan_bad h]; exact ⟨Nat.zero_le _, fun p hp => (by cases hp)⟩

set_option maxHeartbeats 8000000 in
theorem walk_PlanPolls (A : Option Addr) (n c : Nat) (l : List Tg) (w : World) (hr : VRow w w.heap.size A (flatV tgC l)) (hn : l.length = n) (hnb : n ≤ 4611686018427387904) (hok : ∀ t ∈ l, Tg.Ok t) :
    Calls Tryz.prog 17 #[.slice A n c] w fun e w' => e = .returned (.bool true) ∧ Below w.heap.size w w' := by
  by_cases hbig : 4096 < n
  · have hb1 : (4096 : Int) < n := by omega
    go_enter Tryz.func17, Tryz.ntmps17
    go_wp2_with fail
    refine (works10_yes _).mono ?_
    rintro e w5 ⟨rfl, b5⟩
    go_wp2
    go_ret
    exact ⟨rfl, b5⟩
  have hb1 : ¬ (4096 : Int) < n := by omega
  have hn' := Lib.hid hn
  have HR := Lib.hid hr
  have HOK := Lib.hid hok
  obtain ⟨wx, hwx⟩ : ∃ wx, wx = w.alloc (.cells (flatV tgC (l ++ marksG)).toArray 51) := ⟨_, rfl⟩
  have hbx : wx.heap[w.heap.size]? = some (.cells (flatV tgC (l ++ marksG)).toArray 51 (0, 0)) := by rw [hwx]; exact heap_alloc_new w _
  have hzx : w.heap.size + 1 = wx.heap.size := by rw [hwx, World.size_alloc]
  have belx : Below w.heap.size w wx := by rw [hwx]; exact bel_alloc w _
  have VRX : VRow wx wx.heap.size (some ⟨w.heap.size, 0, none⟩) (flatV tgC l) := VRow.of_block hbx _ (by rw [flatV_append]; exact List.prefix_append _ _)
  have HL : Hid (Calls Tryz.prog 7 #[.slice A n c] w fun e w' => e = .returned (.slice (some ⟨w.heap.size, 0, none⟩) n (n + 5)) ∧ w' = wx) := Lib.hid (by rw [hwx]; exact lent_tg A n c l w hr hn (by omega))
  clear hwx hr hok hn
  obtain ⟨P, hP⟩ : ∃ P, planL l = P := ⟨_, rfl⟩
  have HPW := Lib.hid (plan_wf (l := l))
  obtain ⟨hP1, hP2⟩ := plan_tgs (l := l)
  have HP2 := Lib.hid hP2
  have HPL : Hid (∀ (x : Option Addr) (c9 : Nat) (W : World), VRow W W.heap.size x (flatV tgC l) → Calls Tryz.prog 22 #[.slice x n c9] W (GivesP W P (chkAll l).1)) := Lib.hid (fun x c9 W h => by rw [← hP]; exact Plan10_any x n c9 l W h hn'.out hnb HOK.out)
  have HRF : Hid (∀ W : World, VRow W W.heap.size A (flatV tgC l) → Calls Tryz.prog 39 #[.slice A n c] W (GivesP W P (chkAll l).1)) := Lib.hid (fun W h => by rw [← hP]; exact refPlan10_any A n c l W h hn'.out hnb HOK.out)
  rw [hP] at HPW HP2 hP1
  clear hP hP2
  generalize (chkAll l).1 = E at *
  have hEE : (E == E) = true := by simp
  go_enter Tryz.func17, Tryz.ntmps17
  go_wp2_with fail
  refine HL.out.mono ?_
  rintro e w' ⟨rfl, hw'⟩
  rw [hw']
  clear hw' HL
  go_wp2_with fail
  refine (HPL.out _ _ wx VRX).mono ?_
  rintro e w1 ⟨v1, rfl, own1, b1⟩
  go_wp2_with fail
  refine (HPL.out _ _ w1 ((VRX.below b1).more b1.size)).mono ?_
  rintro e w2 ⟨v2, rfl, own2, b2⟩
  have bel2 := belx.trans ((b1.trans (b2.mono b1.size)).mono belx.size)
  go_wp2_with fail
  refine (HRF.out w2 ((HR.out.below bel2).more bel2.size)).mono ?_
  rintro e w3 ⟨v3, rfl, own3, b3⟩
  have bel3 := bel2.trans (b3.mono bel2.size)
  have own1x := own1.below (b2.trans (b3.mono b2.size)) (Nat.le_refl _)
  have own2x := own2.below b3 (Nat.le_refl _)
  have pr1 := own1x.prow HPW.out
  have pr2 := own2x.prow HPW.out
  have pr3 := own3.prow HPW.out
  obtain ⟨A1, c1, rfl, _⟩ := own1.len
  obtain ⟨A2, c2, rfl, _⟩ := own2.len
  obtain ⟨A3, c3, rfl, _⟩ := own3.len
  obtain ⟨np, hnp⟩ : ∃ np, P.length = np := ⟨_, rfl⟩
  have hnp' := Lib.hid hnp
  have PR1 := Lib.hid pr1
  have PR2 := Lib.hid pr2
  have PR3 := Lib.hid pr3
  have OW1 := Lib.hid own1
  have OW2 := Lib.hid own2
  have OW3 := Lib.hid own3
  have B2 := Lib.hid b2
  have B3 := Lib.hid b3
  have hsz1 := b1.size
  have hsz2 := b2.size
  have hsz3 := b3.size
  have BX := Lib.hid (keepB (b1.trans ((b2.trans (b3.mono b2.size)).mono b1.size)) hbx)
  have BEL3 := Lib.hid bel3
  clear own1 own2 own3 own1x own2x pr1 pr2 pr3 b1 b2 b3 bel2 bel3 hbx
  rw [hnp] at PR1 PR2 PR3 OW1 OW2 OW3 hP1 ⊢
  clear hnp
  have htl : Hid (∀ p ∈ P, p.tg.length ≤ 1000000) := Lib.hid (fun p hp => by have := HP2.out p hp; omega)
  go_wp2_with fail
  refine (Same10_yes A1 A3 np c1 c3 P w3 PR1.out PR3.out hnp'.out (by omega) htl.out).mono ?_
  rintro e w4 ⟨rfl, b4⟩
  have BEL4 := Lib.hid (BEL3.out.trans (b4.mono BEL3.out.size))
  go_wp2_with fail
  refine (Same10_yes A2 A3 np c2 c3 P w4 (PR2.out.below b4) (PR3.out.below b4) hnp'.out (by omega) htl.out).mono ?_
  rintro e w5 ⟨rfl, b5⟩
  have b35 := b4.trans (b5.mono b4.size)
  have BEL5 := Lib.hid (BEL4.out.trans (b5.mono BEL4.out.size))
  have BX5 := Lib.hid (keepB b35 BX.out)
  have hsz5 := b35.size
  go_wp2_with fail
  refine (kept_tg A n c w.heap.size l w5 w5.heap.size ((HR.out.below BEL5.out).more BEL5.out.size) hn'.out (by omega) BX5.out).mono ?_
  rintro e w6' ⟨rfl, m6, hw6⟩
  obtain ⟨w6, hw6e⟩ : ∃ w6, w6 = w5.drewN m6 := ⟨_, rfl⟩
  have b36 : Below w3.heap.size w3 w6 := by rw [hw6e]; exact below_drewN b35 m6
  rw [hw6, ← hw6e]
  clear hw6 hw6e b35 b4 b5 w6'
  have hsz6 := b36.size
  have BEL6 := Lib.hid (BEL3.out.trans (b36.mono BEL3.out.size))
  have BX6 := Lib.hid (keepB b36 BX.out)
  have O2 := Lib.hid ((OW2.out.below B3.out (Nat.le_refl _)).below b36 (Nat.le_refl _))
  have O3 := Lib.hid (OW3.out.below b36 (Nat.le_refl _))
  obtain ⟨L, hL1, hL2, hL3, hL4⟩ := OW1.out
  have hLl : L.length = np := by rw [← hnp'.out, ← hL1, List.length_map]
  have HLI : Hid (∀ i (h : i < L.length) (h' : i < P.length), L[i].1 = P[i]) := Lib.hid (fun i h h' => by
    have : (L.map Prod.fst)[i]? = P[i]? := by rw [hL1]
    rw [List.getElem?_map, List.getElem?_eq_getElem h, List.getElem?_eq_getElem h'] at this
    exact Option.some.inj this)
  have b16 : Below w1.heap.size w1 w6 := B2.out.trans ((B3.out.mono hsz2).trans (b36.mono (by omega)))
  have WN : Hid (Worn w6 w6 wx.heap.size (.slice A1 np c1) L 0) := Lib.hid ⟨rowP_below hL2 b16 (Nat.le_refl _), fun p hp => (hL3 p hp).below b16 (Nat.le_refl _), hL4, Only.refl _ _⟩
  have LOW : Hid (∀ k b, BlkOf L k b → wx.heap.size ≤ b ∧ b < w1.heap.size) := Lib.hid (fun k b h => by
    obtain ⟨j, hj, _, e⟩ := h
    exact (hL3 _ (List.getElem_mem hj)).block b e)
  clear hL1 hL2 hL3 hL4 b16 b36
  go_wp2
  go_loopw [10] (fun i wr => ∃ k : Nat, k ≤ np ∧ i = .int .i64 k ∧ Hid (Worn w6 wr wx.heap.size (.slice A1 np c1) L k)) (fun i _ => np - (intOf i).toNat)
  case atStart => exact ⟨0, by omega, rfl, WN⟩
  case round =>
    clear WN
    obtain ⟨k, hk, rfl, hwn⟩ := hrel
    have hbx : Hid (Below wx.heap.size w6 wr) := Lib.hid (hwn.out.only.bel (by omega) (fun b h => (LOW.out k b h).1))
    by_cases hlt : k < np
    · have hkl : k < L.length := by omega
      obtain ⟨g, cg, At, mt, ct, e1, hg, hc, hs, hkt⟩ := hwn.out.at_ (Nat.le_refl k) hkl
      injection e1 with i1 i2 i3
      subst i1 i3
      have hlt' : (k : Int) < (np : Int) := by omega
      have hk0 : (0 : Int) ≤ k := by omega
      obtain ⟨c0, c1', c2', c3', c4', c5'⟩ := hc
      have HS := Lib.hid hs
      have HKT := Lib.hid hkt
      clear hs hkt i2
      go_wp2_with fail
      refine (spoil_kownI _ _ _ _ HKT.out).mono ?_
      rintro e w7 ⟨rfl, g7, hz7⟩
      have hwn7 := Lib.hid (hwn.out.next hkl HS.out g7)
      clear c0 c1' c2' c3' c4' c5' g7 hbx
      have hbx7 : Hid (Below wx.heap.size w6 w7) := Lib.hid (hwn7.out.only.bel (by omega) (fun b h => (LOW.out _ b h).1))
      have hwr : IntKind.i64.wrap ((k : Int) + 1) = (k : Int) + 1 := by rw [IntKind.wrap_i64]; omega
      by_cases hl2 : k + 1 < np
      · obtain ⟨g1, cg1, At1, mt1, ct1, e1, hg1, hc1, hs1, hkt1⟩ := hwn7.out.at_ (Nat.le_refl (k + 1)) (by omega)
        have O37 := O3.out.only hwn7.out.only (fun b h => by have := (LOW.out _ b h).2; omega)
        have hk1p : k + 1 < P.length := by have := hnp'.out; omega
        obtain ⟨g2, cg2, At2, ct2, e2, hg2, hc2, hr2⟩ := (O37.prow HPW.out).2 (k + 1) hk1p
        rw [HLI.out (k + 1) (by omega) hk1p] at hc1 hkt1
        obtain ⟨A9, c9, h9, hr1, _, _⟩ := hkt1.row (HPW.out _ (List.getElem_mem hk1p))
        injection h9 with j1 j2 j3
        subst j1 j2 j3
        have htk := htl.out _ (List.getElem_mem hk1p)
        generalize P[k + 1] = p at *
        injection e1 with x1 x2 x3
        injection e2 with y1 y2 y3
        subst y1 y3
        have hg1e : g = g1 := by injection x1 with x1; injection x1
        subst hg1e
        have n1 : (k : Int) + 1 < (np : Int) := by omega
        have n2 : (0 : Int) ≤ (k : Int) + 1 := by omega
        have n4 : ((k : Int) + 1).toNat = k + 1 := by omega
        have HR1 := Lib.hid hr1
        have HR2 := Lib.hid hr2
        have HSM : Hid (∀ W : World, Below w7.heap.size w7 W → Calls Tryz.prog 41 #[.agg #[.int .i64 p.un, .int .i64 p.ki, .int .i64 p.ad, .int .i64 p.ct, .int .i64 p.ev, .slice At1 p.tg.length ct1], .agg #[.int .i64 p.un, .int .i64 p.ki, .int .i64 p.ad, .int .i64 p.ct, .int .i64 p.ev, .slice At2 p.tg.length ct2]] W fun e w' => e = .returned (.bool true) ∧ Below W.heap.size W w') := Lib.hid fun W hW =>
          same10_yes p.un p.ki p.ad p.ct p.ev At1 At2 p.tg.length ct1 ct2 p.tg W ((HR1.out.below hW).more hW.size) ((HR2.out.below hW).more hW.size) rfl (by omega)
        have HK : Hid (∀ w9 : World, Below w7.heap.size w7 w9 → (Below w7.heap.size w7 w9 ∧ (w9.cell? ⟨g, (k + 1) * 6, none⟩ = some (.int .i64 p.un) ∧ w9.cell? ⟨g, (k + 1) * 6 + 1, none⟩ = some (.int .i64 p.ki) ∧ w9.cell? ⟨g, (k + 1) * 6 + 2, none⟩ = some (.int .i64 p.ad) ∧ w9.cell? ⟨g, (k + 1) * 6 + 3, none⟩ = some (.int .i64 p.ct) ∧ w9.cell? ⟨g, (k + 1) * 6 + 4, none⟩ = some (.int .i64 p.ev) ∧ w9.cell? ⟨g, (k + 1) * 6 + 5, none⟩ = some (.slice At1 p.tg.length ct1)) ∧ (w9.cell? ⟨g2, (k + 1) * 6, none⟩ = some (.int .i64 p.un) ∧ w9.cell? ⟨g2, (k + 1) * 6 + 1, none⟩ = some (.int .i64 p.ki) ∧ w9.cell? ⟨g2, (k + 1) * 6 + 2, none⟩ = some (.int .i64 p.ad) ∧ w9.cell? ⟨g2, (k + 1) * 6 + 3, none⟩ = some (.int .i64 p.ct) ∧ w9.cell? ⟨g2, (k + 1) * 6 + 4, none⟩ = some (.int .i64 p.ev) ∧ w9.cell? ⟨g2, (k + 1) * 6 + 5, none⟩ = some (.slice At2 p.tg.length ct2)))) := Lib.hid fun w9 hb => ⟨hb, ⟨cellB hb hg1 hc1.1, cellB hb hg1 hc1.2.1, cellB hb hg1 hc1.2.2.1, cellB hb hg1 hc1.2.2.2.1, cellB hb hg1 hc1.2.2.2.2.1, cellB hb hg1 hc1.2.2.2.2.2⟩, ⟨cellB hb hg2 hc2.1, cellB hb hg2 hc2.2.1, cellB hb hg2 hc2.2.2.1, cellB hb hg2 hc2.2.2.2.1, cellB hb hg2 hc2.2.2.2.2.1, cellB hb hg2 hc2.2.2.2.2.2⟩⟩
        have belh : ∀ w9 : World, (Below w7.heap.size w7 w9 ∧ (w9.cell? ⟨g, (k + 1) * 6, none⟩ = some (.int .i64 p.un) ∧ w9.cell? ⟨g, (k + 1) * 6 + 1, none⟩ = some (.int .i64 p.ki) ∧ w9.cell? ⟨g, (k + 1) * 6 + 2, none⟩ = some (.int .i64 p.ad) ∧ w9.cell? ⟨g, (k + 1) * 6 + 3, none⟩ = some (.int .i64 p.ct) ∧ w9.cell? ⟨g, (k + 1) * 6 + 4, none⟩ = some (.int .i64 p.ev) ∧ w9.cell? ⟨g, (k + 1) * 6 + 5, none⟩ = some (.slice At1 p.tg.length ct1)) ∧ (w9.cell? ⟨g2, (k + 1) * 6, none⟩ = some (.int .i64 p.un) ∧ w9.cell? ⟨g2, (k + 1) * 6 + 1, none⟩ = some (.int .i64 p.ki) ∧ w9.cell? ⟨g2, (k + 1) * 6 + 2, none⟩ = some (.int .i64 p.ad) ∧ w9.cell? ⟨g2, (k + 1) * 6 + 3, none⟩ = some (.int .i64 p.ct) ∧ w9.cell? ⟨g2, (k + 1) * 6 + 4, none⟩ = some (.int .i64 p.ev) ∧ w9.cell? ⟨g2, (k + 1) * 6 + 5, none⟩ = some (.slice At2 p.tg.length ct2))) → Below w7.heap.size w7 w9 := fun w9 h => h.1
        clear hc1 hc2 hr1 hr2 hkt1 hs1 x1 x2 x3 y2 O37
        go_wp2
        go_region_held3 (fun w9 => Below w7.heap.size w7 w9 ∧ (w9.cell? ⟨g, (k + 1) * 6, none⟩ = some (.int .i64 p.un) ∧ w9.cell? ⟨g, (k + 1) * 6 + 1, none⟩ = some (.int .i64 p.ki) ∧ w9.cell? ⟨g, (k + 1) * 6 + 2, none⟩ = some (.int .i64 p.ad) ∧ w9.cell? ⟨g, (k + 1) * 6 + 3, none⟩ = some (.int .i64 p.ct) ∧ w9.cell? ⟨g, (k + 1) * 6 + 4, none⟩ = some (.int .i64 p.ev) ∧ w9.cell? ⟨g, (k + 1) * 6 + 5, none⟩ = some (.slice At1 p.tg.length ct1)) ∧ (w9.cell? ⟨g2, (k + 1) * 6, none⟩ = some (.int .i64 p.un) ∧ w9.cell? ⟨g2, (k + 1) * 6 + 1, none⟩ = some (.int .i64 p.ki) ∧ w9.cell? ⟨g2, (k + 1) * 6 + 2, none⟩ = some (.int .i64 p.ad) ∧ w9.cell? ⟨g2, (k + 1) * 6 + 3, none⟩ = some (.int .i64 p.ct) ∧ w9.cell? ⟨g2, (k + 1) * 6 + 4, none⟩ = some (.int .i64 p.ev) ∧ w9.cell? ⟨g2, (k + 1) * 6 + 5, none⟩ = some (.slice At2 p.tg.length ct2)))
          ((refine HK.out _ ?_
            repeat' (first
              | with_reducible exact Below.refl _ _
              | with_reducible exact bel5
              | with_reducible exact belh _ (by assumption)
              | with_reducible apply below_drew
              | with_reducible apply below_drewN
              | fail)))
          (first
            | (go_at_call 41; have bh := belh _ (by assumption); refine (HSM.out _ bh).mono ?_; rintro e w8 ⟨rfl, b8⟩; have bel5 : Below w7.heap.size w7 w8 := Below.trans bh (b8.mono bh.size))
            | fail)
        have hwn8 := Lib.hid (hwn7.out.below bel5)
        clear HK belh bel5 b8
        go_wp2
        go_roundw
        case rel => exact ⟨k + 1, by omega, by go_num, hwn8⟩
        case measure => simp [intOf]; omega
      · have d1 : decide ((k : Int) + 1 < (np : Int)) = false := decide_eq_false (by omega)
        have d2 : decide (k + 1 < np) = false := decide_eq_false (by omega)
        go_wp2
        go_quiet (fail)
        have hwn8 := Lib.hid (hwn7.out.below (bel_drewN w7 nq))
        go_wp2
        go_roundw
        case rel => exact ⟨k + 1, by omega, by go_num, hwn8⟩
        case measure => simp [intOf]; omega
    · obtain rfl : k = np := by omega
      have O22 := (O2.out.only hwn.out.only (fun b h => (LOW.out _ b h).2)).prow HPW.out
      have O33 := (O3.out.only hwn.out.only (fun b h => by have := (LOW.out _ b h).2; omega)).prow HPW.out
      have BEL7 := Lib.hid (BEL6.out.trans (hbx.out.mono (by omega)))
      have BX7 := Lib.hid ((hbx.out.block w.heap.size (by omega)).trans BX6.out)
      clear hbx
      go_wp2_with fail
      refine (Same10_yes A2 A3 k c2 c3 P wr O22 O33 hnp'.out (by omega) htl.out).mono ?_
      rintro e w8 ⟨rfl, b8⟩
      have BEL8 := Lib.hid (BEL7.out.trans (b8.mono BEL7.out.size))
      have BX8 := Lib.hid (keepB b8 BX7.out)
      clear O22 O33 b8
      go_wp2_with fail
      refine (kept_tg A n c w.heap.size l w8 w8.heap.size ((HR.out.below BEL8.out).more BEL8.out.size) hn'.out (by omega) BX8.out).mono ?_
      rintro e w' ⟨rfl, m9, hw9⟩
      have BEL9 := Lib.hid (below_drewN BEL8.out m9)
      rw [hw9]
      clear hw9
      go_wp2_with fail
      refine (works10_yes _).mono ?_
      rintro e w5 ⟨rfl, b5⟩
      go_wp2
      go_ret
      exact ⟨rfl, BEL9.out.trans (b5.mono BEL9.out.size)⟩
end Go.Proofs.YtcmbdhmhkfhjfaaGreat
namespace Go.Proofs.YtcmbdhmhkfhjfaaGreat
open Go.RowKit
set_option linter.unusedVariables false
set_option maxRecDepth 100000
attribute [local go_sem ↓] ldTag_fold stTag_fold bxTag_fold
attribute [local go_sem] bxTag_run

theorem Width9_t (t : Tg) (w : World) : Calls Tryz.prog 44 #[tgV t] w fun e w' => e = .returned (.int .i64 (widT t)) ∧ Below w.heap.size w w' := by
  obtain ⟨nm, un, ki, ad, ev, we, sg, sw, mu, di, aa, de, qu, ul, uh, la, lo, hi, hy⟩ := t
  exact Width9_any nm un ki ad ev we sg sw mu di aa de qu ul uh la lo hi hy w
theorem few_head {l : List Tg} {a b : Pol} (ha : PGood l a) (hb : PGood l b) (h : PFar l a b) :
    ∃ k : Nat, b.tg.head? = some (k : Int) ∧ k < l.length ∧ (a.un = b.un → a.ev = b.ev → a.ki = b.ki → b.ad ≤ a.ad + a.ct + 8 → ¬ b.ad + widT (tgAt l k) - a.ad ≤ mostK a.ki) := by
  obtain ⟨_, k, e, hk, hj⟩ := h
  obtain ⟨k', e', hk', t1, t2, t3, t4⟩ := hb.hd
  have : k = k' := by rw [e] at e'; injection e' with e'; omega
  subst this
  refine ⟨k, e, hk, fun h1 h2 h3 h4 h5 => ?_⟩
  have hy : joinB a (tgAt l k) = true := by
    refine decide_eq_true ⟨by omega, by omega, by omega, by omega, ?_⟩
    have hc := ha.ct
    rw [t3, ← h3]
    unfold cntJ
    split <;> omega
  rw [hj] at hy; cases hy
theorem key_cases {a b : Pol} (h : keyLe a b) (Q : Prop) (c1 : a.un < b.un → Q) (c2 : a.un = b.un → a.ev < b.ev → Q) (c3 : a.un = b.un → a.ev = b.ev → a.ki < b.ki → Q) (c4 : a.un = b.un → a.ev = b.ev → a.ki = b.ki → a.ad ≤ b.ad → Q) : Q := by
  rcases h with h | ⟨h, h2 | ⟨h2, h3 | ⟨h3, h4⟩⟩⟩
  · exact c1 h
  · exact c2 h h2
  · exact c3 h h2 h3
  · exact c4 h h2 h3 h4

theorem PlRow.get {w : World} {v : Value} {ps : List Pol} (h : PlRow w v ps) {i : Nat} {p : Pol} (hp : ps[i]? = some p) : ∃ g c A cc, v = .slice (some ⟨g, 0, none⟩) ps.length c ∧ g < w.heap.size ∧ (w.cell? ⟨g, i * 6, none⟩ = some (.int .i64 p.un) ∧ w.cell? ⟨g, i * 6 + 1, none⟩ = some (.int .i64 p.ki) ∧ w.cell? ⟨g, i * 6 + 2, none⟩ = some (.int .i64 p.ad) ∧ w.cell? ⟨g, i * 6 + 3, none⟩ = some (.int .i64 p.ct) ∧ w.cell? ⟨g, i * 6 + 4, none⟩ = some (.int .i64 p.ev) ∧ w.cell? ⟨g, i * 6 + 5, none⟩ = some (.slice A p.tg.length cc)) ∧ Row .i64 w w.heap.size A p.tg := by
  obtain ⟨hi, rfl⟩ := List.getElem?_eq_some_iff.1 hp
  exact h.2 i hi
set_option maxHeartbeats 8000000 in
theorem walk_PlanFew (A : Option Addr) (n c : Nat) (l : List Tg) (w : World) (hr : VRow w w.heap.size A (flatV tgC l)) (hn : l.length = n) (hnb : n ≤ 4611686018427387904) (hok : ∀ t ∈ l, Tg.Ok t) :
    Calls Tryz.prog 19 #[.slice A n c] w fun e w' => e = .returned (.bool true) ∧ Below w.heap.size w w' := by
  by_cases hbig : 4096 < n
  · have hb1 : (4096 : Int) < n := by omega
    go_enter Tryz.func19, Tryz.ntmps19
    go_wp2_with fail
    refine (works10_yes _).mono ?_
    rintro e w5 ⟨rfl, b5⟩
    go_wp2
    go_ret
    exact ⟨rfl, b5⟩
  have hb1 : ¬ (4096 : Int) < n := by omega
  have hn' := Lib.hid hn
  have HR := Lib.hid hr
  obtain ⟨P, hP⟩ : ∃ P, planL l = P := ⟨_, rfl⟩
  obtain ⟨hP1, hP2⟩ := plan_tgs (l := l)
  have HPL : Hid (Calls Tryz.prog 22 #[.slice A n c] w (GivesP w P (chkAll l).1)) := Lib.hid (by rw [← hP]; exact Plan10_any A n c l w hr hn hnb hok)
  have HNX : Hid (∀ i (h : i + 1 < P.length), PGood l P[i] ∧ PGood l P[i + 1] ∧ PFar l P[i] P[i + 1]) := Lib.hid (fun i h => by
    subst hP
    by_cases hc : (chkAll l).1 = 0
    · have hi := plan_inv hc
      exact ⟨hi.each _ (List.getElem_mem _), hi.each _ (List.getElem_mem _), hi.next i h⟩
    · have hl := congrArg List.length (plan_bad hc)
      simp at hl
      rw [hl] at h
      simp at h)
  have HPW := Lib.hid (plan_wf (l := l))
  rw [hP] at hP1 hP2 HPW
  have HP2 := Lib.hid hP2
  clear hr hn hP2 hP
  generalize (chkAll l).1 = E at *
  go_enter Tryz.func19, Tryz.ntmps19
  go_wp2_with fail
  refine HPL.out.mono ?_
  rintro e w1 ⟨v1, rfl, own1, b1⟩
  have PR := Lib.hid (own1.prow HPW.out)
  have BEL1 := Lib.hid b1
  obtain ⟨A1, c1, rfl, _⟩ := own1.len
  obtain ⟨np, hnp⟩ : ∃ np, P.length = np := ⟨_, rfl⟩
  have hnp' := Lib.hid hnp
  rw [hnp] at hP1 ⊢
  clear hnp own1 b1 HPL
  have PR2 : Hid (PlRow w1 (.slice A1 np c1) P) := Lib.hid (by rw [← hnp'.out]; exact PR.out)
  clear PR
  go_wp2
  go_loopw [5] (fun i wr => ∃ k : Nat, (k = 0 ∨ k + 1 ≤ np) ∧ i = .int .i64 ((k : Int) + 1) ∧ Hid (Below w1.heap.size w1 wr)) (fun i _ => np + 1 - (intOf i).toNat)
  case atStart => exact ⟨0, .inl rfl, rfl, Lib.hid (Below.refl _ _)⟩
  case round =>
    obtain ⟨k, hk, rfl, hbel⟩ := hrel
    by_cases hlt : k + 1 < np
    · have hkp : k + 1 < P.length := by have := hnp'.out; omega
      obtain ⟨a, b, hpa, hpb, hbm, hga, hgb, hfar⟩ : ∃ a b, P[k]? = some a ∧ P[k + 1]? = some b ∧ b ∈ P ∧ PGood l a ∧ PGood l b ∧ PFar l a b :=
        ⟨_, _, List.getElem?_eq_getElem (by omega), List.getElem?_eq_getElem hkp, List.getElem_mem hkp, HNX.out k hkp⟩
      have hkey := hfar.1
      obtain ⟨kk, hhd, hkl, hfew⟩ := few_head hga hgb hfar
      obtain ⟨g, cg, At, ca, e1, hg1, ha, hra⟩ := (PR2.out.below hbel.out).get hpa
      obtain ⟨g', cg', Bt, cb, e2, hg2, hb, hrb⟩ := (PR2.out.below hbel.out).get hpb
      injection e1 with i1 i2 i3
      injection e2 with j1 j2 j3
      rw [i1] at j1
      injection j1 with j1
      injection j1 with j1
      subst j1 i1 i3
      have hwx := HP2.out _ hbm
      have haA := hga.ad
      have haC := hga.ct
      have haK := hga.ki
      have hbA := hgb.ad
      have hbC := hgb.ct
      have hmK : mostK a.ki ≤ 2000 := by unfold mostK; split <;> omega
      clear hpa hpb hbm hfar hga i2 j2 j3
      obtain ⟨rest, htg⟩ : ∃ rest, b.tg = (kk : Int) :: rest := by
        cases h : b.tg with
        | nil => rw [h] at hhd; cases hhd
        | cons x r => rw [h] at hhd; injection hhd with hhd; exact ⟨r, by rw [hhd]⟩
      have htl : 1 ≤ b.tg.length := by rw [htg]; simp
      obtain ⟨bt, ot, rfl, hbt, hct⟩ := hrb.at_ (i := 0) (by omega)
      rw [htg] at hct
      simp only [Nat.add_zero, show nth ((kk : Int) :: rest) 0 = (kk : Int) from rfl] at hct
      have hkn : kk < n := by have := hn'.out; omega
      obtain ⟨tl, htlE⟩ : ∃ tl, b.tg.length = tl := ⟨_, rfl⟩
      rw [htlE] at htl hb hwx
      clear htlE
      have hwr1 : IntKind.i64.wrap ((k : Int) + 1 - 1) = (k : Int) := by rw [IntKind.wrap_i64]; omega
      have hwr2 : IntKind.i64.wrap ((k : Int) + 1 + 1) = (k : Int) + 1 + 1 := by rw [IntKind.wrap_i64]; omega
      have n1 : (k : Int) + 1 < (np : Int) := by omega
      have n2 : (0 : Int) ≤ (k : Int) + 1 := by omega
      have n3 : (k : Int) < (np : Int) := by omega
      have n4 : ((k : Int) + 1).toNat = k + 1 := by omega
      have n5 : (0 : Int) ≤ (k : Int) := by omega
      obtain ⟨bl, ol, hAl, hbl, hld0⟩ := (HR.out.below (BEL1.out.trans (hbel.out.mono BEL1.out.size))).five hkl
      subst hAl
      have HLD : Hid (∀ w9 : World, Below w.heap.size w w9 → (ldTag (.pointer (some ⟨bl, ol + kk * 19, none⟩))).run Tryz.prog w9 = .ok (tgV (tgAt l kk)) w9) := Lib.hid (fun w9 hb => by
        obtain ⟨b9, o9, e9, _, h9⟩ := (HR.out.below hb).five hkl
        injection e9 with e9
        injection e9 with e9 e9'
        subst e9 e9'
        exact h9)
      obtain ⟨a0, a1, a2, a3, a4, a5⟩ := ha
      have hb' : _ := hb
      obtain ⟨b0, b1, b2, b3, b4, b5⟩ := hb
      have bA := bel_alloc wr (.cells #[.int .i64 a.un, .int .i64 a.ki, .int .i64 a.ad, .int .i64 a.ct, .int .i64 a.ev, .slice At a.tg.length ca] 25)
      have b0 := cellB bA hg2 b0
      have b1 := cellB bA hg2 b1
      have b2 := cellB bA hg2 b2
      have b3 := cellB bA hg2 b3
      have b4 := cellB bA hg2 b4
      have b5 := cellB bA hg2 b5
      obtain ⟨w2, hw2⟩ : ∃ w2, w2 = (wr.alloc (.cells #[.int .i64 a.un, .int .i64 a.ki, .int .i64 a.ad, .int .i64 a.ct, .int .i64 a.ev, .slice At a.tg.length ca] 25)).alloc (.cells #[.int .i64 b.un, .int .i64 b.ki, .int .i64 b.ad, .int .i64 b.ct, .int .i64 b.ev, .slice (some ⟨bt, ot, none⟩) tl cb] 25) := ⟨_, rfl⟩
      have xa : w2.heap[wr.heap.size]? = some (.cells #[.int .i64 a.un, .int .i64 a.ki, .int .i64 a.ad, .int .i64 a.ct, .int .i64 a.ev, .slice At a.tg.length ca] 25) := by rw [hw2]; exact two_fst wr (.cells #[.int .i64 a.un, .int .i64 a.ki, .int .i64 a.ad, .int .i64 a.ct, .int .i64 a.ev, .slice At a.tg.length ca] 25) (.cells #[.int .i64 b.un, .int .i64 b.ki, .int .i64 b.ad, .int .i64 b.ct, .int .i64 b.ev, .slice (some ⟨bt, ot, none⟩) tl cb] 25)
      have xb : w2.heap[wr.heap.size + 1]? = some (.cells #[.int .i64 b.un, .int .i64 b.ki, .int .i64 b.ad, .int .i64 b.ct, .int .i64 b.ev, .slice (some ⟨bt, ot, none⟩) tl cb] 25) := by rw [hw2]; exact heap_alloc_two wr (.cells #[.int .i64 a.un, .int .i64 a.ki, .int .i64 a.ad, .int .i64 a.ct, .int .i64 a.ev, .slice At a.tg.length ca] 25) (.cells #[.int .i64 b.un, .int .i64 b.ki, .int .i64 b.ad, .int .i64 b.ct, .int .i64 b.ev, .slice (some ⟨bt, ot, none⟩) tl cb] 25)
      have bel2 : Below wr.heap.size wr w2 := by rw [hw2]; exact bA.alloc (by simp) (.cells #[.int .i64 b.un, .int .i64 b.ki, .int .i64 b.ad, .int .i64 b.ct, .int .i64 b.ev, .slice (some ⟨bt, ot, none⟩) tl cb] 25)
      have hct2 := cellB bel2 hbt hct
      have BEL2 := Lib.hid (hbel.out.trans (bel2.mono hbel.out.size))
      obtain ⟨p0, p1, p2, p3, p4, p5⟩ := of6 xa
      obtain ⟨q0, q1, q2, q3, q4, q5⟩ := of6 xb
      have hkn' : (kk : Int) < n := by omega
      have hkn0 : (0 : Int) ≤ kk := by omega
      have dkn : ¬ (kk : Int) ≥ n := by omega
      have dkz : ¬ (kk : Int) < 0 := by omega
      have htl1 : (0 : Int) < tl := by omega
      have htl0 : 0 < tl := by omega
      have htl2 : (tl == 0) = false := beq_false_of_ne (by omega)
      have htl3 : ((tl : Int) == 0) = false := beq_false_of_ne (by omega)
      have dk2 : decide (n ≤ kk) = false := decide_eq_false (by omega)
      have dk3 : decide ((n : Int) ≤ (kk : Int)) = false := decide_eq_false (by omega)
      have dk4 : decide ((kk : Int) < 0) = false := decide_eq_false (by omega)
      have HXA := Lib.hid xa
      have HXB := Lib.hid xb
      have HCT := Lib.hid hct2
      clear xa xb hb' bA hrb hra hld0 htg hct
      rw [hw2] at p0 p1 p2 p3 p4 p5 q0 q1 q2 q3 q4 q5 hct2
      have hw2' := Lib.hid hw2
      clear hw2
      refine key_cases hkey _ ?_ ?_ ?_ ?_
      · intro h1
        have f1 : ¬ b.un < a.un := by omega
        have f2 : (a.un == b.un) = false := beq_false_of_ne (by omega)
        have f3 : (a.un != b.un) = true := by simp; omega
        go_wp2
        rw [← hw2'.out]
        go_roundw
        case rel => exact ⟨k + 1, .inr (by omega), by go_num, BEL2⟩
        case measure => simp [intOf]; omega
      · intro h1 h2
        have f1 : ¬ b.un < a.un := by omega
        have f2 : (a.un == b.un) = true := by simp [h1]
        have f3 : (a.un != b.un) = false := by simp [h1]
        have f4 : ¬ b.ev < a.ev := by omega
        have f5 : (a.ev == b.ev) = false := beq_false_of_ne (by omega)
        have f6 : (a.ev != b.ev) = true := by simp; omega
        clear h1
        go_wp2
        rw [← hw2'.out]
        go_roundw
        case rel => exact ⟨k + 1, .inr (by omega), by go_num, BEL2⟩
        case measure => simp [intOf]; omega
      · intro h1 h2 h3
        have f1 : ¬ b.un < a.un := by omega
        have f2 : (a.un == b.un) = true := by simp [h1]
        have f3 : (a.un != b.un) = false := by simp [h1]
        have f4 : ¬ b.ev < a.ev := by omega
        have f5 : (a.ev == b.ev) = true := by simp [h2]
        have f6 : (a.ev != b.ev) = false := by simp [h2]
        have f7 : ¬ b.ki < a.ki := by omega
        have f8 : (a.ki == b.ki) = false := beq_false_of_ne (by omega)
        have f9 : (a.ki != b.ki) = true := by simp; omega
        clear h1 h2
        go_wp2
        rw [← hw2'.out]
        go_roundw
        case rel => exact ⟨k + 1, .inr (by omega), by go_num, BEL2⟩
        case measure => simp [intOf]; omega
      · intro h1 h2 h3 h4
        have f1 : ¬ b.un < a.un := by omega
        have f2 : (a.un == b.un) = true := by simp [h1]
        have f3 : (a.un != b.un) = false := by simp [h1]
        have f4 : ¬ b.ev < a.ev := by omega
        have f5 : (a.ev == b.ev) = true := by simp [h2]
        have f6 : (a.ev != b.ev) = false := by simp [h2]
        have f7 : ¬ b.ki < a.ki := by omega
        have f8 : (a.ki == b.ki) = true := by simp [h3]
        have f9 : (a.ki != b.ki) = false := by simp [h3]
        have f10 : ¬ b.ad < a.ad := by omega
        have hfew2 := hfew h1 h2 h3
        clear h1 h2 h3 hfew
        have hwd := widT_le (tgAt l kk)
        have hwrA : IntKind.i64.wrap (a.ad + a.ct) = a.ad + a.ct := by rw [IntKind.wrap_i64]; omega
        have hwrB : IntKind.i64.wrap (a.ad + a.ct + 8) = a.ad + a.ct + 8 := by rw [IntKind.wrap_i64]; omega
        have hwrC : IntKind.i64.wrap (b.ad + widT (tgAt l kk)) = b.ad + widT (tgAt l kk) := by rw [IntKind.wrap_i64]; omega
        have hwrD : IntKind.i64.wrap (b.ad + widT (tgAt l kk) - a.ad) = b.ad + widT (tgAt l kk) - a.ad := by rw [IntKind.wrap_i64]; omega
        obtain ⟨mo, hm⟩ : ∃ mo, mostK a.ki = mo := ⟨_, rfl⟩
        have hmo : ((a.ki == 1) = true ∧ mo = 2000) ∨ ((a.ki == 1) = false ∧ (a.ki == 2) = true ∧ mo = 2000) ∨ ((a.ki == 1) = false ∧ (a.ki == 2) = false ∧ mo = 125) := by
          rw [← hm]
          unfold mostK
          by_cases h1 : a.ki = 1
          · exact .inl ⟨by simp [h1], if_pos (.inl h1)⟩
          · by_cases h2 : a.ki = 2
            · exact .inr (.inl ⟨beq_false_of_ne h1, by simp [h2], if_pos (.inr h2)⟩)
            · exact .inr (.inr ⟨beq_false_of_ne h1, beq_false_of_ne h2, if_neg (by omega)⟩)
        rw [hm] at hfew2
        have HW : Hid (∀ W : World, Calls Tryz.prog 44 #[tgV (tgAt l kk)] W fun e w' => e = .returned (.int .i64 (widT (tgAt l kk))) ∧ Below W.heap.size W w') := Lib.hid fun W => Width9_t (tgAt l kk) W
        have HK0 : Hid (∀ w9 : World, Below w2.heap.size w2 w9 → (Below w2.heap.size w2 w9 ∧ (w9.cell? ⟨wr.heap.size, 2, none⟩ = some (.int .i64 a.ad) ∧ w9.cell? ⟨wr.heap.size, 3, none⟩ = some (.int .i64 a.ct)) ∧ (w9.cell? ⟨wr.heap.size + 1, 2, none⟩ = some (.int .i64 b.ad) ∧ w9.cell? ⟨wr.heap.size + 1, 5, none⟩ = some (.slice (some ⟨bt, ot, none⟩) tl cb)) ∧ w9.cell? ⟨bt, ot, none⟩ = some (.int .i64 (kk : Int)) ∧ (ldTag (.pointer (some ⟨bl, ol + kk * 19, none⟩))).run Tryz.prog w9 = .ok (tgV (tgAt l kk)) w9)) := Lib.hid fun w9 hw => ⟨hw, ⟨(of6 (keepB hw HXA.out)).2.2.1, (of6 (keepB hw HXA.out)).2.2.2.1⟩, ⟨(of6 (keepB hw HXB.out)).2.2.1, (of6 (keepB hw HXB.out)).2.2.2.2.2⟩, cellB hw (by have := BEL2.out.size; have := bel2.size; omega) HCT.out, HLD.out _ (BEL1.out.trans ((BEL2.out.trans (hw.mono BEL2.out.size)).mono BEL1.out.size))⟩
        by_cases hcd : b.ad ≤ a.ad + a.ct + 8
        case neg =>
          have dcd : decide (b.ad ≤ a.ad + a.ct + 8) = false := decide_eq_false hcd
          clear hcd hfew2
          rcases hmo with ⟨hk1, rfl⟩ | ⟨hk1, hk2, rfl⟩ | ⟨hk1, hk2, rfl⟩
          all_goals
            go_wp2
            rw [← hw2'.out] at p0 p1 p2 p3 p4 p5 q0 q1 q2 q3 q4 q5 hct2 ⊢
            go_quiet (fail)
            have BEL3 := Lib.hid (below_drewN BEL2.out nq)
            go_wp2
            go_roundw
            case rel => exact ⟨k + 1, .inr (by omega), by go_num, BEL3⟩
            case measure => simp [intOf]; omega
        have hno := hfew2 hcd
        generalize widT (tgAt l kk) = wd at *
        rcases hmo with ⟨hk1, rfl⟩ | ⟨hk1, hk2, rfl⟩ | ⟨hk1, hk2, rfl⟩
        all_goals
          go_wp2
          rw [← hw2'.out]
          clear p0 p1 p2 p3 p4 p5 q0 q1 q2 q3 q4 q5 hct2 a0 a1 a2 a3 a4 a5 b0 b1 b2 b3 b4 b5
          have belh : ∀ w9 : World, (Below w2.heap.size w2 w9 ∧ (w9.cell? ⟨wr.heap.size, 2, none⟩ = some (.int .i64 a.ad) ∧ w9.cell? ⟨wr.heap.size, 3, none⟩ = some (.int .i64 a.ct)) ∧ (w9.cell? ⟨wr.heap.size + 1, 2, none⟩ = some (.int .i64 b.ad) ∧ w9.cell? ⟨wr.heap.size + 1, 5, none⟩ = some (.slice (some ⟨bt, ot, none⟩) tl cb)) ∧ w9.cell? ⟨bt, ot, none⟩ = some (.int .i64 (kk : Int)) ∧ (ldTag (.pointer (some ⟨bl, ol + kk * 19, none⟩))).run Tryz.prog w9 = .ok (tgV (tgAt l kk)) w9) → Below w2.heap.size w2 w9 := fun w9 h => h.1
          go_region_held3 (fun w9 => Below w2.heap.size w2 w9 ∧ (w9.cell? ⟨wr.heap.size, 2, none⟩ = some (.int .i64 a.ad) ∧ w9.cell? ⟨wr.heap.size, 3, none⟩ = some (.int .i64 a.ct)) ∧ (w9.cell? ⟨wr.heap.size + 1, 2, none⟩ = some (.int .i64 b.ad) ∧ w9.cell? ⟨wr.heap.size + 1, 5, none⟩ = some (.slice (some ⟨bt, ot, none⟩) tl cb)) ∧ w9.cell? ⟨bt, ot, none⟩ = some (.int .i64 (kk : Int)) ∧ (ldTag (.pointer (some ⟨bl, ol + kk * 19, none⟩))).run Tryz.prog w9 = .ok (tgV (tgAt l kk)) w9)
            ((refine HK0.out _ ?_
              repeat' (first
                | with_reducible exact Below.refl _ _
                | with_reducible exact bel5
                | with_reducible exact belh _ (by assumption)
                | with_reducible apply below_drew
                | with_reducible apply below_drewN
                | fail)))
            (first
              | (go_at_call 44; have bh := belh _ (by assumption); refine (HW.out _).mono ?_; rintro e w5 ⟨rfl, b5⟩; have bel5 : Below w2.heap.size w2 w5 := Below.trans bh (b5.mono bh.size))
              | fail)
          have BEL3 := Lib.hid (BEL2.out.trans (bel5.mono BEL2.out.size))
          clear belh bel5
          go_wp2
          go_roundw
          case rel => exact ⟨k + 1, .inr (by omega), by go_num, BEL3⟩
          case measure => simp [intOf]; omega
    · have hlt' : ¬ (k : Int) + 1 < (np : Int) := by omega
      have BEL2 := Lib.hid (BEL1.out.trans (hbel.out.mono BEL1.out.size))
      go_wp2_with fail
      refine (works10_yes _).mono ?_
      rintro e w5 ⟨rfl, b5⟩
      go_wp2
      go_ret
      exact ⟨rfl, BEL2.out.trans (b5.mono BEL2.out.size)⟩
end Go.Proofs.YtcmbdhmhkfhjfaaGreat
namespace Go.Proofs.YtcmbdhmhkfhjfaaGreat
open Go.RowKit
set_option linter.unusedVariables false

def seenC (n : Nat) (d : List Int) : List Int := (List.range n).map fun j : Nat => ((d.count (j : Int) : Nat) : Int)
theorem seenC_len (n : Nat) (d : List Int) : (seenC n d).length = n := by simp [seenC]
theorem seenC_nil (n : Nat) : seenC n [] = List.replicate n 0 := by
  apply List.ext_getElem (by simp [seenC])
  intro i h1 h2
  simp [seenC]
theorem seenC_nth {n : Nat} (d : List Int) {j : Nat} (h : j < n) : nth (seenC n d) j = ((d.count (j : Int) : Nat) : Int) := by
  rw [nth_eq _ _ (by rw [seenC_len]; exact h)]
  simp [seenC]
theorem seenC_set {n : Nat} (d : List Int) {q : Nat} (h : q < n) : (seenC n d).set q (((d.count (q : Int) : Nat) : Int) + 1) = seenC n (d ++ [(q : Int)]) := by
  apply List.ext_getElem (by simp [seenC])
  intro i h1 h2
  rw [List.getElem_set]
  simp only [seenC, List.getElem_map, List.getElem_range, List.count_append, List.count_singleton]
  by_cases e : q = i
  · subst e; simp
  · rw [if_neg e]
    have : ¬ (q : Int) = (i : Int) := by omega
    simp [this]
theorem seenC_one {l : List Tg} {n : Nat} (hn : l.length = n) {j : Nat} (h : j < n) : nth (seenC n (intL (ordT l))) j = 1 := by
  rw [seenC_nth _ h]
  have hnd : (ordT l).Nodup := (ordT_perm l).nodup_iff.2 List.nodup_range
  have hm : j ∈ ordT l := (ordT_perm l).mem_iff.2 (List.mem_range.2 (by omega))
  have hc : (intL (ordT l)).count (j : Int) = (ordT l).count j := by
    unfold intL
    generalize ordT l = o
    induction o with
    | nil => rfl
    | cons x xs ih =>
      rw [List.map_cons, List.count_cons, List.count_cons, ih]
      by_cases e : x = j
      · subst e; simp
      · have : ¬ (x : Int) = (j : Int) := by omega
        simp [e, this]
  have h1 : (ordT l).count j = 1 := by
    have ha := List.nodup_iff_count.1 hnd j
    have hb := List.count_pos_iff.2 hm
    omega
  rw [hc, h1]; rfl
end Go.Proofs.YtcmbdhmhkfhjfaaGreat
namespace Go.Proofs.YtcmbdhmhkfhjfaaGreat
open Go.RowKit
set_option linter.unusedVariables false
set_option maxRecDepth 100000
attribute [local go_sem ↓] ldTag_fold stTag_fold bxTag_fold
attribute [local go_sem] bxTag_run

theorem PlRow.get2 {w : World} {v : Value} {ps : List Pol} (h : PlRow w v ps) {i : Nat} {p : Pol} (hp : ps[i]? = some p) : ∃ g c A cc, v = .slice (some ⟨g, 0, none⟩) ps.length c ∧ g < w.heap.size ∧ (w.cell? ⟨g, i * 6, none⟩ = some (.int .i64 p.un) ∧ w.cell? ⟨g, i * 6 + 1, none⟩ = some (.int .i64 p.ki) ∧ w.cell? ⟨g, i * 6 + 2, none⟩ = some (.int .i64 p.ad) ∧ w.cell? ⟨g, i * 6 + 3, none⟩ = some (.int .i64 p.ct) ∧ w.cell? ⟨g, i * 6 + 4, none⟩ = some (.int .i64 p.ev) ∧ w.cell? ⟨g, i * 6 + 5, none⟩ = some (.slice A p.tg.length cc)) ∧ Row .i64 w w.heap.size A p.tg := by
  obtain ⟨hi, rfl⟩ := List.getElem?_eq_some_iff.1 hp
  exact h.2 i hi
def upto (P : List Pol) (k j : Nat) : List Int := (P.take k).flatMap Pol.tg ++ ((P[k]?.map Pol.tg).getD []).take j
theorem upto_zero (P : List Pol) (k : Nat) : upto P k 0 = (P.take k).flatMap Pol.tg := by simp [upto]
theorem upto_step {P : List Pol} {k j : Nat} {p : Pol} (hp : P[k]? = some p) (hj : j < p.tg.length) : upto P k (j + 1) = upto P k j ++ [nth p.tg j] := by
  unfold upto
  rw [hp]
  show _ ++ p.tg.take (j + 1) = (_ ++ p.tg.take j) ++ _
  rw [take_step _ _ hj, List.append_assoc]
theorem upto_end {P : List Pol} {k : Nat} {p : Pol} (hp : P[k]? = some p) {j : Nat} (hj : j = p.tg.length) : upto P k j = (P.take (k + 1)).flatMap Pol.tg := by
  subst hj
  obtain ⟨hk, rfl⟩ := List.getElem?_eq_some_iff.1 hp
  unfold upto
  rw [hp, List.take_succ_eq_append_getElem hk, List.flatMap_append]
  show _ ++ (P[k]).tg.take (P[k]).tg.length = _
  rw [List.take_length]
  simp
set_option maxHeartbeats 8000000 in
theorem walk_PlanCovers (A : Option Addr) (n c : Nat) (l : List Tg) (w : World) (hr : VRow w w.heap.size A (flatV tgC l)) (hn : l.length = n) (hnb : n ≤ 4611686018427387904) (hok : ∀ t ∈ l, Tg.Ok t) :
    Calls Tryz.prog 18 #[.slice A n c] w fun e w' => e = .returned (.bool true) ∧ Below w.heap.size w w' := by
  by_cases hbig : 4096 < n
  · have hb1 : (4096 : Int) < n := by omega
    go_enter Tryz.func18, Tryz.ntmps18
    go_wp2_with fail
    refine (works10_yes _).mono ?_
    rintro e w5 ⟨rfl, b5⟩
    go_wp2
    go_ret
    exact ⟨rfl, b5⟩
  have hb1 : ¬ (4096 : Int) < n := by omega
  have hn' := Lib.hid hn
  have HR := Lib.hid hr
  obtain ⟨E, hE⟩ : ∃ E, (chkAll l).1 = E := ⟨_, rfl⟩
  obtain ⟨E2, hE2⟩ : ∃ E2, (chkAll l).2 = E2 := ⟨_, rfl⟩
  have HCA : Hid (∀ W : World, Below w.heap.size w W → Calls Tryz.prog 42 #[.slice A n c] W fun e w' => e = .returned (.tuple #[.int .i64 E, .int .i64 E2]) ∧ Below W.heap.size W w') := Lib.hid fun W hW => by
    have h := CheckAll9_any A n c l W ((hr.below hW).more hW.size) hn hnb hok
    rw [hE, hE2] at h
    exact h
  by_cases h0 : E = 0
  case neg =>
    obtain ⟨f1, f2⟩ := fold_ne h0
    have hee : (E == E) = true := by simp
    have HPL : Hid (Calls Tryz.prog 22 #[.slice A n c] w (GivesP w [] E)) := Lib.hid (by
      have h := Plan10_any A n c l w hr hn hnb hok
      rw [plan_bad (by rw [hE]; exact h0), hE] at h
      exact h)
    clear hr hn hE hE2 h0
    go_enter Tryz.func18, Tryz.ntmps18
    go_wp2_with fail
    refine HPL.out.mono ?_
    rintro e w1 ⟨v1, rfl, own1, b1⟩
    obtain ⟨A1, c1, rfl, _⟩ := own1.len
    clear own1 HPL
    go_wp2_with fail
    refine (HCA.out _ b1).mono ?_
    rintro e w2 ⟨rfl, b2⟩
    have bel2 := b1.trans (b2.mono b1.size)
    clear b1 b2
    have hl0 : ((([] : List Pol).length : Int) == 0) = true := by simp
    go_wp2_with fail
    refine (works10_yes _).mono ?_
    rintro e w3 ⟨rfl, b3⟩
    have bel3 := bel2.trans (b3.mono bel2.size)
    clear bel2 b3
    go_wp2
    go_ret
    exact ⟨rfl, bel3⟩
  subst h0
  obtain ⟨P, hP⟩ : ∃ P, planL l = P := ⟨_, rfl⟩
  obtain ⟨hP1, hP2⟩ := plan_tgs (l := l)
  have HPL : Hid (Calls Tryz.prog 22 #[.slice A n c] w (GivesP w P 0)) := Lib.hid (by
    have h := Plan10_any A n c l w hr hn hnb hok
    rw [hP, hE] at h
    exact h)
  have HPW := Lib.hid (plan_wf (l := l))
  have hinv := plan_inv hE
  rw [hP] at hP1 hP2 HPW hinv
  have HP2 := Lib.hid hP2
  have HINV := Lib.hid hinv
  have HTB := Lib.hid (tag_tab hE).1
  have HCK : Hid ((chkAll l).1 = 0) := Lib.hid hE
  have hn64 : n ≤ 64 := by have := HTB.out; omega
  have hmk := I.make_i64 n (by omega)
  clear hr hn hP2 hP hE hE2 hinv
  go_enter Tryz.func18, Tryz.ntmps18
  go_wp2_with fail
  refine HPL.out.mono ?_
  rintro e w1 ⟨v1, rfl, own1, b1⟩
  have PR := Lib.hid (own1.prow HPW.out)
  obtain ⟨A1, c1, rfl, _⟩ := own1.len
  obtain ⟨np, hnp⟩ : ∃ np, P.length = np := ⟨_, rfl⟩
  have hnp' := Lib.hid hnp
  rw [hnp] at hP1 ⊢
  clear hnp own1 HPL
  have PR2 : Hid (PlRow w1 (.slice A1 np c1) P) := Lib.hid (by rw [← hnp'.out]; exact PR.out)
  clear PR
  go_wp2_with fail
  refine (HCA.out _ b1).mono ?_
  rintro e w2 ⟨rfl, b2⟩
  have BEL2 := Lib.hid (b1.trans (b2.mono b1.size))
  have PR3 := Lib.hid (PR2.out.below b2)
  clear b1 b2 PR2 HCA
  have hx0 := heap_alloc_new w2 (.cells (blk .i64 (List.replicate n 0)) 3)
  have bel0 := Lib.hid (bel_alloc w2 (.cells (blk .i64 (List.replicate n 0)) 3))
  have hx0' : Hid ((w2.alloc (.cells (blk .i64 (List.replicate n 0)) 3)).heap[w2.heap.size]? = some (.cells (blk .i64 (seenC n ((P.take 0).flatMap Pol.tg))) 3 (0, 0))) := Lib.hid (by rw [List.take_zero, List.flatMap_nil, seenC_nil]; exact hx0)
  clear hx0
  go_wp2
  go_loopw [8] (fun i wr => ∃ k : Nat, k ≤ np ∧ i = .int .i64 k ∧ Hid (wr.heap[w2.heap.size]? = some (.cells (blk .i64 (seenC n ((P.take k).flatMap Pol.tg))) 3 (0, 0))) ∧ Hid (Below w2.heap.size w2 wr)) (fun i _ => np - (intOf i).toNat)
  case atStart => exact ⟨0, by omega, rfl, hx0', bel0⟩
  case round =>
    clear hx0' bel0 hmk
    obtain ⟨k, hk, rfl, hsn, hbel⟩ := hrel
    by_cases hlt : k < np
    · have hkp : k < P.length := by have := hnp'.out; omega
      obtain ⟨a, hpa, ham⟩ : ∃ a, P[k]? = some a ∧ a ∈ P := ⟨_, List.getElem?_eq_getElem hkp, List.getElem_mem hkp⟩
      have hga := HINV.out.each a ham
      obtain ⟨g, cg, At, ca, e1, hg1, ha, hra⟩ := (PR3.out).get2 hpa
      injection e1 with i1 i2 i3
      subst i1 i3
      have HPA := Lib.hid hpa
      have HGA := Lib.hid hga
      have HRA := Lib.hid hra
      have hwx := HP2.out _ ham
      have haA := hga.ad
      have haC := hga.ct
      have hmK : mostK a.ki ≤ 2000 := by unfold mostK; split <;> omega
      obtain ⟨hd0, hd1, hd2⟩ := hga.hd
      have htl : 1 ≤ a.tg.length := by
        cases h : a.tg with
        | nil => rw [h] at hd1; cases hd1
        | cons x r => simp
      have HAK := Lib.hid (good_ask hga)
      have HPQ : Hid (∀ W : World, Below w2.heap.size w2 W → (W.cell? ⟨g, k * 6, none⟩ = some (.int .i64 a.un) ∧ W.cell? ⟨g, k * 6 + 1, none⟩ = some (.int .i64 a.ki) ∧ W.cell? ⟨g, k * 6 + 2, none⟩ = some (.int .i64 a.ad) ∧ W.cell? ⟨g, k * 6 + 3, none⟩ = some (.int .i64 a.ct) ∧ W.cell? ⟨g, k * 6 + 4, none⟩ = some (.int .i64 a.ev) ∧ W.cell? ⟨g, k * 6 + 5, none⟩ = some (.slice At a.tg.length ca))) := Lib.hid fun W hb => ⟨cellB hb hg1 ha.1, cellB hb hg1 ha.2.1, cellB hb hg1 ha.2.2.1, cellB hb hg1 ha.2.2.2.1, cellB hb hg1 ha.2.2.2.2.1, cellB hb hg1 ha.2.2.2.2.2⟩
      obtain ⟨tl, htlE⟩ : ∃ tl, a.tg.length = tl := ⟨_, rfl⟩
      have HTL := Lib.hid htlE
      rw [htlE] at htl hwx HPQ
      clear htlE hpa ham hga hra hd1 hd2 ha i2
      have HAS : Hid (∀ W : World, Calls Tryz.prog 43 #[.agg #[.int .i64 a.un, .int .i64 a.ki, .int .i64 a.ad, .int .i64 a.ct, .int .i64 a.ev, .slice At tl ca]] W fun e w' => e = .returned (.tuple #[.agg #[.int .i64 a.ki, .int .i64 a.ad, .int .i64 a.ct, .slice none 0 0, .slice none 0 0, .slice none 0 0], .int .i64 0]) ∧ Below W.heap.size W w') := Lib.hid fun W => by
        have h := Ask10_any a.un a.ki a.ad a.ct a.ev At tl ca W
        have n1 : ∀ x, askN a.ki a.ad a.ct x = x := fun x => by unfold askN; rw [HAK.out]; rfl
        unfold AskedK at h
        rw [n1, n1, n1, HAK.out] at h
        exact h
      have n1 : (k : Int) < (np : Int) := by omega
      have n5 : (0 : Int) ≤ (k : Int) := by omega
      have n6 : IntKind.i64.wrap ((k : Int) + 1) = (k : Int) + 1 := by rw [IntKind.wrap_i64]; omega
      obtain ⟨a0, a1, a2, a3, a4, a5⟩ := HPQ.out wr hbel.out
      go_wp2_with fail
      refine (HAS.out _).mono ?_
      rintro e w5 ⟨rfl, b5⟩
      have bel5 := hbel.out.trans (b5.mono hbel.out.size)
      have hsn5 := keepB b5 hsn.out
      clear a0 a1 a2 a3 a4 a5 b5
      have hxq := heap_alloc_new w5 (.cells #[.int .i64 a.ki, .int .i64 a.ad, .int .i64 a.ct, .slice none 0 0, .slice none 0 0, .slice none 0 0] 68)
      obtain ⟨q0, q1, q2, q3, q4, q5⟩ := of6 hxq
      have bel6 := Lib.hid (bel5.alloc bel5.size (.cells #[.int .i64 a.ki, .int .i64 a.ad, .int .i64 a.ct, .slice none 0 0, .slice none 0 0, .slice none 0 0] 68))
      have hsn6 := Lib.hid ((heap_alloc_old w5 (.cells #[.int .i64 a.ki, .int .i64 a.ad, .int .i64 a.ct, .slice none 0 0, .slice none 0 0, .slice none 0 0] 68) (block_lt hsn5)).trans hsn5)
      obtain ⟨a0, a1, a2, a3, a4, a5⟩ := HPQ.out _ bel6.out
      have z1 : (a.ki != a.ki) = false := by simp
      have z2 : (a.ad != a.ad) = false := by simp
      have z3 : (a.ct != a.ct) = false := by simp
      have z4 : ((tl : Int) == 0) = false := beq_false_of_ne (by omega)
      clear bel5 hsn5 hxq
      go_wp2
      generalize hW6 : w5.alloc (.cells #[.int .i64 a.ki, .int .i64 a.ad, .int .i64 a.ct, .slice none 0 0, .slice none 0 0, .slice none 0 0] 68) = w6 at *
      go_quiet (fail)
      have bel7 := Lib.hid (below_drewN bel6.out nq)
      have hsn7 : Hid ((w6.drewN nq).heap[w2.heap.size]? = some (.cells (blk .i64 (seenC n (upto P k 0))) 3 (0, 0))) := Lib.hid (by rw [upto_zero]; exact hsn6.out)
      clear q0 q1 q2 q3 q4 q5 a0 a1 a2 a3 a4 a5 z1 z2 z3 z4 bel6 hsn6
      generalize w6.drewN nq = w7 at *
      clear hW6
      go_wp2
      go_loopw [11] (fun i wr => ∃ j : Nat, j ≤ tl ∧ i = .int .i64 j ∧ Hid (wr.heap[w2.heap.size]? = some (.cells (blk .i64 (seenC n (upto P k j))) 3 (0, 0))) ∧ Hid (Below w2.heap.size w2 wr)) (fun i _ => tl - (intOf i).toNat)
      case atStart => exact ⟨0, by omega, rfl, hsn7, bel7⟩
      case round =>
        clear hsn7 bel7
        obtain ⟨j, hj, rfl, hsnc, hbelc⟩ := hrel
        obtain ⟨a0, a1, a2, a3, a4, a5⟩ := HPQ.out wr hbelc.out
        by_cases hjt : j < tl
        · have hjl : j < a.tg.length := by rw [HTL.out]; exact hjt
          obtain ⟨bt, ot, rfl, hbt, hct⟩ := (HRA.out.below hbelc.out).at_ hjl
          obtain ⟨q, hq, hql, t1, t2, t3, t4, t5⟩ := HGA.out.all (nth a.tg j) (nth_mem _ _ hjl)
          have HUP := Lib.hid (upto_step HPA.out hjl)
          rw [hq] at hct HUP
          clear hq
          have m1 : (j : Int) < (tl : Int) := by omega
          have m2 : (0 : Int) ≤ (j : Int) := by omega
          have m3 : IntKind.i64.wrap ((j : Int) + 1) = (j : Int) + 1 := by rw [IntKind.wrap_i64]; omega
          have hqn : q < n := by have := hn'.out; omega
          have o1 : (q : Int) < (n : Int) := by omega
          have o2 : (0 : Int) ≤ (q : Int) := by omega
          have o3 : decide ((q : Int) < 0) = false := decide_eq_false (by omega)
          have o4 : decide ((n : Int) ≤ (q : Int)) = false := decide_eq_false (by omega)
          have o5 : decide (n ≤ q) = false := decide_eq_false (by omega)
          obtain ⟨bl, ol, hAl, hbl, hld0⟩ := (HR.out.below (BEL2.out.trans (hbelc.out.mono BEL2.out.size))).five hql
          subst hAl
          have HTT := Lib.hid (tag_right HCK.out hql)
          have hta := (chkT_zero HTT.out).2.2.2.1
          have hwd := widT_le (tgAt l q)
          generalize tgAt l q = t at *
          have hst := made_tag wr t
          have hx := heap_alloc_new wr (.cells (tgC t).toArray 51)
          have belz := hbelc.out.alloc hbelc.out.size (.cells (tgC t).toArray 51)
          have hsz := (heap_alloc_old wr (.cells (tgC t).toArray 51) (block_lt hsnc.out)).trans hsnc.out
          obtain ⟨sq, hsq⟩ : ∃ s : Int, nth (seenC n (upto P k j)) q = s := ⟨_, rfl⟩
          have hcs : (wr.alloc (.cells (tgC t).toArray 51)).cell? ⟨w2.heap.size, q, none⟩ = some (.int .i64 sq) := by
            rw [cell_of_row _ _ q _ _ _ hsz, blk_get _ _ _ (by rw [seenC_len]; exact hqn), hsq]
          have hfz := block_frozen _ _ q _ _ hsz
          rw [seenC_nth _ hqn] at hsq
          have hsb : 0 ≤ sq ∧ sq ≤ 1000000 := by
            have h1 : (upto P k j).length ≤ 100000 := by
              have hpl : ((P.take k).flatMap Pol.tg).length ≤ (P.flatMap Pol.tg).length := by
                have := congrArg List.length (congrArg (List.flatMap Pol.tg) (List.take_append_drop k P))
                rw [List.flatMap_append, List.length_append] at this
                omega
              have h2 := congrArg List.length HINV.out.flat
              rw [List.length_map, ordT_len] at h2
              have h3 : (((P[k]?.map Pol.tg).getD []).take j).length ≤ j := List.length_take_le _ _
              have := hn'.out
              unfold upto
              rw [List.length_append]
              omega
            have h2 := List.count_le_length (a := (q : Int)) (l := upto P k j)
            omega
          have hsw : IntKind.i64.wrap (sq + 1) = sq + 1 := by rw [IntKind.wrap_i64]; omega
          have hset := block_setCell _ w2.heap.size q .i64 3 _ (sq + 1) hsz
          rw [← hsq, seenC_set _ hqn, ← HUP.out, hsq] at hset
          have belz2 := Lib.hid (below_setCell belz (Nat.le_refl _) q (.int .i64 (sq + 1)))
          have hxz : ((wr.alloc (.cells (tgC t).toArray 51)).setCell ⟨w2.heap.size, q, none⟩ (.int .i64 (sq + 1))).heap[wr.heap.size]? = some (.cells (tgC t).toArray 51 (0, 0)) := (Below.heap_setCell _ _ _ _ (by have := block_lt hsnc.out; intro e; simp only at e; omega)).trans hx
          have hgw : g < w2.heap.size := hg1
          clear hsq hsz hx belz
          go_wp2
          generalize hWZ : (wr.alloc (.cells (tgC t).toArray 51)).setCell ⟨w2.heap.size, q, none⟩ (.int .i64 (sq + 1)) = wz at *
          have HW : Hid (∀ W : World, Calls Tryz.prog 44 #[tgV t] W fun e w' => e = .returned (.int .i64 (widT t)) ∧ Below W.heap.size W w') := Lib.hid fun W => width_t t W
          have y1 : (t.un != a.un) = false := by simp [t1]
          have y2 : (t.ki != a.ki) = false := by simp [t3]
          have y3 : (t.ev != a.ev) = false := by simp [t2]
          have y4 : decide (t.ad < a.ad) = false := decide_eq_false (by omega)
          have y5 : IntKind.i64.wrap (t.ad + widT t) = t.ad + widT t := by rw [IntKind.wrap_i64]; omega
          have y6 : IntKind.i64.wrap (a.ad + a.ct) = a.ad + a.ct := by rw [IntKind.wrap_i64]; omega
          have y7 : decide (t.ad + widT t > a.ad + a.ct) = false := decide_eq_false (by omega)
          have y8 : decide (a.ad + a.ct < t.ad + widT t) = false := decide_eq_false (by omega)
          generalize widT t = wd at *
          have HPZ : Hid (∀ W : World, Below wz.heap.size wz W → (Below wz.heap.size wz W ∧ (W.cell? ⟨wr.heap.size, 1, none⟩ = some (.int .i64 t.un) ∧ W.cell? ⟨wr.heap.size, 2, none⟩ = some (.int .i64 t.ki) ∧ W.cell? ⟨wr.heap.size, 3, none⟩ = some (.int .i64 t.ad) ∧ W.cell? ⟨wr.heap.size, 4, none⟩ = some (.int .i64 t.ev)) ∧ (ldTag (.pointer (some ⟨wr.heap.size, 0, none⟩))).run Tryz.prog W = .ok (tgV t) W ∧ (W.cell? ⟨g, k * 6, none⟩ = some (.int .i64 a.un) ∧ W.cell? ⟨g, k * 6 + 1, none⟩ = some (.int .i64 a.ki) ∧ W.cell? ⟨g, k * 6 + 2, none⟩ = some (.int .i64 a.ad) ∧ W.cell? ⟨g, k * 6 + 3, none⟩ = some (.int .i64 a.ct) ∧ W.cell? ⟨g, k * 6 + 4, none⟩ = some (.int .i64 a.ev) ∧ W.cell? ⟨g, k * 6 + 5, none⟩ = some (.slice (some ⟨bt, ot, none⟩) tl ca)))) := Lib.hid fun W hb => ⟨hb, (tgBox (keepB hb hxz)).2, tgBox_ld (keepB hb hxz), HPQ.out W (belz2.out.trans (hb.mono belz2.out.size))⟩
          have belh : ∀ W : World, (Below wz.heap.size wz W ∧ (W.cell? ⟨wr.heap.size, 1, none⟩ = some (.int .i64 t.un) ∧ W.cell? ⟨wr.heap.size, 2, none⟩ = some (.int .i64 t.ki) ∧ W.cell? ⟨wr.heap.size, 3, none⟩ = some (.int .i64 t.ad) ∧ W.cell? ⟨wr.heap.size, 4, none⟩ = some (.int .i64 t.ev)) ∧ (ldTag (.pointer (some ⟨wr.heap.size, 0, none⟩))).run Tryz.prog W = .ok (tgV t) W ∧ (W.cell? ⟨g, k * 6, none⟩ = some (.int .i64 a.un) ∧ W.cell? ⟨g, k * 6 + 1, none⟩ = some (.int .i64 a.ki) ∧ W.cell? ⟨g, k * 6 + 2, none⟩ = some (.int .i64 a.ad) ∧ W.cell? ⟨g, k * 6 + 3, none⟩ = some (.int .i64 a.ct) ∧ W.cell? ⟨g, k * 6 + 4, none⟩ = some (.int .i64 a.ev) ∧ W.cell? ⟨g, k * 6 + 5, none⟩ = some (.slice (some ⟨bt, ot, none⟩) tl ca))) → Below wz.heap.size wz W := fun W h => h.1
          clear a0 a1 a2 a3 a4 a5 hst hcs hfz t1 t2 t3 t4 t5 hld0
          go_region_held3 (fun W => Below wz.heap.size wz W ∧ (W.cell? ⟨wr.heap.size, 1, none⟩ = some (.int .i64 t.un) ∧ W.cell? ⟨wr.heap.size, 2, none⟩ = some (.int .i64 t.ki) ∧ W.cell? ⟨wr.heap.size, 3, none⟩ = some (.int .i64 t.ad) ∧ W.cell? ⟨wr.heap.size, 4, none⟩ = some (.int .i64 t.ev)) ∧ (ldTag (.pointer (some ⟨wr.heap.size, 0, none⟩))).run Tryz.prog W = .ok (tgV t) W ∧ (W.cell? ⟨g, k * 6, none⟩ = some (.int .i64 a.un) ∧ W.cell? ⟨g, k * 6 + 1, none⟩ = some (.int .i64 a.ki) ∧ W.cell? ⟨g, k * 6 + 2, none⟩ = some (.int .i64 a.ad) ∧ W.cell? ⟨g, k * 6 + 3, none⟩ = some (.int .i64 a.ct) ∧ W.cell? ⟨g, k * 6 + 4, none⟩ = some (.int .i64 a.ev) ∧ W.cell? ⟨g, k * 6 + 5, none⟩ = some (.slice (some ⟨bt, ot, none⟩) tl ca)))
            ((refine HPZ.out _ ?_
              repeat' (first
                | with_reducible exact Below.refl _ _
                | with_reducible exact bel5
                | with_reducible exact belh _ (by assumption)
                | with_reducible apply below_drew
                | with_reducible apply below_drewN
                | fail)))
            (first
              | (go_at_call 44; have bh := belh _ (by assumption); refine (HW.out _).mono ?_; rintro e w5 ⟨rfl, b5⟩; have bel5 : Below wz.heap.size wz w5 := Below.trans bh (b5.mono bh.size))
              | fail)
          have bel9 := Lib.hid (belz2.out.trans (bel5.mono belz2.out.size))
          have hsn9 := Lib.hid (keepB bel5 hset)
          clear HPZ belh bel5 b5 hset hxz
          go_wp2
          go_roundw
          case rel => exact ⟨j + 1, by omega, by go_num, hsn9, bel9⟩
          case measure => simp [intOf]; omega
        · obtain rfl : j = tl := by omega
          have hsn8 : Hid (wr.heap[w2.heap.size]? = some (.cells (blk .i64 (seenC n ((P.take (k + 1)).flatMap Pol.tg))) 3 (0, 0))) := Lib.hid (by rw [← upto_end HPA.out HTL.out.symm]; exact hsnc.out)
          go_wp2
          go_roundw
          case rel => exact ⟨k + 1, by omega, by go_num, hsn8, hbelc⟩
          case measure => simp [intOf]; omega
    · obtain rfl : k = np := by omega
      have hfl : Hid (wr.heap[w2.heap.size]? = some (.cells (blk .i64 (seenC n (intL (ordT l)))) 3 (0, 0))) := Lib.hid (by
        have h := hsn.out
        rw [List.take_of_length_le (by have := hnp'.out; omega), HINV.out.flat] at h
        exact h)
      have BELW := Lib.hid (BEL2.out.trans (hbel.out.mono BEL2.out.size))
      have HONE : Hid (∀ j, j < n → nth (seenC n (intL (ordT l))) j = 1) := Lib.hid (fun j hj => seenC_one hn'.out hj)
      have HLS : Hid ((seenC n (intL (ordT l))).length = n) := Lib.hid (seenC_len _ _)
      clear hsn hbel
      generalize seenC n (intL (ordT l)) = sn at *
      generalize hwx : wr = wx at *
      clear hwx
      go_wp2
      go_loopw [14] (fun i wr => ∃ j : Nat, j ≤ n ∧ i = .int .i64 j ∧ wr = wx) (fun i _ => n - (intOf i).toNat)
      case atStart => exact ⟨0, by omega, rfl, rfl⟩
      case round =>
        obtain ⟨j, hj, rfl, rfl⟩ := hrel
        by_cases hjt : j < n
        · have hcl : wr.cell? ⟨w2.heap.size, j, none⟩ = some (.int .i64 1) := by
            rw [cell_of_row _ _ j _ _ _ hfl.out, blk_get _ _ _ (by rw [HLS.out]; exact hjt), HONE.out j hjt]
          have m1 : (j : Int) < (n : Int) := by omega
          have m2 : (0 : Int) ≤ (j : Int) := by omega
          have m3 : IntKind.i64.wrap ((j : Int) + 1) = (j : Int) + 1 := by rw [IntKind.wrap_i64]; omega
          go_wp2
          go_roundw
          case rel => exact ⟨j + 1, by omega, by go_num, by first | rfl | trivial⟩
          case measure => simp [intOf]; omega
        · obtain rfl : j = n := by omega
          go_wp2_with fail
          refine (works10_yes _).mono ?_
          rintro e w9 ⟨rfl, b9⟩
          have bel9 := BELW.out.trans (b9.mono BELW.out.size)
          go_wp2
          go_ret
          exact ⟨rfl, bel9⟩
end Go.Proofs.YtcmbdhmhkfhjfaaGreat
namespace Go.Proofs.YtcmbdhmhkfhjfaaGreat
open Go.RowKit
set_option linter.unusedVariables false

theorem Only.owns {k : IntKind} {e : TypeId} {w w' : World} {S : Nat → Prop} {base : Nat} {v : Value} {xs : List Int} (h : Only w w' S) (hk : Own k e w base v xs) (hS : ∀ b, S b → b < base) : Own k e w' base v xs := by
  refine ⟨hk.1, ?_⟩
  rcases hk.2 with h0 | ⟨g, cap, cur, hv, hb, hg, r⟩
  · exact .inl h0
  · exact .inr ⟨g, cap, cur, hv, hb, (h.block g (block_lt hg) (fun hs => by have := hS g hs; omega)).trans hg, r⟩
theorem Only.ownsL {e : TypeId} {w w' : World} {S : Nat → Prop} {base : Nat} {v : Value} {xs : List Bool} (h : Only w w' S) (hk : L.Own () e w base v xs) (hS : ∀ b, S b → b < base) : L.Own () e w' base v xs := by
  refine ⟨hk.1, ?_⟩
  rcases hk.2 with h0 | ⟨g, cap, cur, hv, hb, hg, r⟩
  · exact .inl h0
  · exact .inr ⟨g, cap, cur, hv, hb, (h.block g (block_lt hg) (fun hs => by have := hS g hs; omega)).trans hg, r⟩
theorem Only.wown {w w' : World} {S : Nat → Prop} {base : Nat} {v : Value} {fs : List (List Int)} (h : Only w w' S) (hk : WOwn w base v fs) (hS : ∀ b, S b → b < base) : WOwn w' base v fs := by
  obtain ⟨L, h1, h2, h3⟩ := hk
  refine ⟨L, h1, ⟨h2.1, ?_⟩, fun p hp => h.owns (h3 p hp) hS⟩
  rcases h2.2 with h0 | ⟨g, cap, cur, hv, hb, hg, r⟩
  · exact .inl h0
  · exact .inr ⟨g, cap, cur, hv, hb, (h.block g (block_lt hg) (fun hs => by have := hS g hs; omega)).trans hg, r⟩
set_option maxHeartbeats 4000000 in
set_option maxRecDepth 100000 in
theorem CopyReply_caps (r : Rep) (Bo Bs Bf : Option Addr) (mo ms mf eo es ef : Nat) (w : World) (hr : Repd w w.heap.size r Bo Bs Bf mo ms mf) (b1 : mo ≤ 70000) (b2 : ms ≤ 70000) (b3 : mf ≤ 1000) (b4 : ∀ i, i < mf → (nthF r.fs i).length ≤ 70368744175616) :
    Calls Tryz.prog 9 #[.agg #[.int .i64 r.x, .slice Bo mo eo, .slice Bs ms es, .slice Bf mf ef]] w
      fun e w' => ∃ Co Cs Cf ko ks kf, e = .returned (.agg #[.int .i64 r.x, .slice Co mo ko, .slice Cs ms ks, .slice Cf mf kf]) ∧ Repd w' w'.heap.size r Co Cs Cf mo ms mf ∧ Below w.heap.size w w' ∧ ms ≤ ks ∧ ks ≤ maxLen ∧ (∀ (w2 : World) (S : Nat → Prop), Only w' w2 S → (∀ b, S b → b < w.heap.size) → Repd w2 w2.heap.size r Co Cs Cf mo ms mf) := by
  have HR := Lib.hid hr
  have HWF := Lib.hid hr.fs.wf
  have HMF := Lib.hid hr.mf
  have HL4 := Lib.hid b4
  have t0 := TB.new w #[.int .i64 r.x, .slice Bo mo eo, .slice Bs ms es, .slice Bf mf ef] #[.int .i64 0, .slice none 0 0, .slice none 0 0, .slice none 0 0] 30
  clear hr b4
  go_enter Tryz.func9, Tryz.ntmps9
  go_wp2_with fail
  refine (L.copy_bool _ _ _ r.on _ ((HR.out.on.below t0.bel).more t0.bel.size) HR.out.mo (by omega)).mono ?_
  rintro e w1 ⟨vo, rfl, own1, b⟩
  obtain ⟨A1, c1, rfl, _, _, _⟩ := own1.row (fun _ _ => rfl)
  rw [HR.out.mo] at own1 ⊢
  have t1 := t0.below b
  have own1 := own1.mono (base' := w.heap.size + 2) (by have := t0.lt; omega)
  clear t0 b
  obtain ⟨d0, d1, d2, d3, d4⟩ := t1.r4
  have t2 := t1.set1 1 (.slice A1 mo c1)
  have own2 := Lib.hid (own1.set (g := w.heap.size) (by omega) 1 (.slice A1 mo c1))
  clear own1 t1
  go_wp2_with fail
  clear d0 d1 d2 d3 d4
  generalize w1.setCell ⟨w.heap.size, 1, none⟩ (.slice A1 mo c1) = w2 at *
  refine (W.copy_u16 _ _ _ r.set _ ((HR.out.set.below t2.bel).more t2.bel.size) HR.out.ms (by omega)).mono ?_
  rintro e w3 ⟨vs, rfl, own3, b⟩
  obtain ⟨A3, c3, rfl, _, hc3a, hc3b⟩ := own3.row HR.out.set.1
  rw [HR.out.ms] at hc3a
  have HC3 := Lib.hid (And.intro hc3a hc3b)
  clear hc3a hc3b
  rw [HR.out.ms] at own3 ⊢
  have t3 := t2.below b
  have own4 := own2.out.below b (Nat.le_refl _)
  have own3 := own3.mono (base' := w.heap.size + 2) (by have := t2.lt; omega)
  clear own2 t2 b
  obtain ⟨d0, d1, d2, d3, d4⟩ := t3.r4
  have t4 := t3.set1 2 (.slice A3 ms c3)
  have own5 := own3.set (g := w.heap.size) (by omega) 2 (.slice A3 ms c3)
  have own6 := own4.set (g := w.heap.size) (by omega) 2 (.slice A3 ms c3)
  clear own3 own4 t3
  go_wp2_with fail
  clear d0 d1 d2 d3 d4
  generalize w3.setCell ⟨w.heap.size, 2, none⟩ (.slice A3 ms c3) = w4 at *
  go_loopw [3, 4] (fun v i wr => ∃ k : Nat, k ≤ mf ∧ i = .int .i64 k ∧ WOwn wr (w.heap.size + 2) v (r.fs.take k) ∧ Hid (L.Own () 4 wr (w.heap.size + 2) (.slice A1 mo c1) r.on ∧ Own .u16 58 wr (w.heap.size + 2) (.slice A3 ms c3) r.set) ∧ TB w w.heap.size (.cells #[.int .i64 r.x, .slice A1 mo c1, .slice A3 ms c3, .slice Bf mf ef] 30 (0, 0)) (.cells #[.int .i64 0, .slice none 0 0, .slice none 0 0, .slice none 0 0] 30 (0, 0)) wr) (fun _ i _ => mf - (intOf i).toNat)
  case atStart => exact ⟨0, by omega, rfl, WOwn.nil _ _, Lib.hid ⟨own6, own5⟩, t4⟩
  case round =>
    clear own5 own6 t4
    obtain ⟨k, hk, rfl, fown, two, t5⟩ := hrel
    obtain ⟨d0, d1, d2, d3, d4⟩ := t5.r4
    have hlt5 := t5.lt
    by_cases hlt : k < mf
    · obtain ⟨b, o, Ai, ci, rfl, hb1, hc0, rw0, hle⟩ := HR.out.fs.at_ (i := k) (by rw [HMF.out]; exact hlt)
      have hc1 := (t5.bel.cell (p := ⟨b, o + k, none⟩) hb1).trans hc0
      have hlen := HL4.out k hlt
      have HT := Lib.hid (takeF_step r.fs k (by rw [HMF.out]; exact hlt))
      have HTL : Hid ((r.fs.take k).length = k) := Lib.hid (by rw [List.length_take, HMF.out]; omega)
      have hwx := Lib.hid rw0.1
      generalize nthF r.fs k = xs at *
      obtain ⟨z, hz⟩ : ∃ z, Hid (xs.length = z) := ⟨_, Lib.hid rfl⟩
      rw [hz.out] at hc1 hlen hle
      have R0 := Lib.hid ((rw0.below t5.bel).more t5.bel.size)
      have hklt : (k : Int) < (mf : Int) := by omega
      clear hc0 rw0
      go_wp2_with fail
      refine (W.copy_u16 _ _ _ xs _ R0.out hz.out (by omega)).mono ?_
      rintro e w5 ⟨vx, rfl, ownx, b5⟩
      obtain ⟨Ax, cx, rfl, _, _, _⟩ := ownx.row hwx.out
      rw [hz.out] at ownx ⊢
      have t6 := t5.below b5
      have fown6 := fown.below b5 (Nat.le_refl _)
      have o1 := two.out.1.below b5 (Nat.le_refl _)
      have o2 := two.out.2.below b5 (Nat.le_refl _)
      have ownx := ownx.mono (base' := w.heap.size + 2) (by omega)
      have hlt6 := t6.lt
      clear t5 b5 fown two d0 d1 d2 d3 d4 hc1
      have bA := bel_alloc w5 (.cells #[.slice Ax z cx] 27)
      have t7 := t6.below bA
      have fown7 := fown6.below bA (Nat.le_refl _)
      have ownx7 := ownx.below bA (Nat.le_refl _)
      have o17 := Lib.hid (o1.below bA (Nat.le_refl _))
      have o27 := Lib.hid (o2.below bA (Nat.le_refl _))
      obtain ⟨Av, cv, hv, _⟩ := fown7.len
      rw [HTL.out] at hv
      subst hv
      have HNEWS := Lib.hid (box_words w5 27 (.slice Ax z cx))
      clear t6 fown6 ownx o1 o2 bA
      go_wp2_with (at_builtin; refine wpList_append_words _ rfl (.tmp 20) (.tmp 27) 28 rfl (w.heap.size + 2) Tryz.underlying28 info_words (.slice Av k cv) (r.fs.take k) rfl fown7 ⟨w5.heap.size, 0, none⟩ 1 xs Ax z cx rfl ownx7 HNEWS.out (by rw [HTL.out]; omega) (by simp; omega) ?_; intro v8 w8 fown8 hg8)
      have t8 := t7.grown hg8 (fun g e => (fown7.block g e).1)
      have far1 : L.Own () 4 w8 (w.heap.size + 2) (.slice A1 mo c1) r.on := o17.out.kept hg8 (farB o17.out fown7)
      have far2 : Own .u16 58 w8 (w.heap.size + 2) (.slice A3 ms c3) r.set := o27.out.keep hg8 (farW o27.out fown7)
      have two8 := Lib.hid (And.intro far1 far2)
      rw [← HT.out] at fown8
      clear t7 fown7 ownx7 o17 o27 far1 far2 hg8
      go_wp2
      go_roundw
      case rel => exact ⟨k + 1, by omega, by go_num, fown8, two8, t8⟩
      case measure => simp [intOf]; omega
    · obtain rfl : k = mf := by omega
      have hx : r.fs.take k = r.fs := List.take_of_length_le (by rw [HMF.out]; omega)
      rw [hx] at fown
      clear hx
      obtain ⟨Av, cv, hv, _⟩ := fown.len
      rw [HMF.out] at hv
      subst hv
      have t6 := t5.set1 3 (.slice Av k cv)
      have fown6 := fown.set (g := w.heap.size) (by omega) 3 (.slice Av k cv)
      have o1 := two.out.1.set (g := w.heap.size) (by omega) 3 (.slice Av k cv)
      have o2 := two.out.2.set (g := w.heap.size) (by omega) 3 (.slice Av k cv)
      obtain ⟨k0, k1, k2, k3, k4⟩ := t5.c4
      have P5 := Lib.hid (t6.put4 (.int .i64 r.x) (.slice A1 mo c1) (.slice A3 ms c3) (.slice Av k cv))
      have F5 := Lib.hid (fown6.put4 (g := w.heap.size + 1) (by omega) (.int .i64 r.x) (.slice A1 mo c1) (.slice A3 ms c3) (.slice Av k cv))
      have F1 := Lib.hid (o1.put4 (g := w.heap.size + 1) (by omega) (.int .i64 r.x) (.slice A1 mo c1) (.slice A3 ms c3) (.slice Av k cv))
      have F2 := Lib.hid (o2.put4 (g := w.heap.size + 1) (by omega) (.int .i64 r.x) (.slice A1 mo c1) (.slice A3 ms c3) (.slice Av k cv))
      clear t5 t6 fown fown6 two o1 o2
      go_wp2

      (try simp only [Exit.inBlock, Exit.then])
      show bodyPost _ _ _ _ _ (put4 (wr.setCell ⟨w.heap.size, 3, none⟩ (.slice Av k cv)) (w.heap.size + 1) (.int .i64 r.x) (.slice A1 mo c1) (.slice A3 ms c3) (.slice Av k cv))
      generalize put4 (wr.setCell ⟨w.heap.size, 3, none⟩ (.slice Av k cv)) (w.heap.size + 1) (.int .i64 r.x) (.slice A1 mo c1) (.slice A3 ms c3) (.slice Av k cv) = w6 at *
      clear d0 d1 d2 d3 d4 k0 k1 k2 k3 k4
      have c0 := cell_of_row w6 (w.heap.size + 1) 0 _ _ _ P5.out.1
      have c1' := cell_of_row w6 (w.heap.size + 1) 1 _ _ _ P5.out.1
      have c2 := cell_of_row w6 (w.heap.size + 1) 2 _ _ _ P5.out.1
      have c3' := cell_of_row w6 (w.heap.size + 1) 3 _ _ _ P5.out.1
      refine bodyPost_ret (v := .agg #[.int .i64 r.x, .slice A1 mo c1, .slice A3 ms c3, .slice Av k cv]) (by simp [results, Tryz.results9, go_sem, *]) rfl ?_
      refine ⟨A1, A3, Av, c1, c3, cv, rfl, ⟨?_, ?_, F5.out.frow HWF.out, HR.out.mo, HR.out.ms, HMF.out⟩, P5.out.2, HC3.out.1, HC3.out.2, fun w2 S hO hS => ⟨?_, ?_, (hO.wown F5.out (fun b hb => by have := hS b hb; omega)).frow HWF.out, HR.out.mo, HR.out.ms, HMF.out⟩⟩
      · obtain ⟨A, n, c, e, hrow, _⟩ := F1.out.view3
        injection e with e1 e2 e3
        subst e1
        exact hrow
      · obtain ⟨A, n, c, e, hrow, _⟩ := F2.out.view3 HR.out.set.1
        injection e with e1 e2 e3
        subst e1
        exact hrow
      · obtain ⟨A, n, c, e, hrow, _⟩ := (hO.ownsL F1.out (fun b hb => by have := hS b hb; omega)).view3
        injection e with e1 e2 e3
        subst e1
        exact hrow
      · obtain ⟨A, n, c, e, hrow, _⟩ := (hO.owns F2.out (fun b hb => by have := hS b hb; omega)).view3 HR.out.set.1
        injection e with e1 e2 e3
        subst e1
        exact hrow
end Go.Proofs.YtcmbdhmhkfhjfaaGreat
namespace Go.Proofs.YtcmbdhmhkfhjfaaGreat.I
open Go.RowKit
set_option linter.unusedVariables false

set_option maxHeartbeats 1000000 in
theorem apartX_i64 (gl m B : Nat) (A : Nat → Option Addr) (n c : Nat → Nat) (p l0 r : Nat → List Int) (w : World) (hP : PartsK w B gl m A n c p l0 r) (hB : B ≤ w.heap.size) (hm : m ≤ 1000) (S : Nat → Prop) (hS : ∀ k, k < m → ∀ g o, A k = some ⟨g, o, none⟩ → S g) :
    Calls Tryz.prog 13 #[.slice (some ⟨gl, 0, none⟩) m m] w fun e w' => e = .returned (.bool true) ∧ Only w w' S := by
  go_enter Tryz.func13, Tryz.ntmps13
  go_wp2
  go_loopw [3, 4, 5] (fun i _ _ wr => ∃ (j : Nat) (l : Nat → List Int), j ≤ m ∧ i = .int .i64 j ∧ PartsK wr B gl m A n c p l r ∧ Only w wr S) (fun i _ _ _ => m - (intOf i).toNat)
  case atStart => exact ⟨0, l0, by omega, rfl, hP, Only.refl _ _⟩
  case round =>
    obtain ⟨i, l1, hi, rfl, hP1, hb1⟩ := hrel
    by_cases hlt : i < m
    · go_wp2
      obtain ⟨wo, hwo⟩ : ∃ wo : World, wo = wr := ⟨_, rfl⟩
      subst hwo
      go_loopw [4, 5] (fun k _ wr => ∃ (j : Nat) (l : Nat → List Int), j ≤ m ∧ k = .int .i64 j ∧ PartsK wr B gl m A n c p l r ∧ Only w wr S) (fun k _ _ => m - (intOf k).toNat)
      case atStart => exact ⟨0, l1, by omega, rfl, hP1, hb1⟩
      case round =>
        obtain ⟨k, l, hk, rfl, hP2, hb2⟩ := hrel
        by_cases hlk : k < m
        · by_cases hik : i = k
          · subst hik
            go_wp2
            go_roundw
            case rel => exact ⟨i + 1, l, by omega, by go_num, hP2, hb2⟩
            case measure => simp [intOf]; omega
          · have ht : ((i : Int) == (k : Int)) = false := by simp; omega
            have hck := hP2.at_ k hlk
            have hci := hP2.at_ i hlt
            obtain ⟨hrow, hrl⟩ := hP2.row hlk
            have hrl' := Lib.hid hrl
            clear hrl
            have hsk := hP2.size k hlk
            go_wp2_with fail
            refine (copy_i64 _ _ _ _ _ hrow hrl'.out (by omega)).mono ?_
            rintro e w1 ⟨v1, rfl, own1, bel1⟩
            have hP3 := hP2.below bel1
            have hb3 : Only w w1 S := hb2.below bel1
            have hck1 := hP3.at_ k hlk
            have hci1 := hP3.at_ i hlt
            have hwf := hrow.1
            rcases hP3.lies i hlt with ⟨hA, hN, hC⟩ | ⟨g, hA, hBg, hgl, hg⟩
            · rw [hA, hN, hC] at hci1
              clear hA hN hC hck hci hrow
              obtain ⟨A1, c1, rfl, row1, _, _⟩ := own1.row hwf
              rw [hrl'.out]
              obtain ⟨hrow3, hrl3⟩ := hP3.row hlk
              have hrl3' := Lib.hid hrl3
              clear hrl3
              go_wp2_with fail
              refine (spoil_nil _).mono ?_
              rintro e w' ⟨rfl, rfl⟩
              go_wp2_with fail
              refine (same_yes_i64 _ _ _ _ _ _ _ _ _ row1 hrow3 hrl3'.out (by omega)).mono ?_
              rintro e w' ⟨rfl, mq, rfl⟩
              have hP4 := hP3.below (w' := w1.drewN mq) ⟨rfl, rfl, rfl, Nat.le_refl _, fun _ _ => rfl⟩
              have hb4 : Only w (w1.drewN mq) S := hb3.below ⟨rfl, rfl, rfl, Nat.le_refl _, fun _ _ => rfl⟩
              go_wp2
              go_roundw
              case rel => exact ⟨k + 1, l, by omega, by go_num, hP4, hb4⟩
              case measure => simp [intOf]; omega
            · have hsi := hP3.size i hlt
              have hglt : g < wr.heap.size := by
                rcases hP2.lies i hlt with ⟨h0, _⟩ | ⟨g', hA', _, _, hg'⟩
                · rw [hA] at h0; cases h0
                · rw [hA] at hA'
                  injection hA' with hA'
                  injection hA' with hA'
                  rw [hA']
                  exact block_lt hg'
              rw [hA] at hci1
              clear hck hci hrow
              have hsi3 := Lib.hid hsi.2.2
              go_wp2_with fail
              refine (spoilK_i64 g _ _ _ (p i) (l i) (r i) _ hg rfl hsi3.out hsi.1 hsi.2.1.1).mono ?_
              rintro e w2 ⟨rfl, hg2, hgr2, hsz2⟩
              have hP4 := hP3.spoil hlt hA hg2 hgr2
              have hb4 : Only w w2 S := hb3.grown hgr2 (fun _ h => h) (fun q e => by injection e with e; subst e; exact hS i hlt _ _ hA)
              have own2 := own1.kept hgr2 (by
                cases hv : v1.ownBlock with
                | none => exact .inl rfl
                | some q =>
                  refine .inr fun e => ?_
                  have h1 := (own1.block q hv).1
                  injection e with e
                  omega)
              have hck2 := hP4.at_ k hlk
              obtain ⟨hrow4, hrl4⟩ := hP4.row hlk
              simp only [if_neg (show ¬ k = i by omega)] at hrow4 hrl4
              have hrl4' := Lib.hid hrl4
              obtain ⟨A1, c1, rfl, row1, _, _⟩ := own2.row hwf
              rw [hrl'.out]
              clear hsz2 hrl4 hck1 hci1 hgr2 hg2 hg hA
              go_wp2_with fail
              refine (same_yes_i64 _ _ _ _ _ _ _ _ _ row1 hrow4 hrl4'.out (by omega)).mono ?_
              rintro e w' ⟨rfl, mq, rfl⟩
              have hP5 := hP4.below (w' := w2.drewN mq) ⟨rfl, rfl, rfl, Nat.le_refl _, fun _ _ => rfl⟩
              have hb5 : Only w (w2.drewN mq) S := hb4.below ⟨rfl, rfl, rfl, Nat.le_refl _, fun _ _ => rfl⟩
              go_wp2
              go_roundw
              case rel => exact ⟨k + 1, _, by omega, by go_num, hP5, hb5⟩
              case measure => simp [intOf]; omega
        · go_wp2
          go_roundw
          case rel => exact ⟨i + 1, l, by omega, by go_num, hP2, hb2⟩
          case measure => simp [intOf]; omega
    · go_wp2
      go_ret
      exact ⟨rfl, hb1⟩

theorem apartX_list_i64 (w : World) (B : Nat) (L : List EntK) (t : TypeId) (hok : ∀ e ∈ L, e.Ok w B) (hfar : L.Pairwise EntK.Far) (hB : B ≤ w.heap.size) (hm : L.length ≤ 1000) :
    Calls Tryz.prog 13 #[.slice (some ⟨w.heap.size, 0, none⟩) L.length L.length] (w.alloc (.cells (L.map EntK.val).toArray t)) fun e w' => e = .returned (.bool true) ∧ Only w w' (fun b => ∃ e ∈ L, e.a = some b) := by
  refine (apartX_i64 _ _ B _ _ _ _ _ _ _ (partsK_of_list w B L t hok hfar) (by simp; omega) hm (fun b => ∃ e ∈ L, e.a = some b) (fun k hk g o h => ?_)).mono fun _ _ ⟨he, hb⟩ => ⟨he, ?_⟩
  · simp only [List.getD_eq_getElem?_getD, List.getElem?_eq_getElem hk, Option.getD_some] at h
    exact ⟨_, List.getElem_mem hk, EntK.adr_some h⟩
  · have h0 : Only w (w.alloc (.cells (L.map EntK.val).toArray t)) (fun b => ∃ e ∈ L, e.a = some b) := (Only.refl w _).below (bel_alloc w _)
    exact ⟨hb.os.trans h0.os, hb.tape.trans h0.tape, hb.output.trans h0.output, Nat.le_trans h0.size hb.size, fun b hlt hS => (hb.block b (by simp; omega) hS).trans (h0.block b hlt hS)⟩
end Go.Proofs.YtcmbdhmhkfhjfaaGreat.I
